package view_test

import (
	"math"
	"slices"
	"testing"

	"limekiln/api"
	"limekiln/bits"
	"limekiln/hash"
	"limekiln/layout"
	"limekiln/model"
	"limekiln/view"
)

// node is a slot on a way, with what it has, and the thread that took it away, or none.
type node struct {
	slot     int
	key, val uint64
	by       int
}

// of is the layout of a config.
func of(t *testing.T, c api.Config) *layout.Layout {
	t.Helper()
	l, e := layout.Of(c)
	if e != api.OK {
		t.Fatalf("layout.Of(%+v): %v", c, e)
	}
	return l
}

// empty are the words of a store that holds nothing.
func empty(l *layout.Layout) []uint64 {
	words := make([]uint64, l.Lines()*api.LineWords)
	words[l.Head()] = bits.Link(0, api.None)
	return words
}

// lay lays a way, clean.
func lay(l *layout.Layout, words []uint64, head int, nodes ...node) {
	at, by := head, api.None
	for _, n := range nodes {
		words[at] = bits.Link(n.slot, by)
		words[l.Key(n.slot)], words[l.Val(n.slot)] = n.key, n.val
		at, by = l.Next(n.slot), n.by
	}
	words[at] = bits.Link(api.None, by)
}

// of9 is a layout, and the words of a store of it: the queue has the slots 7, 1 (both taken away), 4, 0 and 8, the set 5, 2 (taken away) and 3, the bucket of the keys 10 and 40 the slots 6 and 9, of which the latter was taken away.
func of9(t *testing.T) (*layout.Layout, []uint64, int) {
	t.Helper()
	l := of(t, api.Config{Threads: 3, Slots: 12, Logs: 2, Buckets: 3})
	words := empty(l)
	lay(l, words, l.Head(), node{7, 0, 0, 2}, node{1, 0, 91, 0}, node{4, 0, 92, api.None}, node{0, 0, 93, api.None}, node{8, 0, 94, api.None})
	lay(l, words, l.Set(), node{5, 20, 1, api.None}, node{2, 21, 2, 1}, node{3, 30, 3, api.None})
	bucket := hash.Bucket(10, 3)
	lay(l, words, l.Bucket(bucket), node{6, 10, 61, api.None}, node{9, uint64(keyOf(bucket, 3, 11)), 62, 2})
	return l, words, bucket
}

// keyOf is the least key of a bucket from a key on.
func keyOf(bucket, many int, key uint32) uint32 {
	for hash.Bucket(key, many) != bucket {
		key++
	}
	return key
}

// is fails if words are not a store's of these places, that holds this.
func is(t *testing.T, name string, l *layout.Layout, words []uint64, places []view.Place, held api.State) {
	t.Helper()
	p, e := view.Places(l, words)
	if e != api.OK || !slices.Equal(p, places) {
		t.Errorf("%s: Places = %v, %v, want %v", name, p, e, places)
	}
	s, e := view.State(l, words)
	if e != api.OK || !model.Same(s, held) {
		t.Errorf("%s: State = %+v, %v, want %+v", name, s, e, held)
	}
	if !view.Right(l, words) {
		t.Errorf("%s: not Right", name)
	}
}

// isNot fails if words are not refused by this error.
func isNot(t *testing.T, name string, l *layout.Layout, words []uint64, want api.Errno) {
	t.Helper()
	if p, e := view.Places(l, words); e != want || len(p) != 0 {
		t.Errorf("%s: Places = %v, %v, want %v", name, p, e, want)
	}
	if s, e := view.State(l, words); e != want || !model.Same(s, api.State{}) {
		t.Errorf("%s: State = %+v, %v, want %v", name, s, e, want)
	}
	if view.Right(l, words) {
		t.Errorf("%s: Right", name)
	}
}

// put is a word that is put somewhere.
type put struct {
	name string
	at   int
	w    uint64
}

// with are words, but for one.
func with(words []uint64, x put) []uint64 {
	words = slices.Clone(words)
	words[x.at] = x.w
	return words
}

func TestEmptyStore(t *testing.T) { // 19.1, 19.2
	for _, c := range []api.Config{{Threads: 1, Slots: 1, Logs: 1, Buckets: 1}, {Threads: 64, Slots: 65536, Logs: 64, Buckets: 64}} {
		l := of(t, c)
		is(t, "empty", l, empty(l), []view.Place{{Slot: 0, List: 0, Live: true}}, api.State{})
	}
}

func TestPlacesInOrder(t *testing.T) { // 19.1, 19.2
	l, words, bucket := of9(t)
	is(t, "of nine", l, words, []view.Place{
		{7, 0, false}, {1, 0, false}, {4, 0, true}, {0, 0, true}, {8, 0, true},
		{5, 1, true}, {2, 1, false}, {3, 1, true},
		{6, 2 + bucket, true}, {9, 2 + bucket, false},
	}, api.State{Queue: []uint32{93, 94}, Set: []uint32{20, 30}, Map: []api.Pair{{Key: 10, Val: 61}}})
}

func TestPairsRise(t *testing.T) { // 19.2
	const buckets, slots = 5, 21
	l := of(t, api.Config{Threads: 1, Slots: slots, Logs: 1, Buckets: buckets})
	words := empty(l)
	ways := make([][]node, buckets)
	var want []api.Pair
	places := []view.Place{{Slot: 0, List: 0, Live: true}}
	for slot := 1; slot < slots; slot++ {
		key := uint32(slot * 1000)
		b := hash.Bucket(key, buckets)
		ways[b] = append(ways[b], node{slot, uint64(key), uint64(slot), api.None})
		want = append(want, api.Pair{Key: key, Val: uint32(slot)})
	}
	for b, way := range ways {
		lay(l, words, l.Bucket(b), way...)
		for _, n := range way {
			places = append(places, view.Place{Slot: n.slot, List: 2 + b, Live: true})
		}
	}
	is(t, "buckets", l, words, places, api.State{Map: want})
}

func TestArguments(t *testing.T) { // 19.1, 19.2
	l, words, _ := of9(t)
	bad := with(words, put{"", l.Head(), 0})
	isNot(t, "no layout", nil, words, api.ErrArg)
	isNot(t, "neither", nil, nil, api.ErrArg)
	isNot(t, "a layout of noughts", new(layout.Layout), nil, api.ErrArg)
	isNot(t, "a layout of noughts", new(layout.Layout), words, api.ErrArg)
	isNot(t, "no words", l, nil, api.ErrForm)
	isNot(t, "a word fewer", l, words[:len(words)-1], api.ErrForm)
	isNot(t, "a line fewer", l, words[:len(words)-8], api.ErrForm)
	isNot(t, "a word more", l, append(slices.Clone(words), 0), api.ErrForm)
	isNot(t, "a line more", l, append(slices.Clone(words), make([]uint64, 8)...), api.ErrForm)
	isNot(t, "a word more, and corrupt", l, append(slices.Clone(bad), 0), api.ErrForm)
	isNot(t, "corrupt", l, bad, api.ErrCorrupt)
	isNot(t, "of another layout", of(t, api.Config{Threads: 3, Slots: 13, Logs: 2, Buckets: 3}), words, api.ErrForm)
}

func TestNoStore(t *testing.T) { // 19.1, 19.2
	l, words, bucket := of9(t)
	other := (bucket + 1) % 3
	none := api.None
	for _, x := range []put{
		{"a queue without a slot", l.Head(), 0},
		{"a queue without a slot, dirty", l.Head(), bits.Soil(0)},
		{"the queue's head with a thread", l.Head(), bits.Link(7, 0)},
		{"the queue's head has a slot too many", l.Head(), bits.Link(12, none)},
		{"the queue's head has another bit", l.Head(), bits.Link(7, none) | 1<<39},
		{"the queue begins at its last slot of those that were taken away, and goes on to it", l.Next(1), bits.Link(1, 0)},
		{"one that was taken away behind one that was not", l.Next(0), bits.Link(8, 0)},
		{"the last one taken away", l.Next(8), bits.Link(none, 0)},
		{"all taken away", l.Next(1), bits.Link(none, 0)},
		{"a thread too many", l.Next(7), bits.Link(1, 3)},
		{"a slot too many", l.Next(8), bits.Link(12, none)},
		{"many slots too many", l.Next(8), bits.Link(math.MaxUint32-1, none)},
		{"another bit", l.Next(8), 1 << 39},
		{"another bit", l.Next(8), 1 << 62},
		{"a queue that goes round", l.Next(8), bits.Link(4, none)},
		{"a queue that goes round to its first slot", l.Next(8), bits.Link(7, none)},
		{"a slot that leads to itself", l.Next(8), bits.Link(8, none)},
		{"the queue goes into the set", l.Next(8), bits.Link(5, none)},
		{"a value of 33 bits", l.Val(8), 1 << 32},
		{"a value of 64 bits", l.Val(8), 1 << 63},
		{"a value of 33 bits, of one that was taken away", l.Val(1), 1 << 32},
		{"a value of 33 bits, of the first one that was not", l.Val(4), 1 << 32},
		{"the set's head with a thread", l.Set(), bits.Link(5, 2)},
		{"the set's head with a thread, and no slot", l.Set(), bits.Link(none, 0)},
		{"the set's head has a slot too many", l.Set(), bits.Link(12, none)},
		{"the set goes round", l.Next(3), bits.Link(5, none)},
		{"the set goes into the queue", l.Next(3), bits.Link(0, none)},
		{"the set goes into a bucket", l.Next(3), bits.Link(6, none)},
		{"a thread too many in the set", l.Next(3), bits.Link(none, 3)},
		{"a slot too many in the set", l.Next(3), bits.Link(12, none)},
		{"keys that are alike", l.Key(3), 21},
		{"keys that are alike, the first one", l.Key(5), 21},
		{"keys that fall", l.Key(3), 20},
		{"keys that fall at one that was taken away", l.Key(2), 31},
		{"keys that fall to one that was taken away", l.Key(2), 19},
		{"a key of 33 bits", l.Key(3), 1<<32 | 30},
		{"a key of 33 bits, of one that was taken away", l.Key(2), 1<<32 | 21},
		{"a key of 33 bits, of the first one", l.Key(5), 1 << 32},
		{"a value of 33 bits in the set", l.Val(5), 1 << 32},
		{"a value of 33 bits in the set, of one that was taken away", l.Val(2), 1 << 32},
		{"a bucket's head with a thread", l.Bucket(other), bits.Link(none, 1)},
		{"a bucket's head has another bit", l.Bucket(other), 1 << 40},
		{"two ways to a bucket's slots", l.Bucket(other), bits.Link(6, none)},
		{"a way to the last slot of another one", l.Bucket(other), bits.Link(9, none)},
		{"a way to a slot that has a key of another bucket", l.Bucket(bucket), bits.Link(10, none)},
		{"a key of another bucket", l.Key(6), uint64(keyOf(other, 3, 0))},
		{"a key of another bucket, of one that was taken away", l.Key(9), uint64(keyOf(other, 3, 11))},
		{"a key of 33 bits in a bucket", l.Key(9), 1<<32 | uint64(keyOf(bucket, 3, 11))},
		{"a value of 33 bits in a bucket", l.Val(6), 1 << 32},
		{"the last value of a bucket", l.Val(9), math.MaxUint64},
		{"a link of a bucket with a thread too many", l.Next(9), bits.Link(none, 63)},
	} {
		w := slices.Clone(words)
		w[l.Key(10)] = uint64(keyOf(other, 3, 0))
		isNot(t, x.name, l, with(w, x), api.ErrCorrupt)
	}
}

func TestStillStore(t *testing.T) { // 19.1, 19.2
	l, words, bucket := of9(t)
	places, _ := view.Places(l, words)
	held, _ := view.State(l, words)
	most := uint64(math.MaxUint64)
	for _, x := range []put{
		{"any tail", l.Tail(), most},
		{"any superblock", 0, most},
		{"the rest of a head's line", l.Head() + 1, most},
		{"any word behind the buckets", l.Bucket(2) + 1, most},
		{"any cell", l.Cell(1), most},
		{"any intent", l.Intent(2), most},
		{"any log", l.Log(0, 1), most},
		{"any generation", l.Gen(4), most},
		{"any tag", l.Tag(5), most},
		{"the value of the queue's first one", l.Val(7), most},
		{"a key in the queue", l.Key(7), most},
		{"a key in the queue", l.Key(8), most},
		{"a slot on no way", l.Next(10), most},
		{"a slot on no way that leads to a way", l.Next(11), bits.Link(4, 1)},
		{"a value that was taken away", l.Val(1), math.MaxUint32},
		{"a dirty head", l.Head(), bits.Soil(bits.Link(7, api.None))},
		{"a dirty head of the set", l.Set(), bits.Soil(bits.Link(5, api.None))},
		{"a dirty head of a bucket", l.Bucket(bucket), bits.Soil(bits.Link(6, api.None))},
		{"a dirty head without a slot", l.Bucket((bucket + 1) % 3), bits.Soil(0)},
		{"a dirty link with a thread", l.Next(7), bits.Soil(bits.Link(1, 2))},
		{"a dirty link at the end", l.Next(8), bits.Soil(0)},
		{"a dirty link at a list's end, with a thread", l.Next(9), bits.Soil(bits.Link(api.None, 2))},
		{"another thread", l.Next(7), bits.Link(1, 1)},
		{"a value of the set", l.Val(5), math.MaxUint32},
		{"a key that rises by 1 alone", l.Key(2), 29},
	} {
		is(t, x.name, l, with(words, x), places, held)
	}
}

func TestEdgesOfKeysAndValues(t *testing.T) { // 19.1, 19.2
	l := of(t, api.Config{Threads: 64, Slots: 7, Logs: 1, Buckets: 1})
	words := empty(l)
	const most = math.MaxUint32
	lay(l, words, l.Head(), node{6, 0, 1 << 63, 63}, node{0, 1 << 63, most, api.None}, node{5, 0, most, api.None})
	lay(l, words, l.Set(), node{1, 0, 0, api.None}, node{2, most, most, api.None})
	lay(l, words, l.Bucket(0), node{4, 0, most, api.None}, node{3, most, 0, api.None})
	is(t, "edges", l, words, []view.Place{{6, 0, false}, {0, 0, true}, {5, 0, true}, {1, 1, true}, {2, 1, true}, {4, 2, true}, {3, 2, true}},
		api.State{Queue: []uint32{most}, Set: []uint32{0, most}, Map: []api.Pair{{Key: 0, Val: most}, {Key: most, Val: 0}}})
	lay(l, words, l.Set(), node{1, 0, 0, 63}, node{2, most, most, 0})
	lay(l, words, l.Bucket(0), node{4, 0, most, 63}, node{3, most, 0, 0})
	is(t, "all taken away", l, words, []view.Place{{6, 0, false}, {0, 0, true}, {5, 0, true}, {1, 1, false}, {2, 1, false}, {4, 2, false}, {3, 2, false}},
		api.State{Queue: []uint32{most}})
}

func TestLongWay(t *testing.T) { // 19.1, 19.2
	l := of(t, api.Config{Threads: 1, Slots: api.MaxSlots, Logs: 1, Buckets: 1})
	words := empty(l)
	var places []view.Place
	var held api.State
	var way []node
	for slot := range api.MaxSlots {
		way = append(way, node{slot, 0, uint64(slot) + 5, api.None})
		places = append(places, view.Place{Slot: slot, List: 0, Live: true})
		if slot > 0 {
			held.Queue = append(held.Queue, uint32(slot)+5)
		}
	}
	lay(l, words, l.Head(), way...)
	is(t, "all in the queue", l, words, places, held)
	for _, to := range []int{0, 1, 63, 64, 65534, 65535, 65536} {
		isNot(t, "round", l, with(words, put{"", l.Next(api.MaxSlots - 1), bits.Link(to, api.None)}), api.ErrCorrupt)
	}
}

func TestNothingIsShared(t *testing.T) { // R3
	l, words, _ := of9(t)
	was := slices.Clone(words)
	p, _ := view.Places(l, words)
	s, _ := view.State(l, words)
	if !slices.Equal(words, was) {
		t.Errorf("words were changed")
	}
	places, held := slices.Clone(p), api.State{Queue: slices.Clone(s.Queue), Set: slices.Clone(s.Set), Map: slices.Clone(s.Map)}
	clear(words)
	if !slices.Equal(p, places) || !model.Same(s, held) {
		t.Errorf("answers change with the words")
	}
	clear(p)
	clear(s.Queue)
	clear(s.Set)
	clear(s.Map)
	is(t, "again", l, was, places, held)
}
