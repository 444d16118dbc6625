package mark_test

import (
	"math"
	"slices"
	"testing"

	"limekiln/api"
	"limekiln/bits"
	"limekiln/hash"
	"limekiln/layout"
	"limekiln/mark"
	"limekiln/pdev"
	"limekiln/pmem"
)

// node is a slot on a way, with what it has, and the thread that took it away, or none.
type node struct {
	slot     int
	key, val uint64
	by       int
}

// ground is a layout, and a memory of noughts.
func ground(t *testing.T, c api.Config) (*layout.Layout, *pmem.Mem) {
	t.Helper()
	l, e := layout.Of(c)
	if e != api.OK {
		t.Fatalf("layout.Of(%+v): %v", c, e)
	}
	return l, over(t, l, make([]uint64, l.Lines()*api.LineWords))
}

// over is a memory over words.
func over(t *testing.T, l *layout.Layout, words []uint64) *pmem.Mem {
	t.Helper()
	d, e := pdev.Open(words, max(1, l.Config().Threads))
	if e != api.OK {
		t.Fatalf("pdev.Open: %v", e)
	}
	m, e := pmem.New(d, l.Passing())
	if e != api.OK {
		t.Fatalf("pmem.New: %v", e)
	}
	return m
}

// lay lays a way, clean.
func lay(l *layout.Layout, m *pmem.Mem, head int, nodes ...node) {
	at, by := head, api.None
	for _, n := range nodes {
		m.Store(0, at, bits.Link(n.slot, by))
		m.Store(0, l.Key(n.slot), n.key)
		m.Store(0, l.Val(n.slot), n.val)
		at, by = l.Next(n.slot), n.by
	}
	m.Store(0, at, bits.Link(api.None, by))
}

// walk is a Mark, with what it goes through, and by which thread.
type walk struct {
	*testing.T
	l      *layout.Layout
	m      *pmem.Mem
	x      *mark.Mark
	thread int
	heads  []uint64 // what it has met by now
	nodes  []mark.Node
}

// walkOf begins a Mark.
func walkOf(t *testing.T, l *layout.Layout, m *pmem.Mem, thread int) *walk {
	return &walk{T: t, l: l, m: m, x: mark.New(l, thread), thread: thread}
}

// loads does a step, and fails if it does another access than one load there, or tells that it is done.
func (w *walk) loads(at int) {
	w.Helper()
	w.step(at, false)
}

func (w *walk) step(at int, done bool) {
	w.Helper()
	clock := w.m.Clock()
	there, _ := w.m.Peek(at)
	want := api.Access{Kind: api.AcLoad, Thread: w.thread, At: at, Old: there, Done: true}
	if w.x.Done() {
		w.Errorf("done ahead of the load at %d", at)
	}
	if w.x.Step(w.m) != done || w.x.Done() != done || w.m.Clock() != clock+1 || w.m.Last() != want {
		w.Errorf("%+v, done %v, %d accesses, want a load at %d, done %v", w.m.Last(), w.x.Done(), w.m.Clock()-clock, at, done)
	}
}

// has fails if it has met other things than it should have.
func (w *walk) has(corrupt bool) {
	w.Helper()
	if w.x.Corrupt() != corrupt || !slices.Equal(w.x.Heads(), w.heads) || !slices.Equal(w.x.Nodes(), w.nodes) {
		w.Errorf("corrupt %v, heads %x, nodes %+v, want %v, %x, %+v", w.x.Corrupt(), w.x.Heads(), w.x.Nodes(), corrupt, w.heads, w.nodes)
	}
}

// head loads a head.
func (w *walk) head(at int) {
	w.Helper()
	w.loads(at)
	w.heads = append(w.heads, w.m.Last().Old)
	w.has(false)
}

// link loads the link of a slot, by which the slot is met.
func (w *walk) link(list, slot int, val uint64) {
	w.Helper()
	w.loads(w.l.Next(slot))
	w.nodes = append(w.nodes, mark.Node{Slot: slot, List: list, Link: w.m.Last().Old, Val: val})
	w.has(false)
}

// ends does the last step, and fails if another one does anything.
func (w *walk) ends(at int, corrupt bool) {
	w.Helper()
	w.step(at, true)
	if corrupt {
		w.nodes = nil
	}
	w.has(corrupt)
	clock := w.m.Clock()
	if !w.x.Step(w.m) || w.m.Clock() != clock || !w.x.Done() {
		w.Errorf("it does something behind its end")
	}
	w.has(corrupt)
}

func TestEmptyStore(t *testing.T) { // 20.1, 20.2, example 1
	l, m := ground(t, api.Config{Threads: 2, Slots: 3, Logs: 1, Buckets: 2})
	lay(l, m, l.Head(), node{0, 0, 0, api.None})
	w := walkOf(t, l, m, 1)
	w.has(false)
	w.head(l.Head())
	w.link(0, 0, 0)
	w.head(l.Set())
	w.head(l.Bucket(0))
	w.heads = append(w.heads, 0)
	w.ends(l.Bucket(1), false)
}

// of9 is a layout, and the memory of a store of it: the queue has the slots 7, 1 (both taken away), 4, 0 and 8, the set 5, 2 (taken away) and 3, the first bucket 6 and 9, of which the latter was taken away.
func of9(t *testing.T) (*layout.Layout, *pmem.Mem) {
	t.Helper()
	l, m := ground(t, api.Config{Threads: 3, Slots: 12, Logs: 2, Buckets: 3})
	lay(l, m, l.Head(), node{7, 0, 90, 2}, node{1, 0, 91, 0}, node{4, 0, 92, api.None}, node{0, 0, 93, api.None}, node{8, 0, 94, api.None})
	lay(l, m, l.Set(), node{5, 20, 1, api.None}, node{2, 21, 2, 1}, node{3, 30, 3, api.None})
	lay(l, m, l.Bucket(0), node{6, keyOf(0, 3, 10), 61, api.None}, node{9, keyOf(0, 3, 40), 62, 2})
	return l, m
}

// keyOf is the least key of a bucket from a key on.
func keyOf(bucket, many int, key uint32) uint64 {
	for hash.Bucket(key, many) != bucket {
		key++
	}
	return uint64(key)
}

// soil lets a word be dirty.
func soil(m *pmem.Mem, at int) {
	w, _ := m.Peek(at)
	m.Store(0, at, bits.Soil(w))
}

func TestAllWays(t *testing.T) { // 20.1, 20.2
	for _, dirty := range []bool{false, true} {
		l, m := of9(t)
		if dirty {
			for _, at := range []int{l.Head(), l.Next(7), l.Next(8), l.Set(), l.Next(2), l.Next(3), l.Bucket(0), l.Bucket(1), l.Next(9)} {
				soil(m, at)
			}
		}
		seen := m.Device().Seen()
		w := walkOf(t, l, m, 2)
		w.head(l.Head())
		w.link(0, 7, 0) // whose value is not loaded
		for _, s := range []int{1, 4, 0, 8} {
			val, _ := m.Peek(l.Val(s))
			w.loads(l.Val(s))
			w.has(false)
			w.link(0, s, val)
		}
		w.head(l.Set())
		for _, s := range []int{5, 2, 3} {
			w.slot(1, s)
		}
		w.head(l.Bucket(0))
		w.slot(2, 6)
		w.slot(2, 9)
		w.head(l.Bucket(1))
		w.heads = append(w.heads, 0)
		w.ends(l.Bucket(2), false)
		if !slices.Equal(m.Device().Seen(), seen) || !slices.Equal(m.Device().Kept(), make([]uint64, len(seen))) {
			t.Errorf("words were changed") // 20.3
		}
	}
}

// slot goes through a slot of a list.
func (w *walk) slot(list, s int) {
	w.Helper()
	val, _ := w.m.Peek(w.l.Val(s))
	w.loads(w.l.Key(s))
	w.has(false)
	w.loads(w.l.Val(s))
	w.has(false)
	w.link(list, s, val)
}

// fault is a word by which a store is none, and where that is met: behind how many loads, the last one of which at a place.
type fault struct {
	name  string
	at    int
	w     uint64
	last  int
	loads int
}

func TestCorrupt(t *testing.T) { // 20.1, 20.2
	l, m := of9(t)
	none := api.None
	words := m.Device().Seen()
	words[l.Key(10)] = keyOf(1, 3, 0)
	for _, x := range []fault{
		{"no slot", l.Head(), 0, l.Head(), 1},
		{"no slot, dirty", l.Head(), bits.Soil(0), l.Head(), 1},
		{"a thread", l.Head(), bits.Link(7, 0), l.Head(), 1},
		{"no link", l.Head(), bits.Link(12, none), l.Head(), 1},
		{"no link", l.Head(), bits.Link(7, none) | 1<<40, l.Head(), 1},
		{"no link", l.Next(7), bits.Link(1, 3), l.Next(7), 2},
		{"round at once", l.Next(7), bits.Link(7, 2), l.Next(7), 2},
		{"a queue that ends behind one that was taken away", l.Next(7), bits.Link(none, 2), l.Next(7), 2},
		{"33 bits", l.Val(1), 1 << 32, l.Val(1), 3},
		{"33 bits", l.Val(4), 1<<32 + 1, l.Val(4), 5},
		{"round", l.Next(1), bits.Link(7, 0), l.Next(1), 4},
		{"taken away behind one that was not", l.Next(0), bits.Link(8, 1), l.Next(0), 8},
		{"the last one taken away", l.Next(8), bits.Link(none, 1), l.Next(8), 10},
		{"no link", l.Next(8), 1 << 39, l.Next(8), 10},
		{"no link", l.Next(8), bits.Link(12, none), l.Next(8), 10},
		{"round", l.Next(8), bits.Link(8, none), l.Next(8), 10},
		{"round", l.Next(8), bits.Link(7, none), l.Next(8), 10},
		{"64 bits", l.Val(8), math.MaxUint64, l.Val(8), 9},
		{"a thread", l.Set(), bits.Link(5, 1), l.Set(), 11},
		{"a thread, and no slot", l.Set(), bits.Link(none, 1), l.Set(), 11},
		{"no link", l.Set(), bits.Link(12, none), l.Set(), 11},
		{"a slot of the queue", l.Set(), bits.Link(8, none), l.Set(), 11},
		{"33 bits", l.Key(5), 1<<32 | 20, l.Key(5), 12},
		{"64 bits", l.Key(5), math.MaxUint64, l.Key(5), 12},
		{"33 bits", l.Val(5), 1 << 32, l.Val(5), 13},
		{"no link", l.Next(5), bits.Link(2, 3), l.Next(5), 14},
		{"a slot of the queue", l.Next(5), bits.Link(1, 0), l.Next(5), 14},
		{"round", l.Next(5), bits.Link(5, none), l.Next(5), 14},
		{"alike", l.Key(2), 20, l.Key(2), 15},
		{"it falls", l.Key(2), 19, l.Key(2), 15},
		{"it falls behind one that was taken away", l.Key(3), 21, l.Key(3), 18},
		{"0 behind others", l.Key(3), 0, l.Key(3), 18},
		{"round", l.Next(3), bits.Link(2, none), l.Next(3), 20},
		{"no link", l.Next(3), bits.Link(none, 3), l.Next(3), 20},
		{"a thread", l.Bucket(0), bits.Link(6, 0), l.Bucket(0), 21},
		{"another bucket", l.Bucket(0), bits.Link(10, none), l.Key(10), 22},
		{"another bucket", l.Key(6), keyOf(1, 3, 0), l.Key(6), 22},
		{"33 bits", l.Val(6), 1 << 32, l.Val(6), 23},
		{"another bucket, of one that was taken away", l.Key(9), keyOf(2, 3, 40), l.Key(9), 25},
		{"33 bits", l.Key(9), 1<<32 | keyOf(0, 3, 40), l.Key(9), 25},
		{"33 bits", l.Val(9), 1 << 32, l.Val(9), 26},
		{"a slot of the set", l.Next(9), bits.Link(3, 2), l.Next(9), 27},
		{"a slot of another bucket", l.Bucket(1), bits.Link(9, none), l.Bucket(1), 28},
		{"a thread", l.Bucket(2), bits.Link(none, 0), l.Bucket(2), 29},
		{"no link", l.Bucket(2), 1 << 62, l.Bucket(2), 29},
	} {
		w := slices.Clone(words)
		w[x.at] = x.w
		refuses(t, over(t, l, w), l, x)
	}
}

// refuses fails if a fault is met elsewhere, or not.
func refuses(t *testing.T, m *pmem.Mem, l *layout.Layout, x fault) {
	y := mark.New(l, 0)
	loads := 1
	for ; !y.Step(m) && loads < 100; loads++ {
		if y.Corrupt() {
			t.Errorf("%s: corrupt, and not done", x.name)
		}
	}
	if !y.Done() || !y.Corrupt() || loads != x.loads || m.Clock() != loads || m.Last().At != x.last || y.Nodes() != nil {
		t.Errorf("%s, %x at %d: done %v, corrupt %v, behind %d loads, want %d, the last one at %d, want %d, %v", x.name, x.w, x.at, y.Done(), y.Corrupt(), loads, x.loads, m.Last().At, x.last, y.Nodes())
	}
	var heads []uint64
	for _, at := range []int{l.Head(), l.Set(), l.Bucket(0), l.Bucket(1), l.Bucket(2)}[:len(y.Heads())] {
		w, _ := m.Peek(at)
		heads = append(heads, w)
	}
	if !slices.Equal(y.Heads(), heads) {
		t.Errorf("%s: heads %x, want %x", x.name, y.Heads(), heads)
	}
	if !y.Step(m) || m.Clock() != loads {
		t.Errorf("%s: it does something behind its end", x.name)
	}
}

func TestHeadsOfCorrupt(t *testing.T) { // 20.2
	l, m := of9(t)
	m.Store(0, l.Set(), bits.Link(8, api.None))
	w := walkOf(t, l, m, 0)
	w.head(l.Head())
	w.link(0, 7, 0)
	for _, s := range []int{1, 4, 0, 8} {
		val, _ := m.Peek(l.Val(s))
		w.loads(l.Val(s))
		w.link(0, s, val)
	}
	w.heads = append(w.heads, bits.Link(8, api.None)) // it was loaded, too
	w.ends(l.Set(), true)
}

func TestEveryWordThatPlaysNoPart(t *testing.T) { // 20.1
	l, m := of9(t)
	for _, at := range []int{0, l.Head() + 1, l.Tail(), l.Bucket(2) + 1, l.Cell(0), l.Intent(1), l.Log(2, 1), l.Gen(5), l.Tag(8), l.Key(7), l.Key(8), l.Val(7), l.Next(10), l.Val(11), l.Key(10)} {
		m.Store(0, at, math.MaxUint64)
	}
	m.Store(0, l.Next(11), bits.Link(4, 0))
	x := mark.New(l, 0)
	steps := 1
	for ; !x.Step(m) && steps < 100; steps++ {
	}
	if !x.Done() || x.Corrupt() || steps != 29 || len(x.Nodes()) != 10 {
		t.Errorf("done %v, corrupt %v, %d steps, %v", x.Done(), x.Corrupt(), steps, x.Nodes())
	}
}

func TestEdgesOfKeysAndValues(t *testing.T) { // 20.1
	const most = math.MaxUint32
	l, m := ground(t, api.Config{Threads: 64, Slots: 7, Logs: 1, Buckets: 1})
	lay(l, m, l.Head(), node{6, 0, 1 << 63, 63}, node{0, 1 << 63, most, api.None}, node{5, 0, most, api.None})
	lay(l, m, l.Set(), node{1, 0, 0, api.None}, node{2, most, most, 63})
	lay(l, m, l.Bucket(0), node{4, 0, most, 0}, node{3, most, 0, 63})
	x := mark.New(l, 0)
	steps := 1
	for ; !x.Step(m) && steps < 100; steps++ {
	}
	want := []mark.Node{{6, 0, bits.Link(0, 63), 0}, {0, 0, bits.Link(5, -1), most}, {5, 0, 0, most}, {1, 1, bits.Link(2, -1), 0}, {2, 1, bits.Link(-1, 63), most}, {4, 2, bits.Link(3, 0), most}, {3, 2, bits.Link(-1, 63), 0}}
	if x.Corrupt() || steps != 20 || !slices.Equal(x.Nodes(), want) {
		t.Errorf("corrupt %v, %d steps, %v", x.Corrupt(), steps, x.Nodes())
	}
}

func TestEverySlotIsMetOnce(t *testing.T) { // 20.1, 20.3
	for _, slots := range []int{1, 2, 63, 64, 65, 127, 128, 129, api.MaxSlots} {
		l, m := ground(t, api.Config{Threads: 1, Slots: slots, Logs: 1, Buckets: 1})
		var way []node
		for s := range slots {
			way = append(way, node{s, 0, 0, api.None})
		}
		lay(l, m, l.Head(), way...)
		if x := mark.New(l, 0); !ends(x, m, 2*slots+2) || x.Corrupt() || len(x.Nodes()) != slots {
			t.Errorf("of %d slots: done %v, corrupt %v, %d nodes", slots, x.Done(), x.Corrupt(), len(x.Nodes()))
		}
		for _, to := range []int{0, 1, 31, 32, 63, 64, 127, 128, slots - 1} {
			if to >= slots {
				continue
			}
			m.Store(0, l.Next(slots-1), bits.Link(to, api.None))
			if x := mark.New(l, 0); !ends(x, m, 2*slots) || !x.Corrupt() || x.Nodes() != nil {
				t.Errorf("of %d slots, round to %d: done %v, corrupt %v, %d nodes", slots, to, x.Done(), x.Corrupt(), len(x.Nodes()))
			}
		}
	}
}

// ends goes through all in just so many steps, and tells whether that was so.
func ends(x *mark.Mark, m *pmem.Mem, steps int) bool {
	for range steps - 1 {
		if x.Step(m) {
			return false
		}
	}
	return x.Step(m)
}

func TestChangedAmid(t *testing.T) { // it ends, whatever is there
	l, m := ground(t, api.Config{Threads: 1, Slots: 4, Logs: 1, Buckets: 1})
	lay(l, m, l.Head(), node{0, 0, 0, api.None})
	lay(l, m, l.Set(), node{1, 5, 0, api.None})
	x := mark.New(l, 0)
	for range 5 { // up to the link of the slot 1
		x.Step(m)
	}
	m.Store(0, l.Next(1), bits.Link(2, api.None))
	m.Store(0, l.Key(2), 6)
	m.Store(0, l.Next(2), bits.Link(0, api.None))
	if !ends(x, m, 4) || !x.Corrupt() {
		t.Errorf("done %v, corrupt %v", x.Done(), x.Corrupt())
	}
}

func TestNothingIsShared(t *testing.T) { // R3
	l, m := of9(t)
	x := mark.New(l, 0)
	for range 12 {
		x.Step(m)
	}
	heads, nodes := x.Heads(), x.Nodes()
	wasHeads, wasNodes := slices.Clone(heads), slices.Clone(nodes)
	for !x.Step(m) {
	}
	if !slices.Equal(heads, wasHeads) || !slices.Equal(nodes, wasNodes) {
		t.Errorf("what was told changes as it goes on")
	}
	heads, nodes = x.Heads(), x.Nodes()
	wasHeads, wasNodes = slices.Clone(heads), slices.Clone(nodes)
	clear(heads)
	clear(nodes)
	if !slices.Equal(x.Heads(), wasHeads) || !slices.Equal(x.Nodes(), wasNodes) {
		t.Errorf("what is kept changes by what was told")
	}
}

func TestNoMachine(t *testing.T) { // 20.2
	_, m := of9(t)
	clock := m.Clock()
	for _, x := range []*mark.Mark{nil, {}} {
		if !x.Done() || x.Corrupt() || x.Heads() != nil || x.Nodes() != nil || !x.Step(m) || !x.Step(nil) || m.Clock() != clock {
			t.Errorf("done %v, corrupt %v, %v, %v", x.Done(), x.Corrupt(), x.Heads(), x.Nodes())
		}
	}
}

func TestThreadsAndLayoutsThatThereAreNot(t *testing.T) {
	l, m := of9(t)
	for _, thread := range []int{-1, 3, 64, math.MaxInt, math.MinInt} {
		x := mark.New(l, thread)
		if !ends(x, m, 29) || x.Corrupt() || len(x.Nodes()) != 10 || m.Bad() != 0 || m.Last().Thread != thread {
			t.Errorf("by %d: done %v, corrupt %v, %d nodes", thread, x.Done(), x.Corrupt(), len(x.Nodes()))
		}
	}
	for _, l := range []*layout.Layout{nil, new(layout.Layout)} {
		for _, m := range []*pmem.Mem{m, new(pmem.Mem)} {
			x := mark.New(l, 0)
			if !x.Step(m) || !x.Corrupt() || len(x.Heads()) != 1 || x.Nodes() != nil {
				t.Errorf("no layout: done %v, corrupt %v", x.Done(), x.Corrupt())
			}
		}
	}
	few, e := pdev.New(1, 1)
	if e != api.OK {
		t.Fatalf("pdev.New: %v", e)
	}
	small, e := pmem.New(few, 0)
	if x := mark.New(l, 0); e != api.OK || !x.Step(small) || !x.Corrupt() {
		t.Errorf("too small a memory: done %v, corrupt %v", x.Done(), x.Corrupt())
	}
}
