package view_test

import (
	"cmp"
	"slices"
	"testing"

	"limekiln/api"
	"limekiln/bits"
	"limekiln/hash"
	"limekiln/layout"
	"limekiln/model"
	"limekiln/view"
)

// drawing is a function that draws, always alike.
func drawing() func(n int) int {
	x := uint64(1)
	return func(n int) int {
		x = x*6364136223846793005 + 1442695040888963407
		return int(x >> 33 % uint64(n))
	}
}

// mayBe tells whether a word is a link of such a store, bit by bit.
func mayBe(w uint64, c api.Config) bool {
	return w&(1<<32-1) <= uint64(c.Slots) && w>>32&127 <= uint64(c.Threads) && w>>39&(1<<24-1) == 0
}

// wayOf are the slots on a way, as far as links lead to slots (of one that goes round, a few more than there are), and whether all links may be.
func wayOf(l *layout.Layout, words []uint64, head int) ([]int, bool) {
	var way []int
	for at := head; len(way) < l.Config().Slots+3; at = l.Next(way[len(way)-1]) {
		if !mayBe(words[at], l.Config()) {
			return way, false
		}
		if bits.To(words[at]) == api.None {
			break
		}
		way = append(way, bits.To(words[at]))
	}
	return way, true
}

// plain reads words rule by rule, and tells whether they are a store's.
func plain(l *layout.Layout, words []uint64) ([]view.Place, api.State, bool) {
	var places []view.Place
	var held api.State
	right, met := true, make([]int, l.Config().Slots)
	for list, head := range heads(l) {
		way, may := wayOf(l, words, head)
		right = right && may && bits.By(words[head]) == api.None
		var live []int
		for i, s := range way {
			met[s]++
			right = right && met[s] == 1
			taken := bits.By(words[l.Next(s)]) != api.None
			places = append(places, view.Place{Slot: s, List: list, Live: !taken})
			if !taken {
				live = append(live, s)
			}
			right = right && (list == 0 && i == 0 || words[l.Val(s)] < 1<<32)
			if list == 0 {
				right = right && (!taken || len(live) == 0)
				continue
			}
			right = right && words[l.Key(s)] < 1<<32 && (i == 0 || words[l.Key(way[i-1])] < words[l.Key(s)])
			right = right && (list == 1 || hash.Bucket(uint32(words[l.Key(s)]), l.Config().Buckets) == list-2)
		}
		right = right && (list != 0 || len(live) > 0)
		for i, s := range live {
			key, val := uint32(words[l.Key(s)]), uint32(words[l.Val(s)])
			switch {
			case list == 1:
				held.Set = append(held.Set, key)
			case list > 1:
				held.Map = append(held.Map, api.Pair{Key: key, Val: val})
			case i > 0:
				held.Queue = append(held.Queue, val)
			}
		}
	}
	slices.SortFunc(held.Map, func(a, b api.Pair) int { return cmp.Compare(a.Key, b.Key) })
	return places, held, right
}

// heads are where all ways begin, in order.
func heads(l *layout.Layout) []int {
	all := []int{l.Head(), l.Set()}
	for n := range l.Config().Buckets {
		all = append(all, l.Bucket(n))
	}
	return all
}

// holds fails if words are read otherwise than rule by rule, or what is held may not be, and tells whether they are a store's.
func holds(t *testing.T, l *layout.Layout, words []uint64) bool {
	wantPlaces, want, right := plain(l, words)
	places, e := view.Places(l, words)
	held, e2 := view.State(l, words)
	switch {
	case e != e2 || (e == api.OK) != view.Right(l, words):
		t.Errorf("of %x: %v, %v, %v", words, e, e2, view.Right(l, words))
	case !right:
		if e != api.ErrCorrupt || len(places) > 0 || !model.Same(held, api.State{}) {
			t.Errorf("of %x: %v, %v, %v, want ErrCorrupt", words, places, held, e)
		}
	case e != api.OK || !slices.Equal(places, wantPlaces) || !model.Same(held, want):
		t.Errorf("of %x: %v, %v, %v, want %v, %v", words, places, held, e, wantPlaces, want)
	default: // 19.3
		live := 0
		for _, p := range places {
			if p.Live {
				live++
			}
		}
		if !model.Right(held) || live != model.Takes(held) {
			t.Errorf("%v: %d are live", held, live)
		}
	}
	return right
}

func TestAllSmallStores(t *testing.T) { // 19.1 to 19.3
	l := of(t, api.Config{Threads: 1, Slots: 2, Logs: 1, Buckets: 1})
	links := []uint64{0, 1, 2, 3, 1 << 32, 1<<32 | 1, 1<<32 | 2, 2 << 32, 1<<63 | 1, 1<<63 | 1<<32}
	at := []int{l.Head(), l.Set(), l.Bucket(0), l.Next(0), l.Next(1)}
	words := empty(l)
	right := 0
	for n := range 100_000 {
		for _, w := range at {
			words[w] = links[n%10]
			n /= 10
		}
		for _, keys := range [][2]uint64{{4, 5}, {5, 4}, {4, 4}} {
			words[l.Key(0)], words[l.Key(1)] = keys[0], keys[1]
			if holds(t, l, words) {
				right++
			}
		}
		if t.Failed() {
			return
		}
	}
	if right < 150 {
		t.Errorf("%d are a store's", right)
	}
}

// drawnStore are the words of a store, with links that are dirty, slots that were taken away, and anything where it plays no part.
func drawnStore(draw func(n int) int, l *layout.Layout) []uint64 {
	c := l.Config()
	words := make([]uint64, l.Lines()*api.LineWords)
	for i := range words {
		words[i] = uint64(draw(1<<31))<<40 | uint64(draw(1<<31))
	}
	rest := make([]int, c.Slots)
	for i := range rest {
		j := draw(i + 1)
		rest[i], rest[j] = rest[j], i
	}
	soiled := func(w uint64) uint64 { return w | uint64(draw(2))<<63 }
	for list, head := range heads(l) {
		many := min(draw(2+2*len(rest)/(3+c.Buckets-list/2)), len(rest))
		if list == 0 {
			many = 1 + draw(len(rest)*2/3+1)
		}
		many = min(many, len(rest))
		way, taken := rest[:many], draw(many+1)
		rest = rest[many:]
		at, by, key := head, api.None, uint32(draw(3))
		for i, s := range way {
			words[at] = soiled(bits.Link(s, by))
			words[l.Val(s)] &= 1<<32 - 1
			at, by = l.Next(s), api.None
			if list == 0 && i < taken-1 || list > 0 && draw(3) == 0 {
				by = draw(c.Threads)
			}
			if list > 1 {
				key = keyOf(list-2, c.Buckets, key)
			}
			if list > 0 {
				words[l.Key(s)] = uint64(key)
				key += 1 + uint32(draw(3)*draw(50_000_000))
			}
		}
		words[at] = soiled(bits.Link(api.None, by))
	}
	return words
}

// broken are a store's words, but for one of those that lie on its ways.
func broken(draw func(n int) int, l *layout.Layout, words []uint64) []uint64 {
	at := heads(l)
	places, _ := view.Places(l, words)
	for _, p := range places {
		at = append(at, l.Next(p.Slot), l.Next(p.Slot), l.Key(p.Slot), l.Val(p.Slot))
	}
	one, other := at[draw(len(at))], at[draw(len(at))]
	w := words[one]
	switch draw(5) {
	case 0:
		w = words[other]
	case 1:
		w ^= 1 << draw(64)
	case 2:
		w++
	case 3:
		w--
	default:
		w = bits.Link(draw(l.Config().Slots+2)-1, draw(l.Config().Threads+2)-1)
	}
	return with(words, put{"", one, w})
}

func TestManyStores(t *testing.T) { // 19.1 to 19.3
	draw := drawing()
	right, wrong := 0, 0
	for _, c := range []api.Config{{Threads: 1, Slots: 1, Logs: 1, Buckets: 1}, {Threads: 2, Slots: 5, Logs: 1, Buckets: 2}, {Threads: 64, Slots: 20, Logs: 9, Buckets: 3}, {Threads: 3, Slots: 100, Logs: 1, Buckets: 17}} {
		l := of(t, c)
		for range 1000 {
			words := drawnStore(draw, l)
			if !holds(t, l, words) {
				t.Errorf("%x are no store's", words)
			}
			for range 8 {
				if holds(t, l, broken(draw, l, words)) {
					right++
				} else {
					wrong++
				}
			}
			if t.Failed() {
				t.Fatalf("of %+v", c)
			}
		}
	}
	if right < 3000 || wrong < 10_000 {
		t.Errorf("%d and %d", right, wrong)
	}
}
