package mark_test

import (
	"testing"

	"limekiln/api"
	"limekiln/bits"
	"limekiln/layout"
	"limekiln/mark"
	"limekiln/pmem"
	"limekiln/view"
)

// drawing is a function that draws, always alike.
func drawing() func(n int) int {
	x := uint64(1)
	return func(n int) int {
		x = x*6364136223846793005 + 1442695040888963407
		return int(x >> 33 % uint64(n))
	}
}

// heads are where all ways begin, in order.
func heads(l *layout.Layout) []int {
	all := []int{l.Head(), l.Set()}
	for n := range l.Config().Buckets {
		all = append(all, l.Bucket(n))
	}
	return all
}

// agrees fails if a Mark does not meet what words have, or does more than it must, and tells whether they are a store's.
func agrees(t *testing.T, l *layout.Layout, m *pmem.Mem) bool {
	words := m.Device().Seen()
	places, e := view.Places(l, words)
	x, clock := mark.New(l, 0), m.Clock()
	most := 3*l.Config().Slots + len(heads(l))
	for n := 0; n <= most && !x.Step(m); n++ {
		if m.Last().Kind != api.AcLoad {
			t.Errorf("of %x: %+v", words, m.Last())
		}
	}
	if !x.Done() || m.Clock()-clock > most || m.Bad() != 0 || x.Corrupt() != (e != api.OK) {
		t.Errorf("of %x: done %v behind %d steps, corrupt %v, want %v", words, x.Done(), m.Clock()-clock, x.Corrupt(), e)
	}
	nodes := x.Nodes()
	if len(nodes) != len(places) {
		t.Errorf("of %x: %v, want %v", words, nodes, places)
		return false
	}
	for i, p := range places {
		want := mark.Node{Slot: p.Slot, List: p.List, Link: words[l.Next(p.Slot)], Val: words[l.Val(p.Slot)]}
		if i == 0 {
			want.Val = 0
		}
		if nodes[i] != want || p.Live != (bits.By(nodes[i].Link) == api.None) {
			t.Errorf("of %x: %+v, want %+v", words, nodes[i], want)
		}
	}
	for i, w := range x.Heads() {
		if w != words[heads(l)[i]] {
			t.Errorf("of %x: the head %d is %x", words, i, w)
		}
	}
	if e == api.OK && len(x.Heads()) != len(heads(l)) {
		t.Errorf("of %x: heads %x", words, x.Heads())
	}
	return e == api.OK
}

func TestAllSmallStores(t *testing.T) { // 20.3
	l, m := ground(t, api.Config{Threads: 1, Slots: 2, Logs: 1, Buckets: 1})
	links := []uint64{0, 1, 2, 3, 1 << 32, 1<<32 | 1, 1<<32 | 2, 2 << 32, 1<<63 | 1, 1<<63 | 1<<32}
	at := []int{l.Head(), l.Set(), l.Bucket(0), l.Next(0), l.Next(1)}
	right := 0
	for n := range 100_000 {
		for _, w := range at {
			m.Store(0, w, links[n%10])
			n /= 10
		}
		for _, keys := range [][2]uint64{{4, 5}, {5, 4}, {4, 4}} {
			m.Store(0, l.Key(0), keys[0])
			m.Store(0, l.Key(1), keys[1])
			if agrees(t, l, m) {
				right++
			}
		}
		if t.Failed() {
			return
		}
	}
	if right < 150 {
		t.Errorf("%d are a store's", right)
	}
}

// drawnStore are the words of a store, with links that are dirty, slots that were taken away, and anything where it plays no part.
func drawnStore(draw func(n int) int, l *layout.Layout) []uint64 {
	c := l.Config()
	words := make([]uint64, l.Lines()*api.LineWords)
	for i := range words {
		words[i] = uint64(draw(1<<31))<<40 | uint64(draw(1<<31))
	}
	rest := make([]int, c.Slots)
	for i := range rest {
		j := draw(i + 1)
		rest[i], rest[j] = rest[j], i
	}
	soiled := func(w uint64) uint64 { return w | uint64(draw(2))<<63 }
	for list, head := range heads(l) {
		many := draw(2 + 2*len(rest)/(3+c.Buckets-list/2))
		if list == 0 {
			many = 1 + draw(len(rest)*2/3+1)
		}
		many = min(many, len(rest))
		way, taken := rest[:many], draw(many+1)
		rest = rest[many:]
		at, by, key := head, api.None, uint32(draw(3))
		for i, s := range way {
			words[at] = soiled(bits.Link(s, by))
			words[l.Val(s)] &= 1<<32 - 1
			at, by = l.Next(s), api.None
			if list == 0 && i < taken-1 || list > 0 && draw(3) == 0 {
				by = draw(c.Threads)
			}
			if list > 1 {
				key = uint32(keyOf(list-2, c.Buckets, key))
			}
			if list > 0 {
				words[l.Key(s)] = uint64(key)
				key += 1 + uint32(draw(3)*draw(50_000_000))
			}
		}
		words[at] = soiled(bits.Link(api.None, by))
	}
	return words
}

// spoil lets a word on a store's ways be another one.
func spoil(draw func(n int) int, l *layout.Layout, m *pmem.Mem) {
	at := heads(l)
	places, _ := view.Places(l, m.Device().Seen())
	for _, p := range places {
		at = append(at, l.Next(p.Slot), l.Next(p.Slot), l.Key(p.Slot), l.Val(p.Slot))
	}
	one, other := at[draw(len(at))], at[draw(len(at))]
	w, _ := m.Peek(one)
	switch draw(5) {
	case 0:
		w, _ = m.Peek(other)
	case 1:
		w ^= 1 << draw(64)
	case 2:
		w++
	case 3:
		w--
	default:
		w = bits.Link(draw(l.Config().Slots+2)-1, draw(l.Config().Threads+2)-1)
	}
	m.Store(0, one, w)
}

func TestManyStores(t *testing.T) { // 20.1 to 20.3
	draw := drawing()
	right, wrong := 0, 0
	for _, c := range []api.Config{{Threads: 1, Slots: 1, Logs: 1, Buckets: 1}, {Threads: 2, Slots: 5, Logs: 1, Buckets: 2}, {Threads: 64, Slots: 20, Logs: 9, Buckets: 3}, {Threads: 3, Slots: 100, Logs: 1, Buckets: 17}} {
		l, _ := ground(t, c)
		for range 400 {
			words := drawnStore(draw, l)
			if !agrees(t, l, over(t, l, words)) {
				t.Errorf("%x are no store's", words)
			}
			for range 8 {
				m := over(t, l, words)
				spoil(draw, l, m)
				if agrees(t, l, m) {
					right++
				} else {
					wrong++
				}
			}
			if t.Failed() {
				t.Fatalf("of %+v", c)
			}
		}
	}
	if right < 1200 || wrong < 4000 {
		t.Errorf("%d and %d", right, wrong)
	}
}
