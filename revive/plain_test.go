package revive_test

import (
	"slices"
	"testing"

	"limekiln/api"
	"limekiln/bits"
	"limekiln/free"
	"limekiln/layout"
	"limekiln/model"
	"limekiln/pmem"
	"limekiln/revive"
	"limekiln/thread"
	"limekiln/view"
)

// drawing is a function that draws, always alike.
func drawing() func(n int) int {
	x := uint64(1)
	return func(n int) int {
		x = x*6364136223846793005 + 1442695040888963407
		return int(x >> 33 % uint64(n))
	}
}

// configs are such as have edges: one of all, rows of entries and buckets over more than one line.
func configs() []api.Config {
	return []api.Config{{Threads: 1, Slots: 1, Logs: 1, Buckets: 1}, {Threads: 2, Slots: 5, Logs: 1, Buckets: 2}, {Threads: 64, Slots: 20, Logs: 3, Buckets: 3}, {Threads: 3, Slots: 40, Logs: 9, Buckets: 17}}
}

// heads are where all ways begin, in order.
func heads(l *layout.Layout) []int {
	all := []int{l.Head(), l.Set()}
	for n := range l.Config().Buckets {
		all = append(all, l.Bucket(n))
	}
	return all
}

// drawnStore are the words of a store, with links that are dirty, slots that were taken away, and anything where it plays no part.
func drawnStore(t *testing.T, draw func(n int) int, l *layout.Layout) []uint64 {
	t.Helper()
	c := l.Config()
	words := make([]uint64, l.Lines()*api.LineWords)
	for i := range words {
		words[i] = uint64(draw(1<<31))<<40 | uint64(draw(1<<31))
	}
	block(t, words, 0, c)
	block(t, words, 1, c)
	rest := make([]int, c.Slots)
	for i := range rest {
		j := draw(i + 1)
		rest[i], rest[j] = rest[j], i
	}
	for list, head := range heads(l) {
		many := min(draw(2+2*len(rest)/(3+c.Buckets-list/2)), len(rest))
		if list == 0 {
			many = 1 + draw(len(rest)*2/3+1)
		}
		drawnWay(draw, l, words, head, list, rest[:many])
		rest = rest[many:]
	}
	if !view.Right(l, words) {
		t.Fatalf("%x are no store's", words)
	}
	return words
}

// drawnWay lays slots on a way.
func drawnWay(draw func(n int) int, l *layout.Layout, words []uint64, head, list int, way []int) {
	c := l.Config()
	soiled := func(w uint64) uint64 { return w | uint64(draw(2))<<63 }
	taken := draw(len(way) + 1)
	at, by, key := head, api.None, uint32(draw(3))
	for i, s := range way {
		words[at] = soiled(bits.Link(s, by))
		words[l.Val(s)] &= 1<<32 - 1
		at, by = l.Next(s), api.None
		if list == 0 && i < taken-1 || list > 0 && draw(3) == 0 {
			by = draw(c.Threads)
		}
		if list > 1 {
			key = uint32(keyOf(list-2, c.Buckets, key))
		}
		if list > 0 {
			words[l.Key(s)] = uint64(key)
			key += 1 + uint32(draw(3)*draw(50_000_000))
		}
	}
	words[at] = soiled(bits.Link(api.None, by))
}

// restOf are the slots that are live on no way of a store's words.
func restOf(l *layout.Layout, words []uint64) []int {
	live := make([]bool, l.Config().Slots)
	places, _ := view.Places(l, words)
	for _, p := range places {
		live[p.Slot] = p.Live
	}
	var rest []int
	for s, is := range live {
		if !is {
			rest = append(rest, s)
		}
	}
	return rest
}

// isUp fails if a store that is up holds something else, as it is seen, or as it is kept; or if a slot is not just one: live on a way, or in the free list.
func isUp(t *testing.T, l *layout.Layout, m *pmem.Mem, held api.State, rest []int) {
	t.Helper()
	seen, kept := m.Device().Seen(), m.Device().Kept()
	if s, e := view.State(l, seen); e != api.OK || !model.Same(s, held) || !slices.Equal(seen, kept) {
		t.Errorf("%+v is held, %v, want %+v, all of it kept %v", s, e, held, slices.Equal(seen, kept))
	}
	if slots, is := free.List(l, m); !is || !slices.Equal(slots, rest) || !slices.Equal(restOf(l, seen), rest) {
		t.Errorf("the free list is %v, %v, want %v, which are live on no way %v", slots, is, rest, restOf(l, seen))
	}
	places, _ := view.Places(l, seen)
	if len(places)+len(rest) != l.Config().Slots {
		t.Errorf("%d slots on ways, %d free", len(places), len(rest))
	}
}

// broken begins a recovery, and breaks it off by a crash behind so many steps. Lines are written back, too.
func broken(t *testing.T, l *layout.Layout, m *pmem.Mem, steps int, draw func(n int) int) {
	t.Helper()
	x := revive.New(l, draw(l.Config().Threads))
	for range steps {
		x.Step(m)
		if draw(8) == 0 {
			m.Device().Evict(draw(l.Lines()))
		}
	}
	if x.Corrupt() {
		t.Errorf("corrupt")
	}
	m.Crash()
}

func TestBrokenOffAnywhere(t *testing.T) { // 22.3
	draw := drawing()
	for _, c := range configs()[:3] {
		l := layoutOf(t, c)
		for range 8 {
			words := drawnStore(t, draw, l)
			held, _ := view.State(l, words)
			rest := restOf(l, words)
			most := steps(t, revive.New(l, 0), over(t, l, words))
			for first := 0; first <= most; first += 1 + first/60 {
				m := over(t, l, words)
				broken(t, l, m, first, draw)
				for draw(2) == 0 {
					broken(t, l, m, draw(most+1), draw)
				}
				x := revive.New(l, 0)
				if n := steps(t, x, m); !x.Up() || n > revive.Most(c) {
					t.Errorf("up %v, behind %d steps", x.Up(), n)
				}
				isUp(t, l, m, held, rest)
				if t.Failed() {
					t.Fatalf("of %x, broken off behind %d steps", words, first)
				}
			}
		}
	}
}

// runs lets all threads do operations between one another, and lets all crash.
func runs(draw func(n int) int, l *layout.Layout, m *pmem.Mem, steps int) {
	all := make([]*thread.Thread, l.Config().Threads)
	for i := range all {
		all[i] = thread.New(l, i)
	}
	for range steps {
		x := all[draw(len(all))]
		x.Invoke(api.Op{Kind: api.OpEnq + draw(8), Key: []uint32{0, 1, 5, 1<<32 - 1}[draw(4)], Val: uint32(draw(3)) * 0x7fffffff})
		x.Step(m)
		if x.Answered() {
			x.Take()
		}
		if draw(6) == 0 {
			m.Device().Evict(draw(l.Lines()))
		}
	}
	m.Crash()
}

func TestBehindCrashesOfThreads(t *testing.T) { // 22.1 to 22.3
	draw := drawing()
	for _, c := range []api.Config{{Threads: 2, Slots: 4, Logs: 1, Buckets: 1}, {Threads: 3, Slots: 8, Logs: 2, Buckets: 2}, {Threads: 5, Slots: 16, Logs: 3, Buckets: 3}} {
		l := layoutOf(t, c)
		m := over(t, l, emptyStore(t, l))
		for range 250 {
			words := m.Device().Kept()
			held, e := view.State(l, words)
			if e != api.OK {
				t.Errorf("the words of a store are none")
			}
			for draw(3) > 0 {
				broken(t, l, m, draw(80), draw)
			}
			x := revive.New(l, draw(c.Threads))
			if n := steps(t, x, m); !x.Up() || n > revive.Most(c) {
				t.Errorf("up %v, behind %d steps", x.Up(), n)
			}
			isUp(t, l, m, held, restOf(l, words))
			if t.Failed() {
				t.Fatalf("of %x", words)
			}
			runs(draw, l, m, 60+draw(200))
		}
		if m.Bad() != 0 {
			t.Errorf("%d accesses were bad", m.Bad())
		}
	}
}
