package thread_test

import (
	"cmp"
	"slices"
	"testing"

	"limekiln/api"
	"limekiln/bits"
	"limekiln/free"
	"limekiln/hash"
	"limekiln/layout"
	"limekiln/model"
	"limekiln/pmem"
	"limekiln/retire"
	"limekiln/thread"
)

// words are what is seen, or what is kept, by the words' numbers.
type words func(at int) uint64

func seen(m *pmem.Mem) words {
	return func(at int) uint64 {
		w, _ := m.Peek(at)
		return w
	}
}

func kept(m *pmem.Mem) words {
	all := m.Device().Kept()
	return func(at int) uint64 { return all[at] }
}

// way is the slots on a way, from a head on; of one that goes round, no more than there are slots.
func way(l *layout.Layout, w words, head int) []int {
	var all []int
	at := head
	for range l.Config().Slots {
		s := bits.To(w(at))
		if s == api.None {
			break
		}
		all = append(all, s)
		at = l.Next(s)
	}
	return all
}

// held is what a store holds.
func held(l *layout.Layout, w words) api.State {
	var s api.State
	past := false
	for _, slot := range way(l, w, l.Head()) {
		if past {
			s.Queue = append(s.Queue, uint32(w(l.Val(slot))))
		}
		past = past || bits.By(w(l.Next(slot))) == api.None
	}
	for head, bucket := range hash.Heads(l) {
		for _, slot := range way(l, w, head) {
			p := api.Pair{Key: uint32(w(l.Key(slot))), Val: uint32(w(l.Val(slot)))}
			switch {
			case bits.By(w(l.Next(slot))) != api.None: // it was taken away
			case bucket:
				s.Map = append(s.Map, p)
			default:
				s.Set = append(s.Set, p.Key)
			}
		}
	}
	slices.SortFunc(s.Map, func(a, b api.Pair) int { return cmp.Compare(a.Key, b.Key) })
	return s
}

// fullRightly fails if ResFull is told where a slot is free, or the log is not full.
func fullRightly(t *testing.T, l *layout.Layout, m *pmem.Mem, who int, o api.Op, r api.Result) {
	if r.Kind != api.ResFull {
		return
	}
	slots, _ := free.List(l, m)
	puts := o.Kind == api.OpEnq || o.Kind == api.OpAdd || o.Kind == api.OpPut
	if puts && len(slots) > 0 || !puts && len(retire.Slots(l, m, who)) < l.Config().Logs {
		t.Errorf("%+v: %+v", o, r)
	}
}

// drawing is a function that draws, always alike.
func drawing() func(n int) int {
	x := uint64(1)
	return func(n int) int {
		x = x*6364136223846793005 + 1442695040888963407
		return int(x >> 33 % uint64(n))
	}
}

// drawn is an operation of a few keys.
func drawn(draw func(n int) int) api.Op {
	return api.Op{Kind: api.OpEnq + draw(8), Key: []uint32{0, 1, 5, 1<<32 - 1}[draw(4)], Val: uint32(draw(3)) * 0x7fffffff}
}

func TestManyAlone(t *testing.T) { // 18.3
	draw := drawing()
	var got [9][6]int
	for _, slots := range []int{1, 2, 4, 10} {
		for _, logs := range []int{1, 3} {
			c := api.Config{Threads: 3, Slots: slots, Logs: logs, Buckets: 2}
			l, m := ground(t, c)
			all := []*thread.Thread{thread.New(l, 0), thread.New(l, 1), thread.New(l, 2)}
			s := api.State{}
			for range 3000 {
				who, o := draw(3), drawn(draw)
				r, steps := does(t, m, all[who], o)
				next, is := model.Allows(s, o, r)
				if !is || steps > 80+10*slots+8*logs {
					t.Errorf("%+v of %+v: %+v, %d steps", o, s, r, steps)
				}
				fullRightly(t, l, m, who, o, r)
				if now, last := held(l, seen(m)), held(l, kept(m)); !model.Same(now, next) || !model.Same(last, next) {
					t.Errorf("%+v of %+v leaves %+v, and %+v is kept", o, s, now, last)
				}
				if t.Failed() {
					t.Fatalf("of %+v", c)
				}
				s = next
				got[o.Kind][r.Kind]++
			}
			if m.Bad() != 0 {
				t.Errorf("%d bad accesses", m.Bad())
			}
		}
	}
	for kind := api.OpEnq; kind <= api.OpCut; kind++ {
		kinds := 0
		for r, n := range got[kind] {
			if r != api.ResNone && n > 20 {
				kinds++
			}
		}
		if want := []int{0, 2, 3, 3, 3, 2, 3, 2, 3}[kind]; kinds != want {
			t.Errorf("the operation %d has %d kinds of results, want %d: %v", kind, kinds, want, got[kind])
		}
	}
}
