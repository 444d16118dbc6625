package queue_test

import (
	"slices"
	"testing"

	"limekiln/api"
	"limekiln/bits"
	"limekiln/free"
	"limekiln/layout"
	"limekiln/model"
	"limekiln/pmem"
	"limekiln/queue"
	"limekiln/retire"
)

// words are what is seen, or what is kept, by the words' numbers.
type words func(at int) uint64

func seen(m *pmem.Mem) words {
	return func(at int) uint64 {
		w, _ := m.Peek(at)
		return w
	}
}

func kept(m *pmem.Mem) words {
	all := m.Device().Kept()
	return func(at int) uint64 { return all[at] }
}

// way is the slots of the queue by words, from the head on; of one that goes round, no more than there are slots.
func way(l *layout.Layout, w words) []int {
	var all []int
	at := l.Head()
	for range l.Config().Slots {
		s := bits.To(w(at))
		if s == api.None {
			break
		}
		all = append(all, s)
		at = l.Next(s)
	}
	return all
}

// held is what the queue holds by words: the values behind the first slot whose link has no thread.
func held(l *layout.Layout, w words) api.State {
	var s api.State
	past := false
	for _, slot := range way(l, w) {
		if past {
			s.Queue = append(s.Queue, uint32(w(l.Val(slot))))
		}
		past = past || bits.By(w(l.Next(slot))) == api.None
	}
	return s
}

// alone lets a Work be alone, and fails if it answers something else than the model, leaves something else, or lets anything last but what was, or what is.
func alone(t *testing.T, l *layout.Layout, m *pmem.Mem, thread int, o api.Op) api.Result {
	t.Helper()
	before := held(l, seen(m))
	after, _ := model.Apply(before, o)
	cell, _ := m.Peek(l.Cell(thread))
	x := queue.New(l, thread, o)
	clock, bad := m.Clock(), m.Bad()
	for n := 1; !x.Step(m); n++ {
		if m.Clock() != clock+n || m.Last().Thread != thread || n > 500 {
			t.Fatalf("%+v: %d accesses in %d steps, the last one %+v", o, m.Clock()-clock, n, m.Last())
		}
		if now := held(l, kept(m)); !model.Same(now, before) && !model.Same(now, after) {
			t.Errorf("%+v of %+v: amid it %+v is kept", o, before, now)
		}
	}
	want, is := model.Allows(before, o, x.Result())
	if !is || m.Bad() != bad {
		t.Errorf("%+v of %+v: %+v; %d bad accesses", o, before, x.Result(), m.Bad()-bad)
	}
	if now, last := held(l, seen(m)), held(l, kept(m)); !model.Same(now, want) || !model.Same(last, want) {
		t.Errorf("%+v of %+v leaves %+v, and %+v is kept, want %+v", o, before, now, last, want)
	}
	told(t, x, m, clock)
	if o.Kind == api.OpDeq {
		taken := x.Result().Kind == api.ResOK
		said(t, l, kept(m), thread, bits.Cell(bits.Seq(cell)+1, taken, x.Result().Val))
	}
	return x.Result()
}

// told fails if what a Work that is done tells is not of its result, or not of the time since it began.
func told(t *testing.T, x *queue.Work, m *pmem.Mem, begun int) {
	ok := x.Result().Kind == api.ResOK
	if x.When() <= begun || x.When() > m.Clock() || ok != (x.Where() != api.None) || x.Holds() != api.None {
		t.Errorf("%+v, from %d to %d: When() = %d, Where() = %d, Holds() = %d", x.Result(), begun, m.Clock(), x.When(), x.Where(), x.Holds())
	}
	if ok && m.Writes(x.Where()) <= x.Writes() || !ok && x.Writes() != 0 {
		t.Errorf("%+v: Writes() = %d, and %d by now", x.Result(), x.Writes(), m.Writes(x.Where()))
	}
}

// said fails if another cell of a thread is kept.
func said(t *testing.T, l *layout.Layout, w words, thread int, want uint64) {
	if got := w(l.Cell(thread)); got != want {
		t.Errorf("the cell of the thread %d is kept as %#x, want %#x", thread, got, want)
	}
}

// dry tells whether no slot is free, and stuffed whether a log is full.
func dry(l *layout.Layout, m *pmem.Mem) bool {
	slots, _ := free.List(l, m)
	return len(slots) == 0
}

func stuffed(l *layout.Layout, m *pmem.Mem, thread int) bool {
	return len(retire.Slots(l, m, thread)) == l.Config().Logs
}

// fullRightly fails if ResFull is told where a slot is free, or the log is not full.
func fullRightly(t *testing.T, l *layout.Layout, m *pmem.Mem, thread int, o api.Op, r api.Result) {
	if r != full {
		return
	}
	if o.Kind == api.OpEnq && !dry(l, m) || o.Kind == api.OpDeq && !stuffed(l, m, thread) {
		t.Errorf("%+v: %+v", o, r)
	}
}

// soil lets each of the nodes' links be dirty of which a set says so.
func soil(l *layout.Layout, m *pmem.Mem, nodes []node, set int) {
	for i, n := range nodes {
		if set>>i&1 == 1 {
			w, _ := m.Peek(l.Next(n.slot))
			m.Store(0, l.Next(n.slot), bits.Soil(w))
		}
	}
}

func TestAllQueuesOfUpToThree(t *testing.T) { // 17.3: alone, of any that were taken by threads that stopped, wherever the tail is, and any of the links dirty
	slots := []int{2, 4, 0, 5}
	for n := 1; n <= len(slots); n++ {
		for taken := range n {
			for tail := range n {
				for mix := range 1 << (n + 4) {
					none, stuck, done := mix&1 == 1, mix>>1&1 == 1, mix>>2&1 == 1
					o := api.Op{Kind: api.OpEnq + mix>>3&1, Val: 99}
					l, m := ground(t, 4, 7, 1)
					var nodes []node
					for i, s := range slots[:n] {
						nodes = append(nodes, node{s, uint64(i + 50), api.None})
						if i < taken {
							nodes[i].by = i
							m.Store(0, l.Cell(i), bits.Cell(8, done, uint32(i+51)*uint32(mix>>2&1)))
						}
					}
					lay(l, m, tail, nodes...)
					soil(l, m, nodes, mix>>4)
					if !none {
						open(l, m, 1, 6)
					}
					if stuck {
						m.Store(0, l.Log(3, 0), bits.Entry(3, 7))
					}
					r := alone(t, l, m, 3, o)
					if o.Kind == api.OpDeq {
						for i := range taken {
							said(t, l, kept(m), i, bits.Cell(8, true, uint32(i+51)))
						}
					}
					if r == full && o.Kind == api.OpEnq && !none || r == full && o.Kind == api.OpDeq && !stuck {
						t.Errorf("%+v", r)
					}
					if t.Failed() {
						t.Fatalf("of %d slots, %d taken, the tail's the slot %d, by %b", n, taken, tail, mix)
					}
				}
			}
		}
	}
}

func TestManyAlone(t *testing.T) { // 17.3: till slots, and places of logs, are few
	x := uint64(1)
	draw := func(n int) int {
		x = x*6364136223846793005 + 1442695040888963407
		return int(x >> 33 % uint64(n))
	}
	for _, slots := range []int{1, 2, 4, 7} {
		for _, logs := range []int{1, 2, 9} {
			l, m := ground(t, 3, slots, logs)
			lay(l, m, 0, node{0, 0, api.None})
			open(l, m, []int{1, 2, 3, 4, 5, 6}[:slots-1]...)
			var got [9][6]int
			for range 2000 {
				thread := draw(3)
				o := api.Op{Kind: api.OpEnq + draw(2), Key: uint32(draw(3)), Val: uint32(draw(4)) * 0x55555555}
				r := alone(t, l, m, thread, o)
				fullRightly(t, l, m, thread, o, r)
				got[o.Kind][r.Kind]++
				if t.Failed() {
					t.Fatalf("of %d slots, and logs of %d", slots, logs)
				}
			}
			if got[api.OpEnq][api.ResFull] < 20 || got[api.OpDeq][api.ResEmpty] < 20 || slots > 1 && got[api.OpEnq][api.ResOK] < 100 {
				t.Errorf("of %d slots, and logs of %d: %v", slots, logs, got)
			}
		}
	}
}

func TestOneBehindTheOther(t *testing.T) { // 17.3: many values, by threads in turn
	l, m := ground(t, 3, 40, 20)
	lay(l, m, 0, node{0, 0, api.None})
	var slots []int
	for s := range 39 {
		slots = append(slots, s+1)
	}
	open(l, m, slots...)
	var got []uint32
	for i := range 39 {
		alone(t, l, m, i%3, api.Op{Kind: api.OpEnq, Val: uint32(i*i + 7)})
	}
	for i := range 39 {
		got = append(got, alone(t, l, m, i%3, api.Op{Kind: api.OpDeq}).Val)
	}
	for i, val := range got {
		if val != uint32(i*i+7) {
			t.Errorf("the value %d is %d", i, val)
		}
	}
	if rest := way(l, kept(m)); !slices.Equal(rest, []int{39}) {
		t.Errorf("the queue's slots are %v", rest)
	}
}
