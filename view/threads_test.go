package view_test

import (
	"slices"
	"testing"

	"limekiln/api"
	"limekiln/bits"
	"limekiln/free"
	"limekiln/layout"
	"limekiln/model"
	"limekiln/pdev"
	"limekiln/pmem"
	"limekiln/thread"
	"limekiln/view"
)

// ground is a layout, and the memory of an empty store, all of whose other slots are free.
func ground(t *testing.T, c api.Config) (*layout.Layout, *pmem.Mem) {
	t.Helper()
	l := of(t, c)
	words := empty(l)
	words[l.Tail()] = bits.Link(0, api.None)
	d, e := pdev.Open(words, c.Threads)
	if e != api.OK {
		t.Fatalf("pdev.Open: %v", e)
	}
	m, e := pmem.New(d, l.Passing())
	if e != api.OK {
		t.Fatalf("pmem.New: %v", e)
	}
	for s := c.Slots - 1; s > 0; s-- {
		for x := free.NewPush(l, 0, s); !x.Step(m); {
		}
	}
	return l, m
}

// does lets a thread do an operation.
func does(t *testing.T, m *pmem.Mem, x *thread.Thread, o api.Op) api.Result {
	t.Helper()
	e := x.Invoke(o)
	for n := 0; n < 2000 && x.Step(m); n++ {
	}
	r, e2 := x.Take()
	if e != api.OK || e2 != api.OK {
		t.Fatalf("%+v: %v, %v", o, e, e2)
	}
	return r
}

// drawn is an operation of a few keys.
func drawn(draw func(n int) int) api.Op {
	return api.Op{Kind: api.OpEnq + draw(8), Key: []uint32{0, 1, 5, 1<<32 - 1}[draw(4)], Val: uint32(draw(3)) * 0x7fffffff}
}

func TestExample(t *testing.T) { // example 1
	l, m := ground(t, api.Config{Threads: 1, Slots: 3, Logs: 1, Buckets: 1})
	x := thread.New(l, 0)
	does(t, m, x, api.Op{Kind: api.OpEnq, Val: 5})
	does(t, m, x, api.Op{Kind: api.OpAdd, Key: 4})
	is(t, "seen", l, m.Device().Seen(), []view.Place{{Slot: 0, List: 0, Live: true}, {Slot: 1, List: 0, Live: true}, {Slot: 2, List: 1, Live: true}}, api.State{Queue: []uint32{5}, Set: []uint32{4}})
	is(t, "kept", l, m.Device().Kept(), []view.Place{{Slot: 0, List: 0, Live: true}, {Slot: 1, List: 0, Live: true}, {Slot: 2, List: 1, Live: true}}, api.State{Queue: []uint32{5}, Set: []uint32{4}})
}

func TestOneThreadDoesWhatIsMeant(t *testing.T) { // 19.2
	draw := drawing()
	for _, slots := range []int{2, 4, 12} {
		l, m := ground(t, api.Config{Threads: 1, Slots: slots, Logs: 2, Buckets: 3})
		x, s := thread.New(l, 0), api.State{}
		for range 2000 {
			o := drawn(draw)
			next, may := model.Allows(s, o, does(t, m, x, o))
			for _, words := range [][]uint64{m.Device().Seen(), m.Device().Kept()} {
				held, e := view.State(l, words)
				if !may || e != api.OK || !model.Same(held, next) {
					t.Fatalf("%+v of %+v: %+v, %v, want %+v", o, s, held, e, next)
				}
			}
			s = next
		}
	}
}

func TestThreadsLeaveAStore(t *testing.T) { // 19.1, 19.3
	draw := drawing()
	for _, c := range []api.Config{{Threads: 2, Slots: 4, Logs: 1, Buckets: 1}, {Threads: 3, Slots: 7, Logs: 2, Buckets: 2}, {Threads: 5, Slots: 14, Logs: 3, Buckets: 3}} {
		l, m := ground(t, c)
		all := make([]*thread.Thread, c.Threads)
		for i := range all {
			all[i] = thread.New(l, i)
		}
		taken := 0
		for range 8000 {
			x := all[draw(c.Threads)]
			x.Invoke(drawn(draw))
			x.Step(m)
			if x.Answered() {
				x.Take()
			}
			if draw(3) == 0 {
				m.Device().Evict(draw(l.Lines()))
			}
			for _, words := range [][]uint64{m.Device().Seen(), m.Device().Kept()} {
				if !holds(t, l, words) {
					t.Fatalf("%x are no store's", words)
				}
				places, _ := view.Places(l, words)
				if slices.ContainsFunc(places, func(p view.Place) bool { return !p.Live }) {
					taken++
				}
			}
		}
		if taken < 500 {
			t.Errorf("%d of them have slots that were taken away", taken)
		}
	}
}
