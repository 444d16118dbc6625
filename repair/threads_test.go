package repair_test

import (
	"slices"
	"testing"

	"limekiln/api"
	"limekiln/bits"
	"limekiln/free"
	"limekiln/layout"
	"limekiln/mark"
	"limekiln/pmem"
	"limekiln/repair"
	"limekiln/thread"
	"limekiln/view"
)

// runs lets all threads do operations between one another, from their beginning on, and then lets all crash.
func runs(draw func(n int) int, l *layout.Layout, m *pmem.Mem, live []bool, steps int) {
	for s := l.Config().Slots - 1; s >= 0; s-- {
		if live[s] {
			continue
		}
		for x := free.NewPush(l, 0, s); !x.Step(m); {
		}
	}
	all := make([]*thread.Thread, l.Config().Threads)
	for i := range all {
		all[i] = thread.New(l, i)
	}
	for range steps {
		x := all[draw(len(all))]
		x.Invoke(api.Op{Kind: api.OpEnq + draw(8), Key: []uint32{0, 1, 5, 1<<32 - 1}[draw(4)], Val: uint32(draw(3)) * 0x7fffffff})
		x.Step(m)
		if x.Answered() {
			x.Take()
		}
		if draw(6) == 0 {
			m.Device().Evict(draw(l.Lines()))
		}
	}
	m.Crash()
}

func TestBehindCrashesOfThreads(t *testing.T) { // 21.1 to 21.3
	draw := drawing()
	for _, c := range []api.Config{{Threads: 2, Slots: 4, Logs: 1, Buckets: 1}, {Threads: 3, Slots: 8, Logs: 2, Buckets: 2}, {Threads: 5, Slots: 16, Logs: 3, Buckets: 3}} {
		l, m := ground(t, c)
		lay(l, m, l.Head(), node{0, 0, 0, api.None, false})
		put(m, l.Tail(), bits.Link(0, api.None))
		live := make([]bool, c.Slots)
		live[0] = true
		taken := 0
		for range 250 {
			runs(draw, l, m, live, 60+draw(200))
			words := m.Device().Kept()
			held, _ := view.State(l, words)
			taken += takenAway(words, l)
			for draw(3) > 0 {
				broken(t, l, m, draw(60), draw)
			}
			x := marked(l, m)
			r := repair.New(l, draw(c.Threads), x)
			checkCells(t, l, words, x, r, m)
			holds(t, l, m, held)
			live = liveOf(l, words)
			isRepaired(t, l, m, live)
			if !slices.Equal(r.Live(), live) || m.Bad() != 0 {
				t.Errorf("Live = %v, want %v, %d accesses were bad", r.Live(), live, m.Bad())
			}
			if t.Failed() {
				t.Fatalf("of %x", words)
			}
		}
		if taken < 20 {
			t.Errorf("%d slots were taken away", taken)
		}
	}
}

// takenAway is how many slots on the ways of words were taken away.
func takenAway(words []uint64, l *layout.Layout) int {
	many := 0
	places, _ := view.Places(l, words)
	for _, p := range places {
		if !p.Live {
			many++
		}
	}
	return many
}

// checkCells ends a Repair, and fails if a thread that had taken a value, as it was kept at the crash, does not have it in its cell then, or that of another one was changed.
func checkCells(t *testing.T, l *layout.Layout, words []uint64, x *mark.Mark, r *repair.Repair, m *pmem.Mem) {
	t.Helper()
	if x.Corrupt() {
		t.Errorf("corrupt")
	}
	finish(t, r, m)
	want := map[int]uint64{}
	places, _ := view.Places(l, words)
	for i, p := range places {
		if by := bits.By(words[l.Next(p.Slot)]); p.List == 0 && by != api.None {
			was := words[l.Cell(by)]
			want[by] = bits.Cell(bits.Seq(was), true, uint32(words[l.Val(places[i+1].Slot)]))
		}
	}
	kept := m.Device().Kept()
	for who := range l.Config().Threads {
		cell, is := want[who]
		if !is {
			cell = words[l.Cell(who)]
		}
		if kept[l.Cell(who)] != cell {
			t.Errorf("the cell %d is %x, want %x", who, kept[l.Cell(who)], cell)
		}
	}
}
