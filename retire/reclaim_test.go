package retire_test

import (
	"math"
	"slices"
	"testing"

	"limekiln/api"
	"limekiln/bits"
	"limekiln/free"
	"limekiln/layout"
	"limekiln/pmem"
	"limekiln/retire"
)

// holds fails if a Reclaim holds another slot, or has given back another number of them.
func holds(t *testing.T, x *retire.Reclaim, slot, count int) {
	t.Helper()
	if x.Holds() != slot || x.Count() != count {
		t.Errorf("holds %d, has given back %d, want %d, %d", x.Holds(), x.Count(), slot, count)
	}
}

// given fails if the free list is another one.
func given(t *testing.T, l *layout.Layout, m *pmem.Mem, want ...int) {
	t.Helper()
	if got, is := free.List(l, m); !is || !slices.Equal(got, want) {
		t.Errorf("List: %v, %v, want %v", got, is, want)
	}
}

// loads fails if a step is another one than a load.
func loads(t *testing.T, m *pmem.Mem, x machine, at int, old uint64, done bool) {
	t.Helper()
	step(t, m, x, api.Access{Kind: api.AcLoad, Thread: 1, At: at, Old: old, Done: true}, done)
}

func TestReclaimOfAnEmptyLog(t *testing.T) { // 11.2
	for _, logs := range []int{1, 2, 8, 9, 64} {
		l, m := ground(t, 2, 1, logs)
		fill(l, m, 0, bits.Entry(0, 0))
		m.Store(0, l.Epoch(), 99)
		x := retire.NewReclaim(l, 1)
		holds(t, x, api.None, 0)
		loads(t, m, x, l.Epoch(), 99, false)
		for place := range logs {
			loads(t, m, x, l.Log(1, place), 0, place == logs-1)
		}
		fill(l, m, 1, bits.Entry(0, 0))
		idle(t, m, x)
		holds(t, x, api.None, 0)
		slots(t, l, m, 0, 0) // another one's log is not touched
		given(t, l, m)
	}
}

func TestReclaimStepByStep(t *testing.T) { // 11.2
	l, m := ground(t, 2, 6, 6)
	words := []uint64{bits.Entry(4, 5), 0, bits.Entry(2, api.None), bits.Entry(3, 6), bits.Entry(api.None, 1), bits.Entry(0, 2)}
	fill(l, m, 1, words...)
	m.Store(0, l.Epoch(), 7)
	x := retire.NewReclaim(l, 1)
	back := func(place, slot, behind, count int, done bool) { // the slot of an entry is given back
		t.Helper()
		loads(t, m, x, l.Log(1, place), words[place], false)
		holds(t, x, api.None, count)
		step(t, m, x, api.Access{Kind: api.AcStore, Thread: 1, At: l.Log(1, place), Old: words[place], Done: true}, false)
		holds(t, x, slot, count)
		top := bits.Top(behind, uint32(count))
		loads(t, m, x, l.Free(), top, false)
		holds(t, x, slot, count)
		step(t, m, x, api.Access{Kind: api.AcStore, Thread: 1, At: l.After(slot), New: uint64(behind + 1), Done: true}, false)
		holds(t, x, slot, count)
		step(t, m, x, api.Access{Kind: api.AcSwap, Thread: 1, At: l.Free(), Old: top, New: bits.Top(slot, uint32(count+1)), Done: true}, done)
		holds(t, x, api.None, count+1)
	}
	loads(t, m, x, l.Epoch(), 7, false)
	back(0, 4, api.None, 0, false)
	for place := 1; place < 5; place++ {
		loads(t, m, x, l.Log(1, place), words[place], false)
		holds(t, x, api.None, 1)
	}
	back(5, 0, 4, 1, true)
	idle(t, m, x)
	holds(t, x, api.None, 2)
	slots(t, l, m, 1, 2, 3, api.None)
	given(t, l, m, 0, 4)
	kept(t, l, m, 1, 0, words[0]) // it lets nothing last
}

func TestReclaimOfEachStamp(t *testing.T) { // 11.2: at least 2 below the epoch
	for _, x := range []struct {
		stamp int
		epoch uint64
		back  bool
	}{
		{0, 0, false},
		{0, 1, false},
		{0, 2, true},
		{0, 3, true},
		{5, 4, false},
		{5, 5, false},
		{5, 6, false},
		{5, 7, true},
		{5, 8, true},
		{1 << 31, 1, false},
		{1<<32 - 2, 0, false},
		{1<<32 - 2, 1<<32 - 1, false},
		{1<<32 - 2, 1 << 32, true},
		{1<<32 - 2, 1<<63 - 1, true},
		{0, 1 << 63, true},
		{0, math.MaxUint64, true},
		{api.None, 0, false},
		{api.None, 1, false},
		{api.None, 2, false},
		{api.None, math.MaxUint64, false},
	} {
		l, m := ground(t, 2, 3, 1)
		fill(l, m, 1, bits.Entry(2, x.stamp))
		m.Store(0, l.Epoch(), x.epoch)
		r := retire.NewReclaim(l, 1)
		n := ends(t, m, r)
		if x.back {
			holds(t, r, api.None, 1)
			slots(t, l, m, 1)
			given(t, l, m, 2)
		} else {
			holds(t, r, api.None, 0)
			logged(t, l, m, 1, bits.Entry(2, x.stamp))
			given(t, l, m)
		}
		if want := map[bool]int{true: 6, false: 2}[x.back]; n != want {
			t.Errorf("%d steps, want %d", n, want)
		}
		if t.Failed() {
			t.Fatalf("of the stamp %d by the epoch %d", x.stamp, x.epoch)
		}
	}
}

func TestReclaimPassesWhatHasNoSlot(t *testing.T) { // 11.2
	l, m := ground(t, 2, 3, 2)
	fill(l, m, 1, bits.Entry(api.None, 0), bits.Entry(1, 0))
	m.Store(0, l.Epoch(), 100)
	r := retire.NewReclaim(l, 1)
	ends(t, m, r)
	holds(t, r, api.None, 1)
	slots(t, l, m, 1, api.None)
	given(t, l, m, 1)
}

func TestReclaimHoldsAgainstTheEpochThatWasLoaded(t *testing.T) { // 11.2
	l, m := ground(t, 1, 3, 2)
	fill(l, m, 0, bits.Entry(1, 5), bits.Entry(2, 6))
	m.Store(0, l.Epoch(), 7)
	a := retire.NewReclaim(l, 0)
	a.Step(m)
	m.Store(0, l.Epoch(), 8)
	ends(t, m, a)
	holds(t, a, api.None, 1)
	slots(t, l, m, 0, 2)

	b := retire.NewReclaim(l, 0)
	b.Step(m)
	m.Store(0, l.Epoch(), 0)
	ends(t, m, b)
	holds(t, b, api.None, 1)
	slots(t, l, m, 0)
}

func TestReclaimHoldsWhileTheTopIsAnotherOne(t *testing.T) { // 11.2: the Push tries again
	l, m := ground(t, 2, 4, 2)
	fill(l, m, 1, bits.Entry(3, 0), bits.Entry(1, 0))
	m.Store(0, l.Epoch(), 2)
	x := retire.NewReclaim(l, 1)
	for range 3 {
		x.Step(m)
	}
	for range 3 { // another thread is quicker
		x.Step(m)
		x.Step(m)
		w, _ := m.Peek(l.Free())
		m.Store(0, l.Free(), bits.Top(bits.To(w), bits.Ver(w)+1))
		if x.Step(m) {
			t.Errorf("done by a swap that fails")
		}
		holds(t, x, 3, 0)
		slots(t, l, m, 1, 1)
		given(t, l, m)
	}
	for range 2 {
		x.Step(m)
		holds(t, x, 3, 0)
	}
	x.Step(m)
	holds(t, x, api.None, 1)
	given(t, l, m, 3)
	if n := ends(t, m, x); n != 5 {
		t.Errorf("%d steps for the second entry", n)
	}
	holds(t, x, api.None, 2)
	given(t, l, m, 1, 3)
}

func TestReclaimOfAFullLog(t *testing.T) { // 11.2, 11.4
	for _, logs := range []int{1, 7, 8, 9, 64} {
		l, m := ground(t, 2, 64, logs)
		m.Store(0, l.Epoch(), 3)
		var want []int
		for place := range logs {
			slot := (place*5 + 2) % 64
			r := retire.NewReserve(l, 1, slot)
			if n := ends(t, m, r); n != place+4 {
				t.Errorf("%d steps for the place %d", n, place)
			}
			placed(t, r, place)
			ends(t, m, retire.NewStamp(l, 1, place, slot))
			want = append(want, slot)
		}
		slots(t, l, m, 1, want...)
		m.Store(0, l.Epoch(), 5)
		x := retire.NewReclaim(l, 1)
		if n := ends(t, m, x); n != 1+5*logs {
			t.Errorf("%d steps of %d entries", n, logs)
		}
		holds(t, x, api.None, logs)
		slices.Reverse(want)
		given(t, l, m, want...)
		slots(t, l, m, 1)
		y := retire.NewReserve(l, 1, 9)
		ends(t, m, y)
		placed(t, y, 0)
	}
}

func TestReclaimOfSlotsThatThereAreNot(t *testing.T) { // 11.2: an entry that has a slot is told by its words alone
	l, m := ground(t, 1, 3, 1)
	fill(l, m, 0, bits.Entry(3, 0))
	m.Store(0, l.Epoch(), 2)
	x := retire.NewReclaim(l, 0)
	for range 3 {
		x.Step(m)
	}
	holds(t, x, 3, 0)
	x.Step(m)
	step(t, m, x, api.Access{Kind: api.AcStore, At: l.Lines() * 8}, false)
	step(t, m, x, api.Access{Kind: api.AcSwap, At: l.Free(), New: bits.Top(3, 1), Done: true}, true)
	holds(t, x, api.None, 1)
}
