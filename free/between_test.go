package free_test

import (
	"slices"
	"testing"

	"limekiln/api"
	"limekiln/free"
	"limekiln/layout"
	"limekiln/pmem"
)

// field is a free list that threads take from and give back to, between one another, with what it is held against: a list in order, and who has which slots.
type field struct {
	l    *layout.Layout
	m    *pmem.Mem
	want []int
	had  [][]int // by threads
	pop  []*free.Pop
	push []*free.Push
}

func newField(t *testing.T, threads, slots int) *field {
	l, m := ground(t, threads, slots)
	f := &field{l: l, m: m, had: make([][]int, threads), pop: make([]*free.Pop, threads), push: make([]*free.Push, threads)}
	for s := range slots {
		f.want = append(f.want, s)
	}
	lay(l, m, 0, f.want...)
	return f
}

// busy tells whether a thread is amid something.
func (f *field) busy(thread int) bool {
	return f.pop[thread] != nil || f.push[thread] != nil
}

// take lets a thread begin to take a slot.
func (f *field) take(thread int) {
	f.pop[thread] = free.NewPop(f.l, thread)
}

// give lets a thread begin to give the slot back that it has had for longest, if it has one.
func (f *field) give(thread int) {
	if len(f.had[thread]) > 0 {
		f.push[thread] = free.NewPush(f.l, thread, f.had[thread][0])
	}
}

// goOn does a step of a thread, and fails if the list is not what it should be behind it.
func (f *field) goOn(t *testing.T, thread int) {
	t.Helper()
	clock := f.m.Clock()
	switch {
	case f.pop[thread] != nil:
		if f.pop[thread].Step(f.m) {
			f.took(t, thread)
		}
	case f.push[thread] != nil:
		if f.push[thread].Step(f.m) {
			f.want = slices.Insert(f.want, 0, f.had[thread][0])
			f.had[thread] = f.had[thread][1:]
			f.push[thread] = nil
		}
	}
	if f.m.Clock() != clock+1 || f.m.Last().Thread != thread || f.m.Bad() != 0 {
		t.Errorf("a step of the thread %d: %d accesses, the last one %+v, %d bad", thread, f.m.Clock()-clock, f.m.Last(), f.m.Bad())
	}
	listed(t, f.l, f.m, true, f.want...)
}

// took notes what a Pop has that is done.
func (f *field) took(t *testing.T, thread int) {
	t.Helper()
	slot := f.pop[thread].Slot()
	f.pop[thread] = nil
	if len(f.want) == 0 {
		if slot != api.None {
			t.Errorf("the thread %d takes %d, and none is free", thread, slot)
		}
		return
	}
	if slot != f.want[0] {
		t.Errorf("the thread %d takes %d, want %d", thread, slot, f.want[0])
		return
	}
	f.want = f.want[1:]
	f.had[thread] = append(f.had[thread], slot)
}

// once fails if a slot is not in the list once, or had by one.
func (f *field) once(t *testing.T) {
	t.Helper()
	all := slices.Clone(f.want)
	for _, l := range f.had {
		all = append(all, l...)
	}
	slices.Sort(all)
	for s, got := range all {
		if got != s {
			t.Errorf("slots that are free, or had: %v", all)
			return
		}
	}
}

// plays lets threads do what they are to do ("t" takes, "g" gives), picked as said, and tells which of them still have something to do.
func plays(t *testing.T, slots int, plan []string, picks []int) []int {
	t.Helper()
	f := newField(t, len(plan), slots)
	at := make([]int, len(plan))
	begin := func(thread int) {
		for !f.busy(thread) && at[thread] < len(plan[thread]) {
			if plan[thread][at[thread]] == 't' {
				f.take(thread)
			} else {
				f.give(thread)
			}
			at[thread]++
		}
	}
	for i := range plan {
		begin(i)
	}
	for _, i := range picks {
		f.goOn(t, i)
		f.once(t)
		begin(i)
	}
	var left []int
	for i := range plan {
		if f.busy(i) {
			left = append(left, i)
		}
	}
	return left
}

// orders goes over all orders in which threads can be picked till nobody has anything to do, up to so many picks, and tells how many there are.
func orders(t *testing.T, slots int, plan []string, picks []int, most int) int {
	t.Helper()
	left := plays(t, slots, plan, picks)
	if t.Failed() {
		t.Fatalf("of %d slots, %v, picked %v", slots, plan, picks)
	}
	if len(left) == 0 || len(picks) == most {
		return 1
	}
	n := 0
	for _, i := range left {
		n += orders(t, slots, plan, append(slices.Clone(picks), i), most)
	}
	return n
}

func TestAllOrdersOfTwo(t *testing.T) { // 9.4
	for _, x := range []struct {
		slots int
		plan  []string
	}{
		{1, []string{"tg", "t"}},
		{1, []string{"tg", "tg"}},
		{2, []string{"t", "ttg"}}, // the top comes back, and what is behind it is another one
		{3, []string{"tg", "t"}},
	} {
		n := orders(t, x.slots, x.plan, nil, 15)
		if n < 20 {
			t.Errorf("only %d orders of %v", n, x.plan)
		}
	}
}

func TestManyBetweenOneAnother(t *testing.T) { // 9.4
	x := uint64(1)
	draw := func(n int) int {
		x = x*6364136223846793005 + 1442695040888963407
		return int(x >> 33 % uint64(n))
	}
	for _, slots := range []int{1, 2, 3, 7} {
		f := newField(t, 4, slots)
		for range 20000 {
			i := draw(4)
			if !f.busy(i) {
				if draw(2) == 0 {
					f.take(i)
				} else {
					f.give(i)
				}
			}
			if f.busy(i) {
				f.goOn(t, i)
				f.once(t)
			}
			if t.Failed() {
				t.Fatalf("of %d slots", slots)
			}
		}
	}
}
