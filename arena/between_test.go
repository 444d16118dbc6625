package arena_test

import (
	"slices"
	"testing"

	"limekiln/api"
	"limekiln/arena"
	"limekiln/epoch"
	"limekiln/free"
	"limekiln/layout"
	"limekiln/pmem"
	"limekiln/retire"
)

// worker is a machine of any layer.
type worker interface {
	Step(m *pmem.Mem) bool
}

// field has threads that take slots, give them back, and retire them, come in, and go out, between one another.
type field struct {
	l       *layout.Layout
	m       *pmem.Mem
	running []worker // by threads
	had     [][]int  // by threads
	place   []int    // by threads: the place that is reserved for the first slot that it has
	is      []bool   // by threads: whether it is in
	taken   []uint64 // by slots: how often
	takes   int
	none    int // how often none was
}

func newField(t *testing.T, threads, slots, logs int) *field {
	var open []int
	for s := range slots {
		open = append(open, s)
	}
	l, m := ground(t, threads, slots, logs, open...)
	f := &field{l: l, m: m, running: make([]worker, threads), had: make([][]int, threads), is: make([]bool, threads), taken: make([]uint64, slots)}
	for range threads {
		f.place = append(f.place, api.None)
	}
	return f
}

// begin lets a thread begin something, if it can.
func (f *field) begin(thread int, what byte) {
	first := api.None
	if len(f.had[thread]) > 0 {
		first = f.had[thread][0]
	}
	reserved := f.place[thread] != api.None
	switch {
	case what == 't':
		f.running[thread] = arena.NewTake(f.l, thread)
	case what == 'g' && first != api.None && !reserved:
		f.running[thread] = arena.NewGive(f.l, thread, first)
		f.had[thread] = f.had[thread][1:]
	case what == 'r' && first != api.None && !reserved:
		f.running[thread] = retire.NewReserve(f.l, thread, first)
	case what == 's' && reserved:
		f.running[thread] = retire.NewStamp(f.l, thread, f.place[thread], first)
	case what == 'e' && !f.is[thread]:
		f.running[thread] = epoch.NewEnter(f.l, thread)
	case what == 'l' && f.is[thread]:
		f.running[thread] = epoch.NewLeave(f.l, thread)
	}
}

// goOn does a step of a thread, and fails if it is not one access, or a slot is not what it should be behind it.
func (f *field) goOn(t *testing.T, thread int) {
	t.Helper()
	clock := f.m.Clock()
	done := f.running[thread].Step(f.m)
	if f.m.Clock() != clock+1 || f.m.Last().Thread != thread || f.m.Bad() != 0 {
		t.Errorf("a step of the thread %d: %d accesses, the last one %+v, %d bad", thread, f.m.Clock()-clock, f.m.Last(), f.m.Bad())
	}
	if done {
		f.ended(t, thread)
		f.running[thread] = nil
	}
	f.once(t)
}

// ended notes what a machine has done that is done.
func (f *field) ended(t *testing.T, thread int) {
	t.Helper()
	switch x := f.running[thread].(type) {
	case *arena.Take:
		f.took(t, thread, x)
	case *retire.Reserve:
		f.place[thread] = x.Place()
	case *retire.Stamp:
		f.place[thread] = api.None
		f.had[thread] = f.had[thread][1:]
	case *epoch.Enter:
		f.is[thread] = true
	case *epoch.Leave:
		f.is[thread] = false
	}
}

// took notes what a Take took. It fails if that has no new generation, and no intent that lasts, or if none was taken where one is free.
func (f *field) took(t *testing.T, thread int, x *arena.Take) {
	t.Helper()
	s := x.Slot()
	if s == api.None {
		f.none++
		if x.Empty() != f.m.Clock() || x.Holds() != api.None {
			t.Errorf("Empty() = %d, want %d; it holds %d", x.Empty(), f.m.Clock(), x.Holds())
		}
		listed(t, f.l, f.m)
		return
	}
	f.takes++
	f.taken[s]++
	f.had[thread] = append(f.had[thread], s)
	if x.Holds() != s || x.Empty() != api.None {
		t.Errorf("it took %d, and holds %d; Empty() = %d", s, x.Holds(), x.Empty())
	}
	word(t, f.m, f.l.Gen(s), f.taken[s])
	if w := f.m.Device().Kept()[f.l.Intent(thread)]; w != uint64(s+1) {
		t.Errorf("it took %d, the intent is kept as %d", s, w)
	}
}

// once fails if a slot is not just one of: free, had, held, or in one log; what is reserved for a slot that is had is passed over.
func (f *field) once(t *testing.T) {
	t.Helper()
	all, is := free.List(f.l, f.m)
	for i := range f.running {
		all = append(all, f.had[i]...)
		if x, ok := f.running[i].(machine); ok && x.Holds() != api.None {
			all = append(all, x.Holds())
		}
		for _, s := range retire.Slots(f.l, f.m, i) {
			if !slices.Contains(f.had[i], s) {
				all = append(all, s)
			}
		}
	}
	slices.Sort(all)
	for s := range f.l.Config().Slots {
		is = is && s < len(all) && all[s] == s
	}
	if !is || len(all) != f.l.Config().Slots {
		t.Errorf("slots that are free, had, held, or retired: %v", all)
	}
}

// plays lets threads do what they are to do, picked as said, and tells which of them still have something to do.
func plays(t *testing.T, slots int, plan []string, picks []int) []int {
	t.Helper()
	f := newField(t, len(plan), slots, 1)
	at := make([]int, len(plan))
	begin := func(thread int) {
		for f.running[thread] == nil && at[thread] < len(plan[thread]) {
			f.begin(thread, plan[thread][at[thread]])
			at[thread]++
		}
	}
	for i := range plan {
		begin(i)
	}
	for _, i := range picks {
		f.goOn(t, i)
		begin(i)
	}
	var left []int
	for i := range plan {
		if f.running[i] != nil {
			left = append(left, i)
		}
	}
	return left
}

// orders goes over all orders in which threads can be picked till nobody has anything to do, up to so many picks, and tells how many there are.
func orders(t *testing.T, slots int, plan []string, picks []int, most int) int {
	t.Helper()
	left := plays(t, slots, plan, picks)
	if t.Failed() {
		t.Fatalf("of %d slots, %v, picked %v", slots, plan, picks)
	}
	if len(left) == 0 || len(picks) == most {
		return 1
	}
	n := 0
	for _, i := range left {
		n += orders(t, slots, plan, append(slices.Clone(picks), i), most)
	}
	return n
}

func TestAllOrdersOfTwo(t *testing.T) { // 12.3
	for _, x := range []struct {
		slots int
		plan  []string
	}{
		{1, []string{"t", "t"}},
		{1, []string{"tg", "t"}},
		{1, []string{"tgt", "tg"}},
		{2, []string{"t", "tgt"}},
		{2, []string{"tg", "tg"}},
		{1, []string{"trst", "t"}},
	} {
		if n := orders(t, x.slots, x.plan, nil, 13); n < 1000 {
			t.Errorf("only %d orders of %v", n, x.plan)
		}
	}
}

func TestManyBetweenOneAnother(t *testing.T) { // 12.3
	x := uint64(1)
	draw := func(n int) int {
		x = x*6364136223846793005 + 1442695040888963407
		return int(x >> 33 % uint64(n))
	}
	for _, threads := range []int{1, 2, 3, 5} {
		for _, slots := range []int{1, 3, 6} {
			f := newField(t, threads, slots, 2)
			for range 20000 {
				i := draw(threads)
				for f.running[i] == nil {
					f.begin(i, "tttggrrssell"[draw(12)])
				}
				f.goOn(t, i)
				if t.Failed() {
					t.Fatalf("of %d threads, %d slots", threads, slots)
				}
			}
			if f.takes < 50 || f.none < 50 {
				t.Errorf("of %d threads, %d slots: only %d slots were taken, %d times none", threads, slots, f.takes, f.none)
			}
		}
	}
}
