package retire_test

import (
	"slices"
	"testing"

	"limekiln/api"
	"limekiln/bits"
	"limekiln/epoch"
	"limekiln/free"
	"limekiln/layout"
	"limekiln/pmem"
	"limekiln/retire"
)

// looker is a thread that was in as a slot was stamped, and which time it was that it had come in.
type looker struct {
	thread, time int
}

// field has threads that take slots, retire them, and give them back, come in, go out, and advance, between one another.
type field struct {
	l       *layout.Layout
	m       *pmem.Mem
	running []machine // by threads
	had     [][]int   // by threads: who had taken them has not stamped them
	place   []int     // by threads: the place that is reserved for the first slot that it has
	is      []bool    // by threads: whether it is in
	times   []int     // by threads: how often it came in
	may     [][]looker
	back    int
}

func newField(t *testing.T, threads, slots, logs int) *field {
	l, m := ground(t, threads, slots, logs)
	f := &field{l: l, m: m, running: make([]machine, threads), had: make([][]int, threads), is: make([]bool, threads), times: make([]int, threads), may: make([][]looker, slots)}
	for range threads {
		f.place = append(f.place, api.None)
	}
	return f
}

// begin lets a thread begin something, if it can.
func (f *field) begin(thread int, what byte) {
	first := api.None
	if len(f.had[thread]) > 0 {
		first = f.had[thread][0]
	}
	reserved := f.place[thread] != api.None
	switch {
	case what == 't':
		f.running[thread] = free.NewPop(f.l, thread)
	case what == 'r' && first != api.None && !reserved:
		f.running[thread] = retire.NewReserve(f.l, thread, first)
	case what == 'c' && reserved:
		f.running[thread] = retire.NewCancel(f.l, thread, f.place[thread])
	case what == 's' && reserved:
		f.running[thread] = retire.NewStamp(f.l, thread, f.place[thread], first)
	case what == 'g':
		f.running[thread] = retire.NewReclaim(f.l, thread)
	case what == 'e' && !f.is[thread]:
		f.running[thread] = epoch.NewEnter(f.l, thread)
	case what == 'l' && f.is[thread]:
		f.running[thread] = epoch.NewLeave(f.l, thread)
	case what == 'a':
		f.running[thread] = epoch.NewAdvance(f.l, thread)
	}
}

// goOn does a step of a thread, and fails if it is not one access, or a slot is not what it should be behind it.
func (f *field) goOn(t *testing.T, thread int) {
	t.Helper()
	clock := f.m.Clock()
	done := f.running[thread].Step(f.m)
	if f.m.Clock() != clock+1 || f.m.Last().Thread != thread || f.m.Bad() != 0 {
		t.Errorf("a step of the thread %d: %d accesses, the last one %+v, %d bad", thread, f.m.Clock()-clock, f.m.Last(), f.m.Bad())
	}
	switch x := f.running[thread].(type) {
	case *retire.Stamp:
		if last := f.m.Last(); last.Kind == api.AcLoad {
			f.may[f.had[thread][0]] = f.lookers()
		}
	case *retire.Reclaim:
		f.unseen(t, x.Holds())
	}
	if done {
		f.ended(thread)
		f.running[thread] = nil
	}
	f.once(t)
}

// lookers are the threads that are in.
func (f *field) lookers() []looker {
	var l []looker
	for i, is := range f.is {
		if is {
			l = append(l, looker{i, f.times[i]})
		}
	}
	return l
}

// unseen fails if somebody can look at a slot still that is about to be given back.
func (f *field) unseen(t *testing.T, slot int) {
	t.Helper()
	if slot == api.None {
		return
	}
	for _, x := range f.may[slot] {
		if f.is[x.thread] && f.times[x.thread] == x.time {
			t.Errorf("the slot %d is given back, and the thread %d is in since it was stamped", slot, x.thread)
		}
	}
}

// ended notes what a machine has done that is done.
func (f *field) ended(thread int) {
	switch x := f.running[thread].(type) {
	case *free.Pop:
		if x.Slot() != api.None {
			f.had[thread] = append(f.had[thread], x.Slot())
		}
	case *retire.Reserve:
		f.place[thread] = x.Place()
	case *retire.Cancel:
		f.place[thread] = api.None
	case *retire.Stamp:
		f.place[thread] = api.None
		f.had[thread] = f.had[thread][1:]
	case *retire.Reclaim:
		f.back += x.Count()
	case *epoch.Enter:
		f.is[thread] = true
		f.times[thread]++
	case *epoch.Leave:
		f.is[thread] = false
	}
}

// once fails if a slot is not just one of: free, had, held, or in one log; what is reserved for a slot that is had is passed over.
func (f *field) once(t *testing.T) {
	t.Helper()
	all, is := free.List(f.l, f.m)
	for i := range f.running {
		all = append(all, f.had[i]...)
		if x, ok := f.running[i].(*retire.Reclaim); ok && x.Holds() != api.None {
			all = append(all, x.Holds())
		}
		for _, s := range retire.Slots(f.l, f.m, i) {
			if !slices.Contains(f.had[i], s) {
				all = append(all, s)
			}
		}
	}
	slices.Sort(all)
	for s := range f.l.Config().Slots {
		is = is && s < len(all) && all[s] == s
	}
	if !is || len(all) != f.l.Config().Slots {
		t.Errorf("slots that are free, had, held, or retired: %v", all)
	}
}

// plays lets threads do what they are to do, picked as said, from one slot on that the thread 0 has reserved an entry for, and tells which of them still have something to do, and how many slots were given back.
func plays(t *testing.T, plan []string, picks []int) ([]int, int) {
	t.Helper()
	f := newField(t, len(plan), 1, 1)
	fill(f.l, f.m, 0, bits.Entry(0, api.None))
	f.had[0], f.place[0] = []int{0}, 0
	at := make([]int, len(plan))
	begin := func(thread int) {
		for f.running[thread] == nil && at[thread] < len(plan[thread]) {
			f.begin(thread, plan[thread][at[thread]])
			at[thread]++
		}
	}
	for i := range plan {
		begin(i)
	}
	for _, i := range picks {
		f.goOn(t, i)
		begin(i)
	}
	var left []int
	for i := range plan {
		if f.running[i] != nil {
			left = append(left, i)
		}
	}
	return left, f.back
}

// orders goes over all orders in which threads can be picked till nobody has anything to do, and tells how many there are, and by how many of them the slot was given back.
func orders(t *testing.T, plan []string, picks []int) (int, int) {
	t.Helper()
	left, back := plays(t, plan, picks)
	if t.Failed() {
		t.Fatalf("of %v, picked %v", plan, picks)
	}
	if len(left) == 0 {
		return 1, back
	}
	n, given := 0, 0
	for _, i := range left {
		more, backs := orders(t, plan, append(slices.Clone(picks), i))
		n += more
		given += backs
	}
	return n, given
}

func TestAllOrders(t *testing.T) { // 11.4
	for _, x := range []struct {
		plan []string
		can  bool // whether the slot can be given back
	}{
		{[]string{"sg", "aa"}, true},
		{[]string{"sg", "eaa"}, false},
		{[]string{"sg", "eala"}, true},
		{[]string{"sgag", "a"}, true},
		{[]string{"esg", "aa"}, false},
	} {
		n, back := orders(t, x.plan, nil)
		if n < 1000 || back == n || x.can != (back > 0) {
			t.Errorf("%d orders of %v, by %d of which the slot was given back", n, x.plan, back)
		}
	}
}

func TestManyBetweenOneAnother(t *testing.T) { // 11.4
	x := uint64(1)
	draw := func(n int) int {
		x = x*6364136223846793005 + 1442695040888963407
		return int(x >> 33 % uint64(n))
	}
	for _, threads := range []int{1, 2, 3, 5} {
		for _, logs := range []int{1, 2, 9} {
			f := newField(t, threads, 6, logs)
			for s := range 6 {
				ends(t, f.m, free.NewPush(f.l, 0, s))
			}
			for range 20000 {
				i := draw(threads)
				for f.running[i] == nil {
					f.begin(i, "trcssgelaa"[draw(10)])
				}
				f.goOn(t, i)
				if t.Failed() {
					t.Fatalf("of %d threads, %d entries", threads, logs)
				}
			}
			if f.back < 100 {
				t.Errorf("of %d threads, %d entries only %d slots were given back", threads, logs, f.back)
			}
		}
	}
}
