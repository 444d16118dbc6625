package epoch_test

import (
	"slices"
	"testing"

	"limekiln/api"
	"limekiln/epoch"
	"limekiln/layout"
	"limekiln/pmem"
)

// field has threads that come in, go out, and advance between one another, and what each of them met: the epoch as it came in, if it is in.
type field struct {
	l       *layout.Layout
	m       *pmem.Mem
	running []machine // by threads
	is      []bool
	came    []uint64
	moves   uint64
}

func newField(t *testing.T, threads int) *field {
	l, m := ground(t, threads)
	return &field{l: l, m: m, running: make([]machine, threads), is: make([]bool, threads), came: make([]uint64, threads)}
}

// begin lets a thread begin to come in ("e"), to go out ("l"), or to advance ("a").
func (f *field) begin(thread int, what byte) {
	switch what {
	case 'e':
		f.running[thread] = epoch.NewEnter(f.l, thread)
	case 'l':
		f.running[thread] = epoch.NewLeave(f.l, thread)
	case 'a':
		f.running[thread] = epoch.NewAdvance(f.l, thread)
	}
}

// goOn does a step of a thread, and fails if the epoch has gone on by more than 1 while somebody is in.
func (f *field) goOn(t *testing.T, thread int) {
	t.Helper()
	was, clock := f.epoch(), f.m.Clock()
	done := f.running[thread].Step(f.m)
	if f.m.Clock() != clock+1 || f.m.Last().Thread != thread || f.m.Bad() != 0 {
		t.Errorf("a step of the thread %d: %d accesses, the last one %+v, %d bad", thread, f.m.Clock()-clock, f.m.Last(), f.m.Bad())
	}
	if done {
		f.ended(t, thread, was)
		f.running[thread] = nil
	}
	if f.epoch() != f.moves {
		t.Errorf("the epoch is %d behind %d moves", f.epoch(), f.moves)
	}
	for i := range f.is {
		if _, is := epoch.In(f.l, f.m, i); is != f.is[i] {
			t.Errorf("the thread %d is in: %v", i, is)
		}
		if f.is[i] && f.epoch()-f.came[i] > 1 {
			t.Errorf("the epoch is %d, and the thread %d came in at %d", f.epoch(), i, f.came[i])
		}
	}
}

// ended notes what a machine has done that is done.
func (f *field) ended(t *testing.T, thread int, was uint64) {
	t.Helper()
	switch x := f.running[thread].(type) {
	case *epoch.Enter:
		f.is[thread], f.came[thread] = true, f.epoch()
	case *epoch.Leave:
		f.is[thread] = false
	case *epoch.Advance:
		if x.Moved() {
			f.moves++
		}
		if x.Moved() != (f.epoch() == was+1) {
			t.Errorf("Moved() = %v, the epoch was %d, and is %d", x.Moved(), was, f.epoch())
		}
	}
}

func (f *field) epoch() uint64 {
	w, _ := f.m.Peek(f.l.Epoch())
	return w
}

// plays lets threads do what they are to do, picked as said, and tells which of them still have something to do.
func plays(t *testing.T, plan []string, picks []int) []int {
	t.Helper()
	f := newField(t, len(plan))
	at := make([]int, len(plan))
	begin := func(thread int) {
		if f.running[thread] == nil && at[thread] < len(plan[thread]) {
			f.begin(thread, plan[thread][at[thread]])
			at[thread]++
		}
	}
	for i := range plan {
		begin(i)
	}
	for _, i := range picks {
		f.goOn(t, i)
		begin(i)
	}
	var left []int
	for i := range plan {
		if f.running[i] != nil {
			left = append(left, i)
		}
	}
	return left
}

// orders goes over all orders in which threads can be picked till nobody has anything to do, and tells how many there are.
func orders(t *testing.T, plan []string, picks []int) int {
	t.Helper()
	left := plays(t, plan, picks)
	if t.Failed() {
		t.Fatalf("of %v, picked %v", plan, picks)
	}
	if len(left) == 0 {
		return 1
	}
	n := 0
	for _, i := range left {
		n += orders(t, plan, append(slices.Clone(picks), i))
	}
	return n
}

func TestAllOrders(t *testing.T) { // 10.4
	for _, plan := range [][]string{
		{"ele", "aa"},
		{"el", "aaa"},
		{"ea", "aa"},
		{"eal", "ea"},
		{"e", "a", "a"},
	} {
		if n := orders(t, plan, nil); n < 20 {
			t.Errorf("only %d orders of %v", n, plan)
		}
	}
}

func TestManyBetweenOneAnother(t *testing.T) { // 10.4
	x := uint64(1)
	draw := func(n int) int {
		x = x*6364136223846793005 + 1442695040888963407
		return int(x >> 33 % uint64(n))
	}
	for _, threads := range []int{1, 2, 3, 6} {
		f := newField(t, threads)
		for range 20000 {
			i := draw(threads)
			switch {
			case f.running[i] != nil:
			case draw(2) == 0:
				f.begin(i, 'a')
			case f.is[i]:
				f.begin(i, 'l')
			default:
				f.begin(i, 'e')
			}
			f.goOn(t, i)
			if t.Failed() {
				t.Fatalf("of %d threads", threads)
			}
		}
		if f.moves < 10 {
			t.Errorf("of %d threads only %d moves", threads, f.moves)
		}
	}
}

func TestAloneWhoeverIsInByTheEpoch(t *testing.T) { // 10.4
	for set := range 1 << 4 {
		l, m := ground(t, 4)
		m.Store(0, l.Epoch(), 11)
		for i := range 4 {
			if set>>i&1 == 1 {
				ends(t, m, epoch.NewEnter(l, i))
			}
		}
		a := epoch.NewAdvance(l, api.None)
		if n := ends(t, m, a); n != 6 {
			t.Errorf("%d steps", n)
		}
		moved(t, a, true)
		now(t, l, m, 12)
	}
}
