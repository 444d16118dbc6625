package epoch_test

import (
	"math"
	"testing"

	"limekiln/api"
	"limekiln/epoch"
	"limekiln/layout"
	"limekiln/pdev"
	"limekiln/pmem"
)

// machine is what all machines have in common.
type machine interface {
	Step(m *pmem.Mem) bool
	Done() bool
}

// ground is a layout of so many threads, and a memory in which nobody is in.
func ground(t *testing.T, threads int) (*layout.Layout, *pmem.Mem) {
	t.Helper()
	l, e := layout.Of(api.Config{Threads: threads, Slots: 1, Logs: 1, Buckets: 1})
	if e != api.OK {
		t.Fatalf("layout.Of: %v", e)
	}
	d, e := pdev.New(l.Lines(), threads)
	if e != api.OK {
		t.Fatalf("pdev.New: %v", e)
	}
	m, e := pmem.New(d, l.Passing())
	if e != api.OK {
		t.Fatalf("pmem.New: %v", e)
	}
	return l, m
}

// step does one step, and fails if it does another access than one, or tells another thing than whether the machine is done.
func step(t *testing.T, m *pmem.Mem, x machine, want api.Access, done bool) {
	t.Helper()
	clock := m.Clock()
	if x.Step(m) != done || x.Done() != done {
		t.Errorf("%+v: done %v, want %v", want, x.Done(), done)
	}
	if m.Last() != want || m.Clock() != clock+1 {
		t.Errorf("%d accesses, the last one %+v, want %+v", m.Clock()-clock, m.Last(), want)
	}
}

// ends lets a machine go on till it is done, and tells by how many steps.
func ends(t *testing.T, m *pmem.Mem, x machine) int {
	t.Helper()
	for n := 1; n < 100; n++ {
		if x.Step(m) {
			return n
		}
	}
	t.Fatalf("not done in 100 steps")
	return 0
}

// idle fails if a step of what is done does anything.
func idle(t *testing.T, m *pmem.Mem, x machine) {
	t.Helper()
	clock, last := m.Clock(), m.Last()
	if !x.Step(m) || !x.Done() || m.Clock() != clock || m.Last() != last {
		t.Errorf("a step of a machine that is done does something")
	}
}

// now fails if the epoch is another one.
func now(t *testing.T, l *layout.Layout, m *pmem.Mem, want uint64) {
	t.Helper()
	if w, _ := m.Peek(l.Epoch()); w != want {
		t.Errorf("the epoch is %d, want %d", w, want)
	}
}

// in fails if a thread is in by another epoch, or not as it should be.
func in(t *testing.T, l *layout.Layout, m *pmem.Mem, thread int, want uint64, is bool) {
	t.Helper()
	clock := m.Clock()
	if w, got := epoch.In(l, m, thread); w != want || got != is {
		t.Errorf("In(%d) = %d, %v, want %d, %v", thread, w, got, want, is)
	}
	if m.Clock() != clock {
		t.Errorf("In did %d accesses", m.Clock()-clock)
	}
}

// moved fails if a machine has moved the epoch, and should not have, or the other way round.
func moved(t *testing.T, a *epoch.Advance, want bool) {
	t.Helper()
	if a.Moved() != want {
		t.Errorf("Moved() = %v", a.Moved())
	}
}

func TestEnterIsTwoSteps(t *testing.T) { // 10.1
	l, m := ground(t, 3)
	m.Store(0, l.Epoch(), 6)
	m.Store(0, l.Announce(2), 3)
	e := epoch.NewEnter(l, 2)
	step(t, m, e, api.Access{Kind: api.AcLoad, Thread: 2, At: l.Epoch(), Old: 6, Done: true}, false)
	in(t, l, m, 2, 2, true)
	step(t, m, e, api.Access{Kind: api.AcStore, Thread: 2, At: l.Announce(2), Old: 3, New: 7, Done: true}, true)
	idle(t, m, e)
	in(t, l, m, 2, 6, true)
	in(t, l, m, 0, 0, false)
	in(t, l, m, 1, 0, false)
	now(t, l, m, 6)
}

func TestEnterByTheFirstEpoch(t *testing.T) { // 10.1, 10.3
	l, m := ground(t, 1)
	in(t, l, m, 0, 0, false)
	ends(t, m, epoch.NewEnter(l, 0))
	in(t, l, m, 0, 0, true)
}

func TestEnterIsByTheEpochThatWasLoaded(t *testing.T) { // 10.1
	l, m := ground(t, 1)
	e := epoch.NewEnter(l, 0)
	e.Step(m)
	m.Store(0, l.Epoch(), 9)
	step(t, m, e, api.Access{Kind: api.AcStore, At: l.Announce(0), New: 1, Done: true}, true)
	in(t, l, m, 0, 0, true)
}

func TestLeaveIsOneStep(t *testing.T) { // 10.1
	l, m := ground(t, 3)
	m.Store(0, l.Epoch(), 4)
	for i := range 3 {
		ends(t, m, epoch.NewEnter(l, i))
	}
	e := epoch.NewLeave(l, 1)
	if e.Done() {
		t.Errorf("done ahead of its step")
	}
	step(t, m, e, api.Access{Kind: api.AcStore, Thread: 1, At: l.Announce(1), Old: 5, Done: true}, true)
	idle(t, m, e)
	in(t, l, m, 0, 4, true)
	in(t, l, m, 1, 0, false)
	in(t, l, m, 2, 4, true)
	ends(t, m, epoch.NewLeave(l, 1)) // one that is not in may go out, too
	in(t, l, m, 1, 0, false)
	now(t, l, m, 4)
}

func TestAdvanceAsksEachInOrder(t *testing.T) { // 10.2, 10.4
	l, m := ground(t, 3)
	m.Store(0, l.Epoch(), 6)
	m.Store(0, l.Announce(1), 7)
	a := epoch.NewAdvance(l, 2)
	step(t, m, a, api.Access{Kind: api.AcLoad, Thread: 2, At: l.Epoch(), Old: 6, Done: true}, false)
	step(t, m, a, api.Access{Kind: api.AcLoad, Thread: 2, At: l.Announce(0), Done: true}, false)
	step(t, m, a, api.Access{Kind: api.AcLoad, Thread: 2, At: l.Announce(1), Old: 7, Done: true}, false)
	step(t, m, a, api.Access{Kind: api.AcLoad, Thread: 2, At: l.Announce(2), Done: true}, false)
	moved(t, a, false)
	step(t, m, a, api.Access{Kind: api.AcSwap, Thread: 2, At: l.Epoch(), Old: 6, New: 7, Done: true}, true)
	moved(t, a, true)
	idle(t, m, a)
	moved(t, a, true)
	now(t, l, m, 7)
}

func TestAdvanceOfManyThreads(t *testing.T) { // 10.2, 10.4
	for _, threads := range []int{1, 2, 5, 64} {
		l, m := ground(t, threads)
		for i := 0; i < threads; i += 2 {
			ends(t, m, epoch.NewEnter(l, i))
		}
		a := epoch.NewAdvance(l, threads-1)
		if n := ends(t, m, a); n != threads+2 {
			t.Errorf("of %d threads %d steps", threads, n)
		}
		moved(t, a, true)
		now(t, l, m, 1)
	}
}

func TestAdvanceIsHeldUpByEachOther(t *testing.T) { // 10.2
	for _, other := range []uint64{1, 5, 6, 8, 9, 1 << 32, 1<<32 + 7, math.MaxUint64} {
		for thread := range 4 {
			l, m := ground(t, 4)
			m.Store(0, l.Epoch(), 6)
			m.Store(0, l.Announce(0), 7)
			m.Store(0, l.Announce(thread), other)
			a := epoch.NewAdvance(l, 1)
			for range thread + 1 {
				if a.Step(m) {
					t.Errorf("done ahead of the thread %d", thread)
				}
			}
			step(t, m, a, api.Access{Kind: api.AcLoad, Thread: 1, At: l.Announce(thread), Old: other, Done: true}, true)
			moved(t, a, false)
			m.Store(0, l.Announce(thread), 0)
			idle(t, m, a)
			moved(t, a, false)
			now(t, l, m, 6)
		}
	}
}

func TestAdvanceHoldsAgainstTheEpochThatWasLoaded(t *testing.T) { // 10.2
	l, m := ground(t, 2)
	a := epoch.NewAdvance(l, 0)
	a.Step(m)
	m.Store(0, l.Epoch(), 3)
	m.Store(0, l.Announce(0), 1)
	a.Step(m)
	a.Step(m)
	step(t, m, a, api.Access{Kind: api.AcSwap, At: l.Epoch(), Old: 3, New: 1}, true)
	moved(t, a, false)
	idle(t, m, a)
	now(t, l, m, 3)

	b := epoch.NewAdvance(l, 0)
	b.Step(m)
	m.Store(0, l.Epoch(), 0)
	step(t, m, b, api.Access{Kind: api.AcLoad, At: l.Announce(0), Old: 1, Done: true}, true)
	moved(t, b, false)
}

func TestTwoAdvance(t *testing.T) { // 10.2
	l, m := ground(t, 2)
	a, b := epoch.NewAdvance(l, 0), epoch.NewAdvance(l, 1)
	for range 3 {
		a.Step(m)
		b.Step(m)
	}
	if !a.Step(m) || !b.Step(m) {
		t.Errorf("not done")
	}
	moved(t, a, true)
	moved(t, b, false)
	now(t, l, m, 1)
}

func TestWordsGoRound(t *testing.T) { // 10.1, 10.2
	l, m := ground(t, 2)
	m.Store(0, l.Epoch(), math.MaxUint64-1)
	ends(t, m, epoch.NewEnter(l, 0))
	in(t, l, m, 0, math.MaxUint64-1, true)
	a := epoch.NewAdvance(l, 1)
	ends(t, m, a)
	moved(t, a, true)
	now(t, l, m, math.MaxUint64)

	ends(t, m, epoch.NewEnter(l, 0))
	step(t, m, epoch.NewLeave(l, 1), api.Access{Kind: api.AcStore, Thread: 1, At: l.Announce(1), Done: true}, true)
	in(t, l, m, 0, 0, false) // that epoch, and 1 more, is 0
	b := epoch.NewAdvance(l, 1)
	if n := ends(t, m, b); n != 4 {
		t.Errorf("%d steps", n)
	}
	moved(t, b, true)
	now(t, l, m, 0)
}

func TestExampleOfTheDocument(t *testing.T) { // 10.2
	l, m := ground(t, 1)
	ends(t, m, epoch.NewEnter(l, 0))
	a, b := epoch.NewAdvance(l, 0), epoch.NewAdvance(l, 0)
	ends(t, m, a)
	moved(t, a, true)
	now(t, l, m, 1)
	if n := ends(t, m, b); n != 2 {
		t.Errorf("%d steps", n)
	}
	moved(t, b, false)
	now(t, l, m, 1)
}

func TestInOfThreadsThatThereAreNot(t *testing.T) { // 10.3
	l, m := ground(t, 2)
	_, greater := ground(t, 9) // in it the number of no word is a word's
	for _, x := range []*pmem.Mem{m, greater} {
		x.Store(0, l.Lines()*8, 5)
		x.Store(0, l.Announce(1)-1, 5)
		for _, thread := range []int{math.MinInt, -2, -1, 2, 3, 64, 1 << 32, math.MaxInt} {
			in(t, l, x, thread, 0, false)
		}
		x.Store(0, l.Announce(1), 5)
		in(t, l, x, 0, 0, false)
		in(t, l, x, 1, 4, true)
	}
}

func TestInOfTheGreatestWord(t *testing.T) { // 10.3
	l, m := ground(t, 64)
	m.Store(0, l.Announce(63), math.MaxUint64)
	in(t, l, m, 63, math.MaxUint64-1, true)
}

func TestInWithoutWords(t *testing.T) { // 10.3, R1
	l, _ := ground(t, 2)
	in(t, l, nil, 0, 0, false)
	in(t, l, nil, 2, 0, false)
	d, _ := pdev.New(1, 1)
	m, _ := pmem.New(d, 0)
	in(t, l, m, 0, 0, false)
}

func TestNoMachine(t *testing.T) { // 10.1, 10.2, R1
	_, m := ground(t, 1)
	var e *epoch.Enter
	var v *epoch.Leave
	var a *epoch.Advance
	idle(t, m, e)
	idle(t, m, v)
	idle(t, m, a)
	moved(t, a, false)
	if !e.Step(nil) || !v.Step(nil) || !a.Step(nil) {
		t.Errorf("no machine is not done")
	}
}

func TestMachinesOfNothingDoNotPanic(t *testing.T) { // R1
	_, m := ground(t, 1)
	for _, x := range []machine{&epoch.Enter{}, &epoch.Leave{}, &epoch.Advance{}} {
		ends(t, m, x)
	}
	moved(t, &epoch.Advance{}, false)
}

func TestMachinesOfThreadsThatThereAreNot(t *testing.T) { // 10.1, 10.2: the word is none, and all else is as ever
	for _, thread := range []int{math.MinInt, -1, 2, 64, math.MaxInt} {
		l, m := ground(t, 2)
		m.Store(0, l.Epoch(), 3)
		e := epoch.NewEnter(l, thread)
		step(t, m, e, api.Access{Kind: api.AcLoad, Thread: thread, At: l.Epoch(), Old: 3, Done: true}, false)
		step(t, m, e, api.Access{Kind: api.AcStore, Thread: thread, At: l.Lines() * 8, New: 4}, true)
		step(t, m, epoch.NewLeave(l, thread), api.Access{Kind: api.AcStore, Thread: thread, At: l.Lines() * 8}, true)
		a := epoch.NewAdvance(l, thread)
		if n := ends(t, m, a); n != 4 {
			t.Errorf("%d steps", n)
		}
		moved(t, a, true)
		now(t, l, m, 4)
	}
}
