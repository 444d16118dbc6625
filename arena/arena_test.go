package arena_test

import (
	"math"
	"slices"
	"testing"

	"limekiln/api"
	"limekiln/arena"
	"limekiln/bits"
	"limekiln/free"
	"limekiln/layout"
	"limekiln/pdev"
	"limekiln/pmem"
)

// machine is what a Take and a Give have in common.
type machine interface {
	Step(m *pmem.Mem) bool
	Done() bool
	Holds() int
}

// ground is a layout of so many threads, slots, and entries of a log, and a memory in which slots are free, in order.
func ground(t *testing.T, threads, slots, logs int, open ...int) (*layout.Layout, *pmem.Mem) {
	t.Helper()
	l, e := layout.Of(api.Config{Threads: threads, Slots: slots, Logs: logs, Buckets: 1})
	if e != api.OK {
		t.Fatalf("layout.Of: %v", e)
	}
	d, e := pdev.New(l.Lines(), threads)
	if e != api.OK {
		t.Fatalf("pdev.New: %v", e)
	}
	m, e := pmem.New(d, l.Passing())
	if e != api.OK {
		t.Fatalf("pmem.New: %v", e)
	}
	lay(l, m, 0, open...)
	return l, m
}

// lay lets slots be free, in order, below a top of a version.
func lay(l *layout.Layout, m *pmem.Mem, ver uint32, slots ...int) {
	first := api.None
	for _, s := range slices.Backward(slots) {
		m.Store(0, l.After(s), uint64(first+1))
		first = s
	}
	m.Store(0, l.Free(), bits.Top(first, ver))
}

// step does one step, and fails if it does another access than one, tells another thing than whether the machine is done, or holds another slot then.
func step(t *testing.T, m *pmem.Mem, x machine, want api.Access, holds int, done bool) {
	t.Helper()
	clock := m.Clock()
	if x.Step(m) != done || x.Done() != done {
		t.Errorf("%+v: done %v, want %v", want, x.Done(), done)
	}
	if m.Last() != want || m.Clock() != clock+1 {
		t.Errorf("%d accesses, the last one %+v, want %+v", m.Clock()-clock, m.Last(), want)
	}
	if x.Holds() != holds {
		t.Errorf("%+v: holds %d, want %d", want, x.Holds(), holds)
	}
}

// ends lets a machine go on till it is done, and tells by how many steps.
func ends(t *testing.T, m *pmem.Mem, x machine) int {
	t.Helper()
	for n := 1; n < 1000; n++ {
		if x.Step(m) {
			return n
		}
	}
	t.Fatalf("not done in 1000 steps")
	return 0
}

// idle fails if a step of what is done does anything.
func idle(t *testing.T, m *pmem.Mem, x machine) {
	t.Helper()
	clock, last := m.Clock(), m.Last()
	if !x.Step(m) || !x.Done() || m.Clock() != clock || m.Last() != last {
		t.Errorf("a step of a machine that is done does something")
	}
}

// took fails if a Take took another slot, or met at another time that there is none.
func took(t *testing.T, x *arena.Take, slot, empty int) {
	t.Helper()
	if x.Slot() != slot || x.Empty() != empty {
		t.Errorf("Slot() = %d, Empty() = %d, want %d, %d", x.Slot(), x.Empty(), slot, empty)
	}
}

// word fails if there is another word.
func word(t *testing.T, m *pmem.Mem, at int, want uint64) {
	t.Helper()
	if got, _ := m.Peek(at); got != want {
		t.Errorf("the word %d is %#x, want %#x", at, got, want)
	}
}

// listed fails if the free list is another one.
func listed(t *testing.T, l *layout.Layout, m *pmem.Mem, want ...int) {
	t.Helper()
	if got, is := free.List(l, m); !is || !slices.Equal(got, want) {
		t.Errorf("List: %v, %v, want %v", got, is, want)
	}
}

// settles does the steps behind the Pop's, by which the slot is the thread's.
func settles(t *testing.T, l *layout.Layout, m *pmem.Mem, x *arena.Take, thread, slot int) {
	t.Helper()
	intent, _ := m.Peek(l.Intent(thread))
	gen, _ := m.Peek(l.Gen(slot))
	kept := func() uint64 { return m.Device().Kept()[l.Intent(thread)] }
	was := kept()
	took(t, x, api.None, api.None)
	step(t, m, x, api.Access{Kind: api.AcStore, Thread: thread, At: l.Intent(thread), Old: intent, New: uint64(slot + 1), Done: true}, slot, false)
	step(t, m, x, api.Access{Kind: api.AcFlush, Thread: thread, At: l.Intent(thread), Done: true}, slot, false)
	if kept() != was {
		t.Errorf("the intent is kept ahead of the fence")
	}
	step(t, m, x, api.Access{Kind: api.AcFence, Thread: thread, Done: true}, slot, false)
	if kept() != uint64(slot+1) {
		t.Errorf("the intent is kept as %d, want %d", kept(), slot+1)
	}
	step(t, m, x, api.Access{Kind: api.AcLoad, Thread: thread, At: l.Gen(slot), Old: gen, Done: true}, slot, false)
	took(t, x, api.None, api.None)
	step(t, m, x, api.Access{Kind: api.AcStore, Thread: thread, At: l.Gen(slot), Old: gen, New: gen + 1, Done: true}, slot, true)
	took(t, x, slot, api.None)
	idle(t, m, x)
	took(t, x, slot, api.None)
}

// pops does the steps of a Pop that has a slot.
func pops(t *testing.T, l *layout.Layout, m *pmem.Mem, x *arena.Take, thread, slot, behind int) {
	t.Helper()
	top, _ := m.Peek(l.Free())
	step(t, m, x, api.Access{Kind: api.AcLoad, Thread: thread, At: l.Free(), Old: top, Done: true}, api.None, false)
	step(t, m, x, api.Access{Kind: api.AcLoad, Thread: thread, At: l.After(slot), Old: uint64(behind + 1), Done: true}, api.None, false)
	step(t, m, x, api.Access{Kind: api.AcSwap, Thread: thread, At: l.Free(), Old: top, New: bits.Top(behind, bits.Ver(top)+1), Done: true}, slot, false)
}

// misses does the step of a Pop that meets that there is none free.
func misses(t *testing.T, l *layout.Layout, m *pmem.Mem, x *arena.Take, thread int, done bool) {
	t.Helper()
	top, _ := m.Peek(l.Free())
	step(t, m, x, api.Access{Kind: api.AcLoad, Thread: thread, At: l.Free(), Old: top, Done: true}, api.None, done)
}

// advances does the steps of an Advance that nobody holds up.
func advances(t *testing.T, l *layout.Layout, m *pmem.Mem, x *arena.Take, thread int) {
	t.Helper()
	now, _ := m.Peek(l.Epoch())
	step(t, m, x, api.Access{Kind: api.AcLoad, Thread: thread, At: l.Epoch(), Old: now, Done: true}, api.None, false)
	for other := range l.Config().Threads {
		w, _ := m.Peek(l.Announce(other))
		step(t, m, x, api.Access{Kind: api.AcLoad, Thread: thread, At: l.Announce(other), Old: w, Done: true}, api.None, false)
	}
	step(t, m, x, api.Access{Kind: api.AcSwap, Thread: thread, At: l.Epoch(), Old: now, New: now + 1, Done: true}, api.None, false)
}

// looks does the step by which a Reclaim loads a word.
func looks(t *testing.T, m *pmem.Mem, x *arena.Take, thread, at int) {
	t.Helper()
	w, _ := m.Peek(at)
	step(t, m, x, api.Access{Kind: api.AcLoad, Thread: thread, At: at, Old: w, Done: true}, api.None, false)
}

func TestTakeIsEightSteps(t *testing.T) { // 12.1
	l, m := ground(t, 3, 5, 2, 3, 1)
	m.Store(0, l.Intent(2), 9)
	m.Store(0, l.Gen(3), 41)
	x := arena.NewTake(l, 2)
	took(t, x, api.None, api.None)
	pops(t, l, m, x, 2, 3, 1)
	settles(t, l, m, x, 2, 3)
	if x.Holds() != 3 {
		t.Errorf("done, it holds %d", x.Holds())
	}
	listed(t, l, m, 1)
	word(t, m, l.Intent(2), 4)
	word(t, m, l.Gen(3), 42)
	word(t, m, l.Intent(0), 0)
	word(t, m, l.Gen(1), 0)
	word(t, m, l.Epoch(), 0)
}

func TestExampleOfTheDocument(t *testing.T) { // 12.1
	l, m := ground(t, 1, 1, 1, 0)
	x := arena.NewTake(l, 0)
	if n := ends(t, m, x); n != 8 {
		t.Errorf("%d steps", n)
	}
	took(t, x, 0, api.None)
	word(t, m, l.Gen(0), 1)
	y := arena.NewTake(l, 0)
	ends(t, m, y)
	took(t, y, api.None, m.Clock())
	word(t, m, l.Gen(0), 1)
}

func TestTakeOfNone(t *testing.T) { // 12.1
	for _, threads := range []int{1, 2, 5} {
		for _, logs := range []int{1, 3, 9} {
			l, m := ground(t, threads, 4, logs)
			thread := threads - 1
			m.Store(0, l.Log(0, 0), bits.Entry(2, api.None))
			before := m.Device().Seen()
			x := arena.NewTake(l, thread)
			misses(t, l, m, x, thread, false)
			advances(t, l, m, x, thread)
			looks(t, m, x, thread, l.Epoch())
			for place := range logs {
				looks(t, m, x, thread, l.Log(thread, place))
				took(t, x, api.None, api.None)
			}
			misses(t, l, m, x, thread, true)
			clock := m.Clock()
			took(t, x, api.None, clock)
			lay(l, m, 0, 1)
			idle(t, m, x)
			took(t, x, api.None, clock)
			if x.Holds() != api.None {
				t.Errorf("it holds %d", x.Holds())
			}
			word(t, m, l.Epoch(), 1)
			if !slices.Equal(m.Device().Seen(), before) {
				t.Errorf("a lasting word was written")
			}
		}
	}
}

func TestTakeOfWhatItReclaims(t *testing.T) { // 12.1
	l, m := ground(t, 2, 6, 4)
	m.Store(0, l.Epoch(), 6)
	m.Store(0, l.Gen(2), 7)
	words := []uint64{bits.Entry(4, api.None), bits.Entry(5, 5), bits.Entry(3, 6), bits.Entry(2, 0)} // two of them, once the epoch has gone on by 1
	for place, w := range words {
		m.Store(0, l.Log(1, place), w)
		m.Store(0, l.Log(0, place), bits.Entry(1, 0))
	}
	x := arena.NewTake(l, 1)
	back := func(place, slot, behind int) { // while it reclaims, it holds what the Reclaim holds
		t.Helper()
		looks(t, m, x, 1, l.Log(1, place))
		step(t, m, x, api.Access{Kind: api.AcStore, Thread: 1, At: l.Log(1, place), Old: words[place], Done: true}, slot, false)
		top, _ := m.Peek(l.Free())
		step(t, m, x, api.Access{Kind: api.AcLoad, Thread: 1, At: l.Free(), Old: top, Done: true}, slot, false)
		step(t, m, x, api.Access{Kind: api.AcStore, Thread: 1, At: l.After(slot), New: uint64(behind + 1), Done: true}, slot, false)
		step(t, m, x, api.Access{Kind: api.AcSwap, Thread: 1, At: l.Free(), Old: top, New: bits.Top(slot, bits.Ver(top)+1), Done: true}, api.None, false)
		took(t, x, api.None, api.None)
	}
	misses(t, l, m, x, 1, false)
	advances(t, l, m, x, 1)
	looks(t, m, x, 1, l.Epoch())
	looks(t, m, x, 1, l.Log(1, 0))
	back(1, 5, api.None)
	looks(t, m, x, 1, l.Log(1, 2))
	back(3, 2, 5)
	pops(t, l, m, x, 1, 2, 5)
	settles(t, l, m, x, 1, 2)
	listed(t, l, m, 5)
	word(t, m, l.Log(1, 0), words[0])
	word(t, m, l.Log(1, 2), words[2])
	word(t, m, l.Log(0, 3), bits.Entry(1, 0))
}

func TestTakeWhereAnAdvanceIsHeldUp(t *testing.T) { // 12.1: it reclaims all the same
	l, m := ground(t, 3, 4, 2)
	m.Store(0, l.Epoch(), 5)
	m.Store(0, l.Announce(1), 5)
	m.Store(0, l.Log(0, 0), bits.Entry(3, 4)) // not ahead of the epoch 6
	m.Store(0, l.Log(0, 1), bits.Entry(1, 3))
	x := arena.NewTake(l, 0)
	misses(t, l, m, x, 0, false)
	looks(t, m, x, 0, l.Epoch())
	looks(t, m, x, 0, l.Announce(0))
	looks(t, m, x, 0, l.Announce(1))
	looks(t, m, x, 0, l.Epoch())
	looks(t, m, x, 0, l.Log(0, 0))
	looks(t, m, x, 0, l.Log(0, 1))
	ends(t, m, x)
	took(t, x, 1, api.None)
	word(t, m, l.Epoch(), 5)
	word(t, m, l.Log(0, 0), bits.Entry(3, 4))
	word(t, m, l.Log(0, 1), 0)
}

func TestTakeOfWhatAnotherOneGivesBackMeanwhile(t *testing.T) { // 12.1: the second Pop finds it
	l, m := ground(t, 1, 4, 2)
	x := arena.NewTake(l, 0)
	misses(t, l, m, x, 0, false)
	lay(l, m, 5, 3, 0)
	advances(t, l, m, x, 0)
	looks(t, m, x, 0, l.Epoch())
	looks(t, m, x, 0, l.Log(0, 0))
	looks(t, m, x, 0, l.Log(0, 1))
	pops(t, l, m, x, 0, 3, 0)
	settles(t, l, m, x, 0, 3)
}

func TestTakeWhoseSwapFails(t *testing.T) { // 12.1: a Pop that begins anew is one Pop still
	l, m := ground(t, 1, 4, 1, 2)
	x := arena.NewTake(l, 0)
	fails := func(next ...int) {
		t.Helper()
		top, _ := m.Peek(l.Free())
		looks(t, m, x, 0, l.Free())
		looks(t, m, x, 0, l.After(bits.To(top)))
		lay(l, m, bits.Ver(top)+1, next...)
		now, _ := m.Peek(l.Free())
		step(t, m, x, api.Access{Kind: api.AcSwap, At: l.Free(), Old: now, New: bits.Top(api.None, bits.Ver(top)+1)}, api.None, false)
		took(t, x, api.None, api.None)
	}
	fails(1)
	fails()
	misses(t, l, m, x, 0, false)
	advances(t, l, m, x, 0)
	looks(t, m, x, 0, l.Epoch())
	looks(t, m, x, 0, l.Log(0, 0))
	lay(l, m, 7, 3)
	fails(0)
	fails()
	misses(t, l, m, x, 0, true)
	took(t, x, api.None, m.Clock())
}

func TestIntentLastsAheadOfTheGeneration(t *testing.T) { // 12.1
	l, m := ground(t, 1, 2, 1, 1)
	x := arena.NewTake(l, 0)
	for range 6 {
		x.Step(m)
	}
	m.Crash()
	word(t, m, l.Intent(0), 2)
	word(t, m, l.Gen(1), 0)
}

func TestGenerationsGoRound(t *testing.T) { // 12.1
	for _, gen := range []uint64{0, 1, math.MaxUint32, math.MaxInt64, math.MaxUint64} {
		l, m := ground(t, 1, 2, 1, 1, 0)
		m.Store(0, l.Gen(1), gen)
		ends(t, m, arena.NewTake(l, 0))
		word(t, m, l.Gen(1), gen+1)
		word(t, m, l.Gen(0), 0)
	}
}

func TestGenerationIsTheOneThatWasLoaded(t *testing.T) { // 12.1
	l, m := ground(t, 1, 2, 1, 1)
	x := arena.NewTake(l, 0)
	for range 7 {
		x.Step(m)
	}
	m.Store(0, l.Gen(1), 50)
	step(t, m, x, api.Access{Kind: api.AcStore, At: l.Gen(1), Old: 50, New: 1, Done: true}, 1, true)
}

func TestGiveIsFourSteps(t *testing.T) { // 12.2
	l, m := ground(t, 2, 4, 1, 3)
	ends(t, m, arena.NewTake(l, 1))
	lay(l, m, 6, 0, 2)
	top := bits.Top(0, 6)
	x := arena.NewGive(l, 1, 3)
	if x.Holds() != 3 || x.Done() {
		t.Errorf("ahead of its first step it holds %d", x.Holds())
	}
	step(t, m, x, api.Access{Kind: api.AcStore, Thread: 1, At: l.Intent(1), Old: 4, Done: true}, 3, false)
	step(t, m, x, api.Access{Kind: api.AcLoad, Thread: 1, At: l.Free(), Old: top, Done: true}, 3, false)
	step(t, m, x, api.Access{Kind: api.AcStore, Thread: 1, At: l.After(3), New: 1, Done: true}, 3, false)
	lay(l, m, 7, 0, 2) // another thread is quicker
	step(t, m, x, api.Access{Kind: api.AcSwap, Thread: 1, At: l.Free(), Old: bits.Top(0, 7), New: bits.Top(3, 7)}, 3, false)
	step(t, m, x, api.Access{Kind: api.AcLoad, Thread: 1, At: l.Free(), Old: bits.Top(0, 7), Done: true}, 3, false)
	step(t, m, x, api.Access{Kind: api.AcStore, Thread: 1, At: l.After(3), Old: 1, New: 1, Done: true}, 3, false)
	step(t, m, x, api.Access{Kind: api.AcSwap, Thread: 1, At: l.Free(), Old: bits.Top(0, 7), New: bits.Top(3, 8), Done: true}, api.None, true)
	idle(t, m, x)
	listed(t, l, m, 3, 0, 2)
	word(t, m, l.Intent(1), 0)
	word(t, m, l.Gen(3), 1)
	m.Crash() // it lets nothing last
	word(t, m, l.Intent(1), 4)

	if n := ends(t, m, arena.NewGive(l, 0, 1)); n != 4 {
		t.Errorf("%d steps", n)
	}
	listed(t, l, m, 1)
}

func TestAloneEachSlotIsTakenOnce(t *testing.T) { // 12.3
	const many = 40
	l, m := ground(t, 2, many, 2)
	var want []int
	for s := range many {
		want = append(want, s*7%many)
	}
	lay(l, m, 0, want...)
	for round := range 3 {
		var got []int
		for range many {
			x := arena.NewTake(l, round%2)
			if n := ends(t, m, x); n != 8 {
				t.Errorf("%d steps", n)
			}
			took(t, x, x.Holds(), api.None)
			word(t, m, l.Intent(round%2), uint64(x.Slot()+1))
			word(t, m, l.Gen(x.Slot()), uint64(round+1))
			got = append(got, x.Slot())
		}
		if !slices.Equal(got, want) {
			t.Errorf("taken: %v, want %v", got, want)
		}
		none := arena.NewTake(l, 0)
		ends(t, m, none)
		took(t, none, api.None, m.Clock())
		for _, s := range slices.Backward(got) {
			ends(t, m, arena.NewGive(l, 1, s))
		}
		listed(t, l, m, want...)
	}
	if m.Bad() != 0 {
		t.Errorf("%d bad accesses", m.Bad())
	}
}

func TestNoMachine(t *testing.T) { // 12.1, 12.2, R1
	_, m := ground(t, 1, 1, 1)
	var a *arena.Take
	var b *arena.Give
	for _, x := range []machine{a, b} {
		idle(t, m, x)
		if !x.Step(nil) || x.Holds() != api.None {
			t.Errorf("no machine is not done, or holds %d", x.Holds())
		}
	}
	took(t, a, api.None, api.None)
}

func TestMachinesOfNothingDoNotPanic(t *testing.T) { // R1
	_, m := ground(t, 1, 1, 1)
	a := &arena.Take{}
	for _, x := range []machine{a, &arena.Give{}} {
		idle(t, m, x)
		if x.Holds() != api.None {
			t.Errorf("it holds %d", x.Holds())
		}
	}
	took(t, a, api.None, api.None)
}

func TestThreadsThatThereAreNot(t *testing.T) { // 12.1, 12.2: the word is none, and all else is as ever
	for _, thread := range []int{math.MinInt, -1, 2, 64, math.MaxInt} {
		l, m := ground(t, 2, 3, 2, 1)
		none := l.Lines() * 8
		x := arena.NewTake(l, thread)
		pops(t, l, m, x, thread, 1, api.None)
		step(t, m, x, api.Access{Kind: api.AcStore, Thread: thread, At: none, New: 2}, 1, false)
		step(t, m, x, api.Access{Kind: api.AcFlush, Thread: thread, At: none}, 1, false)
		step(t, m, x, api.Access{Kind: api.AcFence, Thread: thread}, 1, false)
		ends(t, m, x)
		took(t, x, 1, api.None)
		y := arena.NewTake(l, thread)
		if n := ends(t, m, y); n != 9 {
			t.Errorf("%d steps", n)
		}
		took(t, y, api.None, m.Clock())
		z := arena.NewGive(l, thread, 1)
		step(t, m, z, api.Access{Kind: api.AcStore, Thread: thread, At: none}, 1, false)
		ends(t, m, z)
		listed(t, l, m, 1)
	}
}

func TestSlotsThatThereAreNot(t *testing.T) { // 12.1, 12.2: the word is none, and all else is as ever
	l, m := ground(t, 1, 2, 1)
	m.Store(0, l.Free(), bits.Top(2, 3))
	x := arena.NewTake(l, 0)
	for range 6 {
		x.Step(m)
	}
	word(t, m, l.Intent(0), 3)
	step(t, m, x, api.Access{Kind: api.AcLoad, At: l.Lines() * 8}, 2, false)
	step(t, m, x, api.Access{Kind: api.AcStore, At: l.Lines() * 8, New: 1}, 2, true)
	took(t, x, 2, api.None)

	for _, slot := range []int{-5, 2, 1 << 31} {
		y := arena.NewGive(l, 0, slot)
		y.Step(m)
		y.Step(m)
		step(t, m, y, api.Access{Kind: api.AcStore, At: l.Lines() * 8, New: m.Last().Old & math.MaxUint32}, slot, false)
		ends(t, m, y)
		if w, _ := m.Peek(l.Free()); bits.To(w) != bits.To(bits.Top(slot, 0)) {
			t.Errorf("the top is %#x", w)
		}
	}
}
