package free_test

import (
	"math"
	"slices"
	"testing"

	"limekiln/api"
	"limekiln/bits"
	"limekiln/free"
	"limekiln/layout"
	"limekiln/pdev"
	"limekiln/pmem"
)

// machine is what a Pop and a Push have in common.
type machine interface {
	Step(m *pmem.Mem) bool
	Done() bool
}

// ground is a layout of so many threads and slots, and a memory in which none of them is free.
func ground(t *testing.T, threads, slots int) (*layout.Layout, *pmem.Mem) {
	t.Helper()
	l, e := layout.Of(api.Config{Threads: threads, Slots: slots, Logs: 1, Buckets: 1})
	if e != api.OK {
		t.Fatalf("layout.Of: %v", e)
	}
	d, e := pdev.New(l.Lines(), threads)
	if e != api.OK {
		t.Fatalf("pdev.New: %v", e)
	}
	m, e := pmem.New(d, l.Passing())
	if e != api.OK {
		t.Fatalf("pmem.New: %v", e)
	}
	return l, m
}

// lay lets slots be free, in order, below a top of a version.
func lay(l *layout.Layout, m *pmem.Mem, ver uint32, slots ...int) {
	first := api.None
	for _, s := range slices.Backward(slots) {
		m.Store(0, l.After(s), uint64(first+1))
		first = s
	}
	m.Store(0, l.Free(), bits.Top(first, ver))
}

// step does one step, and fails if it does another access than one, or tells another thing than whether the machine is done.
func step(t *testing.T, m *pmem.Mem, x machine, want api.Access, done bool) {
	t.Helper()
	clock := m.Clock()
	if x.Step(m) != done || x.Done() != done {
		t.Errorf("%+v: done %v, want %v", want, x.Done(), done)
	}
	if m.Last() != want || m.Clock() != clock+1 {
		t.Errorf("%d accesses, the last one %+v, want %+v", m.Clock()-clock, m.Last(), want)
	}
}

// ends lets a machine go on till it is done, and tells by how many steps.
func ends(t *testing.T, m *pmem.Mem, x machine) int {
	t.Helper()
	for n := 1; n < 100; n++ {
		if x.Step(m) {
			return n
		}
	}
	t.Fatalf("not done in 100 steps")
	return 0
}

// idle fails if a step of what is done does anything.
func idle(t *testing.T, m *pmem.Mem, x machine) {
	t.Helper()
	clock, last := m.Clock(), m.Last()
	if !x.Step(m) || !x.Done() || m.Clock() != clock || m.Last() != last {
		t.Errorf("a step of a machine that is done does something")
	}
}

// listed fails if the list, or whether it is one, is another.
func listed(t *testing.T, l *layout.Layout, m *pmem.Mem, whole bool, want ...int) {
	t.Helper()
	clock := m.Clock()
	if got, is := free.List(l, m); is != whole || !slices.Equal(got, want) {
		t.Errorf("List: %v, %v, want %v, %v", got, is, want, whole)
	}
	if m.Clock() != clock {
		t.Errorf("List did %d accesses", m.Clock()-clock)
	}
}

// has fails if a Pop has another slot.
func has(t *testing.T, p *free.Pop, want int) {
	t.Helper()
	if got := p.Slot(); got != want {
		t.Errorf("Slot() = %d, want %d", got, want)
	}
}

func TestPopIsThreeSteps(t *testing.T) { // 9.1, 9.4
	l, m := ground(t, 2, 3)
	lay(l, m, 7, 2, 0)
	p := free.NewPop(l, 1)
	has(t, p, api.None)
	step(t, m, p, api.Access{Kind: api.AcLoad, Thread: 1, At: l.Free(), Old: bits.Top(2, 7), Done: true}, false)
	has(t, p, api.None)
	step(t, m, p, api.Access{Kind: api.AcLoad, Thread: 1, At: l.After(2), Old: 1, Done: true}, false)
	has(t, p, api.None)
	step(t, m, p, api.Access{Kind: api.AcSwap, Thread: 1, At: l.Free(), Old: bits.Top(2, 7), New: bits.Top(0, 8), Done: true}, true)
	has(t, p, 2)
	idle(t, m, p)
	has(t, p, 2)
	listed(t, l, m, true, 0)
}

func TestPopOfTheLastSlot(t *testing.T) { // 9.1
	l, m := ground(t, 1, 3)
	lay(l, m, 0, 1)
	p := free.NewPop(l, 0)
	p.Step(m)
	step(t, m, p, api.Access{Kind: api.AcLoad, At: l.After(1), Done: true}, false)
	step(t, m, p, api.Access{Kind: api.AcSwap, At: l.Free(), Old: bits.Top(1, 0), New: bits.Top(api.None, 1), Done: true}, true)
	has(t, p, 1)
	listed(t, l, m, true)
}

func TestPopOfNone(t *testing.T) { // 9.1, 9.4
	for _, ver := range []uint32{0, 1, math.MaxUint32} {
		l, m := ground(t, 1, 2)
		lay(l, m, ver)
		p := free.NewPop(l, 0)
		step(t, m, p, api.Access{Kind: api.AcLoad, At: l.Free(), Old: bits.Top(api.None, ver), Done: true}, true)
		has(t, p, api.None)
		lay(l, m, ver, 0, 1)
		idle(t, m, p)
		has(t, p, api.None)
		listed(t, l, m, true, 0, 1)
	}
}

func TestPopTakesTheSlotOfWhatIsBehind(t *testing.T) { // 9.1: To of the word, whatever else it has
	l, m := ground(t, 1, 3)
	lay(l, m, 3, 1)
	m.Store(0, l.After(1), 5<<32|3)
	p := free.NewPop(l, 0)
	ends(t, m, p)
	has(t, p, 1)
	if w, _ := m.Peek(l.Free()); w != bits.Top(2, 4) {
		t.Errorf("the top is %#x, want %#x", w, bits.Top(2, 4))
	}
}

func TestPopBeginsAnewWhereTheTopIsAnotherOne(t *testing.T) { // 9.1
	for _, x := range []struct {
		name string
		ver  uint32
		now  []int // free at the time of the swap
		have int
	}{
		{"slot and version", 5, []int{1, 2}, 1},
		{"slot alone", 4, []int{1, 2}, 1},
		{"version alone", 6, []int{0, 1, 2}, 0},
		{"version below", 3, []int{0, 1, 2}, 0},
	} {
		l, m := ground(t, 1, 3)
		lay(l, m, 4, 0, 1, 2)
		p := free.NewPop(l, 0)
		p.Step(m)
		p.Step(m)
		lay(l, m, x.ver, x.now...)
		top, next := bits.Top(x.now[0], x.ver), bits.Top(x.now[1], x.ver+1)
		step(t, m, p, api.Access{Kind: api.AcSwap, At: l.Free(), Old: top, New: bits.Top(1, 5)}, false)
		has(t, p, api.None)
		listed(t, l, m, true, x.now...)
		step(t, m, p, api.Access{Kind: api.AcLoad, At: l.Free(), Old: top, Done: true}, false)
		step(t, m, p, api.Access{Kind: api.AcLoad, At: l.After(x.now[0]), Old: uint64(x.now[1] + 1), Done: true}, false)
		step(t, m, p, api.Access{Kind: api.AcSwap, At: l.Free(), Old: top, New: next, Done: true}, true)
		has(t, p, x.have)
		if t.Failed() {
			t.Fatalf("of another %s", x.name)
		}
	}
}

func TestPopThatFindsNoneTheSecondTime(t *testing.T) { // 9.1
	l, m := ground(t, 1, 2)
	lay(l, m, 0, 0)
	p := free.NewPop(l, 0)
	p.Step(m)
	p.Step(m)
	lay(l, m, 1)
	if p.Step(m) {
		t.Errorf("a swap that should fail")
	}
	step(t, m, p, api.Access{Kind: api.AcLoad, At: l.Free(), Old: bits.Top(api.None, 1), Done: true}, true)
	has(t, p, api.None)
}

func TestPushIsThreeSteps(t *testing.T) { // 9.2, 9.4
	l, m := ground(t, 2, 3)
	lay(l, m, 7, 2, 0)
	m.Store(0, l.After(1), 99)
	p := free.NewPush(l, 1, 1)
	step(t, m, p, api.Access{Kind: api.AcLoad, Thread: 1, At: l.Free(), Old: bits.Top(2, 7), Done: true}, false)
	step(t, m, p, api.Access{Kind: api.AcStore, Thread: 1, At: l.After(1), Old: 99, New: 3, Done: true}, false)
	listed(t, l, m, true, 2, 0)
	step(t, m, p, api.Access{Kind: api.AcSwap, Thread: 1, At: l.Free(), Old: bits.Top(2, 7), New: bits.Top(1, 8), Done: true}, true)
	idle(t, m, p)
	listed(t, l, m, true, 1, 2, 0)
}

func TestPushOnNone(t *testing.T) { // 9.2
	l, m := ground(t, 1, 3)
	lay(l, m, 9)
	m.Store(0, l.After(0), 2)
	p := free.NewPush(l, 0, 0)
	step(t, m, p, api.Access{Kind: api.AcLoad, At: l.Free(), Old: bits.Top(api.None, 9), Done: true}, false)
	step(t, m, p, api.Access{Kind: api.AcStore, At: l.After(0), Old: 2, Done: true}, false)
	step(t, m, p, api.Access{Kind: api.AcSwap, At: l.Free(), Old: bits.Top(api.None, 9), New: bits.Top(0, 10), Done: true}, true)
	listed(t, l, m, true, 0)
}

func TestPushBeginsAnewWhereTheTopIsAnotherOne(t *testing.T) { // 9.2
	for _, x := range []struct {
		ver uint32
		now []int
	}{{5, []int{1}}, {4, []int{1}}, {6, []int{0, 1}}, {3, []int{0, 1}}, {9, nil}} {
		l, m := ground(t, 1, 3)
		lay(l, m, 4, 0, 1)
		p := free.NewPush(l, 0, 2)
		p.Step(m)
		p.Step(m)
		lay(l, m, x.ver, x.now...)
		first := api.None
		if len(x.now) > 0 {
			first = x.now[0]
		}
		top := bits.Top(first, x.ver)
		step(t, m, p, api.Access{Kind: api.AcSwap, At: l.Free(), Old: top, New: bits.Top(2, 5)}, false)
		listed(t, l, m, true, x.now...)
		step(t, m, p, api.Access{Kind: api.AcLoad, At: l.Free(), Old: top, Done: true}, false)
		step(t, m, p, api.Access{Kind: api.AcStore, At: l.After(2), Old: 1, New: uint64(first + 1), Done: true}, false)
		step(t, m, p, api.Access{Kind: api.AcSwap, At: l.Free(), Old: top, New: bits.Top(2, x.ver+1), Done: true}, true)
		listed(t, l, m, true, append([]int{2}, x.now...)...)
	}
}

func TestVersionsGoRound(t *testing.T) { // 9.1, 9.2
	l, m := ground(t, 1, 2)
	lay(l, m, math.MaxUint32, 1, 0)
	p := free.NewPop(l, 0)
	ends(t, m, p)
	if w, _ := m.Peek(l.Free()); w != bits.Top(0, 0) {
		t.Errorf("the top behind a Pop is %#x", w)
	}
	lay(l, m, math.MaxUint32, 0)
	ends(t, m, free.NewPush(l, 0, 1))
	if w, _ := m.Peek(l.Free()); w != bits.Top(1, 0) {
		t.Errorf("the top behind a Push is %#x", w)
	}
}

func TestExampleOfTheDocument(t *testing.T) { // 9.1, 9.2
	l, m := ground(t, 1, 2)
	lay(l, m, 4, 0, 1)
	p := free.NewPop(l, 0)
	ends(t, m, p)
	has(t, p, 0)
	ends(t, m, free.NewPush(l, 0, 0))
	listed(t, l, m, true, 0, 1)
	if w, _ := m.Peek(l.Free()); bits.Ver(w) != 6 {
		t.Errorf("the version is %d", bits.Ver(w))
	}
}

func TestTwoLoadTheSameTop(t *testing.T) { // 9.1, the fifth example of the whole
	l, m := ground(t, 2, 2)
	lay(l, m, 0, 0, 1)
	a, b := free.NewPop(l, 0), free.NewPop(l, 1)
	a.Step(m)
	b.Step(m)
	a.Step(m)
	b.Step(m)
	if !a.Step(m) || b.Step(m) {
		t.Errorf("both swaps, or none, are done")
	}
	ends(t, m, b)
	has(t, a, 0)
	has(t, b, 1)
}

func TestNoMachine(t *testing.T) { // 9.1, 9.2, R1
	_, m := ground(t, 1, 1)
	var pop *free.Pop
	var push *free.Push
	idle(t, m, pop)
	idle(t, m, push)
	has(t, pop, api.None)
	if !pop.Step(nil) || !push.Step(nil) {
		t.Errorf("no machine is not done")
	}
}

func TestMachinesOfNothingDoNotPanic(t *testing.T) { // R1
	_, m := ground(t, 1, 1)
	for _, x := range []machine{&free.Pop{}, &free.Push{}} {
		for range 9 {
			x.Step(m)
			x.Done()
		}
	}
	has(t, &free.Pop{}, api.None)
}

func TestThreadsThatThereAreNot(t *testing.T) { // 9.1, 9.2: loads, stores and swaps ask nothing of the thread
	for _, thread := range []int{math.MinInt, -1, 1, 64, math.MaxInt} {
		l, m := ground(t, 1, 2)
		lay(l, m, 0, 0, 1)
		p := free.NewPop(l, thread)
		ends(t, m, p)
		has(t, p, 0)
		if m.Last().Thread != thread {
			t.Errorf("the swap is by %d, want %d", m.Last().Thread, thread)
		}
		ends(t, m, free.NewPush(l, thread, 0))
		listed(t, l, m, true, 0, 1)
		if m.Last().Thread != thread || m.Bad() != 0 {
			t.Errorf("the swap is by %d, want %d; %d bad accesses", m.Last().Thread, thread, m.Bad())
		}
	}
}

func TestSlotsThatThereAreNot(t *testing.T) { // 9.1, 9.2: the word is none, and all else is as ever
	for _, slot := range []int{math.MinInt, -2, -1, 2, 1 << 31, math.MaxInt} {
		l, m := ground(t, 1, 2)
		lay(l, m, 3, 1)
		p := free.NewPush(l, 0, slot)
		p.Step(m)
		step(t, m, p, api.Access{Kind: api.AcStore, At: l.Lines() * 8, New: 2}, false)
		step(t, m, p, api.Access{Kind: api.AcSwap, At: l.Free(), Old: bits.Top(1, 3), New: bits.Top(slot, 4), Done: true}, true)
	}
	l, m := ground(t, 1, 2)
	m.Store(0, l.Free(), bits.Top(2, 3))
	p := free.NewPop(l, 0)
	p.Step(m)
	step(t, m, p, api.Access{Kind: api.AcLoad, At: l.Lines() * 8}, false)
	step(t, m, p, api.Access{Kind: api.AcSwap, At: l.Free(), Old: bits.Top(2, 3), New: bits.Top(api.None, 4), Done: true}, true)
	has(t, p, 2)
}

func TestListOfEachLength(t *testing.T) { // 9.3
	for n := range 5 {
		l, m := ground(t, 1, 4)
		lay(l, m, 17, []int{2, 0, 3, 1}[:n]...)
		listed(t, l, m, true, []int{2, 0, 3, 1}[:n]...)
	}
}

func TestListThatGoesRound(t *testing.T) { // 9.3
	for n := 1; n <= 4; n++ {
		for back := range n {
			l, m := ground(t, 1, 4)
			slots := []int{3, 1, 0, 2}[:n]
			lay(l, m, 1, slots...)
			m.Store(0, l.After(slots[n-1]), uint64(slots[back]+1))
			listed(t, l, m, false, slots...)
		}
	}
}

func TestListOfWhatIsNoSlot(t *testing.T) { // 9.3
	for _, slot := range []int{3, 4, 1 << 16, 1 << 31, 1<<32 - 2} {
		l, m := ground(t, 1, 3)
		m.Store(0, l.Free(), bits.Top(slot, 1))
		listed(t, l, m, false)
		lay(l, m, 1, 2, 1)
		m.Store(0, l.After(1), uint64(slot+1))
		listed(t, l, m, false, 2, 1)
	}
}

func TestListIsOfTheLayoutAlone(t *testing.T) { // 9.3: the number of no word may be a word's in a greater memory
	l, _ := ground(t, 1, 2)
	_, m := ground(t, 2, 9)
	lay(l, m, 1, 1)
	m.Store(0, l.Lines()*8, 1)
	m.Store(0, l.After(1), 3)
	listed(t, l, m, false, 1)
}

func TestListOfWordsThatHaveMore(t *testing.T) { // 9.3
	l, m := ground(t, 1, 3)
	lay(l, m, math.MaxUint32, 2, 1)
	m.Store(0, l.After(2), 1<<63|1<<32|2)
	m.Store(0, l.After(1), 1<<32)
	listed(t, l, m, true, 2, 1)
}

func TestListWithoutWords(t *testing.T) { // 9.3, R1
	l, _ := ground(t, 1, 2)
	listed(t, l, nil, true)
	d, _ := pdev.New(1, 1)
	for passing := range 3 {
		m, _ := pmem.New(d, passing)
		listed(t, l, m, true)
	}
	m, _ := pmem.New(d, 2)
	m.Store(0, l.Free(), bits.Top(1, 0))
	listed(t, l, m, true, 1)
}

func TestListIsOwnMemory(t *testing.T) { // R3
	l, m := ground(t, 1, 3)
	lay(l, m, 0, 0, 1, 2)
	a, _ := free.List(l, m)
	clear(a[:2])
	a[0] = 9
	listed(t, l, m, true, 0, 1, 2)
	b, _ := free.List(l, m)
	ends(t, m, free.NewPop(l, 0))
	if !slices.Equal(b, []int{0, 1, 2}) {
		t.Errorf("what was answered was changed later: %v", b)
	}
}

func TestGreatestList(t *testing.T) { // 9.3
	l, m := ground(t, 64, api.MaxSlots)
	var want []int
	for s := range api.MaxSlots {
		ends(t, m, free.NewPush(l, s%64, s))
		want = append(want, s)
	}
	slices.Reverse(want)
	listed(t, l, m, true, want...)
}
