package retire_test

import (
	"math"
	"slices"
	"testing"

	"limekiln/api"
	"limekiln/bits"
	"limekiln/epoch"
	"limekiln/free"
	"limekiln/layout"
	"limekiln/pdev"
	"limekiln/pmem"
	"limekiln/retire"
)

// machine is what all machines have in common.
type machine interface {
	Step(m *pmem.Mem) bool
	Done() bool
}

// ground is a layout of so many threads, slots, and entries of a log, and a memory in which nothing is free, or retired.
func ground(t *testing.T, threads, slots, logs int) (*layout.Layout, *pmem.Mem) {
	t.Helper()
	l, e := layout.Of(api.Config{Threads: threads, Slots: slots, Logs: logs, Buckets: 1})
	if e != api.OK {
		t.Fatalf("layout.Of: %v", e)
	}
	d, e := pdev.New(l.Lines(), threads)
	if e != api.OK {
		t.Fatalf("pdev.New: %v", e)
	}
	m, e := pmem.New(d, l.Passing())
	if e != api.OK {
		t.Fatalf("pmem.New: %v", e)
	}
	return l, m
}

// fill lays words into a thread's log, so that they last.
func fill(l *layout.Layout, m *pmem.Mem, thread int, words ...uint64) {
	for i, w := range words {
		at := l.Log(thread, i)
		m.Store(0, at, w)
		m.Flush(0, at)
	}
	m.Fence(0)
}

// step does one step, and fails if it does another access than one, or tells another thing than whether the machine is done.
func step(t *testing.T, m *pmem.Mem, x machine, want api.Access, done bool) {
	t.Helper()
	clock := m.Clock()
	if x.Step(m) != done || x.Done() != done {
		t.Errorf("%+v: done %v, want %v", want, x.Done(), done)
	}
	if m.Last() != want || m.Clock() != clock+1 {
		t.Errorf("%d accesses, the last one %+v, want %+v", m.Clock()-clock, m.Last(), want)
	}
}

// ends lets a machine go on till it is done, and tells by how many steps.
func ends(t *testing.T, m *pmem.Mem, x machine) int {
	t.Helper()
	for n := 1; n < 1000; n++ {
		if x.Step(m) {
			return n
		}
	}
	t.Fatalf("not done in 1000 steps")
	return 0
}

// idle fails if a step of what is done does anything.
func idle(t *testing.T, m *pmem.Mem, x machine) {
	t.Helper()
	clock, last := m.Clock(), m.Last()
	if !x.Step(m) || !x.Done() || m.Clock() != clock || m.Last() != last {
		t.Errorf("a step of a machine that is done does something")
	}
}

// placed fails if a Reserve has another place.
func placed(t *testing.T, x *retire.Reserve, want int) {
	t.Helper()
	if got := x.Place(); got != want {
		t.Errorf("Place() = %d, want %d", got, want)
	}
}

// logged fails if a thread's log has other words.
func logged(t *testing.T, l *layout.Layout, m *pmem.Mem, thread int, want ...uint64) {
	t.Helper()
	for i, w := range want {
		if got, _ := m.Peek(l.Log(thread, i)); got != w {
			t.Errorf("the entry %d of the thread %d is %#x, want %#x", i, thread, got, w)
		}
	}
}

// kept fails if another word is kept as an entry.
func kept(t *testing.T, l *layout.Layout, m *pmem.Mem, thread, place int, want uint64) {
	t.Helper()
	if got := m.Device().Kept()[l.Log(thread, place)]; got != want {
		t.Errorf("the entry %d of the thread %d is kept as %#x, want %#x", place, thread, got, want)
	}
}

// slots fails if the slots of a log are others.
func slots(t *testing.T, l *layout.Layout, m *pmem.Mem, thread int, want ...int) {
	t.Helper()
	clock := m.Clock()
	if got := retire.Slots(l, m, thread); !slices.Equal(got, want) {
		t.Errorf("Slots(%d) = %v, want %v", thread, got, want)
	}
	if m.Clock() != clock {
		t.Errorf("Slots did %d accesses", m.Clock()-clock)
	}
}

func TestReserveIsALoadAnEntryAndThreeSteps(t *testing.T) { // 11.1
	l, m := ground(t, 2, 6, 3)
	x := retire.NewReserve(l, 1, 4)
	at := l.Log(1, 0)
	placed(t, x, api.None)
	step(t, m, x, api.Access{Kind: api.AcLoad, Thread: 1, At: at, Done: true}, false)
	placed(t, x, api.None)
	step(t, m, x, api.Access{Kind: api.AcStore, Thread: 1, At: at, New: bits.Entry(4, api.None), Done: true}, false)
	placed(t, x, api.None)
	step(t, m, x, api.Access{Kind: api.AcFlush, Thread: 1, At: at, Done: true}, false)
	placed(t, x, api.None)
	kept(t, l, m, 1, 0, 0)
	step(t, m, x, api.Access{Kind: api.AcFence, Thread: 1, Done: true}, true)
	placed(t, x, 0)
	kept(t, l, m, 1, 0, bits.Entry(4, api.None))
	idle(t, m, x)
	placed(t, x, 0)
	logged(t, l, m, 0, 0, 0, 0)
	logged(t, l, m, 1, bits.Entry(4, api.None), 0, 0)
}

func TestReserveTakesTheFirstPlaceThatIsEmpty(t *testing.T) { // 11.1
	full := []uint64{bits.Entry(3, api.None), bits.Entry(2, 9), bits.Entry(api.None, 5), 1 << 63, math.MaxUint64, 7, 6, 5, 4, 3}
	for first := range full {
		l, m := ground(t, 2, 6, len(full))
		words := slices.Clone(full)
		words[first] = 0
		words[len(words)-1] = 0
		fill(l, m, 0, words...)
		x := retire.NewReserve(l, 0, 5)
		for place := range first {
			step(t, m, x, api.Access{Kind: api.AcLoad, At: l.Log(0, place), Old: full[place], Done: true}, false)
		}
		step(t, m, x, api.Access{Kind: api.AcLoad, At: l.Log(0, first), Done: true}, false)
		step(t, m, x, api.Access{Kind: api.AcStore, At: l.Log(0, first), New: 6, Done: true}, false)
		step(t, m, x, api.Access{Kind: api.AcFlush, At: l.Log(0, first), Done: true}, false)
		step(t, m, x, api.Access{Kind: api.AcFence, Done: true}, true)
		placed(t, x, first)
		words[first] = 6
		logged(t, l, m, 0, words...)
		kept(t, l, m, 0, first, 6)
	}
}

func TestReserveInAFullLog(t *testing.T) { // 11.1, 11.4
	for _, logs := range []int{1, 2, 3, 8, 9, 63, 64} {
		l, m := ground(t, 3, 1, logs)
		var words []uint64
		for i := range logs {
			words = append(words, uint64(i)<<32|uint64(i%3+1))
		}
		fill(l, m, 1, words...)
		before := m.Device().Seen()
		x := retire.NewReserve(l, 1, 0)
		for place, w := range words {
			placed(t, x, api.None)
			step(t, m, x, api.Access{Kind: api.AcLoad, Thread: 1, At: l.Log(1, place), Old: w, Done: true}, place == logs-1)
		}
		placed(t, x, api.None)
		fill(l, m, 1, make([]uint64, logs)...)
		idle(t, m, x)
		placed(t, x, api.None)
		fill(l, m, 1, words...)
		if !slices.Equal(m.Device().Seen(), before) || !slices.Equal(m.Device().Kept(), before) {
			t.Errorf("of %d entries: something was written", logs)
		}
	}
}

func TestReserveGoesOnlyOn(t *testing.T) { // 11.1: what is empty by now, but was passed, is not looked at again
	l, m := ground(t, 1, 3, 2)
	fill(l, m, 0, 1, 2)
	x := retire.NewReserve(l, 0, 2)
	x.Step(m)
	fill(l, m, 0, 0, 2)
	step(t, m, x, api.Access{Kind: api.AcLoad, At: l.Log(0, 1), Old: 2, Done: true}, true)
	placed(t, x, api.None)

	fill(l, m, 0, 1, 0)
	y := retire.NewReserve(l, 0, 2)
	y.Step(m)
	y.Step(m)
	fill(l, m, 0, 0, 9) // what was seen empty is stored to
	step(t, m, y, api.Access{Kind: api.AcStore, At: l.Log(0, 1), Old: 9, New: 3, Done: true}, false)
	ends(t, m, y)
	placed(t, y, 1)
}

func TestCancelIsOneStep(t *testing.T) { // 11.1
	l, m := ground(t, 2, 6, 3)
	for thread := range 2 {
		for place := range 3 {
			words := []uint64{bits.Entry(1, api.None), bits.Entry(2, 5), bits.Entry(0, 7)}
			fill(l, m, 0, words...)
			fill(l, m, 1, words...)
			x := retire.NewCancel(l, thread, place)
			if x.Done() {
				t.Errorf("done ahead of its step")
			}
			step(t, m, x, api.Access{Kind: api.AcStore, Thread: thread, At: l.Log(thread, place), Old: words[place], Done: true}, true)
			fill(l, m, 1-thread, words...)
			idle(t, m, x)
			was := words[place]
			words[place] = 0
			logged(t, l, m, thread, words...)
			kept(t, l, m, thread, place, was)
		}
	}
}

func TestStampIsFourSteps(t *testing.T) { // 11.1
	l, m := ground(t, 2, 6, 3)
	fill(l, m, 1, 1, 2, bits.Entry(5, api.None))
	m.Store(0, l.Epoch(), 8)
	x := retire.NewStamp(l, 1, 2, 5)
	at := l.Log(1, 2)
	step(t, m, x, api.Access{Kind: api.AcLoad, Thread: 1, At: l.Epoch(), Old: 8, Done: true}, false)
	m.Store(0, l.Epoch(), 9)
	step(t, m, x, api.Access{Kind: api.AcStore, Thread: 1, At: at, Old: 6, New: bits.Entry(5, 8), Done: true}, false)
	step(t, m, x, api.Access{Kind: api.AcFlush, Thread: 1, At: at, Done: true}, false)
	kept(t, l, m, 1, 2, 6)
	step(t, m, x, api.Access{Kind: api.AcFence, Thread: 1, Done: true}, true)
	kept(t, l, m, 1, 2, bits.Entry(5, 8))
	idle(t, m, x)
	logged(t, l, m, 0, 0, 0, 0)
	logged(t, l, m, 1, 1, 2, bits.Entry(5, 8))
}

func TestStampAsksNothingOfTheEntry(t *testing.T) { // 11.1: the slot is the one that it was handed
	for _, was := range []uint64{0, 1, 3, math.MaxUint64} {
		l, m := ground(t, 1, 4, 9)
		m.Store(0, l.Log(0, 8), was)
		ends(t, m, retire.NewStamp(l, 0, 8, 3))
		logged(t, l, m, 0, 0, 0, 0, 0, 0, 0, 0, 0, bits.Entry(3, 0))
		kept(t, l, m, 0, 8, bits.Entry(3, 0))
	}
}

func TestStampOfEachEpoch(t *testing.T) { // 11.1: an entry has the epoch's lowest bits, as layer 1 says
	for _, x := range []struct{ epoch, want uint64 }{
		{0, 1<<32 | 2},
		{1, 2<<32 | 2},
		{math.MaxUint32 - 1, math.MaxUint32<<32 | 2},
		{math.MaxUint32, 2},
		{1 << 32, 1<<32 | 2},
		{1<<40 | 6, 7<<32 | 2},
		{math.MaxInt64, 2},
		{1 << 63, 1<<32 | 2},
		{math.MaxUint64, 2},
	} {
		l, m := ground(t, 1, 2, 1)
		m.Store(0, l.Epoch(), x.epoch)
		ends(t, m, retire.NewStamp(l, 0, 0, 1))
		logged(t, l, m, 0, x.want)
	}
}

func TestExampleOfTheDocument(t *testing.T) { // 11.1
	l, m := ground(t, 1, 2, 1)
	a, b := retire.NewReserve(l, 0, 0), retire.NewReserve(l, 0, 0)
	if n := ends(t, m, a); n != 4 {
		t.Errorf("%d steps", n)
	}
	placed(t, a, 0)
	if n := ends(t, m, b); n != 1 {
		t.Errorf("%d steps", n)
	}
	placed(t, b, api.None)
	slots(t, l, m, 0, 0)
}

func TestEntriesOutlastACrash(t *testing.T) { // 11.1
	l, m := ground(t, 1, 6, 3)
	ends(t, m, retire.NewReserve(l, 0, 3))
	m.Crash()
	slots(t, l, m, 0, 3)
	m.Store(0, l.Epoch(), 7)
	ends(t, m, retire.NewStamp(l, 0, 0, 3))
	m.Crash()
	logged(t, l, m, 0, bits.Entry(3, 7), 0, 0)
	ends(t, m, retire.NewCancel(l, 0, 0))
	slots(t, l, m, 0)
	m.Crash() // a Cancel does not let anything last
	logged(t, l, m, 0, bits.Entry(3, 7), 0, 0)
}

func TestSlotsOfALog(t *testing.T) { // 11.3
	l, m := ground(t, 2, 6, 10)
	slots(t, l, m, 0)
	fill(l, m, 0, 0, bits.Entry(4, api.None), 0, bits.Entry(api.None, 3), bits.Entry(0, 7), 0, bits.Entry(4, 1), bits.Entry(6, 0), bits.Entry(1<<32-2, 0), bits.Entry(5, 1<<32-2))
	slots(t, l, m, 0, 4, api.None, 0, 4, 6, 1<<32-2, 5)
	slots(t, l, m, 1)
	fill(l, m, 1, 6)
	slots(t, l, m, 1, 5)
}

func TestSlotsOfThreadsThatThereAreNot(t *testing.T) { // 11.3
	l, m := ground(t, 2, 3, 3)
	_, greater := ground(t, 9, 9, 9) // in it the number of no word is a word's
	for _, x := range []*pmem.Mem{m, greater} {
		x.Store(0, l.Lines()*8, 5)
		fill(l, x, 0, 1, 2, 3)
		fill(l, x, 1, 3, 2, 1)
		for _, thread := range []int{math.MinInt, -2, -1, 2, 3, 64, 1 << 32, math.MaxInt} {
			slots(t, l, x, thread)
		}
		slots(t, l, x, 0, 0, 1, 2)
		slots(t, l, x, 1, 2, 1, 0)
	}
}

func TestSlotsWithoutWords(t *testing.T) { // 11.3, R1
	l, _ := ground(t, 2, 3, 3)
	slots(t, l, nil, 0)
	slots(t, l, nil, 2)
	d, _ := pdev.New(1, 1)
	m, _ := pmem.New(d, 0)
	slots(t, l, m, 1)
}

func TestSlotsIsOwnMemory(t *testing.T) { // R3
	l, m := ground(t, 1, 3, 3)
	fill(l, m, 0, 3, 2, 1)
	a := retire.Slots(l, m, 0)
	clear(a[:2])
	slots(t, l, m, 0, 2, 1, 0)
	b := retire.Slots(l, m, 0)
	ends(t, m, retire.NewCancel(l, 0, 1))
	if !slices.Equal(b, []int{2, 1, 0}) {
		t.Errorf("what was answered was changed later: %v", b)
	}
}

func TestNoMachine(t *testing.T) { // 11.1, 11.2, R1
	_, m := ground(t, 1, 1, 1)
	var a *retire.Reserve
	var b *retire.Cancel
	var c *retire.Stamp
	var d *retire.Reclaim
	for _, x := range []machine{a, b, c, d} {
		idle(t, m, x)
		if !x.Step(nil) {
			t.Errorf("no machine is not done")
		}
	}
	placed(t, a, api.None)
	holds(t, d, api.None, 0)
}

func TestMachinesOfNothingDoNotPanic(t *testing.T) { // R1
	_, m := ground(t, 1, 1, 1)
	a, d := &retire.Reserve{}, &retire.Reclaim{}
	for _, x := range []machine{a, &retire.Cancel{}, &retire.Stamp{}, d} {
		ends(t, m, x)
	}
	placed(t, a, api.None)
	holds(t, d, api.None, 0)
}

func TestThreadsThatThereAreNot(t *testing.T) { // 11.1, 11.2: the word is none, and all else is as ever
	for _, thread := range []int{math.MinInt, -1, 2, 64, math.MaxInt} {
		l, m := ground(t, 2, 3, 3)
		fill(l, m, 0, bits.Entry(0, 0), bits.Entry(1, 0), bits.Entry(2, 0))
		fill(l, m, 1, bits.Entry(0, 0), bits.Entry(1, 0), bits.Entry(2, 0))
		m.Store(0, l.Epoch(), 3)
		before, none := m.Device().Seen(), l.Lines()*8
		x := retire.NewReserve(l, thread, 1)
		step(t, m, x, api.Access{Kind: api.AcLoad, Thread: thread, At: none}, false)
		step(t, m, x, api.Access{Kind: api.AcStore, Thread: thread, At: none, New: 2}, false)
		step(t, m, x, api.Access{Kind: api.AcFlush, Thread: thread, At: none}, false)
		step(t, m, x, api.Access{Kind: api.AcFence, Thread: thread}, true)
		step(t, m, retire.NewCancel(l, thread, 1), api.Access{Kind: api.AcStore, Thread: thread, At: none}, true)
		y := retire.NewStamp(l, thread, 1, 1)
		step(t, m, y, api.Access{Kind: api.AcLoad, Thread: thread, At: l.Epoch(), Old: 3, Done: true}, false)
		step(t, m, y, api.Access{Kind: api.AcStore, Thread: thread, At: none, New: bits.Entry(1, 3)}, false)
		ends(t, m, y)
		z := retire.NewReclaim(l, thread)
		step(t, m, z, api.Access{Kind: api.AcLoad, Thread: thread, At: l.Epoch(), Old: 3, Done: true}, false)
		for place := range 3 {
			step(t, m, z, api.Access{Kind: api.AcLoad, Thread: thread, At: none}, place == 2)
		}
		holds(t, z, api.None, 0)
		if !slices.Equal(m.Device().Seen(), before) {
			t.Errorf("the thread %d wrote something", thread)
		}
	}
}

func TestPlacesAndSlotsThatThereAreNot(t *testing.T) { // 11.1
	for _, place := range []int{math.MinInt, -1, 3, 8, 64, math.MaxInt} {
		l, m := ground(t, 2, 3, 3)
		before := m.Device().Seen()
		step(t, m, retire.NewCancel(l, 0, place), api.Access{Kind: api.AcStore, At: l.Lines() * 8}, true)
		x := retire.NewStamp(l, 0, place, 2)
		x.Step(m)
		step(t, m, x, api.Access{Kind: api.AcStore, At: l.Lines() * 8, New: bits.Entry(2, 0)}, false)
		step(t, m, x, api.Access{Kind: api.AcFlush, At: l.Lines() * 8}, false)
		step(t, m, x, api.Access{Kind: api.AcFence, Done: true}, true)
		if !slices.Equal(m.Device().Seen(), before) {
			t.Errorf("the place %d: something was written", place)
		}
	}
	for _, slot := range []int{math.MinInt, -2, -1, 3, 1 << 31, 1 << 32, math.MaxInt} {
		l, m := ground(t, 1, 3, 2)
		x := retire.NewReserve(l, 0, slot)
		ends(t, m, x)
		placed(t, x, 0)
		logged(t, l, m, 0, bits.Entry(slot, api.None))
		ends(t, m, retire.NewStamp(l, 0, 1, slot))
		logged(t, l, m, 0, bits.Entry(slot, api.None), bits.Entry(slot, 0))
	}
}

func TestGivenBackBehindTwoMoreEpochs(t *testing.T) { // 11.4
	for _, from := range []uint64{0, 1, 5, 1 << 31} {
		l, m := ground(t, 1, 3, 2)
		m.Store(0, l.Epoch(), from)
		x := retire.NewReserve(l, 0, 2)
		ends(t, m, x)
		for range 3 { // what is reserved alone stays
			ends(t, m, epoch.NewAdvance(l, 0))
			ends(t, m, retire.NewReclaim(l, 0))
			slots(t, l, m, 0, 2)
		}
		ends(t, m, retire.NewStamp(l, 0, x.Place(), 2))
		for moves := range 2 {
			r := retire.NewReclaim(l, 0)
			ends(t, m, r)
			holds(t, r, api.None, 0)
			slots(t, l, m, 0, 2)
			ends(t, m, epoch.NewAdvance(l, 0))
			if w, _ := m.Peek(l.Epoch()); w != from+4+uint64(moves) {
				t.Fatalf("the epoch is %d", w)
			}
		}
		r := retire.NewReclaim(l, 0)
		ends(t, m, r)
		holds(t, r, api.None, 1)
		slots(t, l, m, 0)
		if got, is := free.List(l, m); !is || !slices.Equal(got, []int{2}) {
			t.Errorf("List: %v, %v", got, is)
		}
	}
}
