package link_test

import (
	"math"
	"testing"

	"limekiln/api"
	"limekiln/bits"
	"limekiln/link"
	"limekiln/pdev"
	"limekiln/pmem"
)

// machine is what a Read and a Set have in common.
type machine interface {
	Step(m *pmem.Mem) bool
	Done() bool
	When() int
}

// ground is a memory of so many lines, threads, and passing words.
func ground(t *testing.T, lines, threads, passing int) *pmem.Mem {
	t.Helper()
	d, e := pdev.New(lines, threads)
	if e != api.OK {
		t.Fatalf("pdev.New: %v", e)
	}
	m, e := pmem.New(d, passing)
	if e != api.OK {
		t.Fatalf("pmem.New: %v", e)
	}
	return m
}

// step does one step, and fails if it does another access than one, or tells another thing than whether the machine is done.
func step(t *testing.T, m *pmem.Mem, x machine, want api.Access, done bool) {
	t.Helper()
	clock := m.Clock()
	if x.Step(m) != done || x.Done() != done {
		t.Errorf("%+v: done %v, want %v", want, x.Done(), done)
	}
	if m.Last() != want || m.Clock() != clock+1 {
		t.Errorf("%d accesses, the last one %+v, want %+v", m.Clock()-clock, m.Last(), want)
	}
}

// ends lets a machine go on till it is done, and tells by how many steps.
func ends(t *testing.T, m *pmem.Mem, x machine) int {
	t.Helper()
	for n := 1; n < 100; n++ {
		if x.Step(m) {
			return n
		}
	}
	t.Fatalf("not done in 100 steps")
	return 0
}

// idle fails if a step of what is done does anything.
func idle(t *testing.T, m *pmem.Mem, x machine) {
	t.Helper()
	clock, last := m.Clock(), m.Last()
	if !x.Step(m) || !x.Done() || m.Clock() != clock || m.Last() != last {
		t.Errorf("a step of a machine that is done does something")
	}
}

// has fails if a Read has another word, or another time.
func has(t *testing.T, x *link.Read, word uint64, when int) {
	t.Helper()
	if x.Word() != word || x.When() != when {
		t.Errorf("Word() = %#x, When() = %d, want %#x, %d", x.Word(), x.When(), word, when)
	}
}

// puts fails if a Set has put its link, or not, at another time, or by another count.
func puts(t *testing.T, x *link.Set, put bool, when, writes int) {
	t.Helper()
	if x.Put() != put || x.When() != when || x.Writes() != writes {
		t.Errorf("Put() = %v, When() = %d, Writes() = %d, want %v, %d, %d", x.Put(), x.When(), x.Writes(), put, when, writes)
	}
}

// word fails if another word is seen.
func word(t *testing.T, m *pmem.Mem, at int, want uint64) {
	t.Helper()
	if got, _ := m.Peek(at); got != want {
		t.Errorf("the word %d is %#x, want %#x", at, got, want)
	}
}

// kept fails if another word is kept.
func kept(t *testing.T, m *pmem.Mem, at int, want uint64) {
	t.Helper()
	if got := m.Device().Kept()[at]; got != want {
		t.Errorf("the word %d is kept as %#x, want %#x", at, got, want)
	}
}

// cleanLinks are links that are not dirty, and words that are no links at all, but not dirty.
func cleanLinks() []uint64 {
	return []uint64{0, 1, 5, bits.Link(api.MaxSlots-1, -1), bits.Link(2, 1), bits.Link(-1, 63), bits.Link(1<<32-2, 126), 1 << 39, 1 << 62, 1<<63 - 1}
}

func TestReadOfACleanLinkIsOneStep(t *testing.T) { // 13.1
	for i, w := range cleanLinks() {
		m := ground(t, 3, 2, 0)
		at, thread := 2*i, i%2
		m.Store(0, at, w)
		x := link.NewRead(thread, at)
		has(t, x, 0, api.None)
		if x.Done() {
			t.Errorf("done ahead of its step")
		}
		step(t, m, x, api.Access{Kind: api.AcLoad, Thread: thread, At: at, Old: w, Done: true}, true)
		has(t, x, w, 2)
		m.Store(0, at, w+1)
		idle(t, m, x)
		has(t, x, w, 2)
		kept(t, m, at, 0)
	}
}

func TestReadOfADirtyLinkIsFiveSteps(t *testing.T) { // 13.1, 13.3
	for i, w := range cleanLinks() {
		m := ground(t, 3, 2, 0)
		at, thread, dirty := 2*i, i%2, bits.Soil(w)
		m.Store(0, at, dirty)
		x := link.NewRead(thread, at)
		ahead := func(want api.Access) {
			t.Helper()
			step(t, m, x, want, false)
			has(t, x, 0, api.None)
		}
		ahead(api.Access{Kind: api.AcLoad, Thread: thread, At: at, Old: dirty, Done: true})
		ahead(api.Access{Kind: api.AcFlush, Thread: thread, At: at, Done: true})
		kept(t, m, at, 0)
		ahead(api.Access{Kind: api.AcFence, Thread: thread, Done: true})
		kept(t, m, at, dirty)
		word(t, m, at, dirty)
		ahead(api.Access{Kind: api.AcSwap, Thread: thread, At: at, Old: dirty, New: w, Done: true})
		word(t, m, at, w)
		step(t, m, x, api.Access{Kind: api.AcLoad, Thread: thread, At: at, Old: w, Done: true}, true)
		has(t, x, w, 6)
		idle(t, m, x)
		has(t, x, w, 6)
		word(t, m, at, w)
		kept(t, m, at, dirty)
	}
}

func TestReadOfWhatAnotherOneHasCleaned(t *testing.T) { // 13.1: its swap fails, and it loads again
	m := ground(t, 1, 2, 0)
	m.Store(0, 3, bits.Soil(7))
	x := link.NewRead(1, 3)
	x.Step(m)
	x.Step(m)
	ends(t, m, link.NewRead(0, 3))
	x.Step(m)
	step(t, m, x, api.Access{Kind: api.AcSwap, Thread: 1, At: 3, Old: 7, New: 7}, false)
	has(t, x, 0, api.None)
	step(t, m, x, api.Access{Kind: api.AcLoad, Thread: 1, At: 3, Old: 7, Done: true}, true)
	has(t, x, 7, m.Clock())
}

func TestReadOfWhatChangesMeanwhile(t *testing.T) { // 13.1: it has the word that it loads last
	for _, at := range []int{0, 13} {
		m := ground(t, 2, 2, 0)
		m.Store(0, at, bits.Soil(7))
		x := link.NewRead(0, at)
		for i := range 5 { // each time another dirty one stands there
			now, next := bits.Soil(uint64(7+i)), bits.Soil(uint64(8+i))
			step(t, m, x, api.Access{Kind: api.AcLoad, At: at, Old: now, Done: true}, false)
			step(t, m, x, api.Access{Kind: api.AcFlush, At: at, Done: true}, false)
			step(t, m, x, api.Access{Kind: api.AcFence, Done: true}, false)
			m.Store(1, at, next)
			step(t, m, x, api.Access{Kind: api.AcSwap, At: at, Old: next, New: bits.Clean(now)}, false)
			has(t, x, 0, api.None)
			word(t, m, at, next)
		}
		m.Store(1, at, 99)
		step(t, m, x, api.Access{Kind: api.AcLoad, At: at, Old: 99, Done: true}, true)
		has(t, x, 99, m.Clock())
	}
}

func TestReadOfWhatChangesBehindItsSwap(t *testing.T) { // 13.1
	m := ground(t, 1, 2, 0)
	m.Store(0, 0, bits.Soil(7))
	x := link.NewRead(0, 0)
	for range 4 {
		x.Step(m)
	}
	m.Store(1, 0, 12)
	m.Store(1, 0, 11)
	step(t, m, x, api.Access{Kind: api.AcLoad, At: 0, Old: 11, Done: true}, true)
	has(t, x, 11, 8)
}

func TestSetIsFourSteps(t *testing.T) { // 13.2, 13.3
	for i, w := range cleanLinks() {
		for j, old := range cleanLinks() {
			m := ground(t, 3, 2, 0)
			at, thread := 2*i, j%2
			m.Store(0, at, old)
			x := link.NewSet(thread, at, old, w)
			puts(t, x, false, api.None, 0)
			if x.Done() {
				t.Errorf("done ahead of its first step")
			}
			step(t, m, x, api.Access{Kind: api.AcSwap, Thread: thread, At: at, Old: old, New: bits.Soil(w), Done: true}, false)
			puts(t, x, true, 2, 0)
			step(t, m, x, api.Access{Kind: api.AcFlush, Thread: thread, At: at, Done: true}, false)
			kept(t, m, at, 0)
			step(t, m, x, api.Access{Kind: api.AcFence, Thread: thread, Done: true}, false)
			kept(t, m, at, bits.Soil(w))
			puts(t, x, true, 2, 0)
			step(t, m, x, api.Access{Kind: api.AcSwap, Thread: thread, At: at, Old: bits.Soil(w), New: w, Done: true}, true)
			puts(t, x, true, 2, 0)
			word(t, m, at, w)
			m.Store(0, at, old)
			idle(t, m, x)
			puts(t, x, true, 2, 0)
		}
	}
}

func TestSetTakesItsWordsClean(t *testing.T) { // 13.1
	for _, old := range []uint64{4, bits.Soil(4)} {
		for _, w := range []uint64{9, bits.Soil(9)} {
			m := ground(t, 1, 1, 0)
			m.Store(0, 2, 4)
			x := link.NewSet(0, 2, old, w)
			step(t, m, x, api.Access{Kind: api.AcSwap, At: 2, Old: 4, New: bits.Soil(9), Done: true}, false)
			x.Step(m)
			x.Step(m)
			step(t, m, x, api.Access{Kind: api.AcSwap, At: 2, Old: bits.Soil(9), New: 9, Done: true}, true)
			word(t, m, 2, 9)
		}
	}
}

func TestSetWhereAnotherLinkIs(t *testing.T) { // 13.2: a dirty one is another one than the same clean one
	for _, is := range []uint64{0, 5, 8, 1<<32 | 4, bits.Soil(4), bits.Soil(9), bits.Soil(0), 9} {
		for _, old := range []uint64{4, bits.Soil(4)} {
			m := ground(t, 1, 2, 0)
			m.Store(0, 6, is)
			m.Device().Evict(0)
			x := link.NewSet(1, 6, old, 9)
			step(t, m, x, api.Access{Kind: api.AcSwap, Thread: 1, At: 6, Old: is, New: bits.Soil(9)}, true)
			puts(t, x, false, api.None, 0)
			m.Store(0, 6, 4)
			idle(t, m, x)
			puts(t, x, false, api.None, 0)
			word(t, m, 6, 4)
		}
	}
}

func TestSetWhoseLinkIsAnotherOneByThen(t *testing.T) { // 13.2: it has put it all the same, and spoils nothing
	for _, now := range []uint64{0, 9, bits.Soil(8), 3} {
		m := ground(t, 1, 2, 0)
		x := link.NewSet(0, 1, 0, 9)
		for range 3 {
			x.Step(m)
		}
		m.Store(1, 1, now)
		step(t, m, x, api.Access{Kind: api.AcSwap, At: 1, Old: now, New: 9}, true)
		puts(t, x, true, 1, 0)
		word(t, m, 1, now)
	}
}

func TestWritesIsTheCountAtThatStep(t *testing.T) { // 13.2
	for n := range 4 {
		m := ground(t, 3, 1, 0)
		for range n {
			m.Device().Evict(1)
			m.Device().Evict(2)
		}
		m.Device().Evict(2)
		x := link.NewSet(0, 12, 0, 9)
		y := link.NewSet(0, 12, 1, 9) // puts nothing
		y.Step(m)
		puts(t, y, false, api.None, 0)
		puts(t, x, false, api.None, 0)
		m.Device().Evict(1)
		x.Step(m)
		puts(t, x, true, 2, n+1)
		m.Device().Evict(1)
		puts(t, x, true, 2, n+1)
		ends(t, m, x)
		puts(t, x, true, 2, n+1)
		if got := m.Writes(12); got != n+3 {
			t.Errorf("the line was written back %d times, want %d", got, n+3)
		}
	}
}

func TestExampleOfTheDocument(t *testing.T) { // 13.2, the seventh example of the whole
	m := ground(t, 1, 1, 0)
	x := link.NewSet(0, 0, 0, 5)
	x.Step(m)
	word(t, m, 0, bits.Soil(5))
	if n := ends(t, m, x); n != 3 {
		t.Errorf("%d more steps", n)
	}
	word(t, m, 0, 5)
}

func TestWhatWasReadOrPutOutlastsACrash(t *testing.T) { // 13.3
	for _, by := range []machine{link.NewSet(1, 4, 0, 5), link.NewRead(1, 4)} {
		m := ground(t, 1, 2, 0)
		if _, is := by.(*link.Read); is {
			m.Store(0, 4, bits.Soil(5))
		}
		ends(t, m, by)
		m.Crash()
		word(t, m, 4, bits.Soil(5)) // lines are written back while they are dirty
		x := link.NewRead(0, 4)
		if n := ends(t, m, x); n != 5 {
			t.Errorf("%d steps", n)
		}
		has(t, x, 5, m.Clock())
	}
}

func TestNoMachine(t *testing.T) { // 13.1, 13.2, R1
	m := ground(t, 1, 1, 0)
	var read *link.Read
	var set *link.Set
	idle(t, m, read)
	idle(t, m, set)
	has(t, read, 0, api.None)
	puts(t, set, false, api.None, 0)
	if !read.Step(nil) || !set.Step(nil) {
		t.Errorf("no machine is not done")
	}
}

func TestMachinesOfNothingDoNotPanic(t *testing.T) { // R1
	m := ground(t, 1, 1, 0)
	ends(t, m, &link.Read{})
	ends(t, m, &link.Set{})
}

func TestWordsThatThereAreNot(t *testing.T) { // 13.1, 13.2: they tell 0, and nothing is put there
	for _, at := range []int{math.MinInt, -3, 16, 17, 1 << 40, math.MaxInt} {
		for _, old := range []uint64{0, 7} {
			m := ground(t, 2, 1, 2)
			x := link.NewRead(0, at)
			step(t, m, x, api.Access{Kind: api.AcLoad, At: at}, true)
			has(t, x, 0, 1)
			y := link.NewSet(0, at, old, 5)
			step(t, m, y, api.Access{Kind: api.AcSwap, At: at, New: bits.Soil(5)}, true)
			puts(t, y, false, api.None, 0)
		}
	}
}

func TestPassingWords(t *testing.T) { // 13.1, 13.2: their lines are none
	m := ground(t, 1, 1, 2)
	m.Device().Evict(0)
	x := link.NewSet(0, -2, 0, 5)
	step(t, m, x, api.Access{Kind: api.AcSwap, At: -2, New: bits.Soil(5), Done: true}, false)
	puts(t, x, true, 1, 0)
	y := link.NewRead(0, -2)
	step(t, m, y, api.Access{Kind: api.AcLoad, At: -2, Old: bits.Soil(5), Done: true}, false)
	step(t, m, y, api.Access{Kind: api.AcFlush, At: -2}, false)
	step(t, m, y, api.Access{Kind: api.AcFence, Done: true}, false)
	step(t, m, y, api.Access{Kind: api.AcSwap, At: -2, Old: bits.Soil(5), New: 5, Done: true}, false)
	step(t, m, y, api.Access{Kind: api.AcLoad, At: -2, Old: 5, Done: true}, true)
	step(t, m, x, api.Access{Kind: api.AcFlush, At: -2}, false)
	step(t, m, x, api.Access{Kind: api.AcFence, Done: true}, false)
	step(t, m, x, api.Access{Kind: api.AcSwap, At: -2, Old: 5, New: 5}, true)
}

func TestThreadsThatThereAreNot(t *testing.T) { // 13.1, 13.2: what they flush and fence is bad, all else as ever
	for _, thread := range []int{math.MinInt, -1, 2, 64, math.MaxInt} {
		m := ground(t, 1, 2, 0)
		x := link.NewSet(thread, 3, 0, 5)
		step(t, m, x, api.Access{Kind: api.AcSwap, Thread: thread, At: 3, New: bits.Soil(5), Done: true}, false)
		step(t, m, x, api.Access{Kind: api.AcFlush, Thread: thread, At: 3}, false)
		step(t, m, x, api.Access{Kind: api.AcFence, Thread: thread}, false)
		step(t, m, x, api.Access{Kind: api.AcSwap, Thread: thread, At: 3, Old: bits.Soil(5), New: 5, Done: true}, true)
		kept(t, m, 3, 0)
		y := link.NewRead(thread, 3)
		step(t, m, y, api.Access{Kind: api.AcLoad, Thread: thread, At: 3, Old: 5, Done: true}, true)
		has(t, y, 5, 5)
	}
}
