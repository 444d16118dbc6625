package seek_test

import (
	"math"
	"slices"
	"testing"

	"limekiln/api"
	"limekiln/bits"
	"limekiln/layout"
	"limekiln/pdev"
	"limekiln/pmem"
	"limekiln/seek"
)

// node is a slot of a list: its key, and the thread that took it away, or none.
type node struct {
	slot int
	key  uint64
	by   int
}

// ground is a layout of so many threads and slots, and a memory of noughts.
func ground(t *testing.T, threads, slots int) (*layout.Layout, *pmem.Mem) {
	t.Helper()
	l, e := layout.Of(api.Config{Threads: threads, Slots: slots, Logs: 1, Buckets: 2})
	if e != api.OK {
		t.Fatalf("layout.Of: %v", e)
	}
	d, e := pdev.New(l.Lines(), threads)
	if e != api.OK {
		t.Fatalf("pdev.New: %v", e)
	}
	m, e := pmem.New(d, l.Passing())
	if e != api.OK {
		t.Fatalf("pmem.New: %v", e)
	}
	return l, m
}

// lay lays a list, clean, so that it lasts.
func lay(l *layout.Layout, m *pmem.Mem, head int, nodes ...node) {
	to := api.None
	for _, n := range slices.Backward(nodes) {
		m.Store(0, l.Key(n.slot), n.key)
		m.Store(0, l.Next(n.slot), bits.Link(to, n.by))
		m.Device().Evict(l.Next(n.slot) / api.LineWords)
		to = n.slot
	}
	m.Store(0, head, bits.Link(to, api.None))
	m.Device().Evict(head / api.LineWords)
}

// soil lets a word be dirty.
func soil(m *pmem.Mem, at int) {
	w, _ := m.Peek(at)
	m.Store(0, at, bits.Soil(w))
}

// walk is a Seek, with what it goes through, and by which thread.
type walk struct {
	*testing.T
	l      *layout.Layout
	m      *pmem.Mem
	x      *seek.Seek
	thread int
}

// step does one step, and fails if it does another access than one, tells another thing than whether the Seek is done, or has something ahead of that.
func (w *walk) step(want api.Access, done bool) {
	w.Helper()
	clock := w.m.Clock()
	if w.x.Done() {
		w.Errorf("done ahead of %+v", want)
	}
	has(w.T, w.x, false, api.None, 0, api.None, 0, api.None)
	if w.x.Step(w.m) != done || w.x.Done() != done {
		w.Errorf("%+v: done %v, want %v", want, w.x.Done(), done)
	}
	want.Thread, want.Done = w.thread, true
	if w.m.Last() != want || w.m.Clock() != clock+1 {
		w.Errorf("%d accesses, the last one %+v, want %+v", w.m.Clock()-clock, w.m.Last(), want)
	}
}

// loads does the step by which a word is loaded.
func (w *walk) loads(at int, done bool) {
	w.Helper()
	old, _ := w.m.Peek(at)
	w.step(api.Access{Kind: api.AcLoad, At: at, Old: old}, done)
}

// cleans does the steps by which a dirty link is read, but for the last one.
func (w *walk) cleans(at int) {
	w.Helper()
	dirty, _ := w.m.Peek(at)
	w.loads(at, false)
	w.lets(at, dirty, false)
}

// passes does the steps by which a link is put in the place of another one.
func (w *walk) passes(at int, to int, done bool) {
	w.Helper()
	old, _ := w.m.Peek(at)
	dirty := bits.Soil(bits.Link(to, api.None))
	w.step(api.Access{Kind: api.AcSwap, At: at, Old: old, New: dirty}, false)
	w.lets(at, dirty, done)
}

// lets does the steps by which a dirty link is let last.
func (w *walk) lets(at int, dirty uint64, done bool) {
	w.Helper()
	w.step(api.Access{Kind: api.AcFlush, At: at}, false)
	w.step(api.Access{Kind: api.AcFence}, false)
	if got := w.m.Device().Kept()[at]; got != dirty {
		w.Errorf("the link at %d is kept as %#x, want %#x", at, got, dirty)
	}
	w.step(api.Access{Kind: api.AcSwap, At: at, Old: dirty, New: bits.Clean(dirty)}, done)
}

// has fails if a Seek has something else.
func has(t *testing.T, x *seek.Seek, found bool, prev int, word uint64, curr int, link uint64, when int) {
	t.Helper()
	if x.Found() != found || x.Prev() != prev || x.Word() != word || x.Curr() != curr || x.Link() != link || x.When() != when {
		t.Errorf("Found() = %v, Prev() = %d, Word() = %#x, Curr() = %d, Link() = %#x, When() = %d, want %v, %d, %#x, %d, %#x, %d",
			x.Found(), x.Prev(), x.Word(), x.Curr(), x.Link(), x.When(), found, prev, word, curr, link, when)
	}
}

// ends lets a Seek go on till it is done, and tells by how many steps.
func ends(t *testing.T, m *pmem.Mem, x *seek.Seek) int {
	t.Helper()
	for n := 1; n < 1000; n++ {
		if x.Step(m) {
			return n
		}
	}
	t.Fatalf("not done in 1000 steps")
	return 0
}

// idle fails if a step of what is done does anything.
func idle(t *testing.T, m *pmem.Mem, x *seek.Seek) {
	t.Helper()
	clock, last := m.Clock(), m.Last()
	if !x.Step(m) || !x.Done() || m.Clock() != clock || m.Last() != last {
		t.Errorf("a step of a Seek that is done does something")
	}
}

// listed fails if a list, or whether it is one, is another.
func listed(t *testing.T, l *layout.Layout, m *pmem.Mem, head int, whole bool, want ...int) {
	t.Helper()
	clock := m.Clock()
	if got, is := seek.Slots(l, m, head); is != whole || !slices.Equal(got, want) {
		t.Errorf("Slots(%d) = %v, %v, want %v, %v", head, got, is, want, whole)
	}
	if m.Clock() != clock {
		t.Errorf("Slots did %d accesses", m.Clock()-clock)
	}
}

// three is a list of the slots 3, 0, and 2, with the keys 10, 20, 30, and a Seek by the thread 1.
func three(t *testing.T, key uint32, by ...int) *walk {
	l, m := ground(t, 2, 5)
	lay(l, m, l.Set(), node{3, 10, by[0]}, node{0, 20, by[1]}, node{2, 30, by[2]})
	return &walk{t, l, m, seek.New(l, 1, l.Set(), key), 1}
}

func TestSeekOfAKeyThatIsThere(t *testing.T) { // 14.1
	w := three(t, 20, -1, -1, -1)
	l, m := w.l, w.m
	w.loads(l.Set(), false)
	w.loads(l.Next(3), false)
	w.loads(l.Key(3), false)
	w.loads(l.Next(0), false)
	when := m.Clock()
	w.loads(l.Key(0), true)
	has(t, w.x, true, l.Next(3), bits.Link(0, -1), 0, bits.Link(2, -1), when)
	m.Store(0, l.Next(0), 0)
	idle(t, m, w.x)
	has(t, w.x, true, l.Next(3), bits.Link(0, -1), 0, bits.Link(2, -1), when)
	listed(t, l, m, l.Set(), true, 3, 0)
}

func TestSeekOfTheFirstAndTheLastKey(t *testing.T) { // 14.1
	w := three(t, 10, -1, -1, -1)
	w.loads(w.l.Set(), false)
	w.loads(w.l.Next(3), false)
	w.loads(w.l.Key(3), true)
	has(t, w.x, true, w.l.Set(), bits.Link(3, -1), 3, bits.Link(0, -1), w.m.Clock()-1)

	w = three(t, 30, -1, -1, -1)
	for _, at := range []int{w.l.Set(), w.l.Next(3), w.l.Key(3), w.l.Next(0), w.l.Key(0), w.l.Next(2)} {
		w.loads(at, false)
	}
	w.loads(w.l.Key(2), true)
	has(t, w.x, true, w.l.Next(0), bits.Link(2, -1), 2, 0, w.m.Clock()-1)
}

func TestSeekOfAKeyThatIsBelow(t *testing.T) { // 14.1: the time is that of Word
	for _, key := range []uint32{0, 5, 9} {
		w := three(t, key, -1, -1, -1)
		w.loads(w.l.Set(), false)
		when := w.m.Clock()
		w.loads(w.l.Next(3), false)
		w.loads(w.l.Key(3), true)
		has(t, w.x, false, w.l.Set(), bits.Link(3, -1), 3, bits.Link(0, -1), when)
	}
	for _, key := range []uint32{11, 19} {
		w := three(t, key, -1, -1, -1)
		w.loads(w.l.Set(), false)
		w.loads(w.l.Next(3), false)
		when := w.m.Clock()
		w.loads(w.l.Key(3), false)
		w.loads(w.l.Next(0), false)
		w.loads(w.l.Key(0), true)
		has(t, w.x, false, w.l.Next(3), bits.Link(0, -1), 0, bits.Link(2, -1), when)
		idle(t, w.m, w.x)
	}
}

func TestSeekOfAKeyThatIsAboveAll(t *testing.T) { // 14.1
	for _, key := range []uint32{31, 1 << 31, math.MaxUint32} {
		w := three(t, key, -1, -1, -1)
		for _, at := range []int{w.l.Set(), w.l.Next(3), w.l.Key(3), w.l.Next(0), w.l.Key(0), w.l.Next(2)} {
			w.loads(at, false)
		}
		when := w.m.Clock()
		w.loads(w.l.Key(2), true)
		has(t, w.x, false, w.l.Next(2), 0, api.None, 0, when)
		idle(t, w.m, w.x)
	}
}

func TestSeekInAnEmptyList(t *testing.T) { // 14.1
	l, m := ground(t, 2, 1)
	for _, head := range []int{l.Set(), l.Bucket(0), l.Bucket(1)} {
		for _, key := range []uint32{0, 7, math.MaxUint32} {
			w := &walk{t, l, m, seek.New(l, 0, head, key), 0}
			w.loads(head, true)
			has(t, w.x, false, head, 0, api.None, 0, m.Clock())
		}
	}
}

func TestExampleOfTheDocument(t *testing.T) { // 14.1
	l, m := ground(t, 1, 2)
	lay(l, m, l.Set(), node{0, 4, -1}, node{1, 7, -1})
	x := seek.New(l, 0, l.Set(), 5)
	ends(t, m, x)
	if x.Found() || x.Curr() != 1 || x.Prev() != l.Next(0) {
		t.Errorf("Found() = %v, Curr() = %d, Prev() = %d", x.Found(), x.Curr(), x.Prev())
	}
}

func TestSeekByDirtyLinks(t *testing.T) { // 14.1: a link is read as layer 13 says
	w := three(t, 20, -1, -1, -1)
	l, m := w.l, w.m
	soil(m, l.Set())
	soil(m, l.Next(0))
	w.cleans(l.Set())
	w.loads(l.Set(), false)
	w.loads(l.Next(3), false)
	w.loads(l.Key(3), false)
	w.cleans(l.Next(0))
	w.loads(l.Next(0), false)
	when := m.Clock()
	w.loads(l.Key(0), true)
	has(t, w.x, true, l.Next(3), bits.Link(0, -1), 0, bits.Link(2, -1), when)

	w = three(t, 3, -1, -1, -1)
	soil(w.m, w.l.Set())
	w.cleans(w.l.Set())
	w.loads(w.l.Set(), false)
	when = w.m.Clock()
	w.loads(w.l.Next(3), false)
	w.loads(w.l.Key(3), true)
	has(t, w.x, false, w.l.Set(), bits.Link(3, -1), 3, bits.Link(0, -1), when)
}

func TestSeekPastOneThatWasTakenAway(t *testing.T) { // 14.1
	for _, by := range []int{0, 1, 63} {
		w := three(t, 20, by, -1, -1)
		l, m := w.l, w.m
		w.loads(l.Set(), false)
		w.loads(l.Next(3), false)
		w.passes(l.Set(), 0, false)
		w.loads(l.Next(0), false)
		w.loads(l.Key(0), true)
		has(t, w.x, true, l.Set(), bits.Link(0, -1), 0, bits.Link(2, -1), m.Clock()-1)
		listed(t, l, m, l.Set(), true, 0, 2)
	}
}

func TestSeekTellsTheTimeOfItsSet(t *testing.T) { // 14.1: not found, behind a slot that was taken away
	w := three(t, 15, -1, 0, -1)
	l, m := w.l, w.m
	w.loads(l.Set(), false)
	w.loads(l.Next(3), false)
	w.loads(l.Key(3), false)
	w.loads(l.Next(0), false)
	when := m.Clock() + 1
	w.passes(l.Next(3), 2, false)
	w.loads(l.Next(2), false)
	w.loads(l.Key(2), true)
	has(t, w.x, false, l.Next(3), bits.Link(2, -1), 2, 0, when)
	listed(t, l, m, l.Set(), true, 3, 2)
}

func TestSeekPastTheLastSlot(t *testing.T) { // 14.1: it is done with the Set
	w := three(t, 99, -1, -1, 0)
	l, m := w.l, w.m
	for _, at := range []int{l.Set(), l.Next(3), l.Key(3), l.Next(0), l.Key(0), l.Next(2)} {
		w.loads(at, false)
	}
	when := m.Clock() + 1
	w.passes(l.Next(0), api.None, true)
	has(t, w.x, false, l.Next(0), 0, api.None, 0, when)
	idle(t, m, w.x)
	listed(t, l, m, l.Set(), true, 3, 0)
}

func TestSeekPastAllSlots(t *testing.T) { // 14.1: one behind the other
	w := three(t, 0, 0, 1, 0)
	l, m := w.l, w.m
	w.loads(l.Set(), false)
	w.loads(l.Next(3), false)
	w.passes(l.Set(), 0, false)
	w.loads(l.Next(0), false)
	w.passes(l.Set(), 2, false)
	w.loads(l.Next(2), false)
	when := m.Clock() + 1
	w.passes(l.Set(), api.None, true)
	has(t, w.x, false, l.Set(), 0, api.None, 0, when)
	listed(t, l, m, l.Set(), true)
}

func TestSeekPastADirtyLink(t *testing.T) { // 14.1: that a slot was taken away lasts ahead of the Set
	w := three(t, 30, -1, 1, -1)
	l, m := w.l, w.m
	soil(m, l.Next(0))
	w.loads(l.Set(), false)
	w.loads(l.Next(3), false)
	w.loads(l.Key(3), false)
	w.cleans(l.Next(0))
	w.loads(l.Next(0), false)
	w.passes(l.Next(3), 2, false)
	w.loads(l.Next(2), false)
	w.loads(l.Key(2), true)
	has(t, w.x, true, l.Next(3), bits.Link(2, -1), 2, 0, m.Clock()-1)
}

func TestSeekWhoseSetPutsNothing(t *testing.T) { // 14.1: it begins at the head
	for _, now := range []uint64{bits.Link(2, -1), bits.Soil(bits.Link(0, -1)), bits.Link(0, 0)} {
		w := three(t, 30, -1, 1, -1)
		l, m := w.l, w.m
		for _, at := range []int{l.Set(), l.Next(3), l.Key(3), l.Next(0)} {
			w.loads(at, false)
		}
		m.Store(0, l.Next(3), now)
		clock := m.Clock()
		if w.x.Step(m) || m.Clock() != clock+1 {
			t.Errorf("done behind a Set that puts nothing")
		}
		want := api.Access{Kind: api.AcSwap, Thread: 1, At: l.Next(3), Old: now, New: bits.Soil(bits.Link(2, -1))}
		if m.Last() != want {
			t.Errorf("the last access is %+v, want %+v", m.Last(), want)
		}
		w.loads(l.Set(), false)
		ends(t, m, w.x)
		if !w.x.Found() || w.x.Curr() != 2 {
			t.Errorf("Found() = %v, Curr() = %d", w.x.Found(), w.x.Curr())
		}
		got, is := seek.Slots(l, m, l.Set())
		if !is || slices.Contains(got, 0) {
			t.Errorf("the list is %v, %v", got, is)
		}
	}
}

func TestSeekWhosePlaceIsTakenAwayMeanwhile(t *testing.T) { // 14.1: it goes past that, too, from the head on
	w := three(t, 30, -1, 1, -1)
	l, m := w.l, w.m
	for _, at := range []int{l.Set(), l.Next(3), l.Key(3), l.Next(0)} {
		w.loads(at, false)
	}
	m.Store(0, l.Next(3), bits.Link(0, 0))
	w.x.Step(m)
	w.loads(l.Set(), false)
	w.loads(l.Next(3), false)
	w.passes(l.Set(), 0, false)
	w.loads(l.Next(0), false)
	w.passes(l.Set(), 2, false)
	w.loads(l.Next(2), false)
	w.loads(l.Key(2), true)
	has(t, w.x, true, l.Set(), bits.Link(2, -1), 2, 0, m.Clock()-1)
}

func TestSeekWhoseSetIsHelped(t *testing.T) { // 14.1: what it has put may be another link by the time that it is clean
	w := three(t, 15, 0, -1, -1)
	l, m := w.l, w.m
	w.loads(l.Set(), false)
	w.loads(l.Next(3), false)
	when := m.Clock() + 1
	for range 3 {
		w.x.Step(m)
	}
	m.Store(0, l.Set(), bits.Link(2, -1))
	if w.x.Step(m) || m.Last().Done {
		t.Errorf("the swap by the clean link: %+v", m.Last())
	}
	w.loads(l.Next(0), false)
	w.loads(l.Key(0), true)
	has(t, w.x, false, l.Set(), bits.Link(0, -1), 0, bits.Link(2, -1), when)
}

func TestSeekAtAHeadThatHasAThread(t *testing.T) { // 14.1: it is read again, till it has none
	for _, to := range []int{api.None, 3} {
		for _, by := range []int{0, 1, 63} {
			w := three(t, 10, -1, -1, -1)
			l, m := w.l, w.m
			m.Store(0, l.Set(), bits.Link(to, by))
			for range 20 {
				w.loads(l.Set(), false)
			}
			soil(m, l.Set())
			w.cleans(l.Set())
			w.loads(l.Set(), false)
			m.Store(0, l.Set(), bits.Link(3, -1))
			w.loads(l.Set(), false)
			w.loads(l.Next(3), false)
			w.loads(l.Key(3), true)
			has(t, w.x, true, l.Set(), bits.Link(3, -1), 3, bits.Link(0, -1), m.Clock()-1)
		}
	}
}

func TestSeekLooksAtTheLowestBitsOfKeys(t *testing.T) { // 14.1
	for _, x := range []struct {
		word  uint64
		key   uint32
		found bool
		curr  int
	}{
		{1<<32 | 5, 5, true, 0},
		{1<<32 | 5, 4, false, 0},
		{1<<32 | 5, 6, false, -1},
		{1 << 63, 0, true, 0},
		{1 << 63, 1, false, -1},
		{math.MaxUint64, math.MaxUint32, true, 0},
		{math.MaxUint32, math.MaxUint32, true, 0},
		{math.MaxUint32, math.MaxUint32 - 1, false, 0},
		{1 << 31, 1 << 31, true, 0},
		{1 << 31, 1<<31 - 1, false, 0},
		{1<<31 - 1, 1 << 31, false, -1},
		{0, 0, true, 0},
		{0, math.MaxUint32, false, -1},
	} {
		l, m := ground(t, 1, 1)
		lay(l, m, l.Set(), node{0, x.word, -1})
		s := seek.New(l, 0, l.Set(), x.key)
		ends(t, m, s)
		if s.Found() != x.found || s.Curr() != x.curr {
			t.Errorf("the key %#x by %#x: %v, %d", x.key, x.word, s.Found(), s.Curr())
		}
	}
}

func TestSeekGoesByTheLinkThatItRead(t *testing.T) { // 14.1: what stands there behind that is passed over
	w := three(t, 20, -1, -1, -1)
	l, m := w.l, w.m
	w.loads(l.Set(), false)
	w.loads(l.Next(3), false)
	m.Store(0, l.Next(3), bits.Link(2, 0))
	w.loads(l.Key(3), false)
	w.loads(l.Next(0), false)
	m.Store(0, l.Next(0), bits.Link(1, 1))
	when := m.Clock() - 1
	w.loads(l.Key(0), true)
	has(t, w.x, true, l.Next(3), bits.Link(0, -1), 0, bits.Link(2, -1), when)
}

func TestSeekFromWithinAList(t *testing.T) { // 14.1: any word can be the head
	w := three(t, 30, -1, -1, -1)
	w.x = seek.New(w.l, 1, w.l.Next(3), 30)
	w.loads(w.l.Next(3), false)
	w.loads(w.l.Next(0), false)
	w.loads(w.l.Key(0), false)
	w.loads(w.l.Next(2), false)
	w.loads(w.l.Key(2), true)
	has(t, w.x, true, w.l.Next(0), bits.Link(2, -1), 2, 0, w.m.Clock()-1)
}

func TestNoSeek(t *testing.T) { // 14.1, R1
	_, m := ground(t, 1, 1)
	var none *seek.Seek
	idle(t, m, none)
	has(t, none, false, api.None, 0, api.None, 0, api.None)
	if !none.Step(nil) {
		t.Errorf("no Seek is not done")
	}
	nothing := &seek.Seek{}
	for range 9 {
		nothing.Step(m)
	}
	if nothing.Found() {
		t.Errorf("a Seek of nothing has found something")
	}
}

func TestHeadsThatThereAreNot(t *testing.T) { // 14.1: they tell 0
	l, m := ground(t, 1, 1)
	for _, head := range []int{math.MinInt, -1 - l.Passing(), l.Lines() * api.LineWords, math.MaxInt} {
		x := seek.New(l, 0, head, 0)
		clock := m.Clock()
		if !x.Step(m) || m.Last() != (api.Access{Kind: api.AcLoad, At: head}) {
			t.Errorf("the head %d: %+v", head, m.Last())
		}
		has(t, x, false, head, 0, api.None, 0, clock+1)
		listed(t, l, m, head, true)
	}
}

func TestSlotsThatThereAreNot(t *testing.T) { // 14.1: their words are none, and tell 0
	for _, slot := range []int{1, 2, 1 << 16, 1<<32 - 2} {
		l, m := ground(t, 1, 1)
		m.Store(0, l.Set(), bits.Link(slot, -1))
		none := l.Lines() * api.LineWords
		x := seek.New(l, 0, l.Set(), 0)
		x.Step(m)
		x.Step(m)
		if !x.Step(m) || m.Last() != (api.Access{Kind: api.AcLoad, At: none}) || m.Bad() != 2 {
			t.Errorf("the slot %d: %+v, %d bad", slot, m.Last(), m.Bad())
		}
		has(t, x, true, l.Set(), bits.Link(slot, -1), slot, 0, m.Clock()-1)
		y := seek.New(l, 0, l.Set(), 1)
		ends(t, m, y)
		has(t, y, false, none, 0, api.None, 0, m.Clock()-1)
	}
}

func TestThreadsThatThereAreNot(t *testing.T) { // 14.1: what they flush and fence is bad, all else as ever
	for _, thread := range []int{math.MinInt, -1, 2, 64, math.MaxInt} {
		w := three(t, 30, -1, 0, -1)
		x := seek.New(w.l, thread, w.l.Set(), 30)
		soil(w.m, w.l.Set())
		if n := ends(t, w.m, x); n != 14 || w.m.Bad() != 4 || w.m.Last().Thread != thread {
			t.Errorf("the thread %d: %d steps, %d bad", thread, n, w.m.Bad())
		}
		has(t, x, true, w.l.Next(3), bits.Link(2, -1), 2, 0, w.m.Clock()-1)
		listed(t, w.l, w.m, w.l.Set(), true, 3, 2)
	}
}

func TestSlotsOfEachLength(t *testing.T) { // 14.2: those that were taken away, too
	nodes := []node{{2, 1, -1}, {0, 2, 1}, {3, 3, -1}, {1, 4, 0}}
	for n := range 5 {
		for _, dirty := range []bool{false, true} {
			l, m := ground(t, 2, 4)
			lay(l, m, l.Bucket(1), nodes[:n]...)
			if dirty {
				soil(m, l.Bucket(1))
				for _, x := range nodes[:n] {
					soil(m, l.Next(x.slot))
				}
			}
			listed(t, l, m, l.Bucket(1), true, []int{2, 0, 3, 1}[:n]...)
			listed(t, l, m, l.Bucket(0), true)
			listed(t, l, m, l.Set(), true)
			if n > 1 {
				listed(t, l, m, l.Next(2), true, []int{0, 3, 1}[:n-1]...)
			}
		}
	}
}

func TestSlotsOfWordsThatHaveMore(t *testing.T) { // 14.2
	l, m := ground(t, 1, 3)
	m.Store(0, l.Set(), 1<<63|5<<32|2)
	m.Store(0, l.Next(1), 1<<62|1<<39|3)
	m.Store(0, l.Next(2), 1<<63|127<<32)
	listed(t, l, m, l.Set(), true, 1, 2)
	m.Store(0, l.Free(), 3)
	listed(t, l, m, l.Free(), true, 2)
}

func TestSlotsOfWhatGoesRound(t *testing.T) { // 14.2
	slots := []int{3, 1, 0, 2}
	for n := 1; n <= 4; n++ {
		for back := range n {
			l, m := ground(t, 1, 4)
			var nodes []node
			for _, s := range slots[:n] {
				nodes = append(nodes, node{s, 0, -1})
			}
			lay(l, m, l.Set(), nodes...)
			m.Store(0, l.Next(slots[n-1]), bits.Link(slots[back], 2))
			listed(t, l, m, l.Set(), false, slots[:n]...)
		}
	}
}

func TestSlotsOfWhatIsNoSlot(t *testing.T) { // 14.2
	for _, slot := range []int{3, 4, 1 << 16, 1 << 31, 1<<32 - 2} {
		l, m := ground(t, 1, 3)
		m.Store(0, l.Set(), bits.Link(slot, -1))
		listed(t, l, m, l.Set(), false)
		lay(l, m, l.Set(), node{2, 0, -1}, node{1, 0, 0})
		m.Store(0, l.Next(1), bits.Link(slot, 0))
		listed(t, l, m, l.Set(), false, 2, 1)
	}
}

func TestSlotsAreOfTheLayoutAlone(t *testing.T) { // 14.2: the memory may be greater
	l, _ := ground(t, 1, 2)
	_, m := ground(t, 2, 9)
	m.Store(0, l.Set(), bits.Link(1, -1))
	m.Store(0, l.Next(1), bits.Link(2, -1))
	listed(t, l, m, l.Set(), false, 1)
}

func TestSlotsWithoutWords(t *testing.T) { // 14.2, R1
	l, _ := ground(t, 1, 2)
	listed(t, l, nil, l.Set(), true)
	d, _ := pdev.New(l.Set()/api.LineWords+1, 1)
	m, _ := pmem.New(d, 0)
	listed(t, l, m, l.Set(), true)
	m.Store(0, l.Set(), bits.Link(1, -1))
	listed(t, l, m, l.Set(), true, 1)
}

func TestSlotsAreOwnMemory(t *testing.T) { // R3
	w := three(t, 99, -1, 0, -1)
	a, _ := seek.Slots(w.l, w.m, w.l.Set())
	clear(a[:2])
	b, _ := seek.Slots(w.l, w.m, w.l.Set())
	ends(t, w.m, w.x)
	if !slices.Equal(b, []int{3, 0, 2}) {
		t.Errorf("what was answered was changed: %v", b)
	}
	listed(t, w.l, w.m, w.l.Set(), true, 3, 2)
}

func TestGreatestList(t *testing.T) { // 14.1, 14.2
	l, m := ground(t, 64, api.MaxSlots)
	var want []int
	m.Store(0, l.Set(), bits.Link(0, -1))
	for s := range api.MaxSlots {
		m.Store(0, l.Key(s), uint64(s))
		m.Store(0, l.Next(s), bits.Link(s+1, -1))
		want = append(want, s)
	}
	m.Store(0, l.Next(api.MaxSlots-1), 0)
	listed(t, l, m, l.Set(), true, want...)
	x := seek.New(l, 63, l.Set(), api.MaxSlots-1)
	n := 1
	for !x.Step(m) {
		n++
	}
	if !x.Found() || x.Curr() != api.MaxSlots-1 || n != 2*api.MaxSlots+1 {
		t.Errorf("Found() = %v, Curr() = %d, %d steps", x.Found(), x.Curr(), n)
	}
}
