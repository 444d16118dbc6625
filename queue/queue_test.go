package queue_test

import (
	"math"
	"slices"
	"testing"

	"limekiln/api"
	"limekiln/bits"
	"limekiln/free"
	"limekiln/layout"
	"limekiln/pdev"
	"limekiln/pmem"
	"limekiln/queue"
	"limekiln/retire"
)

// node is a slot of the queue: its value, and the thread that its link has, or none.
type node struct {
	slot int
	val  uint64
	by   int
}

// ground is a layout, and a memory of noughts.
func ground(t *testing.T, threads, slots, logs int) (*layout.Layout, *pmem.Mem) {
	t.Helper()
	l, e := layout.Of(api.Config{Threads: threads, Slots: slots, Logs: logs, Buckets: 1})
	if e != api.OK {
		t.Fatalf("layout.Of: %v", e)
	}
	d, e := pdev.New(l.Lines(), threads)
	if e != api.OK {
		t.Fatalf("pdev.New: %v", e)
	}
	m, e := pmem.New(d, l.Passing())
	if e != api.OK {
		t.Fatalf("pmem.New: %v", e)
	}
	return l, m
}

// open lets slots be free, in order.
func open(l *layout.Layout, m *pmem.Mem, slots ...int) {
	first := api.None
	for _, s := range slices.Backward(slots) {
		m.Store(0, l.After(s), uint64(first+1))
		first = s
	}
	top, _ := m.Peek(l.Free())
	m.Store(0, l.Free(), bits.Top(first, bits.Ver(top)+1))
}

// lay lays a queue, clean, so that it lasts, whose tail is a link to the slot of one of its nodes.
func lay(l *layout.Layout, m *pmem.Mem, tail int, nodes ...node) {
	to := api.None
	for _, n := range slices.Backward(nodes) {
		m.Store(0, l.Val(n.slot), n.val)
		m.Store(0, l.Next(n.slot), bits.Link(to, n.by))
		m.Device().Evict(l.Next(n.slot) / api.LineWords)
		to = n.slot
	}
	m.Store(0, l.Head(), bits.Link(to, api.None))
	m.Store(0, l.Tail(), bits.Link(nodes[tail].slot, api.None))
	m.Device().Evict(l.Head() / api.LineWords)
	m.Device().Evict(l.Tail() / api.LineWords)
}

// walk is a Work, with what it works at, by which thread, and what it must hold and tell, behind each step.
type walk struct {
	*testing.T
	l      *layout.Layout
	m      *pmem.Mem
	x      *queue.Work
	thread int
	holds  int
	when   int
	where  int
	writes int
}

// two is a queue of the slot 3, and behind it 0 and 2, of the values 21 and 22; the slots 5 and 1 are free, the log has two entries. A Work of the thread 1 is to do an operation.
func two(t *testing.T, kind int) *walk {
	l, m := ground(t, 3, 6, 2)
	lay(l, m, 2, node{3, 20, -1}, node{0, 21, -1}, node{2, 22, -1})
	open(l, m, 5, 1)
	return begins(t, l, m, 1, api.Op{Kind: kind, Key: 77, Val: 9})
}

// begins is a walk of a Work.
func begins(t *testing.T, l *layout.Layout, m *pmem.Mem, thread int, o api.Op) *walk {
	w := &walk{T: t, l: l, m: m, x: queue.New(l, thread, o), thread: thread, holds: api.None, when: api.None, where: api.None}
	w.tells(api.Result{})
	return w
}

// tells fails if the Work has another result, or holds or tells something else.
func (w *walk) tells(want api.Result) {
	w.Helper()
	x := w.x
	if x.Result() != want || x.Holds() != w.holds || x.When() != w.when || x.Where() != w.where || x.Writes() != w.writes {
		w.Errorf("Result() = %+v, Holds() = %d, When() = %d, Where() = %d, Writes() = %d, want %+v, %d, %d, %d, %d",
			x.Result(), x.Holds(), x.When(), x.Where(), x.Writes(), want, w.holds, w.when, w.where, w.writes)
	}
}

// access does a step that is not the last one, and fails if it does another access than one.
func (w *walk) access(want api.Access) {
	w.Helper()
	clock := w.m.Clock()
	if w.x.Done() || w.x.Step(w.m) || w.x.Done() {
		w.Errorf("%+v: done", want)
	}
	want.Thread = w.thread
	if w.m.Last() != want || w.m.Clock() != clock+1 {
		w.Errorf("%d accesses, the last one %+v, want %+v", w.m.Clock()-clock, w.m.Last(), want)
	}
}

// step is an access that is done, behind which it holds and tells what it did.
func (w *walk) step(want api.Access) {
	w.Helper()
	want.Done = true
	w.access(want)
	w.tells(api.Result{})
}

// loads does steps by which words are loaded.
func (w *walk) loads(at ...int) {
	w.Helper()
	for _, at := range at {
		old, _ := w.m.Peek(at)
		w.step(api.Access{Kind: api.AcLoad, At: at, Old: old})
	}
}

// stores does the step by which a word is stored.
func (w *walk) stores(at int, x uint64) {
	w.Helper()
	old, _ := w.m.Peek(at)
	w.step(api.Access{Kind: api.AcStore, At: at, Old: old, New: x})
}

// swaps does the step by which a word is put in the place of another one.
func (w *walk) swaps(at int, x uint64) {
	w.Helper()
	old, _ := w.m.Peek(at)
	w.step(api.Access{Kind: api.AcSwap, At: at, Old: old, New: x})
}

// misses does the step by which a word is not put, since there is another one than there should be.
func (w *walk) misses(at int, x uint64) {
	w.Helper()
	old, _ := w.m.Peek(at)
	w.access(api.Access{Kind: api.AcSwap, At: at, Old: old, New: x})
	w.tells(api.Result{})
}

// lasts does the steps by which a word's line is flushed, and fenced. It fails if the line is not kept then.
func (w *walk) lasts(at int) {
	w.Helper()
	w.step(api.Access{Kind: api.AcFlush, At: at})
	w.step(api.Access{Kind: api.AcFence})
	line := at / api.LineWords * api.LineWords
	if !slices.Equal(w.m.Device().Kept()[line:line+api.LineWords], w.m.Device().Seen()[line:line+api.LineWords]) {
		w.Errorf("the line of %d is not kept", at)
	}
}

// cleans does the steps of a Read of a dirty link.
func (w *walk) cleans(at int) {
	w.Helper()
	old, _ := w.m.Peek(at)
	w.loads(at)
	w.lasts(at)
	w.swaps(at, bits.Clean(old))
	w.loads(at)
}

// puts does the steps of a Set, behind the first of which the Work tells when and where it was.
func (w *walk) puts(at int, x uint64) {
	w.Helper()
	old, _ := w.m.Peek(at)
	w.holds, w.when, w.where, w.writes = api.None, w.m.Clock()+1, at, w.m.Writes(at)
	w.swaps(at, bits.Soil(x))
	if bits.Dirty(old) {
		w.Errorf("the link %#x is put in the place of a dirty one", x)
	}
	w.lasts(at)
	w.swaps(at, x)
}

// pops does the steps of a Pop that has a slot, which is held from then on.
func (w *walk) pops(slot, behind int) {
	w.Helper()
	top, _ := w.m.Peek(w.l.Free())
	w.loads(w.l.Free(), w.l.After(slot))
	w.holds = slot
	w.swaps(w.l.Free(), bits.Top(behind, bits.Ver(top)+1))
}

// settles does the steps of a Take behind its Pop.
func (w *walk) settles(slot int) {
	w.Helper()
	gen, _ := w.m.Peek(w.l.Gen(slot))
	w.stores(w.l.Intent(w.thread), uint64(slot+1))
	w.lasts(w.l.Intent(w.thread))
	w.loads(w.l.Gen(slot))
	w.stores(w.l.Gen(slot), gen+1)
}

// fills does the steps by which a slot is filled.
func (w *walk) fills(slot int, val uint32) {
	w.Helper()
	w.stores(w.l.Val(slot), uint64(val))
	w.stores(w.l.Next(slot), 0)
	w.stores(w.l.Tag(slot), uint64(w.thread+1))
	w.lasts(w.l.Next(slot))
}

// takes does the steps by which a slot is taken, and filled with 9.
func (w *walk) takes(slot, behind int) {
	w.Helper()
	w.pops(slot, behind)
	w.settles(slot)
	w.fills(slot, 9)
}

// announces does the steps by which an OpDeq begins, and its cell has a number.
func (w *walk) announces(seq int) {
	w.Helper()
	cell := w.l.Cell(w.thread)
	w.loads(cell)
	w.stores(cell, bits.Cell(seq, false, 0))
	w.lasts(cell)
}

// looks does the steps by which an OpDeq looks at a queue whose head's slot is told, and its link, which is clean.
func (w *walk) looks(slot int) {
	w.Helper()
	w.loads(w.l.Head(), w.l.Tail(), w.l.Next(slot))
}

// reserves does the steps of a Reserve, whose place is told.
func (w *walk) reserves(place, slot int) {
	w.Helper()
	for n := range place + 1 {
		w.loads(w.l.Log(w.thread, n))
	}
	w.stores(w.l.Log(w.thread, place), bits.Entry(slot, api.None))
	w.lasts(w.l.Log(w.thread, place))
}

// looksThrough does the steps by which all entries of the log are loaded.
func (w *walk) looksThrough() {
	w.Helper()
	for n := range w.l.Config().Logs {
		w.loads(w.l.Log(w.thread, n))
	}
}

// advances does the steps of an Advance that nobody holds up.
func (w *walk) advances() {
	w.Helper()
	now, _ := w.m.Peek(w.l.Epoch())
	w.loads(w.l.Epoch())
	for i := range w.l.Config().Threads {
		w.loads(w.l.Announce(i))
	}
	w.swaps(w.l.Epoch(), now+1)
}

// tellsCell does the steps by which it is said, and lasts, that the thread has taken a value.
func (w *walk) tellsCell(seq int, slot int, val uint32) {
	w.Helper()
	cell := w.l.Cell(w.thread)
	w.loads(w.l.Val(slot))
	w.swaps(cell, bits.Cell(seq, true, val))
	w.lasts(cell)
}

// moves does the steps by which the head is moved to a slot, and lasts.
func (w *walk) moves(slot int) {
	w.Helper()
	w.swaps(w.l.Head(), bits.Link(slot, -1))
	w.lasts(w.l.Head())
}

// ends does the last step, and fails if it is another access than one, or the Work tells something else then.
func (w *walk) ends(want api.Access, r api.Result) {
	w.Helper()
	clock := w.m.Clock()
	if w.x.Done() || !w.x.Step(w.m) || !w.x.Done() {
		w.Errorf("%+v: not done", want)
	}
	want.Thread = w.thread
	if w.m.Last() != want || w.m.Clock() != clock+1 {
		w.Errorf("%d accesses, the last one %+v, want %+v", w.m.Clock()-clock, w.m.Last(), want)
	}
	w.tells(r)
	w.idle(r)
}

// endsLoading does the last step, which loads a word, by which it is told when it was so.
func (w *walk) endsLoading(at int, r api.Result) {
	w.Helper()
	old, _ := w.m.Peek(at)
	w.when = w.m.Clock() + 1
	w.ends(api.Access{Kind: api.AcLoad, At: at, Old: old, Done: true}, r)
}

// endsDropping does the last step, which drops the intent.
func (w *walk) endsDropping(slot int) {
	w.Helper()
	w.ends(api.Access{Kind: api.AcStore, At: w.l.Intent(w.thread), Old: uint64(slot + 1), Done: true}, ok)
}

// endsStamping does the last steps, those of a Stamp.
func (w *walk) endsStamping(place, slot int, val uint32) {
	w.Helper()
	now, _ := w.m.Peek(w.l.Epoch())
	at := w.l.Log(w.thread, place)
	w.loads(w.l.Epoch())
	w.stores(at, bits.Entry(slot, int(now)))
	w.step(api.Access{Kind: api.AcFlush, At: at})
	w.ends(api.Access{Kind: api.AcFence, Done: true}, took(val))
}

// idle fails if a step of what is done does anything.
func (w *walk) idle(r api.Result) {
	w.Helper()
	clock, last := w.m.Clock(), w.m.Last()
	if !w.x.Step(w.m) || !w.x.Done() || w.m.Clock() != clock || w.m.Last() != last {
		w.Errorf("a step of a Work that is done does something")
	}
	w.tells(r)
}

// goesOn lets a Work go on till it is done.
func goesOn(t *testing.T, m *pmem.Mem, x *queue.Work) api.Result {
	t.Helper()
	for range 1000 {
		if x.Step(m) {
			return x.Result()
		}
	}
	t.Fatalf("not done in 1000 steps")
	return api.Result{}
}

// word fails if there is another word.
func word(t *testing.T, m *pmem.Mem, at int, want uint64) {
	t.Helper()
	if got, _ := m.Peek(at); got != want {
		t.Errorf("the word %d is %#x, want %#x", at, got, want)
	}
}

// queued fails if the slots from the head on are others, or the tail is another one's.
func queued(t *testing.T, l *layout.Layout, m *pmem.Mem, tail int, want ...int) {
	t.Helper()
	if got := way(l, seen(m)); !slices.Equal(got, want) {
		t.Errorf("the queue's slots are %v, want %v", got, want)
	}
	word(t, m, l.Tail(), bits.Link(tail, -1))
}

// opened fails if other slots are free.
func opened(t *testing.T, l *layout.Layout, m *pmem.Mem, want ...int) {
	t.Helper()
	if got, is := free.List(l, m); !is || !slices.Equal(got, want) {
		t.Errorf("free are %v, %v, want %v", got, is, want)
	}
}

// logged fails if other slots stand in a log.
func logged(t *testing.T, l *layout.Layout, m *pmem.Mem, thread int, want ...int) {
	t.Helper()
	if got := retire.Slots(l, m, thread); !slices.Equal(got, want) {
		t.Errorf("the log %d is %v, want %v", thread, got, want)
	}
}

var (
	ok    = api.Result{Kind: api.ResOK}
	empty = api.Result{Kind: api.ResEmpty}
	full  = api.Result{Kind: api.ResFull}
)

// took is the result of a value that was taken.
func took(val uint32) api.Result {
	return api.Result{Kind: api.ResOK, Val: val}
}

func TestExampleOfTheDocument(t *testing.T) { // 17.1
	l, m := ground(t, 1, 3, 3)
	lay(l, m, 0, node{0, 0, -1})
	open(l, m, 1, 2)
	for i, x := range []struct {
		o    api.Op
		want api.Result
	}{
		{api.Op{Kind: api.OpEnq, Val: 5}, ok},
		{api.Op{Kind: api.OpEnq, Val: 6}, ok},
		{api.Op{Kind: api.OpDeq}, took(5)},
		{api.Op{Kind: api.OpDeq}, took(6)},
		{api.Op{Kind: api.OpDeq}, empty},
	} {
		if r := goesOn(t, m, queue.New(l, 0, x.o)); r != x.want {
			t.Errorf("the operation %d: %+v, want %+v", i, r, x.want)
		}
	}
	queued(t, l, m, 2, 2)
	logged(t, l, m, 0, 0, 1)
	word(t, m, l.Cell(0), bits.Cell(3, false, 0))
}

func TestPut(t *testing.T) { // 17.1, 17.2
	for _, val := range []uint32{0, 9, math.MaxUint32} {
		l, m := ground(t, 3, 6, 2)
		lay(l, m, 0, node{3, 20, -1})
		open(l, m, 4, 2)
		m.Store(0, l.Gen(4), 7)
		m.Store(0, l.Key(4), 8)
		m.Store(0, l.Next(4), bits.Link(1, 2))
		w := begins(t, l, m, 2, api.Op{Kind: api.OpEnq, Key: 77, Val: val})
		w.pops(4, 2)
		w.settles(4)
		w.fills(4, val)
		w.loads(l.Tail(), l.Next(3))
		w.puts(l.Next(3), bits.Link(4, -1))
		w.swaps(l.Tail(), bits.Link(4, -1))
		w.endsDropping(4)
		queued(t, l, m, 4, 3, 4)
		opened(t, l, m, 2)
		word(t, m, l.Gen(4), 8)
		word(t, m, l.Key(4), 8) // a value of the queue has no key
		word(t, m, l.Intent(2), 0)
		word(t, m, l.Cell(2), 0)
		m.Crash()
		queued(t, l, m, 3, 3, 4) // that the tail was moved need not last
		word(t, m, l.Val(4), uint64(val))
		word(t, m, l.Tag(4), 3)
		word(t, m, l.Intent(2), 5)
	}
}

func TestPutBehindOthers(t *testing.T) { // 17.1
	w := two(t, api.OpEnq)
	w.takes(5, 1)
	w.loads(w.l.Tail(), w.l.Next(2))
	w.puts(w.l.Next(2), bits.Link(5, -1))
	w.swaps(w.l.Tail(), bits.Link(5, -1))
	w.endsDropping(5)
	queued(t, w.l, w.m, 5, 3, 0, 2, 5)
}

func TestPutBehindADirtyLink(t *testing.T) { // 17.1: a Read, step by step
	w := two(t, api.OpEnq)
	w.m.Store(0, w.l.Next(2), bits.Soil(0))
	w.takes(5, 1)
	w.loads(w.l.Tail())
	w.cleans(w.l.Next(2))
	w.puts(w.l.Next(2), bits.Link(5, -1))
	w.swaps(w.l.Tail(), bits.Link(5, -1))
	w.endsDropping(5)
}

func TestPutBehindALinkOfAThread(t *testing.T) { // 17.1: what was read is what the link takes the place of
	w := two(t, api.OpEnq)
	w.m.Store(0, w.l.Next(2), bits.Link(-1, 0))
	w.takes(5, 1)
	w.loads(w.l.Tail(), w.l.Next(2))
	w.puts(w.l.Next(2), bits.Link(5, -1))
	w.swaps(w.l.Tail(), bits.Link(5, -1))
	w.endsDropping(5)
}

func TestPutWhereTheTailLags(t *testing.T) { // 17.1
	w := two(t, api.OpEnq)
	l, m := w.l, w.m
	m.Store(0, l.Tail(), bits.Link(3, -1))
	m.Store(0, l.Next(3), bits.Soil(bits.Link(0, 2)))
	w.takes(5, 1)
	w.loads(l.Tail())
	w.cleans(l.Next(3))
	w.swaps(l.Tail(), bits.Link(0, -1))
	w.loads(l.Tail(), l.Next(0))
	m.Store(0, l.Tail(), bits.Link(2, -1)) // another thread is quicker
	w.misses(l.Tail(), bits.Link(2, -1))
	w.loads(l.Tail(), l.Next(2))
	w.puts(l.Next(2), bits.Link(5, -1))
	w.swaps(l.Tail(), bits.Link(5, -1))
	w.endsDropping(5)
	queued(t, l, m, 5, 3, 0, 2, 5)
}

func TestPutWhoseLinkIsAnotherOneMeanwhile(t *testing.T) { // 17.1: the end is looked at anew, the slot stays as it is
	for _, now := range []uint64{bits.Link(4, -1), bits.Soil(bits.Link(4, -1)), bits.Soil(0), bits.Link(-1, 0)} {
		w := two(t, api.OpEnq)
		l, m := w.l, w.m
		w.takes(5, 1)
		w.loads(l.Tail(), l.Next(2))
		m.Store(0, l.Next(2), now)
		w.misses(l.Next(2), bits.Soil(bits.Link(5, -1)))
		w.loads(l.Tail())
		if bits.Dirty(now) {
			w.cleans(l.Next(2))
		} else {
			w.loads(l.Next(2))
		}
		last := 2
		if bits.To(now) == 4 {
			last = 4
			w.swaps(l.Tail(), bits.Link(4, -1))
			w.loads(l.Tail(), l.Next(4))
		}
		w.puts(l.Next(last), bits.Link(5, -1))
		w.swaps(l.Tail(), bits.Link(5, -1))
		w.endsDropping(5)
		word(t, m, l.Gen(5), 1)
	}
}

func TestPutWhoseTailIsMovedMeanwhile(t *testing.T) { // 17.1: the tail that was loaded is swapped once
	w := two(t, api.OpEnq)
	l, m := w.l, w.m
	w.takes(5, 1)
	w.loads(l.Tail(), l.Next(2))
	w.puts(l.Next(2), bits.Link(5, -1))
	m.Store(0, l.Tail(), bits.Link(1, -1)) // others have put 1 behind it
	m.Store(0, l.Next(5), bits.Link(1, -1))
	w.misses(l.Tail(), bits.Link(5, -1))
	w.endsDropping(5)
	queued(t, l, m, 1, 3, 0, 2, 5, 1)
}

func TestPutWhereNoneIsFree(t *testing.T) { // 17.1, 17.2: ResFull at the Take's Empty
	w := two(t, api.OpEnq)
	l, m := w.l, w.m
	m.Store(0, l.Free(), 0)
	before := m.Device().Seen()
	w.loads(l.Free())
	w.advances()
	w.loads(l.Epoch())
	w.looksThrough()
	w.endsLoading(l.Free(), full)
	if !slices.Equal(m.Device().Seen(), before) {
		t.Errorf("a lasting word was written")
	}
}

func TestPutIntoWhatItReclaims(t *testing.T) { // 17.1: meanwhile it holds what the Reclaim holds
	w := two(t, api.OpEnq)
	l, m := w.l, w.m
	m.Store(0, l.Free(), bits.Top(-1, 4))
	m.Store(0, l.Epoch(), 1)
	m.Store(0, l.Log(1, 1), bits.Entry(4, 0))
	w.loads(l.Free())
	w.advances()
	w.loads(l.Epoch())
	w.looksThrough()
	w.holds = 4
	w.stores(l.Log(1, 1), 0)
	w.loads(l.Free())
	w.stores(l.After(4), 0)
	w.holds = api.None
	w.swaps(l.Free(), bits.Top(4, 5))
	w.takes(4, -1)
	w.loads(l.Tail(), l.Next(2))
	w.puts(l.Next(2), bits.Link(4, -1))
	w.swaps(l.Tail(), bits.Link(4, -1))
	w.endsDropping(4)
}

func TestTake(t *testing.T) { // 17.1, 17.2
	for _, val := range []uint64{0, 21, math.MaxUint32, 1<<32 | 21} { // a result has 32 bits
		for _, was := range []uint64{0, bits.Cell(4, true, 8), bits.Cell(4, false, 0), bits.Cell(1<<31-1, true, math.MaxUint32)} {
			w := two(t, api.OpDeq)
			l, m := w.l, w.m
			seq := (bits.Seq(was) + 1) % (1 << 31)
			m.Store(0, l.Val(0), val)
			m.Store(0, l.Cell(1), was)
			m.Store(0, l.Intent(1), 6)
			m.Store(0, l.Epoch(), 6)
			w.announces(seq)
			w.looks(3)
			w.reserves(0, 3)
			w.puts(l.Next(3), bits.Link(0, 1))
			w.tellsCell(seq, 0, uint32(val))
			w.moves(0)
			w.endsStamping(0, 3, uint32(val))
			queued(t, l, m, 2, 0, 2)
			opened(t, l, m, 5, 1)
			logged(t, l, m, 1, 3)
			word(t, m, l.Intent(1), 6) // which is OpEnq's
			m.Crash()
			queued(t, l, m, 2, 0, 2)
			word(t, m, l.Cell(1), bits.Cell(seq, true, uint32(val)))
			word(t, m, l.Log(1, 0), bits.Entry(3, 6))
			word(t, m, l.Next(3), bits.Soil(bits.Link(0, 1)))
		}
	}
}

func TestTakeTheLastOne(t *testing.T) { // 17.1: by the next place of the log
	w := two(t, api.OpDeq)
	l, m := w.l, w.m
	lay(l, m, 1, node{3, 20, -1}, node{0, 21, -1})
	m.Store(0, l.Log(1, 0), bits.Entry(4, 0))
	w.announces(1)
	w.looks(3)
	w.reserves(1, 3)
	w.puts(l.Next(3), bits.Link(0, 1))
	w.tellsCell(1, 0, 21)
	w.moves(0)
	w.endsStamping(1, 3, 21)
	queued(t, l, m, 0, 0)
	logged(t, l, m, 1, 4, 3)
}

func TestTakeByADirtyLink(t *testing.T) { // 17.1: what is taken must last first
	w := two(t, api.OpDeq)
	l, m := w.l, w.m
	m.Store(0, l.Next(3), bits.Soil(bits.Link(0, -1)))
	w.announces(1)
	w.loads(l.Head(), l.Tail())
	w.cleans(l.Next(3))
	w.reserves(0, 3)
	w.puts(l.Next(3), bits.Link(0, 1))
	w.tellsCell(1, 0, 21)
	w.moves(0)
	w.endsStamping(0, 3, 21)
}

func TestTakeOfAnEmptyQueue(t *testing.T) { // 17.1, 17.2: the time is the Read's
	for _, link := range []uint64{0, bits.Link(-1, 2)} {
		w := two(t, api.OpDeq)
		l, m := w.l, w.m
		lay(l, m, 0, node{2, 20, -1})
		m.Store(0, l.Next(2), link)
		m.Store(0, l.Cell(1), bits.Cell(4, true, 8))
		w.announces(5)
		w.loads(l.Head(), l.Tail())
		w.endsLoading(l.Next(2), empty)
		queued(t, l, m, 2, 2)
		logged(t, l, m, 1)
		m.Crash()
		word(t, m, l.Cell(1), bits.Cell(5, false, 0))

		w = two(t, api.OpDeq)
		l, m = w.l, w.m
		lay(l, m, 0, node{2, 20, -1})
		m.Store(0, l.Next(2), bits.Soil(link))
		w.announces(1)
		w.loads(l.Head(), l.Tail(), l.Next(2))
		w.lasts(l.Next(2))
		w.swaps(l.Next(2), link)
		w.endsLoading(l.Next(2), empty)
	}
}

func TestTakeWhereTheTailLags(t *testing.T) { // 17.1: also where the first value was taken
	for by, val := range map[int]uint32{-1: 21, 2: 22} {
		w := two(t, api.OpDeq)
		l, m := w.l, w.m
		m.Store(0, l.Tail(), bits.Link(3, -1))
		m.Store(0, l.Next(3), bits.Link(0, by))
		w.announces(1)
		w.looks(3)
		w.swaps(l.Tail(), bits.Link(0, -1))
		w.looks(3) // the cell stays as it is
		if r := goesOn(t, m, w.x); r != took(val) {
			t.Errorf("%+v, want %d", r, val)
		}
		word(t, m, l.Cell(1), bits.Cell(1, true, val))
	}
	w := two(t, api.OpDeq)
	l, m := w.l, w.m
	m.Store(0, l.Tail(), bits.Link(3, -1))
	w.announces(1)
	w.looks(3)
	m.Store(0, l.Tail(), bits.Link(2, -1)) // another thread is quicker
	w.misses(l.Tail(), bits.Link(0, -1))
	w.looks(3)
	w.reserves(0, 3)
	w.puts(l.Next(3), bits.Link(0, 1))
	w.tellsCell(1, 0, 21)
	w.moves(0)
	w.endsStamping(0, 3, 21)
}

func TestTailsAreComparedBySlots(t *testing.T) { // 17.1: whatever else their words say
	w := two(t, api.OpDeq)
	l, m := w.l, w.m
	m.Store(0, l.Tail(), bits.Soil(bits.Link(3, 1)))
	w.announces(1)
	w.looks(3)
	w.swaps(l.Tail(), bits.Link(0, -1))
	w.looks(3)
	w.reserves(0, 3)
}

// helping is a queue whose first value the thread 2 has taken, and stopped, with a cell as told. The Work of another thread is about to help it.
func helping(t *testing.T, cell uint64) *walk {
	w := two(t, api.OpDeq)
	l, m := w.l, w.m
	m.Store(0, l.Next(3), bits.Link(0, 2))
	m.Store(0, l.Cell(2), cell)
	w.announces(1)
	w.looks(3)
	return w
}

// goesPast does the steps behind those by which another thread was helped, whereby the value 22 is taken.
func (w *walk) goesPast() {
	w.Helper()
	l := w.l
	w.looks(0)
	w.reserves(0, 0)
	w.puts(l.Next(0), bits.Link(2, 1))
	w.tellsCell(1, 2, 22)
	w.moves(2)
	w.endsStamping(0, 0, 22)
	queued(w.T, l, w.m, 2, 2)
	logged(w.T, l, w.m, 1, 0)
	logged(w.T, l, w.m, 2)
}

func TestHelp(t *testing.T) { // 17.1
	for _, val := range []uint64{21, 1<<32 | 21} {
		w := helping(t, bits.Cell(7, false, 0))
		l, m := w.l, w.m
		m.Store(0, l.Val(0), val)
		w.loads(l.Cell(2), l.Val(0), l.Head())
		w.swaps(l.Cell(2), bits.Cell(7, true, 21))
		w.lasts(l.Cell(2))
		w.swaps(l.Head(), bits.Link(0, -1))
		w.goesPast()
		word(t, m, l.Cell(2), bits.Cell(7, true, 21))
	}
}

func TestHelpOfWhomOthersHaveHelped(t *testing.T) { // 17.1: that the cell is done may not last yet
	w := helping(t, bits.Cell(7, true, 21))
	w.loads(w.l.Cell(2), w.l.Val(0), w.l.Head())
	w.lasts(w.l.Cell(2))
	w.swaps(w.l.Head(), bits.Link(0, -1))
	w.goesPast()
}

func TestHelpWhereTheHeadIsMovedMeanwhile(t *testing.T) { // 17.1
	for _, cell := range []uint64{bits.Cell(7, false, 0), bits.Cell(7, true, 21)} {
		w := helping(t, cell) // ahead of the cell
		l, m := w.l, w.m
		w.loads(l.Cell(2), l.Val(0))
		m.Store(0, l.Head(), bits.Link(0, -1))
		w.loads(l.Head())
		w.goesPast()
		word(t, m, l.Cell(2), cell)

		w = helping(t, cell) // behind it
		l, m = w.l, w.m
		w.loads(l.Cell(2), l.Val(0), l.Head())
		if !bits.Done(cell) {
			w.swaps(l.Cell(2), bits.Cell(7, true, 21))
		}
		w.lasts(l.Cell(2))
		m.Store(0, l.Head(), bits.Link(0, -1))
		w.misses(l.Head(), bits.Link(0, -1))
		w.goesPast()
	}
}

func TestHelpWhoseCellIsAnotherOneMeanwhile(t *testing.T) { // 17.1: what the thread has begun behind stays as it is
	for _, now := range []uint64{bits.Cell(7, true, 21), bits.Cell(8, false, 0)} {
		w := helping(t, bits.Cell(7, false, 0))
		l, m := w.l, w.m
		w.loads(l.Cell(2), l.Val(0), l.Head())
		m.Store(0, l.Cell(2), now)
		w.misses(l.Cell(2), bits.Cell(7, true, 21))
		w.lasts(l.Cell(2))
		w.swaps(l.Head(), bits.Link(0, -1))
		w.goesPast()
		word(t, m, l.Cell(2), now)
	}
}

func TestHelpTwice(t *testing.T) { // 17.1: each time of what was read last
	w := helping(t, bits.Cell(7, false, 0))
	l, m := w.l, w.m
	m.Store(0, l.Next(0), bits.Link(2, 0))
	m.Store(0, l.Cell(0), bits.Cell(1<<31-1, false, 5))
	w.loads(l.Cell(2), l.Val(0), l.Head())
	w.swaps(l.Cell(2), bits.Cell(7, true, 21))
	w.lasts(l.Cell(2))
	w.swaps(l.Head(), bits.Link(0, -1))
	w.looks(0)
	w.loads(l.Cell(0), l.Val(2), l.Head())
	w.swaps(l.Cell(0), bits.Cell(1<<31-1, true, 22))
	w.lasts(l.Cell(0))
	w.swaps(l.Head(), bits.Link(2, -1))
	w.loads(l.Head(), l.Tail())
	w.endsLoading(l.Next(2), empty)
}

func TestTakeThatIsHelped(t *testing.T) { // 17.1: by one that does it all, at any step behind the link
	for n := range 11 {
		w := two(t, api.OpDeq)
		l, m := w.l, w.m
		w.announces(1)
		w.looks(3)
		w.reserves(0, 3)
		w.puts(l.Next(3), bits.Link(0, 1))
		for range n {
			w.x.Step(m)
		}
		if w.x.Done() {
			t.Fatalf("done in %d steps", n)
		}
		if r := goesOn(t, m, queue.New(l, 0, api.Op{Kind: api.OpDeq})); r != took(22) {
			t.Errorf("behind %d steps, the other one: %+v", n, r)
		}
		word(t, m, l.Cell(1), bits.Cell(1, true, 21))
		if n == 0 {
			w.loads(l.Val(0))
			w.misses(l.Cell(1), bits.Cell(1, true, 21))
			w.lasts(l.Cell(1))
			w.misses(l.Head(), bits.Link(0, -1))
			w.lasts(l.Head())
			w.endsStamping(0, 3, 21)
		}
		if r := goesOn(t, m, w.x); r != took(21) {
			t.Errorf("behind %d steps: %+v", n, r)
		}
		queued(t, l, m, 2, 2)
		logged(t, l, m, 1, 3)
		logged(t, l, m, 0, 0)
	}
}

func TestTakeWhoseLinkIsAnotherOneMeanwhile(t *testing.T) { // 17.1: the place is canceled, the cell stays as it is
	w := two(t, api.OpDeq)
	l, m := w.l, w.m
	m.Store(0, l.Log(1, 0), bits.Entry(4, 0))
	w.announces(1)
	w.looks(3)
	w.reserves(1, 3)
	m.Store(0, l.Next(3), bits.Link(0, 2))
	w.misses(l.Next(3), bits.Soil(bits.Link(0, 1)))
	w.stores(l.Log(1, 1), 0)
	w.looks(3)
	w.loads(l.Cell(2), l.Val(0), l.Head())
	w.swaps(l.Cell(2), bits.Cell(0, true, 21))
	w.lasts(l.Cell(2))
	w.swaps(l.Head(), bits.Link(0, -1))
	w.looks(0)
	m.Store(0, l.Log(1, 0), 0)
	w.reserves(0, 0) // the first place that there is by now
	w.puts(l.Next(0), bits.Link(2, 1))
	w.tellsCell(1, 2, 22)
	w.moves(2)
	w.endsStamping(0, 0, 22)
	logged(t, l, m, 1, 0)
}

func TestTakeWhereTheLogIsFull(t *testing.T) { // 17.1, 17.2: ResFull behind the second Reserve
	for _, again := range []bool{false, true} { // also where there was a place ahead, that was canceled
		w := two(t, api.OpDeq)
		l, m := w.l, w.m
		w.announces(1)
		w.looks(3)
		if again {
			w.reserves(0, 3)
			m.Store(0, l.Next(3), bits.Soil(bits.Link(0, -1)))
			w.misses(l.Next(3), bits.Soil(bits.Link(0, 1)))
			w.stores(l.Log(1, 0), 0)
			w.loads(l.Head(), l.Tail())
			w.cleans(l.Next(3))
		}
		m.Store(0, l.Epoch(), 5)
		m.Store(0, l.Log(1, 0), bits.Entry(4, 5))
		m.Store(0, l.Log(1, 1), bits.Entry(2, api.None))
		before := m.Device().Seen()
		w.looksThrough()
		w.advances()
		w.loads(l.Epoch())
		w.looksThrough()
		w.loads(l.Log(1, 0))
		w.endsLoading(l.Log(1, 1), full)
		word(t, m, l.Epoch(), 6)
		if !slices.Equal(m.Device().Seen(), before) {
			t.Errorf("a lasting word was written")
		}
		queued(t, l, m, 2, 3, 0, 2)
		opened(t, l, m, 5, 1)
	}
}

func TestTakeWhereTheLogWasFull(t *testing.T) { // 17.1: meanwhile it holds what the Reclaim holds
	for _, held := range []bool{false, true} { // also where the Advance is held up
		w := two(t, api.OpDeq)
		l, m := w.l, w.m
		m.Store(0, l.Epoch(), 5)
		m.Store(0, l.Log(1, 0), bits.Entry(4, 5))
		m.Store(0, l.Log(1, 1), bits.Entry(2, 3))
		w.announces(1)
		w.looks(3)
		w.looksThrough()
		if held {
			m.Store(0, l.Announce(0), 5)
			w.loads(l.Epoch(), l.Announce(0))
		} else {
			w.advances()
		}
		w.loads(l.Epoch())
		w.looksThrough()
		w.holds = 2
		w.stores(l.Log(1, 1), 0)
		w.loads(l.Free())
		w.stores(l.After(2), 6)
		top, _ := m.Peek(l.Free())
		w.holds = api.None
		w.swaps(l.Free(), bits.Top(2, bits.Ver(top)+1))
		w.reserves(1, 3)
		w.puts(l.Next(3), bits.Link(0, 1))
		w.tellsCell(1, 0, 21)
		w.moves(0)
		w.endsStamping(1, 3, 21)
		logged(t, l, m, 1, 4, 3)
		opened(t, l, m, 2, 5, 1)
	}
}

func TestWritesAreThoseAheadOfTheSet(t *testing.T) { // 17.2
	for evictions := range 4 {
		for kind, slot := range map[int]int{api.OpEnq: 2, api.OpDeq: 3} {
			w := two(t, kind)
			m, at := w.m, w.l.Next(slot)
			for n := 0; n < 100 && w.x.Where() == api.None; n++ {
				if w.x.Writes() != 0 || w.x.When() != api.None {
					t.Errorf("nothing is put, and Writes() = %d, When() = %d", w.x.Writes(), w.x.When())
				}
				if m.Clock()%2 == 0 {
					for range evictions {
						m.Device().Evict(at / api.LineWords)
					}
				}
				writes := m.Writes(at)
				w.x.Step(m)
				if w.x.Where() != api.None && (w.x.Where() != at || w.x.Writes() != writes || w.x.When() != m.Clock()) {
					t.Errorf("Where() = %d, Writes() = %d, When() = %d, want %d, %d, %d", w.x.Where(), w.x.Writes(), w.x.When(), at, writes, m.Clock())
				}
			}
			writes, when := w.x.Writes(), w.x.When()
			m.Device().Evict(at / api.LineWords)
			if r := goesOn(t, m, w.x); r.Kind != api.ResOK || w.x.Where() != at || w.x.Writes() != writes || w.x.When() != when || writes < evictions {
				t.Errorf("%+v, Where() = %d, Writes() = %d, When() = %d, want %d, %d, %d", r, w.x.Where(), w.x.Writes(), w.x.When(), at, writes, when)
			}
		}
	}
}

func TestKindsThatThereAreNot(t *testing.T) { // 17.1: done at once
	l, m := ground(t, 1, 2, 1)
	for _, kind := range []int{math.MinInt, -1, 0, api.OpAdd, api.OpDel, api.OpHas, api.OpPut, api.OpGet, api.OpCut, 9, math.MaxInt} {
		w := begins(t, l, m, 0, api.Op{Kind: kind, Key: 1, Val: 2})
		if !w.x.Done() {
			t.Errorf("the kind %d is not done", kind)
		}
		w.idle(api.Result{})
	}
}

func TestNoWork(t *testing.T) { // 17.1, 17.2, R1
	l, m := ground(t, 1, 2, 1)
	var none *queue.Work
	for _, x := range []*queue.Work{none, {}} {
		w := &walk{T: t, l: l, m: m, x: x, holds: api.None, when: api.None, where: api.None}
		w.idle(api.Result{})
		if !x.Step(nil) {
			t.Errorf("no Work is not done")
		}
	}
}

func TestWithoutASlotAtItsEnds(t *testing.T) { // 17.1, P4: the word of no slot tells 0, and nothing is put there
	l, m := ground(t, 1, 3, 1)
	open(l, m, 2)
	none := l.Lines() * api.LineWords
	w := begins(t, l, m, 0, api.Op{Kind: api.OpDeq})
	w.announces(1)
	w.loads(l.Head(), l.Tail())
	w.when = m.Clock() + 1
	w.ends(api.Access{Kind: api.AcLoad, At: none}, empty)

	x := queue.New(l, 0, api.Op{Kind: api.OpEnq, Val: 1})
	for range 200 {
		x.Step(m)
	}
	if x.Done() || x.Holds() != 2 || x.Where() != api.None {
		t.Errorf("Done() = %v, Holds() = %d, Where() = %d", x.Done(), x.Holds(), x.Where())
	}
	word(t, m, l.Tail(), 0)
}

func TestThreadsThatThereAreNot(t *testing.T) { // 17.1, R1: their words are none, all else as ever
	for _, thread := range []int{math.MinInt, -1, 3, 64, math.MaxInt} {
		w := two(t, api.OpEnq)
		l, m := w.l, w.m
		if r := goesOn(t, m, queue.New(l, thread, api.Op{Kind: api.OpEnq, Val: 4})); r != ok {
			t.Errorf("the thread %d puts: %+v", thread, r)
		}
		queued(t, l, m, 5, 3, 0, 2, 5)
		word(t, m, l.Tag(5), uint64(thread+1))
		if r := goesOn(t, m, queue.New(l, thread, api.Op{Kind: api.OpDeq})); r != took(21) {
			t.Errorf("the thread %d takes: %+v", thread, r)
		}
		queued(t, l, m, 5, 0, 2, 5)
		for i := range 3 {
			logged(t, l, m, i)
			word(t, m, l.Cell(i), 0)
			word(t, m, l.Intent(i), 0)
		}
	}
}

func TestHelpOfAThreadThatThereIsNot(t *testing.T) { // 17.1, P4
	w := two(t, api.OpDeq)
	l, m := w.l, w.m
	m.Store(0, l.Next(3), bits.Link(0, 60))
	if r := goesOn(t, m, w.x); r != took(22) {
		t.Errorf("%+v", r)
	}
	queued(t, l, m, 2, 2)
}
