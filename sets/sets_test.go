package sets_test

import (
	"math"
	"slices"
	"testing"

	"limekiln/api"
	"limekiln/bits"
	"limekiln/free"
	"limekiln/layout"
	"limekiln/pdev"
	"limekiln/pmem"
	"limekiln/retire"
	"limekiln/seek"
	"limekiln/sets"
)

// node is a slot of a list: its key, its value, and the thread that took it away, or none.
type node struct {
	slot int
	key  uint64
	val  uint64
	by   int
}

// ground is a layout, and a memory of noughts.
func ground(t *testing.T, threads, slots, logs int) (*layout.Layout, *pmem.Mem) {
	t.Helper()
	l, e := layout.Of(api.Config{Threads: threads, Slots: slots, Logs: logs, Buckets: 2})
	if e != api.OK {
		t.Fatalf("layout.Of: %v", e)
	}
	d, e := pdev.New(l.Lines(), threads)
	if e != api.OK {
		t.Fatalf("pdev.New: %v", e)
	}
	m, e := pmem.New(d, l.Passing())
	if e != api.OK {
		t.Fatalf("pmem.New: %v", e)
	}
	return l, m
}

// open lets slots be free, in order.
func open(l *layout.Layout, m *pmem.Mem, slots ...int) {
	first := api.None
	for _, s := range slices.Backward(slots) {
		m.Store(0, l.After(s), uint64(first+1))
		first = s
	}
	top, _ := m.Peek(l.Free())
	m.Store(0, l.Free(), bits.Top(first, bits.Ver(top)+1))
}

// lay lays a list, clean, so that it lasts.
func lay(l *layout.Layout, m *pmem.Mem, head int, nodes ...node) {
	to := api.None
	for _, n := range slices.Backward(nodes) {
		m.Store(0, l.Key(n.slot), n.key)
		m.Store(0, l.Val(n.slot), n.val)
		m.Store(0, l.Next(n.slot), bits.Link(to, n.by))
		m.Device().Evict(l.Next(n.slot) / api.LineWords)
		to = n.slot
	}
	m.Store(0, head, bits.Link(to, api.None))
	m.Device().Evict(head / api.LineWords)
}

// walk is a Work, with what it works at, by which thread, and what it must hold and tell, behind each step.
type walk struct {
	*testing.T
	l      *layout.Layout
	m      *pmem.Mem
	x      *sets.Work
	thread int
	holds  int
	when   int
	where  int
	writes int
}

// two is a list, at the head of the bucket 1, of the slots 3 and 0, with the keys 10 and 20, and the values 11 and 21; the slots 5 and 1 are free, the log has two entries. A Work of the thread 1 is to do an operation.
func two(t *testing.T, kind int, key, val uint32) *walk {
	l, m := ground(t, 2, 6, 2)
	lay(l, m, l.Bucket(1), node{3, 10, 11, -1}, node{0, 20, 21, -1})
	open(l, m, 5, 1)
	return begins(t, l, m, 1, l.Bucket(1), api.Op{Kind: kind, Key: key, Val: val})
}

// begins is a walk of a Work.
func begins(t *testing.T, l *layout.Layout, m *pmem.Mem, thread, head int, o api.Op) *walk {
	w := &walk{T: t, l: l, m: m, x: sets.New(l, thread, head, o), thread: thread, holds: api.None, when: api.None, where: api.None}
	w.tells(api.Result{})
	return w
}

// tells fails if the Work has another result, or holds or tells something else.
func (w *walk) tells(want api.Result) {
	w.Helper()
	x := w.x
	if x.Result() != want || x.Holds() != w.holds || x.When() != w.when || x.Where() != w.where || x.Writes() != w.writes {
		w.Errorf("Result() = %+v, Holds() = %d, When() = %d, Where() = %d, Writes() = %d, want %+v, %d, %d, %d, %d",
			x.Result(), x.Holds(), x.When(), x.Where(), x.Writes(), want, w.holds, w.when, w.where, w.writes)
	}
}

// access does a step that is not the last one, and fails if it does another access than one.
func (w *walk) access(want api.Access) {
	w.Helper()
	clock := w.m.Clock()
	if w.x.Done() || w.x.Step(w.m) || w.x.Done() {
		w.Errorf("%+v: done", want)
	}
	want.Thread = w.thread
	if w.m.Last() != want || w.m.Clock() != clock+1 {
		w.Errorf("%d accesses, the last one %+v, want %+v", w.m.Clock()-clock, w.m.Last(), want)
	}
}

// step is an access that is done, behind which it holds and tells what it did.
func (w *walk) step(want api.Access) {
	w.Helper()
	want.Done = true
	w.access(want)
	w.tells(api.Result{})
}

// loads does steps by which words are loaded.
func (w *walk) loads(at ...int) {
	w.Helper()
	for _, at := range at {
		old, _ := w.m.Peek(at)
		w.step(api.Access{Kind: api.AcLoad, At: at, Old: old})
	}
}

// stores does the step by which a word is stored.
func (w *walk) stores(at int, x uint64) {
	w.Helper()
	old, _ := w.m.Peek(at)
	w.step(api.Access{Kind: api.AcStore, At: at, Old: old, New: x})
}

// swaps does the step by which a word is put in the place of another one.
func (w *walk) swaps(at int, x uint64) {
	w.Helper()
	old, _ := w.m.Peek(at)
	w.step(api.Access{Kind: api.AcSwap, At: at, Old: old, New: x})
}

// misses does the step by which a word is not put, since there is another one than there should be.
func (w *walk) misses(at int, x uint64) {
	w.Helper()
	old, _ := w.m.Peek(at)
	w.access(api.Access{Kind: api.AcSwap, At: at, Old: old, New: x})
	w.tells(api.Result{})
}

// lasts does the steps by which a word's line is flushed, and fenced. It fails if the line is not kept then.
func (w *walk) lasts(at int) {
	w.Helper()
	w.step(api.Access{Kind: api.AcFlush, At: at})
	w.step(api.Access{Kind: api.AcFence})
	line := at / api.LineWords * api.LineWords
	if !slices.Equal(w.m.Device().Kept()[line:line+api.LineWords], w.m.Device().Seen()[line:line+api.LineWords]) {
		w.Errorf("the line of %d is not kept", at)
	}
}

// puts does the steps of a Set, behind the first of which the Work tells when and where it was.
func (w *walk) puts(at int, x uint64) {
	w.Helper()
	old, _ := w.m.Peek(at)
	writes := w.m.Writes(at)
	w.holds, w.when, w.where, w.writes = api.None, w.m.Clock()+1, at, writes
	w.swaps(at, bits.Soil(x))
	if bits.Dirty(old) {
		w.Errorf("the link %#x is put in the place of a dirty one", x)
	}
	w.lasts(at)
	w.swaps(at, x)
}

// pops does the steps of a Pop that has a slot, which is held from then on.
func (w *walk) pops(slot, behind int) {
	w.Helper()
	top, _ := w.m.Peek(w.l.Free())
	w.loads(w.l.Free(), w.l.After(slot))
	w.holds = slot
	w.swaps(w.l.Free(), bits.Top(behind, bits.Ver(top)+1))
}

// settles does the steps of a Take behind its Pop.
func (w *walk) settles(slot int) {
	w.Helper()
	gen, _ := w.m.Peek(w.l.Gen(slot))
	w.stores(w.l.Intent(w.thread), uint64(slot+1))
	w.lasts(w.l.Intent(w.thread))
	w.loads(w.l.Gen(slot))
	w.stores(w.l.Gen(slot), gen+1)
}

// fills does the steps by which a slot is filled.
func (w *walk) fills(slot int, key, val uint32, link uint64) {
	w.Helper()
	w.stores(w.l.Key(slot), uint64(key))
	w.stores(w.l.Val(slot), uint64(val))
	w.stores(w.l.Next(slot), link)
	w.stores(w.l.Tag(slot), uint64(w.thread+1))
	w.lasts(w.l.Next(slot))
}

// pushes does the steps of a Push, but for the last one.
func (w *walk) pushes(slot int) {
	w.Helper()
	top, _ := w.m.Peek(w.l.Free())
	w.loads(w.l.Free())
	w.stores(w.l.After(slot), uint64(bits.To(top)+1))
}

// reserves does the steps of a Reserve, whose place is told.
func (w *walk) reserves(place, slot int) {
	w.Helper()
	for n := range place + 1 {
		w.loads(w.l.Log(w.thread, n))
	}
	w.stores(w.l.Log(w.thread, place), bits.Entry(slot, api.None))
	w.lasts(w.l.Log(w.thread, place))
}

// looksThrough does the steps by which all entries of the log are loaded.
func (w *walk) looksThrough() {
	w.Helper()
	for n := range w.l.Config().Logs {
		w.loads(w.l.Log(w.thread, n))
	}
}

// advances does the steps of an Advance that nobody holds up.
func (w *walk) advances() {
	w.Helper()
	now, _ := w.m.Peek(w.l.Epoch())
	w.loads(w.l.Epoch())
	for i := range w.l.Config().Threads {
		w.loads(w.l.Announce(i))
	}
	w.swaps(w.l.Epoch(), now+1)
}

// seeks does the steps of a Seek in a list of clean links, the slots of which are told, that ends with the key of the last one, or, behind it, with none.
func (w *walk) seeks(head int, slots ...int) (when int) {
	w.Helper()
	w.loads(head)
	for _, s := range slots {
		w.loads(w.l.Next(s))
		when = w.m.Clock()
		w.loads(w.l.Key(s))
	}
	return when
}

// ends does the last step, and fails if it is another access than one, or the Work tells something else then.
func (w *walk) ends(want api.Access, r api.Result) {
	w.Helper()
	clock := w.m.Clock()
	if w.x.Done() || !w.x.Step(w.m) || !w.x.Done() {
		w.Errorf("%+v: not done", want)
	}
	want.Thread = w.thread
	if w.m.Last() != want || w.m.Clock() != clock+1 {
		w.Errorf("%d accesses, the last one %+v, want %+v", w.m.Clock()-clock, w.m.Last(), want)
	}
	w.tells(r)
	w.idle(r)
}

// endsLoading does the last step, which loads a word.
func (w *walk) endsLoading(at int, r api.Result) {
	w.Helper()
	old, _ := w.m.Peek(at)
	w.ends(api.Access{Kind: api.AcLoad, At: at, Old: old, Done: true}, r)
}

// endsFencing does the last two steps, which flush a word's line, and fence.
func (w *walk) endsFencing(at int, r api.Result) {
	w.Helper()
	w.step(api.Access{Kind: api.AcFlush, At: at})
	w.ends(api.Access{Kind: api.AcFence, Done: true}, r)
}

// endsDropping does the last step, which drops the intent.
func (w *walk) endsDropping(slot int) {
	w.Helper()
	w.ends(api.Access{Kind: api.AcStore, At: w.l.Intent(w.thread), Old: uint64(slot + 1), Done: true}, api.Result{Kind: api.ResOK})
}

// endsStamping does the last steps, those of a Stamp.
func (w *walk) endsStamping(place, slot int, r api.Result) {
	w.Helper()
	now, _ := w.m.Peek(w.l.Epoch())
	w.loads(w.l.Epoch())
	w.stores(w.l.Log(w.thread, place), bits.Entry(slot, int(now)))
	w.endsFencing(w.l.Log(w.thread, place), r)
}

// endsPushing does the last step, by which a slot is given back.
func (w *walk) endsPushing(slot int, r api.Result) {
	w.Helper()
	top, _ := w.m.Peek(w.l.Free())
	w.holds = api.None
	w.ends(api.Access{Kind: api.AcSwap, At: w.l.Free(), Old: top, New: bits.Top(slot, bits.Ver(top)+1), Done: true}, r)
}

// idle fails if a step of what is done does anything.
func (w *walk) idle(r api.Result) {
	w.Helper()
	clock, last := w.m.Clock(), w.m.Last()
	if !w.x.Step(w.m) || !w.x.Done() || w.m.Clock() != clock || w.m.Last() != last {
		w.Errorf("a step of a Work that is done does something")
	}
	w.tells(r)
}

// goesOn lets a Work go on till it is done.
func goesOn(t *testing.T, m *pmem.Mem, x *sets.Work) api.Result {
	t.Helper()
	for range 1000 {
		if x.Step(m) {
			return x.Result()
		}
	}
	t.Fatalf("not done in 1000 steps")
	return api.Result{}
}

// word fails if there is another word.
func word(t *testing.T, m *pmem.Mem, at int, want uint64) {
	t.Helper()
	if got, _ := m.Peek(at); got != want {
		t.Errorf("the word %d is %#x, want %#x", at, got, want)
	}
}

// listed fails if the slots of a list are others.
func listed(t *testing.T, l *layout.Layout, m *pmem.Mem, head int, want ...int) {
	t.Helper()
	if got, is := seek.Slots(l, m, head); !is || !slices.Equal(got, want) {
		t.Errorf("the list at %d is %v, %v, want %v", head, got, is, want)
	}
}

// opened fails if other slots are free.
func opened(t *testing.T, l *layout.Layout, m *pmem.Mem, want ...int) {
	t.Helper()
	if got, is := free.List(l, m); !is || !slices.Equal(got, want) {
		t.Errorf("free are %v, %v, want %v", got, is, want)
	}
}

// logged fails if other slots stand in a log.
func logged(t *testing.T, l *layout.Layout, m *pmem.Mem, thread int, want ...int) {
	t.Helper()
	if got := retire.Slots(l, m, thread); !slices.Equal(got, want) {
		t.Errorf("the log %d is %v, want %v", thread, got, want)
	}
}

var (
	ok   = api.Result{Kind: api.ResOK}
	gone = api.Result{Kind: api.ResGone}
	full = api.Result{Kind: api.ResFull}
)

// there is the result of a key that is there.
func there(val uint32) api.Result {
	return api.Result{Kind: api.ResThere, Val: val}
}

func TestExampleOfTheDocument(t *testing.T) { // 15.1
	l, m := ground(t, 1, 3, 1)
	open(l, m, 0, 1, 2)
	for _, x := range []struct {
		o    api.Op
		want api.Result
	}{
		{api.Op{Kind: api.OpPut, Key: 3, Val: 7}, ok},
		{api.Op{Kind: api.OpPut, Key: 3, Val: 8}, there(7)},
		{api.Op{Kind: api.OpCut, Key: 3}, api.Result{Kind: api.ResOK, Val: 7}},
	} {
		if r := goesOn(t, m, sets.New(l, 0, l.Bucket(0), x.o)); r != x.want {
			t.Errorf("%+v: %+v, want %+v", x.o, r, x.want)
		}
	}
	listed(t, l, m, l.Bucket(0))
	logged(t, l, m, 0, 0)
}

func TestPutIntoAnEmptyList(t *testing.T) { // 15.1, 15.2
	for _, kind := range []int{api.OpAdd, api.OpPut} {
		l, m := ground(t, 3, 6, 2)
		open(l, m, 4, 2)
		m.Store(0, l.Gen(4), 7)
		w := begins(t, l, m, 2, l.Set(), api.Op{Kind: kind, Key: 5, Val: 9})
		w.seeks(l.Set())
		w.pops(4, 2)
		w.settles(4)
		w.fills(4, 5, 9, 0)
		w.puts(l.Set(), bits.Link(4, -1))
		w.endsDropping(4)
		listed(t, l, m, l.Set(), 4)
		opened(t, l, m, 2)
		word(t, m, l.Gen(4), 8)
		word(t, m, l.Intent(2), 0)
		m.Crash()
		listed(t, l, m, l.Set(), 4)
		word(t, m, l.Key(4), 5)
		word(t, m, l.Val(4), 9)
		word(t, m, l.Tag(4), 3)
		word(t, m, l.Intent(2), 5) // that it was dropped need not last
	}
}

func TestPutAheadBetweenAndBehind(t *testing.T) { // 15.1
	for _, x := range []struct {
		key  uint32
		met  []int
		at   func(l *layout.Layout) int
		to   int
		want []int
	}{
		{0, []int{3}, func(l *layout.Layout) int { return l.Bucket(1) }, 3, []int{5, 3, 0}},
		{15, []int{3, 0}, func(l *layout.Layout) int { return l.Next(3) }, 0, []int{3, 5, 0}},
		{math.MaxUint32, []int{3, 0}, func(l *layout.Layout) int { return l.Next(0) }, -1, []int{3, 0, 5}},
	} {
		for _, kind := range []int{api.OpAdd, api.OpPut} {
			w := two(t, kind, x.key, math.MaxUint32)
			w.seeks(w.l.Bucket(1), x.met...)
			w.pops(5, 1)
			w.settles(5)
			w.fills(5, x.key, math.MaxUint32, bits.Link(x.to, -1))
			w.puts(x.at(w.l), bits.Link(5, -1))
			w.endsDropping(5)
			listed(t, w.l, w.m, w.l.Bucket(1), x.want...)
		}
	}
}

func TestPutOfAKeyThatIsThere(t *testing.T) { // 15.1, 15.2
	w := two(t, api.OpAdd, 20, 9)
	w.loads(w.l.Bucket(1), w.l.Next(3), w.l.Key(3), w.l.Next(0))
	w.when = w.m.Clock()
	w.ends(api.Access{Kind: api.AcLoad, At: w.l.Key(0), Old: 20, Done: true}, there(0))
	opened(t, w.l, w.m, 5, 1)

	w = two(t, api.OpPut, 20, 9)
	when := w.seeks(w.l.Bucket(1), 3, 0)
	w.when = when
	w.endsLoading(w.l.Val(0), there(21))
	listed(t, w.l, w.m, w.l.Bucket(1), 3, 0)
	opened(t, w.l, w.m, 5, 1)
	word(t, w.m, w.l.Val(0), 21)
}

func TestPutBehindOneThatWasTakenAway(t *testing.T) { // 15.1: the Seek lets that be in the list no more
	w := two(t, api.OpPut, 20, 22)
	w.m.Store(0, w.l.Next(0), bits.Link(-1, 0))
	w.loads(w.l.Bucket(1), w.l.Next(3), w.l.Key(3), w.l.Next(0))
	w.swaps(w.l.Next(3), bits.Soil(0))
	w.lasts(w.l.Next(3))
	w.swaps(w.l.Next(3), 0)
	w.pops(5, 1)
	w.settles(5)
	w.fills(5, 20, 22, 0)
	w.puts(w.l.Next(3), bits.Link(5, -1))
	w.endsDropping(5)
	listed(t, w.l, w.m, w.l.Bucket(1), 3, 5)
}

func TestPutWhereNoneIsFree(t *testing.T) { // 15.1, 15.2: ResFull at the Take's Empty
	for _, kind := range []int{api.OpAdd, api.OpPut} {
		w := two(t, kind, 15, 0)
		l, m := w.l, w.m
		m.Store(0, l.Free(), 0)
		before := m.Device().Seen()
		w.seeks(l.Bucket(1), 3, 0)
		w.loads(l.Free())
		w.advances()
		w.loads(l.Epoch())
		w.looksThrough()
		w.when = m.Clock() + 1
		w.endsLoading(l.Free(), full)
		if !slices.Equal(m.Device().Seen(), before) {
			t.Errorf("a lasting word was written")
		}
	}
}

func TestPutIntoWhatItReclaims(t *testing.T) { // 15.1: meanwhile it holds what the Reclaim holds
	w := two(t, api.OpAdd, 15, 0)
	l, m := w.l, w.m
	m.Store(0, l.Free(), bits.Top(-1, 4))
	m.Store(0, l.Epoch(), 1)
	m.Store(0, l.Log(1, 1), bits.Entry(4, 0))
	w.seeks(l.Bucket(1), 3, 0)
	w.loads(l.Free())
	w.advances()
	w.loads(l.Epoch())
	w.looksThrough()
	w.holds = 4
	w.stores(l.Log(1, 1), 0)
	w.pushes(4)
	w.holds = api.None
	w.swaps(l.Free(), bits.Top(4, 5))
	w.pops(4, -1)
	w.settles(4)
	w.fills(4, 15, 0, bits.Link(0, -1))
	w.puts(l.Next(3), bits.Link(4, -1))
	w.endsDropping(4)
}

func TestPutWhoseLinkIsAnotherOneMeanwhile(t *testing.T) { // 15.1: it begins anew, with the slot that it has
	for _, now := range []uint64{bits.Link(4, -1), bits.Soil(bits.Link(0, -1)), bits.Link(0, 0), bits.Link(-1, -1)} {
		w := two(t, api.OpPut, 15, 16)
		l, m := w.l, w.m
		lay(l, m, l.Bucket(0), node{4, 14, 0, -1}, node{0, 20, 21, -1})
		w.seeks(l.Bucket(1), 3, 0)
		w.pops(5, 1)
		w.settles(5)
		w.fills(5, 15, 16, bits.Link(0, -1))
		m.Store(0, l.Next(3), now)
		w.misses(l.Next(3), bits.Soil(bits.Link(5, -1)))
		w.loads(l.Bucket(1)) // the head
		if r := goesOn(t, m, w.x); r != ok || w.x.Holds() != api.None {
			t.Errorf("%#x: %+v, it holds %d", now, r, w.x.Holds())
		}
		opened(t, l, m, 1)
		word(t, m, l.Gen(5), 1)
		if got, is := seek.Slots(l, m, l.Bucket(1)); !is || !slices.Contains(got, 5) {
			t.Errorf("%#x: the list is %v, %v", now, got, is)
		}
	}
	w := two(t, api.OpAdd, 15, 16)
	l, m := w.l, w.m
	w.seeks(l.Bucket(1), 3, 0)
	w.pops(5, 1)
	w.settles(5)
	w.fills(5, 15, 16, bits.Link(0, -1))
	lay(l, m, l.Bucket(1), node{3, 10, 11, -1}, node{4, 14, 0, -1}, node{0, 20, 21, -1})
	w.misses(l.Next(3), bits.Soil(bits.Link(5, -1)))
	w.seeks(l.Bucket(1), 3, 4, 0)
	w.fills(5, 15, 16, bits.Link(0, -1)) // all of it, once more
	lay(l, m, l.Bucket(1), node{4, 14, 0, -1})
	w.misses(l.Next(4), bits.Soil(bits.Link(5, -1)))
	w.seeks(l.Bucket(1), 4)
	w.fills(5, 15, 16, 0)
	w.puts(l.Next(4), bits.Link(5, -1))
	w.endsDropping(5)
	listed(t, l, m, l.Bucket(1), 4, 5)
}

func TestPutOfAKeyThatComesMeanwhile(t *testing.T) { // 15.1: the slot that it has is given back
	for _, kind := range []int{api.OpAdd, api.OpPut} {
		w := two(t, kind, 15, 16)
		l, m := w.l, w.m
		w.seeks(l.Bucket(1), 3, 0)
		w.pops(5, 1)
		w.settles(5)
		w.fills(5, 15, 16, bits.Link(0, -1))
		lay(l, m, l.Bucket(1), node{3, 10, 11, -1}, node{4, 15, 17, -1}, node{0, 20, 21, -1})
		w.misses(l.Next(3), bits.Soil(bits.Link(5, -1)))
		when := w.seeks(l.Bucket(1), 3, 4)
		want := there(0)
		if kind == api.OpPut {
			w.loads(l.Val(4))
			want = there(17)
		}
		w.stores(l.Intent(1), 0)
		w.pushes(5)
		m.Store(0, l.Free(), bits.Top(1, 9)) // another thread is quicker
		w.misses(l.Free(), bits.Top(5, 3))
		w.pushes(5)
		w.when = when
		w.endsPushing(5, want)
		opened(t, l, m, 5, 1)
		listed(t, l, m, l.Bucket(1), 3, 4, 0)
	}
}

func TestTakeOut(t *testing.T) { // 15.1, 15.2
	for _, x := range []struct {
		key  uint32
		met  []int
		slot int
		at   func(l *layout.Layout) int
		to   int
		want []int
	}{
		{10, []int{3}, 3, func(l *layout.Layout) int { return l.Bucket(1) }, 0, []int{0}},
		{20, []int{3, 0}, 0, func(l *layout.Layout) int { return l.Next(3) }, -1, []int{3}},
	} {
		for _, kind := range []int{api.OpDel, api.OpCut} {
			w := two(t, kind, x.key, 99)
			l, m := w.l, w.m
			m.Store(0, l.Epoch(), 6)
			w.seeks(l.Bucket(1), x.met...)
			want := ok
			if kind == api.OpCut {
				w.loads(l.Val(x.slot))
				want.Val = x.key + 1
			}
			w.reserves(0, x.slot)
			w.puts(l.Next(x.slot), bits.Link(x.to, 1))
			w.seeks(l.Bucket(1), x.met[:len(x.met)-1]...)
			w.loads(l.Next(x.slot))
			w.swaps(x.at(l), bits.Soil(bits.Link(x.to, -1))) // the Seek's own Set
			w.lasts(x.at(l))
			w.swaps(x.at(l), bits.Link(x.to, -1))
			if x.to != api.None {
				w.loads(l.Next(x.to), l.Key(x.to))
			}
			w.endsStamping(0, x.slot, want)
			listed(t, l, m, l.Bucket(1), x.want...)
			opened(t, l, m, 5, 1)
			logged(t, l, m, 1, x.slot)
			word(t, m, l.Log(1, 0), bits.Entry(x.slot, 6))
			m.Crash()
			listed(t, l, m, l.Bucket(1), x.want...)
			word(t, m, l.Log(1, 0), bits.Entry(x.slot, 6))
			word(t, m, l.Next(x.slot), bits.Soil(bits.Link(x.to, 1)))
		}
	}
}

func TestTakeOutOfAKeyThatIsNotThere(t *testing.T) { // 15.1, 15.2: the time is that of the link by which the way came
	for _, kind := range []int{api.OpDel, api.OpCut, api.OpHas, api.OpGet} {
		for _, key := range []uint32{0, 9} {
			w := two(t, kind, key, 0)
			w.loads(w.l.Bucket(1))
			when := w.m.Clock()
			w.loads(w.l.Next(3))
			w.when = when
			w.endsLoading(w.l.Key(3), gone)
		}
		for _, key := range []uint32{11, 19} {
			w := two(t, kind, key, 0)
			when := w.seeks(w.l.Bucket(1), 3)
			w.loads(w.l.Next(0))
			w.when = when
			w.endsLoading(w.l.Key(0), gone)
		}
		for _, key := range []uint32{21, math.MaxUint32} {
			w := two(t, kind, key, 0)
			w.seeks(w.l.Bucket(1), 3)
			w.loads(w.l.Next(0))
			w.when = w.m.Clock()
			w.endsLoading(w.l.Key(0), gone)
			listed(t, w.l, w.m, w.l.Bucket(1), 3, 0)
			logged(t, w.l, w.m, 1)
		}
	}
}

func TestTakeOutOfAnEmptyList(t *testing.T) { // 15.1, 15.2
	for _, kind := range []int{api.OpDel, api.OpCut, api.OpHas, api.OpGet} {
		w := two(t, kind, 10, 0)
		w.x = sets.New(w.l, 1, w.l.Bucket(0), api.Op{Kind: kind, Key: 10})
		w.when = w.m.Clock() + 1
		w.endsLoading(w.l.Bucket(0), gone)
	}
}

func TestTakeOutByTheNextPlaceOfTheLog(t *testing.T) { // 15.1
	w := two(t, api.OpDel, 10, 0)
	l, m := w.l, w.m
	m.Store(0, l.Log(1, 0), bits.Entry(4, 0))
	w.seeks(l.Bucket(1), 3)
	w.reserves(1, 3)
	w.puts(l.Next(3), bits.Link(0, 1))
	w.loads(l.Bucket(1), l.Next(3))
	w.swaps(l.Bucket(1), bits.Soil(bits.Link(0, -1)))
	w.lasts(l.Bucket(1))
	w.swaps(l.Bucket(1), bits.Link(0, -1))
	w.loads(l.Next(0), l.Key(0))
	w.endsStamping(1, 3, ok)
	logged(t, l, m, 1, 4, 3)
}

func TestTakeOutWhereTheLogIsFull(t *testing.T) { // 15.1, 15.2: ResFull behind the second Reserve
	for _, kind := range []int{api.OpDel, api.OpCut} {
		w := two(t, kind, 10, 0)
		l, m := w.l, w.m
		m.Store(0, l.Epoch(), 5)
		m.Store(0, l.Log(1, 0), bits.Entry(4, 5))
		m.Store(0, l.Log(1, 1), bits.Entry(2, api.None))
		before := m.Device().Seen()
		w.seeks(l.Bucket(1), 3)
		if kind == api.OpCut {
			w.loads(l.Val(3))
		}
		w.looksThrough()
		w.advances()
		w.loads(l.Epoch())
		w.looksThrough()
		w.loads(l.Log(1, 0))
		w.when = m.Clock() + 1
		w.endsLoading(l.Log(1, 1), full)
		word(t, m, l.Epoch(), 6)
		if !slices.Equal(m.Device().Seen(), before) {
			t.Errorf("a lasting word was written")
		}
		opened(t, l, m, 5, 1)
	}
}

func TestTakeOutWhereTheLogWasFull(t *testing.T) { // 15.1: meanwhile it holds what the Reclaim holds
	for _, held := range []bool{false, true} { // also where the Advance is held up
		w := two(t, api.OpCut, 20, 0)
		l, m := w.l, w.m
		m.Store(0, l.Epoch(), 5)
		m.Store(0, l.Log(1, 0), bits.Entry(4, 5))
		m.Store(0, l.Log(1, 1), bits.Entry(2, 3))
		w.seeks(l.Bucket(1), 3, 0)
		w.loads(l.Val(0))
		w.looksThrough()
		if held {
			m.Store(0, l.Announce(0), 5)
			w.loads(l.Epoch(), l.Announce(0))
		} else {
			w.advances()
		}
		w.loads(l.Epoch())
		w.looksThrough()
		w.holds = 2
		w.stores(l.Log(1, 1), 0)
		w.pushes(2)
		top, _ := m.Peek(l.Free())
		w.holds = api.None
		w.swaps(l.Free(), bits.Top(2, bits.Ver(top)+1))
		w.reserves(1, 0)
		w.puts(l.Next(0), bits.Link(-1, 1))
		w.seeks(l.Bucket(1), 3)
		w.loads(l.Next(0))
		w.swaps(l.Next(3), bits.Soil(0))
		w.lasts(l.Next(3))
		w.swaps(l.Next(3), 0)
		w.endsStamping(1, 0, api.Result{Kind: api.ResOK, Val: 21})
		logged(t, l, m, 1, 4, 0)
		opened(t, l, m, 2, 5, 1)
	}
}

func TestTakeOutOfAKeyThatGoesMeanwhile(t *testing.T) { // 15.1: the place is canceled
	for _, kind := range []int{api.OpDel, api.OpCut} {
		w := two(t, kind, 20, 0)
		l, m := w.l, w.m
		w.seeks(l.Bucket(1), 3, 0)
		if kind == api.OpCut {
			w.loads(l.Val(0))
		}
		w.reserves(0, 0)
		m.Store(0, l.Next(0), bits.Link(-1, 0))
		w.misses(l.Next(0), bits.Soil(bits.Link(-1, 1)))
		w.stores(l.Log(1, 0), 0)
		w.seeks(l.Bucket(1), 3)
		w.loads(l.Next(0))
		w.swaps(l.Next(3), bits.Soil(0))
		when := m.Clock()
		w.lasts(l.Next(3))
		w.when = when
		w.ends(api.Access{Kind: api.AcSwap, At: l.Next(3), Old: bits.Soil(0), New: 0, Done: true}, gone)
		logged(t, l, m, 1)
		listed(t, l, m, l.Bucket(1), 3)
	}
}

func TestTakeOutWhoseLinkIsAnotherOneMeanwhile(t *testing.T) { // 15.1: it begins anew, and loads the value again
	w := two(t, api.OpCut, 10, 0)
	l, m := w.l, w.m
	m.Store(0, l.Log(1, 0), bits.Entry(2, 0))
	w.seeks(l.Bucket(1), 3)
	w.loads(l.Val(3))
	w.reserves(1, 3)
	lay(l, m, l.Bucket(1), node{3, 10, 11, -1}, node{4, 15, 0, -1}, node{0, 20, 21, -1})
	w.misses(l.Next(3), bits.Soil(bits.Link(0, 1)))
	w.stores(l.Log(1, 1), 0)
	lay(l, m, l.Bucket(1), node{1, 10, 12, -1}, node{0, 20, 21, -1}) // another slot of that key by now
	m.Store(0, l.Log(1, 0), 0)
	w.seeks(l.Bucket(1), 1)
	w.loads(l.Val(1))
	w.reserves(0, 1)
	w.puts(l.Next(1), bits.Link(0, 1))
	w.loads(l.Bucket(1), l.Next(1))
	w.swaps(l.Bucket(1), bits.Soil(bits.Link(0, -1)))
	w.lasts(l.Bucket(1))
	w.swaps(l.Bucket(1), bits.Link(0, -1))
	w.loads(l.Next(0), l.Key(0))
	w.endsStamping(0, 1, api.Result{Kind: api.ResOK, Val: 12})
	listed(t, l, m, l.Bucket(1), 0)
	logged(t, l, m, 1, 1)
}

func TestTakeOutThatFindsTheLogFullTheSecondTime(t *testing.T) { // 15.1: each time the log is reclaimed anew
	w := two(t, api.OpDel, 10, 0)
	l, m := w.l, w.m
	w.seeks(l.Bucket(1), 3)
	w.reserves(0, 3)
	m.Store(0, l.Next(3), bits.Link(-1, -1))
	w.misses(l.Next(3), bits.Soil(bits.Link(0, 1)))
	m.Store(0, l.Log(1, 1), bits.Entry(4, 0))
	w.stores(l.Log(1, 0), 0)
	m.Store(0, l.Log(1, 0), bits.Entry(2, 1))
	w.seeks(l.Bucket(1), 3)
	w.looksThrough()
	w.advances()
	w.loads(l.Epoch())
	w.looksThrough()
	w.loads(l.Log(1, 0))
	w.when = m.Clock() + 1
	w.endsLoading(l.Log(1, 1), full)
	listed(t, l, m, l.Bucket(1), 3)
	logged(t, l, m, 1, 2, 4)
}

func TestTakeOutThatIsHelped(t *testing.T) { // 15.1: another Seek has let the slot be in the list no more
	w := two(t, api.OpDel, 10, 0)
	l, m := w.l, w.m
	w.seeks(l.Bucket(1), 3)
	w.reserves(0, 3)
	w.puts(l.Next(3), bits.Link(0, 1))
	goesOn(t, m, sets.New(l, 0, l.Bucket(1), api.Op{Kind: api.OpHas, Key: 10}))
	listed(t, l, m, l.Bucket(1), 0)
	w.seeks(l.Bucket(1), 0)
	w.endsStamping(0, 3, ok)
	logged(t, l, m, 1, 3)
}

func TestTakeOutOfAKeyThatComesAgain(t *testing.T) { // 15.1: the slot that is stamped is the one that was taken away
	w := two(t, api.OpDel, 10, 0)
	l, m := w.l, w.m
	w.seeks(l.Bucket(1), 3)
	w.reserves(0, 3)
	w.puts(l.Next(3), bits.Link(0, 1))
	if r := goesOn(t, m, sets.New(l, 0, l.Bucket(1), api.Op{Kind: api.OpAdd, Key: 10})); r != ok {
		t.Errorf("it comes again: %+v", r)
	}
	listed(t, l, m, l.Bucket(1), 5, 0)
	w.seeks(l.Bucket(1), 5)
	w.endsStamping(0, 3, ok)
	listed(t, l, m, l.Bucket(1), 5, 0)
	logged(t, l, m, 1, 3)
}

func TestLook(t *testing.T) { // 15.1, 15.2
	w := two(t, api.OpHas, 20, 99)
	w.loads(w.l.Bucket(1), w.l.Next(3), w.l.Key(3), w.l.Next(0))
	w.when = w.m.Clock()
	w.endsLoading(w.l.Key(0), there(0))

	w = two(t, api.OpGet, 10, 99)
	w.loads(w.l.Bucket(1), w.l.Next(3))
	when := w.m.Clock()
	w.loads(w.l.Key(3))
	w.m.Store(0, w.l.Val(3), 1<<32|math.MaxUint32-1) // a result has 32 bits
	w.when = when
	w.endsLoading(w.l.Val(3), there(math.MaxUint32-1))
	listed(t, w.l, w.m, w.l.Bucket(1), 3, 0)
	opened(t, w.l, w.m, 5, 1)
}

func TestWritesAreThoseAheadOfTheSet(t *testing.T) { // 15.2
	for evictions := range 4 {
		for _, kind := range []int{api.OpAdd, api.OpDel} {
			key := uint32(10)
			if kind == api.OpAdd {
				key = 15
			}
			w := two(t, kind, key, 0)
			l, m := w.l, w.m
			for n := 0; n < 100 && w.x.Where() == api.None; n++ {
				if w.x.Writes() != 0 || w.x.When() != api.None {
					t.Errorf("nothing is put, and Writes() = %d, When() = %d", w.x.Writes(), w.x.When())
				}
				if m.Clock()%2 == 0 {
					for range evictions {
						m.Device().Evict(l.Next(3) / api.LineWords)
					}
				}
				writes := m.Writes(l.Next(3))
				w.x.Step(m)
				if w.x.Where() != api.None && (w.x.Where() != l.Next(3) || w.x.Writes() != writes || w.x.When() != m.Clock()) {
					t.Errorf("Where() = %d, Writes() = %d, When() = %d, want %d, %d, %d", w.x.Where(), w.x.Writes(), w.x.When(), l.Next(3), writes, m.Clock())
				}
			}
			writes, when := w.x.Writes(), w.x.When()
			m.Device().Evict(l.Next(3) / api.LineWords)
			if r := goesOn(t, m, w.x); r != ok || w.x.Where() != l.Next(3) || w.x.Writes() != writes || w.x.When() != when || writes < evictions {
				t.Errorf("%+v, Where() = %d, Writes() = %d, When() = %d, want %d, %d, %d", r, w.x.Where(), w.x.Writes(), w.x.When(), l.Next(3), writes, when)
			}
		}
	}
}

func TestKindsThatThereAreNot(t *testing.T) { // 15.1: done at once
	l, m := ground(t, 1, 2, 1)
	for _, kind := range []int{math.MinInt, -1, 0, api.OpEnq, api.OpDeq, 9, math.MaxInt} {
		w := begins(t, l, m, 0, l.Set(), api.Op{Kind: kind, Key: 1, Val: 2})
		if !w.x.Done() {
			t.Errorf("the kind %d is not done", kind)
		}
		w.idle(api.Result{})
	}
}

func TestNoWork(t *testing.T) { // 15.1, 15.2, R1
	l, m := ground(t, 1, 2, 1)
	var none *sets.Work
	for _, x := range []*sets.Work{none, {}} {
		w := &walk{T: t, l: l, m: m, x: x, holds: api.None, when: api.None, where: api.None}
		w.idle(api.Result{})
		if !x.Step(nil) {
			t.Errorf("no Work is not done")
		}
	}
}

func TestHeadsThatThereAreNot(t *testing.T) { // 15.1: they tell 0, and nothing is put there
	l, m := ground(t, 1, 3, 1)
	open(l, m, 2)
	for _, head := range []int{math.MinInt, -1 - l.Passing(), l.Lines() * api.LineWords, math.MaxInt} {
		w := begins(t, l, m, 0, head, api.Op{Kind: api.OpHas, Key: 1})
		w.when = m.Clock() + 1
		w.ends(api.Access{Kind: api.AcLoad, At: head}, gone)
		x := sets.New(l, 0, head, api.Op{Kind: api.OpAdd, Key: 1})
		for range 200 {
			x.Step(m)
		}
		if x.Done() || x.Holds() != 2 || x.Where() != api.None {
			t.Errorf("Done() = %v, Holds() = %d, Where() = %d", x.Done(), x.Holds(), x.Where())
		}
		open(l, m, 2)
	}
}

func TestThreadsThatThereAreNot(t *testing.T) { // 15.1, R1: their words are none, all else as ever
	for _, thread := range []int{math.MinInt, -1, 2, 64, math.MaxInt} {
		w := two(t, api.OpAdd, 15, 0)
		if r := goesOn(t, w.m, sets.New(w.l, thread, w.l.Bucket(1), api.Op{Kind: api.OpPut, Key: 15, Val: 4})); r != ok {
			t.Errorf("the thread %d puts: %+v", thread, r)
		}
		listed(t, w.l, w.m, w.l.Bucket(1), 3, 5, 0)
		word(t, w.m, w.l.Tag(5), uint64(thread+1))
		if r := goesOn(t, w.m, sets.New(w.l, thread, w.l.Bucket(1), api.Op{Kind: api.OpGet, Key: 15})); r != there(4) {
			t.Errorf("the thread %d looks: %+v", thread, r)
		}
		if r := goesOn(t, w.m, sets.New(w.l, thread, w.l.Bucket(1), api.Op{Kind: api.OpCut, Key: 15})); r.Kind != api.ResOK || r.Val != 4 {
			t.Errorf("the thread %d takes out: %+v", thread, r)
		}
		logged(t, w.l, w.m, 0)
		logged(t, w.l, w.m, 1)
	}
}
