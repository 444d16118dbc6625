package queue_test

import (
	"cmp"
	"math"
	"slices"
	"strconv"
	"testing"

	"limekiln/api"
	"limekiln/bits"
	"limekiln/epoch"
	"limekiln/free"
	"limekiln/layout"
	"limekiln/model"
	"limekiln/pmem"
	"limekiln/queue"
	"limekiln/retire"
)

// call is an operation of a thread: its result, once it was answered, and when it was so.
type call struct {
	thread int
	o      api.Op
	r      api.Result
	when   int
}

// field has threads that do something to the queue between one another.
type field struct {
	l       *layout.Layout
	m       *pmem.Mem
	comes   bool           // whether threads come in ahead of their works, and go out behind them
	enter   []*epoch.Enter // by threads
	leave   []*epoch.Leave
	running []*queue.Work
	op      []api.Op
	begun   []int
	seq     []int // of the cells
	calls   []call
	last    words     // what is kept, as it was looked at last
	behind  api.State // all calls that were so ahead of those
	quiet   bool      // whether nothing is looked at behind a step
	got     [9][6]int // how many results there were, by operations and kinds
}

// newField is a field of what lies in a memory.
func newField(l *layout.Layout, m *pmem.Mem, comes bool) *field {
	n := l.Config().Threads
	f := &field{l: l, m: m, comes: comes, enter: make([]*epoch.Enter, n), leave: make([]*epoch.Leave, n), running: make([]*queue.Work, n), op: make([]api.Op, n), begun: make([]int, n), seq: make([]int, n)}
	f.last, f.behind = kept(m), held(l, seen(m))
	for i := range n {
		w, _ := m.Peek(l.Cell(i))
		f.seq[i] = bits.Seq(w)
	}
	return f
}

// busy tells whether a thread is amid something.
func (f *field) busy(thread int) bool {
	return f.running[thread] != nil
}

// begin lets a thread begin an operation.
func (f *field) begin(thread int, o api.Op) {
	f.running[thread], f.op[thread], f.begun[thread] = queue.New(f.l, thread, o), o, f.m.Clock()
	if o.Kind == api.OpDeq {
		f.seq[thread]++
	}
	if f.comes {
		f.enter[thread] = epoch.NewEnter(f.l, thread)
		f.leave[thread] = epoch.NewLeave(f.l, thread)
	}
}

// goOn does a step of a thread, and fails if it is not one access, or what is there behind it is not what it should be.
func (f *field) goOn(t *testing.T, thread int) {
	clock := f.m.Clock()
	x := f.running[thread]
	switch {
	case !f.enter[thread].Done():
		f.enter[thread].Step(f.m)
	case !x.Done():
		f.works(t, thread)
	default:
		f.leave[thread].Step(f.m)
	}
	if f.m.Clock() != clock+1 || f.m.Last().Thread != thread || f.m.Bad() != 0 {
		t.Errorf("a step of the thread %d: %d accesses, the last one %+v, %d bad", thread, f.m.Clock()-clock, f.m.Last(), f.m.Bad())
	}
	if x.Done() && f.leave[thread].Done() {
		f.running[thread] = nil
	}
	kind := f.m.Last().Kind
	if kind == api.AcFence { // by which alone more is kept
		f.last = kept(f.m)
	}
	if !f.quiet && kind != api.AcLoad && kind != api.AcFlush { // which change nothing
		f.once(t)
		f.lasts(t)
	}
}

// works does a step of a thread's Work. It fails if it tells when it was so at another time than it should.
func (f *field) works(t *testing.T, thread int) {
	x := f.running[thread]
	when := x.When()
	done := x.Step(f.m)
	switch now := x.When(); {
	case when != api.None && now != when:
		t.Errorf("When() = %d, and %d behind", when, now)
	case x.Where() != api.None && when == api.None && now != f.m.Clock():
		t.Errorf("it was done at %d, When() = %d", f.m.Clock(), now)
	case !done && now != api.None && x.Where() == api.None:
		t.Errorf("When() = %d, and it is not done", now)
	}
	if done {
		f.answered(t, thread)
	}
}

// answered notes what was answered. It fails if ResFull is told of another time than now, or where a slot is free, or the log is not full; or if the cell says something else than what was taken.
func (f *field) answered(t *testing.T, thread int) {
	x, o := f.running[thread], f.op[thread]
	r := x.Result()
	told(t, x, f.m, f.begun[thread])
	fullRightly(t, f.l, f.m, thread, o, r)
	if r == full && x.When() != f.m.Clock() {
		t.Errorf("%+v is full at %d, When() = %d", o, f.m.Clock(), x.When())
	}
	if o.Kind == api.OpDeq {
		said(t, f.l, f.last, thread, bits.Cell(f.seq[thread], r.Kind == api.ResOK, r.Val))
	}
	f.calls = append(f.calls, call{thread, o, r, x.When()})
	f.got[o.Kind][r.Kind]++
}

// once fails if a slot is not just one of: in the queue, free, held, or in the log of the thread that took it away, in the queue no more.
func (f *field) once(t *testing.T) {
	all, is := free.List(f.l, f.m)
	queued := way(f.l, seen(f.m))
	all = append(all, queued...)
	for i, x := range f.running {
		if s := x.Holds(); s != api.None {
			all = append(all, s)
		}
		for _, s := range retire.Slots(f.l, f.m, i) {
			if w, _ := f.m.Peek(f.l.Next(s)); bits.By(w) == i && !slices.Contains(queued, s) {
				all = append(all, s)
			}
		}
	}
	slices.Sort(all)
	is = is && len(all) == f.l.Config().Slots
	for i, s := range all {
		is = is && i == s
	}
	if !is {
		t.Errorf("slots that are in the queue, free, held, or retired: %v", all)
	}
}

// lasts fails if what is kept is not what was put by those calls that were answered, or whose line was written back since; or if the head has gone past a value of which the cell of who has taken it does not say so, and last.
func (f *field) lasts(t *testing.T) {
	first := math.MaxInt
	var put []call
	for i, x := range f.running {
		if x.Done() || x.Where() == api.None {
			continue
		}
		first = min(first, x.When())
		if f.m.Writes(x.Where()) > x.Writes() {
			put = append(put, call{i, f.op[i], ok, x.When()})
		}
		f.says(t, i)
	}
	f.settles(t, first)
	all := slices.Concat(f.calls, put)
	slices.SortFunc(all, earlier)
	s := f.behind
	for _, c := range all {
		if c.r.Kind == api.ResOK {
			s, _ = model.Apply(s, c.o)
		}
	}
	if now := held(f.l, f.last); !model.Same(now, s) {
		t.Errorf("%+v is kept, want %+v", now, s)
	}
}

// says fails if the head has gone past what a thread is about to take, and its cell does not say so, and last.
func (f *field) says(t *testing.T, thread int) {
	w := seen(f.m)
	s := f.l.Slot(f.running[thread].Where())
	if f.op[thread].Kind != api.OpDeq || slices.Contains(way(f.l, w), s) {
		return
	}
	val := uint32(w(f.l.Val(bits.To(w(f.l.Next(s))))))
	said(t, f.l, f.last, thread, bits.Cell(f.seq[thread], true, val))
}

// settles fails if the answers of calls that were so ahead of a time are not those of one behind the other, by the times at which it was so.
func (f *field) settles(t *testing.T, ahead int) {
	slices.SortFunc(f.calls, earlier)
	for len(f.calls) > 0 && f.calls[0].when < ahead {
		c := f.calls[0]
		next, is := model.Allows(f.behind, c.o, c.r)
		if !is {
			t.Errorf("%+v, where %+v was", c, f.behind)
		}
		f.behind, f.calls = next, f.calls[1:]
	}
}

// earlier compares calls by when it was so.
func earlier(a, b call) int {
	return cmp.Compare(a.when, b.when)
}

// ends lets all threads go on, in turns, till nobody has anything to do. It fails if what lies there then is not what is left.
func (f *field) ends(t *testing.T) {
	t.Helper()
	for range 2000 {
		idle := true
		for i := range f.running {
			if f.busy(i) {
				idle = false
				f.goOn(t, i)
			}
		}
		if t.Failed() {
			return
		}
		if idle {
			f.lasts(t)
			if now := held(f.l, seen(f.m)); !model.Same(now, f.behind) {
				t.Errorf("%+v is left, want %+v", now, f.behind)
			}
			return
		}
	}
	t.Errorf("not done in 2000 turns")
}

// lies lays a queue, in one of four ways, for three threads; a fourth one has stopped.
func lies(t *testing.T, way int) (*layout.Layout, *pmem.Mem) {
	l, m := ground(t, 4, 7, 1)
	nodes := []node{{2, 20, -1}, {0, 21, -1}, {4, 22, -1}}
	switch way {
	case 0: // slots are free, and the logs empty
		lay(l, m, 2, nodes...)
		open(l, m, 1, 3, 5, 6)
	case 1: // likewise, and the queue is empty
		lay(l, m, 0, nodes[0])
		open(l, m, 1, 3, 5, 6, 0, 4)
	case 2: // one slot is free, of two logs one stays full, the first value was taken by who has stopped, the tail lags, and the links are dirty
		nodes[0].by = 3
		lay(l, m, 0, nodes...)
		soil(l, m, nodes, 1<<3-1)
		open(l, m, 3)
		m.Store(0, l.Cell(3), bits.Cell(9, false, 0))
		m.Store(0, l.Log(3, 0), bits.Entry(2, api.None))
		m.Store(0, l.Epoch(), 1)
		for i, s := range []int{5, 1, 6} {
			m.Store(0, l.Next(s), bits.Link(-1, i))
			m.Store(0, l.Log(i, 0), bits.Entry(s, []int{9, 0, 0}[i]))
		}
	case 3: // none is free, and the logs are full, till they are reclaimed
		lay(l, m, 2, nodes...)
		m.Store(0, l.Epoch(), 1)
		for i, s := range []int{1, 3, 5, 6} {
			m.Store(0, l.Next(s), bits.Link(-1, i))
			m.Store(0, l.Log(i, 0), bits.Entry(s, 0))
		}
	}
	return l, m
}

// plays lets threads do an operation each: in turns, as many steps as said, then each to its end. It tells whether all of these steps were there to be done. (All turns but the last one were looked at ahead.)
func plays(t *testing.T, way int, ops []api.Op, cuts ...int) bool {
	l, m := lies(t, way)
	f := newField(l, m, false)
	for i, o := range ops {
		f.begin(i, o)
	}
	whole := true
	for i, cut := range cuts {
		f.quiet = i < len(cuts)-1
		for range cut {
			if !f.busy(i % len(ops)) {
				whole = false
				break
			}
			f.goOn(t, i%len(ops))
		}
	}
	for i := range ops {
		who := (len(cuts) + i) % len(ops)
		for n := 0; f.busy(who) && n < 500; n++ {
			f.goOn(t, who)
		}
	}
	f.ends(t)
	if t.Failed() {
		t.Fatalf("%+v, the way %d, by %v steps", ops, way, cuts)
	}
	return whole
}

// orders goes over all numbers of steps that so many turns may have, and tells how many there are.
func orders(t *testing.T, way int, ops []api.Op, cuts []int, turns int) int {
	t.Helper()
	all := 0
	for n := 0; turns > 0; n++ {
		next := append(slices.Clone(cuts), n)
		if !plays(t, way, ops, next...) {
			break
		}
		all += 1 + orders(t, way, ops, next, turns-1)
	}
	return all
}

var (
	enq5 = api.Op{Kind: api.OpEnq, Val: 5}
	enq6 = api.Op{Kind: api.OpEnq, Val: 6}
	enq7 = api.Op{Kind: api.OpEnq, Val: 7}
	deq  = api.Op{Kind: api.OpDeq}
)

func TestTwoAtTheQueue(t *testing.T) { // 17.1 to 17.3: two turns of any length
	t.Parallel()
	for _, ops := range [][]api.Op{{enq5, enq6}, {enq5, deq}, {deq, enq5}, {deq, deq}} {
		for way := range 4 {
			if n := orders(t, way, ops, nil, 2); n < 50 {
				t.Errorf("%+v, the way %d: only %d orders", ops, way, n)
			}
		}
	}
}

func TestThreeAtTheQueue(t *testing.T) { // 17.1 to 17.3: two turns of any length
	t.Parallel()
	for mix := range 1 << 3 {
		var ops []api.Op
		for i := range 3 {
			ops = append(ops, [][]api.Op{{enq5, deq}, {enq6, deq}, {enq7, deq}}[i][mix>>i&1])
		}
		for way := range 4 {
			if n := orders(t, way, ops, nil, 2); n < 50 {
				t.Errorf("%+v, the way %d: only %d orders", ops, way, n)
			}
		}
	}
}

func TestInThreeTurns(t *testing.T) { // 17.1 to 17.3
	t.Parallel()
	for i, x := range []struct {
		way int
		ops []api.Op
	}{
		{0, []api.Op{deq, deq}},
		{1, []api.Op{enq5, deq}},
		{2, []api.Op{deq, enq5}},
		{3, []api.Op{enq5, enq6}},
		{0, []api.Op{deq, deq, deq}},
		{0, []api.Op{enq5, deq, deq}},
	} {
		t.Run(strconv.Itoa(i), func(t *testing.T) {
			t.Parallel()
			if n := orders(t, x.way, x.ops, nil, 3); n < 500 {
				t.Errorf("%+v, the way %d: only %d orders", x.ops, x.way, n)
			}
		})
	}
}

func TestManyBetweenOneAnother(t *testing.T) { // 17.1 to 17.3: of works that come in, and go out, while lines are written back
	t.Parallel()
	x := uint64(1)
	draw := func(n int) int {
		x = x*6364136223846793005 + 1442695040888963407
		return int(x >> 33 % uint64(n))
	}
	var got [9][6]int
	for _, threads := range []int{2, 3, 5} {
		for _, slots := range []int{2, 4, 12} {
			for _, logs := range []int{1, 3} {
				l, m := ground(t, threads, slots, logs)
				lay(l, m, 0, node{0, 0, api.None})
				open(l, m, []int{1, 2, 3, 4, 5, 6, 7, 8, 9, 10, 11}[:slots-1]...)
				f := newField(l, m, true)
				for n := range 6000 {
					i := draw(threads)
					for k := draw(12); k >= 0; k-- {
						if !f.busy(i) {
							f.begin(i, api.Op{Kind: api.OpEnq + draw(2), Val: uint32(n)})
						}
						f.goOn(t, i)
					}
					if draw(5) == 0 {
						m.Device().Evict(draw(l.Lines()))
						f.last = kept(m)
						f.lasts(t)
					}
					if t.Failed() {
						t.Fatalf("of %d threads, %d slots, logs of %d", threads, slots, logs)
					}
				}
				f.ends(t)
				for kind := range got {
					for r, n := range f.got[kind] {
						got[kind][r] += n
					}
				}
			}
		}
	}
	enq, deq := got[api.OpEnq], got[api.OpDeq]
	if enq[api.ResOK] < 2000 || enq[api.ResFull] < 2000 || deq[api.ResOK] < 2000 || deq[api.ResEmpty] < 2000 || deq[api.ResFull] < 500 {
		t.Errorf("results by kinds: %v, %v", enq, deq)
	}
}
