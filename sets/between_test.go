package sets_test

import (
	"cmp"
	"slices"
	"testing"

	"limekiln/api"
	"limekiln/bits"
	"limekiln/epoch"
	"limekiln/free"
	"limekiln/layout"
	"limekiln/model"
	"limekiln/pmem"
	"limekiln/retire"
	"limekiln/seek"
	"limekiln/sets"
)

// call is an operation of a thread that was answered: when it began, and when it was so.
type call struct {
	thread int
	o      api.Op
	r      api.Result
	begun  int
	when   int
}

// moment is which threads' logs were full at a time, and whether no slot was free.
type moment struct {
	none bool
	full []bool
}

// field has threads that do something to lists between one another: set operations to the set, map operations to the bucket 0.
type field struct {
	l       *layout.Layout
	m       *pmem.Mem
	comes   bool           // whether threads come in ahead of their works, and go out behind them
	enter   []*epoch.Enter // by threads
	leave   []*epoch.Leave
	running []*sets.Work
	op      []api.Op
	begun   []int
	calls   []call
	then    []moment // by the clock, from first on
	first   int
	was     api.State
}

// newField is a field of what lies in a memory.
func newField(l *layout.Layout, m *pmem.Mem, comes bool) *field {
	n := l.Config().Threads
	f := &field{l: l, m: m, comes: comes, enter: make([]*epoch.Enter, n), leave: make([]*epoch.Leave, n), running: make([]*sets.Work, n), op: make([]api.Op, n), begun: make([]int, n)}
	f.first, f.was = m.Clock(), f.now()
	f.then = []moment{f.moment()}
	return f
}

// now is what both lists hold.
func (f *field) now() api.State {
	words := f.m.Device().Seen()
	s := stateOf(held(f.l, words, f.l.Set()), true)
	s.Map = stateOf(held(f.l, words, f.l.Bucket(0)), false).Map
	return s
}

func (f *field) moment() moment {
	x := moment{none: empty(f.l, f.m)}
	for i := range f.running {
		x.full = append(x.full, fuller(f.l, f.m, i))
	}
	return x
}

// busy tells whether a thread is amid something.
func (f *field) busy(thread int) bool {
	return f.running[thread] != nil
}

// begin lets a thread begin an operation.
func (f *field) begin(thread int, o api.Op) {
	head := f.l.Bucket(0)
	if ofSet(o) {
		head = f.l.Set()
	}
	f.running[thread], f.op[thread], f.begun[thread] = sets.New(f.l, thread, head, o), o, f.m.Clock()
	if f.comes {
		f.enter[thread] = epoch.NewEnter(f.l, thread)
		f.leave[thread] = epoch.NewLeave(f.l, thread)
	}
}

// goOn does a step of a thread, and fails if it is not one access, or a slot is not one thing behind it.
func (f *field) goOn(t *testing.T, thread int) {
	clock := f.m.Clock()
	x := f.running[thread]
	switch {
	case !f.enter[thread].Done():
		f.enter[thread].Step(f.m)
	case !x.Done():
		f.works(t, thread)
	default:
		f.leave[thread].Step(f.m)
	}
	if f.m.Clock() != clock+1 || f.m.Last().Thread != thread || f.m.Bad() != 0 {
		t.Errorf("a step of the thread %d: %d accesses, the last one %+v, %d bad", thread, f.m.Clock()-clock, f.m.Last(), f.m.Bad())
	}
	f.then = append(f.then, f.moment())
	f.once(t)
	if x.Done() && f.leave[thread].Done() {
		f.running[thread] = nil
	}
}

// works does a step of a thread's Work. It fails if it tells when it was so at another time than it should.
func (f *field) works(t *testing.T, thread int) {
	x := f.running[thread]
	when := x.When()
	done := x.Step(f.m)
	switch now := x.When(); {
	case when != api.None && now != when:
		t.Errorf("When() = %d, and %d behind", when, now)
	case x.Where() != api.None && when == api.None && now != f.m.Clock():
		t.Errorf("it was done at %d, When() = %d", f.m.Clock(), now)
	case !done && now != api.None && x.Where() == api.None:
		t.Errorf("When() = %d, and it is not done", now)
	}
	if done {
		told(t, x, f.m, f.begun[thread])
		f.calls = append(f.calls, call{thread, f.op[thread], x.Result(), f.begun[thread], x.When()})
	}
}

// once fails if a slot is not just one of: in a list, free, held, or in the log of the thread that took it away, in no list any more.
func (f *field) once(t *testing.T) {
	all, is := free.List(f.l, f.m)
	set, a := seek.Slots(f.l, f.m, f.l.Set())
	bucket, b := seek.Slots(f.l, f.m, f.l.Bucket(0))
	way := slices.Concat(set, bucket)
	all = append(all, way...)
	for i, x := range f.running {
		if s := x.Holds(); s != api.None {
			all = append(all, s)
		}
		for _, s := range retire.Slots(f.l, f.m, i) {
			if w, _ := f.m.Peek(f.l.Next(s)); bits.By(w) == i && !slices.Contains(way, s) {
				all = append(all, s)
			}
		}
	}
	slices.Sort(all)
	is = is && a && b && len(all) == f.l.Config().Slots
	for i, s := range all {
		is = is && i == s
	}
	if !is {
		t.Errorf("slots that are in lists, free, held, or retired: %v", all)
	}
}

// ends lets all threads go on, in turns, till nobody has anything to do.
func (f *field) ends(t *testing.T) {
	t.Helper()
	for range 2000 {
		idle := true
		for i := range f.running {
			if f.busy(i) {
				idle = false
				f.goOn(t, i)
			}
		}
		if idle || t.Failed() {
			return
		}
	}
	t.Errorf("not done in 2000 turns")
}

// respects fails if the answers are not those of one call behind the other, by the times at which it was so, or what lies there is not what is left then.
func (f *field) respects(t *testing.T) {
	t.Helper()
	s := f.was
	slices.SortFunc(f.calls, func(a, b call) int { return cmp.Compare(a.when, b.when) })
	for _, c := range f.calls {
		next, is := model.Allows(s, c.o, c.r)
		if !is {
			t.Errorf("%+v, where %+v was", c, s)
		}
		s = next
		at := f.then[c.when-f.first]
		adds := c.o.Kind == api.OpAdd || c.o.Kind == api.OpPut
		if c.r == full && (adds && !at.none || !adds && !at.full[c.thread]) {
			t.Errorf("%+v, where a slot was free, or the log not full", c)
		}
	}
	if now := f.now(); !model.Same(now, s) {
		t.Errorf("%+v is left, want %+v", now, s)
	}
}

// lies lays a list of the keys 10, 20 and 30, in one of three ways.
func lies(t *testing.T, way int, head func(l *layout.Layout) int) (*layout.Layout, *pmem.Mem) {
	l, m := ground(t, 2, 6, 1)
	nodes := []node{{2, 10, 11, -1}, {0, 20, 21, -1}, {4, 30, 31, -1}}
	switch way {
	case 0: // slots are free, and the logs empty
		lay(l, m, head(l), nodes...)
		open(l, m, 1, 3, 5)
	case 1: // one slot is free, the logs stay full, a slot was taken away, and some links are dirty
		lay(l, m, head(l), slices.Insert(nodes, 1, node{1, 15, 16, 1})...)
		open(l, m, 3)
		m.Store(0, l.Log(1, 0), bits.Entry(1, api.None))
		m.Store(0, l.Log(0, 0), bits.Entry(5, 9))
		m.Store(0, l.Next(5), bits.Link(-1, 0))
		for _, at := range []int{head(l), l.Next(2), l.Next(1), l.Next(4)} {
			w, _ := m.Peek(at)
			m.Store(0, at, bits.Soil(w))
		}
	case 2: // none is free, and the logs are full, till they are reclaimed
		lay(l, m, head(l), append(nodes, node{5, 40, 41, -1})...)
		m.Store(0, l.Epoch(), 1)
		for i, s := range []int{1, 3} {
			m.Store(0, l.Next(s), bits.Link(-1, i))
			m.Store(0, l.Log(i, 0), bits.Entry(s, 0))
		}
	}
	return l, m
}

// plays lets two threads do an operation each: in turns, as many steps as said, then each to its end. It tells whether all of these steps were there to be done.
func plays(t *testing.T, way int, two [2]api.Op, cuts ...int) bool {
	head := (*layout.Layout).Set
	if !ofSet(two[0]) {
		head = func(l *layout.Layout) int { return l.Bucket(0) }
	}
	l, m := lies(t, way, head)
	f := newField(l, m, false)
	f.begin(0, two[0])
	f.begin(1, two[1])
	whole := true
	for i, cut := range cuts {
		for range cut {
			if !f.busy(i % 2) {
				whole = false
				break
			}
			f.goOn(t, i%2)
		}
	}
	for i := range 2 {
		for n := 0; f.busy((len(cuts)+i)%2) && n < 500; n++ {
			f.goOn(t, (len(cuts)+i)%2)
		}
	}
	f.ends(t)
	f.respects(t)
	if t.Failed() {
		t.Fatalf("%+v, the way %d, by %v steps", two, way, cuts)
	}
	return whole
}

// orders goes over all numbers of steps that so many turns may have, and tells how many there are.
func orders(t *testing.T, way int, two [2]api.Op, cuts []int, turns int) int {
	t.Helper()
	all := 0
	for n := 0; turns > 0; n++ {
		next := append(slices.Clone(cuts), n)
		if !plays(t, way, two, next...) {
			break
		}
		all += 1 + orders(t, way, two, next, turns-1)
	}
	return all
}

func TestTwoAtOneList(t *testing.T) { // 15.1 to 15.3: two turns of any length
	t.Parallel()
	for _, set := range []bool{true, false} {
		all := ops(set, 15, 20)
		for _, a := range append(all, ops(set, 10)...) {
			for _, b := range all {
				for way := range 3 {
					if n := orders(t, way, [2]api.Op{a, b}, nil, 2); n < 10 {
						t.Errorf("%+v, %+v, the way %d: only %d orders", a, b, way, n)
					}
				}
			}
		}
	}
}

func TestTwoAtOneKey(t *testing.T) { // 15.1 to 15.3: three turns of any length
	t.Parallel()
	for _, x := range []struct {
		way  int
		a, b int
		key  uint32
	}{
		{0, api.OpPut, api.OpPut, 15},
		{0, api.OpPut, api.OpCut, 20},
		{0, api.OpCut, api.OpCut, 20},
		{1, api.OpPut, api.OpPut, 15},
		{2, api.OpDel, api.OpAdd, 20},
		{0, api.OpDel, api.OpHas, 30},
	} {
		n := orders(t, x.way, [2]api.Op{{Kind: x.a, Key: x.key, Val: 1}, {Kind: x.b, Key: x.key, Val: 2}}, nil, 3)
		if n < 100 {
			t.Errorf("%+v: only %d orders", x, n)
		}
	}
}

func TestManyBetweenOneAnother(t *testing.T) { // 15.1 to 15.3: of works that come in, and go out, while lines are written back
	t.Parallel()
	x := uint64(1)
	draw := func(n int) int {
		x = x*6364136223846793005 + 1442695040888963407
		return int(x >> 33 % uint64(n))
	}
	for _, threads := range []int{2, 3, 5} {
		for _, slots := range []int{3, 5, 12} {
			for _, logs := range []int{1, 3} {
				l, m := ground(t, threads, slots, logs)
				open(l, m, []int{0, 1, 2, 3, 4, 5, 6, 7, 8, 9, 10, 11}[:slots]...)
				f := newField(l, m, true)
				for range 6000 {
					i := draw(threads)
					for n := draw(12); n >= 0; n-- {
						if !f.busy(i) {
							all := ops(draw(2) == 0, 5, 6, 7)
							f.begin(i, all[draw(len(all))])
						}
						f.goOn(t, i)
					}
					if draw(5) == 0 {
						m.Device().Evict(draw(l.Lines()))
					}
					if t.Failed() {
						t.Fatalf("of %d threads, %d slots, logs of %d", threads, slots, logs)
					}
				}
				f.ends(t)
				f.respects(t)
				var seen [6]int
				for _, c := range f.calls {
					seen[c.r.Kind]++
				}
				if seen[api.ResOK] < 200 || seen[api.ResThere] < 50 || seen[api.ResGone] < 200 || seen[api.ResFull] < 10 {
					t.Errorf("of %d threads, %d slots, logs of %d: results by kinds %v", threads, slots, logs, seen)
				}
			}
		}
	}
}
