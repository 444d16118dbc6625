package thread_test

import (
	"math"
	"testing"

	"limekiln/api"
	"limekiln/bits"
	"limekiln/epoch"
	"limekiln/hash"
	"limekiln/layout"
	"limekiln/pdev"
	"limekiln/pmem"
	"limekiln/queue"
	"limekiln/sets"
	"limekiln/thread"
)

// ground is a layout, and a memory of an empty store: the queue has the slot 0, all others are free, in order.
func ground(t *testing.T, c api.Config) (*layout.Layout, *pmem.Mem) {
	t.Helper()
	l, e := layout.Of(c)
	if e != api.OK {
		t.Fatalf("layout.Of: %v", e)
	}
	d, e := pdev.New(l.Lines(), c.Threads)
	if e != api.OK {
		t.Fatalf("pdev.New: %v", e)
	}
	m, e := pmem.New(d, l.Passing())
	if e != api.OK {
		t.Fatalf("pmem.New: %v", e)
	}
	m.Store(0, l.Head(), bits.Link(0, api.None))
	m.Store(0, l.Tail(), bits.Link(0, api.None))
	first := api.None
	for s := c.Slots - 1; s > 0; s-- {
		m.Store(0, l.After(s), uint64(first+1))
		first = s
	}
	m.Store(0, l.Free(), bits.Top(first, 0))
	d.Evict(l.Head() / api.LineWords)
	d.Evict(l.Tail() / api.LineWords)
	return l, m
}

// some is a config of a few of all.
var some = api.Config{Threads: 3, Slots: 6, Logs: 2, Buckets: 3}

// tells fails if a thread tells something else.
func tells(t *testing.T, x *thread.Thread, op api.Op, has, answered bool) {
	t.Helper()
	if got, is := x.Op(); got != op || is != has || x.Answered() != answered {
		t.Errorf("Op() = %+v, %v, Answered() = %v, want %+v, %v, %v", got, is, x.Answered(), op, has, answered)
	}
}

// none fails if a thread tells anything of a work.
func none(t *testing.T, x *thread.Thread) {
	t.Helper()
	if x.Result() != (api.Result{}) || x.Holds() != api.None || x.When() != api.None || x.Where() != api.None || x.Writes() != 0 {
		t.Errorf("Result() = %+v, Holds() = %d, When() = %d, Where() = %d, Writes() = %d", x.Result(), x.Holds(), x.When(), x.Where(), x.Writes())
	}
}

// stands fails if a step of a thread is done.
func stands(t *testing.T, m *pmem.Mem, x *thread.Thread) {
	t.Helper()
	clock, last := m.Clock(), m.Last()
	if x.Step(m) || m.Clock() != clock || m.Last() != last {
		t.Errorf("a step is done: %+v", m.Last())
	}
}

// does lets a thread do an operation, and tells its result, and how many steps it took.
func does(t *testing.T, m *pmem.Mem, x *thread.Thread, o api.Op) (api.Result, int) {
	t.Helper()
	if e := x.Invoke(o); e != api.OK {
		t.Fatalf("Invoke of %+v: %v", o, e)
	}
	clock := m.Clock()
	n := 0
	for ; n < 20000 && x.Step(m); n++ {
		if m.Clock() != clock+n+1 {
			t.Fatalf("%+v: %d accesses in %d steps", o, m.Clock()-clock, n+1)
		}
	}
	r, e := x.Take()
	if e != api.OK {
		t.Fatalf("%+v: Take: %v behind %d steps", o, e, n)
	}
	return r, n
}

func TestExampleOfTheDocument(t *testing.T) { // 18.1
	l, m := ground(t, some)
	x := thread.New(l, 0)
	if r, _ := does(t, m, x, api.Op{Kind: api.OpAdd, Key: 4}); r.Kind != api.ResOK {
		t.Errorf("OpAdd: %+v", r)
	}
	if r, _ := does(t, m, x, api.Op{Kind: api.OpHas, Key: 4}); r.Kind != api.ResThere {
		t.Errorf("OpHas: %+v", r)
	}
}

// work is what a work of either kind tells.
type work interface {
	Step(m *pmem.Mem) bool
	Done() bool
	Result() api.Result
	Holds() int
	When() int
	Where() int
	Writes() int
}

// like fails if a thread tells something else than its work.
func like(t *testing.T, x *thread.Thread, w work) {
	t.Helper()
	if x.Result() != w.Result() || x.Holds() != w.Holds() || x.When() != w.When() || x.Where() != w.Where() || x.Writes() != w.Writes() {
		t.Errorf("Result() = %+v, Holds() = %d, When() = %d, Where() = %d, Writes() = %d, want %+v, %d, %d, %d, %d",
			x.Result(), x.Holds(), x.When(), x.Where(), x.Writes(), w.Result(), w.Holds(), w.When(), w.Where(), w.Writes())
	}
}

func TestStepByStep(t *testing.T) { // 18.1, 18.2, 18.3: as Enter, the work, and Leave do in a memory of the same words
	ahead := []api.Op{{Kind: api.OpEnq, Val: 3}, {Kind: api.OpAdd, Key: 8}, {Kind: api.OpPut, Key: 8, Val: 2}}
	for kind := api.OpEnq; kind <= api.OpCut; kind++ {
		for key := range uint32(12) {
			o := api.Op{Kind: kind, Key: key, Val: 60 + key}
			l, m := ground(t, some)
			_, twin := ground(t, some)
			for _, a := range ahead {
				does(t, m, thread.New(l, 0), a)
				does(t, twin, thread.New(l, 0), a)
			}
			var w work = queue.New(l, 2, o)
			if kind != api.OpEnq && kind != api.OpDeq {
				w = sets.New(l, 2, hash.Head(l, o), o)
			}
			x := thread.New(l, 2)
			if e := x.Invoke(o); e != api.OK {
				t.Fatalf("Invoke: %v", e)
			}
			parts := []interface{ Step(m *pmem.Mem) bool }{epoch.NewEnter(l, 2), w, epoch.NewLeave(l, 2)}
			for i, part := range parts {
				for n := 0; n < 200; n++ {
					tells(t, x, o, true, false)
					if _, e := x.Take(); e != api.ErrNone {
						t.Errorf("Take: %v", e)
					}
					done := part.Step(twin)
					if !x.Step(m) || m.Clock() != twin.Clock() || m.Last() != twin.Last() {
						t.Fatalf("%+v, the part %d: %+v, want %+v", o, i, m.Last(), twin.Last())
					}
					like(t, x, w)
					if done {
						break
					}
				}
			}
			tells(t, x, o, true, true)
			stands(t, m, x)
			like(t, x, w)
			if r, e := x.Take(); e != api.OK || r != w.Result() || r.Kind == api.ResNone {
				t.Errorf("Take: %+v, %v, want %+v", r, e, w.Result())
			}
			tells(t, x, api.Op{}, false, false)
			none(t, x)
			stands(t, m, x)
		}
	}
}

func TestInvokeOfWhatThereIsNot(t *testing.T) { // 18.1
	l, m := ground(t, some)
	x := thread.New(l, 0)
	kinds := []int{math.MinInt, -1, 0, 9, math.MaxInt}
	refuses := func() {
		t.Helper()
		op, has := x.Op()
		answered := x.Answered()
		for _, kind := range kinds {
			if e := x.Invoke(api.Op{Kind: kind, Key: 1, Val: 2}); e != api.ErrArg {
				t.Errorf("Invoke of the kind %d: %v", kind, e)
			}
			tells(t, x, op, has, answered)
		}
	}
	refuses()
	none(t, x)
	stands(t, m, x)
	if e := x.Invoke(api.Op{Kind: api.OpHas, Key: 4}); e != api.OK {
		t.Errorf("Invoke: %v", e)
	}
	refuses() // also where it is busy: ErrArg comes first
	for x.Step(m) {
		refuses()
	}
	if r, e := x.Take(); e != api.OK || r.Kind != api.ResGone {
		t.Errorf("Take: %+v, %v", r, e)
	}
}

func TestInvokeWhereItIsNotIdle(t *testing.T) { // 18.1
	l, m := ground(t, some)
	x := thread.New(l, 1)
	o := api.Op{Kind: api.OpEnq, Key: 5, Val: 6}
	if e := x.Invoke(o); e != api.OK {
		t.Errorf("Invoke: %v", e)
	}
	for n := 0; n < 100; n++ {
		if e := x.Invoke(api.Op{Kind: api.OpDeq}); e != api.ErrBusy {
			t.Errorf("behind %d steps: Invoke: %v", n, e)
		}
		tells(t, x, o, true, x.Answered())
		if !x.Step(m) {
			break
		}
	}
	if r, e := x.Take(); e != api.OK || r != (api.Result{Kind: api.ResOK}) {
		t.Errorf("Take: %+v, %v", r, e)
	}
	if r, _ := does(t, m, x, api.Op{Kind: api.OpDeq}); r != (api.Result{Kind: api.ResOK, Val: 6}) {
		t.Errorf("OpDeq: %+v", r)
	}
}

func TestIdle(t *testing.T) { // 18.1, 18.2
	l, m := ground(t, some)
	x := thread.New(l, 1)
	for range 2 {
		tells(t, x, api.Op{}, false, false)
		none(t, x)
		stands(t, m, x)
		if r, e := x.Take(); e != api.ErrNone || r != (api.Result{}) {
			t.Errorf("Take: %+v, %v", r, e)
		}
		does(t, m, x, api.Op{Kind: api.OpAdd, Key: 3})
	}
	if _, in := epoch.In(l, m, 1); in {
		t.Errorf("it is in")
	}
}

func TestTakeOnce(t *testing.T) { // 18.1
	l, m := ground(t, some)
	x := thread.New(l, 1)
	does(t, m, x, api.Op{Kind: api.OpAdd, Key: 3})
	if r, e := x.Take(); e != api.ErrNone || r != (api.Result{}) {
		t.Errorf("Take: %+v, %v", r, e)
	}
}

func TestNoThread(t *testing.T) { // 18.1, 18.2, R1
	_, m := ground(t, some)
	var x *thread.Thread
	if e := x.Invoke(api.Op{Kind: api.OpHas}); e != api.ErrArg {
		t.Errorf("Invoke: %v", e)
	}
	if r, e := x.Take(); e != api.ErrArg || r != (api.Result{}) {
		t.Errorf("Take: %+v, %v", r, e)
	}
	tells(t, x, api.Op{}, false, false)
	none(t, x)
	stands(t, m, x)
	if x.Step(nil) {
		t.Errorf("a step is done")
	}
	tells(t, &thread.Thread{}, api.Op{}, false, false)
	none(t, &thread.Thread{})
	stands(t, m, &thread.Thread{})
}

func TestThreadsThatThereAreNot(t *testing.T) { // R1: their words are none, all else as ever
	for _, who := range []int{math.MinInt, -1, 3, 64, math.MaxInt} {
		l, m := ground(t, some)
		x := thread.New(l, who)
		for _, c := range []struct {
			o    api.Op
			want int
		}{
			{api.Op{Kind: api.OpEnq, Val: 3}, api.ResOK},
			{api.Op{Kind: api.OpPut, Key: 3, Val: 3}, api.ResOK},
			{api.Op{Kind: api.OpHas, Key: 3}, api.ResGone},
			{api.Op{Kind: api.OpGet, Key: 3}, api.ResThere},
		} {
			if r, _ := does(t, m, x, c.o); r.Kind != c.want {
				t.Errorf("the thread %d, %+v: %+v", who, c.o, r)
			}
		}
	}
}

func TestStepsGrowWithWhatIsThere(t *testing.T) { // 18.3
	for _, n := range []int{0, 1, 7, 60} {
		l, m := ground(t, api.Config{Threads: 2, Slots: 2*n + 4, Logs: 2, Buckets: 1})
		x := thread.New(l, 0)
		for i := range n {
			does(t, m, x, api.Op{Kind: api.OpAdd, Key: uint32(i)})
			does(t, m, x, api.Op{Kind: api.OpEnq, Val: uint32(i)})
		}
		if r, steps := does(t, m, x, api.Op{Kind: api.OpHas, Key: math.MaxUint32}); r.Kind != api.ResGone || steps != 2*n+4 {
			t.Errorf("OpHas behind %d keys: %+v, %d steps", n, r, steps)
		}
		if r, steps := does(t, m, x, api.Op{Kind: api.OpAdd, Key: math.MaxUint32}); r.Kind != api.ResOK || steps != 2*n+4+8+6+4+1 {
			t.Errorf("OpAdd behind %d keys: %+v, %d steps", n, r, steps)
		}
		if r, steps := does(t, m, x, api.Op{Kind: api.OpEnq}); r.Kind != api.ResOK || steps != 3+8+5+2+4+2 {
			t.Errorf("OpEnq behind %d values: %+v, %d steps", n, r, steps)
		}
		if r, steps := does(t, m, x, api.Op{Kind: api.OpDeq}); r.Kind != api.ResOK || steps != 3+7+4+4+7+4 {
			t.Errorf("OpDeq of %d values: %+v, %d steps", n, r, steps)
		}
	}
}
