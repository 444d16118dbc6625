package thread_test

import (
	"cmp"
	"math"
	"slices"
	"testing"

	"limekiln/api"
	"limekiln/bits"
	"limekiln/free"
	"limekiln/hash"
	"limekiln/layout"
	"limekiln/model"
	"limekiln/pmem"
	"limekiln/retire"
	"limekiln/thread"
)

// call is an operation of a thread: its result, once it was answered, and when it was so.
type call struct {
	o    api.Op
	r    api.Result
	when int
}

// field has threads that do operations between one another.
type field struct {
	l      *layout.Layout
	m      *pmem.Mem
	all    []*thread.Thread
	begun  []int // by threads
	calls  []call
	behind api.State // all calls that were so ahead of those
	got    [6]int    // how many results there were, by kinds
}

// goOn does a step of a thread. It fails if it is not one access, or what is there behind it is not what it should be.
func (f *field) goOn(t *testing.T, who int) {
	x, clock, was := f.all[who], f.m.Clock(), f.all[who].Result()
	if !x.Step(f.m) || f.m.Clock() != clock+1 || f.m.Last().Thread != who || f.m.Bad() != 0 {
		t.Errorf("a step of the thread %d: %d accesses, the last one %+v, %d bad", who, f.m.Clock()-clock, f.m.Last(), f.m.Bad())
	}
	o, _ := x.Op()
	if r := x.Result(); r != was {
		fullRightly(t, f.l, f.m, who, o, r)
		f.calls = append(f.calls, call{o, r, x.When()})
		f.got[r.Kind]++
		if x.When() <= f.begun[who] || x.When() > f.m.Clock() || (x.Where() != api.None) != (r.Kind == api.ResOK) {
			t.Errorf("%+v, from %d to %d: %+v, When() = %d, Where() = %d", o, f.begun[who], f.m.Clock(), r, x.When(), x.Where())
		}
	}
	if x.Answered() {
		x.Take()
	}
	f.once(t)
	f.settles(t)
}

// once fails if a slot is not just one of: on a way, free, held, or in the log of the thread that took it away, on a way no more.
func (f *field) once(t *testing.T) {
	all, is := free.List(f.l, f.m)
	ways := way(f.l, seen(f.m), f.l.Head())
	for head := range hash.Heads(f.l) {
		ways = append(ways, way(f.l, seen(f.m), head)...)
	}
	all = append(all, ways...)
	for i, x := range f.all {
		if s := x.Holds(); s != api.None {
			all = append(all, s)
		}
		for _, s := range retire.Slots(f.l, f.m, i) {
			if w, _ := f.m.Peek(f.l.Next(s)); bits.By(w) == i && !slices.Contains(ways, s) {
				all = append(all, s)
			}
		}
	}
	slices.Sort(all)
	is = is && len(all) == f.l.Config().Slots
	for i, s := range all {
		is = is && i == s
	}
	if !is {
		t.Errorf("slots that are on ways, free, held, or retired: %v", all)
	}
}

// settles fails if the answers are not those of one call behind the other, by the times at which it was so, or what is seen, or kept, is not what is left then.
func (f *field) settles(t *testing.T) {
	first := math.MaxInt
	var put, lasts []call
	for i, x := range f.all {
		o, busy := x.Op()
		if !busy || x.Result().Kind != api.ResNone {
			continue
		}
		first = min(first, f.begun[i]) // what it will answer was so behind that
		if x.Where() == api.None {
			continue
		}
		c := call{o, api.Result{Kind: api.ResOK}, x.When()}
		put = append(put, c)
		if f.m.Writes(x.Where()) > x.Writes() {
			lasts = append(lasts, c)
		}
	}
	slices.SortFunc(f.calls, earlier)
	for len(f.calls) > 0 && f.calls[0].when < first {
		next, is := model.Allows(f.behind, f.calls[0].o, f.calls[0].r)
		if !is {
			t.Errorf("%+v, where %+v was", f.calls[0], f.behind)
		}
		f.behind, f.calls = next, f.calls[1:]
	}
	f.leaves(t, held(f.l, seen(f.m)), put)
	f.leaves(t, held(f.l, kept(f.m)), lasts)
}

// leaves fails if a state is another one than is left behind all calls, and those beside them.
func (f *field) leaves(t *testing.T, got api.State, beside []call) {
	all := slices.Concat(f.calls, beside)
	slices.SortFunc(all, earlier)
	s := f.behind
	for _, c := range all {
		if c.r.Kind == api.ResOK {
			s, _ = model.Apply(s, c.o)
		}
	}
	if !model.Same(got, s) {
		t.Errorf("%+v is there, want %+v", got, s)
	}
}

// earlier compares calls by when it was so.
func earlier(a, b call) int {
	return cmp.Compare(a.when, b.when)
}

func TestManyBetweenOneAnother(t *testing.T) { // 18.1 to 18.3: of all operations, while lines are written back
	draw := drawing()
	var got [6]int
	for _, c := range []api.Config{{Threads: 2, Slots: 5, Logs: 1, Buckets: 1}, {Threads: 3, Slots: 4, Logs: 2, Buckets: 2}, {Threads: 3, Slots: 20, Logs: 5, Buckets: 1}, {Threads: 6, Slots: 14, Logs: 1, Buckets: 3}} {
		l, m := ground(t, c)
		f := &field{l: l, m: m, begun: make([]int, c.Threads)}
		for i := range c.Threads {
			f.all = append(f.all, thread.New(l, i))
		}
		for range 5000 {
			who := draw(c.Threads)
			for n := draw(9); n >= 0; n-- {
				if _, busy := f.all[who].Op(); !busy {
					f.all[who].Invoke(drawn(draw))
					f.begun[who] = m.Clock()
				}
				f.goOn(t, who)
			}
			if draw(5) == 0 {
				m.Device().Evict(draw(l.Lines()))
				f.settles(t)
			}
			if t.Failed() {
				t.Fatalf("of %+v", c)
			}
		}
		for kind, n := range f.got {
			got[kind] += n
		}
	}
	for kind, n := range got {
		if (n < 200) != (kind == api.ResNone) {
			t.Errorf("%d results of the kind %d", n, kind)
		}
	}
}
