package world_test

import (
	"cmp"
	"slices"
	"testing"

	"limekiln/api"
	"limekiln/bits"
	"limekiln/free"
	"limekiln/model"
	"limekiln/retire"
	"limekiln/revive"
	"limekiln/view"
	"limekiln/world"
)

// drawing is a function that draws, always alike.
func drawing(seed uint64) func(n int) int {
	x := seed
	return func(n int) int {
		x = x*6364136223846793005 + 1442695040888963407
		return int(x >> 33 % uint64(n))
	}
}

// field is a world whose calls are held against the model.
type field struct {
	w      *world.World
	behind api.State // all calls ahead of the last crash
	from   int       // how many these are
	acts   [6]int    // how many acts had no error, by kinds
	got    [6]int    // how many results there were, by kinds
	kept   int       // how many calls broke off, and were kept
	mended int       // how many steps the recovery that is under way has taken
}

// do does an act, and fails if it is more than one access, or a bad one, or if what is there behind it is not what it should be.
func (f *field) do(t *testing.T, a api.Act) api.Errno {
	t.Helper()
	m := f.w.Memory()
	clock, calls, wasUp := m.Clock(), len(f.w.Calls()), f.w.Up()
	e := f.w.Do(a)
	accesses := 0
	if a.Kind == api.ActRevive || a.Kind == api.ActStep {
		accesses = 1
	}
	if e != api.OK {
		accesses = 0
	} else {
		f.acts[a.Kind]++
	}
	if m.Clock() != clock+accesses || m.Bad() != 0 { // 23.3, P4
		t.Errorf("%+v: %v, %d accesses, %d bad", a, e, m.Clock()-clock, m.Bad())
	}
	if !wasUp && f.w.Up() != wasUp && a.Kind != api.ActRevive || f.w.Corrupt() {
		t.Errorf("%+v: up %v, corrupt %v", a, f.w.Up(), f.w.Corrupt())
	}
	if !wasUp && len(f.w.Calls()) != calls {
		t.Errorf("%+v of one that is not up: %d calls more", a, len(f.w.Calls())-calls)
	}
	f.counts(t, a, e)
	return e
}

// counts counts the steps of recoveries.
func (f *field) counts(t *testing.T, a api.Act, e api.Errno) {
	t.Helper()
	switch {
	case a.Kind == api.ActCrash:
		f.mended = 0
	case a.Kind == api.ActRevive && e == api.OK:
		if f.mended++; f.mended > revive.Most(f.w.Layout().Config()) { // 22.2
			t.Errorf("a recovery of %d steps", f.mended)
		}
	}
}

// took are the calls behind the last crash that took place, by When: those under way, too, whose thread tells a Where.
func (f *field) took(t *testing.T) []api.Call {
	t.Helper()
	var all []api.Call
	for _, c := range f.w.Calls()[f.from:] {
		if x := f.w.Thread(c.Thread); !c.Crashed && c.End == api.None {
			if x.Where() == api.None {
				continue
			}
			c.When, c.Kept = x.When(), true
		}
		if c.Kept || !c.Crashed {
			all = append(all, c)
		}
		if (c.Kept || !c.Crashed) && c.When <= c.Begin || c.End != api.None && c.When > c.End {
			t.Errorf("%+v", c)
		}
	}
	slices.SortStableFunc(all, func(a, b api.Call) int { return cmp.Compare(a.When, b.When) })
	return all
}

// witness is the state behind all calls. It fails if one was told what the model does not allow. (P1)
func (f *field) witness(t *testing.T) api.State {
	t.Helper()
	s := f.behind
	for _, c := range f.took(t) {
		r := c.Result
		if c.Kept {
			if _, r = model.Apply(s, c.Op); r.Kind != api.ResOK {
				t.Errorf("%+v of %+v", c, s)
			}
		}
		next, is := model.Allows(s, c.Op, r)
		if !is {
			t.Errorf("%+v of %+v", c, s)
		}
		s = next
	}
	return s
}

// settles lets the witness go on from a crash on, behind which nothing is under way.
func (f *field) settles(t *testing.T) {
	t.Helper()
	s := f.witness(t)
	l := f.w.Calls()
	for _, c := range l[f.from:] {
		f.got[c.Result.Kind]++
		if c.Kept {
			f.kept++
		}
	}
	f.behind, f.from = s, len(l)
}

// holds fails if what is seen of one that is up, or what is kept of one that is down, is another state than that behind the witness. (P1, P2)
func (f *field) holds(t *testing.T) {
	t.Helper()
	words := f.w.Memory().Device().Kept()
	if f.w.Up() {
		words = f.w.Memory().Device().Seen()
	}
	s, e := view.State(f.w.Layout(), words)
	if want := f.witness(t); e != api.OK || !model.Same(s, want) {
		t.Errorf("up %v: %+v, %v, want %+v", f.w.Up(), s, e, want)
	}
}

// once fails if a slot of one that is up is not just one of: on a way, free, held, or in the log of the thread that took it away, on a way no more. (P3)
func (f *field) once(t *testing.T) {
	t.Helper()
	l, m := f.w.Layout(), f.w.Memory()
	all, is := free.List(l, m)
	places, _ := view.Places(l, m.Device().Seen())
	onWay := map[int]bool{}
	for _, p := range places {
		onWay[p.Slot] = true
		all = append(all, p.Slot)
	}
	for who := range l.Config().Threads {
		if s := f.w.Thread(who).Holds(); s != api.None {
			all = append(all, s)
		}
		for _, s := range retire.Slots(l, m, who) {
			if w, _ := m.Peek(l.Next(s)); bits.By(w) == who && !onWay[s] {
				all = append(all, s)
			}
		}
	}
	slices.Sort(all)
	is = is && len(all) == l.Config().Slots
	for i, s := range all {
		is = is && s == i
	}
	if !is {
		t.Errorf("the slots are %v", all)
	}
}

// clean fails if behind a recovery something is left of what was begun. (22.3, P3)
func (f *field) clean(t *testing.T) {
	t.Helper()
	l, m := f.w.Layout(), f.w.Memory()
	places, e := view.Places(l, m.Device().Seen())
	slots, is := free.List(l, m)
	for _, p := range places {
		is = is && p.Live
	}
	for who := range l.Config().Threads {
		is = is && retire.Slots(l, m, who) == nil
	}
	if !is || e != api.OK || len(places)+len(slots) != l.Config().Slots || !slices.Equal(m.Device().Seen(), m.Device().Kept()) {
		t.Errorf("behind a recovery: %v on ways, %v free", places, slots)
	}
}

// isHistory fails if the calls are not what a history's are, but those that are under way. (24.3)
func (f *field) isHistory(t *testing.T) {
	t.Helper()
	ended := make([]int, f.w.Layout().Config().Threads)
	begun := 0
	for _, c := range f.w.Calls() {
		is := c.Begin >= begun && c.Begin >= ended[c.Thread]
		switch {
		case c.Crashed && c.When == api.None:
			is = is && !c.Kept && c.End == api.None && c.Result == (api.Result{})
		case c.Crashed:
			is = is && c.When > c.Begin && c.End == api.None && c.Result == (api.Result{}) && !model.Looks(c.Op.Kind)
		case c.End == api.None:
			is = is && !c.Kept && c.When == api.None && c.Result == (api.Result{})
		default:
			is = is && !c.Kept && c.Begin < c.When && c.When <= c.End && c.Result.Kind != api.ResNone
			ended[c.Thread] = c.End
		}
		begun = c.Begin
		if !is {
			t.Errorf("%+v", c)
		}
	}
}

// plan says what a script is drawn of.
type plan struct {
	c       api.Config
	keys    uint32
	crashes int // one of how many acts is a crash
	evicts  int // one of how many acts is an eviction
	turns   int // for how many steps a thread goes on, at most
	acts    int
}

// draws is an operation.
func (p plan) draws(draw func(n int) int) api.Op {
	return api.Op{Kind: api.OpEnq + draw(8), Key: uint32(draw(int(p.keys))), Val: uint32(draw(1000))}
}

// runs does a script that ends by a crash, and holds what is there behind each act against what should be.
func runs(t *testing.T, p plan, seed uint64) *field {
	t.Helper()
	draw := drawing(seed)
	f := &field{w: over(t, wordsOf(t, p.c))}
	for n := 0; n < p.acts && !t.Failed(); n++ {
		wasUp := f.w.Up()
		switch {
		case draw(p.crashes) == 0:
			f.do(t, crash)
			f.settles(t)
		case draw(p.evicts) == 0:
			f.do(t, evict(draw(f.w.Layout().Lines())))
		case !wasUp:
			f.do(t, recovers)
			if f.w.Up() {
				f.clean(t)
			}
		default:
			who := draw(p.c.Threads)
			f.do(t, begins(who, p.draws(draw)))
			for range draw(p.turns) {
				f.do(t, goes(who))
			}
		}
		f.holds(t)
		if f.w.Up() {
			f.once(t)
		}
	}
	f.do(t, crash)
	f.settles(t)
	f.holds(t)
	f.isHistory(t)
	if t.Failed() {
		t.Fatalf("of %+v, by the seed %d", p, seed)
	}
	return f
}

func TestScripts(t *testing.T) { // 23.2, 23.3; P1 to P4
	t.Parallel()
	var kept int
	var acts, got [6]int
	for _, c := range []api.Config{{Threads: 1, Slots: 3, Logs: 1, Buckets: 1}, {Threads: 2, Slots: 4, Logs: 1, Buckets: 1}, {Threads: 2, Slots: 8, Logs: 2, Buckets: 2}, {Threads: 3, Slots: 6, Logs: 1, Buckets: 1}, {Threads: 4, Slots: 14, Logs: 3, Buckets: 3}} {
		for _, p := range []plan{{c, 3, 60, 9, 2, 6000}, {c, 5, 300, 4, 12, 4000}, {c, 4, 25, 60, 40, 4000}, {c, 2, 40, 3, 6, 4000}, {c, 3, 1000, 20, 3, 4000}} {
			f := runs(t, p, 7)
			kept += f.kept
			for i := range acts {
				acts[i] += f.acts[i]
				got[i] += f.got[i]
			}
		}
	}
	if kept < 50 || slices.Min(acts[1:]) < 500 || slices.Min(got[1:]) < 200 {
		t.Errorf("acts by kinds %v, results by kinds %v, %d broken off were kept", acts, got, kept)
	}
}

func TestCrashesWithinRecoveries(t *testing.T) { // P2: however often a recovery crashes
	t.Parallel()
	c := api.Config{Threads: 3, Slots: 8, Logs: 2, Buckets: 2}
	for seed := range uint64(40) {
		f := runs(t, plan{c, 4, 200, 12, 9, 300}, seed)
		words := f.w.Memory().Device().Kept()
		straight := over(t, words)
		most := rises(t, straight)
		want, _ := free.List(straight.Layout(), straight.Memory())
		draw := drawing(seed)
		for first := 0; first < most; first += 1 + draw(6) {
			g := &field{w: over(t, words), behind: f.behind}
			for _, steps := range []int{first, draw(most), draw(most)} {
				for range steps {
					g.do(t, recovers)
					g.holds(t)
					if draw(7) == 0 {
						g.do(t, evict(draw(g.w.Layout().Lines())))
						g.holds(t)
					}
				}
				g.do(t, crash)
				g.holds(t)
			}
			rises(t, g.w)
			g.holds(t)
			g.clean(t)
			if slots, is := free.List(g.w.Layout(), g.w.Memory()); !is || !slices.Equal(slots, want) {
				t.Errorf("broken off behind %d steps: %v are free, %v without that", first, slots, want)
			}
			if t.Failed() {
				t.Fatalf("by the seed %d", seed)
			}
		}
	}
}
