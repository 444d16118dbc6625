package world_test

import (
	"testing"

	"limekiln/api"
	"limekiln/model"
	"limekiln/view"
	"limekiln/world"
)

// full is a world that is up, of two values, two keys and two pairs, by operations of the thread 0.
func full(t *testing.T) *world.World {
	t.Helper()
	w := grown(t, api.Config{Threads: 3, Slots: 9, Logs: 2, Buckets: 1})
	for _, o := range []api.Op{{Kind: api.OpEnq, Val: 5}, {Kind: api.OpEnq, Val: 6}, {Kind: api.OpAdd, Key: 2}, {Kind: api.OpAdd, Key: 4}, {Kind: api.OpPut, Key: 2, Val: 7}, {Kind: api.OpPut, Key: 4, Val: 8}} {
		acts(t, w, begins(0, o))
		answers(t, w, 0)
	}
	return w
}

// ops are operations of all kinds, at keys that are there, and at others.
func ops() []api.Op {
	var all []api.Op
	for kind := api.OpEnq; kind <= api.OpCut; kind++ {
		for key := range uint32(6) {
			all = append(all, api.Op{Kind: kind, Key: key, Val: key + 90})
		}
	}
	return all
}

// keptBy is what is kept.
func keptBy(t *testing.T, w *world.World) api.State {
	t.Helper()
	s, e := view.State(w.Layout(), w.Memory().Device().Kept())
	if e != api.OK {
		t.Errorf("what is kept is no store's")
	}
	return s
}

// lastCall is the call that began last.
func lastCall(w *world.World) api.Call {
	l := w.Calls()
	return l[len(l)-1]
}

func TestCallsStepByStep(t *testing.T) { // 23.2
	for _, o := range ops() {
		w := full(t)
		before := keptBy(t, w)
		want := api.Call{Thread: 1, Op: o, Begin: w.Memory().Clock(), End: api.None, When: api.None}
		acts(t, w, begins(1, o))
		many := len(w.Calls())
		x := w.Thread(1)
		for n := 0; lastCall(w).End == api.None && n < 200; n++ {
			if lastCall(w) != want {
				t.Errorf("behind %d steps: %+v, want %+v", n, lastCall(w), want)
			}
			r, when, clock := x.Result(), x.When(), w.Memory().Clock()
			acts(t, w, goes(1))
			if a := w.Memory().Last(); a.Thread != 1 || w.Memory().Clock() != clock+1 {
				t.Errorf("behind %d steps: %+v, %d accesses", n, a, w.Memory().Clock()-clock)
			}
			if _, under := x.Op(); !under { // its answer was taken, by the step that goes out
				want.Result, want.When, want.End = r, when, clock+1
			}
		}
		if c := lastCall(w); c != want || want.Result.Kind == api.ResNone || want.When <= want.Begin || want.When > want.End || len(w.Calls()) != many {
			t.Errorf("%+v, want %+v; %d calls", c, want, len(w.Calls()))
		}
		after, is := model.Allows(before, o, want.Result)
		if !is || !model.Same(keptBy(t, w), after) {
			t.Errorf("%+v: %+v, and %+v is kept, want %+v", o, want.Result, keptBy(t, w), after)
		}
		acts(t, w, crash) // which breaks off nothing
		if c := lastCall(w); c != want {
			t.Errorf("behind a crash: %+v, want %+v", c, want)
		}
	}
}

// writesBack lets lines be written back behind a step: none, all, that of the Where, all but that.
func writesBack(w *world.World, way int) {
	where := w.Thread(1).Where()
	for n := range w.Layout().Lines() {
		if here := where != api.None && n == where/api.LineWords; way == 1 || way == 2 && here || way == 3 && !here {
			w.Do(evict(n))
		}
	}
}

func TestCrashAtEachStep(t *testing.T) { // 23.2
	var kept, lost, idle int
	for _, o := range ops() {
		for way := range 4 {
			for breaks, over := 0, false; !over && breaks < 200; breaks++ {
				w := full(t)
				before := keptBy(t, w)
				acts(t, w, begins(2, api.Op{Kind: api.OpHas}), goes(2), begins(1, o))
				for range breaks {
					over = over || w.Do(goes(1)) != api.OK
					writesBack(w, way)
				}
				want := lastCall(w)
				if x := w.Thread(1); want.End == api.None {
					want.Crashed = true
					if x.Where() != api.None {
						want.When, want.Kept = x.When(), w.Memory().Writes(x.Where()) > x.Writes()
					}
				}
				acts(t, w, crash)
				l := w.Calls()
				if c := lastCall(w); c != want {
					t.Errorf("%+v behind %d steps: %+v, want %+v", o, breaks, c, want)
				}
				if c := l[len(l)-2]; !c.Crashed || c.Kept || c.When != api.None || c.End != api.None || c.Result != (api.Result{}) {
					t.Errorf("the other one: %+v", c)
				}
				for _, c := range l[:len(l)-2] {
					if c.Crashed || c.End == api.None {
						t.Errorf("one that had answered: %+v", c)
					}
				}
				after, r := model.Apply(before, o)
				switch {
				case want.Kept:
					kept++
				case want.Crashed && want.When != api.None:
					after = before
					lost++
				case want.Crashed:
					after = before
					idle++
				}
				if want.Kept && r.Kind != api.ResOK || !model.Same(keptBy(t, w), after) {
					t.Errorf("%+v behind %d steps, the way %d: %+v, and %+v is kept, want %+v", o, breaks, way, want, keptBy(t, w), after)
				}
				for who := range 3 {
					if _, is := w.Thread(who).Op(); is || w.Thread(who).Answered() {
						t.Errorf("the thread %d is not idle", who)
					}
				}
				rises(t, w)
				if !model.Same(keptBy(t, w), after) {
					t.Errorf("%+v behind %d steps, and a recovery: %+v, want %+v", o, breaks, keptBy(t, w), after)
				}
			}
		}
	}
	if kept < 200 || lost < 50 || idle < 500 {
		t.Errorf("%d were kept, %d lost, %d had done nothing yet", kept, lost, idle)
	}
}

func TestCrashOfOneThatWasHelped(t *testing.T) { // 23.2: another one lets its link last
	for _, o := range []api.Op{{Kind: api.OpDeq}, {Kind: api.OpEnq, Val: 3}, {Kind: api.OpAdd, Key: 9}, {Kind: api.OpCut, Key: 4}} {
		w := full(t)
		before := keptBy(t, w)
		acts(t, w, begins(1, o))
		for w.Thread(1).Where() == api.None {
			acts(t, w, goes(1))
		}
		begin := lastCall(w)
		o2 := o
		o2.Val = 80
		acts(t, w, begins(2, o2))
		answers(t, w, 2)
		when := w.Thread(1).When()
		acts(t, w, crash)
		l := w.Calls()
		begin.Crashed, begin.Kept, begin.When = true, true, when
		if c := l[len(l)-2]; c != begin {
			t.Errorf("%+v, want %+v", c, begin)
		}
		after, _ := model.Apply(before, o)
		after, r := model.Apply(after, o2)
		if c := lastCall(w); c.Result != r || !model.Same(keptBy(t, w), after) {
			t.Errorf("%+v, want %+v; %+v is kept, want %+v", c, r, keptBy(t, w), after)
		}
	}
}
