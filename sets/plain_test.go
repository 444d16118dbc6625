package sets_test

import (
	"slices"
	"testing"

	"limekiln/api"
	"limekiln/bits"
	"limekiln/free"
	"limekiln/layout"
	"limekiln/model"
	"limekiln/pmem"
	"limekiln/retire"
	"limekiln/sets"
)

// held is what a list holds by words: the pairs of its slots that were not taken away; of one that goes round, no more than there are slots.
func held(l *layout.Layout, words []uint64, head int) []api.Pair {
	var all []api.Pair
	at := head
	for range l.Config().Slots {
		s := bits.To(words[at])
		if s == api.None {
			break
		}
		at = l.Next(s)
		if bits.By(words[at]) == api.None {
			all = append(all, api.Pair{Key: uint32(words[l.Key(s)]), Val: uint32(words[l.Val(s)])})
		}
	}
	return all
}

// ofSet tells whether an operation is one of the set.
func ofSet(o api.Op) bool {
	return o.Kind <= api.OpHas
}

// stateOf is a state whose set, or map, is what a list holds.
func stateOf(all []api.Pair, set bool) api.State {
	if !set {
		return api.State{Map: all}
	}
	var s api.State
	for _, p := range all {
		s.Set = append(s.Set, p.Key)
	}
	return s
}

// alone lets a Work be alone, and fails if it answers something else than the model, leaves something else, or lets anything last but what was, or what is.
func alone(t *testing.T, l *layout.Layout, m *pmem.Mem, thread, head int, o api.Op) api.Result {
	t.Helper()
	seen := func() api.State { return stateOf(held(l, m.Device().Seen(), head), ofSet(o)) }
	kept := func() api.State { return stateOf(held(l, m.Device().Kept(), head), ofSet(o)) }
	before := seen()
	x := sets.New(l, thread, head, o)
	clock, bad, lasting := m.Clock(), m.Bad(), model.Same(kept(), before)
	for n := 1; !x.Step(m); n++ {
		if m.Clock() != clock+n || m.Last().Thread != thread || n > 1000 {
			t.Fatalf("%+v: %d accesses in %d steps, the last one %+v", o, m.Clock()-clock, n, m.Last())
		}
		if want, _ := model.Apply(before, o); lasting && !model.Same(kept(), before) && !model.Same(kept(), want) {
			t.Errorf("%+v: amid it %+v is kept", o, kept())
		}
	}
	want, is := model.Allows(before, o, x.Result())
	if !is || m.Bad() != bad {
		t.Errorf("%+v of %+v: %+v; %d bad accesses", o, before, x.Result(), m.Bad()-bad)
	}
	if !model.Same(seen(), want) || lasting && !model.Same(kept(), want) {
		t.Errorf("%+v of %+v leaves %+v, and %+v is kept, want %+v", o, before, seen(), kept(), want)
	}
	told(t, x, m, clock)
	return x.Result()
}

// told fails if what a Work that is done tells is not of its result, or not of the time since it began.
func told(t *testing.T, x *sets.Work, m *pmem.Mem, begun int) {
	ok := x.Result().Kind == api.ResOK
	if x.When() <= begun || x.When() > m.Clock() || ok != (x.Where() != api.None) || x.Holds() != api.None {
		t.Errorf("%+v, from %d to %d: When() = %d, Where() = %d, Holds() = %d", x.Result(), begun, m.Clock(), x.When(), x.Where(), x.Holds())
	}
	if ok && m.Writes(x.Where()) <= x.Writes() || !ok && x.Writes() != 0 {
		t.Errorf("%+v: Writes() = %d, and %d by now", x.Result(), x.Writes(), m.Writes(x.Where()))
	}
}

// empty tells whether no slot is free, and fuller whether a log is full.
func empty(l *layout.Layout, m *pmem.Mem) bool {
	slots, _ := free.List(l, m)
	return len(slots) == 0
}

func fuller(l *layout.Layout, m *pmem.Mem, thread int) bool {
	return len(retire.Slots(l, m, thread)) == l.Config().Logs
}

// ops are the operations of a kind of list, of a key each.
func ops(set bool, keys ...uint32) []api.Op {
	kinds := []int{api.OpPut, api.OpGet, api.OpCut}
	if set {
		kinds = []int{api.OpAdd, api.OpDel, api.OpHas}
	}
	var all []api.Op
	for _, kind := range kinds {
		for _, key := range keys {
			all = append(all, api.Op{Kind: kind, Key: key, Val: key + 100})
		}
	}
	return all
}

func TestAllListsOfUpToThree(t *testing.T) { // 15.3: alone, of any of the slots taken away, and any of the links dirty
	slots := []int{2, 4, 0}
	for n := range 4 {
		for mix := range 1 << (2*n + 3) {
			taken, soiled, none, stuck := mix&(1<<n-1), mix>>n&(1<<(n+1)-1), mix>>(2*n+1)&1 == 1, mix>>(2*n+2)&1 == 1
			for _, o := range append(ops(true, 0, 1, 2, 3, 4, 5, 6), ops(false, 0, 1, 2, 3, 4, 5, 6)...) {
				l, m := ground(t, 2, 6, 1)
				var nodes []node
				for i, s := range slots[:n] {
					nodes = append(nodes, node{s, uint64(2*i + 1), uint64(i + 50), taken>>i&1 - 1})
				}
				lay(l, m, l.Set(), nodes...)
				for i := range n + 1 {
					if at := append([]int{l.Set(), l.Next(2), l.Next(4), l.Next(0)}, 0)[i]; soiled>>i&1 == 1 {
						w, _ := m.Peek(at)
						m.Store(0, at, bits.Soil(w))
					}
				}
				if !none {
					open(l, m, 1, 5)
				}
				if stuck {
					m.Store(0, l.Log(1, 0), bits.Entry(3, 7))
				}
				r := alone(t, l, m, 1, l.Set(), o)
				adds := o.Kind == api.OpAdd || o.Kind == api.OpPut
				if r == full && (adds && !none || !adds && !stuck) {
					t.Errorf("%+v: %+v", o, r)
				}
				if t.Failed() {
					t.Fatalf("of %d slots, %b taken away, %b dirty, none free %v, the log full %v", n, taken, soiled, none, stuck)
				}
			}
		}
	}
}

func TestManyAlone(t *testing.T) { // 15.3: at two lists, till slots, and places of logs, are few
	x := uint64(1)
	draw := func(n int) int {
		x = x*6364136223846793005 + 1442695040888963407
		return int(x >> 33 % uint64(n))
	}
	for _, slots := range []int{1, 3, 7} {
		for _, logs := range []int{1, 2, 9} {
			l, m := ground(t, 3, slots, logs)
			open(l, m, []int{0, 1, 2, 3, 4, 5, 6}[:slots]...)
			var seen [6]int
			for range 2000 {
				set := draw(2) == 0
				all := ops(set, 3, 9, 1<<32-1, 0, 4)
				o := all[draw(len(all))]
				o.Val = uint32(draw(4))
				head, thread := l.Bucket(1), draw(3)
				if set {
					head = l.Set()
				}
				r := alone(t, l, m, thread, head, o)
				seen[r.Kind]++
				if r == full {
					adds := o.Kind == api.OpAdd || o.Kind == api.OpPut
					if adds && !empty(l, m) || !adds && !fuller(l, m, thread) {
						t.Errorf("%+v: %+v", o, r)
					}
				}
				if t.Failed() {
					t.Fatalf("of %d slots, and logs of %d", slots, logs)
				}
			}
			if seen[api.ResOK] < 50 || seen[api.ResGone] < 100 || seen[api.ResThere] < 50 || seen[api.ResFull] < 50 {
				t.Errorf("of %d slots, and logs of %d: %v", slots, logs, seen)
			}
		}
	}
}

func TestKeysOfAllSizes(t *testing.T) { // 15.3: one behind the other, in any order
	keys := []uint32{0, 1, 1 << 31, 1<<31 - 1, 1<<32 - 1, 1<<32 - 2, 77}
	for turn := range keys {
		l, m := ground(t, 1, len(keys), 2)
		open(l, m, 6, 5, 4, 3, 2, 1, 0)
		var want []uint32
		for i := range keys {
			key := keys[(i*3+turn)%len(keys)]
			if r := alone(t, l, m, 0, l.Set(), api.Op{Kind: api.OpAdd, Key: key}); r != ok {
				t.Errorf("%d: %+v", key, r)
			}
			want = append(want, key)
		}
		slices.Sort(want)
		if got := stateOf(held(l, m.Device().Kept(), l.Set()), true).Set; !slices.Equal(got, want) {
			t.Errorf("the list holds %v, want %v", got, want)
		}
	}
}
