package model_test

import (
	"math"
	"slices"
	"testing"

	"limekiln/api"
	"limekiln/model"
)

// some is a state that has something of each part.
func some() api.State {
	return api.State{
		Queue: []uint32{5, 6, 5},
		Set:   []uint32{0, 2, 9, math.MaxUint32},
		Map:   []api.Pair{{Key: 0, Val: 1}, {Key: 4, Val: 0}, {Key: math.MaxUint32, Val: 8}},
	}
}

// copied is a state that shares nothing.
func copied(s api.State) api.State {
	return api.State{Queue: slices.Clone(s.Queue), Set: slices.Clone(s.Set), Map: slices.Clone(s.Map)}
}

// alike holds states against each other part by part.
func alike(a, b api.State) bool {
	return slices.Equal(a.Queue, b.Queue) && slices.Equal(a.Set, b.Set) && slices.Equal(a.Map, b.Map)
}

// no are kinds of which there is no operation.
func no() []int {
	return []int{math.MinInt, -1, 0, 9, 10, 257, 1<<32 + 1, math.MaxInt}
}

func TestRight(t *testing.T) { // 8.1
	for i, x := range []struct {
		s    api.State
		want bool
	}{
		{api.State{}, true},
		{some(), true},
		{api.State{Queue: []uint32{9, 1, 1}}, true}, // a queue need not rise
		{api.State{Set: []uint32{0}}, true},
		{api.State{Set: []uint32{0, math.MaxUint32}}, true},
		{api.State{Set: []uint32{2, 2}}, false},
		{api.State{Set: []uint32{3, 2}}, false},
		{api.State{Set: []uint32{1, 2, 3, 3}}, false},
		{api.State{Set: []uint32{1, 0, 3, 4}}, false},
		{api.State{Set: []uint32{math.MaxUint32, 0}}, false},
		{api.State{Map: []api.Pair{{Key: 1, Val: 9}, {Key: 2, Val: 3}}}, true}, // nor what keys have
		{api.State{Map: []api.Pair{{Key: 1, Val: 3}, {Key: 1, Val: 9}}}, false},
		{api.State{Map: []api.Pair{{Key: 2, Val: 3}, {Key: 1, Val: 9}}}, false},
		{api.State{Map: []api.Pair{{Key: 1}, {Key: 2}, {Key: 2}}}, false},
		{api.State{Set: []uint32{1}, Map: []api.Pair{{Key: 2}, {Key: 1}}}, false},
		{api.State{Set: []uint32{2, 1}, Map: []api.Pair{{Key: 1}}}, false},
	} {
		if got := model.Right(x.s); got != x.want {
			t.Errorf("state %d: Right(%v) = %v", i, x.s, got)
		}
	}
}

func TestKindAndLooks(t *testing.T) { // 8.1
	for k := api.OpEnq; k <= api.OpCut; k++ {
		if !model.Kind(k) {
			t.Errorf("Kind(%d) is false", k)
		}
		if got := model.Looks(k); got != (k == api.OpHas || k == api.OpGet) {
			t.Errorf("Looks(%d) = %v", k, got)
		}
	}
	for _, k := range no() {
		if model.Kind(k) || model.Looks(k) {
			t.Errorf("Kind(%d), Looks(%d) = %v, %v", k, k, model.Kind(k), model.Looks(k))
		}
	}
}

// applied is an operation, its result, and what is changed by it in some().
type applied struct {
	o      api.Op
	want   api.Result
	change func(s *api.State)
}

// nothing leaves a state as it is.
func nothing(*api.State) {}

// queueAndSet are operations on some()'s queue and set.
func queueAndSet() []applied {
	ok, there, gone := api.Result{Kind: api.ResOK}, api.Result{Kind: api.ResThere}, api.Result{Kind: api.ResGone}
	set := func(l ...uint32) func(s *api.State) {
		return func(s *api.State) { s.Set = l }
	}
	const top = math.MaxUint32
	return []applied{
		{api.Op{Kind: api.OpEnq, Key: 3, Val: 7}, ok, func(s *api.State) { s.Queue = []uint32{5, 6, 5, 7} }},
		{api.Op{Kind: api.OpEnq}, ok, func(s *api.State) { s.Queue = []uint32{5, 6, 5, 0} }},
		{api.Op{Kind: api.OpDeq, Key: 3, Val: 7}, api.Result{Kind: api.ResOK, Val: 5}, func(s *api.State) { s.Queue = []uint32{6, 5} }},
		{api.Op{Kind: api.OpAdd, Key: 1, Val: 7}, ok, set(0, 1, 2, 9, top)},
		{api.Op{Kind: api.OpAdd, Key: 10}, ok, set(0, 2, 9, 10, top)},
		{api.Op{Kind: api.OpAdd, Key: top - 1}, ok, set(0, 2, 9, top-1, top)},
		{api.Op{Kind: api.OpAdd, Key: 0, Val: 7}, there, nothing},
		{api.Op{Kind: api.OpAdd, Key: 9}, there, nothing},
		{api.Op{Kind: api.OpAdd, Key: top}, there, nothing},
		{api.Op{Kind: api.OpDel, Key: 0, Val: 7}, ok, set(2, 9, top)},
		{api.Op{Kind: api.OpDel, Key: 9}, ok, set(0, 2, top)},
		{api.Op{Kind: api.OpDel, Key: top}, ok, set(0, 2, 9)},
		{api.Op{Kind: api.OpDel, Key: 1, Val: 7}, gone, nothing},
		{api.Op{Kind: api.OpDel, Key: 4}, gone, nothing}, // it is in the map alone
		{api.Op{Kind: api.OpHas, Key: 2, Val: 7}, there, nothing},
		{api.Op{Kind: api.OpHas, Key: top}, there, nothing},
		{api.Op{Kind: api.OpHas, Key: 3, Val: 7}, gone, nothing},
		{api.Op{Kind: api.OpHas, Key: 4}, gone, nothing},
	}
}

// ofTheMap are operations on some()'s map.
func ofTheMap() []applied {
	ok, gone := api.Result{Kind: api.ResOK}, api.Result{Kind: api.ResGone}
	pairs := func(l ...api.Pair) func(s *api.State) {
		return func(s *api.State) { s.Map = l }
	}
	const top = math.MaxUint32
	first, second, third := api.Pair{Key: 0, Val: 1}, api.Pair{Key: 4, Val: 0}, api.Pair{Key: top, Val: 8}
	return []applied{
		{api.Op{Kind: api.OpPut, Key: 2, Val: 7}, ok, pairs(first, api.Pair{Key: 2, Val: 7}, second, third)},
		{api.Op{Kind: api.OpPut, Key: 5}, ok, pairs(first, second, api.Pair{Key: 5}, third)},
		{api.Op{Kind: api.OpPut, Key: 0, Val: 7}, api.Result{Kind: api.ResThere, Val: 1}, nothing},
		{api.Op{Kind: api.OpPut, Key: 4, Val: 7}, api.Result{Kind: api.ResThere}, nothing},
		{api.Op{Kind: api.OpPut, Key: top, Val: 8}, api.Result{Kind: api.ResThere, Val: 8}, nothing},
		{api.Op{Kind: api.OpGet, Key: 0, Val: 7}, api.Result{Kind: api.ResThere, Val: 1}, nothing},
		{api.Op{Kind: api.OpGet, Key: 4, Val: 7}, api.Result{Kind: api.ResThere}, nothing},
		{api.Op{Kind: api.OpGet, Key: top}, api.Result{Kind: api.ResThere, Val: 8}, nothing},
		{api.Op{Kind: api.OpGet, Key: 9, Val: 7}, gone, nothing}, // it is in the set alone
		{api.Op{Kind: api.OpCut, Key: 0, Val: 7}, api.Result{Kind: api.ResOK, Val: 1}, pairs(second, third)},
		{api.Op{Kind: api.OpCut, Key: 4, Val: 7}, ok, pairs(first, third)},
		{api.Op{Kind: api.OpCut, Key: top}, api.Result{Kind: api.ResOK, Val: 8}, pairs(first, second)},
		{api.Op{Kind: api.OpCut, Key: 9, Val: 7}, gone, nothing},
	}
}

func TestApply(t *testing.T) { // 8.1
	for _, x := range append(queueAndSet(), ofTheMap()...) {
		want := some()
		x.change(&want)
		got, r := model.Apply(some(), x.o)
		if !alike(got, want) || r != x.want {
			t.Errorf("Apply(_, %v) = %v, %v, want %v, %v", x.o, got, r, want, x.want)
		}
	}
}

func TestApplyToNothing(t *testing.T) { // 8.1
	for kind, want := range map[int]struct {
		s api.State
		r int
	}{
		api.OpEnq: {api.State{Queue: []uint32{7}}, api.ResOK},
		api.OpDeq: {api.State{}, api.ResEmpty},
		api.OpAdd: {api.State{Set: []uint32{3}}, api.ResOK},
		api.OpDel: {api.State{}, api.ResGone},
		api.OpHas: {api.State{}, api.ResGone},
		api.OpPut: {api.State{Map: []api.Pair{{Key: 3, Val: 7}}}, api.ResOK},
		api.OpGet: {api.State{}, api.ResGone},
		api.OpCut: {api.State{}, api.ResGone},
	} {
		for _, s := range []api.State{{}, {Queue: []uint32{}, Set: []uint32{}, Map: []api.Pair{}}} {
			got, r := model.Apply(s, api.Op{Kind: kind, Key: 3, Val: 7})
			if !alike(got, want.s) || r != (api.Result{Kind: want.r}) {
				t.Errorf("operation %d: %v, %v", kind, got, r)
			}
		}
	}
}

func TestApplyOfNoOperation(t *testing.T) { // 8.1
	for _, k := range no() {
		got, r := model.Apply(some(), api.Op{Kind: k, Key: 2, Val: 7})
		if !alike(got, some()) || r != (api.Result{}) {
			t.Errorf("operation %d: %v, %v", k, got, r)
		}
	}
}

func TestApplyToStatesThatMayNotBe(t *testing.T) { // 8.1, R1
	s := api.State{Set: []uint32{7, 3, 7, 1}, Map: []api.Pair{{Key: 7, Val: 1}, {Key: 3, Val: 2}, {Key: 7, Val: 5}}}
	for i, x := range []struct {
		o    api.Op
		want api.Result
	}{
		{api.Op{Kind: api.OpHas, Key: 1}, api.Result{Kind: api.ResThere}},
		{api.Op{Kind: api.OpAdd, Key: 3}, api.Result{Kind: api.ResThere}},
		{api.Op{Kind: api.OpDel, Key: 7}, api.Result{Kind: api.ResOK}},
		{api.Op{Kind: api.OpHas, Key: 7}, api.Result{Kind: api.ResGone}},
		{api.Op{Kind: api.OpDel, Key: 2}, api.Result{Kind: api.ResGone}},
		{api.Op{Kind: api.OpGet, Key: 3}, api.Result{Kind: api.ResThere, Val: 2}},
		{api.Op{Kind: api.OpPut, Key: 3, Val: 9}, api.Result{Kind: api.ResThere, Val: 2}},
		{api.Op{Kind: api.OpPut, Key: 5, Val: 9}, api.Result{Kind: api.ResOK}},
		{api.Op{Kind: api.OpGet, Key: 5}, api.Result{Kind: api.ResThere, Val: 9}},
		{api.Op{Kind: api.OpCut, Key: 7}, api.Result{Kind: api.ResOK, Val: 1}},
		{api.Op{Kind: api.OpGet, Key: 7}, api.Result{Kind: api.ResGone}},
	} {
		next, r := model.Apply(s, x.o)
		if r != x.want {
			t.Errorf("operation %d: %v, want %v", i, r, x.want)
		}
		s = next
	}
}

func TestExample(t *testing.T) { // the chapter's example
	s, r := model.Run(api.State{}, []api.Op{{Kind: api.OpPut, Key: 3, Val: 7}, {Kind: api.OpPut, Key: 3, Val: 8}, {Kind: api.OpCut, Key: 3}})
	want := []api.Result{{Kind: api.ResOK}, {Kind: api.ResThere, Val: 7}, {Kind: api.ResOK, Val: 7}}
	if !alike(s, api.State{}) || !slices.Equal(r, want) {
		t.Errorf("%v, %v", s, r)
	}
}

// results are all kinds of results, those that there are not too, each with some values.
func results() []api.Result {
	var l []api.Result
	for _, k := range []int{math.MinInt, -1, 0, 1, 2, 3, 4, 5, 6, math.MaxInt} {
		for _, v := range []uint32{0, 1, 5, 8, math.MaxUint32} {
			l = append(l, api.Result{Kind: k, Val: v})
		}
	}
	return l
}

func TestAllows(t *testing.T) { // 8.2
	full := api.Result{Kind: api.ResFull}
	for _, x := range append(queueAndSet(), ofTheMap()...) {
		behind := some()
		x.change(&behind)
		for _, r := range results() {
			want, is := some(), r == full
			if r == x.want {
				want, is = behind, true
			}
			if got, may := model.Allows(some(), x.o, r); may != is || !alike(got, want) {
				t.Errorf("Allows(_, %v, %v) = %v, %v, want %v, %v", x.o, r, got, may, want, is)
			}
		}
	}
}

func TestAllowsOfNoOperation(t *testing.T) { // 8.2: nothing is the result of an operation that there is not
	for _, s := range []api.State{{}, some()} {
		for _, k := range no() {
			for _, r := range results() {
				got, may := model.Allows(s, api.Op{Kind: k, Key: 2}, r)
				if may || !alike(got, s) {
					t.Errorf("Allows(%v, %d, %v) = %v, %v", s, k, r, got, may)
				}
			}
		}
	}
}

func TestAllowsNoResult(t *testing.T) { // 8.2: an operation that there is has a result
	for k := api.OpEnq; k <= api.OpCut; k++ {
		for _, s := range []api.State{{}, some()} {
			if got, may := model.Allows(s, api.Op{Kind: k, Key: 2}, api.Result{}); may || !alike(got, s) {
				t.Errorf("Allows(%v, %d, none) = %v, %v", s, k, got, may)
			}
		}
	}
}

func TestRun(t *testing.T) { // 8.3
	l := []api.Op{{Kind: api.OpDeq}, {Kind: 9}, {Kind: api.OpAdd, Key: 1}, {Kind: api.OpAdd, Key: 1}, {Kind: api.OpCut, Key: 4}, {Kind: api.OpEnq, Val: 3}}
	want := []api.Result{{Kind: api.ResOK, Val: 5}, {}, {Kind: api.ResOK}, {Kind: api.ResThere}, {Kind: api.ResOK}, {Kind: api.ResOK}}
	behind := api.State{Queue: []uint32{6, 5, 3}, Set: []uint32{0, 1, 2, 9, math.MaxUint32}, Map: []api.Pair{{Key: 0, Val: 1}, {Key: math.MaxUint32, Val: 8}}}
	s, r := model.Run(some(), l)
	if !alike(s, behind) || !slices.Equal(r, want) {
		t.Errorf("Run = %v, %v, want %v, %v", s, r, behind, want)
	}
	for _, none := range [][]api.Op{nil, {}} {
		if s, r := model.Run(some(), none); !alike(s, some()) || len(r) != 0 {
			t.Errorf("Run of nothing = %v, %v", s, r)
		}
	}
}

func TestSame(t *testing.T) { // 8.3
	states := []api.State{
		{},
		some(),
		{Queue: []uint32{1, 2}},
		{Queue: []uint32{2, 1}},
		{Queue: []uint32{1, 2, 2}},
		{Queue: []uint32{0}},
		{Set: []uint32{1, 2}},
		{Set: []uint32{1}},
		{Set: []uint32{2, 1}},
		{Set: []uint32{0}},
		{Map: []api.Pair{{Key: 1, Val: 2}}},
		{Map: []api.Pair{{Key: 1, Val: 3}}},
		{Map: []api.Pair{{Key: 2, Val: 2}}},
		{Map: []api.Pair{{Key: 1, Val: 2}, {Key: 2, Val: 2}}},
		{Map: []api.Pair{{}}},
	}
	for i, a := range states {
		for k, b := range states {
			if got := model.Same(a, copied(b)); got != (i == k) {
				t.Errorf("Same(%v, %v) = %v", a, b, got)
			}
		}
	}
	empty := api.State{Queue: []uint32{}, Set: []uint32{}, Map: []api.Pair{}}
	if !model.Same(api.State{}, empty) || !model.Same(empty, api.State{}) {
		t.Errorf("nil lists and empty ones are unlike")
	}
}

func TestTakes(t *testing.T) { // 8.3
	for _, x := range []struct {
		s    api.State
		want int
	}{
		{api.State{}, 1},
		{some(), 11},
		{api.State{Queue: []uint32{3, 3}}, 3},
		{api.State{Set: []uint32{3}}, 2},
		{api.State{Map: []api.Pair{{Key: 1}, {Key: 2}, {Key: 3}}}, 4},
	} {
		if got := model.Takes(x.s); got != x.want {
			t.Errorf("Takes(%v) = %d, want %d", x.s, got, x.want)
		}
	}
}

// spoil changes all of a state that can be changed in its place, and behind its end.
func spoil(s api.State) {
	for _, l := range [][]uint32{s.Queue, s.Set} {
		for i := range l {
			l[i] ^= 0xffff
		}
		_ = append(l, 1, 2, 3)
	}
	for i := range s.Map {
		s.Map[i] = api.Pair{Key: 77, Val: 78}
	}
	_ = append(s.Map, api.Pair{Key: 1, Val: 2})
}

// roomy is some(), each list with room behind it, in which a careless append would write.
func roomy() (api.State, api.State) {
	s := some()
	whole := api.State{Queue: append(s.Queue, 90, 91), Set: append(s.Set, 92, 93), Map: append(s.Map, api.Pair{Key: 94}, api.Pair{Key: 95})}
	return api.State{Queue: whole.Queue[:3], Set: whole.Set[:4], Map: whole.Map[:3]}, whole
}

func TestNothingIsSharedOrChanged(t *testing.T) { // R3
	for _, x := range append(append(queueAndSet(), ofTheMap()...), applied{o: api.Op{Kind: 9}}) {
		calls := []func(s api.State) api.State{
			func(s api.State) api.State { next, _ := model.Apply(s, x.o); return next },
			func(s api.State) api.State { next, _ := model.Allows(s, x.o, x.want); return next },
			func(s api.State) api.State {
				next, _ := model.Allows(s, x.o, api.Result{Kind: api.ResFull})
				return next
			},
			func(s api.State) api.State { next, _ := model.Allows(s, x.o, api.Result{Kind: 99}); return next },
			func(s api.State) api.State { next, _ := model.Run(s, []api.Op{x.o, x.o}); return next },
			func(s api.State) api.State { next, _ := model.Run(s, nil); return next },
		}
		for i, call := range calls {
			s, whole := roomy()
			was := copied(whole)
			got := call(s)
			if !alike(whole, was) {
				t.Errorf("call %d of %v changed what was handed in", i, x.o)
			}
			kept := copied(got)
			spoil(whole)
			if !alike(got, kept) {
				t.Errorf("call %d of %v: what was answered hangs on what was handed in", i, x.o)
			}
			spoiled := copied(whole)
			spoil(got)
			if !alike(whole, spoiled) {
				t.Errorf("call %d of %v: what was handed in hangs on what was answered", i, x.o)
			}
		}
	}
}

func TestRunDoesNotChangeItsOperations(t *testing.T) { // R3
	l := []api.Op{{Kind: api.OpDeq}, {Kind: api.OpAdd, Key: 1}, {Kind: 9}}
	was := slices.Clone(l)
	model.Run(some(), l)
	if !slices.Equal(l, was) {
		t.Errorf("the operations are %v", l)
	}
}
