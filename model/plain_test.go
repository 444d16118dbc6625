package model_test

import (
	"maps"
	"slices"
	"testing"

	"limekiln/api"
	"limekiln/model"
)

// plain is what a store means by the document's words alone, in maps. It is what the package's model is held against.
type plain struct {
	queue []uint32
	set   map[uint32]bool
	pairs map[uint32]uint32
}

func (p *plain) do(o api.Op) api.Result {
	val, has := p.pairs[o.Key]
	switch {
	case o.Kind == api.OpEnq:
		p.queue = append(p.queue, o.Val)
		return api.Result{Kind: api.ResOK}
	case o.Kind == api.OpDeq && len(p.queue) == 0:
		return api.Result{Kind: api.ResEmpty}
	case o.Kind == api.OpDeq:
		first := p.queue[0]
		p.queue = p.queue[1:]
		return api.Result{Kind: api.ResOK, Val: first}
	case o.Kind == api.OpAdd && p.set[o.Key]:
		return api.Result{Kind: api.ResThere}
	case o.Kind == api.OpAdd:
		p.set[o.Key] = true
		return api.Result{Kind: api.ResOK}
	case o.Kind == api.OpDel && p.set[o.Key]:
		delete(p.set, o.Key)
		return api.Result{Kind: api.ResOK}
	case o.Kind == api.OpHas && p.set[o.Key]:
		return api.Result{Kind: api.ResThere}
	case (o.Kind == api.OpPut || o.Kind == api.OpGet) && has:
		return api.Result{Kind: api.ResThere, Val: val}
	case o.Kind == api.OpPut:
		p.pairs[o.Key] = o.Val
		return api.Result{Kind: api.ResOK}
	case o.Kind == api.OpCut && has:
		delete(p.pairs, o.Key)
		return api.Result{Kind: api.ResOK, Val: val}
	case o.Kind < api.OpEnq || o.Kind > api.OpCut:
		return api.Result{}
	}
	return api.Result{Kind: api.ResGone}
}

func (p *plain) state() api.State {
	s := api.State{Queue: p.queue, Set: slices.Sorted(maps.Keys(p.set))}
	for _, k := range slices.Sorted(maps.Keys(p.pairs)) {
		s.Map = append(s.Map, api.Pair{Key: k, Val: p.pairs[k]})
	}
	return s
}

// mixed are n operations without a rule that is to be seen, the same each time, on so many keys.
func mixed(n int, keys uint64) []api.Op {
	var l []api.Op
	x := uint64(1)
	for range n {
		x = x*6364136223846793005 + 1442695040888963407
		y := x ^ x>>29
		l = append(l, api.Op{Kind: int(y % 10), Key: uint32(y >> 8 % keys), Val: uint32(y >> 40 % 5)})
	}
	return l
}

func TestModelDoesWhatAPlainOneDoes(t *testing.T) { // 8.1 to 8.4
	for _, keys := range []uint64{1, 3, 20, 1 << 32} {
		s := api.State{}
		p := &plain{set: map[uint32]bool{}, pairs: map[uint32]uint32{}}
		all := mixed(3000, keys)
		var told []api.Result
		for i, o := range all {
			want := p.do(o)
			next, r := model.Apply(s, o)
			told = append(told, r)
			if r != want || !alike(next, p.state()) {
				t.Fatalf("%d keys, operation %d, %v: %v, %v, want %v, %v", keys, i, o, next, r, p.state(), want)
			}
			if !model.Right(next) {
				t.Fatalf("%d keys, operation %d: %v may not be", keys, i, next)
			}
			if model.Looks(o.Kind) && !model.Same(s, next) {
				t.Fatalf("%d keys, operation %d, %v: one that looks changed the state", keys, i, o)
			}
			s = next
		}
		if got, r := model.Run(api.State{}, all); !model.Same(got, s) || !slices.Equal(r, told) {
			t.Errorf("%d keys: Run is not what comes one behind the other", keys)
		}
	}
}

// part is which part of a state an operation is on: the queue 0, the set 1, the map 2.
func part(k int) int {
	switch {
	case k <= api.OpDeq:
		return 0
	case k <= api.OpHas:
		return 1
	}
	return 2
}

func TestEitherOrder(t *testing.T) { // 8.4
	start := api.State{Queue: []uint32{3}, Set: []uint32{1}, Map: []api.Pair{{Key: 1, Val: 6}}}
	var all []api.Op
	for k := api.OpEnq; k <= api.OpCut; k++ {
		for key := range uint32(4) {
			all = append(all, api.Op{Kind: k, Key: key, Val: 9})
		}
	}
	for _, a := range all {
		for _, b := range all {
			if part(a.Kind) == part(b.Kind) && (part(a.Kind) == 0 || a.Key == b.Key) {
				continue
			}
			s, r := model.Run(start, []api.Op{a, b})
			other, q := model.Run(start, []api.Op{b, a})
			if !model.Same(s, other) || r[0] != q[1] || r[1] != q[0] {
				t.Errorf("%v, %v: %v, %v; the other way round: %v, %v", a, b, s, r, other, q)
			}
		}
	}
}
