package repair_test

import (
	"slices"
	"testing"

	"limekiln/api"
	"limekiln/bits"
	"limekiln/layout"
	"limekiln/model"
	"limekiln/pmem"
	"limekiln/repair"
	"limekiln/view"
)

// drawing is a function that draws, always alike.
func drawing() func(n int) int {
	x := uint64(1)
	return func(n int) int {
		x = x*6364136223846793005 + 1442695040888963407
		return int(x >> 33 % uint64(n))
	}
}

// heads are where all ways begin, in order.
func heads(l *layout.Layout) []int {
	all := []int{l.Head(), l.Set()}
	for n := range l.Config().Buckets {
		all = append(all, l.Bucket(n))
	}
	return all
}

// drawnStore are the words of a store, with links that are dirty, slots that were taken away, and anything where it plays no part.
func drawnStore(draw func(n int) int, l *layout.Layout) []uint64 {
	c := l.Config()
	words := make([]uint64, l.Lines()*api.LineWords)
	for i := range words {
		words[i] = uint64(draw(1<<31))<<40 | uint64(draw(1<<31))
	}
	rest := make([]int, c.Slots)
	for i := range rest {
		j := draw(i + 1)
		rest[i], rest[j] = rest[j], i
	}
	soiled := func(w uint64) uint64 { return w | uint64(draw(2))<<63 }
	for list, head := range heads(l) {
		many := draw(2 + 2*len(rest)/(3+c.Buckets-list/2))
		if list == 0 {
			many = 1 + draw(len(rest)*2/3+1)
		}
		many = min(many, len(rest))
		way, taken := rest[:many], draw(many+1)
		rest = rest[many:]
		at, by, key := head, api.None, uint32(draw(3))
		for i, s := range way {
			words[at] = soiled(bits.Link(s, by))
			words[l.Val(s)] &= 1<<32 - 1
			at, by = l.Next(s), api.None
			if list == 0 && i < taken-1 || list > 0 && draw(3) == 0 {
				by = draw(c.Threads)
			}
			if list > 1 {
				key = uint32(keyOf(list-2, c.Buckets, key))
			}
			if list > 0 {
				words[l.Key(s)] = uint64(key)
				key += 1 + uint32(draw(3)*draw(50_000_000))
			}
		}
		words[at] = soiled(bits.Link(api.None, by))
	}
	return words
}

// plain gathers what a repair is to do, as it does it to words of its own.
type plain struct {
	l     *layout.Layout
	words []uint64
	all   []api.Access
}

func (p *plain) does(kind, at int, w uint64) {
	p.all = append(p.all, api.Access{Kind: kind, At: at, New: w})
	if kind == api.AcStore {
		p.words[at] = w
	}
}

func (p *plain) lasts(at int, w uint64) {
	p.does(api.AcStore, at, w)
	p.does(api.AcFlush, at, 0)
	p.does(api.AcFence, 0, 0)
}

// plainly is what a repair of a store's words is to do, by what the chapter says.
func plainly(l *layout.Layout, words []uint64) []api.Access {
	p := &plain{l: l, words: slices.Clone(words)}
	ways, live := make([][]int, len(heads(l))), make([][]int, len(heads(l)))
	places, _ := view.Places(l, words)
	for _, x := range places {
		ways[x.List] = append(ways[x.List], x.Slot)
		if x.Live {
			live[x.List] = append(live[x.List], x.Slot)
		}
	}
	queue := ways[0]
	for i, s := range queue {
		if by := bits.By(words[l.Next(s)]); by != api.None {
			p.does(api.AcLoad, l.Cell(by), 0)
			if cell := p.words[l.Cell(by)]; !bits.Done(cell) {
				p.lasts(l.Cell(by), bits.Cell(bits.Seq(cell), true, uint32(words[l.Val(queue[i+1])])))
			}
		}
	}
	if first := bits.Link(live[0][0], api.None); words[l.Head()] != first {
		p.lasts(l.Head(), first)
	}
	for _, s := range live[0] {
		if w := words[l.Next(s)]; bits.Dirty(w) {
			p.lasts(l.Next(s), bits.Clean(w))
		}
	}
	for list, head := range heads(l)[1:] {
		at := []int{head}
		for _, s := range live[list+1] {
			at = append(at, l.Next(s))
		}
		for i, s := range append(live[list+1], api.None) {
			if words[at[i]] != bits.Link(s, api.None) {
				p.lasts(at[i], bits.Link(s, api.None))
			}
		}
	}
	p.lasts(l.Tail(), bits.Link(queue[len(queue)-1], api.None))
	p.ends()
	return p.all
}

func (p *plain) ends() {
	c := p.l.Config()
	for n := range c.Threads * c.Logs {
		at := p.l.Log(n/c.Logs, n%c.Logs)
		p.does(api.AcStore, at, 0)
		p.does(api.AcFlush, at, 0)
	}
	p.does(api.AcFence, 0, 0)
	for t := range c.Threads {
		p.does(api.AcStore, p.l.Intent(t), 0)
		p.does(api.AcFlush, p.l.Intent(t), 0)
	}
	p.does(api.AcFence, 0, 0)
}

// liveOf is of each slot whether it is on a way of a store's words, and was not taken away.
func liveOf(l *layout.Layout, words []uint64) []bool {
	live := make([]bool, l.Config().Slots)
	places, _ := view.Places(l, words)
	for _, p := range places {
		live[p.Slot] = p.Live
	}
	return live
}

// holds fails if other things are held than should be, as it is seen, or as it is kept.
func holds(t *testing.T, l *layout.Layout, m *pmem.Mem, want api.State) {
	t.Helper()
	for i, words := range [][]uint64{m.Device().Seen(), m.Device().Kept()} {
		if s, e := view.State(l, words); e != api.OK || !model.Same(s, want) {
			t.Errorf("%s: %+v, %v, want %+v", []string{"seen", "kept"}[i], s, e, want)
		}
	}
}

// isRepaired fails if something is left of what was begun.
func isRepaired(t *testing.T, l *layout.Layout, m *pmem.Mem, live []bool) {
	t.Helper()
	kept := m.Device().Kept()
	if !slices.Equal(kept, m.Device().Seen()) {
		t.Errorf("not all is kept")
	}
	at := heads(l)
	places, _ := view.Places(l, kept)
	last := api.None
	for _, p := range places {
		at = append(at, l.Next(p.Slot))
		if !p.Live {
			t.Errorf("%+v", p)
		}
		if p.List == 0 {
			last = p.Slot
		}
	}
	for _, at := range at {
		if bits.Dirty(kept[at]) {
			t.Errorf("the word %d is dirty", at)
		}
	}
	if !slices.Equal(liveOf(l, kept), live) || kept[l.Tail()] != bits.Link(last, api.None) {
		t.Errorf("%v are live, want %v; the tail is %x, the last slot %d", liveOf(l, kept), live, kept[l.Tail()], last)
	}
}

// configs are such as have edges: one of all, rows of entries and buckets over more than one line.
func configs() []api.Config {
	return []api.Config{{Threads: 1, Slots: 1, Logs: 1, Buckets: 1}, {Threads: 2, Slots: 5, Logs: 1, Buckets: 2}, {Threads: 64, Slots: 20, Logs: 3, Buckets: 3}, {Threads: 3, Slots: 40, Logs: 9, Buckets: 17}}
}

func TestManyStores(t *testing.T) { // 21.1 to 21.3
	draw := drawing()
	for _, c := range configs() {
		l, _ := ground(t, c)
		for n := range 80 {
			words := drawnStore(draw, l)
			m := over(t, l, words)
			held, e := view.State(l, words)
			who := n % c.Threads
			r := repair.New(l, who, marked(l, m))
			for _, want := range plainly(l, words) {
				if r.Step(m); m.Last().Kind != want.Kind || m.Last().At != want.At || m.Last().New != want.New || m.Last().Thread != who || !m.Last().Done {
					t.Fatalf("of %x: %+v, want %+v", words, m.Last(), want)
				}
				holds(t, l, m, held)
				if draw(4) == 0 {
					m.Device().Evict(draw(l.Lines()))
				}
			}
			if !slices.Equal(r.Live(), liveOf(l, words)) || !r.Done() || e != api.OK {
				t.Errorf("Live = %v, done %v", r.Live(), r.Done())
			}
			isRepaired(t, l, m, r.Live())
			if t.Failed() {
				t.Fatalf("of %x", words)
			}
		}
	}
}

func TestBrokenOffAnywhere(t *testing.T) { // 21.3
	draw := drawing()
	for _, c := range configs()[:3] {
		l, _ := ground(t, c)
		for range 8 {
			words := drawnStore(draw, l)
			held, _ := view.State(l, words)
			live := liveOf(l, words)
			steps := len(plainly(l, words))
			for first := 0; first <= steps; first += 1 + first/60 {
				m := over(t, l, words)
				broken(t, l, m, first, draw)
				for draw(2) == 0 {
					broken(t, l, m, draw(steps+1), draw)
				}
				holds(t, l, m, held)
				r := repair.New(l, 0, marked(l, m))
				finish(t, r, m)
				holds(t, l, m, held)
				isRepaired(t, l, m, live)
				if !slices.Equal(r.Live(), live) {
					t.Errorf("Live = %v, want %v", r.Live(), live)
				}
				if t.Failed() {
					t.Fatalf("of %x, broken off behind %d steps", words, first)
				}
			}
		}
	}
}

// broken begins a Repair, and breaks it off by a crash behind so many steps. Lines are written back, too.
func broken(t *testing.T, l *layout.Layout, m *pmem.Mem, steps int, draw func(n int) int) {
	t.Helper()
	x := marked(l, m)
	if x.Corrupt() {
		t.Errorf("corrupt")
	}
	r := repair.New(l, 0, x)
	for range steps {
		r.Step(m)
		if draw(8) == 0 {
			m.Device().Evict(draw(l.Lines()))
		}
	}
	m.Crash()
}
