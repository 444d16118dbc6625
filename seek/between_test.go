package seek_test

import (
	"slices"
	"testing"

	"limekiln/api"
	"limekiln/bits"
	"limekiln/layout"
	"limekiln/link"
	"limekiln/pmem"
	"limekiln/seek"
)

// What a worker does.
const (
	asks   = 'h' // looks for a key
	takes  = 'd' // takes a key's slot away
	brings = 'a' // puts a key in, in a slot of its own
)

// worker does something to a list, an access a step.
type worker struct {
	l      *layout.Layout
	thread int
	kind   byte
	key    uint32
	slot   int
	seek   *seek.Seek
	set    *link.Set
	part   int
	again  bool // whether it seeks but to let what it has taken away be in the list no more
	done   bool
}

// seeks begins a Seek.
func (x *worker) seeks() {
	x.seek, x.set, x.part = seek.New(x.l, x.thread, x.l.Set(), x.key), nil, 0
}

// Step does a step.
func (x *worker) Step(m *pmem.Mem) bool {
	switch {
	case !x.seek.Done():
		if x.seek.Step(m) {
			x.done = x.again || x.kind == asks || x.seek.Found() == (x.kind == brings)
		}
	case x.kind == takes:
		if x.set == nil {
			at, w := x.l.Next(x.seek.Curr()), x.seek.Link()
			x.set = link.NewSet(x.thread, at, w, bits.Link(bits.To(w), x.thread))
		}
		x.puts(m)
	case x.part < 4:
		x.fills(m)
	default:
		if x.set == nil {
			x.set = link.NewSet(x.thread, x.seek.Prev(), x.seek.Word(), bits.Link(x.slot, api.None))
		}
		x.puts(m)
	}
	return x.done
}

// fills does the next step by which the slot is filled.
func (x *worker) fills(m *pmem.Mem) {
	at := x.l.Next(x.slot)
	switch x.part {
	case 0:
		m.Store(x.thread, x.l.Key(x.slot), uint64(x.key))
	case 1:
		m.Store(x.thread, at, x.seek.Word())
	case 2:
		m.Flush(x.thread, at)
	case 3:
		m.Fence(x.thread)
	}
	x.part++
}

// puts does a step of the Set.
func (x *worker) puts(m *pmem.Mem) {
	switch {
	case !x.set.Step(m):
	case x.set.Put() && x.kind == brings:
		x.done = true
	default:
		x.again = x.set.Put()
		x.seeks()
	}
}

// moment is what a list was at a time: its keys that were not taken away, and the links, clean, of its head and of all slots.
type moment struct {
	keys  []uint32
	links []uint64
}

// field has threads that do something to a list between one another, while lines are written back.
type field struct {
	l       *layout.Layout
	m       *pmem.Mem
	running []*worker // by threads
	begun   []int     // by threads: the clock as its Seek began
	free    int       // the first slot that nobody has had
	then    []moment  // by the clock
	falls   bool      // whether nothing is put in, so that no link comes back
	sought  int
	found   int
}

// newField is a field with a list of the keys 10, 20, and so on, in the slots 0, 1, and so on.
func newField(t *testing.T, threads, keys, slots int, falls bool) *field {
	l, m := ground(t, threads, slots)
	var nodes []node
	for i := range keys {
		nodes = append(nodes, node{i, uint64(10 * (i + 1)), api.None})
	}
	lay(l, m, l.Set(), nodes...)
	f := &field{l: l, m: m, running: make([]*worker, threads), begun: make([]int, threads), free: keys, falls: falls}
	for range m.Clock() + 1 {
		f.then = append(f.then, f.now(t))
	}
	return f
}

// now is what the list is. It fails if the list is none, or its keys do not rise.
func (f *field) now(t *testing.T) moment {
	t.Helper()
	slots, is := seek.Slots(f.l, f.m, f.l.Set())
	if !is {
		t.Errorf("the list is none: %v", slots)
	}
	var x moment
	last := -1
	for _, s := range slots {
		key, _ := f.m.Peek(f.l.Key(s))
		w, _ := f.m.Peek(f.l.Next(s))
		if int(key) <= last {
			t.Errorf("the key %d stands behind %d", key, last)
		}
		last = int(key)
		if bits.By(w) == api.None {
			x.keys = append(x.keys, uint32(key))
		}
	}
	for _, at := range f.places() {
		w, _ := f.m.Peek(at)
		x.links = append(x.links, bits.Clean(w))
	}
	return x
}

// places are the words of the head, and of the links of all slots.
func (f *field) places() []int {
	at := []int{f.l.Set()}
	for s := range f.l.Config().Slots {
		at = append(at, f.l.Next(s))
	}
	return at
}

// begin lets a thread begin something.
func (f *field) begin(thread int, kind byte, key uint32) {
	x := &worker{l: f.l, thread: thread, kind: kind, key: key}
	if kind == brings {
		x.slot = f.free
		f.free++
	}
	x.seeks()
	f.running[thread], f.begun[thread] = x, f.m.Clock()
}

// goOn does a step of a thread, and fails if it is not one access, or a Seek that is done by it has what was not so.
func (f *field) goOn(t *testing.T, thread int) {
	t.Helper()
	clock, x := f.m.Clock(), f.running[thread]
	was := x.seek
	ahead := was.Done()
	done := x.Step(f.m)
	if f.m.Clock() != clock+1 || f.m.Last().Thread != thread || f.m.Bad() != 0 {
		t.Errorf("a step of the thread %d: %d accesses, the last one %+v, %d bad", thread, f.m.Clock()-clock, f.m.Last(), f.m.Bad())
	}
	f.then = append(f.then, f.now(t))
	if !ahead && was.Done() {
		f.ended(t, thread, was)
	}
	if x.seek != was {
		f.begun[thread] = f.m.Clock()
	}
	if f.falls {
		f.lasts(t)
	}
	if done {
		f.running[thread] = nil
	}
}

// ended fails if what a Seek has was not so at the time that it tells.
func (f *field) ended(t *testing.T, thread int, x *seek.Seek) {
	t.Helper()
	f.sought++
	if x.When() <= f.begun[thread] || x.When() > f.m.Clock() {
		t.Fatalf("When() = %d, it went from %d to %d", x.When(), f.begun[thread], f.m.Clock())
	}
	then, key := f.then[x.When()], f.running[thread].key
	if slices.Contains(then.keys, key) != x.Found() {
		t.Errorf("the thread %d seeks %d: Found() = %v, at %d the keys were %v", thread, key, x.Found(), x.When(), then.keys)
	}
	place, word := x.Prev(), x.Word()
	if x.Found() {
		f.found++
		place, word = f.l.Next(x.Curr()), x.Link()
	}
	if was := then.links[slices.Index(f.places(), place)]; was != word || bits.By(word) != api.None || bits.Dirty(word) {
		t.Errorf("the thread %d has the link %#x of %d, at %d it was %#x", thread, word, place, x.When(), was)
	}
	if f.falls && f.running[thread].again && x.Found() {
		t.Errorf("the key %d was taken away, and is found", key)
	}
}

// lasts fails if a link is clean, and not kept.
func (f *field) lasts(t *testing.T) {
	t.Helper()
	kept := f.m.Device().Kept()
	for _, at := range f.places() {
		if w, _ := f.m.Peek(at); !bits.Dirty(w) && bits.Clean(kept[at]) != w {
			t.Errorf("the link at %d is %#x, and kept as %#x", at, w, kept[at])
		}
	}
}

// doing is what a thread is to do: each with its key.
type doing []struct {
	kind byte
	key  uint32
}

// plays lets threads do what they are to do to a list of three keys: first as picked, then in turns, till all is done. It tells which of them had something to do ahead of the turns.
func plays(t *testing.T, plan []doing, falls bool, picks []int) []int {
	t.Helper()
	f := newField(t, len(plan), 3, 6, falls)
	at := make([]int, len(plan))
	begin := func(thread int) {
		if f.running[thread] == nil && at[thread] < len(plan[thread]) {
			f.begin(thread, plan[thread][at[thread]].kind, plan[thread][at[thread]].key)
			at[thread]++
		}
	}
	left := func() []int {
		var left []int
		for i := range plan {
			if f.running[i] != nil {
				left = append(left, i)
			}
		}
		return left
	}
	for i := range plan {
		begin(i)
	}
	for _, i := range picks {
		if f.running[i] != nil {
			f.goOn(t, i)
			begin(i)
		}
	}
	had := left()
	for n := 0; len(left()) > 0 && n < 500; n++ {
		for _, i := range left() {
			f.goOn(t, i)
			begin(i)
		}
	}
	if len(left()) > 0 {
		t.Errorf("not done in 500 turns")
	}
	f.ends(t)
	return had
}

// ends fails if something is in the list that was taken away, once all is done, and looked for.
func (f *field) ends(t *testing.T) {
	t.Helper()
	x := seek.New(f.l, 0, f.l.Set(), 1<<32-1)
	ends(t, f.m, x)
	now := f.now(t)
	slots, _ := seek.Slots(f.l, f.m, f.l.Set())
	if len(slots) != len(now.keys) {
		t.Errorf("the slots %v are in the list, its keys are %v", slots, now.keys)
	}
}

// orders goes over all orders of so many picks behind those that are told.
func orders(t *testing.T, plan []doing, falls bool, picks []int, more int) {
	t.Helper()
	left := plays(t, plan, falls, picks)
	if t.Failed() {
		t.Fatalf("of %v, picked %v", plan, picks)
	}
	if more == 0 {
		return
	}
	for _, i := range left {
		orders(t, plan, falls, append(slices.Clone(picks), i), more-1)
	}
}

func TestOrdersOfTwo(t *testing.T) { // 14.1, 14.3: all orders of eight picks, behind any number of picks of the first one
	for _, x := range []struct {
		plan  []doing
		falls bool
	}{
		{[]doing{{{takes, 10}}, {{takes, 20}}}, true},
		{[]doing{{{takes, 20}}, {{takes, 20}}}, true},
		{[]doing{{{takes, 20}}, {{takes, 10}}}, true},
		{[]doing{{{takes, 20}}, {{asks, 20}, {asks, 25}}}, true},
		{[]doing{{{takes, 30}}, {{asks, 30}, {asks, 35}}}, true},
		{[]doing{{{takes, 10}, {takes, 20}}, {{takes, 30}}}, true},
		{[]doing{{{takes, 20}}, {{brings, 15}}}, false},
		{[]doing{{{takes, 10}, {brings, 10}}, {{takes, 10}}}, false},
		{[]doing{{{takes, 20}}, {{brings, 25}}}, false},
		{[]doing{{{brings, 15}}, {{brings, 15}}}, false},
	} {
		for n := range 24 {
			orders(t, x.plan, x.falls, make([]int, n), 8)
		}
	}
}

func TestManyBetweenOneAnother(t *testing.T) { // 14.1, 14.3
	x := uint64(1)
	draw := func(n int) int {
		x = x*6364136223846793005 + 1442695040888963407
		return int(x >> 33 % uint64(n))
	}
	for _, threads := range []int{2, 3, 5} {
		for _, falls := range []bool{false, true} {
			sought, found := 0, 0
			for range 60 {
				f := newField(t, threads, 6, 30, falls)
				for range 300 {
					i := draw(threads)
					if f.running[i] == nil {
						kind := "hddaa"[draw(5)]
						if kind == brings && (falls || f.free == 30) {
							kind = asks
						}
						f.begin(i, kind, uint32(10+5*draw(11)))
					}
					f.goOn(t, i)
					if draw(5) == 0 {
						f.m.Device().Evict(draw(f.l.Lines()))
					}
					if t.Failed() {
						t.Fatalf("of %d threads", threads)
					}
				}
				sought += f.sought
				found += f.found
			}
			if sought < 1000 || found < 100 {
				t.Errorf("of %d threads: only %d were sought, %d found", threads, sought, found)
			}
		}
	}
}
