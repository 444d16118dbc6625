package repair_test

import (
	"math"
	"slices"
	"testing"

	"limekiln/api"
	"limekiln/bits"
	"limekiln/hash"
	"limekiln/layout"
	"limekiln/mark"
	"limekiln/pdev"
	"limekiln/pmem"
	"limekiln/repair"
)

// node is a slot on a way, with what it has, the thread that took it away, or none, and whether its link is dirty.
type node struct {
	slot     int
	key, val uint64
	by       int
	dirty    bool
}

// ground is a layout, and a memory of noughts.
func ground(t *testing.T, c api.Config) (*layout.Layout, *pmem.Mem) {
	t.Helper()
	l, e := layout.Of(c)
	if e != api.OK {
		t.Fatalf("layout.Of(%+v): %v", c, e)
	}
	return l, over(t, l, make([]uint64, l.Lines()*api.LineWords))
}

// over is a memory over words.
func over(t *testing.T, l *layout.Layout, words []uint64) *pmem.Mem {
	t.Helper()
	d, e := pdev.Open(words, l.Config().Threads)
	if e != api.OK {
		t.Fatalf("pdev.Open: %v", e)
	}
	m, e := pmem.New(d, l.Passing())
	if e != api.OK {
		t.Fatalf("pmem.New: %v", e)
	}
	return m
}

// put is a word that lasts.
func put(m *pmem.Mem, at int, w uint64) {
	m.Store(0, at, w)
	m.Device().Evict(at / api.LineWords)
}

// soil lets a word be dirty.
func soil(m *pmem.Mem, at int) {
	w, _ := m.Peek(at)
	put(m, at, bits.Soil(w))
}

// lay lays a way, that lasts. Its head is clean.
func lay(l *layout.Layout, m *pmem.Mem, head int, nodes ...node) {
	last := node{by: api.None}
	at := head
	for _, n := range append(nodes, node{slot: api.None}) {
		w := bits.Link(n.slot, last.by)
		if last.dirty {
			w = bits.Soil(w)
		}
		put(m, at, w)
		if n.slot == api.None {
			return
		}
		put(m, l.Key(n.slot), n.key)
		put(m, l.Val(n.slot), n.val)
		at, last = l.Next(n.slot), n
	}
}

// marked is a mark of all that is there.
func marked(l *layout.Layout, m *pmem.Mem) *mark.Mark {
	x := mark.New(l, 0)
	for n := 0; !x.Step(m) && n < 4*api.MaxSlots; n++ {
	}
	return x
}

// keyOf is the least key of a bucket from a key on.
func keyOf(bucket, many int, key uint32) uint64 {
	for hash.Bucket(key, many) != bucket {
		key++
	}
	return uint64(key)
}

// walk is a Repair, with what it goes through, and by which thread.
type walk struct {
	*testing.T
	l      *layout.Layout
	m      *pmem.Mem
	x      *repair.Repair
	thread int
}

// walkOf begins a Repair by all that is there.
func walkOf(t *testing.T, l *layout.Layout, m *pmem.Mem, thread int) *walk {
	return &walk{T: t, l: l, m: m, x: repair.New(l, thread, marked(l, m)), thread: thread}
}

// step does a step, and fails if it does another access, or tells that it is done where it is not.
func (w *walk) step(want api.Access, done bool) {
	w.Helper()
	clock := w.m.Clock()
	if w.x.Done() {
		w.Errorf("done ahead of %+v", want)
	}
	want.Thread, want.Done = w.thread, true
	if want.Kind == api.AcLoad || want.Kind == api.AcStore {
		want.Old, _ = w.m.Peek(want.At)
	}
	if w.x.Step(w.m) != done || w.x.Done() != done || w.m.Clock() != clock+1 || w.m.Last() != want {
		w.Errorf("%+v, done %v, %d accesses, want %+v, done %v", w.m.Last(), w.x.Done(), w.m.Clock()-clock, want, done)
	}
}

func (w *walk) loads(at int) {
	w.Helper()
	w.step(api.Access{Kind: api.AcLoad, At: at}, false)
}

func (w *walk) stores(at int, word uint64) {
	w.Helper()
	w.step(api.Access{Kind: api.AcStore, At: at, New: word}, false)
}

func (w *walk) flushes(at int) {
	w.Helper()
	w.step(api.Access{Kind: api.AcFlush, At: at}, false)
}

func (w *walk) fences() {
	w.Helper()
	w.step(api.Access{Kind: api.AcFence}, false)
}

// puts lets a word be there, and last.
func (w *walk) puts(at int, word uint64) {
	w.Helper()
	w.stores(at, word)
	w.flushes(at)
	w.fences()
	if k := w.m.Device().Kept(); k[at] != word {
		w.Errorf("of the word %d %x is kept, not %x", at, k[at], word)
	}
}

// ends does what ends all repairs: the tail, all logs, all intents; and fails if another step does anything.
func (w *walk) ends(last int) {
	w.Helper()
	w.puts(w.l.Tail(), bits.Link(last, api.None))
	c := w.l.Config()
	for t := range c.Threads {
		for n := range c.Logs {
			w.stores(w.l.Log(t, n), 0)
			w.flushes(w.l.Log(t, n))
		}
	}
	w.fences()
	for t := range c.Threads {
		w.stores(w.l.Intent(t), 0)
		w.flushes(w.l.Intent(t))
	}
	w.step(api.Access{Kind: api.AcFence}, true)
	clock := w.m.Clock()
	if !w.x.Step(w.m) || w.m.Clock() != clock || !w.x.Done() {
		w.Errorf("it does something behind its end")
	}
	if d := w.m.Device(); !slices.Equal(d.Kept(), d.Seen()) || w.m.Bad() != 0 {
		w.Errorf("not all is kept, or %d accesses were bad", w.m.Bad())
	}
}

func TestEmptyStore(t *testing.T) { // 21.1
	for _, c := range []api.Config{{Threads: 1, Slots: 1, Logs: 1, Buckets: 1}, {Threads: 3, Slots: 4, Logs: 2, Buckets: 2}, {Threads: 2, Slots: 2, Logs: 9, Buckets: 9}} {
		l, m := ground(t, c)
		lay(l, m, l.Head(), node{0, 0, 0, api.None, false})
		walkOf(t, l, m, c.Threads-1).ends(0)
	}
}

func TestLogsAndIntents(t *testing.T) { // 21.1
	l, m := ground(t, api.Config{Threads: 3, Slots: 2, Logs: 10, Buckets: 1})
	lay(l, m, l.Head(), node{1, 0, 0, api.None, false})
	for i := range 3 {
		put(m, l.Intent(i), math.MaxUint64)
		put(m, l.Cell(i), uint64(i)+7)
		for n := range 10 {
			put(m, l.Log(i, n), uint64(i*10+n)+1)
		}
	}
	walkOf(t, l, m, 1).ends(1)
	for i := range 3 {
		if w, _ := m.Peek(l.Cell(i)); w != uint64(i)+7 {
			t.Errorf("the cell %d is %x", i, w)
		}
	}
}

func TestCells(t *testing.T) { // 21.1
	l, m := ground(t, api.Config{Threads: 4, Slots: 6, Logs: 1, Buckets: 1})
	lay(l, m, l.Head(), node{4, 0, 1 << 40, 2, true}, node{0, 0, math.MaxUint32, 1, false}, node{3, 0, 12, 3, false}, node{5, 0, 13, api.None, false}, node{1, 0, 14, api.None, false})
	put(m, l.Cell(0), bits.Cell(1, false, 0))
	put(m, l.Cell(1), bits.Cell(9, true, 3))         // done: let be, though its value is another one
	put(m, l.Cell(2), bits.Cell(1<<31-1, false, 55)) // not done: its value is none yet
	put(m, l.Cell(3), bits.Cell(0, false, 0))        // the last one that was taken
	w := walkOf(t, l, m, 0)
	w.loads(l.Cell(2))
	w.puts(l.Cell(2), bits.Cell(1<<31-1, true, math.MaxUint32))
	w.loads(l.Cell(1))
	w.loads(l.Cell(3))
	w.puts(l.Cell(3), bits.Cell(0, true, 13))
	w.puts(l.Head(), bits.Link(5, api.None))
	w.ends(1)
	if k := m.Device().Kept(); k[l.Cell(0)] != bits.Cell(1, false, 0) || k[l.Cell(1)] != bits.Cell(9, true, 3) {
		t.Errorf("cells of those who took nothing: %x, %x", k[l.Cell(0)], k[l.Cell(1)])
	}
}

func TestCellOfOneWhoTookTwo(t *testing.T) { // 21.1
	l, m := ground(t, api.Config{Threads: 2, Slots: 3, Logs: 1, Buckets: 1})
	lay(l, m, l.Head(), node{0, 0, 0, 1, false}, node{1, 0, 7, 1, false}, node{2, 0, 8, api.None, false})
	put(m, l.Cell(1), bits.Cell(2, false, 0))
	w := walkOf(t, l, m, 1)
	w.loads(l.Cell(1))
	w.puts(l.Cell(1), bits.Cell(2, true, 7))
	w.loads(l.Cell(1)) // it is done by now
	w.puts(l.Head(), bits.Link(2, api.None))
	w.ends(2)
}

func TestHead(t *testing.T) { // 21.1
	for _, dirty := range []bool{false, true} {
		l, m := ground(t, api.Config{Threads: 1, Slots: 3, Logs: 1, Buckets: 1})
		lay(l, m, l.Head(), node{2, 0, 0, api.None, false}, node{0, 0, 5, api.None, false})
		if dirty {
			soil(m, l.Head())
		}
		w := walkOf(t, l, m, 0)
		if dirty {
			w.puts(l.Head(), bits.Link(2, api.None))
		}
		w.ends(0)
	}
}

func TestLinksOfTheQueue(t *testing.T) { // 21.1
	l, m := ground(t, api.Config{Threads: 2, Slots: 6, Logs: 1, Buckets: 1})
	lay(l, m, l.Head(), node{3, 0, 0, 0, true}, node{5, 0, 1, api.None, true}, node{0, 0, 2, api.None, false}, node{4, 0, 3, api.None, true}, node{1, 0, 4, api.None, true})
	put(m, l.Cell(0), bits.Cell(4, true, 1))
	w := walkOf(t, l, m, 1)
	w.loads(l.Cell(0))
	w.puts(l.Head(), bits.Link(5, api.None))
	w.puts(l.Next(5), bits.Link(0, api.None))
	w.puts(l.Next(4), bits.Link(1, api.None))
	w.puts(l.Next(1), 0)
	w.ends(1)
	if seen, _ := m.Peek(l.Next(3)); seen != bits.Soil(bits.Link(5, 0)) {
		t.Errorf("the link of one that was taken away is %x", seen)
	}
}

func TestLists(t *testing.T) { // 21.1, example 1
	l, m := ground(t, api.Config{Threads: 2, Slots: 16, Logs: 1, Buckets: 3})
	lay(l, m, l.Head(), node{0, 0, 0, api.None, false})
	lay(l, m, l.Set(), // taken away: the first one, two in the middle, and the last one
		node{1, 10, 0, 1, false}, node{2, 11, 0, api.None, false}, node{3, 12, 0, 0, true}, node{4, 13, 0, 1, false},
		node{5, 14, 0, api.None, true}, node{6, 15, 0, api.None, false}, node{7, 16, 0, api.None, false}, node{8, 17, 0, 0, true})
	lay(l, m, l.Bucket(0), node{9, keyOf(0, 3, 5), 1, api.None, false}, node{10, keyOf(0, 3, 50), 2, 1, false}, node{11, keyOf(0, 3, 500), 3, api.None, true})
	lay(l, m, l.Bucket(2), node{14, keyOf(2, 3, 5), 1, 0, true}, node{12, keyOf(2, 3, 50), 2, 0, false})
	soil(m, l.Bucket(1))
	w := walkOf(t, l, m, 1)
	w.puts(l.Set(), bits.Link(2, api.None))
	w.puts(l.Next(2), bits.Link(5, api.None))
	w.puts(l.Next(5), bits.Link(6, api.None)) // it was dirty
	w.puts(l.Next(7), 0)
	w.puts(l.Next(9), bits.Link(11, api.None))
	w.puts(l.Next(11), 0)  // it was dirty
	w.puts(l.Bucket(1), 0) // it was dirty
	w.puts(l.Bucket(2), 0)
	w.ends(0)
	live := make([]bool, 16)
	for _, s := range []int{0, 2, 5, 6, 7, 9, 11} {
		live[s] = true
	}
	if !slices.Equal(w.x.Live(), live) {
		t.Errorf("Live = %v", w.x.Live())
	}
}

func TestDirtyHeadsOfLists(t *testing.T) { // 21.1
	l, m := ground(t, api.Config{Threads: 1, Slots: 3, Logs: 1, Buckets: 2})
	lay(l, m, l.Head(), node{1, 0, 0, api.None, false})
	lay(l, m, l.Set(), node{0, 0, 0, api.None, false})
	lay(l, m, l.Bucket(1), node{2, keyOf(1, 2, 0), 0, api.None, true})
	for _, at := range []int{l.Head(), l.Set(), l.Bucket(0), l.Bucket(1)} {
		soil(m, at)
	}
	w := walkOf(t, l, m, 0)
	w.puts(l.Head(), bits.Link(1, api.None))
	w.puts(l.Set(), bits.Link(0, api.None))
	w.puts(l.Bucket(0), 0)
	w.puts(l.Bucket(1), bits.Link(2, api.None))
	w.puts(l.Next(2), 0)
	w.ends(1)
}

func TestLive(t *testing.T) { // 21.2
	l, m := ground(t, api.Config{Threads: 1, Slots: 5, Logs: 1, Buckets: 1})
	lay(l, m, l.Head(), node{4, 0, 0, 0, false}, node{2, 0, 5, api.None, false})
	lay(l, m, l.Set(), node{0, 1, 0, api.None, false}, node{3, 2, 0, 0, false})
	x := repair.New(l, 0, marked(l, m))
	want := []bool{true, false, true, false, false}
	for n := 0; n < 50; n++ { // from its beginning to its end, and behind it
		got := x.Live()
		if !slices.Equal(got, want) {
			t.Fatalf("behind %d steps: Live = %v", n, got)
		}
		clear(got)
		x.Step(m)
	}
	if !x.Done() {
		t.Errorf("it is not done")
	}
}

func TestMarkIsLetBe(t *testing.T) { // R3
	l, m := ground(t, api.Config{Threads: 1, Slots: 5, Logs: 1, Buckets: 1})
	lay(l, m, l.Head(), node{4, 0, 0, 0, false}, node{2, 0, 5, api.None, false})
	x := marked(l, m)
	heads, nodes := x.Heads(), x.Nodes()
	one, other := repair.New(l, 0, x), repair.New(l, 0, x)
	steps := [2]int{}
	for i, r := range []*repair.Repair{one, other} {
		for !r.Step(m) && steps[i] < 50 {
			steps[i]++
		}
	}
	if !slices.Equal(x.Heads(), heads) || !slices.Equal(x.Nodes(), nodes) || x.Corrupt() {
		t.Errorf("the mark was changed")
	}
	if steps[0] != steps[1]+3 { // the cell is done by the first one
		t.Errorf("%v steps", steps)
	}
}

func TestMarksByWhichNothingIsDone(t *testing.T) { // 21.1, 21.2
	l, m := ground(t, api.Config{Threads: 1, Slots: 5, Logs: 1, Buckets: 1})
	corrupt := marked(l, m)
	lay(l, m, l.Head(), node{4, 0, 0, 0, false}, node{2, 0, 5, api.None, false})
	begun, late := mark.New(l, 0), mark.New(l, 0)
	begun.Step(m)
	late.Step(m)
	behind := repair.New(l, 0, late)
	for !late.Step(m) {
	}
	if !corrupt.Corrupt() || begun.Done() || !late.Done() || late.Corrupt() {
		t.Fatalf("marks of another kind")
	}
	clock := m.Clock()
	for i, x := range []*repair.Repair{nil, {}, repair.New(l, 0, nil), repair.New(l, 0, &mark.Mark{}), repair.New(l, 0, mark.New(l, 0)), repair.New(l, 0, begun), repair.New(l, 0, corrupt), behind} {
		if !x.Done() || x.Live() != nil || !x.Step(m) || !x.Step(nil) || !x.Done() || m.Clock() != clock {
			t.Errorf("%d: done %v, %v", i, x.Done(), x.Live())
		}
	}
}

func TestThreadsAndLayoutsThatThereAreNot(t *testing.T) {
	l, m := ground(t, api.Config{Threads: 2, Slots: 9, Logs: 2, Buckets: 3})
	lay(l, m, l.Head(), node{4, 0, 0, 1, false}, node{8, 0, 5, api.None, true})
	lay(l, m, l.Set(), node{0, 1, 0, 1, false}, node{7, 2, 0, api.None, true})
	lay(l, m, l.Bucket(2), node{6, keyOf(2, 3, 5), 1, 0, true})
	x := marked(l, m)
	for _, thread := range []int{-1, 2, 64, math.MaxInt, math.MinInt} {
		finish(t, repair.New(l, thread, x), m)
	}
	more, _ := ground(t, api.Config{Threads: 3, Slots: 20, Logs: 3, Buckets: 9})
	fewer, _ := ground(t, api.Config{Threads: 1, Slots: 1, Logs: 1, Buckets: 1})
	just, _ := ground(t, api.Config{Threads: 2, Slots: 8, Logs: 2, Buckets: 3})
	for _, l := range []*layout.Layout{more, fewer, just, nil, new(layout.Layout)} {
		r := repair.New(l, 0, x)
		if len(r.Live()) != l.Config().Slots {
			t.Errorf("Live = %v", r.Live())
		}
		finish(t, r, m)
		finish(t, repair.New(l, 0, x), new(pmem.Mem))
	}
}

// finish fails if a Repair does not end.
func finish(t *testing.T, r *repair.Repair, m *pmem.Mem) {
	t.Helper()
	for n := 0; n < 1000 && !r.Step(m); n++ {
	}
	if !r.Done() {
		t.Errorf("it is not done")
	}
}
