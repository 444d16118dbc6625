package revive_test

import (
	"math"
	"slices"
	"testing"

	"limekiln/api"
	"limekiln/bits"
	"limekiln/free"
	"limekiln/hash"
	"limekiln/layout"
	"limekiln/mark"
	"limekiln/pdev"
	"limekiln/pmem"
	"limekiln/repair"
	"limekiln/revive"
	"limekiln/super"
	"limekiln/view"
)

// layoutOf is a config's layout.
func layoutOf(t *testing.T, c api.Config) *layout.Layout {
	t.Helper()
	l, e := layout.Of(c)
	if e != api.OK {
		t.Fatalf("layout.Of(%+v): %v", c, e)
	}
	return l
}

// over is a memory over words.
func over(t *testing.T, l *layout.Layout, words []uint64) *pmem.Mem {
	t.Helper()
	d, e := pdev.Open(words, l.Config().Threads)
	if e != api.OK {
		t.Fatalf("pdev.Open: %v", e)
	}
	m, e := pmem.New(d, l.Passing())
	if e != api.OK {
		t.Fatalf("pmem.New: %v", e)
	}
	return m
}

// block lays a config's superblock into a line.
func block(t *testing.T, words []uint64, line int, c api.Config) {
	t.Helper()
	b, e := super.Line(c)
	if e != api.OK {
		t.Fatalf("super.Line(%+v): %v", c, e)
	}
	copy(words[line*api.LineWords:], b[:])
}

// emptyStore are the words of an empty store.
func emptyStore(t *testing.T, l *layout.Layout) []uint64 {
	t.Helper()
	words := make([]uint64, l.Lines()*api.LineWords)
	block(t, words, 0, l.Config())
	block(t, words, 1, l.Config())
	words[l.Head()] = bits.Link(0, api.None)
	words[l.Tail()] = bits.Link(0, api.None)
	return words
}

// passing are all passing words.
func passing(l *layout.Layout, m *pmem.Mem) []uint64 {
	all := make([]uint64, l.Passing())
	for n := range all {
		all[n], _ = m.Peek(-1 - n)
	}
	return all
}

// walk is a recovery, with what it goes through, and by which thread.
type walk struct {
	*testing.T
	l      *layout.Layout
	m      *pmem.Mem
	x      *revive.Revive
	thread int
}

// walkOf begins a recovery.
func walkOf(t *testing.T, l *layout.Layout, m *pmem.Mem, thread int) *walk {
	return &walk{T: t, l: l, m: m, x: revive.New(l, thread), thread: thread}
}

// step does a step, and fails if it does another access, or tells more than that it is not done. How it ends is asked by ends.
func (w *walk) step(want api.Access) {
	w.Helper()
	if w.x.Done() || w.x.Up() || w.x.Corrupt() {
		w.Errorf("ahead of %+v: done %v, up %v, corrupt %v", want, w.x.Done(), w.x.Up(), w.x.Corrupt())
	}
	clock := w.m.Clock()
	want.Thread, want.Done = w.thread, true
	if want.Kind == api.AcLoad || want.Kind == api.AcStore {
		want.Old, _ = w.m.Peek(want.At)
	}
	if done := w.x.Step(w.m); done != w.x.Done() || w.m.Clock() != clock+1 || w.m.Last() != want {
		w.Errorf("%+v, %d accesses, Step tells %v, Done %v, want %+v", w.m.Last(), w.m.Clock()-clock, done, w.x.Done(), want)
	}
}

func (w *walk) loads(at int) {
	w.Helper()
	w.step(api.Access{Kind: api.AcLoad, At: at})
}

func (w *walk) stores(at int, word uint64) {
	w.Helper()
	w.step(api.Access{Kind: api.AcStore, At: at, New: word})
}

func (w *walk) flushes(at int) {
	w.Helper()
	w.step(api.Access{Kind: api.AcFlush, At: at})
}

func (w *walk) fences() {
	w.Helper()
	w.step(api.Access{Kind: api.AcFence})
}

// puts lets a word be there, and last.
func (w *walk) puts(at int, word uint64) {
	w.Helper()
	w.stores(at, word)
	w.flushes(at)
	w.fences()
}

// super loads the superblock.
func (w *walk) super() {
	w.Helper()
	for at := range 2 * api.LineWords {
		w.loads(at)
	}
}

// wipes lets all logs be empty, and no thread have an intent.
func (w *walk) wipes() {
	w.Helper()
	c := w.l.Config()
	for t := range c.Threads {
		for n := range c.Logs {
			w.stores(w.l.Log(t, n), 0)
			w.flushes(w.l.Log(t, n))
		}
	}
	w.fences()
	for t := range c.Threads {
		w.stores(w.l.Intent(t), 0)
		w.flushes(w.l.Intent(t))
	}
	w.fences()
}

// frees lets the free list be these slots, which rise.
func (w *walk) frees(slots ...int) {
	w.Helper()
	behind := api.None
	for _, s := range slices.Backward(slots) {
		w.stores(w.l.After(s), uint64(behind+1))
		behind = s
	}
	w.stores(w.l.Free(), bits.Top(behind, 0))
}

// ends fails if it has not ended so, or if another step does anything.
func (w *walk) ends(up bool) {
	w.Helper()
	clock := w.m.Clock()
	for range 2 {
		if !w.x.Done() || w.x.Up() != up || w.x.Corrupt() == up {
			w.Errorf("done %v, up %v, corrupt %v", w.x.Done(), w.x.Up(), w.x.Corrupt())
		}
		if !w.x.Step(w.m) || w.m.Clock() != clock {
			w.Errorf("it does something behind its end")
		}
	}
	if w.m.Bad() != 0 {
		w.Errorf("%d accesses were bad", w.m.Bad())
	}
}

func TestExampleOfTheDocument(t *testing.T) { // 22.1, example 1
	l := layoutOf(t, api.Config{Threads: 1, Slots: 3, Logs: 1, Buckets: 2})
	m := over(t, l, emptyStore(t, l))
	w := walkOf(t, l, m, 0)
	w.super()
	for _, at := range []int{l.Head(), l.Next(0), l.Set(), l.Bucket(0), l.Bucket(1)} {
		w.loads(at)
	}
	w.puts(l.Tail(), bits.Link(0, api.None))
	w.wipes()
	w.frees(1, 2)
	w.ends(true)
	if slots, is := free.List(l, m); !is || !slices.Equal(slots, []int{1, 2}) {
		t.Errorf("the free list is %v, %v", slots, is)
	}
}

// keyOf is the least key of a bucket from a key on.
func keyOf(bucket, many int, key uint32) uint64 {
	for hash.Bucket(key, many) != bucket {
		key++
	}
	return uint64(key)
}

func TestStepByStep(t *testing.T) { // 22.1: a store that was left in the midst of everything
	l := layoutOf(t, api.Config{Threads: 3, Slots: 10, Logs: 2, Buckets: 3})
	key := keyOf(2, 3, 0)
	words := emptyStore(t, l)
	for at, w := range map[int]uint64{
		l.Head(): bits.Link(4, -1), l.Next(4): bits.Link(2, 1), l.Next(2): bits.Soil(bits.Link(9, -1)), l.Val(2): 7, l.Val(9): 8, // the queue: 4 (taken away by 1), 2, 9 (8)
		l.Cell(1): bits.Cell(5, false, 0),                                                 // which did not end that
		l.Set():   bits.Link(7, -1), l.Key(7): 1, l.Next(7): bits.Link(3, 0), l.Key(3): 2, // the set: 7 (taken away by 0), 3
		l.Bucket(2): bits.Soil(bits.Link(0, -1)), l.Key(0): key, l.Val(0): 6, // the map: 0
		l.Tail(): 99, l.Intent(2): 4, l.Log(0, 1): bits.Entry(7, -1), l.Log(1, 0): bits.Entry(4, -1),
	} {
		words[at] = w
	}
	m := over(t, l, words)
	w := walkOf(t, l, m, 2)
	w.super()
	for _, at := range []int{l.Head(), l.Next(4), l.Val(2), l.Next(2), l.Val(9), l.Next(9), l.Set(), l.Key(7), l.Val(7), l.Next(7), l.Key(3), l.Val(3), l.Next(3), l.Bucket(0), l.Bucket(1), l.Bucket(2), l.Key(0), l.Val(0), l.Next(0)} {
		w.loads(at)
	}
	w.loads(l.Cell(1))
	w.puts(l.Cell(1), bits.Cell(5, true, 7))
	w.puts(l.Head(), bits.Link(2, api.None))
	w.puts(l.Next(2), bits.Link(9, api.None))
	w.puts(l.Set(), bits.Link(3, api.None))
	w.puts(l.Bucket(2), bits.Link(0, api.None))
	w.puts(l.Tail(), bits.Link(9, api.None))
	w.wipes()
	w.frees(1, 4, 5, 6, 7, 8)
	w.ends(true)
}

func TestAllLive(t *testing.T) { // 22.1: no slot is free
	l := layoutOf(t, api.Config{Threads: 1, Slots: 1, Logs: 1, Buckets: 1})
	m := over(t, l, emptyStore(t, l))
	m.Store(0, l.Free(), bits.Top(0, 5)) // what is there plays no part
	w := walkOf(t, l, m, 0)
	w.super()
	for _, at := range []int{l.Head(), l.Next(0), l.Set(), l.Bucket(0)} {
		w.loads(at)
	}
	w.puts(l.Tail(), bits.Link(0, api.None))
	w.wipes()
	w.frees()
	w.ends(true)
	if slots, is := free.List(l, m); !is || len(slots) != 0 {
		t.Errorf("the free list is %v, %v", slots, is)
	}
}

func TestPassingWords(t *testing.T) { // 22.1: just those of the free list are stored
	l := layoutOf(t, api.Config{Threads: 3, Slots: 6, Logs: 1, Buckets: 1})
	words := emptyStore(t, l)
	words[l.Head()] = bits.Link(2, api.None)
	words[l.Next(2)] = bits.Link(5, api.None)
	m := over(t, l, words)
	for n := range l.Passing() {
		m.Store(0, -1-n, uint64(70+n))
	}
	want := passing(l, m)
	for s, behind := range map[int]int{0: 1, 1: 3, 3: 4, 4: api.None} {
		want[-1-l.After(s)] = uint64(behind + 1)
	}
	want[-1-l.Free()] = bits.Top(0, 0)
	steps(t, revive.New(l, 1), m)
	if got := passing(l, m); !slices.Equal(got, want) {
		t.Errorf("the passing words are %x, want %x", got, want)
	}
}

// steps lets a recovery go on till it is done, and tells behind how many steps it was.
func steps(t *testing.T, x *revive.Revive, m *pmem.Mem) int {
	t.Helper()
	clock := m.Clock()
	for n := 1; !x.Step(m); n++ {
		if m.Clock() != clock+n || x.Up() || x.Corrupt() || n > 100*api.MaxSlots {
			t.Fatalf("%d accesses in %d steps, up %v, corrupt %v", m.Clock()-clock, n, x.Up(), x.Corrupt())
		}
	}
	if !x.Done() || x.Up() == x.Corrupt() {
		t.Errorf("done %v, up %v, corrupt %v", x.Done(), x.Up(), x.Corrupt())
	}
	return m.Clock() - clock
}

// refused fails if a recovery of words does anything but so many loads, or if it does not end as one of a store that is corrupt.
func refused(t *testing.T, l *layout.Layout, words []uint64, loads int, name string) {
	t.Helper()
	m := over(t, l, words)
	writes := func() int {
		many := 0
		for n := range l.Lines() {
			many += m.Device().Writes(n)
		}
		return many
	}
	x := revive.New(l, 0)
	for n := 1; n <= loads; n++ {
		if done := x.Step(m); done != (n == loads) || m.Last().Kind != api.AcLoad || m.Clock() != n {
			t.Errorf("%s: behind %d steps of %d: done %v, %+v", name, n, loads, done, m.Last())
		}
	}
	if !x.Corrupt() || x.Up() || !x.Done() || !x.Step(m) || m.Clock() != loads {
		t.Errorf("%s: corrupt %v, up %v, done %v", name, x.Corrupt(), x.Up(), x.Done())
	}
	if !slices.Equal(m.Device().Seen(), words) || !slices.Equal(m.Device().Kept(), words) || slices.Max(passing(l, m)) != 0 || writes() != 0 {
		t.Errorf("%s: it was written to", name) // 22.3
	}
}

// comesUp fails if a recovery of words does not end as one of a store.
func comesUp(t *testing.T, l *layout.Layout, words []uint64, name string) {
	t.Helper()
	m := over(t, l, words)
	x := revive.New(l, 0)
	if n := steps(t, x, m); !x.Up() || n > revive.Most(l.Config()) {
		t.Errorf("%s: up %v, corrupt %v, %d steps", name, x.Up(), x.Corrupt(), n)
	}
	if !slices.Equal(m.Device().Kept()[:2*api.LineWords], words[:2*api.LineWords]) {
		t.Errorf("%s: the superblock was changed", name)
	}
}

func TestSuperblock(t *testing.T) { // 22.1, 22.3
	c := api.Config{Threads: 2, Slots: 5, Logs: 2, Buckets: 2}
	others := []api.Config{{Threads: 1, Slots: 5, Logs: 2, Buckets: 2}, {Threads: 2, Slots: 4, Logs: 2, Buckets: 2}, {Threads: 2, Slots: 5, Logs: 3, Buckets: 2}, {Threads: 2, Slots: 5, Logs: 2, Buckets: 1}}
	const loads = 2 * api.LineWords
	l := layoutOf(t, c)
	fresh := func() []uint64 { return emptyStore(t, l) }
	comesUp(t, l, fresh(), "two copies")
	for word := range api.LineWords {
		for _, bit := range []int{0, 1, 31, 63} {
			for line := range 2 {
				words := fresh()
				words[line*api.LineWords+word] ^= 1 << bit
				comesUp(t, l, words, "one copy")
				words[(1-line)*api.LineWords+(word+3)%api.LineWords] ^= 1 << bit
				refused(t, l, words, loads, "no copy")
			}
		}
	}
	for _, other := range others {
		for line := range 2 {
			words := fresh()
			block(t, words, line, other)
			refused(t, l, words, loads, "copies that part")
			words[(1-line)*api.LineWords+7]++
			refused(t, l, words, loads, "one copy, of another config")
		}
		words := fresh()
		block(t, words, 0, other)
		block(t, words, 1, other)
		refused(t, l, words, loads, "two copies of another config")
	}
	words := fresh()
	clear(words[:2*api.LineWords])
	refused(t, l, words, loads, "noughts")
	refused(t, l, make([]uint64, len(words)), loads, "noughts alone")
}

func TestWaysThatAreNone(t *testing.T) { // 22.1, 22.3
	l := layoutOf(t, api.Config{Threads: 2, Slots: 5, Logs: 2, Buckets: 2})
	words := emptyStore(t, l)
	words[l.Next(0)] = bits.Link(3, api.None)
	words[l.Set()] = bits.Link(1, api.None)
	words[l.Key(2)] = keyOf(1, 2, 0)
	const ahead = 2 * api.LineWords
	comesUp(t, l, words, "a store")
	for _, c := range []struct {
		name  string
		at    int
		w     uint64
		loads int
	}{
		{"a queue without a slot", l.Head(), 0, 1},
		{"a queue whose head has a thread", l.Head(), bits.Link(0, 1), 1},
		{"no link", l.Next(0), bits.Link(5, -1), 2},
		{"a thread that there is not", l.Next(0), bits.Link(3, 2), 2},
		{"a value of 33 bits", l.Val(3), 1 << 32, 3},
		{"a queue that goes round", l.Next(3), bits.Link(0, -1), 4},
		{"a queue whose last slot was taken away", l.Next(3), bits.Link(-1, 0), 4},
		{"a slot of the queue in the set", l.Set(), bits.Link(3, -1), 5},
		{"a key of 33 bits", l.Key(1), 1 << 32, 6},
		{"a slot of the set in a bucket", l.Bucket(0), bits.Link(1, -1), 9},
		{"a key of another bucket", l.Bucket(0), bits.Link(2, -1), 10},
		{"the last head", l.Bucket(1), bits.Link(-1, 0), 10},
	} {
		spoilt := slices.Clone(words)
		spoilt[c.at] = c.w
		refused(t, l, spoilt, ahead+c.loads, c.name)
	}
}

func TestTwins(t *testing.T) { // 22.1: as a Mark and a Repair do in a memory of the same words
	draw := drawing()
	for _, c := range configs() {
		l := layoutOf(t, c)
		for n := range 60 {
			words := drawnStore(t, draw, l)
			m, twin := over(t, l, words), over(t, l, words)
			who := n % c.Threads
			w := walkOf(t, l, m, who)
			w.super()
			marked := mark.New(l, who)
			w.like(marked, twin)
			mended := repair.New(l, who, marked)
			w.like(mended, twin)
			var rest []int
			for s, live := range mended.Live() {
				if !live {
					rest = append(rest, s)
				}
			}
			w.frees(rest...)
			w.ends(true)
			if t.Failed() {
				t.Fatalf("of %x", words)
			}
		}
	}
}

// like does what a machine does in another memory, till that is done.
func (w *walk) like(a interface{ Step(m *pmem.Mem) bool }, twin *pmem.Mem) {
	w.Helper()
	for done := false; !done; {
		done = a.Step(twin)
		w.step(twin.Last())
	}
}

func TestMost(t *testing.T) { // 22.2
	for _, x := range []struct {
		c    api.Config
		want int
	}{
		{api.Config{Threads: 1, Slots: 1, Logs: 1, Buckets: 1}, 12 + 4 + 8 + 4 + 40},
		{api.Config{Threads: 2, Slots: 10, Logs: 3, Buckets: 4}, 120 + 24 + 16 + 16 + 40},
		{api.Config{Threads: 64, Slots: 65536, Logs: 64, Buckets: 64}, 786432 + 16384 + 512 + 256 + 40},
		{api.Config{}, 0},
		{api.Config{Threads: 0, Slots: 1, Logs: 1, Buckets: 1}, 0},
		{api.Config{Threads: 65, Slots: 1, Logs: 1, Buckets: 1}, 0},
		{api.Config{Threads: 1, Slots: 0, Logs: 1, Buckets: 1}, 0},
		{api.Config{Threads: 1, Slots: 65537, Logs: 1, Buckets: 1}, 0},
		{api.Config{Threads: 1, Slots: 1, Logs: 0, Buckets: 1}, 0},
		{api.Config{Threads: 1, Slots: 1, Logs: 65, Buckets: 1}, 0},
		{api.Config{Threads: 1, Slots: 1, Logs: 1, Buckets: 0}, 0},
		{api.Config{Threads: 1, Slots: 1, Logs: 1, Buckets: 65}, 0},
		{api.Config{Threads: math.MinInt, Slots: math.MaxInt, Logs: math.MaxInt, Buckets: math.MaxInt}, 0},
	} {
		if got := revive.Most(x.c); got != x.want {
			t.Errorf("Most(%+v) = %d, want %d", x.c, got, x.want)
		}
	}
}

// worst are the words of a store that is full, all of whose links are dirty, and of which as many slots of the queue were taken away as is asked for, by threads that did not end that.
func worst(t *testing.T, l *layout.Layout, taken int) []uint64 {
	t.Helper()
	words := emptyStore(t, l)
	c := l.Config()
	at, by := l.Head(), api.None
	for s := range taken + 1 {
		words[at] = bits.Soil(bits.Link(s, by))
		at, by = l.Next(s), s%c.Threads
	}
	words[at] = bits.Soil(0)
	at = l.Set()
	for s := taken + 1; s < c.Slots; s++ {
		words[at] = bits.Soil(bits.Link(s, api.None))
		words[l.Key(s)] = uint64(s)
		at = l.Next(s)
	}
	words[at] = bits.Soil(0)
	for n := range c.Buckets {
		words[l.Bucket(n)] = bits.Soil(0)
	}
	return words
}

func TestWorst(t *testing.T) { // 22.2
	for _, c := range append(configs(), api.Config{Threads: 64, Slots: 65, Logs: 64, Buckets: 64}, api.Config{Threads: 64, Slots: api.MaxSlots, Logs: 64, Buckets: 64}) {
		l := layoutOf(t, c)
		for _, taken := range []int{0, c.Slots / 2, min(c.Slots-1, c.Threads)} {
			m := over(t, l, worst(t, l, taken))
			x := revive.New(l, 0)
			if n := steps(t, x, m); !x.Up() || n > revive.Most(c) {
				t.Errorf("%+v, %d taken away: up %v, behind %d steps, more than %d", c, taken, x.Up(), n, revive.Most(c))
			}
		}
	}
}

func TestNoRevive(t *testing.T) { // 22.1
	l := layoutOf(t, api.Config{Threads: 1, Slots: 1, Logs: 1, Buckets: 1})
	m := over(t, l, emptyStore(t, l))
	for _, x := range []*revive.Revive{nil, {}} {
		if !x.Done() || x.Up() || x.Corrupt() || !x.Step(m) || !x.Step(nil) || m.Clock() != 0 {
			t.Errorf("done %v, up %v, corrupt %v, %d accesses", x.Done(), x.Up(), x.Corrupt(), m.Clock())
		}
	}
}

func TestThreadsAndLayoutsThatThereAreNot(t *testing.T) { // R1
	l := layoutOf(t, api.Config{Threads: 2, Slots: 4, Logs: 1, Buckets: 1})
	for _, who := range []int{math.MinInt, -1, 2, 64, math.MaxInt} {
		m := over(t, l, worst(t, l, 2))
		x := revive.New(l, who)
		steps(t, x, m)
		if slots, is := free.List(l, m); !x.Up() || !is || !slices.Equal(slots, []int{0, 1}) {
			t.Errorf("the thread %d: up %v, the free list is %v, %v", who, x.Up(), slots, is)
		}
	}
	m := over(t, l, emptyStore(t, l))
	if x := revive.New(&layout.Layout{}, 0); steps(t, x, m) != 2*api.LineWords || !x.Corrupt() {
		t.Errorf("a layout of noughts: corrupt %v", x.Corrupt())
	}
	d, _ := pdev.Open(emptyStore(t, l)[:3*api.LineWords], 1)
	short, _ := pmem.New(d, 1)
	if x := revive.New(l, 0); steps(t, x, short) > revive.Most(l.Config()) {
		t.Errorf("a memory without most of its words: up %v", x.Up())
	}
	if x := revive.New(l, 0); steps(t, x, new(pmem.Mem)) != 2*api.LineWords || !x.Corrupt() {
		t.Errorf("a memory of noughts: corrupt %v", x.Corrupt())
	}
}

func TestAnyWords(t *testing.T) { // P4: they are refused, or come up
	draw := drawing()
	l := layoutOf(t, api.Config{Threads: 2, Slots: 4, Logs: 2, Buckets: 2})
	all := [2]int{}
	for range 3000 {
		words := drawnStore(t, draw, l)
		for range draw(4) {
			at := draw(len(words))
			words[at] = []uint64{0, words[at] + 1, words[draw(len(words))], uint64(draw(9)), math.MaxUint64, bits.Link(draw(5), draw(3)-1)}[draw(6)]
		}
		m := over(t, l, words)
		x := revive.New(l, 0)
		if n := steps(t, x, m); n > revive.Most(l.Config()) {
			t.Errorf("%d steps", n)
		}
		_, _, e := super.Both(api.Line(words[:8]), api.Line(words[8:16]))
		if isStore := e == api.OK && view.Right(l, words); x.Up() != isStore {
			t.Errorf("up %v, want %v", x.Up(), isStore)
		}
		if x.Corrupt() {
			all[0]++
			if !slices.Equal(m.Device().Seen(), words) || slices.Max(passing(l, m)) != 0 {
				t.Errorf("it was written to")
			}
		} else {
			all[1]++
		}
		if t.Failed() {
			t.Fatalf("of %x", words)
		}
	}
	if min(all[0], all[1]) < 300 {
		t.Errorf("%d refused, %d up", all[0], all[1])
	}
}
