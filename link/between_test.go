package link_test

import (
	"slices"
	"testing"

	"limekiln/api"
	"limekiln/bits"
	"limekiln/link"
	"limekiln/pmem"
)

// evicter lets a line be written back: no access of anybody.
type evicter struct {
	line int
}

func (x *evicter) Step(m *pmem.Mem) bool {
	m.Device().Evict(x.line)
	return true
}

func (x *evicter) Done() bool { return false }
func (x *evicter) When() int  { return api.None }

// field has threads that read and put links at some words, each link that is put a new one, between one another, while lines are written back.
type field struct {
	m       *pmem.Mem
	words   []int
	running []machine    // by threads
	which   []int        // by threads: the word that it reads, or puts a link at
	begun   []int        // by threads: the clock as it began
	was     [][]uint64   // by threads: what it read last, by words
	old     []uint64     // by threads: the link in whose place it puts one
	fresh   int          // the slot of the link that was put last
	now     []uint64     // by words: what was put last
	then    []([]uint64) // by the clock: now, then
	read    int
	put     int
	not     int // how often nothing was put
}

// newField is a field whose words are in lines of a device of so many.
func newField(t *testing.T, threads, lines int, words ...int) *field {
	f := &field{m: ground(t, lines, threads, 0), words: words}
	f.running = make([]machine, threads)
	f.which = make([]int, threads)
	f.begun = make([]int, threads)
	f.old = make([]uint64, threads)
	f.now = make([]uint64, len(words))
	for range threads {
		f.was = append(f.was, make([]uint64, len(words)))
	}
	f.then = [][]uint64{slices.Clone(f.now)}
	return f
}

// begin lets a thread begin to read ("r") a word, to put a new link ("s") where it read one, or to evict ("e") the word's line.
func (f *field) begin(thread int, what byte, which int) {
	f.which[thread], f.begun[thread] = which, f.m.Clock()
	at := f.words[which]
	switch what {
	case 'r':
		f.running[thread] = link.NewRead(thread, at)
	case 's':
		f.fresh++
		f.old[thread] = f.was[thread][which]
		f.running[thread] = link.NewSet(thread, at, f.old[thread], bits.Link(f.fresh, f.fresh%5-1))
	case 'e':
		f.running[thread] = &evicter{at / api.LineWords}
	}
}

// goOn does a step of a thread, and fails if it is not one access, or anything is seen clean that is not kept.
func (f *field) goOn(t *testing.T, thread int) {
	t.Helper()
	clock := f.m.Clock()
	x, which := f.running[thread], f.which[thread]
	set, is := x.(*link.Set)
	ahead := is && set.Put()
	done := x.Step(f.m)
	if _, none := x.(*evicter); !none && (f.m.Clock() != clock+1 || f.m.Last().Thread != thread || f.m.Bad() != 0) {
		t.Errorf("a step of the thread %d: %d accesses, the last one %+v, %d bad", thread, f.m.Clock()-clock, f.m.Last(), f.m.Bad())
	}
	if is && set.Put() && !ahead {
		f.puts(t, thread, set)
	}
	if f.m.Clock() > clock {
		f.then = append(f.then, slices.Clone(f.now))
	}
	f.lasts(t)
	if done {
		f.ended(t, thread, which)
		f.running[thread] = nil
	}
}

// puts notes that a link was put. It fails if another one was in its place, or the time is another one.
func (f *field) puts(t *testing.T, thread int, x *link.Set) {
	t.Helper()
	which := f.which[thread]
	if f.now[which] != f.old[thread] || x.When() != f.m.Clock() || x.Writes() != f.m.Writes(f.words[which]) {
		t.Errorf("%#x is put in the place of %#x, where %#x is, at %d", bits.Clean(f.m.Last().New), f.old[thread], f.now[which], x.When())
	}
	f.now[which] = bits.Clean(f.m.Last().New)
	f.put++
}

// lasts fails if a word is another one than was put last, or is clean, and not kept.
func (f *field) lasts(t *testing.T) {
	t.Helper()
	kept := f.m.Device().Kept()
	for i, at := range f.words {
		w, _ := f.m.Peek(at)
		if bits.Clean(w) != f.now[i] {
			t.Errorf("the word %d is %#x, want %#x", at, w, f.now[i])
		}
		if !bits.Dirty(w) && bits.Clean(kept[at]) != w {
			t.Errorf("the word %d is %#x, and kept as %#x", at, w, kept[at])
		}
	}
}

// ended fails if what was read was not there at the time that is told, or nothing was put where the old link stood all the while.
func (f *field) ended(t *testing.T, thread, which int) {
	t.Helper()
	switch x := f.running[thread].(type) {
	case *link.Read:
		f.read++
		f.was[thread][which] = x.Word()
		if x.When() <= f.begun[thread] || x.When() > f.m.Clock() || f.then[x.When()][which] != x.Word() {
			t.Errorf("the thread %d has read %#x at %d", thread, x.Word(), x.When())
		}
		if kept := f.m.Device().Kept()[f.words[which]]; bits.Dirty(x.Word()) || bits.Clean(kept) != x.Word() {
			t.Errorf("the thread %d has read %#x, %#x is kept", thread, x.Word(), kept)
		}
	case *link.Set:
		if x.Put() {
			return
		}
		f.not++
		if was := f.m.Last().Old; was == f.old[thread] {
			t.Errorf("the thread %d has not put its link in the place of %#x, where %#x was", thread, f.old[thread], was)
		}
	}
}

// plays lets threads do what they are to do at one word, picked as said, and tells which of them still have something to do.
func plays(t *testing.T, plan []string, picks []int) []int {
	t.Helper()
	f := newField(t, len(plan), 1, 3)
	at := make([]int, len(plan))
	begin := func(thread int) {
		if f.running[thread] == nil && at[thread] < len(plan[thread]) {
			f.begin(thread, plan[thread][at[thread]], 0)
			at[thread]++
		}
	}
	for i := range plan {
		begin(i)
	}
	for _, i := range picks {
		f.goOn(t, i)
		begin(i)
	}
	var left []int
	for i := range plan {
		if f.running[i] != nil {
			left = append(left, i)
		}
	}
	return left
}

// orders goes over all orders in which threads can be picked till nobody has anything to do, and tells how many there are.
func orders(t *testing.T, plan []string, picks []int) int {
	t.Helper()
	left := plays(t, plan, picks)
	if t.Failed() {
		t.Fatalf("of %v, picked %v", plan, picks)
	}
	if len(left) == 0 {
		return 1
	}
	n := 0
	for _, i := range left {
		n += orders(t, plan, append(slices.Clone(picks), i))
	}
	return n
}

func TestAllOrders(t *testing.T) { // 13.3
	for _, plan := range [][]string{
		{"s", "r"},
		{"s", "rr"},
		{"s", "rs"},
		{"s", "srs"},
		{"sr", "se"},
		{"s", "r", "ee"},
		{"s", "r", "r"},
		{"s", "s", "r"},
	} {
		if n := orders(t, plan, nil); n < 20 {
			t.Errorf("only %d orders of %v", n, plan)
		}
	}
}

func TestManyBetweenOneAnother(t *testing.T) { // 13.3
	x := uint64(1)
	draw := func(n int) int {
		x = x*6364136223846793005 + 1442695040888963407
		return int(x >> 33 % uint64(n))
	}
	for _, threads := range []int{2, 3, 5} {
		for _, words := range [][]int{{0}, {3, 4}, {7, 8}, {1, 2, 9, 23}} {
			f := newField(t, threads, 3, words...)
			for range 20000 {
				i := draw(threads)
				if f.running[i] == nil {
					f.begin(i, "rrrrsse"[draw(7)], draw(len(words)))
				}
				f.goOn(t, i)
				if t.Failed() {
					t.Fatalf("of %d threads, the words %v", threads, words)
				}
			}
			if f.read < 500 || f.put < 500 || f.not < 100 {
				t.Errorf("of %d threads, the words %v: only %d were read, %d put, %d not", threads, words, f.read, f.put, f.not)
			}
		}
	}
}
