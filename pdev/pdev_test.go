package pdev_test

import (
	"math"
	"slices"
	"testing"

	"limekiln/api"
	"limekiln/pdev"
)

// mixed are n words without a rule that is to be seen, the same each time.
func mixed(n int) []uint64 {
	l := make([]uint64, n)
	x := uint64(1)
	for i := range l {
		x = x*6364136223846793005 + 1442695040888963407
		l[i] = x ^ x>>29
	}
	return l
}

// device is a device of noughts that may be.
func device(t *testing.T, n, threads int) *pdev.Dev {
	t.Helper()
	d, e := pdev.New(n, threads)
	if e != api.OK || d == nil {
		t.Fatalf("New(%d, %d): %v", n, threads, e)
	}
	return d
}

// must fails if an error is another one.
func must(t *testing.T, got, want api.Errno) {
	t.Helper()
	if got != want {
		t.Errorf("told %v, want %v", got, want)
	}
}

// whole is all that can be told of a device.
type whole struct {
	kept, seen []uint64
	pending    [][]int
	writes     []int
}

// tell is all that is told of a device of so many threads.
func tell(d *pdev.Dev, threads int) whole {
	w := whole{kept: d.Kept(), seen: d.Seen()}
	for i := range threads {
		w.pending = append(w.pending, d.Pending(i))
	}
	for i := range d.Lines() {
		w.writes = append(w.writes, d.Writes(i))
	}
	return w
}

// like fails if two tellings are unlike.
func like(t *testing.T, got, want whole) {
	t.Helper()
	if !slices.Equal(got.kept, want.kept) {
		t.Errorf("kept: %v, want %v", got.kept, want.kept)
	}
	if !slices.Equal(got.seen, want.seen) {
		t.Errorf("seen: %v, want %v", got.seen, want.seen)
	}
	if !slices.EqualFunc(got.pending, want.pending, slices.Equal[[]int]) {
		t.Errorf("pending: %v, want %v", got.pending, want.pending)
	}
	if !slices.Equal(got.writes, want.writes) {
		t.Errorf("writes: %v, want %v", got.writes, want.writes)
	}
}

// beyond are numbers that are below 0, or not below n.
func beyond(n int) []int {
	return []int{math.MinInt, -1 << 32, -8, -1, n, n + 1, n + 8, 1 << 32, math.MaxInt}
}

func TestNewAtTheEdges(t *testing.T) { // 4.1
	for _, x := range []struct {
		n, threads int
		want       api.Errno
	}{
		{1, 1, api.OK},
		{3, 2, api.OK},
		{1, api.MaxThreads, api.OK},
		{api.MaxLines, 1, api.OK},
		{api.MaxLines, api.MaxThreads, api.OK},
		{0, 1, api.ErrArg},
		{-1, 1, api.ErrArg},
		{math.MinInt, 1, api.ErrArg},
		{api.MaxLines + 1, 1, api.ErrArg},
		{math.MaxInt, 1, api.ErrArg},
		{1, 0, api.ErrArg},
		{1, -1, api.ErrArg},
		{1, math.MinInt, api.ErrArg},
		{1, api.MaxThreads + 1, api.ErrArg},
		{1, math.MaxInt, api.ErrArg},
		{0, 0, api.ErrArg},
	} {
		d, e := pdev.New(x.n, x.threads)
		if e != x.want || (d != nil) != (e == api.OK) {
			t.Errorf("New(%d, %d) = %v, %v, want %v", x.n, x.threads, d != nil, e, x.want)
		}
		if e != api.OK {
			continue
		}
		if d.Lines() != x.n {
			t.Errorf("New(%d, %d) has %d lines", x.n, x.threads, d.Lines())
		}
		must(t, d.Fence(x.threads-1), api.OK)
		must(t, d.Fence(x.threads), api.ErrArg)
		_, e = d.Load(x.n*api.LineWords - 1)
		must(t, e, api.OK)
	}
}

func TestNewIsOfNoughts(t *testing.T) { // 4.1
	none := make([]uint64, 24)
	like(t, tell(device(t, 3, 2), 2), whole{kept: none, seen: none, pending: [][]int{nil, nil}, writes: []int{0, 0, 0}})
}

func TestOpenAtTheEdges(t *testing.T) { // 4.1
	const most = api.MaxLines * api.LineWords
	all := make([]uint64, most+api.LineWords+1)
	for _, x := range []struct {
		n, threads int
		want       api.Errno
	}{
		{8, 1, api.OK},
		{24, api.MaxThreads, api.OK},
		{most, 1, api.OK},
		{0, 1, api.ErrForm},
		{7, 1, api.ErrForm},
		{9, 1, api.ErrForm},
		{most - 1, 1, api.ErrForm},
		{most + api.LineWords, 1, api.ErrLong},
		{most + api.LineWords + 1, 1, api.ErrForm},
		{8, 0, api.ErrArg},
		{8, -1, api.ErrArg},
		{8, math.MinInt, api.ErrArg},
		{8, api.MaxThreads + 1, api.ErrArg},
		{8, math.MaxInt, api.ErrArg},
		{0, 0, api.ErrArg}, // threads are asked ahead of words
		{7, 65, api.ErrArg},
		{most + api.LineWords, 0, api.ErrArg},
	} {
		d, e := pdev.Open(all[:x.n], x.threads)
		if e != x.want || (d != nil) != (e == api.OK) {
			t.Errorf("Open of %d words, %d = %v, %v, want %v", x.n, x.threads, d != nil, e, x.want)
		}
		if e == api.OK && d.Lines() != x.n/api.LineWords {
			t.Errorf("Open of %d words has %d lines", x.n, d.Lines())
		}
	}
	if d, e := pdev.Open(nil, 1); d != nil || e != api.ErrForm {
		t.Errorf("Open(nil, 1) = %v, %v", d != nil, e)
	}
}

func TestOpenKeepsAndSeesTheWords(t *testing.T) { // 4.1, R3
	words := mixed(40)
	d, e := pdev.Open(words, 2)
	must(t, e, api.OK)
	if !slices.Equal(words, mixed(40)) {
		t.Errorf("the words were changed")
	}
	clear(words)
	want := whole{kept: mixed(40), seen: mixed(40), pending: [][]int{nil, nil}, writes: make([]int, 5)}
	like(t, tell(d, 2), want)
	must(t, d.Store(0, 1), api.OK)
	d.Crash()
	like(t, tell(d, 2), want)
}

func TestStoreIsSeenAndNotKept(t *testing.T) { // 4.2
	d, e := pdev.Open(mixed(24), 1)
	must(t, e, api.OK)
	for at := range 24 {
		must(t, d.Store(at, uint64(at)+100), api.OK)
		seen := mixed(24)
		for i := range at + 1 {
			seen[i] = uint64(i) + 100
		}
		for i, want := range seen {
			if w, e := d.Load(i); e != api.OK || w != want {
				t.Errorf("Load(%d) behind %d stores = %d, %v", i, at+1, w, e)
			}
		}
		like(t, tell(d, 1), whole{kept: mixed(24), seen: seen, pending: [][]int{nil}, writes: []int{0, 0, 0}})
	}
}

func TestNoSuchWord(t *testing.T) { // 4.2
	d, _ := pdev.Open(mixed(24), 1)
	before := tell(d, 1)
	for _, at := range beyond(24) {
		if w, e := d.Load(at); w != 0 || e != api.ErrRange {
			t.Errorf("Load(%d) = %d, %v", at, w, e)
		}
		must(t, d.Store(at, 5), api.ErrRange)
	}
	like(t, tell(d, 1), before)
}

func TestNoSuchThreadOrLine(t *testing.T) { // 4.3, 4.4
	d, _ := pdev.Open(mixed(24), 2)
	must(t, d.Store(9, 5), api.OK)
	must(t, d.Flush(1, 1), api.OK)
	before := tell(d, 2)
	for _, thread := range beyond(2) {
		must(t, d.Flush(thread, 0), api.ErrArg)
		must(t, d.Fence(thread), api.ErrArg)
		if p := d.Pending(thread); len(p) != 0 {
			t.Errorf("Pending(%d) = %v", thread, p)
		}
		for _, line := range beyond(3) {
			must(t, d.Flush(thread, line), api.ErrArg) // the thread is asked ahead of the line
		}
	}
	for _, line := range beyond(3) {
		must(t, d.Flush(0, line), api.ErrRange)
		must(t, d.Evict(line), api.ErrRange)
		if n := d.Writes(line); n != 0 {
			t.Errorf("Writes(%d) = %d", line, n)
		}
	}
	like(t, tell(d, 2), before)
}

func TestExampleOfTheDocument(t *testing.T) { // 4.3
	for _, fenced := range []bool{false, true} {
		d := device(t, 2, 1)
		must(t, d.Store(9, 5), api.OK)
		must(t, d.Flush(0, 1), api.OK)
		want := uint64(0)
		if fenced {
			must(t, d.Fence(0), api.OK)
			want = 5
		}
		d.Crash()
		if w, e := d.Load(9); e != api.OK || w != want {
			t.Errorf("fenced %t: the word 9 is %d, %v", fenced, w, e)
		}
	}
}

func TestFlushWritesNothingBack(t *testing.T) { // 4.3
	d := device(t, 2, 2)
	must(t, d.Store(0, 5), api.OK)
	must(t, d.Flush(0, 0), api.OK)
	must(t, d.Flush(0, 0), api.OK)
	if d.Kept()[0] != 0 || d.Writes(0) != 0 {
		t.Errorf("kept behind a flush: %v, written %d times", d.Kept(), d.Writes(0))
	}
	if p := d.Pending(0); !slices.Equal(p, []int{0}) {
		t.Errorf("flushed twice, pending %v", p)
	}
}

func TestFenceIsOfItsThreadAlone(t *testing.T) { // 4.3
	d := device(t, 4, 3)
	for i := range 32 {
		must(t, d.Store(i, uint64(i)+1), api.OK)
	}
	must(t, d.Flush(0, 3), api.OK)
	must(t, d.Flush(0, 1), api.OK)
	must(t, d.Flush(1, 1), api.OK)
	must(t, d.Flush(2, 2), api.OK)
	must(t, d.Fence(0), api.OK)
	kept := make([]uint64, 32)
	for i := range 8 {
		kept[8+i], kept[24+i] = uint64(8+i)+1, uint64(24+i)+1
	}
	want := whole{kept: kept, seen: d.Seen(), pending: [][]int{nil, {1}, {2}}, writes: []int{0, 1, 0, 1}}
	like(t, tell(d, 3), want)
	must(t, d.Fence(0), api.OK) // it flushes none any more
	like(t, tell(d, 3), want)
	must(t, d.Fence(1), api.OK) // written back again, though nothing has changed
	want.pending, want.writes = [][]int{nil, nil, {2}}, []int{0, 2, 0, 1}
	like(t, tell(d, 3), want)
}

func TestLineThatChangesBetweenFlushAndFence(t *testing.T) { // 4.3, 4.5
	d := device(t, 2, 2)
	must(t, d.Store(8, 1), api.OK)
	must(t, d.Flush(0, 1), api.OK)
	must(t, d.Store(8, 2), api.OK)
	must(t, d.Store(15, 3), api.OK)
	must(t, d.Fence(0), api.OK)
	must(t, d.Store(8, 4), api.OK)
	if k := d.Kept(); k[8] != 2 || k[15] != 3 {
		t.Errorf("kept %v: not what is seen as it is fenced", k)
	}
	must(t, d.Fence(0), api.OK)
	must(t, d.Fence(1), api.OK)
	d.Crash()
	if s := d.Seen(); s[8] != 2 || s[15] != 3 || d.Writes(1) != 1 {
		t.Errorf("seen behind the crash: %v, written %d times", s, d.Writes(1))
	}
}

func TestEvictWritesOneLineBack(t *testing.T) { // 4.3
	d := device(t, 3, 2)
	for i := range 24 {
		must(t, d.Store(i, uint64(i)+1), api.OK)
	}
	must(t, d.Flush(1, 1), api.OK)
	must(t, d.Evict(1), api.OK)
	kept := make([]uint64, 24)
	copy(kept[8:16], d.Seen()[8:16])
	want := whole{kept: kept, seen: d.Seen(), pending: [][]int{nil, {1}}, writes: []int{0, 1, 0}}
	like(t, tell(d, 2), want)
	must(t, d.Store(8, 99), api.OK)
	must(t, d.Fence(1), api.OK) // it still flushed it
	if d.Kept()[8] != 99 || d.Writes(1) != 2 {
		t.Errorf("a fence behind an eviction: %v, written %d times", d.Kept(), d.Writes(1))
	}
	must(t, d.Evict(1), api.OK)
	if d.Writes(1) != 3 {
		t.Errorf("evicted as it was: written %d times", d.Writes(1))
	}
}

func TestCrashBehindACrash(t *testing.T) { // 4.3, 4.5
	d, _ := pdev.Open(mixed(24), 2)
	must(t, d.Store(0, 1), api.OK)
	must(t, d.Store(8, 2), api.OK)
	must(t, d.Store(16, 3), api.OK)
	must(t, d.Evict(0), api.OK)
	must(t, d.Flush(0, 1), api.OK)
	must(t, d.Flush(1, 2), api.OK)
	must(t, d.Fence(1), api.OK)
	must(t, d.Flush(1, 0), api.OK)
	kept := mixed(24)
	kept[0], kept[16] = 1, 3
	want := whole{kept: kept, seen: kept, pending: [][]int{nil, nil}, writes: []int{1, 0, 1}}
	for range 3 {
		d.Crash()
		like(t, tell(d, 2), want)
	}
	must(t, d.Store(8, 7), api.OK)
	must(t, d.Fence(0), api.OK) // what it flushed ahead of the crash it does not flush any more
	if d.Kept()[8] != kept[8] || d.Seen()[8] != 7 || d.Writes(1) != 0 {
		t.Errorf("a fence behind a crash: %v", d.Kept())
	}
}

func TestPendingRises(t *testing.T) { // 4.4
	d := device(t, 100, 2)
	for i := range 150 {
		must(t, d.Flush(1, i*37%100), api.OK)
	}
	want := make([]int, 100)
	for i := range want {
		want[i] = i
	}
	if p := d.Pending(1); !slices.Equal(p, want) {
		t.Errorf("pending: %v", p)
	}
	if p := d.Pending(0); len(p) != 0 {
		t.Errorf("pending by another one: %v", p)
	}
}

func TestAnswersAreOwnMemory(t *testing.T) { // R3
	d, _ := pdev.Open(mixed(24), 1)
	must(t, d.Store(3, 5), api.OK)
	must(t, d.Flush(0, 2), api.OK)
	must(t, d.Flush(0, 1), api.OK)
	before := tell(d, 1)
	clear(d.Kept())
	clear(d.Seen())
	clear(d.Pending(0))
	_ = append(d.Pending(0)[:1], 0)
	like(t, tell(d, 1), before)

	kept, seen, pending := d.Kept(), d.Seen(), d.Pending(0)
	must(t, d.Flush(0, 0), api.OK)
	must(t, d.Fence(0), api.OK)
	must(t, d.Store(4, 6), api.OK)
	d.Crash()
	if !slices.Equal(kept, before.kept) || !slices.Equal(seen, before.seen) || !slices.Equal(pending, []int{1, 2}) {
		t.Errorf("what was answered was changed later")
	}
}

func TestDevicesAreApart(t *testing.T) { // R3
	a, _ := pdev.Open(mixed(16), 1)
	b, _ := pdev.Open(a.Kept(), 1)
	must(t, a.Store(0, 5), api.OK)
	must(t, a.Evict(0), api.OK)
	like(t, tell(b, 1), whole{kept: mixed(16), seen: mixed(16), pending: [][]int{nil}, writes: []int{0, 0}})
}

func TestNoDevice(t *testing.T) { // 4.1 to 4.4, R1
	var d *pdev.Dev
	for _, n := range append(beyond(2), 0, 1) {
		if w, e := d.Load(n); w != 0 || e != api.ErrArg {
			t.Errorf("Load(%d) = %d, %v", n, w, e)
		}
		must(t, d.Store(n, 1), api.ErrArg)
		must(t, d.Flush(n, n), api.ErrArg)
		must(t, d.Flush(0, n), api.ErrArg)
		must(t, d.Fence(n), api.ErrArg)
		must(t, d.Evict(n), api.ErrArg)
		if d.Lines() != 0 || len(d.Kept()) != 0 || len(d.Seen()) != 0 || len(d.Pending(n)) != 0 || d.Writes(n) != 0 {
			t.Errorf("no device tells something of %d", n)
		}
	}
	d.Crash()
}

func TestGreatestDevice(t *testing.T) { // 4.1 to 4.4
	d := device(t, api.MaxLines, api.MaxThreads)
	last := api.MaxLines*api.LineWords - 1
	must(t, d.Store(last, 5), api.OK)
	must(t, d.Store(last+1, 5), api.ErrRange)
	must(t, d.Flush(api.MaxThreads-1, api.MaxLines-1), api.OK)
	must(t, d.Flush(api.MaxThreads-1, api.MaxLines), api.ErrRange)
	must(t, d.Fence(api.MaxThreads-1), api.OK)
	must(t, d.Store(last, 6), api.OK)
	d.Crash()
	if w, e := d.Load(last); w != 5 || e != api.OK || d.Writes(api.MaxLines-1) != 1 {
		t.Errorf("the last word is %d, %v", w, e)
	}
}
