package pmem_test

import (
	"math"
	"slices"
	"testing"

	"limekiln/api"
	"limekiln/pdev"
	"limekiln/pmem"
)

// memory is a memory of noughts over a device of its own.
func memory(t *testing.T, lines, threads, passing int) (*pmem.Mem, *pdev.Dev) {
	t.Helper()
	d, e := pdev.New(lines, threads)
	if e != api.OK {
		t.Fatalf("pdev.New(%d, %d): %v", lines, threads, e)
	}
	m, e := pmem.New(d, passing)
	if e != api.OK || m == nil {
		t.Fatalf("New(_, %d): %v", passing, e)
	}
	return m, d
}

// last fails if the last access, how many there were, or how many were bad, are others.
func last(t *testing.T, m *pmem.Mem, want api.Access, clock, bad int) {
	t.Helper()
	if got := m.Last(); got != want {
		t.Errorf("Last() = %+v, want %+v", got, want)
	}
	if m.Clock() != clock || m.Bad() != bad {
		t.Errorf("Clock(), Bad() = %d, %d, want %d, %d", m.Clock(), m.Bad(), clock, bad)
	}
}

// peek fails if another word is there.
func peek(t *testing.T, m *pmem.Mem, at int, want uint64) {
	t.Helper()
	if w, is := m.Peek(at); w != want || !is {
		t.Errorf("Peek(%d) = %d, %v, want %d", at, w, is, want)
	}
}

// noWords are numbers of no word of a memory of so many lines and passing words.
func noWords(lines, passing int) []int {
	n := lines * api.LineWords
	return []int{math.MinInt, math.MinInt + 1, -1 << 32, -2 - passing, -1 - passing, n, n + 1, n + 8, 1 << 32, math.MaxInt}
}

func TestNewAtTheEdges(t *testing.T) { // 7.1
	d, _ := pdev.New(1, 1)
	for _, x := range []struct {
		d       *pdev.Dev
		passing int
		want    api.Errno
	}{
		{d, 0, api.OK},
		{d, 1, api.OK},
		{d, pmem.MaxPassing, api.OK},
		{d, -1, api.ErrArg},
		{d, math.MinInt, api.ErrArg},
		{d, pmem.MaxPassing + 1, api.ErrArg},
		{d, math.MaxInt, api.ErrArg},
		{nil, 0, api.ErrArg},
		{nil, 1, api.ErrArg},
		{nil, -1, api.ErrArg},
	} {
		m, e := pmem.New(x.d, x.passing)
		if e != x.want || (m != nil) != (e == api.OK) {
			t.Errorf("New(%v, %d) = %v, %v, want %v", x.d != nil, x.passing, m != nil, e, x.want)
		}
		if e != api.OK {
			continue
		}
		if _, is := m.Peek(-x.passing); !is {
			t.Errorf("New(_, %d) has no word %d", x.passing, -x.passing)
		}
		if _, is := m.Peek(-1 - x.passing); is {
			t.Errorf("New(_, %d) has a word %d", x.passing, -1-x.passing)
		}
	}
	if pmem.MaxPassing != 1<<18 {
		t.Errorf("MaxPassing = %d", pmem.MaxPassing)
	}
}

func TestNewBegins(t *testing.T) { // 7.1, 7.4
	m, d := memory(t, 2, 1, 3)
	last(t, m, api.Access{}, 0, 0)
	for at := -3; at < 16; at++ {
		peek(t, m, at, 0)
	}
	if m.Device() != d {
		t.Errorf("Device() is another one")
	}
}

func TestNewIsOverWhatTheDeviceHas(t *testing.T) { // 7.1, 7.2
	words := []uint64{9, 8, 7, 6, 5, 4, 3, 2}
	d, _ := pdev.Open(words, 1)
	m, _ := pmem.New(d, 0)
	for at, w := range words {
		peek(t, m, at, w)
		if got := m.Load(0, at); got != w {
			t.Errorf("Load(0, %d) = %d, want %d", at, got, w)
		}
	}
	d.Store(3, 77)
	if m.Load(0, 3) != 77 {
		t.Errorf("what the device sees is not loaded")
	}
}

func TestLoadAndStore(t *testing.T) { // 7.2, 7.3
	m, d := memory(t, 2, 1, 3)
	for i, at := range []int{0, 7, 8, 15, -1, -2, -3} {
		w := math.MaxUint64 - uint64(i)
		m.Store(5, at, w)
		last(t, m, api.Access{Kind: api.AcStore, Thread: 5, At: at, New: w, Done: true}, 3*i+1, 0)
		if got := m.Load(-4, at); got != w {
			t.Errorf("Load(-4, %d) = %d, want %d", at, got, w)
		}
		last(t, m, api.Access{Kind: api.AcLoad, Thread: -4, At: at, Old: w, Done: true}, 3*i+2, 0)
		m.Store(0, at, 3)
		last(t, m, api.Access{Kind: api.AcStore, At: at, Old: w, New: 3, Done: true}, 3*i+3, 0)
		peek(t, m, at, 3)
	}
	seen := make([]uint64, 16)
	seen[0], seen[7], seen[8], seen[15] = 3, 3, 3, 3
	if !slices.Equal(d.Seen(), seen) || !slices.Equal(d.Kept(), make([]uint64, 16)) {
		t.Errorf("the device sees %v, keeps %v", d.Seen(), d.Kept())
	}
}

func TestSwap(t *testing.T) { // 7.2, 7.3, the chapter's example
	m, _ := memory(t, 2, 1, 3)
	for i, at := range []int{0, 15, -1, -3} {
		if !m.Swap(2, at, 0, 5) {
			t.Errorf("Swap(2, %d, 0, 5) is not done", at)
		}
		last(t, m, api.Access{Kind: api.AcSwap, Thread: 2, At: at, New: 5, Done: true}, 4*i+1, 0)
		if m.Swap(2, at, 0, 6) {
			t.Errorf("Swap(2, %d, 0, 6) is done again", at)
		}
		last(t, m, api.Access{Kind: api.AcSwap, Thread: 2, At: at, Old: 5, New: 6}, 4*i+2, 0)
		peek(t, m, at, 5)
		if !m.Swap(-1, at, 5, 5) {
			t.Errorf("Swap(-1, %d, 5, 5) is not done", at)
		}
		last(t, m, api.Access{Kind: api.AcSwap, Thread: -1, At: at, Old: 5, New: 5, Done: true}, 4*i+3, 0)
		if !m.Swap(99, at, 5, 1<<63) {
			t.Errorf("Swap(99, %d, 5, 1<<63) is not done", at)
		}
		last(t, m, api.Access{Kind: api.AcSwap, Thread: 99, At: at, Old: 5, New: 1 << 63, Done: true}, 4*i+4, 0)
		peek(t, m, at, 1<<63)
	}
}

func TestWordsThatThereAreNot(t *testing.T) { // 7.2, 7.3
	m, d := memory(t, 2, 1, 3)
	for at := -3; at < 16; at++ {
		m.Store(0, at, uint64(at+100))
	}
	seen, clock := d.Seen(), m.Clock()
	for i, at := range noWords(2, 3) {
		if w := m.Load(3, at); w != 0 {
			t.Errorf("Load(3, %d) = %d", at, w)
		}
		last(t, m, api.Access{Kind: api.AcLoad, Thread: 3, At: at}, clock+4*i+1, 4*i+1)
		m.Store(0, at, 9)
		last(t, m, api.Access{Kind: api.AcStore, At: at, New: 9}, clock+4*i+2, 4*i+2)
		if m.Swap(1, at, 0, 8) { // 0 is told of such a word, and yet it is not there
			t.Errorf("Swap(1, %d, 0, 8) is done", at)
		}
		last(t, m, api.Access{Kind: api.AcSwap, Thread: 1, At: at, New: 8}, clock+4*i+3, 4*i+3)
		m.Flush(0, at)
		last(t, m, api.Access{Kind: api.AcFlush, At: at}, clock+4*i+4, 4*i+4)
		if w, is := m.Peek(at); w != 0 || is {
			t.Errorf("Peek(%d) = %d, %v", at, w, is)
		}
	}
	if !slices.Equal(d.Seen(), seen) || len(d.Pending(0)) != 0 {
		t.Errorf("a bad access changed the device")
	}
	for at := -3; at < 0; at++ {
		peek(t, m, at, uint64(at+100))
	}
}

func TestFlushIsOfTheWordsLine(t *testing.T) { // 7.2, 7.3
	for at := range 24 {
		m, d := memory(t, 3, 2, 0)
		m.Flush(1, at)
		last(t, m, api.Access{Kind: api.AcFlush, Thread: 1, At: at, Done: true}, 1, 0)
		if got := d.Pending(1); !slices.Equal(got, []int{at / 8}) || len(d.Pending(0)) != 0 {
			t.Errorf("Flush(1, %d): pending %v, %v", at, d.Pending(0), got)
		}
	}
}

func TestFlushOfPassingWordsIsBad(t *testing.T) { // 7.2, 7.3
	m, d := memory(t, 2, 1, 20)
	for n := range 20 {
		m.Flush(0, -1-n)
		last(t, m, api.Access{Kind: api.AcFlush, At: -1 - n}, n+1, n+1)
	}
	if got := d.Pending(0); len(got) != 0 {
		t.Errorf("pending %v", got)
	}
}

func TestThreadsThatThereAreNot(t *testing.T) { // 7.2, 7.3
	m, d := memory(t, 2, 2, 1)
	m.Store(0, 9, 4)
	m.Flush(0, 9)
	for i, thread := range []int{math.MinInt, -2, -1, 2, 3, 64, 1 << 32, math.MaxInt} {
		m.Flush(thread, 0)
		last(t, m, api.Access{Kind: api.AcFlush, Thread: thread}, 2*i+3, 2*i+1)
		m.Fence(thread)
		last(t, m, api.Access{Kind: api.AcFence, Thread: thread}, 2*i+4, 2*i+2)
	}
	if !slices.Equal(d.Pending(0), []int{1}) || len(d.Pending(1)) != 0 || d.Writes(1) != 0 {
		t.Errorf("a bad access changed the device")
	}
}

func TestFenceWritesBack(t *testing.T) { // 7.2, 7.3, 7.4
	m, d := memory(t, 2, 2, 1)
	m.Store(0, 9, 4)
	m.Flush(1, 15)
	m.Store(0, 10, 5) // what is seen behind the fence is kept
	m.Fence(0)
	last(t, m, api.Access{Kind: api.AcFence, Done: true}, 4, 0)
	if m.Writes(9) != 0 || d.Kept()[9] != 0 {
		t.Errorf("another thread's fence wrote the line back")
	}
	m.Fence(1)
	last(t, m, api.Access{Kind: api.AcFence, Thread: 1, Done: true}, 5, 0)
	if kept := d.Kept(); kept[9] != 4 || kept[10] != 5 || len(d.Pending(1)) != 0 {
		t.Errorf("Fence: kept %v", kept)
	}
	m.Fence(1)
	for at, want := range map[int]int{8: 1, 9: 1, 15: 1, 0: 0, 7: 0, 16: 0, -1: 0, -8: 0, -9: 0, math.MinInt: 0, math.MaxInt: 0} {
		if got := m.Writes(at); got != want {
			t.Errorf("Writes(%d) = %d, want %d", at, got, want)
		}
	}
	d.Evict(0)
	d.Evict(1)
	if m.Writes(7) != 1 || m.Writes(8) != 2 {
		t.Errorf("behind evictions: Writes %d, %d", m.Writes(7), m.Writes(8))
	}
	if m.Writes(-1) != 0 || m.Writes(-7) != 0 {
		t.Errorf("passing words are told to be written back with the line 0")
	}
}

func TestWhatIsToldIsNoAccess(t *testing.T) { // 7.4
	m, _ := memory(t, 2, 1, 2)
	m.Store(0, 3, 6)
	m.Load(0, 99)
	want := m.Last()
	m.Peek(3)
	m.Peek(-1)
	m.Peek(99)
	m.Writes(3)
	m.Writes(99)
	m.Device()
	m.Clock()
	m.Bad()
	last(t, m, want, 2, 1)
}

func TestCrash(t *testing.T) { // 7.4
	m, d := memory(t, 3, 2, 4)
	for at := -4; at < 24; at++ {
		m.Store(0, at, 7)
	}
	m.Flush(0, 0)
	m.Fence(0)
	m.Flush(1, 8)
	m.Load(0, 99)
	m.Crash()
	last(t, m, api.Access{}, 32, 1)
	for at := -4; at < 24; at++ {
		want := uint64(0)
		if at >= 0 && at < 8 {
			want = 7
		}
		peek(t, m, at, want)
	}
	if len(d.Pending(1)) != 0 || m.Writes(0) != 1 || m.Writes(8) != 0 || m.Device() != d {
		t.Errorf("the device behind a crash: pending %v, writes %d, %d", d.Pending(1), m.Writes(0), m.Writes(8))
	}
	m.Fence(1)
	if m.Writes(8) != 0 {
		t.Errorf("what was flushed ahead of a crash is written back behind it")
	}
	last(t, m, api.Access{Kind: api.AcFence, Thread: 1, Done: true}, 33, 1)
}

// silent fails if a memory that has nothing tells anything, or panics.
func silent(t *testing.T, m *pmem.Mem) {
	t.Helper()
	for _, at := range []int{math.MinInt, -1, 0, 1, math.MaxInt} {
		m.Store(0, at, 5)
		m.Flush(0, at)
		if m.Load(0, at) != 0 || m.Swap(0, at, 0, 0) || m.Writes(at) != 0 {
			t.Errorf("a word %d of a memory that has none", at)
		}
		if w, is := m.Peek(at); w != 0 || is {
			t.Errorf("Peek(%d) = %d, %v", at, w, is)
		}
	}
	m.Fence(0)
	m.Crash()
	if m.Device() != nil || m.Last() != (api.Access{}) {
		t.Errorf("Device() = %v, Last() = %v", m.Device(), m.Last())
	}
}

func TestOfNoMemory(t *testing.T) { // 7.1 to 7.4, R1
	silent(t, nil)
	var none *pmem.Mem
	none.Fence(0)
	last(t, none, api.Access{}, 0, 0)
}

func TestOfAMemoryOfNoughts(t *testing.T) { // R1
	m := &pmem.Mem{}
	silent(t, m)
	if m.Clock() != m.Bad() || m.Clock() == 0 {
		t.Errorf("Clock(), Bad() = %d, %d", m.Clock(), m.Bad())
	}
}

func TestMemoriesShareTheirDeviceAlone(t *testing.T) { // 7.1, R3
	a, d := memory(t, 1, 1, 1)
	b, _ := pmem.New(d, 1)
	a.Store(0, 3, 4)
	a.Store(0, -1, 4)
	if b.Load(0, 3) != 4 || b.Load(0, -1) != 0 {
		t.Errorf("lasting words are the device's, passing ones the memory's")
	}
	last(t, a, api.Access{Kind: api.AcStore, At: -1, New: 4, Done: true}, 2, 0)
}
