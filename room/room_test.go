package room_test

import (
	"math"
	"slices"
	"testing"

	"limekiln/api"
	"limekiln/bits"
	"limekiln/free"
	"limekiln/layout"
	"limekiln/pdev"
	"limekiln/pmem"
	"limekiln/retire"
	"limekiln/room"
)

// ground is a layout of two threads and five slots, with logs of so many entries, and a memory of noughts.
func ground(t *testing.T, logs int) (*layout.Layout, *pmem.Mem) {
	t.Helper()
	l, e := layout.Of(api.Config{Threads: 2, Slots: 5, Logs: logs, Buckets: 1})
	if e != api.OK {
		t.Fatalf("layout.Of: %v", e)
	}
	d, e := pdev.New(l.Lines(), 2)
	if e != api.OK {
		t.Fatalf("pdev.New: %v", e)
	}
	m, e := pmem.New(d, l.Passing())
	if e != api.OK {
		t.Fatalf("pmem.New: %v", e)
	}
	return l, m
}

// finds lets a Find be done. It fails if that takes another number of steps, or one of them is not one access by its thread; and tells what it held, each once.
func finds(t *testing.T, m *pmem.Mem, x *room.Find, thread, steps int) []int {
	t.Helper()
	var held []int
	clock := m.Clock()
	for n := 1; n <= steps; n++ {
		if x.Done() || x.Place() != api.None {
			t.Errorf("ahead of the step %d: Done() = %v, Place() = %d", n, x.Done(), x.Place())
		}
		if x.Step(m) != (n == steps) || m.Clock() != clock+n || m.Last().Thread != thread {
			t.Errorf("the step %d of %d: Done() = %v, %d accesses, the last one %+v", n, steps, x.Done(), m.Clock()-clock, m.Last())
		}
		if s := x.Holds(); s != api.None && !slices.Contains(held, s) {
			held = append(held, s)
		}
	}
	last := m.Last()
	if !x.Step(m) || !x.Done() || m.Last() != last || x.Holds() != api.None {
		t.Errorf("a step of what is done does something, or it holds %d", x.Holds())
	}
	return held
}

// logged fails if a log has other slots, or other slots are free.
func logged(t *testing.T, l *layout.Layout, m *pmem.Mem, thread int, want, open []int) {
	t.Helper()
	if got := retire.Slots(l, m, thread); !slices.Equal(got, want) {
		t.Errorf("the log is %v, want %v", got, want)
	}
	if got, is := free.List(l, m); !is || !slices.Equal(got, open) {
		t.Errorf("free are %v, %v, want %v", got, is, open)
	}
}

func TestWhereThereIsRoom(t *testing.T) {
	for place := range 3 {
		l, m := ground(t, 3)
		for n := range place {
			m.Store(0, l.Log(1, n), bits.Entry(n, 0)) // which could be given back
		}
		m.Store(0, l.Epoch(), 7)
		x := room.NewFind(l, 1, 4)
		finds(t, m, x, 1, place+4)
		if x.Place() != place {
			t.Errorf("Place() = %d, want %d", x.Place(), place)
		}
		logged(t, l, m, 1, append([]int{0, 1, 2}[:place:place], 4), nil)
		if m.Device().Kept()[l.Log(1, place)] != bits.Entry(4, api.None) {
			t.Errorf("the entry is not kept")
		}
		if w, _ := m.Peek(l.Epoch()); w != 7 {
			t.Errorf("the epoch is %d", w)
		}
	}
}

func TestWhereTheLogIsFull(t *testing.T) {
	l, m := ground(t, 2)
	m.Store(0, l.Epoch(), 5)
	m.Store(0, l.Log(1, 0), bits.Entry(2, 5))
	m.Store(0, l.Log(1, 1), bits.Entry(3, api.None))
	x := room.NewFind(l, 1, 4)
	held := finds(t, m, x, 1, 2+4+3+2)
	if x.Place() != api.None || len(held) != 0 {
		t.Errorf("Place() = %d, it held %v", x.Place(), held)
	}
	logged(t, l, m, 1, []int{2, 3}, nil)
	if w, _ := m.Peek(l.Epoch()); w != 6 {
		t.Errorf("the epoch is %d", w)
	}
}

func TestWhereTheLogWasFull(t *testing.T) {
	for _, in := range []bool{false, true} { // a thread that is in by an earlier epoch holds the Advance up
		l, m := ground(t, 2)
		m.Store(0, l.Epoch(), 5)
		m.Store(0, l.Log(0, 0), bits.Entry(2, 5))
		m.Store(0, l.Log(0, 1), bits.Entry(3, 3))
		advance := 4
		if in {
			m.Store(0, l.Announce(0), 5)
			advance = 2
		}
		x := room.NewFind(l, 0, 4)
		held := finds(t, m, x, 0, 2+advance+3+4+5)
		if x.Place() != 1 || !slices.Equal(held, []int{3}) {
			t.Errorf("Place() = %d, it held %v", x.Place(), held)
		}
		logged(t, l, m, 0, []int{2, 4}, []int{3})
	}
}

func TestWhereTheAdvanceLetsASlotBeGivenBack(t *testing.T) {
	for stamp, want := range map[int]int{3: 0, 4: 0, 5: api.None} {
		l, m := ground(t, 1)
		m.Store(0, l.Epoch(), 5)
		m.Store(0, l.Log(0, 0), bits.Entry(3, stamp))
		x := room.NewFind(l, 0, 4)
		for n := 0; n < 50 && !x.Step(m); n++ {
		}
		if !x.Done() || x.Place() != want {
			t.Errorf("the stamp %d: Place() = %d, want %d", stamp, x.Place(), want)
		}
	}
}

func TestNoFind(t *testing.T) { // R1
	var none *room.Find
	for _, x := range []*room.Find{none, {}} {
		if !x.Step(nil) || !x.Done() || x.Place() != api.None || x.Holds() != api.None {
			t.Errorf("Done() = %v, Place() = %d, Holds() = %d", x.Done(), x.Place(), x.Holds())
		}
	}
	l, m := ground(t, 1)
	for _, thread := range []int{math.MinInt, -1, 2, math.MaxInt} {
		x := room.NewFind(l, thread, 0)
		for n := 0; n < 50 && !x.Step(m); n++ {
		}
		if !x.Done() || x.Place() != 0 {
			t.Errorf("the thread %d: Done() = %v, Place() = %d", thread, x.Done(), x.Place())
		}
	}
}
