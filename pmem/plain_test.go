package pmem_test

import (
	"slices"
	"testing"

	"limekiln/api"
	"limekiln/pdev"
	"limekiln/pmem"
)

// plain is a memory by the document's words alone: all words in one map, and what is kept and flushed in a device that is asked for nothing else. It is what the package's memory is held against.
type plain struct {
	words      map[int]uint64
	device     *pdev.Dev
	threads    int
	clock, bad int
	last       api.Access
}

func newPlain(lines, threads, passing int) *plain {
	p := &plain{words: map[int]uint64{}, threads: threads}
	p.device, _ = pdev.New(lines, threads)
	for at := -passing; at < lines*api.LineWords; at++ {
		p.words[at] = 0
	}
	return p
}

// do does an access, of which Old of a swap is what is asked for, and tells what was there.
func (p *plain) do(a api.Access) {
	old, is := p.words[a.At]
	asked := a.Old
	a.Old = 0
	switch a.Kind {
	case api.AcLoad:
		a.New = 0
		a.Old, a.Done = old, is
	case api.AcStore:
		a.Old, a.Done = old, is
	case api.AcSwap:
		a.Old, a.Done = old, is && old == asked
	case api.AcFlush:
		a.New = 0
		is = is && a.At >= 0 && a.Thread >= 0 && a.Thread < p.threads
		if is {
			p.device.Flush(a.Thread, a.At/8)
		}
		a.Done = is
	case api.AcFence:
		a.New, a.At = 0, 0
		is = p.device.Fence(a.Thread) == api.OK
		a.Done = is
	}
	if a.Done && (a.Kind == api.AcStore || a.Kind == api.AcSwap) {
		p.words[a.At] = a.New
		p.device.Store(a.At, a.New)
	}
	p.clock++
	if !is {
		p.bad++
	}
	p.last = a
}

func (p *plain) crash() {
	p.device.Crash()
	for at := range p.words {
		p.words[at], _ = p.device.Load(at)
	}
	p.last = api.Access{}
}

// both does to both memories what a number says.
func both(t *testing.T, m *pmem.Mem, p *plain, x uint64) {
	t.Helper()
	a := api.Access{Kind: int(x % 6), Thread: int(x>>8%5) - 1, At: int(x>>16%31) - 6, Old: x >> 24 % 3, New: x >> 32 % 3}
	if a.Kind == api.AcNone {
		if x>>40%4 == 0 {
			m.Crash()
			p.crash()
		}
		return
	}
	p.do(a)
	switch a.Kind {
	case api.AcLoad:
		if w := m.Load(a.Thread, a.At); w != p.last.Old {
			t.Errorf("Load(%d, %d) = %d, want %d", a.Thread, a.At, w, p.last.Old)
		}
	case api.AcStore:
		m.Store(a.Thread, a.At, a.New)
	case api.AcSwap:
		if is := m.Swap(a.Thread, a.At, a.Old, a.New); is != p.last.Done {
			t.Errorf("Swap(%d, %d, %d, %d) = %v", a.Thread, a.At, a.Old, a.New, is)
		}
	case api.AcFlush:
		m.Flush(a.Thread, a.At)
	case api.AcFence:
		m.Fence(a.Thread)
	}
}

// like fails if two memories tell unlike things.
func like(t *testing.T, m *pmem.Mem, p *plain) {
	t.Helper()
	last(t, m, p.last, p.clock, p.bad)
	for at := -8; at < 30; at++ {
		want, there := p.words[at]
		if w, is := m.Peek(at); w != want || is != there {
			t.Errorf("Peek(%d) = %d, %v, want %d, %v", at, w, is, want, there)
		}
		writes := 0
		if at >= 0 {
			writes = p.device.Writes(at / 8)
		}
		if got := m.Writes(at); got != writes {
			t.Errorf("Writes(%d) = %d, want %d", at, got, writes)
		}
	}
	d := m.Device()
	if !slices.Equal(d.Kept(), p.device.Kept()) || !slices.Equal(d.Seen(), p.device.Seen()) {
		t.Errorf("the devices are unlike")
	}
	for i := range p.threads {
		if !slices.Equal(d.Pending(i), p.device.Pending(i)) {
			t.Errorf("the thread %d flushes %v, want %v", i, d.Pending(i), p.device.Pending(i))
		}
	}
}

func TestMemoryDoesWhatAPlainOneDoes(t *testing.T) { // 7.1 to 7.4
	m, _ := memory(t, 3, 3, 4)
	p := newPlain(3, 3, 4)
	x := uint64(1)
	for range 20000 {
		x = x*6364136223846793005 + 1442695040888963407
		both(t, m, p, x^x>>29)
		like(t, m, p)
		if t.Failed() {
			t.FailNow()
		}
	}
	if p.clock == p.bad || p.bad == 0 {
		t.Errorf("%d accesses, %d bad ones", p.clock, p.bad)
	}
}
