package free

import (
	"limekiln/bits"
	"limekiln/layout"
	"limekiln/pmem"
)

// The parts of a try, a step each.
const (
	topPart   = iota // the top is loaded
	afterPart        // what comes behind a slot is loaded, or stored
	swapPart         // the top is swapped
)

// machine is what each machine has: where everything lies, its thread, which part comes next, the top as it was loaded, and whether it is done.
type machine struct {
	where  *layout.Layout
	thread int
	part   int
	top    uint64
	done   bool
}

// first is the slot of the top that was loaded.
func (x *machine) first() int {
	return bits.To(x.top)
}

// loadTop begins a try.
func (x *machine) loadTop(m *pmem.Mem) {
	x.top = m.Load(x.thread, x.where.Free())
	x.part = afterPart
}

// swapTop ends a try: the slot is the first one from now on, or, if the top is another one than was loaded, another try begins. A version of its own lets a top that comes back be another one, too.
func (x *machine) swapTop(m *pmem.Mem, slot int) {
	top := bits.Top(slot, bits.Ver(x.top)+1)
	x.done = m.Swap(x.thread, x.where.Free(), x.top, top)
	x.part = topPart
}
