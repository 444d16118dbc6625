package epoch

import (
	"limekiln/layout"
	"limekiln/pmem"
)

// machine is what each machine has: where everything lies, its thread, and whether it is done.
type machine struct {
	where  *layout.Layout
	thread int
	done   bool
}

// announce is the last step of coming in and of going out: what the thread announces is stored.
func (x *machine) announce(m *pmem.Mem, w uint64) {
	m.Store(x.thread, x.where.Announce(x.thread), w)
	x.done = true
}

// reader is a machine that loads the epoch first.
type reader struct {
	machine
	loaded bool
	epoch  uint64
}

// load is its first step.
func (x *reader) load(m *pmem.Mem) {
	x.epoch = m.Load(x.thread, x.where.Epoch())
	x.loaded = true
}

// next is the epoch that was loaded, and 1 more: what announces it, and what the epoch moves to.
func (x *reader) next() uint64 {
	return x.epoch + 1
}
