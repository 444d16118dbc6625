package retire

import (
	"limekiln/api"
	"limekiln/bits"
	"limekiln/free"
	"limekiln/layout"
	"limekiln/pmem"
)

// wait is how many epochs must have gone by behind a slot's stamp: who was in at that time holds the epoch up ahead of the second one.
const wait = 2

// The parts of a Reclaim.
const (
	epochPart = iota // the epoch is loaded
	lookPart         // an entry is loaded
	emptyPart        // it is let be empty
	givePart         // its slot is given back
)

// Reclaim gives back what nobody can look at any more.
type Reclaim struct {
	machine
	part  int
	epoch uint64
	place int        // the entry that is looked at
	slot  int        // its slot, if that is to be given back
	push  *free.Push // what gives it back, while it is held
	count int
}

// NewReclaim is a machine that gives back.
func NewReclaim(l *layout.Layout, t int) *Reclaim {
	return &Reclaim{machine: machine{where: l, thread: t}}
}

// Step does a step.
func (x *Reclaim) Step(m *pmem.Mem) bool {
	if x.Done() {
		return true
	}
	switch x.part {
	case epochPart:
		x.epoch = m.Load(x.thread, x.where.Epoch())
		x.goOn(0)
	case lookPart:
		x.look(m)
	case emptyPart:
		x.empty(m)
	case givePart:
		x.give(m)
	}
	return x.done
}

// Done tells whether it is done.
func (x *Reclaim) Done() bool {
	return x == nil || x.done
}

// Holds is the slot that it holds.
func (x *Reclaim) Holds() int {
	if x == nil || x.push == nil {
		return api.None
	}
	return x.slot
}

// Count is how many were given back.
func (x *Reclaim) Count() int {
	if x == nil {
		return 0
	}
	return x.count
}

// goOn goes on with the entry of a place. Behind the last one it is done.
func (x *Reclaim) goOn(place int) {
	x.place = place
	x.part = lookPart
	x.done = x.behind(place)
}

// look looks whether the slot of the next entry is to be given back.
func (x *Reclaim) look(m *pmem.Mem) {
	for place, at := range entries(x.where, x.thread, x.place) { // one a step
		w := m.Load(x.thread, at)
		if !x.over(w) {
			x.goOn(place + 1)
			return
		}
		x.slot = bits.To(w)
		x.part = emptyPart
		return
	}
}

// over tells whether nobody can look at an entry's slot any more.
func (x *Reclaim) over(w uint64) bool {
	slot, stamp := bits.To(w), bits.Stamp(w)
	return slot != api.None && stamp != api.None && uint64(stamp)+wait <= x.epoch
}

// empty lets the entry be empty: from now on the slot stands nowhere, and is held.
func (x *Reclaim) empty(m *pmem.Mem) {
	m.Store(x.thread, x.entry(x.place), 0)
	x.push = free.NewPush(x.where, x.thread, x.slot)
	x.part = givePart
}

// give gives the slot back that is held.
func (x *Reclaim) give(m *pmem.Mem) {
	if !x.push.Step(m) {
		return
	}
	x.push = nil
	x.count++
	x.goOn(x.place + 1)
}
