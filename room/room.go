// Package room finds a place in a thread's log for a slot that is about to be taken away, a step at a time. It is no layer's: sets and queue do this alike.
package room

import (
	"limekiln/api"
	"limekiln/epoch"
	"limekiln/layout"
	"limekiln/pmem"
	"limekiln/retire"
)

// Find finds a place: a Reserve; if that has none: an Advance, a Reclaim, and another Reserve.
type Find struct {
	where   *layout.Layout
	thread  int
	slot    int
	next    func(m *pmem.Mem) // the part that does the next step; none, if it is done
	reserve *retire.Reserve   // the first one, or the one behind the Reclaim
	advance *epoch.Advance
	reclaim *retire.Reclaim // none, while it has not met that the log is full
}

// NewFind is a machine that finds a place for a slot.
func NewFind(l *layout.Layout, t, slot int) *Find {
	x := &Find{where: l, thread: t, slot: slot}
	x.reserves()
	return x
}

// Step does a step.
func (x *Find) Step(m *pmem.Mem) bool {
	if x.Done() {
		return true
	}
	x.next(m)
	return x.Done()
}

// Done tells whether it is done.
func (x *Find) Done() bool {
	return x == nil || x.next == nil
}

// Place is the place that the slot has in the log; None, if it found none, or is not done.
func (x *Find) Place() int {
	if x == nil || !x.Done() {
		return api.None
	}
	return x.reserve.Place()
}

// Holds is the slot that it holds, while that is given back.
func (x *Find) Holds() int {
	if x == nil {
		return api.None
	}
	return x.reclaim.Holds()
}

// reserves begins to reserve a place.
func (x *Find) reserves() {
	x.reserve = retire.NewReserve(x.where, x.thread, x.slot)
	x.next = x.reservePart
}

// reservePart reserves a place. Where the log is full, what can be given back is, once; then it tries again.
func (x *Find) reservePart(m *pmem.Mem) {
	if !x.reserve.Step(m) {
		return
	}
	if x.reserve.Place() != api.None || x.reclaim != nil {
		x.next = nil
		return
	}
	x.advance = epoch.NewAdvance(x.where, x.thread)
	x.reclaim = retire.NewReclaim(x.where, x.thread)
	x.next = x.advancePart
}

// advancePart lets the epoch go on, if nobody holds it up.
func (x *Find) advancePart(m *pmem.Mem) {
	if x.advance.Step(m) {
		x.next = x.reclaimPart
	}
}

// reclaimPart gives back what the log has that nobody can look at any more.
func (x *Find) reclaimPart(m *pmem.Mem) {
	if x.reclaim.Step(m) {
		x.reserves()
	}
}
