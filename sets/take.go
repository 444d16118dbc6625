package sets

import (
	"limekiln/api"
	"limekiln/bits"
	"limekiln/epoch"
	"limekiln/pmem"
	"limekiln/retire"
)

// toTake goes on behind the Seek of a key that is to be taken out.
func (x *Work) toTake(m *pmem.Mem) {
	if !x.seek.Found() {
		x.tellsGone()
		return
	}
	x.slot = x.seek.Curr()
	x.loads(m, x.found)
}

// found reserves a place for the slot: once it is taken away it must stand in the log.
func (x *Work) found(*pmem.Mem) {
	x.reserves(x.reserved)
}

// reserves reserves a place in the log.
func (x *Work) reserves(then func(m *pmem.Mem)) {
	x.reserve = retire.NewReserve(x.where, x.thread, x.slot)
	x.does(x.reserve, then)
}

// reserved goes on behind the first Reserve. Where the log is full, what can be given back is, once.
func (x *Work) reserved(*pmem.Mem) {
	if x.reserve.Place() != api.None {
		x.marks()
		return
	}
	x.does(epoch.NewAdvance(x.where, x.thread), x.advanced)
}

// advanced goes on behind the Advance.
func (x *Work) advanced(*pmem.Mem) {
	x.reclaim = retire.NewReclaim(x.where, x.thread)
	x.does(x.reclaim, x.reclaimed)
}

// reclaimed goes on behind the Reclaim.
func (x *Work) reclaimed(*pmem.Mem) {
	x.reserves(x.reservedAgain)
}

// reservedAgain goes on behind the second Reserve.
func (x *Work) reservedAgain(m *pmem.Mem) {
	if x.reserve.Place() == api.None {
		x.answers(api.ResFull, 0, m.Clock())
		return
	}
	x.marks()
}

// marks puts the link that says that the slot was taken away, and by whom.
func (x *Work) marks() {
	w := x.seek.Link()
	x.puts(x.where.Next(x.slot), w, bits.Link(bits.To(w), x.thread), x.marked)
}

// marked goes on behind the Set. What was taken away the next Seek lets be in the list no more. Where another link had come, the key may be gone by now.
func (x *Work) marked(*pmem.Mem) {
	if x.set.Put() {
		x.seeks(x.passed)
		return
	}
	x.does(retire.NewCancel(x.where, x.thread, x.reserve.Place()), x.canceled)
}

// canceled begins anew.
func (x *Work) canceled(*pmem.Mem) {
	x.seeks(x.toTake)
}

// passed stamps the slot's entry: who comes in from now on does not meet the slot.
func (x *Work) passed(*pmem.Mem) {
	x.does(retire.NewStamp(x.where, x.thread, x.reserve.Place(), x.slot), x.stamped)
}

// stamped ends the work.
func (x *Work) stamped(*pmem.Mem) {
	x.answers(api.ResOK, x.val, x.set.When())
}
