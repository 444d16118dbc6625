package sets

import (
	"limekiln/api"
	"limekiln/bits"
	"limekiln/pmem"
	"limekiln/retire"
	"limekiln/room"
)

// toTake goes on behind the Seek of a key that is to be taken out.
func (x *Work) toTake(m *pmem.Mem) {
	if !x.seek.Found() {
		x.tellsGone()
		return
	}
	x.slot = x.seek.Curr()
	x.loads(m, x.found)
}

// found finds room for the slot in the log: once it is taken away it must stand there.
func (x *Work) found(*pmem.Mem) {
	x.room = room.NewFind(x.where, x.thread, x.slot)
	x.does(x.room, x.reserved)
}

// reserved goes on behind that.
func (x *Work) reserved(m *pmem.Mem) {
	if x.room.Place() == api.None {
		x.answers(api.ResFull, 0, m.Clock())
		return
	}
	x.marks()
}

// marks puts the link that says that the slot was taken away, and by whom.
func (x *Work) marks() {
	w := x.seek.Link()
	x.puts(x.where.Next(x.slot), w, bits.Link(bits.To(w), x.thread), x.marked)
}

// marked goes on behind the Set. What was taken away the next Seek lets be in the list no more. Where another link had come, the key may be gone by now.
func (x *Work) marked(*pmem.Mem) {
	if x.set.Put() {
		x.seeks(x.passed)
		return
	}
	x.does(retire.NewCancel(x.where, x.thread, x.room.Place()), x.canceled)
}

// canceled begins anew.
func (x *Work) canceled(*pmem.Mem) {
	x.seeks(x.toTake)
}

// passed stamps the slot's entry: who comes in from now on does not meet the slot.
func (x *Work) passed(*pmem.Mem) {
	x.does(retire.NewStamp(x.where, x.thread, x.room.Place(), x.slot), x.stamped)
}

// stamped ends the work.
func (x *Work) stamped(*pmem.Mem) {
	x.answers(api.ResOK, x.val, x.set.When())
}
