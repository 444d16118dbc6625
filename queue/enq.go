package queue

import (
	"limekiln/api"
	"limekiln/bits"
	"limekiln/pmem"
)

// fills takes a slot, and fills it. All of that must last ahead of any link to the slot.
func (x *Work) fills(m *pmem.Mem) {
	switch x.step {
	case takeStep:
		if !x.take.Step(m) {
			return
		}
		if x.take.Slot() == api.None {
			x.answers(api.ResFull, 0, x.take.Empty())
			return
		}
	case fillValStep:
		m.Store(x.thread, x.where.Val(x.take.Slot()), uint64(x.op.Val))
	case fillLinkStep:
		m.Store(x.thread, x.where.Next(x.take.Slot()), 0)
	case fillTagStep:
		m.Store(x.thread, x.where.Tag(x.take.Slot()), uint64(x.thread+1))
	case fillFlushStep:
		m.Flush(x.thread, x.where.Next(x.take.Slot()))
	case fillFenceStep:
		m.Fence(x.thread)
	}
	x.step++
}

// hangs hangs the slot behind the queue's last one. Where that is another one by now, the queue's end is looked at anew.
func (x *Work) hangs(m *pmem.Mem) {
	switch x.step {
	case endStep:
		x.tail = m.Load(x.thread, x.where.Tail())
		x.reads(bits.To(x.tail))
	case endReadStep:
		if !x.read.Step(m) {
			return
		}
		if x.behind() != api.None {
			x.step = endLagStep
			return
		}
		x.puts(bits.To(x.tail), bits.Link(x.take.Slot(), api.None))
	case hangStep:
		if !x.set.Step(m) {
			return
		}
		if !x.set.Put() {
			goto anew
		}
	case endMoveStep:
		x.moves(m, x.where.Tail(), x.tail, x.take.Slot())
	case dropStep:
		m.Store(x.thread, x.where.Intent(x.thread), 0)
		x.answers(api.ResOK, 0, x.set.When())
		return
	case endLagStep:
		x.moves(m, x.where.Tail(), x.tail, x.behind())
		goto anew
	}
	x.step++
	return
anew:
	x.step = endStep
}
