package queue

import (
	"limekiln/api"
	"limekiln/bits"
	"limekiln/pmem"
	"limekiln/retire"
	"limekiln/room"
)

// looks says, so that it lasts, that an OpDeq begins, and looks at the queue. The head must never go past the tail: a tail that lags is moved ahead of all else.
func (x *Work) looks(m *pmem.Mem) {
	switch x.step {
	case cellStep:
		was := m.Load(x.thread, x.where.Cell(x.thread))
		x.cell = bits.Cell(bits.Seq(was)+1, false, 0)
	case beginStep:
		m.Store(x.thread, x.where.Cell(x.thread), x.cell)
	case beginFlushStep:
		m.Flush(x.thread, x.where.Cell(x.thread))
	case beginFenceStep:
		m.Fence(x.thread)
	case headStep:
		x.head = m.Load(x.thread, x.where.Head())
	case tailStep:
		x.tail = m.Load(x.thread, x.where.Tail())
		x.reads(bits.To(x.head))
	case readStep:
		if x.read.Step(m) {
			x.decides()
		}
		return
	case lagStep:
		x.moves(m, x.where.Tail(), x.tail, x.behind())
		goto anew
	}
	x.step++
	return
anew:
	x.step = headStep
}

// decides decides by the link of the head's slot what comes next.
func (x *Work) decides() {
	switch {
	case x.behind() == api.None:
		x.answers(api.ResEmpty, 0, x.read.When())
	case bits.To(x.tail) == bits.To(x.head):
		x.step = lagStep
	case bits.By(x.read.Word()) != api.None:
		x.step = helpedStep
	default:
		x.room = room.NewFind(x.where, x.thread, bits.To(x.head))
		x.step = roomStep
	}
}

// helps ends for another thread what that has begun: its cell must say, and last, that it has taken the value, ahead of the head that leads past it. While the head stands, that thread is at this OpDeq still.
func (x *Work) helps(m *pmem.Mem) {
	cell := x.where.Cell(bits.By(x.read.Word()))
	switch x.step {
	case helpedStep:
		x.helped = m.Load(x.thread, cell)
	case helpValStep:
		x.loadsVal(m)
	case helpHeadStep:
		if m.Load(x.thread, x.where.Head()) != x.head {
			goto anew
		}
		if bits.Done(x.helped) {
			x.step = helpFlushStep
			return
		}
	case helpCellStep:
		x.tells(m, cell, x.helped)
	case helpFlushStep:
		m.Flush(x.thread, cell)
	case helpFenceStep:
		m.Fence(x.thread)
	case helpMoveStep:
		x.moves(m, x.where.Head(), x.head, x.behind())
		goto anew
	}
	x.step++
	return
anew:
	x.step = headStep
}

// takes takes the first value: from the link on that says by whom it was taken, it is. Where another link had come ahead, the queue is looked at anew.
func (x *Work) takes(m *pmem.Mem) {
	switch x.step {
	case roomStep:
		if !x.room.Step(m) {
			return
		}
		if x.room.Place() == api.None {
			x.answers(api.ResFull, 0, m.Clock())
			return
		}
		x.puts(bits.To(x.head), bits.Link(x.behind(), x.thread))
	case markStep:
		if !x.set.Step(m) {
			return
		}
		if !x.set.Put() {
			x.step = cancelStep
			return
		}
	case valStep:
		x.loadsVal(m)
	case tellStep:
		x.tells(m, x.where.Cell(x.thread), x.cell)
	case tellFlushStep:
		m.Flush(x.thread, x.where.Cell(x.thread))
	case tellFenceStep:
		m.Fence(x.thread)
	case headMoveStep:
		x.moves(m, x.where.Head(), x.head, x.behind())
	case headFlushStep:
		m.Flush(x.thread, x.where.Head())
	case headFenceStep:
		m.Fence(x.thread)
		x.stamp = retire.NewStamp(x.where, x.thread, x.room.Place(), bits.To(x.head))
	case stampStep:
		if x.stamp.Step(m) {
			x.answers(api.ResOK, x.val, x.set.When())
		}
		return
	case cancelStep:
		retire.NewCancel(x.where, x.thread, x.room.Place()).Step(m)
		goto anew
	}
	x.step++
	return
anew:
	x.step = headStep
}

// loadsVal loads the value of the slot that was read.
func (x *Work) loadsVal(m *pmem.Mem) {
	x.val = uint32(m.Load(x.thread, x.where.Val(x.behind())))
}

// tells puts a cell that is done in the place of the one that is not, with the value.
func (x *Work) tells(m *pmem.Mem, at int, cell uint64) {
	m.Swap(x.thread, at, cell, bits.Cell(bits.Seq(cell), true, x.val))
}
