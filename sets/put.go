package sets

import (
	"limekiln/api"
	"limekiln/arena"
	"limekiln/bits"
	"limekiln/pmem"
)

// toPut goes on behind the Seek of a key that is to be put in. A slot that it has from ahead, when its link could not be put, it fills anew.
func (x *Work) toPut(m *pmem.Mem) {
	switch {
	case x.seek.Found():
		x.loads(m, x.there)
	case x.take.Slot() != api.None:
		x.next = x.keyPart
	default:
		x.take = arena.NewTake(x.where, x.thread)
		x.does(x.take, x.took)
	}
}

// there ends the work at a key that is there. A slot that it has it needs no more.
func (x *Work) there(m *pmem.Mem) {
	s := x.take.Slot()
	if s == api.None {
		x.tellsThere(m)
		return
	}
	x.give = arena.NewGive(x.where, x.thread, s)
	x.does(x.give, x.tellsThere)
}

// took goes on behind the Take.
func (x *Work) took(*pmem.Mem) {
	if x.take.Slot() == api.None {
		x.answers(api.ResFull, 0, x.take.Empty())
		return
	}
	x.next = x.keyPart
}

// keyPart stores the slot's key.
func (x *Work) keyPart(m *pmem.Mem) {
	m.Store(x.thread, x.where.Key(x.take.Slot()), uint64(x.op.Key))
	x.next = x.valPart
}

// valPart stores its value.
func (x *Work) valPart(m *pmem.Mem) {
	m.Store(x.thread, x.where.Val(x.take.Slot()), uint64(x.op.Val))
	x.next = x.linkPart
}

// linkPart stores its link, by which it goes on to what will come behind it.
func (x *Work) linkPart(m *pmem.Mem) {
	behind := bits.Link(bits.To(x.seek.Word()), api.None)
	m.Store(x.thread, x.where.Next(x.take.Slot()), behind)
	x.next = x.tagPart
}

// tagPart stores its tag.
func (x *Work) tagPart(m *pmem.Mem) {
	m.Store(x.thread, x.where.Tag(x.take.Slot()), uint64(x.thread+1))
	x.next = x.flushPart
}

// flushPart flushes all that: it must last ahead of any link to the slot.
func (x *Work) flushPart(m *pmem.Mem) {
	m.Flush(x.thread, x.where.Next(x.take.Slot()))
	x.next = x.fencePart
}

// fencePart lets it last, and goes on to put the link to the slot.
func (x *Work) fencePart(m *pmem.Mem) {
	m.Fence(x.thread)
	x.puts(x.seek.Prev(), x.seek.Word(), bits.Link(x.take.Slot(), api.None), x.hung)
}

// hung goes on behind the Set. Where another link had come, the key may be there by now.
func (x *Work) hung(*pmem.Mem) {
	if !x.set.Put() {
		x.seeks(x.toPut)
		return
	}
	x.next = x.dropPart
}

// dropPart drops the intent: the slot is the list's.
func (x *Work) dropPart(m *pmem.Mem) {
	m.Store(x.thread, x.where.Intent(x.thread), 0)
	x.answers(api.ResOK, 0, x.set.When())
}
