package sets

import (
	"limekiln/api"
	"limekiln/pmem"
)

// toTell goes on behind the Seek of a key that is looked for.
func (x *Work) toTell(m *pmem.Mem) {
	if !x.seek.Found() {
		x.tellsGone()
		return
	}
	x.loads(m, x.tellsThere)
}

// loads loads the value of the slot that was found, if the operation tells it.
func (x *Work) loads(m *pmem.Mem, then func(m *pmem.Mem)) {
	if !tellsValue(x.op.Kind) {
		then(m)
		return
	}
	x.next = func(m *pmem.Mem) {
		x.val = uint32(m.Load(x.thread, x.where.Val(x.seek.Curr())))
		then(m)
	}
}

// tellsThere tells that the key is there.
func (x *Work) tellsThere(*pmem.Mem) {
	x.answers(api.ResThere, x.val, x.seek.When())
}

// tellsGone tells that the key is not there.
func (x *Work) tellsGone() {
	x.answers(api.ResGone, 0, x.seek.When())
}

// tellsValue tells whether an operation tells a key's value.
func tellsValue(kind int) bool {
	return kind == api.OpPut || kind == api.OpGet || kind == api.OpCut
}
