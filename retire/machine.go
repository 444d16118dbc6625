package retire

import (
	"iter"

	"limekiln/layout"
	"limekiln/pmem"
)

// The parts by which an entry is put.
const (
	loadPart  = iota // what must be known ahead is loaded
	storePart        // the entry is stored
	flushPart        // its line is flushed
	fencePart        // and fenced
)

// machine is what each machine has: where everything lies, its thread, and whether it is done.
type machine struct {
	where  *layout.Layout
	thread int
	done   bool
}

// entry is the word of one of the thread's entries.
func (x *machine) entry(place int) int {
	return x.where.Log(x.thread, place)
}

// behind tells whether a place lies behind the log's last one.
func (x *machine) behind(place int) bool {
	return place >= x.where.Config().Logs
}

// putter is a machine that puts an entry, and lets it last.
type putter struct {
	machine
	place int
	part  int
}

// put does what comes next behind the loads.
func (x *putter) put(m *pmem.Mem, w uint64) {
	switch x.part {
	case storePart:
		m.Store(x.thread, x.entry(x.place), w)
	case flushPart:
		m.Flush(x.thread, x.entry(x.place))
	case fencePart:
		m.Fence(x.thread)
		x.done = true
	}
	x.part++
}

// entries yields the entries of a thread's log, in order, from a place on: the place, and the number of the word.
func entries(l *layout.Layout, t, from int) iter.Seq2[int, int] {
	return func(yield func(place, at int) bool) {
		for place := from; place < l.Config().Logs; place++ {
			if !yield(place, l.Log(t, place)) {
				return
			}
		}
	}
}
