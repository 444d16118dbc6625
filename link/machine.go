package link

import (
	"limekiln/bits"
	"limekiln/pmem"
)

// The parts of a machine, a step each.
const (
	firstPart = iota // the link is loaded, or put: this part is each machine's own
	flushPart        // its line is flushed
	fencePart        // and fenced
	cleanPart        // it is put clean
)

// machine is what each machine has: its thread, the word's number, which part comes next, the link that was loaded, or is to be put, when it was, and whether the machine is done.
type machine struct {
	thread int
	at     int
	part   int
	word   uint64
	when   int
	done   bool
}

// keep does the next step by which a dirty link is let last, and tells whether that was the last one. It is put clean only where it still stands: what has come in its place is not known to last.
func (x *machine) keep(m *pmem.Mem) bool {
	switch x.part {
	case flushPart:
		m.Flush(x.thread, x.at)
	case fencePart:
		m.Fence(x.thread)
	case cleanPart:
		m.Swap(x.thread, x.at, x.word, bits.Clean(x.word))
		return true
	}
	x.part++
	return false
}
