// Package bits is layer 1: the words that lie in memory, which are links, entries of logs, cells, and tops.
package bits

import (
	"limekiln/api"
)

// Where the fields of words begin, and how long they are.
const (
	slotAt, slotLong   = 0, 32  // of a link, an entry, or a top: the slot and 1 more
	byAt, byLong       = 32, 7  // of a link: the thread and 1 more
	dirtyAt, dirtyLong = 63, 1  // of a link
	stampAt, stampLong = 32, 32 // of an entry: the stamp and 1 more
	valAt, valLong     = 0, 32  // of a cell
	doneAt, doneLong   = 32, 1  // of a cell
	seqAt, seqLong     = 33, 31 // of a cell
	verAt, verLong     = 32, 32 // of a top
)

// cut makes the function that takes a field out of a word.
func cut(at, long uint) func(w uint64) uint64 {
	return func(w uint64) uint64 {
		return (w >> at) & (1<<long - 1)
	}
}

// lay makes the function that answers a word of nothing but a field; what is too long for the field is cut, so that it never runs into the field beside it.
func lay(at, long uint) func(n uint64) uint64 {
	return func(n uint64) uint64 {
		return (n & (1<<long - 1)) << at
	}
}

// more is what a field keeps of a number that may be none: 1 more, by which none is 0.
func more(n int) uint64 {
	return uint64(n) + 1
}

// less is the number of which a field keeps 1 more.
func less(field uint64) int {
	if field == 0 {
		return api.None
	}
	return int(field) - 1
}

// To is the slot of a link, an entry, or a top.
func To(w uint64) int {
	return less(cut(slotAt, slotLong)(w))
}

// By is the thread that took a link's slot away.
func By(w uint64) int {
	return less(cut(byAt, byLong)(w))
}

// Dirty tells whether a link is not yet known to last.
func Dirty(w uint64) bool {
	return cut(dirtyAt, dirtyLong)(w) == 1
}

// Clean is a link that is not dirty.
func Clean(w uint64) uint64 {
	return w &^ lay(dirtyAt, dirtyLong)(1)
}

// Soil is a link that is dirty.
func Soil(w uint64) uint64 {
	return w | lay(dirtyAt, dirtyLong)(1)
}

// Link is the link of a slot and a thread, not dirty.
func Link(to, by int) uint64 {
	return lay(slotAt, slotLong)(more(to)) | lay(byAt, byLong)(more(by))
}

// Right tells whether a word is a link of a store of that many slots and threads.
func Right(w uint64, slots, threads int) bool {
	// Bits that no link has are lost where the link is made anew.
	whole := Link(To(w), By(w)) == Clean(w)
	return whole && To(w) < slots && By(w) < threads
}

// Stamp is an entry's stamp.
func Stamp(w uint64) int {
	return less(cut(stampAt, stampLong)(w))
}

// Entry is the entry of a slot and a stamp.
func Entry(slot, stamp int) uint64 {
	return lay(slotAt, slotLong)(more(slot)) | lay(stampAt, stampLong)(more(stamp))
}

// Seq is a cell's number.
func Seq(w uint64) int {
	return int(cut(seqAt, seqLong)(w))
}

// Done tells whether a cell is done.
func Done(w uint64) bool {
	return cut(doneAt, doneLong)(w) == 1
}

// Val is a cell's value.
func Val(w uint64) uint32 {
	return uint32(cut(valAt, valLong)(w))
}

// Cell is the cell of a number and a value.
func Cell(seq int, done bool, val uint32) uint64 {
	w := lay(seqAt, seqLong)(uint64(seq)) | lay(valAt, valLong)(uint64(val))
	if done {
		w |= lay(doneAt, doneLong)(1)
	}
	return w
}

// Ver is a top's version.
func Ver(w uint64) uint32 {
	return uint32(cut(verAt, verLong)(w))
}

// Top is the top of a slot and a version.
func Top(slot int, ver uint32) uint64 {
	return lay(slotAt, slotLong)(more(slot)) | lay(verAt, verLong)(uint64(ver))
}
