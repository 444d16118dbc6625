package view

import (
	"iter"

	"limekiln/api"
	"limekiln/bits"
	"limekiln/hash"
	"limekiln/layout"
)

// The numbers of the lists, as places tell them.
const (
	queueList = iota
	setList
	firstBucket
)

// spot is a place, and what its slot has.
type spot struct {
	Place
	key, val uint64
}

// reader reads the ways of words that may be a store's.
type reader struct {
	where *layout.Layout
	words []uint64
	met   map[int]struct{} // by slots, of all ways, since no two of them may meet
	spots []spot
}

// read answers all slots on the ways, in order, if the words are a store's.
func read(l *layout.Layout, words []uint64) ([]spot, api.Errno) {
	if l.Lines() == 0 { // a layout of noughts has nothing, as one that is nil
		return nil, api.ErrArg
	}
	if len(words) != l.Lines()*api.LineWords {
		return nil, api.ErrForm
	}
	x := &reader{where: l, words: words, met: map[int]struct{}{}}
	if !x.readAll() {
		return nil, api.ErrCorrupt
	}
	return x.spots, api.OK
}

// readAll reads all ways, and tells whether they are a store's.
func (x *reader) readAll() bool {
	if !x.readQueue() {
		return false
	}
	list := queueList
	for head := range hash.Heads(x.where) {
		list++
		if !x.readList(list, head) {
			return false
		}
	}
	return true
}

// readQueue reads the queue's way. Slots are taken away from its beginning on, and never the last one.
func (x *reader) readQueue() bool {
	first, live := true, false
	for s, right := range x.way(queueList, x.where.Head()) {
		if !right || live && !s.Live || !first && !isShort(s.val) {
			return false
		}
		first, live = false, s.Live
	}
	return live
}

// readList reads the way of the set, or of a bucket.
func (x *reader) readList(list, head int) bool {
	least := uint64(0)
	for s, right := range x.way(list, head) {
		if !right || s.key < least || !isShort(s.key) || !isShort(s.val) || !x.lies(s) {
			return false
		}
		least = s.key + 1
	}
	return true
}

// lies tells whether a slot's key may be on its way.
func (x *reader) lies(s spot) bool {
	return s.List < firstBucket || hash.Bucket(uint32(s.key), x.where.Config().Buckets) == s.List-firstBucket
}

// way yields a way's slots, one by one, and whether links lead there, and on, as they may. Behind a slot where they do not it ends.
func (x *reader) way(list, head int) iter.Seq2[spot, bool] {
	return func(yield func(spot, bool) bool) {
		link := x.words[head]
		if !x.mayBe(link) || isTaken(link) {
			yield(spot{}, false)
			return
		}
		for slot := bits.To(link); slot != api.None; slot = bits.To(link) {
			link = x.words[x.where.Next(slot)]
			right := x.meet(slot) && x.mayBe(link)
			if !yield(x.note(slot, list, !isTaken(link)), right) || !right {
				return
			}
		}
	}
}

// meet meets a slot, and tells whether it is the first time.
func (x *reader) meet(slot int) bool {
	_, there := x.met[slot]
	x.met[slot] = struct{}{}
	return !there
}

// note keeps a slot that is on a way.
func (x *reader) note(slot, list int, live bool) spot {
	s := spot{
		Place: Place{Slot: slot, List: list, Live: live},
		key:   x.words[x.where.Key(slot)],
		val:   x.words[x.where.Val(slot)],
	}
	x.spots = append(x.spots, s)
	return s
}

// mayBe tells whether a word is a link of such a store.
func (x *reader) mayBe(w uint64) bool {
	c := x.where.Config()
	return bits.Right(w, c.Slots, c.Threads)
}

// isTaken tells whether a link says that its slot was taken away.
func isTaken(w uint64) bool {
	return bits.By(w) != api.None
}

// isShort tells whether a word has no more bits than keys and values have.
func isShort(w uint64) bool {
	return w>>32 == 0
}
