package repair

import (
	"iter"

	"limekiln/api"
	"limekiln/bits"
	"limekiln/hash"
	"limekiln/layout"
	"limekiln/mark"
)

// The kinds of jobs, each one access.
const (
	ask    = iota // a cell is loaded: if it is done, the jobs that answer it are passed over
	answer        // the cell that was loaded is stored, done
	store
	flush
	fence
)

// answering is how many jobs answer a cell.
const answering = 3

// job is something that is to be done, at a word, with a word or a value.
type job struct {
	kind int
	at   int
	word uint64
}

// plan is what a mark has met, by which is told what is to be done.
type plan struct {
	where *layout.Layout
	heads []uint64
	queue []mark.Node   // all of the queue's way
	live  [][]mark.Node // of each way those that were not taken away
}

// planOf is the plan by a mark that has gone through a store.
func planOf(l *layout.Layout, x *mark.Mark) *plan {
	p := &plan{where: l, heads: x.Heads()}
	p.live = make([][]mark.Node, len(p.heads))
	for _, n := range x.Nodes() {
		if n.List == 0 {
			p.queue = append(p.queue, n)
		}
		if !isTaken(n) {
			p.live[n.List] = append(p.live[n.List], n)
		}
	}
	return p
}

// alive is of each slot whether it was not taken away from a way.
func (p *plan) alive() []bool {
	all := make([]bool, p.where.Config().Slots)
	for _, nodes := range p.live {
		for _, n := range nodes {
			if n.Slot < len(all) { // a mark of another layout may have met others
				all[n.Slot] = true
			}
		}
	}
	return all
}

// jobs yields what is to be done, in order.
func (p *plan) jobs(yield func(job) bool) {
	parts := []iter.Seq[job]{p.cells, p.head, p.links, p.lists, p.tail, p.logs, p.intents}
	for _, part := range parts {
		for j := range part {
			if !yield(j) {
				return
			}
		}
	}
}

// cells yields what lets those who took slots of the queue away know what they have taken: the value of the slot behind.
func (p *plan) cells(yield func(job) bool) {
	for i, n := range p.queue {
		if !isTaken(n) { // the first one whose value is in the queue is behind this one
			return
		}
		at := p.where.Cell(bits.By(n.Link))
		val := p.queue[i+1].Val
		if !yield(job{kind: ask, at: at}) || !yield(job{kind: answer, at: at, word: val}) || !lasts(yield, at) {
			return
		}
	}
}

// head yields what lets the queue begin with a slot that was not taken away.
func (p *plan) head(yield func(job) bool) {
	mend(yield, p.where.Head(), p.heads[0], linkTo(p.live[0][0].Slot))
}

// links yields what lets the queue's links last.
func (p *plan) links(yield func(job) bool) {
	for _, n := range p.live[0] {
		if !mend(yield, p.where.Next(n.Slot), n.Link, bits.Clean(n.Link)) {
			return
		}
	}
}

// lists yields what lets the lists go past slots that were taken away.
func (p *plan) lists(yield func(job) bool) {
	list := 0
	for head := range hash.Heads(p.where) {
		list++
		if list == len(p.heads) || !p.list(yield, head, list) { // a mark of another layout may have fewer
			return
		}
	}
}

// list yields what lets a list go past slots that were taken away, and tells whether more is to be yielded.
func (p *plan) list(yield func(job) bool, head, list int) bool {
	at, is := head, p.heads[list]
	for _, n := range p.live[list] {
		if !mend(yield, at, is, linkTo(n.Slot)) {
			return false
		}
		at, is = p.where.Next(n.Slot), n.Link
	}
	return mend(yield, at, is, linkTo(api.None))
}

// tail yields what lets the tail be the queue's last slot.
func (p *plan) tail(yield func(job) bool) {
	last := p.queue[len(p.queue)-1]
	put(yield, p.where.Tail(), linkTo(last.Slot))
}

// logs yields what lets all logs be empty.
func (p *plan) logs(yield func(job) bool) {
	c := p.where.Config()
	for t := range c.Threads {
		for n := range c.Logs {
			if !wipe(yield, p.where.Log(t, n)) {
				return
			}
		}
	}
	yield(job{kind: fence})
}

// intents yields what lets no thread have an intent.
func (p *plan) intents(yield func(job) bool) {
	for t := range p.where.Config().Threads {
		if !wipe(yield, p.where.Intent(t)) {
			return
		}
	}
	yield(job{kind: fence})
}

// mend yields what lets a word be as it is to be, if it is another one, and tells whether more is to be yielded.
func mend(yield func(job) bool, at int, is, to uint64) bool {
	return is == to || put(yield, at, to)
}

// put yields what lets a word be there, and last.
func put(yield func(job) bool, at int, w uint64) bool {
	return yield(job{kind: store, at: at, word: w}) && lasts(yield, at)
}

// lasts yields what lets a word last that is there.
func lasts(yield func(job) bool, at int) bool {
	return yield(job{kind: flush, at: at}) && yield(job{kind: fence})
}

// wipe yields what lets a word be 0. Its line is flushed, and fenced together with others.
func wipe(yield func(job) bool, at int) bool {
	return yield(job{kind: store, at: at}) && yield(job{kind: flush, at: at})
}

// linkTo is the link to a slot that was not taken away.
func linkTo(slot int) uint64 {
	return bits.Link(slot, api.None)
}

// isTaken tells whether a slot was taken away.
func isTaken(n mark.Node) bool {
	return bits.By(n.Link) != api.None
}
