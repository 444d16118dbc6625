package layout_test

import (
	"math"
	"testing"

	"limekiln/api"
	"limekiln/layout"
)

// plain has the words of a config by the document's words alone: gone through one by one, from the first on. It is what the package's layout is held against.
type plain struct {
	next    int // the next lasting word
	passing int
	names   map[word]int
	slots   map[int]int // by lasting words
}

// word is a word by what it is called, and which thing's it is: of a log, which thread's, and which entry.
type word struct {
	name     string
	n, entry int
}

// whole goes on to where a line begins.
func (p *plain) whole() {
	for p.next%8 != 0 {
		p.next++
	}
}

// line is a line with words of these names at its beginning, for one thing.
func (p *plain) line(n int, names ...string) {
	for i, name := range names {
		p.names[word{name: name, n: n}] = p.next + i
	}
	p.next += 8
}

// pass is a passing word.
func (p *plain) pass(name string, n int) {
	p.names[word{name: name, n: n}] = -1 - p.passing
	p.passing++
}

func newPlain(c api.Config) *plain {
	p := &plain{names: map[word]int{}, slots: map[int]int{}}
	p.next = 16
	p.line(0, "head")
	p.line(0, "tail")
	p.line(0, "set")
	for n := range c.Buckets {
		p.names[word{name: "bucket", n: n}] = p.next
		p.next++
	}
	p.whole()
	for n := range c.Threads {
		p.line(n, "cell", "intent")
	}
	for thread := range c.Threads {
		for n := range c.Logs {
			p.names[word{"log", thread, n}] = p.next
			p.next++
		}
		p.whole()
	}
	for n := range c.Slots {
		for i := range 8 {
			p.slots[p.next+i] = n
		}
		p.line(n, "gen", "key", "val", "next", "tag")
	}
	p.pass("epoch", 0)
	p.pass("free", 0)
	for n := range c.Threads {
		p.pass("announce", n)
	}
	for n := range c.Slots {
		p.pass("after", n)
	}
	return p
}

// told are the words of a layout, by the same names.
func told(l *layout.Layout, c api.Config) map[word]int {
	m := map[word]int{
		{name: "head"}: l.Head(), {name: "tail"}: l.Tail(), {name: "set"}: l.Set(),
		{name: "epoch"}: l.Epoch(), {name: "free"}: l.Free(),
	}
	each := func(name string, many int, at func(int) int) {
		for n := range many {
			m[word{name: name, n: n}] = at(n)
		}
	}
	each("bucket", c.Buckets, l.Bucket)
	each("cell", c.Threads, l.Cell)
	each("intent", c.Threads, l.Intent)
	each("announce", c.Threads, l.Announce)
	for t := range c.Threads {
		for n := range c.Logs {
			m[word{"log", t, n}] = l.Log(t, n)
		}
	}
	each("gen", c.Slots, l.Gen)
	each("key", c.Slots, l.Key)
	each("val", c.Slots, l.Val)
	each("next", c.Slots, l.Next)
	each("tag", c.Slots, l.Tag)
	each("after", c.Slots, l.After)
	return m
}

func TestEachWordLiesWhereAPlainOneDoes(t *testing.T) { // 6.1, 6.2
	for _, c := range configs() {
		l, p := of(t, c), newPlain(c)
		same(t, "Lines()", l.Lines()*8, p.next)
		same(t, "Passing()", l.Passing(), p.passing)
		got := told(l, c)
		same(t, "how many words there are", len(got), len(p.names))
		for name, want := range p.names {
			if at, there := got[name]; !there || at != want {
				t.Errorf("%v is %d, want %d", name, at, want)
			}
		}
		if t.Failed() {
			t.Fatalf("of %v", c)
		}
	}
}

func TestSlotOfEachWord(t *testing.T) { // 6.3
	for _, c := range configs() {
		l, p := of(t, c), newPlain(c)
		for at := -l.Passing() - 9; at < l.Lines()*8+99; at++ {
			want, there := p.slots[at]
			if !there {
				want = api.None
			}
			if got := l.Slot(at); got != want {
				t.Fatalf("of %v Slot(%d) = %d, want %d", c, at, got, want)
			}
		}
		for _, at := range []int{math.MinInt, math.MinInt + 1, -1 << 32, 1 << 32, math.MaxInt - 1, math.MaxInt} {
			same(t, "Slot of no word", l.Slot(at), api.None)
		}
	}
}

func TestSlotOfASlotsWords(t *testing.T) { // 6.3
	for _, c := range configs() {
		l := of(t, c)
		for s := range c.Slots {
			for _, at := range []int{l.Gen(s), l.Key(s), l.Val(s), l.Next(s), l.Tag(s), l.Gen(s) + 7} {
				same(t, "Slot", l.Slot(at), s)
			}
			same(t, "Slot of a passing word", l.Slot(l.After(s)), api.None)
		}
	}
}

func TestNoTwoWordsAreOne(t *testing.T) { // 6.4
	for _, c := range configs() {
		l := of(t, c)
		met := map[int]word{}
		passing := 0
		for name, at := range told(l, c) {
			if other, twice := met[at]; twice {
				t.Fatalf("of %v %v and %v are both %d", c, name, other, at)
			}
			met[at] = name
			if at < 0 {
				passing++
			}
			if at >= 8*l.Lines() || at < -l.Passing() || at >= 0 && at < 16 {
				t.Fatalf("of %v %v is %d: not within %d lines behind the superblock, and %d passing words", c, name, at, l.Lines(), l.Passing())
			}
		}
		same(t, "the number of passing words", passing, l.Passing())
		if _, there := met[8*l.Lines()]; there {
			t.Errorf("of %v a word has the number of none", c)
		}
	}
}
