package seek_test

import (
	"slices"
	"testing"

	"limekiln/api"
	"limekiln/bits"
	"limekiln/layout"
	"limekiln/pmem"
	"limekiln/seek"
)

// plain is what a Seek has that is alone, and what is in the list then, told from the nodes of the list.
type plain struct {
	found      bool
	prev, curr int
	left       []int
	steps      int
}

// plainly goes through nodes whose links are dirty where it is said (at first the head's).
func plainly(l *layout.Layout, head int, nodes []node, dirty []bool, key uint32) plain {
	p := plain{prev: head, curr: api.None}
	reads := func(i int) {
		p.steps++
		if dirty[i] {
			p.steps += 4
		}
	}
	reads(0)
	at := 0
	for ; at < len(nodes); at++ {
		n := nodes[at]
		reads(at + 1)
		if n.by != api.None {
			p.steps += 4
			continue
		}
		p.steps++
		if n.key >= uint64(key) {
			p.found, p.curr = n.key == uint64(key), n.slot
			break
		}
		p.prev = l.Next(n.slot)
		p.left = append(p.left, n.slot)
	}
	for _, n := range nodes[at:] {
		p.left = append(p.left, n.slot)
	}
	return p
}

// lasts fails if a link of the list is clean, and not kept.
func lasts(t *testing.T, l *layout.Layout, m *pmem.Mem, head int) {
	t.Helper()
	kept := m.Device().Kept()
	at := head
	for {
		w, _ := m.Peek(at)
		if !bits.Dirty(w) && bits.Clean(kept[at]) != w {
			t.Errorf("the link at %d is %#x, and kept as %#x", at, w, kept[at])
		}
		if bits.To(w) == api.None {
			return
		}
		at = l.Next(bits.To(w))
	}
}

// seeks lets a Seek be alone, and fails if it has, does, or leaves something else than a plain one.
func seeks(t *testing.T, l *layout.Layout, m *pmem.Mem, head int, nodes []node, dirty []bool, key uint32) {
	t.Helper()
	want := plainly(l, head, nodes, dirty, key)
	x := seek.New(l, 1, head, key)
	if n := ends(t, m, x); n != want.steps {
		t.Errorf("%d steps, want %d", n, want.steps)
	}
	if x.Found() != want.found || x.Prev() != want.prev || x.Curr() != want.curr {
		t.Errorf("Found() = %v, Prev() = %d, Curr() = %d, want %+v", x.Found(), x.Prev(), x.Curr(), want)
	}
	if w, _ := m.Peek(x.Prev()); w != x.Word() || w != bits.Link(want.curr, api.None) {
		t.Errorf("Word() = %#x, and the link there is %#x", x.Word(), w)
	}
	if w, _ := m.Peek(l.Next(x.Curr())); w != x.Link() {
		t.Errorf("Link() = %#x, and the slot's link is %#x", x.Link(), w)
	}
	listed(t, l, m, head, true, want.left...)
	lasts(t, l, m, head)
}

func TestAllListsOfUpToFour(t *testing.T) { // 14.1, 14.3: alone, of any of the slots taken away, and any of the links dirty
	slots := []int{2, 4, 0, 1}
	for n := range 5 {
		for taken := range 1 << n {
			for soiled := range 1 << (n + 1) {
				for key := range uint32(2*n + 2) {
					l, m := ground(t, 2, 5)
					nodes := make([]node, n)
					for i := range nodes {
						nodes[i] = node{slots[i], uint64(2*i + 1), taken>>i&1 - 1}
					}
					lay(l, m, l.Bucket(0), nodes...)
					dirty := make([]bool, n+1)
					for i := range dirty {
						dirty[i] = soiled>>i&1 == 1
						if dirty[i] {
							soil(m, append([]int{l.Bucket(0)}, nextOf(l, nodes)...)[i])
						}
					}
					seeks(t, l, m, l.Bucket(0), nodes, dirty, key)
					if t.Failed() {
						t.Fatalf("of %d slots, %b taken away, %b dirty, the key %d", n, taken, soiled, key)
					}
				}
			}
		}
	}
}

// nextOf are the words of the links of nodes.
func nextOf(l *layout.Layout, nodes []node) []int {
	var at []int
	for _, n := range nodes {
		at = append(at, l.Next(n.slot))
	}
	return at
}

func TestOneSeekBehindTheOther(t *testing.T) { // 14.3: the second one meets none that was taken away up to the key
	for taken := range 1 << 4 {
		for key := range uint32(10) {
			l, m := ground(t, 2, 5)
			var nodes, left []node
			for i := range 4 {
				n := node{i, uint64(2*i + 1), taken>>i&1 - 1}
				nodes = append(nodes, n)
				if n.by == api.None {
					left = append(left, n)
				}
			}
			lay(l, m, l.Set(), nodes...)
			ends(t, m, seek.New(l, 0, l.Set(), key))
			x := seek.New(l, 1, l.Set(), key)
			below := slices.IndexFunc(left, func(n node) bool { return n.key >= uint64(key) })
			want := 2 + 2*below + 1
			if below < 0 {
				want = 1 + 2*len(left)
			}
			if n := ends(t, m, x); n != want {
				t.Errorf("%b taken away, the key %d: %d steps, want %d", taken, key, n, want)
			}
			ends(t, m, seek.New(l, 1, l.Set(), 99))
			var slots []int
			for _, n := range left {
				slots = append(slots, n.slot)
			}
			listed(t, l, m, l.Set(), true, slots...)
		}
	}
}
