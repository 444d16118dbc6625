package pdev_test

import (
	"slices"
	"testing"

	"limekiln/api"
	"limekiln/pdev"
)

// plain is a device by the document's words alone: words one by one, and sets as tables. It is what the package's device is held against.
type plain struct {
	kept, seen []uint64
	flushes    [][]bool // by threads and lines
	writes     []int
	versions   []map[api.Line]int // of each line: what was seen of it once
}

func newPlain(words []uint64, threads int) *plain {
	n := len(words) / api.LineWords
	p := &plain{kept: slices.Clone(words), seen: slices.Clone(words), writes: make([]int, n)}
	for range threads {
		p.flushes = append(p.flushes, make([]bool, n))
	}
	for i := range n {
		p.versions = append(p.versions, map[api.Line]int{})
		p.note(i)
	}
	return p
}

// part is a line out of words.
func part(words []uint64, line int) api.Line {
	return api.Line(words[line*api.LineWords : (line+1)*api.LineWords])
}

func (p *plain) note(line int) {
	p.versions[line][part(p.seen, line)]++
}

func (p *plain) writeBack(line int) {
	for i := range api.LineWords {
		p.kept[line*api.LineWords+i] = p.seen[line*api.LineWords+i]
	}
	p.writes[line]++
}

func (p *plain) fence(thread int) {
	for line, flushed := range p.flushes[thread] {
		if flushed {
			p.writeBack(line)
			p.flushes[thread][line] = false
		}
	}
}

func (p *plain) crash() {
	for i, w := range p.kept {
		p.seen[i] = w
	}
	for _, f := range p.flushes {
		for line := range f {
			f[line] = false
		}
	}
}

func (p *plain) tell() whole {
	w := whole{kept: p.kept, seen: p.seen, writes: p.writes}
	for _, f := range p.flushes {
		var l []int
		for line, flushed := range f {
			if flushed {
				l = append(l, line)
			}
		}
		w.pending = append(w.pending, l)
	}
	return w
}

// both does to both devices what a number says.
func both(t *testing.T, d *pdev.Dev, p *plain, x uint64) {
	t.Helper()
	thread, line, at := int(x>>8%uint64(len(p.flushes))), int(x>>16%uint64(len(p.writes))), int(x>>24%uint64(len(p.seen)))
	switch kind := x % 32; {
	case kind < 14:
		must(t, d.Store(at, x>>40), api.OK)
		p.seen[at] = x >> 40
		p.note(at / api.LineWords)
	case kind < 22:
		must(t, d.Flush(thread, line), api.OK)
		p.flushes[thread][line] = true
	case kind < 27:
		must(t, d.Fence(thread), api.OK)
		p.fence(thread)
	case kind < 30:
		must(t, d.Evict(line), api.OK)
		p.writeBack(line)
	case kind < 31:
		d.Crash()
		p.crash()
	default:
		if w, e := d.Load(at); e != api.OK || w != p.seen[at] {
			t.Errorf("Load(%d) = %d, %v", at, w, e)
		}
	}
}

func TestDeviceDoesWhatAPlainOneDoes(t *testing.T) { // 4.1 to 4.5
	for _, size := range []struct{ lines, threads int }{{1, 1}, {2, 1}, {3, 2}, {5, 4}, {16, 64}} {
		words := mixed(size.lines * api.LineWords)
		d, e := pdev.Open(words, size.threads)
		must(t, e, api.OK)
		p := newPlain(words, size.threads)
		for _, x := range mixed(3000) {
			both(t, d, p, x)
			like(t, tell(d, size.threads), p.tell())
			kept := d.Kept()
			for line := range size.lines {
				if p.versions[line][part(kept, line)] == 0 {
					t.Errorf("%v is kept of the line %d, and was never seen", part(kept, line), line)
				}
			}
			if t.Failed() {
				t.FailNow()
			}
		}
	}
}
