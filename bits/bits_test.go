package bits_test

import (
	"math"
	"testing"

	"limekiln/api"
	"limekiln/bits"
)

// numbers are ordinary ones, the edges of fields of 7, 31 and 32 bits, and such as have too many bits.
func numbers() []int {
	return []int{
		0, 1, 2, 9, 63, 64, 125, 126, 127, 128, 129, 65535, 65536,
		1<<31 - 2, 1<<31 - 1, 1 << 31, 1<<31 + 1,
		1<<32 - 3, 1<<32 - 2, 1<<32 - 1, 1 << 32, 1<<32 + 1, 1<<33 - 1,
		math.MaxInt - 1, math.MaxInt,
		-1, -2, -3, -128, -129, -1 << 31, -1<<32 - 1, -1 << 32, math.MinInt, math.MinInt + 1,
	}
}

// words are such as have few bits, such as lack few, and mixed ones.
func words() []uint64 {
	l := []uint64{0, math.MaxUint64}
	for i := range 64 {
		l = append(l, 1<<i, ^uint64(1<<i), 1<<i-1)
	}
	x := uint64(1)
	for range 500 {
		x = x*6364136223846793005 + 1442695040888963407
		l = append(l, x^x>>29)
	}
	return l
}

// gather reads a field bit by bit: another way than that of the package.
func gather(w uint64, from, to int) uint64 {
	var n, worth uint64 = 0, 1
	for i := from; i <= to; i++ {
		if w&(1<<i) != 0 {
			n += worth
		}
		worth *= 2
	}
	return n
}

// orNone is the number of which a field keeps 1 more.
func orNone(field uint64) int {
	if field == 0 {
		return api.None
	}
	return int(field - 1)
}

// below is n as it is behind cutting it to some bits, which are no more than 32.
func below(n int, long int) uint64 {
	size := 1 << long
	return uint64((n%size + size) % size)
}

// moreBelow is below of 1 more.
func moreBelow(n int, long int) uint64 {
	return (below(n, long) + 1) % (1 << long)
}

func TestLinkIsTheWordOfTheDocument(t *testing.T) { // 1.1
	for _, x := range []struct {
		to, by int
		want   uint64
	}{
		{-1, -1, 0},
		{4, -1, 5},
		{-1, 2, 3 << 32},
		{0, 0, 1<<32 | 1},
		{9, 63, 64<<32 | 10},
		{65535, 63, 64<<32 | 65536},
		{1<<32 - 2, 126, 127<<32 | (1<<32 - 1)},
	} {
		if got := bits.Link(x.to, x.by); got != x.want {
			t.Errorf("Link(%d, %d) = %#x, want %#x", x.to, x.by, got, x.want)
		}
	}
}

func TestLinkCutsBehindAddingOne(t *testing.T) { // 1.1
	for _, x := range []struct {
		to, by int
		want   uint64
	}{
		{1<<32 - 1, 127, 0}, // 1 more is one bit too long: nothing is left, and nothing runs over
		{1 << 32, 128, 1<<32 | 1},
		{-2, -2, 127<<32 | (1<<32 - 1)},
		{math.MaxInt, math.MaxInt, 0},
		{math.MinInt, math.MinInt, 1<<32 | 1},
		{-1 << 32, -128, 1<<32 | 1},
	} {
		if got := bits.Link(x.to, x.by); got != x.want {
			t.Errorf("Link(%d, %d) = %#x, want %#x", x.to, x.by, got, x.want)
		}
	}
	for _, to := range numbers() {
		for _, by := range numbers() {
			want := moreBelow(to, 32) + moreBelow(by, 7)*(1<<32)
			if got := bits.Link(to, by); got != want {
				t.Errorf("Link(%d, %d) = %#x, want %#x", to, by, got, want)
			}
		}
	}
}

func TestFieldsOfAnyWord(t *testing.T) { // 1.1 to 1.4
	for _, w := range words() {
		if got, want := bits.To(w), orNone(gather(w, 0, 31)); got != want {
			t.Errorf("To(%#x) = %d, want %d", w, got, want)
		}
		if got, want := bits.By(w), orNone(gather(w, 32, 38)); got != want {
			t.Errorf("By(%#x) = %d, want %d", w, got, want)
		}
		if got, want := bits.Dirty(w), gather(w, 63, 63) == 1; got != want {
			t.Errorf("Dirty(%#x) = %t, want %t", w, got, want)
		}
		if got, want := bits.Stamp(w), orNone(gather(w, 32, 63)); got != want {
			t.Errorf("Stamp(%#x) = %d, want %d", w, got, want)
		}
		if got, want := bits.Val(w), uint32(gather(w, 0, 31)); got != want {
			t.Errorf("Val(%#x) = %d, want %d", w, got, want)
		}
		if got, want := bits.Done(w), gather(w, 32, 32) == 1; got != want {
			t.Errorf("Done(%#x) = %t, want %t", w, got, want)
		}
		if got, want := bits.Seq(w), int(gather(w, 33, 63)); got != want {
			t.Errorf("Seq(%#x) = %d, want %d", w, got, want)
		}
		if got, want := bits.Ver(w), uint32(gather(w, 32, 63)); got != want {
			t.Errorf("Ver(%#x) = %d, want %d", w, got, want)
		}
	}
}

func TestNoneIsTold(t *testing.T) { // 1.1, 1.2
	noSlot := uint64((1<<32 - 1) << 32)
	if bits.To(0) != api.None || bits.To(noSlot) != api.None {
		t.Errorf("To of no slot: %d, %d", bits.To(0), bits.To(noSlot))
	}
	noThread := ^uint64(127 << 32)
	if bits.By(0) != api.None || bits.By(noThread) != api.None {
		t.Errorf("By of no thread: %d, %d", bits.By(0), bits.By(noThread))
	}
	if bits.Stamp(0) != api.None || bits.Stamp(1<<32-1) != api.None {
		t.Errorf("Stamp of none: %d, %d", bits.Stamp(0), bits.Stamp(1<<32-1))
	}
}

func TestCleanAndSoilChangeOneBit(t *testing.T) { // 1.1
	for _, w := range words() {
		rest := gather(w, 0, 62)
		if got := bits.Clean(w); got != rest {
			t.Errorf("Clean(%#x) = %#x", w, got)
		}
		if got := bits.Soil(w); got != rest+1<<63 {
			t.Errorf("Soil(%#x) = %#x", w, got)
		}
		if bits.Dirty(bits.Clean(w)) || !bits.Dirty(bits.Soil(w)) {
			t.Errorf("%#x: dirty behind Clean, or not behind Soil", w)
		}
	}
}

func TestRightAtTheEdges(t *testing.T) { // 1.1
	for _, x := range []struct {
		w              uint64
		slots, threads int
		want           bool
	}{
		{bits.Link(4, 2), 5, 3, true},
		{bits.Link(4, 2), 4, 3, false},
		{bits.Link(4, 2), 5, 2, false},
		{bits.Soil(bits.Link(4, 2)), 5, 3, true},
		{bits.Soil(bits.Link(4, 2)), 4, 3, false},
		{0, 0, 0, true},
		{0, -1, 0, false},
		{0, 0, -1, false},
		{0, math.MinInt, math.MaxInt, false},
		{0, math.MaxInt, math.MinInt, false},
		{127<<32 | (1<<32 - 1), 1<<32 - 1, 127, true},
		{127<<32 | (1<<32 - 1), 1<<32 - 2, 127, false},
		{127<<32 | (1<<32 - 1), 1<<32 - 1, 126, false},
		{1<<63 | 127<<32 | (1<<32 - 1), math.MaxInt, math.MaxInt, true},
		{math.MaxUint64, math.MaxInt, math.MaxInt, false},
	} {
		if got := bits.Right(x.w, x.slots, x.threads); got != x.want {
			t.Errorf("Right(%#x, %d, %d) = %t", x.w, x.slots, x.threads, got)
		}
	}
}

func TestRightKnowsEachBit(t *testing.T) { // 1.1
	for i := range 64 {
		ofLinks := i <= 38 || i == 63
		for _, w := range []uint64{1 << i, bits.Link(4, 2) | 1<<i, bits.Soil(0) | 1<<i} {
			if got := bits.Right(w, math.MaxInt, math.MaxInt); got != ofLinks {
				t.Errorf("Right(%#x) = %t with the bit %d", w, got, i)
			}
		}
	}
}

func TestRightOfAnyNumbers(t *testing.T) { // 1.1
	for _, w := range words() {
		for _, slots := range numbers() {
			for _, threads := range []int{math.MinInt, -1, 0, 1, 64, 127, math.MaxInt} {
				to, by := orNone(gather(w, 0, 31)), orNone(gather(w, 32, 38))
				want := to < slots && by < threads && gather(w, 39, 62) == 0
				if got := bits.Right(w, slots, threads); got != want {
					t.Fatalf("Right(%#x, %d, %d) = %t", w, slots, threads, got)
				}
			}
		}
	}
}

func TestEntryIsTheWordOfTheDocument(t *testing.T) { // 1.2
	for _, x := range []struct {
		slot, stamp int
		want        uint64
	}{
		{-1, -1, 0},
		{3, -1, 4},
		{3, 7, 8<<32 | 4},
		{0, 0, 1<<32 | 1},
		{1<<32 - 2, 1<<32 - 2, math.MaxUint64},
		{1<<32 - 1, 1<<32 - 1, 0},
		{1 << 32, 1 << 32, 1<<32 | 1},
		{math.MaxInt, 5, 6 << 32},
		{math.MinInt, -2, (1<<32-1)<<32 | 1},
	} {
		if got := bits.Entry(x.slot, x.stamp); got != x.want {
			t.Errorf("Entry(%d, %d) = %#x, want %#x", x.slot, x.stamp, got, x.want)
		}
	}
	for _, slot := range numbers() {
		for _, stamp := range numbers() {
			want := moreBelow(slot, 32) + moreBelow(stamp, 32)*(1<<32)
			if got := bits.Entry(slot, stamp); got != want {
				t.Errorf("Entry(%d, %d) = %#x, want %#x", slot, stamp, got, want)
			}
		}
	}
}

func TestCellIsTheWordOfTheDocument(t *testing.T) { // 1.3
	for _, x := range []struct {
		seq  int
		done bool
		val  uint32
		want uint64
	}{
		{0, false, 0, 0},
		{1, true, 7, 3<<32 | 7},
		{5, false, math.MaxUint32, 5<<33 | (1<<32 - 1)},
		{1<<31 - 1, true, math.MaxUint32, math.MaxUint64},
		{1 << 31, true, 2, 1<<32 | 2},
		{1<<31 + 3, false, 0, 3 << 33},
		{-1, false, 0, (1<<31 - 1) << 33},
		{math.MaxInt, false, 1, (1<<31-1)<<33 | 1},
		{math.MinInt, true, 1, 1<<32 | 1},
	} {
		if got := bits.Cell(x.seq, x.done, x.val); got != x.want {
			t.Errorf("Cell(%d, %t, %d) = %#x, want %#x", x.seq, x.done, x.val, got, x.want)
		}
	}
	for _, seq := range numbers() {
		want := below(seq, 31)*(1<<33) + 9
		if got := bits.Cell(seq, false, 9); got != want {
			t.Errorf("Cell(%d, false, 9) = %#x, want %#x", seq, got, want)
		}
		if got := bits.Cell(seq, true, 9); got != want+1<<32 {
			t.Errorf("Cell(%d, true, 9) = %#x, want %#x", seq, got, want+1<<32)
		}
	}
}

func TestTopIsTheWordOfTheDocument(t *testing.T) { // 1.4
	for _, x := range []struct {
		slot int
		ver  uint32
		want uint64
	}{
		{-1, 0, 0},
		{2, 9, 9<<32 | 3},
		{-1, math.MaxUint32, (1<<32 - 1) << 32},
		{1<<32 - 2, math.MaxUint32, math.MaxUint64},
		{1<<32 - 1, 1, 1 << 32},
	} {
		if got := bits.Top(x.slot, x.ver); got != x.want {
			t.Errorf("Top(%d, %d) = %#x, want %#x", x.slot, x.ver, got, x.want)
		}
	}
	for _, slot := range numbers() {
		want := moreBelow(slot, 32) + 6*(1<<32)
		if got := bits.Top(slot, 6); got != want {
			t.Errorf("Top(%d, 6) = %#x, want %#x", slot, got, want)
		}
	}
}

// within are those numbers that are from the least to the greatest, which a field tells as they were.
func within(least, greatest int) []int {
	var l []int
	for _, n := range numbers() {
		if n >= least && n <= greatest {
			l = append(l, n)
		}
	}
	return l
}

// told is what a word was made of.
type told struct {
	first, second, third int
}

// unlike fails if a word was made of something else before.
func unlike(t *testing.T, met map[uint64]told, w uint64, x told) {
	t.Helper()
	if y, ok := met[w]; ok && y != x {
		t.Errorf("%v and %v are the same word %#x", x, y, w)
	}
	met[w] = x
}

func TestWhatIsMadeIsTold(t *testing.T) { // 1.5
	const most = 1<<32 - 2
	links, entries, tops := map[uint64]told{}, map[uint64]told{}, map[uint64]told{}
	for _, slot := range within(-1, most) {
		for _, by := range within(-1, 126) {
			w := bits.Link(slot, by)
			if bits.To(w) != slot || bits.By(w) != by || bits.Dirty(w) || !bits.Right(w, slot+1, by+1) {
				t.Errorf("Link(%d, %d) tells %d, %d, %t", slot, by, bits.To(w), bits.By(w), bits.Dirty(w))
			}
			s := bits.Soil(w)
			if bits.To(s) != slot || bits.By(s) != by || !bits.Dirty(s) || bits.Clean(s) != w {
				t.Errorf("Link(%d, %d), dirty, tells %d, %d, %t", slot, by, bits.To(s), bits.By(s), bits.Dirty(s))
			}
			unlike(t, links, w, told{slot, by, 0})
			unlike(t, links, s, told{slot, by, 1})
		}
		for _, stamp := range within(-1, most) {
			w := bits.Entry(slot, stamp)
			if bits.To(w) != slot || bits.Stamp(w) != stamp {
				t.Errorf("Entry(%d, %d) tells %d, %d", slot, stamp, bits.To(w), bits.Stamp(w))
			}
			unlike(t, entries, w, told{slot, stamp, 0})
		}
		for _, ver := range within(0, math.MaxUint32) {
			w := bits.Top(slot, uint32(ver))
			if bits.To(w) != slot || bits.Ver(w) != uint32(ver) {
				t.Errorf("Top(%d, %d) tells %d, %d", slot, ver, bits.To(w), bits.Ver(w))
			}
			unlike(t, tops, w, told{slot, ver, 0})
		}
	}
}

func TestWhatCellsAreMadeOfIsTold(t *testing.T) { // 1.5
	cells := map[uint64]told{}
	for _, seq := range within(0, 1<<31-1) {
		for _, val := range within(0, math.MaxUint32) {
			for i, done := range []bool{false, true} {
				w := bits.Cell(seq, done, uint32(val))
				if bits.Seq(w) != seq || bits.Done(w) != done || bits.Val(w) != uint32(val) {
					t.Errorf("Cell(%d, %t, %d) tells %d, %t, %d", seq, done, val, bits.Seq(w), bits.Done(w), bits.Val(w))
				}
				unlike(t, cells, w, told{seq, val, i})
			}
		}
	}
}
