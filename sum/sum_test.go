package sum_test

import (
	"encoding/binary"
	"hash/crc32"
	"math"
	"slices"
	"testing"

	"limekiln/sum"
)

// behind is the state behind bytes, by the library's own sums: another way than that of the package.
func behind(state uint32, b ...byte) uint32 {
	return ^crc32.Update(^state, crc32.MakeTable(crc32.Castagnoli), b)
}

// states are such as have few bits, such as lack few, and mixed ones.
func states() []uint32 {
	l := []uint32{0, math.MaxUint32}
	for i := range 32 {
		l = append(l, 1<<i, ^uint32(1<<i))
	}
	for _, w := range mixed(50) {
		l = append(l, uint32(w))
	}
	return l
}

// mixed are n words without a rule that is to be seen, the same each time.
func mixed(n int) []uint64 {
	var l []uint64
	x := uint64(1)
	for range n {
		x = x*6364136223846793005 + 1442695040888963407
		l = append(l, x^x>>29)
	}
	return l
}

// laid are the bytes of words, the lowest first.
func laid(l ...uint64) []byte {
	var b []byte
	for _, w := range l {
		b = binary.LittleEndian.AppendUint64(b, w)
	}
	return b
}

func TestBeginAndEnd(t *testing.T) { // 2.1
	if got := sum.Begin(); got != 0xffffffff {
		t.Errorf("Begin() = %#x", got)
	}
	for state, want := range map[uint32]uint32{0: 0xffffffff, 0xffffffff: 0, 0x0f0f1234: 0xf0f0edcb} {
		if got := sum.End(state); got != want {
			t.Errorf("End(%#x) = %#x, want %#x", state, got, want)
		}
	}
}

func TestOneBitGoesInAsTheDocumentSays(t *testing.T) { // 2.1
	for _, x := range []struct {
		state uint32
		b     byte
		want  uint32
	}{
		{0, 0, 0},
		{0, 128, 0x82f63b78},    // the last bit alone is kept
		{1 << 7, 0, 0x82f63b78}, // the state's lowest bit is, too
		{1 << 7, 128, 0},        // both together are not
		{1 << 31, 0, 1 << 23},
		{0, 64, 0x82f63b78 >> 1},
	} {
		if got := sum.Byte(x.state, x.b); got != x.want {
			t.Errorf("Byte(%#x, %d) = %#x, want %#x", x.state, x.b, got, x.want)
		}
	}
	if got := sum.Word(0, 1<<63); got != 0x82f63b78 {
		t.Errorf("Word(0, 1<<63) = %#x", got)
	}
}

func TestByteOfAnyState(t *testing.T) { // 2.1
	for _, state := range states() {
		for b := range 256 {
			if got, want := sum.Byte(state, byte(b)), behind(state, byte(b)); got != want {
				t.Errorf("Byte(%#x, %d) = %#x, want %#x", state, b, got, want)
			}
		}
	}
}

func TestWordOfAnyState(t *testing.T) { // 2.1
	l := append(mixed(50), 0, 1, 1<<31, 1<<32, 1<<63, math.MaxUint64)
	for _, state := range states() {
		for _, w := range l {
			if got, want := sum.Word(state, w), behind(state, laid(w)...); got != want {
				t.Errorf("Word(%#x, %#x) = %#x, want %#x", state, w, got, want)
			}
		}
	}
}

func TestBytesOfKnownSums(t *testing.T) { // 2.2
	for s, want := range map[string]uint32{
		"":                                     0,
		"a":                                    0xc1d04330,
		"123456789":                            0xe3069283,
		"\x00":                                 0x527d5351,
		string(make([]byte, 32)):               0x8a9136aa,
		string(slices.Repeat([]byte{255}, 32)): 0x62a8ab43,
	} {
		if got := sum.Bytes([]byte(s)); got != want {
			t.Errorf("Bytes(%q) = %#x, want %#x", s, got, want)
		}
	}
	if sum.Bytes(nil) != 0 || sum.Words() != 0 || sum.Words([]uint64{}...) != 0 {
		t.Errorf("of nothing: %#x, %#x", sum.Bytes(nil), sum.Words())
	}
}

func TestBytesOfAnyLength(t *testing.T) { // 2.2
	b := laid(mixed(40)...)
	for n := range len(b) + 1 {
		if got, want := sum.Bytes(b[:n]), ^behind(math.MaxUint32, b[:n]...); got != want {
			t.Errorf("Bytes of %d = %#x, want %#x", n, got, want)
		}
	}
}

func TestWordsAreEightBytesEach(t *testing.T) { // 2.2
	if got, want := sum.Words(0x3837363534333231), sum.Bytes([]byte("12345678")); got != want {
		t.Errorf("Words of 12345678 = %#x, want %#x", got, want)
	}
	if got, want := sum.Words(0x0123456789abcdef, 0), ^behind(math.MaxUint32, 0xef, 0xcd, 0xab, 0x89, 0x67, 0x45, 0x23, 0x01, 0, 0, 0, 0, 0, 0, 0, 0); got != want {
		t.Errorf("Words of two = %#x, want %#x", got, want)
	}
	l := mixed(40)
	for n := range len(l) + 1 {
		if got, want := sum.Words(l[:n]...), sum.Bytes(laid(l[:n]...)); got != want {
			t.Errorf("Words of %d = %#x, want %#x", n, got, want)
		}
	}
}

func TestArgumentsAreNotChanged(t *testing.T) { // R3
	l := mixed(9)
	b := laid(l...)
	oldWords, oldBytes := slices.Clone(l), slices.Clone(b)
	first, second := sum.Words(l...), sum.Bytes(b)
	if !slices.Equal(l, oldWords) || !slices.Equal(b, oldBytes) {
		t.Errorf("what was handed in was changed")
	}
	if first != sum.Words(l...) || second != sum.Bytes(b) {
		t.Errorf("same arguments, other answers")
	}
}

func TestSumGoesOnFromAState(t *testing.T) { // 2.3
	l := mixed(6)
	b := laid(l...)
	whole := sum.Bytes(b)
	for n := range len(b) + 1 {
		state := ^sum.Bytes(b[:n])
		for _, x := range b[n:] {
			state = sum.Byte(state, x)
		}
		if got := sum.End(state); got != whole {
			t.Errorf("gone on behind %d bytes: %#x, want %#x", n, got, whole)
		}
	}
	for n := range len(l) + 1 {
		state := ^sum.Words(l[:n]...)
		for _, w := range l[n:] {
			state = sum.Word(state, w)
		}
		if got := sum.End(state); got != whole {
			t.Errorf("gone on behind %d words: %#x, want %#x", n, got, whole)
		}
	}
}

func TestSumOfThreeTogether(t *testing.T) { // 2.3
	for n := range 10 {
		l := mixed(3 * n)
		a, b, c := l[:n], l[n:2*n], l[2*n:]
		together := make([]uint64, n)
		for i := range n {
			together[i] = a[i] ^ b[i] ^ c[i]
		}
		if got, want := sum.Words(together...), sum.Words(a...)^sum.Words(b...)^sum.Words(c...); got != want {
			t.Errorf("words: %#x, want %#x", got, want)
		}
		want := sum.Bytes(laid(a...)) ^ sum.Bytes(laid(b...)) ^ sum.Bytes(laid(c...))
		if got := sum.Bytes(laid(together...)); got != want {
			t.Errorf("bytes: %#x, want %#x", got, want)
		}
	}
}

func TestOneBitMakesAnotherSum(t *testing.T) { // 2.3
	for _, l := range [][]uint64{{0}, {math.MaxUint64}, make([]uint64, 8), mixed(8)} {
		b := laid(l...)
		old := sum.Bytes(b)
		for i := range 8 * len(b) {
			b[i/8] ^= 1 << (i % 8)
			if got := sum.Bytes(b); got == old {
				t.Errorf("the bit %d of %d bytes turned: still %#x", i, len(b), got)
			}
			b[i/8] ^= 1 << (i % 8)
			turned := slices.Clone(l)
			turned[i/64] ^= 1 << (i % 64)
			if got := sum.Words(turned...); got == old {
				t.Errorf("the bit %d of %d words turned: still %#x", i, len(l), got)
			}
		}
	}
}
