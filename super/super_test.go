package super_test

import (
	"encoding/binary"
	"hash/crc32"
	"math"
	"testing"

	"limekiln/api"
	"limekiln/super"
)

// config is a config by its four numbers.
func config(threads, slots, logs, buckets int) api.Config {
	return api.Config{Threads: threads, Slots: slots, Logs: logs, Buckets: buckets}
}

// some are numbers from 1 to the most, its edges among them.
func some(most int) []int {
	return []int{1, 2, 3, most / 2, most - 1, most}
}

// beyond are numbers that are not from 1 to the most.
func beyond(most int) []int {
	return []int{0, -1, -2, -most, math.MinInt, math.MinInt + 1, most + 1, most + 2, 2 * most, 1<<32 + 1, 1 << 32, math.MaxInt}
}

// rightOnes are configs that may be: all edges with all edges.
func rightOnes() []api.Config {
	var l []api.Config
	for _, threads := range some(64) {
		for _, slots := range some(65536) {
			for _, logs := range some(64) {
				for _, buckets := range some(64) {
					l = append(l, config(threads, slots, logs, buckets))
				}
			}
		}
	}
	return l
}

// wrongOnes are configs that may not be: one number beyond, or all of them.
func wrongOnes() []api.Config {
	var l []api.Config
	for i, n := range beyond(64) {
		l = append(l,
			config(n, 1, 1, 1), config(n, 65536, 64, 64),
			config(1, 1, n, 1), config(64, 65536, n, 64),
			config(1, 1, 1, n), config(64, 65536, 64, n))
		m := beyond(65536)[i]
		l = append(l, config(1, m, 1, 1), config(64, m, 64, 64), config(n, m, n, n))
	}
	return l
}

// summed is a line whose last word is the right sum, by the library: another way than that of the package.
func summed(l api.Line) api.Line {
	var b []byte
	for _, w := range l[:7] {
		b = binary.LittleEndian.AppendUint64(b, w)
	}
	l[7] = uint64(crc32.Checksum(b, crc32.MakeTable(crc32.Castagnoli)))
	return l
}

// laid is the line of a config by the document's words.
func laid(c api.Config) api.Line {
	return summed(api.Line{
		0x6b696c6e32303236,
		uint64(c.Threads), uint64(c.Slots), uint64(c.Logs), uint64(c.Buckets),
		1, 0,
	})
}

// refused fails if a line is read as that of a config.
func refused(t *testing.T, l api.Line) {
	t.Helper()
	if c, e := super.Read(l); c != (api.Config{}) || e != api.ErrCorrupt {
		t.Errorf("Read(%#x) = %v, %v", l, c, e)
	}
}

func TestConstants(t *testing.T) { // 5.1
	if super.Magic != 0x6b696c6e32303236 || super.Version != 1 {
		t.Errorf("Magic %#x, Version %d", super.Magic, super.Version)
	}
}

func TestWhichConfigsMayBe(t *testing.T) { // 5.1
	for _, c := range rightOnes() {
		if !super.Right(c) {
			t.Errorf("Right(%v) = false", c)
		}
	}
	for _, c := range append(wrongOnes(), api.Config{}) {
		if super.Right(c) {
			t.Errorf("Right(%v) = true", c)
		}
	}
}

func TestEachNumberHasItsOwnLimit(t *testing.T) { // 5.1
	for n := -3; n < 70; n++ {
		want := n >= 1 && n <= 64
		for _, c := range []api.Config{config(n, 1, 1, 1), config(1, 1, n, 1), config(1, 1, 1, n)} {
			if got := super.Right(c); got != want {
				t.Errorf("Right(%v) = %t", c, got)
			}
		}
		if got := super.Right(config(1, n, 1, 1)); got != (n >= 1) {
			t.Errorf("Right of %d slots = %t", n, got)
		}
	}
}

func TestLineIsThatOfTheDocument(t *testing.T) { // 5.1
	for _, c := range rightOnes() {
		if l, e := super.Line(c); l != laid(c) || e != api.OK {
			t.Errorf("Line(%v) = %#x, %v", c, l, e)
		}
	}
}

func TestExampleOfTheDocument(t *testing.T) { // 5.1
	l, e := super.Line(config(1, 2, 3, 4))
	if e != api.OK || [5]uint64(l[1:6]) != [5]uint64{1, 2, 3, 4, 1} {
		t.Errorf("the words 1 to 5 are %v, %v", l[1:6], e)
	}
}

func TestNoLineOfAConfigThatMayNotBe(t *testing.T) { // 5.1, R2
	for _, c := range append(wrongOnes(), api.Config{}) {
		if l, e := super.Line(c); l != (api.Line{}) || e != api.ErrArg {
			t.Errorf("Line(%v) = %#x, %v", c, l, e)
		}
	}
}

func TestWhatIsWrittenIsReadAsItWas(t *testing.T) { // 5.2, 5.4
	for _, want := range rightOnes() {
		l, _ := super.Line(want)
		if c, e := super.Read(l); c != want || e != api.OK {
			t.Errorf("Read of the line of %v = %v, %v", want, c, e)
		}
	}
}

func TestLineWithOneBitTurned(t *testing.T) { // 5.2, 5.4
	for i, c := range rightOnes() {
		if i%7 != 0 && c != config(1, 1, 1, 1) && c != config(64, 65536, 64, 64) {
			continue
		}
		l, _ := super.Line(c)
		for at := range l {
			for bit := range 64 {
				turned := l
				turned[at] ^= 1 << bit
				refused(t, turned)
			}
		}
	}
}

func TestLineWhoseSumAloneIsRight(t *testing.T) { // 5.2
	refused(t, summed(api.Line{}))
	for _, c := range []api.Config{config(1, 1, 1, 1), config(4, 100, 8, 16), config(64, 65536, 64, 64)} {
		for _, at := range []int{0, 5, 6} { // these words are the same in each config's line
			for bit := range 64 {
				l := laid(c)
				l[at] ^= 1 << bit
				refused(t, summed(l))
			}
		}
	}
	for _, c := range append(wrongOnes(), api.Config{}) {
		refused(t, laid(c))
	}
}

func TestNumbersWithMoreBits(t *testing.T) { // 5.2
	for at := 1; at <= 4; at++ {
		for bit := 17; bit < 64; bit++ { // no limit has so many
			l := laid(config(1, 1, 1, 1))
			l[at] |= 1 << bit
			refused(t, summed(l))
		}
		l := laid(config(1, 1, 1, 1))
		l[at] = math.MaxUint64
		refused(t, summed(l))
	}
}

func TestLineWhoseSumIsWrong(t *testing.T) { // 5.2
	refused(t, api.Line{})
	l := laid(config(4, 100, 8, 16))
	for _, w := range []uint64{0, math.MaxUint64, l[7] + 1, l[7] - 1, ^l[7], ^l[7] & math.MaxUint32, l[7] << 32, l[7] | l[7]<<32, l[7] + 1<<32} {
		wrong := l
		wrong[7] = w
		refused(t, wrong)
	}
	other := laid(config(4, 101, 8, 16))
	l[7] = other[7]
	refused(t, l)
}

func TestWordsInAnotherOrder(t *testing.T) { // 5.2
	l := laid(config(4, 100, 8, 16))
	for i := range l {
		for j := range i {
			other := l
			other[i], other[j] = l[j], l[i]
			refused(t, other)
		}
	}
	if c, e := super.Read(laid(config(4, 8, 16, 2))); c != config(4, 8, 16, 2) || e != api.OK { // each number is read at its own place
		t.Errorf("Read = %v, %v", c, e)
	}
}

func TestBoth(t *testing.T) { // 5.3
	c, d := config(4, 100, 8, 16), config(4, 100, 8, 17)
	one, two := laid(c), laid(d)
	turned, nought := one, api.Line{}
	turned[7] ^= 1
	odd := laid(config(0, 100, 8, 16)) // its sum is right, its config may not be
	for _, x := range []struct {
		name  string
		a, b  api.Line
		want  api.Config
		which int
		e     api.Errno
	}{
		{"like ones", one, one, c, 0, api.OK},
		{"like ones", two, two, d, 0, api.OK},
		{"the first alone", one, turned, c, 0, api.OK},
		{"the first alone", two, turned, d, 0, api.OK},
		{"the first alone", one, nought, c, 0, api.OK},
		{"the first alone", one, odd, c, 0, api.OK},
		{"the second alone", turned, one, c, 1, api.OK},
		{"the second alone", turned, two, d, 1, api.OK},
		{"the second alone", nought, one, c, 1, api.OK},
		{"the second alone", odd, one, c, 1, api.OK},
		{"unlike ones", one, two, api.Config{}, 0, api.ErrCorrupt},
		{"unlike ones", two, one, api.Config{}, 0, api.ErrCorrupt},
		{"neither", turned, turned, api.Config{}, 0, api.ErrCorrupt},
		{"neither", nought, nought, api.Config{}, 0, api.ErrCorrupt},
		{"neither", nought, turned, api.Config{}, 0, api.ErrCorrupt},
		{"neither", odd, odd, api.Config{}, 0, api.ErrCorrupt},
	} {
		if got, which, e := super.Both(x.a, x.b); got != x.want || which != x.which || e != x.e {
			t.Errorf("%s: %v, %d, %v, want %v, %d, %v", x.name, got, which, e, x.want, x.which, x.e)
		}
	}
}

func TestBothOfConfigsUnlikeInOneNumber(t *testing.T) { // 5.3
	base := config(3, 30, 5, 7)
	for _, other := range []api.Config{config(4, 30, 5, 7), config(3, 31, 5, 7), config(3, 30, 6, 7), config(3, 30, 5, 8)} {
		for _, x := range [][2]api.Line{{laid(base), laid(other)}, {laid(other), laid(base)}} {
			if c, which, e := super.Both(x[0], x[1]); c != (api.Config{}) || which != 0 || e != api.ErrCorrupt {
				t.Errorf("Both of %v and %v = %v, %d, %v", base, other, c, which, e)
			}
		}
	}
}

func TestOneCopyIsEnough(t *testing.T) { // 5.3, 5.4
	for _, c := range []api.Config{config(1, 1, 1, 1), config(2, 3, 4, 5), config(64, 65536, 64, 64)} {
		l := laid(c)
		for i := range 512 {
			turned := l
			turned[i/64] ^= 1 << (i % 64)
			if got, which, e := super.Both(l, turned); got != c || which != 0 || e != api.OK {
				t.Errorf("bit %d of the second turned: %v, %d, %v", i, got, which, e)
			}
			if got, which, e := super.Both(turned, l); got != c || which != 1 || e != api.OK {
				t.Errorf("bit %d of the first turned: %v, %d, %v", i, got, which, e)
			}
		}
	}
}
