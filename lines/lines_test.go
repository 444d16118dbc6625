package lines_test

import (
	"bytes"
	"encoding/binary"
	"math"
	"slices"
	"testing"

	"limekiln/api"
	"limekiln/lines"
)

// mixed are n lines without a rule that is to be seen, the same each time.
func mixed(n int) []api.Line {
	l := make([]api.Line, n)
	x := uint64(1)
	for i := range n {
		for j := range l[i] {
			x = x*6364136223846793005 + 1442695040888963407
			l[i][j] = x ^ x>>29
		}
	}
	return l
}

// laid are the bytes of lines by the library: another way than that of the package.
func laid(l ...api.Line) []byte {
	b := []byte{}
	for _, x := range l {
		for _, w := range x {
			b = binary.LittleEndian.AppendUint64(b, w)
		}
	}
	return b
}

// flat are the words of lines, one by one.
func flat(l ...api.Line) []uint64 {
	w := []uint64{}
	for _, x := range l {
		for i := range api.LineWords {
			w = append(w, x[i])
		}
	}
	return w
}

// edges are lines of noughts, of ones, of one bit, of one byte, and mixed ones.
func edges() []api.Line {
	full := api.Line{}
	for i := range full {
		full[i] = math.MaxUint64
	}
	l := []api.Line{{}, full}
	for i := range 64 * api.LineWords {
		var one api.Line
		one[i/64] = 1 << (i % 64)
		l = append(l, one)
	}
	for i := range api.LineBytes {
		var one api.Line
		one[i/8] = 255 << (i % 8 * 8)
		l = append(l, one)
	}
	return append(l, mixed(40)...)
}

func TestBytesOfTheDocument(t *testing.T) { // 3.1
	want := make([]byte, 64)
	want[0], want[9] = 1, 1
	if got := lines.Bytes(api.Line{1, 256}); !bytes.Equal(got, want) {
		t.Errorf("Bytes of 1, 256 and noughts = %v", got)
	}
	l := api.Line{0x0807060504030201, 0x100f0e0d0c0b0a09, 0x1817161514131211, 0x201f1e1d1c1b1a19, 0x2827262524232221, 0x302f2e2d2c2b2a29, 0x3837363534333231, 0x403f3e3d3c3b3a39}
	for i, b := range lines.Bytes(l) {
		if int(b) != i+1 {
			t.Errorf("the byte %d is %d", i, b)
		}
	}
}

func TestBytesOfAnyLine(t *testing.T) { // 3.1
	for _, l := range edges() {
		if got := lines.Bytes(l); !bytes.Equal(got, laid(l)) {
			t.Errorf("Bytes(%v) = %v", l, got)
		}
	}
}

func TestReadOfAnyLine(t *testing.T) { // 3.1
	for _, l := range edges() {
		if got, e := lines.Read(laid(l)); e != api.OK || got != l {
			t.Errorf("Read of the bytes of %v = %v, %v", l, got, e)
		}
	}
}

func TestReadAsksForWholeLines(t *testing.T) { // 3.1
	b := laid(mixed(3)...)
	for n := range len(b) + 1 {
		got, e := lines.Read(b[:n])
		if n == api.LineBytes {
			if e != api.OK {
				t.Errorf("Read of %d bytes: %v", n, e)
			}
		} else if e != api.ErrForm || got != (api.Line{}) {
			t.Errorf("Read of %d bytes = %v, %v", n, got, e)
		}
	}
	if got, e := lines.Read(nil); e != api.ErrForm || got != (api.Line{}) {
		t.Errorf("Read(nil) = %v, %v", got, e)
	}
}

func TestAllAreTheBytesInOrder(t *testing.T) { // 3.2
	for n := range 20 {
		l := mixed(n)
		if got := lines.All(l); !bytes.Equal(got, laid(l...)) {
			t.Errorf("All of %d lines = %v", n, got)
		}
	}
	if got := lines.All(nil); len(got) != 0 {
		t.Errorf("All(nil) = %v", got)
	}
}

func TestImageOfAnyNumberOfBytes(t *testing.T) { // 3.2
	l := mixed(5)
	b := laid(l...)
	for n := range len(b) + 1 {
		got, e := lines.Image(b[:n])
		if n%api.LineBytes == 0 {
			if e != api.OK || !slices.Equal(got, l[:n/api.LineBytes]) {
				t.Errorf("Image of %d bytes = %v, %v", n, got, e)
			}
		} else if e != api.ErrForm || len(got) != 0 {
			t.Errorf("Image of %d bytes = %v, %v", n, got, e)
		}
	}
	if got, e := lines.Image(nil); e != api.OK || len(got) != 0 {
		t.Errorf("Image(nil) = %v, %v", got, e)
	}
}

func TestImageHasAnEnd(t *testing.T) { // 3.2
	const most = api.MaxLines * api.LineBytes
	b := make([]byte, most+api.LineBytes+1)
	b[most-1] = 1
	got, e := lines.Image(b[:most])
	if e != api.OK || len(got) != api.MaxLines || got[api.MaxLines-1][7] != 1<<56 {
		t.Errorf("Image of as many lines as may be: %d, %v", len(got), e)
	}
	for n, want := range map[int]api.Errno{
		most - 1:                 api.ErrForm,
		most + 1:                 api.ErrForm,
		most + api.LineBytes:     api.ErrLong,
		most + api.LineBytes + 1: api.ErrForm, // no whole lines is told ahead of too many
	} {
		if got, e := lines.Image(b[:n]); e != want || len(got) != 0 {
			t.Errorf("Image of %d bytes: %d lines, %v, want %v", n, len(got), e, want)
		}
	}
}

func TestWordsAreInOrder(t *testing.T) { // 3.3
	for n := range 20 {
		l := mixed(n)
		if got := lines.Words(l); !slices.Equal(got, flat(l...)) {
			t.Errorf("Words of %d lines = %v", n, got)
		}
	}
	if got := lines.Words(nil); len(got) != 0 {
		t.Errorf("Words(nil) = %v", got)
	}
}

func TestCutOfAnyNumberOfWords(t *testing.T) { // 3.3
	l := mixed(5)
	w := flat(l...)
	for n := range len(w) + 1 {
		got, e := lines.Cut(w[:n])
		if n%api.LineWords == 0 {
			if e != api.OK || !slices.Equal(got, l[:n/api.LineWords]) {
				t.Errorf("Cut of %d words = %v, %v", n, got, e)
			}
		} else if e != api.ErrForm || len(got) != 0 {
			t.Errorf("Cut of %d words = %v, %v", n, got, e)
		}
	}
	if got, e := lines.Cut(nil); e != api.OK || len(got) != 0 {
		t.Errorf("Cut(nil) = %v, %v", got, e)
	}
}

func TestCutHasAnEnd(t *testing.T) { // 3.3
	const most = api.MaxLines * api.LineWords
	w := make([]uint64, most+api.LineWords+1)
	w[most-1] = 9
	got, e := lines.Cut(w[:most])
	if e != api.OK || len(got) != api.MaxLines || got[api.MaxLines-1][7] != 9 {
		t.Errorf("Cut of as many lines as may be: %d, %v", len(got), e)
	}
	for n, want := range map[int]api.Errno{
		most - 1:                 api.ErrForm,
		most + 1:                 api.ErrForm,
		most + api.LineWords:     api.ErrLong,
		most + api.LineWords + 1: api.ErrForm,
	} {
		if got, e := lines.Cut(w[:n]); e != want || len(got) != 0 {
			t.Errorf("Cut of %d words: %d lines, %v, want %v", n, len(got), e, want)
		}
	}
}

func TestZeroOfAnyNumber(t *testing.T) { // 3.3
	for n, want := range map[int]int{
		math.MinInt:      0,
		-1:               0,
		0:                0,
		1:                1,
		7:                7,
		api.MaxLines - 1: api.MaxLines - 1,
		api.MaxLines:     api.MaxLines,
		api.MaxLines + 1: api.MaxLines,
		math.MaxInt:      api.MaxLines,
	} {
		got := lines.Zero(n)
		if len(got) != want {
			t.Errorf("Zero(%d) has %d lines, want %d", n, len(got), want)
		}
		for i, l := range got {
			if l != (api.Line{}) {
				t.Fatalf("the line %d of Zero(%d) is %v", i, n, l)
			}
		}
	}
}

func TestWhatIsWrittenIsRead(t *testing.T) { // 3.4
	for _, l := range edges() {
		if got, e := lines.Read(lines.Bytes(l)); e != api.OK || got != l {
			t.Errorf("%v is read as %v, %v", l, got, e)
		}
	}
	for n := range 30 {
		l := mixed(n)
		if got, e := lines.Image(lines.All(l)); e != api.OK || !slices.Equal(got, l) {
			t.Errorf("%d lines as bytes are read as %v, %v", n, got, e)
		}
		if got, e := lines.Cut(lines.Words(l)); e != api.OK || !slices.Equal(got, l) {
			t.Errorf("%d lines as words are read as %v, %v", n, got, e)
		}
	}
}

func TestNothingIsSharedOrChanged(t *testing.T) { // R3
	l := mixed(4)
	b, w := laid(l...), flat(l...)
	image, _ := lines.Image(b)
	cut, _ := lines.Cut(w)
	all, words := lines.All(l), lines.Words(l)
	if !slices.Equal(l, mixed(4)) || !bytes.Equal(b, laid(l...)) || !slices.Equal(w, flat(l...)) {
		t.Errorf("what was handed in was changed")
	}
	clear(b)
	clear(w)
	if !slices.Equal(image, l) || !slices.Equal(cut, l) {
		t.Errorf("what was answered hangs on what was handed in")
	}
	clear(l)
	if l = mixed(4); !bytes.Equal(all, laid(l...)) || !slices.Equal(words, flat(l...)) {
		t.Errorf("what was answered hangs on the lines that were handed in")
	}
	again, _ := lines.Cut(words)
	clear(again)
	if !slices.Equal(words, flat(l...)) {
		t.Errorf("what was handed in hangs on what was answered")
	}
	zero := lines.Zero(2)
	zero[0][0] = 1
	if lines.Zero(2)[0][0] != 0 {
		t.Errorf("one Zero shares lines with another one")
	}
}
