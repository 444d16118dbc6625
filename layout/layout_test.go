package layout_test

import (
	"math"
	"testing"

	"limekiln/api"
	"limekiln/layout"
)

// config is a config by its four numbers.
func config(threads, slots, logs, buckets int) api.Config {
	return api.Config{Threads: threads, Slots: slots, Logs: logs, Buckets: buckets}
}

// of is the layout of a config that may be.
func of(t *testing.T, c api.Config) *layout.Layout {
	t.Helper()
	l, e := layout.Of(c)
	if e != api.OK || l == nil {
		t.Fatalf("Of(%v): %v", c, e)
	}
	return l
}

// configs are such as may be: the edges of lines and of limits, with each other.
func configs() []api.Config {
	var l []api.Config
	for _, threads := range []int{1, 2, 5, 64} {
		for _, slots := range []int{1, 2, 9, 40} {
			for _, logs := range []int{1, 7, 8, 9, 16, 17, 64} {
				for _, buckets := range []int{1, 7, 8, 9, 16, 17, 64} {
					l = append(l, config(threads, slots, logs, buckets))
				}
			}
		}
	}
	return append(l, config(64, 65536, 64, 64), config(63, 65535, 63, 63))
}

// beyond are numbers of which there is nothing, if there are many.
func beyond(many int) []int {
	return []int{-1, -2, -many, -many - 1, math.MinInt, math.MinInt + 1, many, many + 1, many + 7, many + 8, 8 * many, 1 << 32, math.MaxInt - 1, math.MaxInt}
}

// same fails if a number is another one.
func same(t *testing.T, name string, got, want int) {
	t.Helper()
	if got != want {
		t.Errorf("%s is %d, want %d", name, got, want)
	}
}

// ofThread are the words of a thread, by their names.
func ofThread(l *layout.Layout, thread int) map[string]int {
	return map[string]int{"Cell": l.Cell(thread), "Intent": l.Intent(thread), "Announce": l.Announce(thread)}
}

// ofSlot are the words of a slot, by their names.
func ofSlot(l *layout.Layout, s int) map[string]int {
	return map[string]int{"Gen": l.Gen(s), "Key": l.Key(s), "Val": l.Val(s), "Next": l.Next(s), "Tag": l.Tag(s), "After": l.After(s)}
}

func TestConfigThatMayNotBe(t *testing.T) { // 6.1
	for _, c := range []api.Config{
		{},
		config(0, 1, 1, 1), config(-1, 1, 1, 1), config(65, 1, 1, 1), config(math.MaxInt, 1, 1, 1), config(math.MinInt, 1, 1, 1),
		config(1, 0, 1, 1), config(1, -1, 1, 1), config(1, 65537, 1, 1), config(1, math.MaxInt, 1, 1), config(1, math.MinInt, 1, 1),
		config(1, 1, 0, 1), config(1, 1, -1, 1), config(1, 1, 65, 1), config(1, 1, math.MaxInt, 1), config(1, 1, math.MinInt, 1),
		config(1, 1, 1, 0), config(1, 1, 1, -1), config(1, 1, 1, 65), config(1, 1, 1, math.MaxInt), config(1, 1, 1, math.MinInt),
	} {
		if l, e := layout.Of(c); l != nil || e != api.ErrArg {
			t.Errorf("Of(%v) = %v, %v", c, l != nil, e)
		}
	}
}

func TestConfigIsToldAsItWas(t *testing.T) { // 6.1
	for _, c := range configs() {
		if got := of(t, c).Config(); got != c {
			t.Errorf("Config() = %v, want %v", got, c)
		}
	}
}

func TestHowManyThereAre(t *testing.T) { // 6.1
	for _, x := range []struct {
		c              api.Config
		lines, passing int
	}{
		{config(1, 1, 1, 1), 5 + 1 + 1 + 1 + 1, 4},
		{config(1, 1, 8, 8), 5 + 1 + 1 + 1 + 1, 4},
		{config(1, 1, 9, 8), 5 + 1 + 1 + 2 + 1, 4},
		{config(1, 1, 8, 9), 5 + 2 + 1 + 1 + 1, 4},
		{config(3, 5, 9, 2), 20, 10},
		{config(64, 65536, 64, 64), 5 + 8 + 64 + 512 + 65536, 2 + 64 + 65536},
	} {
		l := of(t, x.c)
		same(t, "Lines()", l.Lines(), x.lines)
		same(t, "Passing()", l.Passing(), x.passing)
	}
	if n := of(t, config(64, 65536, 64, 64)).Lines(); n > api.MaxLines {
		t.Errorf("the greatest layout has %d lines: no device has", n)
	}
}

func TestExampleOfTheDocument(t *testing.T) { // 6.1, 6.2, 6.3
	l := of(t, config(1, 2, 3, 9))
	same(t, "Lines()", l.Lines(), 11)
	same(t, "Bucket(0)", l.Bucket(0), 40)
	same(t, "Bucket(7)", l.Bucket(7), 47)
	same(t, "Bucket(8)", l.Bucket(8), 48)
	same(t, "Cell(0)", l.Cell(0), 56)
	same(t, "Intent(0)", l.Intent(0), 57)
	same(t, "Log(0, 0)", l.Log(0, 0), 64)
	same(t, "Log(0, 2)", l.Log(0, 2), 66)
	same(t, "Gen(0)", l.Gen(0), 72)
	same(t, "Tag(1)", l.Tag(1), 84)
	same(t, "Slot(72)", l.Slot(72), 0)
	same(t, "Slot(87)", l.Slot(87), 1)
}

func TestFixedWords(t *testing.T) { // 6.2
	for _, c := range configs() {
		l := of(t, c)
		same(t, "Head()", l.Head(), 16)
		same(t, "Tail()", l.Tail(), 24)
		same(t, "Set()", l.Set(), 32)
		same(t, "Epoch()", l.Epoch(), -1)
		same(t, "Free()", l.Free(), -2)
	}
}

func TestWordsThatThereAreNot(t *testing.T) { // 6.2
	for _, c := range configs() {
		l := of(t, c)
		none := l.Lines() * 8
		for _, n := range beyond(c.Buckets) {
			same(t, "Bucket beyond", l.Bucket(n), none)
		}
		for _, n := range beyond(c.Threads) {
			for name, at := range ofThread(l, n) {
				same(t, name+" beyond", at, none)
			}
			same(t, "Log of a thread beyond", l.Log(n, 0), none)
			same(t, "Log of a thread beyond", l.Log(n, c.Logs-1), none)
		}
		for _, n := range beyond(c.Logs) {
			same(t, "Log beyond", l.Log(0, n), none)
			same(t, "Log beyond", l.Log(c.Threads-1, n), none)
			same(t, "Log of a thread beyond, beyond", l.Log(c.Threads, n), none)
		}
		for _, n := range beyond(c.Slots) {
			for name, at := range ofSlot(l, n) {
				same(t, name+" beyond", at, none)
			}
		}
	}
}

func TestNoLayout(t *testing.T) { // 6.1 to 6.3, R1
	var l *layout.Layout
	if c := l.Config(); c != (api.Config{}) {
		t.Errorf("Config() = %v", c)
	}
	for i, n := range []int{l.Lines(), l.Passing(), l.Head(), l.Tail(), l.Set(), l.Epoch(), l.Free()} {
		if n != 0 {
			t.Errorf("answer %d of no layout: %d", i, n)
		}
	}
	for _, n := range append(beyond(64), 0, 1, 2, 63) {
		same(t, "Bucket", l.Bucket(n), 0)
		for name, at := range ofThread(l, n) {
			same(t, name, at, 0)
		}
		for name, at := range ofSlot(l, n) {
			same(t, name, at, 0)
		}
		same(t, "Log", l.Log(n, n), 0)
		same(t, "Log", l.Log(0, n), 0)
		same(t, "Log", l.Log(n, 0), 0)
		same(t, "Slot", l.Slot(n), api.None)
	}
}

func TestLayoutOfNothingDoesNotPanic(t *testing.T) { // R1
	var l layout.Layout
	for _, n := range append(beyond(64), 0, 1) {
		same(t, "Bucket", l.Bucket(n), 0)
		same(t, "Log", l.Log(n, n), 0)
		same(t, "Gen", l.Gen(n), 0)
		same(t, "After", l.After(n), 0)
		same(t, "Slot", l.Slot(n), api.None)
	}
}

func TestLayoutsAreApart(t *testing.T) { // R3
	small := of(t, config(1, 2, 3, 9))
	of(t, config(64, 100, 64, 64))
	same(t, "Lines()", small.Lines(), 11)
	same(t, "Gen(1)", small.Gen(1), 80)
	same(t, "After(1)", small.After(1), -5)
}
