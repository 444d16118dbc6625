package world_test

import (
	"math"
	"slices"
	"testing"

	"limekiln/api"
	"limekiln/bits"
	"limekiln/free"
	"limekiln/layout"
	"limekiln/super"
	"limekiln/view"
	"limekiln/world"
)

// some is a config of a few of all.
var some = api.Config{Threads: 2, Slots: 5, Logs: 2, Buckets: 2}

// begins, goes, evict, crash and recovers are acts.
func begins(t int, o api.Op) api.Act {
	return api.Act{Kind: api.ActInvoke, Thread: t, Op: o}
}

func goes(t int) api.Act {
	return api.Act{Kind: api.ActStep, Thread: t}
}

func evict(line int) api.Act {
	return api.Act{Kind: api.ActEvict, Line: line}
}

var (
	crash    = api.Act{Kind: api.ActCrash}
	recovers = api.Act{Kind: api.ActRevive}
)

// wordsOf are the words of an empty store.
func wordsOf(t *testing.T, c api.Config) []uint64 {
	t.Helper()
	words, e := world.Format(c)
	if e != api.OK {
		t.Fatalf("Format(%+v): %v", c, e)
	}
	return words
}

// over is a world over words.
func over(t *testing.T, words []uint64) *world.World {
	t.Helper()
	w, e := world.Open(words)
	if e != api.OK {
		t.Fatalf("Open: %v", e)
	}
	return w
}

// rises brings a world up, and tells how many acts that took.
func rises(t *testing.T, w *world.World) int {
	t.Helper()
	for n := 1; n < 10000; n++ {
		e := w.Do(recovers)
		if e != api.OK {
			t.Fatalf("ActRevive: %v, behind %d", e, n)
		}
		if w.Up() {
			return n
		}
	}
	t.Fatalf("it does not come up")
	return 0
}

// grown is a world that is up, of an empty store.
func grown(t *testing.T, c api.Config) *world.World {
	t.Helper()
	w := over(t, wordsOf(t, c))
	rises(t, w)
	return w
}

// ruined is a world that is corrupt, though its superblock is not.
func ruined(t *testing.T) *world.World {
	t.Helper()
	words := wordsOf(t, some)
	words[5*api.LineWords] = bits.Link(0, api.None) // a bucket's head leads to the queue's slot
	w := over(t, words)
	for w.Do(recovers) == api.OK {
	}
	if !w.Corrupt() {
		t.Fatalf("it is not corrupt")
	}
	return w
}

// acts does acts, each of which must have no error.
func acts(t *testing.T, w *world.World, all ...api.Act) {
	t.Helper()
	for i, a := range all {
		if e := w.Do(a); e != api.OK {
			t.Fatalf("the act %d, %+v: %v", i, a, e)
		}
	}
}

// answers lets a thread go on till it has answered, and tells behind how many steps.
func answers(t *testing.T, w *world.World, who int) int {
	t.Helper()
	for n := 1; n < 10000; n++ {
		acts(t, w, goes(who))
		if _, is := w.Thread(who).Op(); !is {
			return n
		}
	}
	t.Fatalf("it does not answer")
	return 0
}

func TestExampleOfTheDocument(t *testing.T) { // 23.1, 23.2, example 1
	w := grown(t, some)
	o := api.Op{Kind: api.OpAdd, Key: 4}
	begin := w.Memory().Clock()
	acts(t, w, begins(0, o))
	steps := answers(t, w, 0)
	l := w.Calls()
	if len(l) != 1 || l[0].Op != o || l[0].Thread != 0 || l[0].Result != (api.Result{Kind: api.ResOK}) || l[0].Begin != begin || l[0].End != begin+steps || l[0].When <= begin || l[0].When > l[0].End {
		t.Errorf("the calls are %+v, from %d, behind %d steps", l, begin, steps)
	}
}

func TestFormat(t *testing.T) { // 23.1
	for _, c := range []api.Config{some, {Threads: 1, Slots: 1, Logs: 1, Buckets: 1}, {Threads: 3, Slots: 9, Logs: 17, Buckets: 9}, {Threads: 64, Slots: 65536, Logs: 64, Buckets: 64}} {
		lines := 5 + (c.Buckets+7)/8 + c.Threads + c.Threads*((c.Logs+7)/8) + c.Slots
		want := make([]uint64, 8*lines)
		block, _ := super.Line(c)
		copy(want, block[:])
		copy(want[8:], block[:])
		want[2*8], want[3*8] = 1, 1 // links to the slot 0
		words := wordsOf(t, c)
		if !slices.Equal(words, want) {
			t.Errorf("of %+v: other words, %d, want %d", c, len(words), len(want))
		}
		if l, _ := layout.Of(c); !view.Right(l, words) {
			t.Errorf("of %+v: no store's words", c)
		}
	}
	for _, c := range []api.Config{{}, {Threads: 0, Slots: 1, Logs: 1, Buckets: 1}, {Threads: 65, Slots: 1, Logs: 1, Buckets: 1}, {Threads: 1, Slots: 65537, Logs: 1, Buckets: 1}, {Threads: 1, Slots: 1, Logs: -1, Buckets: 1}, {Threads: 1, Slots: 1, Logs: 1, Buckets: 65}, {Threads: math.MinInt, Slots: math.MaxInt, Logs: 1, Buckets: 1}} {
		if words, e := world.Format(c); e != api.ErrArg || words != nil {
			t.Errorf("Format(%+v): %d words, %v", c, len(words), e)
		}
	}
}

func TestFormatIsNew(t *testing.T) { // R3
	a := wordsOf(t, some)
	want := slices.Clone(a)
	clear(a)
	if !slices.Equal(wordsOf(t, some), want) {
		t.Errorf("the words are others")
	}
}

func TestOpen(t *testing.T) { // 23.1
	words := wordsOf(t, some)
	given := slices.Clone(words)
	w := over(t, given)
	if w.Up() || w.Corrupt() || w.Calls() != nil || w.Layout().Config() != some || w.Memory().Clock() != 0 || w.Memory().Last() != (api.Access{}) {
		t.Errorf("up %v, corrupt %v, calls %v, %+v, the clock is %d", w.Up(), w.Corrupt(), w.Calls(), w.Layout().Config(), w.Memory().Clock())
	}
	clear(given)
	if d := w.Memory().Device(); !slices.Equal(d.Kept(), words) || !slices.Equal(d.Seen(), words) {
		t.Errorf("the words that were handed in are the world's own")
	}
	for n := range w.Layout().Passing() {
		if p, is := w.Memory().Peek(-1 - n); p != 0 || !is {
			t.Errorf("the passing word %d is %x, %v", n, p, is)
		}
	}
	if _, is := w.Memory().Peek(-1 - w.Layout().Passing()); is {
		t.Errorf("there are more passing words than the layout has")
	}
	for who, want := range []api.Errno{api.OK, api.OK, api.ErrArg} {
		if e := w.Memory().Device().Fence(who); e != want {
			t.Errorf("the device's thread %d: %v, want %v", who, e, want)
		}
	}
	rises(t, w)
	if !slices.Equal(given, make([]uint64, len(given))) {
		t.Errorf("what was handed in was changed")
	}
}

func TestOpenOfOneCopy(t *testing.T) { // 23.1
	for line := range 2 {
		words := wordsOf(t, some)
		clear(words[line*8 : line*8+8])
		if w := over(t, words); w.Layout().Config() != some || rises(t, w) == 0 {
			t.Errorf("the copy %d was not read", 1-line)
		}
	}
}

func TestOpenOfWhatIsNone(t *testing.T) { // 23.1
	words := wordsOf(t, some)
	other := some
	other.Slots++
	parted, more := slices.Clone(words), slices.Clone(words)
	block, _ := super.Line(other)
	copy(parted[8:], block[:])
	copy(more, block[:])
	copy(more[8:], block[:])
	spoilt := slices.Clone(words)
	spoilt[3], spoilt[11] = 9, 9
	same := make([]uint64, 16)
	copy(same, words)
	for _, x := range []struct {
		name  string
		words []uint64
		want  api.Errno
	}{
		{"none", nil, api.ErrForm},
		{"no whole lines", make([]uint64, 1), api.ErrForm},
		{"no whole lines", words[:len(words)-1], api.ErrForm},
		{"no whole lines", words[:23], api.ErrForm},
		{"one line", words[:8], api.ErrForm},
		{"too many", make([]uint64, (api.MaxLines+1)*8), api.ErrLong},
		{"too many, and no whole lines", make([]uint64, (api.MaxLines+1)*8+1), api.ErrForm},
		{"as many as there may be, of noughts", make([]uint64, api.MaxLines*8), api.ErrCorrupt},
		{"two lines of noughts", make([]uint64, 16), api.ErrCorrupt},
		{"just the superblock", same, api.ErrForm},
		{"both copies spoilt", spoilt, api.ErrCorrupt},
		{"both copies spoilt, and a line less", spoilt[:len(spoilt)-8], api.ErrCorrupt},
		{"copies that part", parted, api.ErrCorrupt},
		{"a line less", words[:len(words)-8], api.ErrForm},
		{"a line more", append(slices.Clone(words), make([]uint64, 8)...), api.ErrForm},
		{"another config", more, api.ErrForm},
	} {
		if w, e := world.Open(x.words); e != x.want || w != nil {
			t.Errorf("%s: %v, %v, want %v", x.name, w, e, x.want)
		}
	}
}

func TestRecovery(t *testing.T) { // 23.2: each ActRevive is a step
	w := over(t, wordsOf(t, some))
	if w.Up() || w.Corrupt() {
		t.Errorf("up %v, corrupt %v", w.Up(), w.Corrupt())
	}
	n := rises(t, w)
	if w.Memory().Clock() != n || w.Memory().Last() != (api.Access{Kind: api.AcStore, Thread: 0, At: w.Layout().Free(), New: bits.Top(1, 0), Done: true}) {
		t.Errorf("behind %d steps: %d accesses, the last one %+v", n, w.Memory().Clock(), w.Memory().Last())
	}
	if slots, is := free.List(w.Layout(), w.Memory()); !is || !slices.Equal(slots, []int{1, 2, 3, 4}) {
		t.Errorf("free: %v", slots)
	}
}

func TestRecoveryByThread0(t *testing.T) { // 23, Words
	w := over(t, wordsOf(t, some))
	for !w.Up() {
		acts(t, w, recovers)
		if a := w.Memory().Last(); a.Thread != 0 {
			t.Errorf("%+v", a)
		}
	}
}

func TestRecoveryBeginsAnewBehindACrash(t *testing.T) { // 23.2
	words := wordsOf(t, some)
	most := rises(t, over(t, words))
	for n := range most {
		w := over(t, words)
		for range n {
			acts(t, w, recovers)
		}
		acts(t, w, crash, recovers)
		if a := w.Memory().Last(); a != (api.Access{Kind: api.AcLoad, At: 0, Old: words[0], Done: true}) {
			t.Errorf("broken off behind %d steps, it begins by %+v", n, a)
		}
		if got := 1 + rises(t, w); got != most || w.Memory().Clock() != n+most {
			t.Errorf("broken off behind %d steps, it takes %d, the clock is %d", n, got, w.Memory().Clock())
		}
	}
}

func TestCorrupt(t *testing.T) { // 23.2
	words := wordsOf(t, some)
	words[4*8] = bits.Link(0, api.None) // the set's head leads to the queue's slot
	w := over(t, words)
	for range 2 {
		if w.Up() || w.Corrupt() {
			t.Errorf("up %v, corrupt %v", w.Up(), w.Corrupt())
		}
		acts(t, w, slices.Repeat([]api.Act{recovers}, 18)...) // the superblock, the queue's head and its slot's link
		if w.Up() || w.Corrupt() {
			t.Errorf("up %v, corrupt %v", w.Up(), w.Corrupt())
		}
		clock := w.Memory().Clock()
		if e := w.Do(recovers); e != api.ErrCorrupt || w.Up() || !w.Corrupt() || w.Memory().Clock() != clock+1 {
			t.Errorf("%v, up %v, corrupt %v, %d accesses", e, w.Up(), w.Corrupt(), w.Memory().Clock()-clock)
		}
		for _, a := range []api.Act{recovers, begins(0, api.Op{Kind: api.OpAdd}), goes(0), recovers} {
			want := api.ErrOff
			if a == recovers {
				want = api.ErrCorrupt
			}
			if e := w.Do(a); e != want || !w.Corrupt() || w.Memory().Clock() != clock+1 {
				t.Errorf("%+v: %v, want %v; corrupt %v, %d accesses", a, e, want, w.Corrupt(), w.Memory().Clock()-clock)
			}
		}
		if !slices.Equal(w.Memory().Device().Seen(), words) || w.Calls() != nil {
			t.Errorf("it was changed")
		}
		acts(t, w, crash)
	}
	acts(t, w, evict(0))
	w.Memory().Store(0, 4*8, 0)
	rises(t, w) // it is just down behind a crash, and may come up
}

func TestNoWorld(t *testing.T) { // 23.1, 23.2
	for _, w := range []*world.World{nil, {}} {
		for kind := -1; kind < 7; kind++ {
			if e := w.Do(api.Act{Kind: kind}); e != api.ErrArg {
				t.Errorf("an act of the kind %d: %v", kind, e)
			}
		}
		if w.Up() || w.Corrupt() || w.Calls() != nil || w.Thread(0) != nil || w.Layout() != nil || w.Memory() != nil {
			t.Errorf("no world tells something")
		}
	}
}

func TestThread(t *testing.T) { // 23.2
	c := api.Config{Threads: 3, Slots: 5, Logs: 1, Buckets: 1}
	w := grown(t, c)
	for who := range 3 {
		if w.Thread(who) == nil || w.Thread(who) != w.Thread(who) {
			t.Fatalf("there is no thread %d", who)
		}
		acts(t, w, begins(who, api.Op{Kind: api.OpGet, Key: uint32(who)}), goes(who))
		if a := w.Memory().Last(); a.Thread != who {
			t.Errorf("%+v, by %d", a, who)
		}
	}
	for who := range 3 {
		if o, is := w.Thread(who).Op(); !is || o != (api.Op{Kind: api.OpGet, Key: uint32(who)}) {
			t.Errorf("the thread %d has %+v, %v", who, o, is)
		}
	}
	for _, who := range []int{math.MinInt, -1, 3, 64, math.MaxInt} {
		if w.Thread(who) != nil {
			t.Errorf("there is a thread %d", who)
		}
	}
	if over(t, wordsOf(t, c)).Thread(2) == nil {
		t.Errorf("there is no thread of a world that is down")
	}
}

func TestCallsAreNew(t *testing.T) { // R3
	w := grown(t, some)
	acts(t, w, begins(0, api.Op{Kind: api.OpAdd, Key: 1}), begins(1, api.Op{Kind: api.OpAdd, Key: 2}))
	l := w.Calls()
	want := slices.Clone(l)
	clear(l)
	if !slices.Equal(w.Calls(), want) {
		t.Errorf("the calls are %+v, want %+v", w.Calls(), want)
	}
	l = w.Calls()
	answers(t, w, 0)
	acts(t, w, crash)
	if !slices.Equal(l, want) {
		t.Errorf("calls that were told have changed: %+v", l)
	}
}

// ask are acts with the errors that they have, in order.
type ask struct {
	a    api.Act
	want api.Errno
}

// asks does acts, and fails if one has another error, or if one with an error changes anything.
func asks(t *testing.T, w *world.World, all ...ask) {
	t.Helper()
	for i, x := range all {
		clock, calls, is := w.Memory().Clock(), w.Calls(), [2]bool{w.Up(), w.Corrupt()}
		e := w.Do(x.a)
		if e != x.want {
			t.Errorf("the act %d, %+v: %v, want %v", i, x.a, e, x.want)
		}
		if e != api.OK && (w.Memory().Clock() != clock || !slices.Equal(w.Calls(), calls) || is != [2]bool{w.Up(), w.Corrupt()}) {
			t.Errorf("the act %d, %+v: %v, and something has changed", i, x.a, e)
		}
	}
}

// beyond are acts that there are not.
func beyond() []ask {
	var all []ask
	for _, kind := range []int{math.MinInt, -1, 0, 6, 7, math.MaxInt} {
		all = append(all, ask{api.Act{Kind: kind, Op: api.Op{Kind: api.OpAdd}}, api.ErrArg})
	}
	return all
}

// evictions are evictions of lines that there are, and of such as there are not.
func evictions(w *world.World) []ask {
	last := w.Layout().Lines() - 1
	return []ask{{evict(0), api.OK}, {evict(last), api.OK}, {evict(last + 1), api.ErrRange}, {evict(-1), api.ErrRange}, {evict(math.MaxInt), api.ErrRange}, {evict(math.MinInt), api.ErrRange}}
}

func TestErrorsOfOneThatIsNotUp(t *testing.T) { // 23.2, 23.3
	down, begun := over(t, wordsOf(t, some)), over(t, wordsOf(t, some))
	acts(t, begun, recovers, recovers)
	off := []ask{
		{begins(0, api.Op{Kind: api.OpAdd}), api.ErrOff},
		{begins(0, api.Op{Kind: 9}), api.ErrOff},
		{begins(2, api.Op{Kind: api.OpAdd}), api.ErrOff},
		{goes(0), api.ErrOff},
		{goes(-1), api.ErrOff},
		{goes(2), api.ErrOff},
	}
	for _, w := range []*world.World{down, begun, ruined(t)} {
		asks(t, w, off...)
		asks(t, w, beyond()...)
		asks(t, w, evictions(w)...)
		for who := range some.Threads {
			if _, is := w.Thread(who).Op(); is {
				t.Errorf("the thread %d has something under way", who)
			}
		}
	}
	rises(t, down)
	rises(t, begun)
}

func TestErrorsOfOneThatIsUp(t *testing.T) { // 23.2
	w := grown(t, some)
	asks(t, w, beyond()...)
	asks(t, w, evictions(w)...)
	asks(t, w,
		ask{recovers, api.ErrBusy},
		ask{goes(0), api.ErrNone},
		ask{goes(2), api.ErrArg},
		ask{goes(-1), api.ErrArg},
		ask{goes(math.MinInt), api.ErrArg},
		ask{goes(math.MaxInt), api.ErrArg},
		ask{begins(2, api.Op{Kind: api.OpAdd}), api.ErrArg},
		ask{begins(-1, api.Op{Kind: api.OpAdd}), api.ErrArg},
		ask{begins(0, api.Op{}), api.ErrArg},
		ask{begins(0, api.Op{Kind: 9}), api.ErrArg},
		ask{begins(0, api.Op{Kind: -1}), api.ErrArg},
		ask{begins(0, api.Op{Kind: api.OpHas}), api.OK},
		ask{begins(0, api.Op{Kind: api.OpHas}), api.ErrBusy},
		ask{begins(0, api.Op{Kind: 9}), api.ErrArg},
		ask{goes(1), api.ErrNone},
		ask{recovers, api.ErrBusy},
		ask{goes(0), api.OK},
	)
	answers(t, w, 0)
	asks(t, w, ask{goes(0), api.ErrNone}, ask{begins(0, api.Op{Kind: api.OpDeq}), api.OK}, ask{crash, api.OK}, ask{goes(0), api.ErrOff})
	rises(t, w)
	asks(t, w, ask{goes(0), api.ErrNone}) // the crash has left it idle
	if l := w.Calls(); len(l) != 2 {
		t.Errorf("the calls are %+v", l)
	}
}

func TestThreadsThatWereLedFromElsewhere(t *testing.T) { // R1: what Thread answers has calls of its own
	w := grown(t, some)
	x := w.Thread(0)
	x.Invoke(api.Op{Kind: api.OpAdd, Key: 3})
	if e := w.Do(begins(0, api.Op{Kind: api.OpHas})); e != api.ErrBusy {
		t.Errorf("ActInvoke: %v", e)
	}
	answers(t, w, 0)
	x.Invoke(api.Op{Kind: api.OpHas, Key: 3})
	acts(t, w, crash)
	rises(t, w)
	acts(t, w, begins(0, api.Op{Kind: api.OpHas, Key: 3}))
	for x.Step(w.Memory()) {
	}
	acts(t, w, goes(0))
	if l := w.Calls(); len(l) != 1 || l[0].Result.Kind != api.ResThere || l[0].End != w.Memory().Clock() {
		t.Errorf("the calls are %+v", l)
	}
	acts(t, w, begins(0, api.Op{Kind: api.OpHas, Key: 3}))
	for x.Step(w.Memory()) {
	}
	x.Take()
	if e := w.Do(goes(0)); e != api.ErrNone {
		t.Errorf("ActStep: %v", e)
	}
	acts(t, w, begins(0, api.Op{Kind: api.OpHas, Key: 3}), crash)
	rises(t, w)
	l := w.Calls()
	x.Invoke(api.Op{Kind: api.OpAdd, Key: 5})
	answers(t, w, 0)
	if !slices.Equal(w.Calls(), l) {
		t.Errorf("the calls are %+v, want %+v", w.Calls(), l)
	}
}
