package ledger

import (
	"math"
	"math/rand"
	"slices"
	"testing"

	"turnkey/api"
)

var (
	a = api.Event{Kind: api.EvAes, Size: 16}
	b = api.Event{Kind: api.EvWipe, Size: 8}
	c = api.Event{Kind: api.EvAes, Size: 24}  // a's kind, another size
	d = api.Event{Kind: api.EvWipe, Size: 16} // a's size, another kind
)

// someEvents are of kinds and sizes that no layer records, too.
var someEvents = []api.Event{a, b, c, d, {}, {Kind: 255, Size: math.MinInt}, {Kind: 255, Size: math.MaxInt}, {Kind: api.EvCode, Size: -1}}

// run makes a run.
func run(e api.Event, n int) api.Run { return api.Run{Event: e, Count: n} }

// runs makes a list of runs.
func runs(l ...api.Run) []api.Run { return l }

// wantRuns holds runs against those that must be, one by one.
func wantRuns(t *testing.T, what string, got []api.Run, want ...api.Run) {
	t.Helper()
	if len(got) != len(want) {
		t.Fatalf("%s = %v, want %v", what, got, want)
	}
	for i, r := range got {
		if r.Event.Kind != want[i].Event.Kind || r.Event.Size != want[i].Event.Size || r.Count != want[i].Count {
			t.Fatalf("%s = %v, want %v", what, got, want)
		}
	}
}

// wantLen holds what Len and Mark tell against a number.
func wantLen(t *testing.T, l *Ledger, want int) {
	t.Helper()
	if l.Len() != want || l.Mark() != want {
		t.Fatalf("Len %d, Mark %d, want %d", l.Len(), l.Mark(), want)
	}
}

// firstOf goes over events and stops behind so many.
func firstOf(l *Ledger, most int) []api.Event {
	var got []api.Event
	for e := range l.All() {
		got = append(got, e)
		if len(got) == most {
			break
		}
	}
	return got
}

// plainRuns makes runs of events by the words of the chapter alone.
func plainRuns(events []api.Event) []api.Run {
	var out []api.Run
	for i, e := range events {
		if i == 0 || events[i-1] != e {
			out = append(out, api.Run{Event: e})
		}
		out[len(out)-1].Count++
	}
	return out
}

// filled is a ledger with 3 a, 2 b, 1 a.
func filled() *Ledger {
	l := New()
	l.NoteTimes(a, 3)
	l.NoteTimes(b, 2)
	l.Note(a)
	return l
}

func TestExamples(t *testing.T) { // the chapter's, in its order
	l := New()
	l.Note(a)
	l.NoteTimes(a, 2)
	l.NoteTimes(b, 0)
	l.Note(b)
	wantRuns(t, "Runs", l.Runs(), run(a, 3), run(b, 1))
	wantLen(t, l, 4)
	l.Note(b)
	wantRuns(t, "Since(4)", l.Since(4), run(b, 1))
	wantRuns(t, "Since(2)", l.Since(2), run(a, 1), run(b, 2))
	wantRuns(t, "Since(5)", l.Since(5))
	wantRuns(t, "Since(6)", l.Since(6))
	wantRuns(t, "Since(-1)", l.Since(-1), run(a, 3), run(b, 2))
	if l.Count(api.EvAes) != 3 || l.Count(api.EvCode) != 0 {
		t.Error("Count", l.Count(api.EvAes), l.Count(api.EvCode))
	}
	if got := firstOf(l, 2); !slices.Equal(got, []api.Event{a, a}) {
		t.Error("All stopped behind 2:", got)
	}
	l.Reset()
	wantLen(t, l, 0)
	wantRuns(t, "Since(0) behind Reset", l.Since(0))
	wantRuns(t, "Join", Join(runs(run(a, 2), run(b, 0)), runs(run(a, 1), run(b, 3))), run(a, 3), run(b, 3))
	if Check(runs(run(a, 2), run(a, 1))) != api.ErrRuns || Check(runs(run(a, 0))) != api.ErrRuns || Check(nil) != api.OK {
		t.Error("Check")
	}
	if Total(runs(run(a, 2), run(b, -3), run(b, 1))) != 3 || Total(runs(run(a, math.MaxInt64), run(b, 1))) != math.MaxInt64 {
		t.Error("Total")
	}
}

func TestNewIsEmpty(t *testing.T) { // P2.1
	l := New()
	if l == nil {
		t.Fatal("New gave nil")
	}
	wantLen(t, l, 0)
	wantRuns(t, "Runs", l.Runs())
	wantRuns(t, "Since(0)", l.Since(0))
	if got := firstOf(l, -1); len(got) != 0 {
		t.Error("All of none:", got)
	}
	l.Note(a)
	wantLen(t, New(), 0)
}

func TestNoteTakesAnyEvent(t *testing.T) { // P2.1
	l := New()
	var want []api.Run
	for _, e := range someEvents {
		l.Note(e)
		want = append(want, run(e, 1))
	}
	wantRuns(t, "Runs", l.Runs(), want...)
	wantLen(t, l, len(someEvents))
}

func TestNoteTimesBelowOne(t *testing.T) { // P2.1
	for _, n := range []int{0, -1, -5, math.MinInt} {
		l := New()
		l.NoteTimes(a, n)
		wantLen(t, l, 0)
		wantRuns(t, "Runs", l.Runs())
		l.Note(b)
		l.NoteTimes(b, n)
		l.NoteTimes(a, n)
		l.NoteTimes(b, 2)
		wantRuns(t, "Runs", l.Runs(), run(b, 3))
		wantLen(t, l, 3)
	}
}

func TestNoteTimesIsManyNotes(t *testing.T) { // P2.1, P2.2
	once, many := New(), New()
	for i, e := range []api.Event{a, a, c, b, d, d, a} {
		for range i {
			once.Note(e)
		}
		many.NoteTimes(e, i)
	}
	want := runs(run(a, 1), run(c, 2), run(b, 3), run(d, 9), run(a, 6))
	wantRuns(t, "Note", once.Runs(), want...)
	wantRuns(t, "NoteTimes", many.Runs(), want...)
	wantLen(t, once, 21)
	wantLen(t, many, 21)
}

func TestNoteTimesOfMany(t *testing.T) { // P2.1: up to 2^62 events are promised
	l := New()
	l.NoteTimes(a, 1<<61)
	l.NoteTimes(b, 1<<60)
	l.NoteTimes(b, 1<<60)
	wantLen(t, l, 1<<62)
	wantRuns(t, "Runs", l.Runs(), run(a, 1<<61), run(b, 1<<61))
	wantRuns(t, "Since", l.Since(1<<61-1), run(a, 1), run(b, 1<<61))
	wantRuns(t, "Since", l.Since(1<<62-1), run(b, 1))
	wantRuns(t, "Since", l.Since(1<<62))
	if got := firstOf(l, 3); !slices.Equal(got, []api.Event{a, a, a}) {
		t.Error("All stopped behind 3:", got)
	}
}

func TestCount(t *testing.T) { // P2.2
	l := filled()
	l.NoteTimes(c, 4)
	for k, want := range map[api.EventKind]int{api.EvAes: 8, api.EvWipe: 2, api.EvCode: 0, 0: 0, 255: 0} {
		if got := l.Count(k); got != want {
			t.Errorf("Count(%d) = %d, want %d", k, got, want)
		}
	}
}

func TestReset(t *testing.T) { // P2.2
	l := filled()
	told := l.Runs()
	l.Reset()
	wantLen(t, l, 0)
	wantRuns(t, "Runs", l.Runs())
	wantRuns(t, "Since(-1)", l.Since(-1))
	if l.Count(api.EvAes) != 0 || len(firstOf(l, -1)) != 0 {
		t.Error("events behind Reset")
	}
	l.Note(a)
	l.Note(b)
	wantRuns(t, "Runs from then on", l.Runs(), run(a, 1), run(b, 1))
	wantRuns(t, "what was told before", told, run(a, 3), run(b, 2), run(a, 1))
	l.Reset()
	l.Reset()
	wantLen(t, l, 0)
}

func TestAllStopsAnywhere(t *testing.T) { // P2.3
	l := filled()
	want := []api.Event{a, a, a, b, b, a}
	for most := 1; most <= len(want); most++ {
		if got := firstOf(l, most); !slices.Equal(got, want[:most]) {
			t.Errorf("All stopped behind %d: %v", most, got)
		}
	}
	if got := firstOf(l, -1); !slices.Equal(got, want) {
		t.Error("All:", got)
	}
	wantRuns(t, "Runs behind All", l.Runs(), run(a, 3), run(b, 2), run(a, 1))
}

func TestAllIsAsAtTheCall(t *testing.T) { // P2.3, rule 6
	l := filled()
	all := l.All()
	want := slices.Collect(all)
	l.Note(a) // into the last run
	l.Note(b) // behind it
	again := slices.Collect(all)
	l.Reset()
	l.NoteTimes(c, 9)
	for i, got := range [][]api.Event{want, again, slices.Collect(all)} {
		if !slices.Equal(got, []api.Event{a, a, a, b, b, a}) {
			t.Errorf("gone over for the %d. time: %v", i+1, got)
		}
	}
	for range all {
		break
	}
	if got := slices.Collect(all); len(got) != 6 {
		t.Error("gone over again behind a stop:", got)
	}
}

func TestAllWhileWritten(t *testing.T) { // P2.3, rule 6
	l := filled()
	n := 0
	for e := range l.All() {
		l.Note(e)
		l.Note(d)
		if n++; n > 6 {
			t.Fatal("All goes on over what came behind the call")
		}
	}
	if n != 6 {
		t.Error(n, "events, want 6")
	}
	wantLen(t, l, 18)
	n = 0
	for range l.All() {
		l.Reset()
		n++
	}
	if n != 18 {
		t.Error(n, "events of a ledger that is reset, want 18")
	}
}

func TestSinceEveryMark(t *testing.T) { // P2.4
	l := filled()
	all := []api.Event{a, a, a, b, b, a}
	for mark := -3; mark <= 9; mark++ {
		from := min(max(mark, 0), len(all))
		wantRuns(t, "Since", l.Since(mark), plainRuns(all[from:])...)
	}
	wantRuns(t, "Since the least int", l.Since(math.MinInt), l.Runs()...)
	wantRuns(t, "Since the greatest int", l.Since(math.MaxInt))
	wantRuns(t, "Runs behind Since", l.Runs(), run(a, 3), run(b, 2), run(a, 1))
}

func TestSame(t *testing.T) { // P2.5
	lists := [][]api.Run{
		nil,
		runs(run(a, 1)), runs(run(a, 2)), runs(run(b, 1)), runs(run(c, 1)), runs(run(d, 1)), runs(run(a, 0)), runs(run(a, -1)),
		runs(run(a, 1), run(a, 1)), runs(run(a, 1), run(b, 1)), runs(run(b, 1), run(a, 1)), runs(run(a, 1), run(b, 0)),
	}
	for i, x := range lists {
		for j, y := range lists {
			if got := Same(x, slices.Clone(y)); got != (i == j) {
				t.Errorf("Same(%v, %v) = %v", x, y, got)
			}
		}
	}
	if !Same(nil, []api.Run{}) || !Same([]api.Run{}, nil) {
		t.Error("nil and empty are the same")
	}
}

func TestJoin(t *testing.T) { // P2.5
	for _, x := range []struct{ a, b, want []api.Run }{
		{nil, nil, nil},
		{nil, runs(run(a, 1)), runs(run(a, 1))},
		{runs(run(a, 1)), nil, runs(run(a, 1))},
		{runs(run(a, 1)), runs(run(b, 2)), runs(run(a, 1), run(b, 2))},
		{runs(run(a, 1)), runs(run(a, 2)), runs(run(a, 3))},
		{runs(run(a, 1)), runs(run(c, 2)), runs(run(a, 1), run(c, 2))},
		{runs(run(b, 1)), runs(run(d, 2)), runs(run(b, 1), run(d, 2))},
		{runs(run(a, 0)), runs(run(b, -1), run(c, math.MinInt)), nil},
		{runs(run(a, 1), run(b, 0), run(a, 1)), nil, runs(run(a, 2))},
		{nil, runs(run(a, 1), run(a, -7), run(a, 1), run(a, 4)), runs(run(a, 6))},
		{runs(run(a, 1), run(b, -1)), runs(run(b, 0), run(a, 2)), runs(run(a, 3))},
		{runs(run(a, 1), run(b, 1), run(a, 1)), runs(run(b, 1)), runs(run(a, 1), run(b, 1), run(a, 1), run(b, 1))},
		{runs(run(a, math.MaxInt)), runs(run(a, 1)), runs(run(a, math.MaxInt))},
		{runs(run(a, 1)), runs(run(a, math.MaxInt), run(a, math.MaxInt), run(b, 1)), runs(run(a, math.MaxInt), run(b, 1))},
		{runs(run(a, 1<<62)), runs(run(a, 1<<62-1)), runs(run(a, math.MaxInt))},
		{runs(run(a, 1<<62)), runs(run(a, 1<<62-2)), runs(run(a, math.MaxInt-1))},
	} {
		got := Join(x.a, x.b)
		wantRuns(t, "Join", got, x.want...)
		if Check(got) != api.OK {
			t.Error("Join made runs that may not be:", got)
		}
	}
}

func TestTotal(t *testing.T) { // P2.5
	for _, x := range []struct {
		l    []api.Run
		want int
	}{
		{nil, 0},
		{runs(run(a, 5)), 5},
		{runs(run(a, 5), run(a, 6), run(b, 7)), 18},
		{runs(run(a, 0), run(b, -1), run(c, math.MinInt)), 0},
		{runs(run(a, math.MinInt), run(b, 2), run(c, -2)), 2},
		{runs(run(a, math.MaxInt)), math.MaxInt},
		{runs(run(a, math.MaxInt-1), run(b, 1)), math.MaxInt},
		{runs(run(a, math.MaxInt-2), run(b, 1)), math.MaxInt - 1},
		{runs(run(a, math.MaxInt), run(b, -9), run(c, math.MaxInt), run(d, 3)), math.MaxInt},
		{runs(run(a, 1), run(b, math.MaxInt), run(c, math.MaxInt)), math.MaxInt},
	} {
		if got := Total(x.l); got != x.want {
			t.Errorf("Total(%v) = %d, want %d", x.l, got, x.want)
		}
	}
}

func TestCheck(t *testing.T) { // P2.5
	for _, l := range [][]api.Run{
		nil, {}, runs(run(a, 1)), runs(run(a, math.MaxInt), run(b, math.MaxInt)),
		runs(run(a, 1), run(c, 1), run(d, 1), run(b, 1), run(a, 1)),
	} {
		if got := Check(l); got != api.OK {
			t.Errorf("Check(%v) = %d, want OK", l, got)
		}
	}
	for _, l := range [][]api.Run{
		runs(run(a, 0)), runs(run(a, -1)), runs(run(a, math.MinInt)),
		runs(run(a, 1), run(b, 0)), runs(run(a, 0), run(b, 1)), runs(run(a, 1), run(b, 0), run(c, 1)),
		runs(run(a, 1), run(a, 1)), runs(run(a, 1), run(a, 2)), runs(run(a, 1), run(b, 1), run(b, 5)),
	} {
		if got := Check(l); got != api.ErrRuns {
			t.Errorf("Check(%v) = %d, want ErrRuns", l, got)
		}
	}
	if api.ErrRuns != 120 {
		t.Error("ErrRuns is", int(api.ErrRuns))
	}
}

// record puts an event into a ledger in either way, and tells all that was recorded with it.
func record(l *Ledger, plain []api.Event, e api.Event, n int) []api.Event {
	if n == 1 {
		l.Note(e)
	} else {
		l.NoteTimes(e, n)
	}
	for range n {
		plain = append(plain, e)
	}
	return plain
}

// wantWhole holds all that a ledger tells against a plain list of events.
func wantWhole(t *testing.T, l *Ledger, plain []api.Event) {
	t.Helper()
	want := plainRuns(plain)
	wantLen(t, l, len(plain))
	wantRuns(t, "Runs", l.Runs(), want...)
	wantRuns(t, "Since(0)", l.Since(0), want...)
	if got := slices.Collect(l.All()); !slices.Equal(got, plain) {
		t.Fatalf("All = %v, want %v", got, plain)
	}
	sum := 0
	for k := range 256 {
		sum += l.Count(api.EventKind(k))
	}
	if sum != len(plain) || Total(l.Runs()) != len(plain) || Check(l.Runs()) != api.OK {
		t.Fatalf("counts %d, Total %d, Check %d of %d events", sum, Total(l.Runs()), Check(l.Runs()), len(plain))
	}
}

func TestWhatFollows(t *testing.T) { // P2.6
	r := rand.New(rand.NewSource(2))
	for range 200 {
		l, plain := New(), []api.Event(nil)
		for range r.Intn(12) {
			plain = record(l, plain, someEvents[r.Intn(3)], r.Intn(6)-1)
		}
		wantWhole(t, l, plain)
		mark, before := l.Mark(), l.Runs()
		for range r.Intn(12) {
			plain = record(l, plain, someEvents[r.Intn(len(someEvents))], r.Intn(6)-1)
		}
		wantWhole(t, l, plain)
		wantRuns(t, "Since a Mark", l.Since(mark), plainRuns(plain[mark:])...)
		if !Same(Join(before, l.Since(mark)), l.Runs()) {
			t.Fatal("Join of the Runs at a Mark and of Since of it:", Join(before, l.Since(mark)), l.Runs())
		}
		for m := range len(plain) + 2 {
			if got := l.Since(m); Check(got) != api.OK || Total(got) != max(len(plain)-m, 0) {
				t.Fatalf("Since(%d) = %v of %d events", m, got, len(plain))
			}
		}
	}
}

// spoil writes over a list and into its spare room.
func spoil(l []api.Run) {
	l = l[:cap(l)]
	for i := range l {
		l[i] = run(api.Event{Kind: 77, Size: 77}, 77)
	}
}

func TestToldIsNew(t *testing.T) { // rule 3
	for _, tell := range []func(*Ledger) []api.Run{
		(*Ledger).Runs,
		func(l *Ledger) []api.Run { return l.Since(-1) },
		func(l *Ledger) []api.Run { return l.Since(0) },
		func(l *Ledger) []api.Run { return l.Since(1) },
		func(l *Ledger) []api.Run { return l.Since(5) },
	} {
		l := filled()
		first, second := tell(l), tell(l)
		kept := slices.Clone(second)
		spoil(first)
		wantRuns(t, "what was told beside it", second, kept...)
		wantRuns(t, "Runs", l.Runs(), run(a, 3), run(b, 2), run(a, 1))
		l.Note(a)
		l.Note(b)
		wantRuns(t, "what was told before", second, kept...)
		wantRuns(t, "Runs from then on", l.Runs(), run(a, 3), run(b, 2), run(a, 2), run(b, 1))
	}
}

func TestJoinIsNew(t *testing.T) { // rule 3
	room := runs(run(a, 1), run(b, 1), run(c, 1), run(d, 1))
	was := slices.Clone(room)
	for _, x := range []struct{ a, b []api.Run }{
		{room[:2], room[2:]}, {room[:2], nil}, {nil, room[:2]}, {room[:2], room[1:2]}, {room[:1], room[:1]}, {room, room},
	} {
		got, again := Join(x.a, x.b), Join(x.a, x.b)
		wantRuns(t, "what was handed in", room, was...)
		spoil(got)
		wantRuns(t, "what was handed in", room, was...)
		wantRuns(t, "what was told beside it", again, Join(x.a, x.b)...)
	}
	Total(room)
	Check(room)
	Same(room, room[:2])
	wantRuns(t, "what was handed in", room, was...)
}

func TestNilLedger(t *testing.T) { // rule 5, and the chapter's example
	var l *Ledger
	l.Note(a)
	l.NoteTimes(a, 3)
	l.NoteTimes(a, -3)
	wantLen(t, l, 0)
	wantRuns(t, "Runs", l.Runs())
	for _, mark := range []int{math.MinInt, -1, 0, 1, math.MaxInt} {
		wantRuns(t, "Since", l.Since(mark))
	}
	for k := range 256 {
		if l.Count(api.EventKind(k)) != 0 {
			t.Error("Count of a nil ledger")
		}
	}
	if l.All() == nil {
		t.Fatal("a nil iterator")
	}
	if got := firstOf(l, -1); len(got) != 0 {
		t.Error("All of a nil ledger:", got)
	}
	l.Reset()
}

func TestZeroLedger(t *testing.T) { // rule 5
	var empty Ledger
	wantWhole(t, &empty, nil)
	if empty.All() == nil {
		t.Fatal("a nil iterator")
	}
	empty.Reset()
	empty.NoteTimes(b, 2)
	empty.Note(a)
	wantWhole(t, &empty, []api.Event{b, b, a})
	var other Ledger
	wantWhole(t, &other, nil)
}

func TestLedgersApart(t *testing.T) { // P1: what one is told shows in no other
	first, second := filled(), filled()
	first.NoteTimes(d, 7)
	second.Note(a)
	wantRuns(t, "the first", first.Runs(), run(a, 3), run(b, 2), run(a, 1), run(d, 7))
	wantRuns(t, "the second", second.Runs(), run(a, 3), run(b, 2), run(a, 2))
}

func TestCalmBeyondTheBound(t *testing.T) { // P1: no more than that it ends, and tells nothing below 0
	l := New()
	for range 3 {
		l.NoteTimes(a, math.MaxInt)
		l.NoteTimes(b, math.MaxInt)
	}
	if l.Len() < 0 || l.Count(api.EvAes) < 0 || Check(l.Runs()) != api.OK {
		t.Error("Len", l.Len(), "Count", l.Count(api.EvAes), "Runs", l.Runs())
	}
	for _, mark := range []int{math.MinInt, -1, 0, 1, 1 << 62, math.MaxInt - 1, math.MaxInt} {
		if got := l.Since(mark); Check(got) != api.OK {
			t.Errorf("Since(%d) = %v", mark, got)
		}
	}
	if got := firstOf(l, 2); !slices.Equal(got, []api.Event{a, a}) {
		t.Error("All stopped behind 2:", got)
	}
}

func FuzzAsPlain(f *testing.F) { // P1, P2.6
	f.Add([]byte{1, 2, 0, 9, 1, 1, 200, 3}, 3)
	f.Add([]byte{}, -1)
	f.Fuzz(func(t *testing.T, told []byte, mark int) {
		l, plain := New(), []api.Event(nil)
		for i := 0; i+1 < len(told); i += 2 {
			plain = record(l, plain, someEvents[int(told[i])%len(someEvents)], int(int8(told[i+1])))
		}
		wantWhole(t, l, plain)
		from := min(max(mark, 0), len(plain))
		wantRuns(t, "Since", l.Since(mark), plainRuns(plain[from:])...)
	})
}
