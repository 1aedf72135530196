package ct

import (
	"bytes"
	"math/big"
	"math/rand"
	"slices"
	"testing"

	"turnkey/api"
	"turnkey/ledger"
)

// edges are bytes at which carries, signs and masks turn.
var edges = []byte{0, 1, 2, 127, 128, 254, 255}

// compared, chosen and wiped are the events that the calls record.
func compared(n int) api.Event { return api.Event{Kind: api.EvCompare, Size: n} }
func chosen(n int) api.Event   { return api.Event{Kind: api.EvChoose, Size: n} }
func wiped(n int) api.Event    { return api.Event{Kind: api.EvWipe, Size: n} }

// wantEvents holds a ledger against the events that it must have, one by one, and empties it.
func wantEvents(t *testing.T, what string, l *ledger.Ledger, want ...api.Event) {
	t.Helper()
	if got := slices.Collect(l.All()); !slices.Equal(got, want) {
		t.Fatalf("%s recorded %v, want %v", what, got, want)
	}
	l.Reset()
}

// wantEqual holds Equal against a verdict, both ways round, with a ledger and without one.
func wantEqual(t *testing.T, a, b []byte, want bool) {
	t.Helper()
	l := ledger.New()
	if Equal(l, a, b) != want || Equal(nil, a, b) != want {
		t.Fatalf("Equal(%v, %v) is not %v", a, b, want)
	}
	if Equal(l, b, a) != want || Equal(nil, b, a) != want {
		t.Fatalf("Equal(%v, %v) is not %v", b, a, want)
	}
	if len(a) != len(b) {
		wantEvents(t, "Equal of two lengths", l)
		return
	}
	wantEvents(t, "Equal", l, compared(len(a)), compared(len(a)))
}

// wantLess holds Less of two lists of one length against a verdict, with a ledger and without one.
func wantLess(t *testing.T, a, b []byte, want bool) {
	t.Helper()
	l := ledger.New()
	for _, l := range []*ledger.Ledger{l, nil} {
		if got, e := Less(l, a, b); got != want || e != api.OK {
			t.Fatalf("Less(%v, %v) = %v, %d, want %v", a, b, got, e, want)
		}
	}
	wantEvents(t, "Less", l, compared(len(a)))
}

// wantZero holds IsZero against a verdict, with a ledger and without one.
func wantZero(t *testing.T, b []byte, want bool) {
	t.Helper()
	l := ledger.New()
	if IsZero(l, b) != want || IsZero(nil, b) != want {
		t.Fatalf("IsZero(%v) is not %v", b, want)
	}
	wantEvents(t, "IsZero", l, compared(len(b)))
}

// wantChosen holds Choose of two lists of one length against bytes, with a ledger and without one.
func wantChosen(t *testing.T, yes bool, a, b, want []byte) {
	t.Helper()
	l := ledger.New()
	for _, l := range []*ledger.Ledger{l, nil} {
		if got, e := Choose(l, yes, a, b); !bytes.Equal(got, want) || e != api.OK {
			t.Fatalf("Choose(%v, %v, %v) = %v, %d", yes, a, b, got, e)
		}
	}
	wantEvents(t, "Choose", l, chosen(len(a)))
}

// random makes n bytes, the same ones for the same state of r.
func random(r *rand.Rand, n int) []byte {
	b := make([]byte, n)
	r.Read(b)
	return b
}

// edgePairs are all lists of two edges.
func edgePairs() [][]byte {
	var out [][]byte
	for _, x := range edges {
		for _, y := range edges {
			out = append(out, []byte{x, y})
		}
	}
	return out
}

// lengths are those at which the tests work: all short ones, and some about powers of 2.
func lengths() []int {
	out := []int{63, 64, 65, 255, 256, 257, 1024, 4099}
	for n := range 35 {
		out = append(out, n)
	}
	return out
}

func TestExamples(t *testing.T) { // the chapter's, in its order
	l := ledger.New()
	if !Equal(l, []byte{1, 2}, []byte{1, 2}) || Equal(l, []byte{1, 2}, []byte{1, 3}) || Equal(l, []byte{1}, []byte{1, 2}) || !Equal(l, []byte{}, []byte{}) {
		t.Error("Equal")
	}
	wantEvents(t, "Equal", l, compared(2), compared(2), compared(0))
	if less, e := Less(l, []byte{1, 255}, []byte{2, 0}); !less || e != api.OK {
		t.Error("Less of 1 255 and 2 0")
	}
	if less, e := Less(l, []byte{2, 0}, []byte{2, 0}); less || e != api.OK {
		t.Error("Less of 2 0 and 2 0")
	}
	if less, e := Less(l, []byte{1}, []byte{1, 2}); less || e != api.ErrArg {
		t.Error("Less of 1 and 1 2")
	}
	wantEvents(t, "Less", l, compared(2), compared(2))
	if !IsZero(l, []byte{0, 0}) || IsZero(l, []byte{0, 1}) || !IsZero(l, []byte{}) {
		t.Error("IsZero")
	}
	wantEvents(t, "IsZero", l, compared(2), compared(2), compared(0))
	if got, e := Choose(l, true, []byte{7}, []byte{8}); !bytes.Equal(got, []byte{7}) || e != api.OK {
		t.Error("Choose of yes, 7, 8")
	}
	if got, e := Choose(l, false, []byte{7}, []byte{8}); !bytes.Equal(got, []byte{8}) || e != api.OK {
		t.Error("Choose of no, 7, 8")
	}
	if got, e := Choose(l, true, []byte{7}, []byte{}); len(got) != 0 || e != api.ErrArg {
		t.Error("Choose of yes, 7, none")
	}
	wantEvents(t, "Choose", l, chosen(1), chosen(1))
	if Mask(true) != 255 || Mask(false) != 0 {
		t.Error("Mask")
	}
	b := []byte{5, 6, 7}
	Wipe(l, b)
	if !bytes.Equal(b, []byte{0, 0, 0}) {
		t.Error("Wipe")
	}
	wantEvents(t, "Wipe", l, wiped(3))
}

func TestDocumentsTenth(t *testing.T) { // DOC.md's example 10, as far as it speaks of ct
	l := ledger.New()
	if !Equal(l, []byte("abcd"), []byte("abcd")) || Equal(l, []byte("abcd"), []byte("axcd")) {
		t.Error("Equal")
	}
	wantEvents(t, "Equal", l, compared(4), compared(4))
}

func TestEqualOfEveryTwoBytes(t *testing.T) { // P3.1
	for x := range 256 {
		for y := range 256 {
			wantEqual(t, []byte{byte(x)}, []byte{byte(y)}, x == y)
		}
	}
}

func TestEqualOfEdges(t *testing.T) { // P3.1: what differs in two places does not cancel out
	for _, a := range edgePairs() {
		for _, b := range edgePairs() {
			wantEqual(t, a, b, a[0] == b[0] && a[1] == b[1])
		}
	}
}

func TestEqualToOneBit(t *testing.T) { // P3.1
	r := rand.New(rand.NewSource(31))
	for _, n := range lengths() {
		a := random(r, n)
		b := bytes.Clone(a)
		wantEqual(t, a, b, true)
		wantEqual(t, a, a, true)
		for _, at := range []int{0, n / 2, n - 1} {
			for bit := 0; bit < 8 && n > 0; bit++ {
				b[at] ^= 1 << bit
				wantEqual(t, a, b, false)
				b[at] ^= 1 << bit
			}
		}
	}
}

func TestEqualOfTwoLengths(t *testing.T) { // P3.1
	for _, n := range lengths() {
		long := make([]byte, n+1)
		wantEqual(t, long, long[:n], false)
		wantEqual(t, long, long[1:], false)
		wantEqual(t, long, nil, false)
		wantEqual(t, long, []byte{}, false)
	}
	// Spare room counts for nothing: behind the shorter one stands what would make them the same.
	b := []byte{1, 2, 3}
	wantEqual(t, b, b[:2], false)
	wantEqual(t, b[:2:2], b[:2], true)
}

func TestEmptyAndNilAreTheSame(t *testing.T) { // P3.1, P3.2, P3.3; DOC.md's words
	for _, a := range [][]byte{nil, {}, make([]byte, 0, 9)} {
		for _, b := range [][]byte{nil, {}, make([]byte, 0, 9)} {
			wantEqual(t, a, b, true)
			wantLess(t, a, b, false)
			wantChosen(t, true, a, b, nil)
			wantChosen(t, false, a, b, nil)
		}
		wantZero(t, a, true)
	}
}

func TestIsZero(t *testing.T) { // P3.1
	for x := range 256 {
		wantZero(t, []byte{byte(x)}, x == 0)
	}
	for _, n := range lengths() {
		b := make([]byte, n)
		wantZero(t, b, true)
		for _, at := range []int{0, n / 2, n - 1} {
			for bit := 0; bit < 8 && n > 0; bit++ {
				b[at] = 1 << bit
				wantZero(t, b, false)
				b[at] = 0
			}
		}
	}
	wantZero(t, []byte{128, 128}, false) // their sum and their difference, as bytes, are 0
	wantZero(t, []byte{255, 1}, false)
	wantZero(t, []byte{0, 0, 1}[:2], true) // spare room counts for nothing
}

func TestLessOfEveryTwoBytes(t *testing.T) { // P3.2
	for x := range 256 {
		for y := range 256 {
			wantLess(t, []byte{byte(x)}, []byte{byte(y)}, x < y)
		}
	}
}

func TestLessOfEdges(t *testing.T) { // P3.2: the highest byte first
	for _, a := range edgePairs() {
		for _, b := range edgePairs() {
			wantLess(t, a, b, int(a[0])*256+int(a[1]) < int(b[0])*256+int(b[1]))
		}
	}
}

func TestLessAsNumbers(t *testing.T) { // P3.2
	r := rand.New(rand.NewSource(32))
	number := func(b []byte) *big.Int { return new(big.Int).SetBytes(b) }
	for _, n := range lengths() {
		for range 20 {
			a, b := random(r, n), random(r, n)
			copy(b, a[:r.Intn(n+1)]) // alike up to some place, so that not the first byte alone counts
			wantLess(t, a, b, number(a).Cmp(number(b)) < 0)
		}
	}
}

func TestLessAtEitherEnd(t *testing.T) { // P3.2
	for _, n := range lengths() {
		if n == 0 {
			continue
		}
		for _, fill := range edges {
			for _, at := range []int{0, n / 2, n - 1} {
				a := bytes.Repeat([]byte{fill}, n)
				b := bytes.Clone(a)
				wantLess(t, a, b, false)
				b[at]++ // of 255 it becomes 0
				wantLess(t, a, b, fill != 255)
				wantLess(t, b, a, fill == 255)
			}
		}
		// The lowest number with a first byte of 1 against the greatest with one of 0: all is borrowed through.
		a, b := make([]byte, n), bytes.Repeat([]byte{255}, n)
		a[0], b[0] = 1, 0
		wantLess(t, b, a, true)
		wantLess(t, a, b, false)
	}
}

func TestRefusedIsNothing(t *testing.T) { // P3.2, P3.3, rule 2
	l := ledger.New()
	l.Note(wiped(9))
	for _, c := range []struct{ a, b []byte }{
		{[]byte{1}, []byte{1, 2}}, {[]byte{1}, []byte{0, 1}}, {[]byte{0}, []byte{0, 0}}, {nil, []byte{0}}, {[]byte{}, []byte{7}}, {make([]byte, 64), make([]byte, 63)},
	} {
		for _, l := range []*ledger.Ledger{l, nil} {
			for _, pair := range [][2][]byte{{c.a, c.b}, {c.b, c.a}} {
				if less, e := Less(l, pair[0], pair[1]); less || e != api.ErrArg {
					t.Errorf("Less(%v, %v) = %v, %d", pair[0], pair[1], less, e)
				}
				for _, yes := range []bool{true, false} {
					if got, e := Choose(l, yes, pair[0], pair[1]); len(got) != 0 || e != api.ErrArg {
						t.Errorf("Choose(%v, %v, %v) = %v, %d", yes, pair[0], pair[1], got, e)
					}
				}
			}
		}
	}
	wantEvents(t, "what was refused", l, wiped(9))
}

func TestChooseOfEveryTwoBytes(t *testing.T) { // P3.3
	for x := range 256 {
		for y := range 256 {
			a, b := []byte{byte(x)}, []byte{byte(y)}
			wantChosen(t, true, a, b, a)
			wantChosen(t, false, a, b, b)
		}
	}
}

func TestChooseOfLists(t *testing.T) { // P3.3
	r := rand.New(rand.NewSource(33))
	for _, n := range lengths() {
		a, b := random(r, n), random(r, n)
		wantChosen(t, true, a, b, bytes.Clone(a))
		wantChosen(t, false, a, b, bytes.Clone(b))
		wantChosen(t, true, a, a, bytes.Clone(a))
		wantChosen(t, false, a, a, bytes.Clone(a))
	}
}

func TestChooseOfOneMemory(t *testing.T) { // P3.3, rule 3: a and b overlap, and neither changes
	whole := []byte{1, 2, 3, 4, 5}
	wantChosen(t, true, whole[1:], whole[:4], []byte{2, 3, 4, 5})
	wantChosen(t, false, whole[1:], whole[:4], []byte{1, 2, 3, 4})
	wantChosen(t, true, whole[:4], whole[1:], []byte{1, 2, 3, 4})
	wantChosen(t, false, whole[:4], whole[1:], []byte{2, 3, 4, 5})
	if !bytes.Equal(whole, []byte{1, 2, 3, 4, 5}) {
		t.Error("what was handed in is now", whole)
	}
}

// inRoom lays bytes into greater memory: the list, and the whole of which it is a piece.
func inRoom(b []byte) (list, whole []byte) {
	whole = append(append([]byte{91, 92}, b...), 93, 94, 95)
	return whole[2 : 2+len(b)], whole
}

func TestChosenIsNew(t *testing.T) { // P3.3, rule 3
	for _, yes := range []bool{true, false} {
		for _, n := range []int{0, 1, 3, 7, 8, 33} {
			a, wholeA := inRoom(bytes.Repeat([]byte{7}, n))
			b, wholeB := inRoom(bytes.Repeat([]byte{8}, n))
			wasA, wasB := bytes.Clone(wholeA), bytes.Clone(wholeB)
			first, _ := Choose(nil, yes, a, b)
			second, _ := Choose(nil, yes, a, b)
			want := bytes.Clone(second)
			// Written over, its spare room too: nobody else sees it.
			for i := range first[:cap(first)] {
				first[:cap(first)][i] = 99
			}
			if !bytes.Equal(wholeA, wasA) || !bytes.Equal(wholeB, wasB) || !bytes.Equal(second, want) {
				t.Errorf("%v, %d: an answer that was written over shows elsewhere", yes, n)
			}
			// What was handed in is written over behind the call: the answer is as it was.
			clear(wholeA)
			clear(wholeB)
			if !bytes.Equal(second, want) {
				t.Errorf("%v, %d: the answer changed to %v", yes, n, second)
			}
			for _, x := range second[len(second):cap(second)] {
				if x != 0 {
					t.Errorf("%v, %d: spare room has %d", yes, n, x)
				}
			}
		}
	}
}

func TestHandedInStays(t *testing.T) { // rule 3: of all calls but Wipe
	r := rand.New(rand.NewSource(34))
	for _, n := range lengths() {
		a, wholeA := inRoom(random(r, n))
		b, wholeB := inRoom(random(r, n))
		wasA, wasB := bytes.Clone(wholeA), bytes.Clone(wholeB)
		l := ledger.New()
		Equal(l, a, b)
		Less(l, a, b)
		Less(l, b, a)
		IsZero(l, a)
		Choose(l, true, a, b)
		Choose(l, false, a, b)
		Choose(l, true, a, wholeB)
		if !bytes.Equal(wholeA, wasA) || !bytes.Equal(wholeB, wasB) {
			t.Fatalf("%d bytes: what was handed in has changed", n)
		}
	}
}

func TestMask(t *testing.T) { // P3.4
	if got := Mask(true); got != 255 {
		t.Error("Mask of yes:", got)
	}
	if got := Mask(false); got != 0 {
		t.Error("Mask of no:", got)
	}
}

func TestWipe(t *testing.T) { // P3.5
	for _, n := range lengths() {
		for _, fill := range []byte{0, 1, 128, 255} {
			b, whole := inRoom(bytes.Repeat([]byte{fill}, n))
			for _, l := range []*ledger.Ledger{ledger.New(), nil} {
				Wipe(l, b)
				want := make([]byte, n)
				if !bytes.Equal(b, want) || !bytes.Equal(whole[:2], []byte{91, 92}) || !bytes.Equal(whole[2+n:], []byte{93, 94, 95}) {
					t.Fatalf("Wipe of %d bytes: %v", n, whole)
				}
				if l != nil {
					wantEvents(t, "Wipe", l, wiped(n))
				}
				copy(b, bytes.Repeat([]byte{fill}, n))
			}
		}
	}
}

func TestWipeOfNone(t *testing.T) { // P3.5: it is recorded, and no spare room is written to
	l := ledger.New()
	room := []byte{1, 2, 3}
	Wipe(l, nil)
	Wipe(l, []byte{})
	Wipe(l, room[:0])
	Wipe(nil, room[1:1])
	wantEvents(t, "Wipe of none", l, wiped(0), wiped(0), wiped(0))
	if !bytes.Equal(room, []byte{1, 2, 3}) {
		t.Error("spare room is now", room)
	}
}

func TestWipeTwice(t *testing.T) { // P3.5: wiped bytes are recorded as any others
	l := ledger.New()
	b := []byte{1, 2}
	Wipe(l, b)
	Wipe(l, b)
	wantEvents(t, "Wipe twice", l, wiped(2), wiped(2))
	wantZero(t, b, true)
}

func TestJustOneOfThree(t *testing.T) { // P3.6
	lists := append(edgePairs(), []byte{0, 0}, []byte{255, 255})
	for _, a := range lists {
		for _, b := range lists {
			equal := Equal(nil, a, b)
			if equal != Equal(nil, b, a) {
				t.Errorf("Equal of %v and %v is not told both ways alike", a, b)
			}
			below, _ := Less(nil, a, b)
			above, _ := Less(nil, b, a)
			if n := holding(equal, below, above); n != 1 {
				t.Errorf("of %v and %v %d of three hold", a, b, n)
			}
			for _, c := range lists {
				if equal && Equal(nil, b, c) && !Equal(nil, a, c) {
					t.Errorf("%v is %v is %v, and yet not", a, b, c)
				}
			}
		}
	}
}

// holding is how many of them are true.
func holding(these ...bool) int {
	n := 0
	for _, yes := range these {
		if yes {
			n++
		}
	}
	return n
}

func TestLedgerHangsOnLengths(t *testing.T) { // P3.6, rule 9
	r := rand.New(rand.NewSource(36))
	for _, n := range lengths() {
		noughts, full, any := make([]byte, n), bytes.Repeat([]byte{255}, n), random(r, n)
		for _, a := range [][]byte{noughts, full, any} {
			for _, b := range [][]byte{noughts, full, any} {
				for _, yes := range []bool{true, false} {
					l := ledger.New()
					Equal(l, a, b)
					Less(l, a, b)
					IsZero(l, a)
					Choose(l, yes, a, b)
					Wipe(l, bytes.Clone(a))
					wantEvents(t, "all calls", l, compared(n), compared(n), compared(n), chosen(n), wiped(n))
				}
			}
		}
	}
}

func TestRecordedBehindAllOthers(t *testing.T) { // rule 5; the zero Ledger is one, too
	var l ledger.Ledger
	l.Note(api.Event{Kind: api.EvOp, Size: 5})
	Equal(&l, []byte{1}, []byte{2})
	Choose(&l, true, []byte{1}, []byte{2})
	Wipe(&l, []byte{1, 2, 3})
	Less(&l, []byte{1, 2}, []byte{1, 2})
	IsZero(&l, nil)
	wantEvents(t, "five calls", &l, api.Event{Kind: api.EvOp, Size: 5}, compared(1), chosen(1), wiped(3), compared(2), compared(0))
}

func FuzzAsPlain(f *testing.F) { // P1, P3.1 to P3.6
	f.Add([]byte{}, []byte{}, true)
	f.Add([]byte{1, 255}, []byte{2, 0}, false)
	f.Add([]byte{1}, []byte{1, 2}, true)
	f.Add([]byte{0, 128, 0}, []byte{0, 127, 255}, false)
	f.Fuzz(func(t *testing.T, a, b []byte, yes bool) {
		wantEqual(t, a, b, bytes.Equal(a, b))
		wantZero(t, a, len(bytes.Trim(a, "\x00")) == 0)
		if len(a) == len(b) {
			wantLess(t, a, b, bytes.Compare(a, b) < 0)
			wantChosen(t, yes, a, b, map[bool][]byte{true: a, false: b}[yes])
		}
		// The same over the lengths that they have in common.
		n := min(len(a), len(b))
		wantEqual(t, a[:n], b[:n], string(a[:n]) == string(b[:n]))
		wantLess(t, a[:n], b[:n], string(a[:n]) < string(b[:n]))
		wantChosen(t, yes, a[:n], b[:n], map[bool][]byte{true: a[:n], false: b[:n]}[yes])
		// The fuzzer's bytes are its own: a copy is wiped.
		l, c := ledger.New(), bytes.Clone(a)
		Wipe(l, c)
		wantEvents(t, "Wipe", l, wiped(len(a)))
		wantZero(t, c, true)
	})
}
