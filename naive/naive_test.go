package naive

import (
	"bytes"
	"go/ast"
	"go/parser"
	"go/token"
	"math"
	"math/big"
	"math/bits"
	"math/rand"
	"slices"
	"sync"
	"testing"

	"turnkey/api"
	"turnkey/ct"
	"turnkey/gf8"
	"turnkey/ledger"
)

// The greatest number, and a prime that is not far below it.
const (
	greatest = math.MaxUint64
	prime    = 1<<64 - 59
)

// The events that the calls record: a branch of what is so, one of what is not, and a place that is looked up.
var (
	yes = api.Event{Kind: api.EvBranch, Size: 1}
	no  = api.Event{Kind: api.EvBranch, Size: 0}
)

func at(place byte) api.Event { return api.Event{Kind: api.EvIndex, Size: int(place)} }

// branches are events as a row of digits tells them: 1 of what is so, 0 of what is not.
func branches(row string) []api.Event {
	events := make([]api.Event, len(row))
	for i, digit := range row {
		events[i] = no
		if digit == '1' {
			events[i] = yes
		}
	}
	return events
}

// times are so many of one event.
func times(e api.Event, n int) []api.Event { return slices.Repeat([]api.Event{e}, n) }

// ones is how many of the events have the Size 1.
func ones(events []api.Event) int {
	n := 0
	for _, e := range events {
		n += e.Size
	}
	return n
}

// recorded are the events that a call puts into a new ledger. It is also made with a ledger that has events already: these stay ahead, and the same ones stand behind them; and with the zero Ledger.
func recorded(t *testing.T, call func(l *ledger.Ledger)) []api.Event {
	t.Helper()
	l := ledger.New()
	call(l)
	events := slices.Collect(l.All())
	begun := ledger.New()
	for _, first := range []api.Event{{Kind: api.EvOp, Size: 7}, yes, no} {
		begun.Note(first)
		mark := begun.Mark()
		before := begun.Runs()
		call(begun)
		if !ledger.Same(begun.Since(mark), l.Runs()) || !ledger.Same(begun.Runs(), ledger.Join(before, l.Runs())) {
			t.Fatalf("behind %v other events are recorded: %v", before, begun.Runs())
		}
	}
	var zero ledger.Ledger
	if call(&zero); !ledger.Same(zero.Runs(), l.Runs()) {
		t.Fatalf("the zero Ledger has %v", zero.Runs())
	}
	return events
}

// wantEvents holds events against those that there must be, one by one.
func wantEvents(t *testing.T, got, want []api.Event) {
	t.Helper()
	if !slices.Equal(got, want) {
		t.Fatalf("recorded are %v, want %v", got, want)
	}
}

// common is how many bytes two lists have in common at the beginning.
func common(a, b []byte) int {
	n := 0
	for n < len(a) && n < len(b) && a[n] == b[n] {
		n++
	}
	return n
}

// wantEqual holds Equal, both ways round, with a ledger and without one, against the language's own and the number of bytes in common.
func wantEqual(t *testing.T, a, b []byte) {
	t.Helper()
	same := bytes.Equal(a, b)
	var want []api.Event
	if len(a) == len(b) {
		want = times(yes, common(a, b))
		if !same {
			want = append(want, no)
		}
	}
	for _, lists := range [][2][]byte{{a, b}, {b, a}} {
		got := recorded(t, func(l *ledger.Ledger) {
			if Equal(l, lists[0], lists[1]) != same {
				t.Fatalf("Equal(%v, %v) is not %v", lists[0], lists[1], same)
			}
		})
		wantEvents(t, got, want)
		if Equal(nil, lists[0], lists[1]) != same {
			t.Fatalf("without a ledger Equal(%v, %v) is not %v", lists[0], lists[1], same)
		}
	}
}

// powerOnPaper is a power modulo mod by the language's own great numbers.
func powerOnPaper(base, exp, mod uint64) uint64 {
	number := func(x uint64) *big.Int { return new(big.Int).SetUint64(x) }
	power := new(big.Int).Exp(number(base), number(exp), number(mod))
	return power.Mod(power, number(mod)).Uint64()
}

// bitsOf are the branches of a number's bits, from the highest on.
func bitsOf(x uint64) []api.Event {
	var events []api.Event
	for i := range 64 {
		events = append(events, api.Event{Kind: api.EvBranch, Size: int(x << i >> 63)})
	}
	return events
}

// wantPower holds Power modulo what is not 0, with a ledger and without one, against an answer.
func wantPower(t *testing.T, base, exp, mod, want uint64) {
	t.Helper()
	got := recorded(t, func(l *ledger.Ledger) {
		if x, e := Power(l, base, exp, mod); x != want || e != api.OK {
			t.Fatalf("Power(%d, %d, %d) = %d, %d, want %d", base, exp, mod, x, e, want)
		}
	})
	wantEvents(t, got, bitsOf(exp))
	if x, e := Power(nil, base, exp, mod); x != want || e != api.OK {
		t.Fatalf("without a ledger Power(%d, %d, %d) = %d, %d, want %d", base, exp, mod, x, e, want)
	}
}

// wantFind holds Find, with a ledger and without one, against the language's own.
func wantFind(t *testing.T, b []byte, x byte) {
	t.Helper()
	place := bytes.IndexByte(b, x)
	want := times(no, len(b))
	if place >= 0 {
		want = append(times(no, place), yes)
	}
	got := recorded(t, func(l *ledger.Ledger) {
		if i := Find(l, b, x); i != place {
			t.Fatalf("Find(%v, %d) = %d, want %d", b, x, i, place)
		}
	})
	wantEvents(t, got, want)
	if i := Find(nil, b, x); i != place {
		t.Fatalf("without a ledger Find(%v, %d) = %d, want %d", b, x, i, place)
	}
}

// greaterAhead is how many of the bytes ahead of the place i are greater than that at it.
func greaterAhead(b []byte, i int) int {
	n := 0
	for _, x := range b[:i] {
		if x > b[i] {
			n++
		}
	}
	return n
}

// wantSort holds Sort, with a ledger and without one, against the language's own, and its branches against how many greater bytes stand ahead of each: what was handed in stays.
func wantSort(t *testing.T, b []byte) {
	t.Helper()
	was, sorted := bytes.Clone(b), bytes.Clone(b)
	slices.Sort(sorted)
	var want []api.Event
	for i := range b {
		passes := greaterAhead(b, i)
		want = append(want, times(yes, passes)...)
		// One that passes all bytes has none left to be held against.
		if passes < i {
			want = append(want, no)
		}
	}
	got := recorded(t, func(l *ledger.Ledger) {
		if s := Sort(l, b); !bytes.Equal(s, sorted) {
			t.Fatalf("Sort(%v) = %v", was, s)
		}
	})
	wantEvents(t, got, want)
	if s := Sort(nil, b); !bytes.Equal(s, sorted) {
		t.Fatalf("without a ledger Sort(%v) = %v", was, s)
	}
	if !bytes.Equal(b, was) {
		t.Fatalf("Sort changed %v to %v", was, b)
	}
}

// random makes n bytes below most, the same ones for the same state of r.
func random(r *rand.Rand, n, most int) []byte {
	b := make([]byte, n)
	for i := range b {
		b[i] = byte(r.Intn(most))
	}
	return b
}

// lengths are those at which the tests work: short ones, and some about powers of 2.
func lengths() []int {
	return []int{0, 1, 2, 3, 4, 5, 7, 8, 9, 15, 16, 17, 31, 32, 33, 63, 64, 65, 127, 128, 129, 255, 256, 257, 300}
}

// empties are lists without a byte.
func empties() [][]byte { return [][]byte{nil, {}, make([]byte, 0, 9), []byte("abc")[1:1]} }

func TestExamplesOfLists(t *testing.T) { // the chapter's, in its order
	for _, c := range []struct {
		a, b string
		same bool
		row  string
	}{{"abcd", "abcd", true, "1111"}, {"abcd", "axcd", false, "10"}, {"abcd", "abc", false, ""}} {
		l := ledger.New()
		if Equal(l, []byte(c.a), []byte(c.b)) != c.same {
			t.Errorf("Equal of %s and %s is not %v", c.a, c.b, c.same)
		}
		wantEvents(t, slices.Collect(l.All()), branches(c.row))
	}
	for _, c := range []struct {
		b     string
		place int
		row   string
	}{{"abx", 2, "001"}, {"ab", -1, "00"}} {
		l := ledger.New()
		if i := Find(l, []byte(c.b), 'x'); i != c.place {
			t.Errorf("Find of x in %s = %d", c.b, i)
		}
		wantEvents(t, slices.Collect(l.All()), branches(c.row))
	}
	l := ledger.New()
	if s := Sort(l, []byte{3, 1, 2}); !bytes.Equal(s, []byte{1, 2, 3}) {
		t.Errorf("Sort of 3 1 2 = %v", s)
	}
	wantEvents(t, slices.Collect(l.All()), branches("110"))
}

func TestExamplesOfNumbers(t *testing.T) { // the chapter's, in its order
	l := ledger.New()
	if x := Box(l, 83); x != 237 {
		t.Errorf("Box of 83 = %d", x)
	}
	wantEvents(t, slices.Collect(l.All()), []api.Event{at(83)})
	wantPower(t, 3, 5, 7, 5)
	wantPower(t, 2, 64, 1, 0)
	wantPower(t, 0, 0, 5, 1)
	if x, e := Power(nil, 2, 3, 0); x != 0 || e != api.ErrArg {
		t.Errorf("Power(2, 3, 0) = %d, %d", x, e)
	}
	wantPower(t, 1<<63, 2, prime, 13835058055282164538)
}

func TestDocumentsTenth(t *testing.T) { // DOC.md's example 10
	l := ledger.New()
	if !Equal(l, []byte("abcd"), []byte("abcd")) || Equal(l, []byte("abcd"), []byte("axcd")) {
		t.Error("Equal")
	}
	if want := []api.Run{{Event: yes, Count: 5}, {Event: no, Count: 1}}; !ledger.Same(l.Runs(), want) {
		t.Error("naive.Equal recorded", l.Runs())
	}
	l.Reset()
	ct.Equal(l, []byte("abcd"), []byte("abcd"))
	ct.Equal(l, []byte("abcd"), []byte("axcd"))
	if want := []api.Run{{Event: api.Event{Kind: api.EvCompare, Size: 4}, Count: 2}}; !ledger.Same(l.Runs(), want) {
		t.Error("ct.Equal recorded", l.Runs())
	}
}

func TestEqualOfEveryTwoBytes(t *testing.T) { // P23.1
	for x := range 256 {
		for y := range x + 1 {
			wantEqual(t, []byte{byte(x)}, []byte{byte(y)})
		}
	}
}

func TestEqualUnlikeInOneByte(t *testing.T) { // P23.1: in the first, the last, one between, in every bit, and nowhere
	r := rand.New(rand.NewSource(231))
	for _, n := range lengths() {
		a := random(r, n, 256)
		b := bytes.Clone(a)
		wantEqual(t, a, b)
		wantEqual(t, a, a)
		for _, place := range []int{0, 1, n / 2, n - 2, n - 1} {
			if place < 0 || place >= n {
				continue
			}
			for bit := range 8 {
				b[place] ^= 1 << bit
				wantEqual(t, a, b)
				b[place] ^= 1 << bit
			}
		}
	}
}

func TestEqualUnlikeInSeveralBytes(t *testing.T) { // P23.1: the first one alone counts
	wantEqual(t, []byte{1, 2, 3, 4}, []byte{4, 3, 2, 1})
	wantEqual(t, []byte{1, 2, 3, 4}, []byte{1, 3, 2, 4})
	wantEqual(t, []byte{0, 255}, []byte{255, 0})
	r := rand.New(rand.NewSource(232))
	for range 500 {
		n := r.Intn(12)
		wantEqual(t, random(r, n, 2), random(r, n, 2))
	}
}

func TestEqualOfTwoLengths(t *testing.T) { // P23.1: nothing is recorded, whatever they have in common
	for _, n := range lengths() {
		long := make([]byte, n+1)
		wantEqual(t, long, long[:n])
		wantEqual(t, long, nil)
		wantEqual(t, long, []byte{})
		wantEqual(t, long, append([]byte{1}, long...))
		wantEqual(t, long, make([]byte, n+257))
	}
	// Spare room counts for nothing: behind the shorter one stands what would make them the same.
	b := []byte{1, 2, 3}
	wantEqual(t, b, b[:2])
	wantEqual(t, b[:2:2], b[:2])
}

func TestEqualOfOneMemory(t *testing.T) { // P23.1: lists that overlap
	b := []byte{5, 5, 5, 6, 6}
	wantEqual(t, b[:3], b[1:4])
	wantEqual(t, b[:2], b[1:3])
	wantEqual(t, b[3:], b[3:5:5])
}

func TestEqualOfEmpty(t *testing.T) { // P23.1; DOC.md's words: nil and empty are the same
	for _, a := range empties() {
		for _, b := range empties() {
			if !Equal(nil, a, b) {
				t.Error("empty lists are not the same")
			}
			wantEqual(t, a, b)
		}
	}
}

func TestBox(t *testing.T) { // P23.2: of all bytes
	for a := range 256 {
		want := gf8.Box(byte(a))
		got := recorded(t, func(l *ledger.Ledger) {
			if x := Box(l, byte(a)); x != want {
				t.Errorf("Box of %d = %d, want %d", a, x, want)
			}
		})
		wantEvents(t, got, []api.Event{at(byte(a))})
		if x := Box(nil, byte(a)); x != want {
			t.Errorf("without a ledger Box of %d = %d, want %d", a, x, want)
		}
	}
}

// mods, exps and bases are the numbers at which powers turn; bases hang on mod.
func mods() []uint64 {
	return []uint64{1, 2, 3, 7, 10, 255, 256, 257, 1<<32 - 1, 1 << 32, 1<<32 + 1, 1<<63 - 1, 1 << 63, 1<<63 + 1, prime - 1, prime, prime + 1, greatest - 1, greatest}
}

func exps() []uint64 {
	return []uint64{0, 1, 2, 3, 4, 5, 63, 64, 65, 1 << 32, 1<<63 - 1, 1 << 63, 1<<63 + 1, 0x5555555555555555, 0xaaaaaaaaaaaaaaaa, prime - 1, greatest - 1, greatest}
}

func bases(mod uint64) []uint64 {
	return []uint64{0, 1, 2, 3, mod / 2, mod - 2, mod - 1, mod, mod + 1, 2*mod - 1, 1<<32 - 1, 1 << 32, 1<<32 + 1, 1<<63 - 1, 1 << 63, 1<<63 + 1, greatest - 1, greatest}
}

func TestPower(t *testing.T) { // P23.3: products that pass 2^64 among them
	for _, mod := range mods() {
		for _, base := range bases(mod) {
			for _, exp := range exps() {
				wantPower(t, base, exp, mod, powerOnPaper(base, exp, mod))
			}
		}
	}
}

func TestPowerByHand(t *testing.T) { // P23.3: answers that need no reckoning
	for _, mod := range mods() {
		for _, base := range bases(mod) {
			wantPower(t, base, 0, mod, 1%mod)
			wantPower(t, base, 1, mod, base%mod)
		}
		for _, exp := range exps()[1:] {
			wantPower(t, 0, exp, mod, 0)
			wantPower(t, mod, exp, mod, 0)
			wantPower(t, 1, exp, mod, 1%mod)
			// One below mod is -1: its power hangs on whether exp is even.
			minus := []uint64{1 % mod, mod - 1}
			wantPower(t, mod-1, exp, mod, minus[exp%2])
		}
	}
	for i := range uint64(64) {
		wantPower(t, 2, i, greatest, 1<<i)
		wantPower(t, 2, i+64, greatest, 1<<i) // 2^64 is 1 modulo 2^64 - 1
	}
	wantPower(t, 2, 64, prime, 59)
	for _, base := range []uint64{2, 3, 1 << 32, 1 << 63, prime - 1, prime + 1, greatest} {
		wantPower(t, base, prime-1, prime, 1) // by Fermat
		wantPower(t, base, prime, prime, base%prime)
	}
}

func TestPowerBySteps(t *testing.T) { // P23.3: one product behind the other, of all small numbers
	for mod := uint64(1); mod < 40; mod++ {
		for base := range uint64(42) {
			power := 1 % mod
			for exp := range uint64(20) {
				wantPower(t, base, exp, mod, power)
				power = power * base % mod
			}
		}
	}
}

func TestPowerOfAnyNumbers(t *testing.T) { // P23.3
	r := rand.New(rand.NewSource(233))
	for range 3000 {
		base, exp, mod := r.Uint64()>>r.Intn(64), r.Uint64()>>r.Intn(64), max(r.Uint64()>>r.Intn(64), 1)
		wantPower(t, base, exp, mod, powerOnPaper(base, exp, mod))
	}
}

func TestPowerOfEveryBit(t *testing.T) { // P23.3: each bit has its branch, from the highest on
	for i := range 64 {
		got := recorded(t, func(l *ledger.Ledger) { Power(l, 3, 1<<(63-i), 7) })
		want := times(no, 64)
		want[i] = yes
		wantEvents(t, got, want)
	}
}

func TestPowerModuloNought(t *testing.T) { // P23.3, rule 2: nothing is recorded
	for _, base := range bases(0) {
		for _, exp := range exps() {
			got := recorded(t, func(l *ledger.Ledger) {
				if x, e := Power(l, base, exp, 0); x != 0 || e != api.ErrArg {
					t.Fatalf("Power(%d, %d, 0) = %d, %d", base, exp, x, e)
				}
			})
			wantEvents(t, got, nil)
			if x, e := Power(nil, base, exp, 0); x != 0 || e != api.ErrArg {
				t.Fatalf("without a ledger Power(%d, %d, 0) = %d, %d", base, exp, x, e)
			}
		}
	}
}

func TestFindOfEveryByte(t *testing.T) { // P23.4: each one's place in a list that has them all, and in one that lacks it
	all := make([]byte, 256)
	for i := range all {
		all[i] = byte(255 - i)
	}
	for x := range 256 {
		wantFind(t, all, byte(x))
		wantFind(t, slices.DeleteFunc(bytes.Clone(all), func(y byte) bool { return y == byte(x) }), byte(x))
		wantFind(t, []byte{byte(x)}, byte(x))
		wantFind(t, []byte{byte(x)}, byte(x+1))
		wantFind(t, []byte{byte(x)}, byte(x)^128)
	}
}

func TestFind(t *testing.T) { // P23.4: first, last, between, twice, everywhere and nowhere
	for _, n := range lengths() {
		b := make([]byte, n)
		wantFind(t, b, 7)
		wantFind(t, b, 0)
		for _, place := range []int{0, 1, n / 2, n - 1} {
			if place < 0 || place >= n {
				continue
			}
			b[place] = 7
			wantFind(t, b, 7)
			b[n-1] = 7
			wantFind(t, b, 7)
			clear(b)
		}
	}
	wantFind(t, []byte{1, 2, 1, 2}, 2)
	wantFind(t, []byte{1, 2, 7}[:2], 7) // spare room counts for nothing
}

func TestFindInEmpty(t *testing.T) { // P23.4
	for _, b := range empties() {
		wantFind(t, b, 0)
		wantFind(t, b, 'b')
	}
}

func TestSortByHand(t *testing.T) { // P23.5: every branch in its order, written out
	for _, c := range []struct {
		b, sorted []byte
		row       string
	}{
		{nil, nil, ""},
		{[]byte{9}, []byte{9}, ""},
		{[]byte{1, 2}, []byte{1, 2}, "0"},
		{[]byte{2, 1}, []byte{1, 2}, "1"},
		{[]byte{5, 5}, []byte{5, 5}, "0"},
		{[]byte{255, 0}, []byte{0, 255}, "1"},
		{[]byte{127, 128}, []byte{127, 128}, "0"},
		{[]byte{1, 2, 3, 4}, []byte{1, 2, 3, 4}, "000"},
		{[]byte{4, 3, 2, 1}, []byte{1, 2, 3, 4}, "111111"},
		{[]byte{7, 7, 7, 7}, []byte{7, 7, 7, 7}, "000"},
		{[]byte{3, 1, 2, 2}, []byte{1, 2, 2, 3}, "11010"},
		{[]byte{2, 2, 1, 1}, []byte{1, 1, 2, 2}, "011110"},
		{[]byte{1, 3, 2, 4}, []byte{1, 2, 3, 4}, "0100"},
		{[]byte{4, 1, 2, 3}, []byte{1, 2, 3, 4}, "11010"},
		{[]byte{2, 3, 4, 1}, []byte{1, 2, 3, 4}, "00111"},
	} {
		l := ledger.New()
		if s := Sort(l, c.b); !bytes.Equal(s, c.sorted) {
			t.Errorf("Sort(%v) = %v", c.b, s)
		}
		wantEvents(t, slices.Collect(l.All()), branches(c.row))
		wantSort(t, c.b)
	}
}

func TestSortOfEveryShortList(t *testing.T) { // P23.5: all of up to six bytes out of four
	lists := [][]byte{nil}
	for range 6 {
		var longer [][]byte
		for _, b := range lists {
			wantSort(t, b)
			for _, x := range []byte{0, 1, 128, 255} {
				longer = append(longer, append(bytes.Clone(b), x))
			}
		}
		lists = longer
	}
	for _, b := range lists {
		wantSort(t, b)
	}
}

func TestSortOfLists(t *testing.T) { // P23.5: rising, falling, all the same, bytes twice, any
	r := rand.New(rand.NewSource(235))
	for _, n := range lengths() {
		rising := random(r, n, 256)
		slices.Sort(rising)
		falling := bytes.Clone(rising)
		slices.Reverse(falling)
		wantSort(t, rising)
		wantSort(t, falling)
		wantSort(t, bytes.Repeat([]byte{200}, n))
		wantSort(t, random(r, n, 2))
		wantSort(t, random(r, n, 256))
		wantSort(t, append(bytes.Clone(rising), rising...))
		wantSort(t, append(rising, 0)) // the least comes last
		wantSort(t, append([]byte{255}, falling...))
	}
}

func TestSortOfManyBytes(t *testing.T) { // P23.5: by number, for there are many events
	const n = 5000
	b := random(rand.New(rand.NewSource(236)), n, 256)
	unordered, least := 0, 0
	for i := range b {
		passes := greaterAhead(b, i)
		unordered += passes
		if passes == i {
			least++
		}
	}
	l := ledger.New()
	if s := Sort(l, b); !slices.IsSorted(s) || len(s) != n {
		t.Error("not sorted")
	}
	// Each place has a branch that is not so, but those whose byte went to the very front.
	if want := unordered + n - least; l.Len() != want || l.Count(api.EvBranch) != want {
		t.Errorf("recorded are %d, want %d", l.Len(), want)
	}
}

// inRoom lays bytes into greater memory: the list, and the whole of which it is a piece.
func inRoom(b []byte) (list, whole []byte) {
	whole = append(append([]byte{91, 92}, b...), 93, 94, 95)
	return whole[2 : 2+len(b)], whole
}

func TestHandedInStays(t *testing.T) { // rule 3: the room about it too
	r := rand.New(rand.NewSource(237))
	for _, n := range lengths() {
		a, wholeA := inRoom(random(r, n, 256))
		b, wholeB := inRoom(random(r, n, 256))
		wasA, wasB := bytes.Clone(wholeA), bytes.Clone(wholeB)
		for _, l := range []*ledger.Ledger{ledger.New(), nil} {
			Equal(l, a, b)
			Equal(l, a, a)
			Find(l, a, 3)
			Sort(l, a)
			Sort(l, b)
		}
		if !bytes.Equal(wholeA, wasA) || !bytes.Equal(wholeB, wasB) {
			t.Fatalf("%d bytes: what was handed in has changed", n)
		}
	}
}

func TestSortedIsNew(t *testing.T) { // P23.5, rule 3
	for _, n := range lengths() {
		b, whole := inRoom(bytes.Repeat([]byte{8}, n)) // in order already: even then it is another list
		was := bytes.Clone(whole)
		first, second := Sort(nil, b), Sort(nil, b)
		want := bytes.Clone(second)
		// Written over, its spare room too: nobody else sees it.
		room := first[:cap(first)]
		for i := range room {
			room[i] = 99
		}
		if !bytes.Equal(whole, was) || !bytes.Equal(second, want) {
			t.Errorf("%d: an answer that was written over shows elsewhere", n)
		}
		// What was handed in is written over behind the call: the answer is as it was.
		clear(whole)
		if !bytes.Equal(second, want) {
			t.Errorf("%d: the answer changed to %v", n, second)
		}
		for _, x := range second[len(second):cap(second)] {
			if x != 0 {
				t.Errorf("%d: spare room has %d", n, x)
			}
		}
	}
}

func TestEmptySortedIsNew(t *testing.T) { // P23.5, rule 3: what grows out of it shows in no other list
	whole := []byte{1, 2, 3}
	for _, b := range [][]byte{nil, {}, whole[:0], whole[1:1]} {
		one, two := append(Sort(nil, b), 8), append(Sort(nil, b), 9)
		if one[0] != 8 || two[0] != 9 || !bytes.Equal(whole, []byte{1, 2, 3}) {
			t.Error("empty lists share memory")
		}
	}
}

func TestHowManyEventsEqualHas(t *testing.T) { // P23.6
	r := rand.New(rand.NewSource(238))
	for _, n := range lengths() {
		a := random(r, n, 256)
		l := ledger.New()
		if Equal(l, a, bytes.Clone(a)); l.Len() != n {
			t.Errorf("of %d bytes that are the same %d events", n, l.Len())
		}
		for place := range n {
			b := bytes.Clone(a)
			b[place]++
			l.Reset()
			if Equal(l, a, b); l.Len() != place+1 {
				t.Errorf("of %d bytes, %d in common, %d events", n, place, l.Len())
			}
		}
	}
}

func TestHowManyEventsFindHas(t *testing.T) { // P23.6
	for _, n := range lengths() {
		b := make([]byte, n)
		l := ledger.New()
		if Find(l, b, 1); l.Len() != n {
			t.Errorf("in %d bytes without it %d events", n, l.Len())
		}
		for place := n - 1; place >= 0; place-- {
			b[place] = 1
			l.Reset()
			if i := Find(l, b, 1); l.Len() != i+1 || i != place {
				t.Errorf("in %d bytes at %d: %d events", n, place, l.Len())
			}
		}
	}
}

func TestHowManyBranchesOfPowerAreSo(t *testing.T) { // P23.6
	r := rand.New(rand.NewSource(239))
	for range 300 {
		exp := r.Uint64() & r.Uint64() >> r.Intn(64)
		got := recorded(t, func(l *ledger.Ledger) { Power(l, r.Uint64(), exp, r.Uint64()|1) })
		if ones(got) != bits.OnesCount64(exp) || len(got) != 64 {
			t.Errorf("exp %#x: %d of %d branches are so", exp, ones(got), len(got))
		}
	}
}

func TestHowManyBranchesOfSortAreSo(t *testing.T) { // P23.6
	r := rand.New(rand.NewSource(240))
	for _, n := range lengths() {
		for _, most := range []int{1, 2, 5, 256} {
			b := random(r, n, most)
			pairs := 0
			for i := range b {
				for j := i + 1; j < n; j++ {
					if b[i] > b[j] {
						pairs++
					}
				}
			}
			got := recorded(t, func(l *ledger.Ledger) { Sort(l, b) })
			if ones(got) != pairs {
				t.Errorf("%d pairs, %d branches are so", pairs, ones(got))
			}
		}
	}
}

// leaks are two calls of each function, with inputs of the same lengths.
func leaks() map[string][2]func(l *ledger.Ledger) {
	type call = func(l *ledger.Ledger)
	return map[string][2]call{
		"Equal": {call(func(l *ledger.Ledger) { Equal(l, []byte("abcd"), []byte("abcd")) }), call(func(l *ledger.Ledger) { Equal(l, []byte("abcd"), []byte("axcd")) })},
		"Box":   {call(func(l *ledger.Ledger) { Box(l, 83) }), call(func(l *ledger.Ledger) { Box(l, 84) })},
		"Power": {call(func(l *ledger.Ledger) { Power(l, 3, 5, 7) }), call(func(l *ledger.Ledger) { Power(l, 3, 6, 7) })},
		"Find":  {call(func(l *ledger.Ledger) { Find(l, []byte("abx"), 'x') }), call(func(l *ledger.Ledger) { Find(l, []byte("axb"), 'x') })},
		"Sort":  {call(func(l *ledger.Ledger) { Sort(l, []byte{3, 1, 2}) }), call(func(l *ledger.Ledger) { Sort(l, []byte{1, 2, 3}) })},
	}
}

func TestEachOfThemLeaks(t *testing.T) { // P23.6, P8: of the same lengths, and the ledgers are unlike
	for name, calls := range leaks() {
		one, two := recorded(t, calls[0]), recorded(t, calls[1])
		if slices.Equal(one, two) {
			t.Errorf("%s: both recorded %v", name, one)
		}
		if again := recorded(t, calls[0]); !slices.Equal(again, one) {
			t.Errorf("%s: the same call recorded %v, then %v", name, one, again)
		}
	}
}

func TestLedgersHangOnTheOrderAlone(t *testing.T) { // P23.1, P23.4, P23.5: what is asked is whether bytes are the same, or greater, nothing else
	one := recorded(t, func(l *ledger.Ledger) {
		Equal(l, []byte{1, 2, 3}, []byte{1, 2, 4})
		Find(l, []byte{1, 2, 3}, 3)
		Sort(l, []byte{3, 1, 2})
	})
	two := recorded(t, func(l *ledger.Ledger) {
		Equal(l, []byte{9, 8, 255}, []byte{9, 8, 0})
		Find(l, []byte{0, 128, 255}, 255)
		Sort(l, []byte{255, 0, 128})
	})
	wantEvents(t, two, one)
}

func TestCallsInTurn(t *testing.T) { // rule 7: what was asked before shows in no answer, refusals neither
	l := ledger.New()
	for range 3 {
		for _, calls := range leaks() {
			calls[0](l)
			calls[1](l)
		}
		Power(l, 2, 3, 0)
		wantEqual(t, []byte("abcd"), []byte("axcd"))
		wantPower(t, 3, 5, 7, 5)
		wantFind(t, []byte("abx"), 'x')
		wantSort(t, []byte{3, 1, 2})
	}
}

func TestCallsInGoroutines(t *testing.T) { // rule 7: each with a ledger of its own, over lists that all of them read
	list := random(rand.New(rand.NewSource(241)), 100, 256)
	other := bytes.Clone(list)
	calls := func(l *ledger.Ledger) {
		Equal(l, list, other)
		Box(l, list[0])
		Power(l, 3, greatest, prime)
		Find(l, list, other[99])
		Sort(l, list)
	}
	want := recorded(t, calls)
	var group sync.WaitGroup
	for range 8 {
		group.Go(func() {
			l := ledger.New()
			calls(l)
			if !slices.Equal(slices.Collect(l.All()), want) {
				t.Error("another ledger")
			}
		})
	}
	group.Wait()
}

func TestSortBreaksOffByALabel(t *testing.T) { // the chapter's way
	file, err := parser.ParseFile(token.NewFileSet(), "naive.go", nil, 0)
	if err != nil {
		t.Fatal(err)
	}
	labelled := 0
	ast.Inspect(file.Scope.Lookup("Sort").Decl.(*ast.FuncDecl), func(n ast.Node) bool {
		if b, is := n.(*ast.BranchStmt); is && b.Tok == token.BREAK && b.Label != nil {
			labelled++
		}
		return true
	})
	if labelled == 0 {
		t.Error("Sort has no labelled break")
	}
}

func FuzzLists(f *testing.F) { // P1, P23.1, P23.4, P23.5: whatever the lists are
	for _, list := range []string{"", "a", "abcd", "dcba", "aaaa", "axcd", "\x00\xff\x80\x7f"} {
		f.Add([]byte(list), []byte("abcd"), byte('x'))
		f.Add([]byte("abc"), []byte(list), byte('a'))
	}
	f.Fuzz(func(t *testing.T, a, b []byte, x byte) {
		// Of longer lists Sort's events, one by one, would be too many.
		a, b = a[:min(len(a), 500)], b[:min(len(b), 500)]
		wantEqual(t, a, b)
		wantEqual(t, a, bytes.Clone(a))
		wantFind(t, a, x)
		wantSort(t, a)
		wantSort(t, append(bytes.Clone(a), b...))
	})
}

func FuzzPower(f *testing.F) { // P1, P23.3: whatever the numbers are
	for _, mod := range append(mods(), 0) {
		f.Add(uint64(1<<63), uint64(greatest), mod)
		f.Add(mod-1, mod+1, mod)
	}
	f.Fuzz(func(t *testing.T, base, exp, mod uint64) {
		if mod == 0 {
			if x, e := Power(nil, base, exp, mod); x != 0 || e != api.ErrArg {
				t.Fatalf("Power(%d, %d, 0) = %d, %d", base, exp, x, e)
			}
			return
		}
		wantPower(t, base, exp, mod, powerOnPaper(base, exp, mod))
	})
}
