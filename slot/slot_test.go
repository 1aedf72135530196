package slot

import (
	"bytes"
	"math/rand"
	"slices"
	"sync"
	"testing"

	"turnkey/api"
	"turnkey/ledger"
)

// other is an event of somebody else's, which stands in a ledger already.
var other = api.Event{Kind: api.EvOp, Size: 5}

// wiped and compared are the events that the calls record: of all 1,024 bytes, whatever was put.
var (
	wiped    = api.Event{Kind: api.EvWipe, Size: 1024}
	compared = api.Event{Kind: api.EvCompare, Size: 1024}
)

// sizes are lengths that may be put, with those at which the rules turn.
var sizes = []int{0, 1, 2, 3, 16, 511, 512, 513, 1022, 1023, 1024}

// tooLong are lengths that may not be put.
var tooLong = []int{1025, 1026, 2047, 2048, 2049, 65536, 1 << 20}

// random makes n bytes, the same ones for the same seed.
func random(seed int64, n int) []byte {
	b := make([]byte, n)
	rand.New(rand.NewSource(seed)).Read(b)
	return b
}

// full makes n bytes of which none is 0, so that each one that is left behind shows.
func full(n int) []byte { return bytes.Repeat([]byte{255}, n) }

// fills are ways to fill n bytes.
func fills(n int) [][]byte {
	return [][]byte{make([]byte, n), full(n), random(180, n), random(181, n)}
}

// overwrite writes over a list and over its spare room.
func overwrite(b []byte) {
	for i := range b[:cap(b)] {
		b[:cap(b)][i] = 0x99
	}
}

// put makes a memory and puts bytes into it.
func put(t *testing.T, b []byte) *Memory {
	t.Helper()
	m := New()
	mustPut(t, m, b)
	return m
}

// mustPut puts bytes that may be put.
func mustPut(t *testing.T, m *Memory, b []byte) {
	t.Helper()
	if e := m.Put(b); e != api.OK {
		t.Fatalf("Put of %d bytes: %d", len(b), e)
	}
}

// want holds a memory against the bytes that were put last.
func want(t *testing.T, what string, m *Memory, b []byte) {
	t.Helper()
	look, have := m.Look(), m.Bytes()
	for i, x := range look {
		if i < len(b) && x != b[i] || i >= len(b) && x != 0 {
			t.Fatalf("%s: of %d bytes Look has %d at %d", what, len(b), x, i)
		}
	}
	if !bytes.Equal(have, b) {
		t.Fatalf("%s: Bytes are %x, want %x", what, have, b)
	}
	if n := m.Len(); n != len(b) {
		t.Fatalf("%s: Len is %d, want %d", what, n, len(b))
	}
}

// wantEvents holds a ledger against the events that it must have, one by one, and empties it.
func wantEvents(t *testing.T, what string, l *ledger.Ledger, want ...api.Event) {
	t.Helper()
	if got := slices.Collect(l.All()); !slices.Equal(got, want) {
		t.Fatalf("%s recorded %v, want %v", what, got, want)
	}
	l.Reset()
}

// wantSame holds Same against a verdict, both ways round, with a ledger and without one.
func wantSame(t *testing.T, what string, a, b *Memory, want bool) {
	t.Helper()
	l := ledger.New()
	if Same(l, a, b) != want || Same(l, b, a) != want || Same(nil, a, b) != want || Same(nil, b, a) != want {
		t.Fatalf("%s: Same is not %v", what, want)
	}
	wantEvents(t, what, l, compared, compared)
}

// wantNone holds every call of a memory that is none against rule 4.
func wantNone(t *testing.T, what string, m *Memory) {
	t.Helper()
	ledgers := []*ledger.Ledger{ledger.New(), {}, nil}
	for _, n := range slices.Concat(sizes, tooLong) {
		if e := m.Put(full(n)); e != api.ErrNil {
			t.Errorf("%s: Put of %d bytes: %d", what, n, e)
		}
	}
	if e := m.Put(nil); e != api.ErrNil {
		t.Errorf("%s: Put of nil: %d", what, e)
	}
	wantNothing := func() {
		t.Helper()
		if m.Look() != (api.Slot{}) || len(m.Bytes()) != 0 || m.Len() != 0 {
			t.Errorf("%s: Look, Bytes or Len tells something", what)
		}
	}
	wantNothing()
	for _, l := range ledgers {
		if e := m.Wipe(l); e != api.ErrNil {
			t.Errorf("%s: Wipe: %d", what, e)
		}
		for _, b := range []*Memory{New(), put(t, []byte{1, 2, 3}), put(t, full(1024)), m, nil, {}} {
			if Same(l, m, b) || Same(l, b, m) {
				t.Errorf("%s: Same as another one", what)
			}
		}
		wantEvents(t, what, l)
	}
	wantNothing()
}

func TestExamples(t *testing.T) { // the chapter's, in its order, of one memory
	m, l := New(), ledger.New()
	if m.Put([]byte{1, 2, 3}) != api.OK || m.Look() != (api.Slot{1, 2, 3}) || !bytes.Equal(m.Bytes(), []byte{1, 2, 3}) || m.Len() != 3 {
		t.Error("Put(1 2 3)")
	}
	if m.Put([]byte{9}) != api.OK || m.Look() != (api.Slot{9}) || !bytes.Equal(m.Bytes(), []byte{9}) {
		t.Error("Put(9)")
	}
	if m.Put(make([]byte, 1025)) != api.ErrLong || m.Put(make([]byte, 1024)) != api.OK {
		t.Error("Put of 1,025 bytes, of 1,024")
	}
	if m.Wipe(l) != api.OK || m.Look() != (api.Slot{}) || m.Len() != 0 {
		t.Error("Wipe")
	}
	wantEvents(t, "Wipe", l, wiped)
	if m.Put([]byte{0, 0}) != api.OK || m.Len() != 2 {
		t.Error("Put(0 0)")
	}
	if !Same(l, m, New()) {
		t.Error("Same of that and a new one")
	}
	wantEvents(t, "Same", l, compared)
}

func TestNew(t *testing.T) { // P18.1
	a, b := New(), New()
	if a == nil || b == nil || a == b {
		t.Fatal("New makes no memory of its own")
	}
	want(t, "a new one", a, nil)
	want(t, "another one", b, nil)
	wantSame(t, "two new ones", a, b, true)
	mustPut(t, a, full(1024))
	want(t, "a new one behind another one's Put", New(), nil)
}

func TestSize(t *testing.T) { // P18.1: 1,024 bytes, as DOC.md's limits say
	if api.SlotSize != 1024 || len(New().Look()) != 1024 {
		t.Error("a memory has not 1,024 bytes")
	}
}

func TestPut(t *testing.T) { // P18.1, P18.2, P18.5
	for n := range 1025 {
		for _, b := range fills(n) {
			want(t, "Put", put(t, b), b)
		}
	}
}

func TestPutOfEachPlace(t *testing.T) { // P18.1, P18.2: no byte is lost or moved, the last one neither
	for at := range 1024 {
		for _, x := range []byte{1, 128, 255} {
			b := make([]byte, at+1)
			b[at] = x
			want(t, "a byte at the end", put(t, b), b)
			b = append(b, make([]byte, 1024-len(b))...)
			want(t, "a byte with noughts behind it", put(t, b), b)
		}
	}
}

func TestPutOfNone(t *testing.T) { // P18.1: nil and empty are the same, whatever was there before
	for _, none := range [][]byte{nil, {}, make([]byte, 0, 9), full(2000)[:0], full(9)[4:4]} {
		want(t, "none into a new one", put(t, none), nil)
		for _, n := range sizes {
			m := put(t, full(n))
			mustPut(t, m, none)
			want(t, "none behind some", m, nil)
			wantSame(t, "none behind some, and a new one", m, New(), true)
		}
	}
}

func TestPutOfNoughts(t *testing.T) { // P18.1, P18.2: they count as bytes, although the memory is as a new one's
	for _, n := range sizes {
		m := put(t, make([]byte, n))
		want(t, "noughts", m, make([]byte, n))
		wantSame(t, "noughts and a new one", m, New(), true)
		b := append([]byte{7}, make([]byte, max(n-1, 0))...)
		want(t, "noughts at the end", put(t, b), b)
	}
}

func TestPutBehindPut(t *testing.T) { // P18.1: of what was there before nothing is left
	for _, first := range sizes {
		for _, second := range sizes {
			for _, b := range fills(second) {
				m := put(t, full(first))
				mustPut(t, m, b)
				want(t, "the second one", m, b)
				wantSame(t, "the second one alone", m, put(t, b), true)
				if *m != *put(t, b) {
					t.Fatalf("of %d bytes something is kept behind %d", first, second)
				}
			}
		}
	}
}

func TestPutDownAndUp(t *testing.T) { // P18.1: fewer and fewer, and more again: noughts come behind each of them
	m := New()
	for n := 1024; n >= 0; n-- {
		mustPut(t, m, full(n))
		want(t, "down", m, full(n))
	}
	for n := range 1025 {
		mustPut(t, m, make([]byte, n))
		want(t, "up", m, make([]byte, n))
	}
}

func TestPutIsRefused(t *testing.T) { // P18.1, rule 2: all is as it was, and it may be put into again
	for _, long := range tooLong {
		for _, b := range [][]byte{make([]byte, long), full(long), random(182, long)} {
			if m := New(); m.Put(b) != api.ErrLong || *m != *New() {
				t.Fatalf("a new one: Put of %d bytes", long)
			}
			for _, n := range sizes {
				was := random(183, n)
				m := put(t, was)
				for range 2 {
					if e := m.Put(b); e != api.ErrLong {
						t.Fatalf("Put of %d bytes: %d", long, e)
					}
					want(t, "behind a refused one", m, was)
				}
				wantSame(t, "behind a refused one", m, put(t, was), true)
				mustPut(t, m, b[:1024])
				want(t, "as many of them as may be", m, b[:1024])
			}
		}
	}
}

func TestRoomIsNotPut(t *testing.T) { // P18.1, rule 3: what is handed in is as long as its length says
	room := full(5000)
	for _, n := range sizes {
		want(t, "with spare room", put(t, room[:n]), room[:n])
		want(t, "with spare room on both sides", put(t, room[7:7+n]), room[7:7+n])
	}
	m := put(t, room[:3])
	if e := m.Put(room[:1025]); e != api.ErrLong {
		t.Error("too long, with spare room:", e)
	}
	want(t, "behind a refused one", m, room[:3])
}

func TestPutOfItsOwn(t *testing.T) { // P18.1, rule 3: what it has told is put into it again
	for _, n := range sizes {
		b := random(184, n)
		m := put(t, b)
		mustPut(t, m, m.Bytes())
		want(t, "its own bytes", m, b)
		half := m.Bytes()[n/2:]
		mustPut(t, m, half)
		want(t, "the end of its own bytes", m, b[n/2:])
		look := m.Look()
		mustPut(t, m, look[:])
		want(t, "all that Look told", m, look[:])
	}
}

func TestToldAlikeAgain(t *testing.T) { // P18.2: who looks changes nothing
	for _, n := range sizes {
		b := random(185, n)
		m, one := put(t, b), put(t, random(186, n))
		was := *m
		for range 3 {
			want(t, "again", m, b)
			Same(nil, m, one)
			Same(nil, one, m)
			Same(nil, m, m)
		}
		if *m != was {
			t.Errorf("%d bytes: looking at them has changed something", n)
		}
		want(t, "the other one", one, random(186, n))
	}
}

func TestWipe(t *testing.T) { // P18.3, P18.5: as behind New
	for _, n := range sizes {
		for _, b := range fills(n) {
			for _, l := range []*ledger.Ledger{ledger.New(), {}, nil} {
				m := put(t, b)
				l.Note(other)
				if e := m.Wipe(l); e != api.OK {
					t.Fatalf("Wipe of %d bytes: %d", n, e)
				}
				want(t, "a wiped one", m, nil)
				if *m != *New() {
					t.Fatalf("behind Wipe of %d bytes it is not as behind New", n)
				}
				if l != nil {
					wantEvents(t, "Wipe", l, other, wiped)
				}
				wantSame(t, "a wiped one and a new one", m, New(), true)
			}
		}
	}
}

func TestWipeOfANewOne(t *testing.T) { // P18.3: it is recorded, too, and each time
	m, l := New(), ledger.New()
	for range 3 {
		if e := m.Wipe(l); e != api.OK {
			t.Fatal("Wipe:", e)
		}
		want(t, "a new one that was wiped", m, nil)
	}
	wantEvents(t, "Wipe three times", l, wiped, wiped, wiped)
}

func TestPutBehindWipe(t *testing.T) { // P18.3: nobody has to make it anew
	m := New()
	for _, first := range sizes {
		for _, second := range sizes {
			mustPut(t, m, full(first))
			if e := m.Wipe(nil); e != api.OK {
				t.Fatal("Wipe:", e)
			}
			if e := m.Put(full(1025)); e != api.ErrLong {
				t.Fatal("Put of 1,025 bytes behind Wipe:", e)
			}
			want(t, "refused behind Wipe", m, nil)
			b := random(187, second)
			mustPut(t, m, b)
			want(t, "behind Wipe", m, b)
			wantSame(t, "behind Wipe, and a new one's", m, put(t, b), true)
		}
	}
}

func TestSameOfAlikeOnes(t *testing.T) { // P18.4
	for _, n := range sizes {
		for _, b := range fills(n) {
			a, c := put(t, b), put(t, bytes.Clone(b))
			wantSame(t, "alike", a, c, true)
			wantSame(t, "with itself", a, a, true)
			want(t, "behind Same", a, b)
			want(t, "behind Same, the other one", c, b)
		}
	}
	m := New()
	wantSame(t, "a new one with itself", m, m, true)
}

func TestSameToOneBit(t *testing.T) { // P18.4: at each place, the first and the last one too
	b := random(188, 1024)
	a := put(t, b)
	for at := range 1024 {
		for bit := range 8 {
			b[at] ^= 1 << bit
			wantSame(t, "unlike in one bit", a, put(t, b), false)
			b[at] ^= 1 << bit
		}
	}
	wantSame(t, "unlike in none", a, put(t, b), true)
}

func TestSameOfShortOnes(t *testing.T) { // P18.4: unlike in the first, in a middle, in the last byte that was put
	for _, n := range sizes {
		for _, at := range []int{0, n / 2, n - 1} {
			if at < 0 || at >= n {
				continue
			}
			b := random(189, n)
			a := put(t, b)
			b[at]++
			wantSame(t, "unlike in one byte", a, put(t, b), false)
		}
	}
}

func TestSameOfTwoUnlikePlaces(t *testing.T) { // P18.4: what differs in two places does not cancel out
	for _, x := range []byte{1, 128, 255} {
		for _, places := range [][2]int{{0, 1}, {0, 1023}, {511, 512}, {1022, 1023}} {
			b := make([]byte, 1024)
			b[places[0]], b[places[1]] = x, x
			wantSame(t, "unlike in two places", put(t, b), New(), false)
			b[places[1]] = -x
			wantSame(t, "unlike in two places", put(t, b), New(), false)
		}
	}
}

func TestSameWhateverTheLengths(t *testing.T) { // P18.4: noughts that were put are like those behind
	for _, n := range sizes {
		for _, longer := range sizes {
			if longer < n {
				continue
			}
			b := random(190, n)
			with := append(bytes.Clone(b), make([]byte, longer-n)...)
			a, c := put(t, b), put(t, with)
			wantSame(t, "with noughts behind", a, c, true)
			if a.Len() != n || c.Len() != longer {
				t.Errorf("Len is %d and %d, want %d and %d", a.Len(), c.Len(), n, longer)
			}
			if longer > n {
				with[longer-1] = 1
				wantSame(t, "with a 1 at the end", a, put(t, with), false)
				with[longer-1], with[n] = 0, 128
				wantSame(t, "with 128 behind", a, put(t, with), false)
			}
		}
	}
}

func TestSameHangsOnWhatIsThere(t *testing.T) { // P18.4, P18.5: whatever came before
	b := random(191, 40)
	plain, behind, again := put(t, b), put(t, full(1024)), put(t, full(700))
	mustPut(t, behind, b)
	again.Wipe(nil)
	mustPut(t, again, b)
	again.Put(full(1025))
	wantSame(t, "behind a longer one", plain, behind, true)
	wantSame(t, "behind Wipe", plain, again, true)
	mustPut(t, plain, b[:39])
	wantSame(t, "behind one byte less", plain, again, false)
}

func TestMemoriesThatAreNone(t *testing.T) { // rule 4, P18.2, P18.4
	wantNone(t, "nil", nil)
	wantNone(t, "new", new(Memory))
	wantNone(t, "zero", &Memory{})
	var m Memory
	wantNone(t, "a variable", &m)
	var many [3]Memory
	wantNone(t, "one of many", &many[1])
}

func TestNoneBesideOne(t *testing.T) { // rule 4: Same with one that is none leaves the other one as it was
	for _, n := range sizes {
		b := random(192, n)
		m, l := put(t, b), ledger.New()
		l.Note(other)
		for _, none := range []*Memory{nil, {}, new(Memory)} {
			for _, l := range []*ledger.Ledger{l, nil} {
				if Same(l, none, m) || Same(l, m, none) || Same(l, none, none) || Same(l, none, nil) {
					t.Error("Same with one that is none")
				}
			}
		}
		wantEvents(t, "Same with one that is none", l, other)
		want(t, "beside one that is none", m, b)
	}
}

func TestRecorded(t *testing.T) { // P18.3, P18.4, rule 5: event by event, behind all others; the zero Ledger is one, too
	for _, l := range []*ledger.Ledger{ledger.New(), {}} {
		l.Note(other)
		m, one := New(), New()
		m.Put(full(1024))
		m.Put(full(1025))
		m.Look()
		m.Bytes()
		m.Len()
		wantEvents(t, "what takes no ledger", l, other)
		l.Note(other)
		Same(l, m, one)
		l.Note(other)
		m.Wipe(l)
		Same(l, m, one)
		Same(l, m, nil)
		Same(l, &Memory{}, one)
		one.Wipe(l)
		(*Memory)(nil).Wipe(l)
		new(Memory).Wipe(l)
		l.Note(other)
		wantEvents(t, "all calls", l, other, compared, other, wiped, compared, wiped, other)
	}
}

func TestLedgerHangsOnNothing(t *testing.T) { // rule 9: whatever was put, and however much of it
	for _, n := range sizes {
		for _, k := range sizes {
			for i, b := range fills(n) {
				for j, c := range fills(k) {
					l := ledger.New()
					m, one := put(t, b), put(t, c)
					Same(l, m, one)
					m.Wipe(l)
					Same(l, one, m)
					one.Wipe(l)
					if got := slices.Collect(l.All()); !slices.Equal(got, []api.Event{compared, wiped, compared, wiped}) {
						t.Fatalf("%d bytes, fill %d, and %d bytes, fill %d: recorded %v", n, i, k, j, got)
					}
				}
			}
		}
	}
}

func TestLedgersMayChange(t *testing.T) { // rule 5: a call records in its own ledger, and none is kept
	m, one, two := New(), ledger.New(), ledger.New()
	m.Wipe(one)
	wantEvents(t, "the first Wipe", one, wiped)
	Same(two, m, m)
	wantEvents(t, "Same", two, compared)
	m.Wipe(nil)
	Same(nil, m, m)
	mustPut(t, m, full(9))
	wantEvents(t, "the first ledger", one)
	wantEvents(t, "the second ledger", two)
}

func TestBytesStayAndAreNotKept(t *testing.T) { // rule 3: neither they nor their spare room change, and a memory outlives them
	for _, n := range slices.Concat(sizes, tooLong) {
		b := random(193, n)
		whole := slices.Concat([]byte{81, 82}, b, random(194, 80))
		was := bytes.Clone(whole)
		m := New()
		e := m.Put(whole[2 : 2+n])
		if !bytes.Equal(whole, was) {
			t.Fatalf("%d bytes: what was handed in has changed", n)
		}
		overwrite(whole)
		if e == api.OK {
			want(t, "behind what was written over", m, b)
		} else {
			want(t, "behind what was refused", m, nil)
		}
		mustPut(t, m, []byte{1})
		m.Wipe(nil)
		if !bytes.Equal(whole[:cap(whole)], bytes.Repeat([]byte{0x99}, cap(whole))) {
			t.Fatalf("%d bytes: what was handed in was written to later", n)
		}
	}
}

func TestAnswersAreNew(t *testing.T) { // rule 3: neither they nor their spare room are shared, and nothing changes them later
	for _, n := range sizes {
		b := random(195, n)
		m := put(t, full(1024))
		mustPut(t, m, b)
		one, two := m.Bytes(), m.Bytes()
		if room := one[n:cap(one)]; !bytes.Equal(room, make([]byte, len(room))) {
			t.Errorf("%d bytes: their spare room has %x", n, room)
		}
		overwrite(one)
		look := m.Look()
		overwrite(look[:])
		want(t, "behind answers that were written over", m, b)
		if !bytes.Equal(two, b) {
			t.Errorf("%d bytes: an answer that was written over shows in another one", n)
		}
		look = m.Look()
		mustPut(t, m, full(1024))
		m.Wipe(nil)
		if !bytes.Equal(two, b) || !bytes.Equal(look[:n], b) || !bytes.Equal(look[n:], make([]byte, 1024-n)) {
			t.Errorf("%d bytes: an answer has changed with what was called later", n)
		}
	}
}

func TestSideBySide(t *testing.T) { // P18.5, rule 7: what one is told changes no other one
	for _, n := range sizes {
		for _, k := range sizes {
			b, c := random(196, n), random(197, k)
			one, two := New(), New()
			mustPut(t, one, b)
			want(t, "the second one, behind the first one's Put", two, nil)
			mustPut(t, two, c)
			want(t, "the first one, behind the second one's Put", one, b)
			one.Put(full(1025))
			want(t, "the second one, behind the first one's refused Put", two, c)
			one.Wipe(nil)
			want(t, "the second one, behind the first one's Wipe", two, c)
			want(t, "the first one, behind its Wipe", one, nil)
			mustPut(t, one, c)
			two.Wipe(nil)
			want(t, "the first one, behind the second one's Wipe", one, c)
		}
	}
}

func TestManyAtOnce(t *testing.T) { // P18.5: as many as a vault has slots, in turn
	var all [api.MaxHandles]*Memory
	var has [api.MaxHandles][]byte
	for i := range all {
		all[i] = New()
	}
	r := rand.New(rand.NewSource(198))
	for step := range 5000 {
		i := r.Intn(len(all))
		switch b := random(int64(step), r.Intn(1300)); {
		case step%7 == 0:
			all[i].Wipe(nil)
			has[i] = nil
		case all[i].Put(b) == api.OK:
			has[i] = b
		}
		want(t, "the one that was told something", all[i], has[i])
	}
	for i, m := range all {
		want(t, "one of many", m, has[i])
	}
}

func TestMemoriesInGoroutines(t *testing.T) { // rule 7: each by itself, with lists that all of them read
	b := random(199, 1100)
	var wait sync.WaitGroup
	for i := range 8 {
		wait.Go(func() {
			m, one, l := New(), New(), ledger.New()
			for n := range b {
				e := m.Put(b[:n])
				if (e == api.OK) != (n <= 1024) {
					t.Errorf("goroutine %d: Put of %d bytes: %d", i, n, e)
				}
				one.Put(b[:min(n, 1024)])
				if n := min(n, 1024); !Same(l, m, one) || m.Len() != n || !bytes.Equal(m.Bytes(), b[:n]) {
					t.Errorf("goroutine %d: Put of %d bytes", i, n)
				}
			}
			m.Wipe(l)
			if m.Look() != (api.Slot{}) || l.Count(api.EvCompare) != len(b) || l.Count(api.EvWipe) != 1 || l.Len() != len(b)+1 {
				t.Errorf("goroutine %d: recorded %v", i, l.Runs())
			}
		})
	}
	wait.Wait()
}

func FuzzAsPlain(f *testing.F) { // P1, P18.1 to P18.5: two memories against plain lists of bytes
	f.Add([]byte{0, 0, 1, 0, 2, 2, 3, 0}, []byte{1, 2, 3}, 0)
	f.Add([]byte{0, 1, 2, 4, 5}, make([]byte, 1024), 1)
	f.Add([]byte{1, 0, 5, 3, 2}, full(1025), 1024)
	f.Add([]byte{0, 5, 1, 2, 4, 3}, full(1023), 2000)
	f.Fuzz(func(t *testing.T, steps, b []byte, cut int) {
		cut = min(max(cut, 0), len(b))
		l := ledger.New()
		ms, has := [2]*Memory{New(), New()}, [2][]byte{}
		for _, step := range steps {
			i := int(step % 2)
			switch step / 2 % 3 {
			case 0:
				list, code := b[cut:], api.OK
				if step/6%2 == 0 {
					list = b[:cut]
				}
				if len(list) > 1024 {
					code = api.ErrLong
				} else {
					has[i] = list
				}
				if e := ms[i].Put(list); e != code {
					t.Fatalf("Put of %d bytes: %d", len(list), e)
				}
				wantEvents(t, "Put", l)
			case 1:
				if e := ms[i].Wipe(l); e != api.OK {
					t.Fatal("Wipe:", e)
				}
				has[i] = nil
				wantEvents(t, "Wipe", l, wiped)
			default:
				plain := bytes.Equal(bytes.TrimRight(has[0], "\x00"), bytes.TrimRight(has[1], "\x00"))
				wantSame(t, "Same", ms[0], ms[1], plain)
			}
			want(t, "the first one", ms[0], has[0])
			want(t, "the second one", ms[1], has[1])
		}
	})
}
