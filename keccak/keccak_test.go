package keccak

import (
	"bytes"
	"crypto/sha3"
	"encoding/binary"
	"math/bits"
	"math/rand"
	"slices"
	"sync"
	"testing"

	"turnkey/api"
	"turnkey/ledger"
)

var (
	// permuted is the event that Permute records.
	permuted = api.Event{Kind: api.EvKeccak, Size: 200}
	// other is an event of somebody else's, which stands in a ledger already.
	other = api.Event{Kind: api.EvOp, Size: 5}
)

// grid is a state by coordinates: grid[x][y].
type grid [5][5]uint64

// gridOf lays the lanes by their coordinates.
func gridOf(s State) grid {
	var a grid
	for i, lane := range s {
		a[i%5][i/5] = lane
	}
	return a
}

// state lays the grid as lanes.
func (a grid) state() State {
	var s State
	for i := range s {
		s[i] = a[i%5][i/5]
	}
	return s
}

// constantOf reckons the constant of a round by the chapter's rule of the bytes r(n).
func constantOf(i int) uint64 {
	var constant uint64
	for j := range 7 {
		r := 1
		for range j + 7*i {
			r *= 2
			if r >= 256 {
				r = (r - 256) ^ 0x71
			}
		}
		constant |= uint64(r&1) << (1<<j - 1)
	}
	return constant
}

// column is the exclusive or of a column's lanes; x counts modulo 5.
func (a grid) column(x int) uint64 {
	var c uint64
	for _, lane := range a[(x+5)%5] {
		c ^= lane
	}
	return c
}

// round does one round by the chapter's words, coordinate by coordinate.
func (a grid) round(i int) grid {
	var mixed, b, out grid
	for x := range 5 {
		for y := range 5 {
			mixed[x][y] = a[x][y] ^ a.column(x-1) ^ bits.RotateLeft64(a.column(x+1), 1)
		}
	}
	b[0][0] = mixed[0][0]
	x, y := 1, 0
	for t := range 24 {
		b[y][(2*x+3*y)%5] = bits.RotateLeft64(mixed[x][y], (t+1)*(t+2)/2%64)
		x, y = y, (2*x+3*y)%5
	}
	for x := range 5 {
		for y := range 5 {
			out[x][y] = b[x][y] ^ (^b[(x+1)%5][y] & b[(x+2)%5][y])
		}
	}
	out[0][0] ^= constantOf(i)
	return out
}

// plain is the permutation by the chapter's words.
func plain(s State) State {
	a := gridOf(s)
	for i := range 24 {
		a = a.round(i)
	}
	return a.state()
}

// unmixed undoes step 1. The columns of what it gives are those that, mixed, are the columns of a; they are found by doing
// step 1 over and over: on columns it is linear, and its order divides 192 = 3 * 64.
func unmixed(a grid) grid {
	for range 192 - 1 {
		before := a
		for x := range 5 {
			for y := range 5 {
				a[x][y] ^= before.column(x-1) ^ bits.RotateLeft64(before.column(x+1), 1)
			}
		}
	}
	return a
}

// unjoined undoes step 3, row by row and bit by bit: of the 32 rows that there are, the one that makes this one.
func unjoined(a grid) grid {
	var back [32]int
	for row := range 32 {
		made := 0
		for x := range 5 {
			bit := func(x int) int { return row >> (x % 5) & 1 }
			made |= (bit(x) ^ (1-bit(x+1))&bit(x+2)) << x
		}
		back[made] = row
	}
	var b grid
	for y := range 5 {
		for z := range 64 {
			row := 0
			for x := range 5 {
				row |= int(a[x][y]>>z&1) << x
			}
			for x := range 5 {
				b[x][y] |= uint64(back[row]>>x&1) << z
			}
		}
	}
	return b
}

// undone gives the state whose Permute this is.
func undone(s State) State {
	a := gridOf(s)
	for i := 23; i >= 0; i-- {
		a[0][0] ^= constantOf(i)
		b := unjoined(a)
		a = grid{}
		a[0][0] = b[0][0]
		x, y := 1, 0
		for t := range 24 {
			a[x][y] = bits.RotateLeft64(b[y][(2*x+3*y)%5], -(t+1)*(t+2)/2)
			x, y = y, (2*x+3*y)%5
		}
		a = unmixed(a)
	}
	return a.state()
}

// random makes a state, the same one for the same seed.
func random(seed int64) State {
	r := rand.New(rand.NewSource(seed))
	var s State
	for i := range s {
		s[i] = r.Uint64()
	}
	return s
}

// ones is the state whose bits are all ones.
func ones() State {
	var s State
	for i := range s {
		s[i] = ^uint64(0)
	}
	return s
}

// oneBit is the state of which one bit alone is not nought.
func oneBit(n int) State {
	var s State
	s[n/64] = 1 << (n % 64)
	return s
}

// states are those that the chapter's rules turn at, and some others.
func states() []State {
	all := []State{{}, ones()}
	for n := range 1600 {
		all = append(all, oneBit(n))
	}
	for i := range 25 {
		for _, lane := range []uint64{0x0102, 0x0102030405060708, ^uint64(0)} {
			var s State
			s[i] = lane
			all = append(all, s)
		}
	}
	for seed := range int64(50) {
		all = append(all, random(seed))
	}
	return all
}

// wantEvents holds a ledger against the events that it must have, one by one, and empties it.
func wantEvents(t *testing.T, what string, l *ledger.Ledger, want ...api.Event) {
	t.Helper()
	if got := slices.Collect(l.All()); !slices.Equal(got, want) {
		t.Fatalf("%s recorded %v, want %v", what, got, want)
	}
	l.Reset()
}

// P7.1: the state of noughts, lane by lane, and the chapter's example of Permute done twice.
func TestPermuteOfNoughts(t *testing.T) {
	want := State{
		0xf1258f7940e1dde7, 0x84d5ccf933c0478a, 0xd598261ea65aa9ee, 0xbd1547306f80494d, 0x8b284e056253d057,
		0xff97a42d7f8e6fd4, 0x90fee5a0a44647c4, 0x8c5bda0cd6192e76, 0xad30a6f71b19059c, 0x30935ab7d08ffc64,
		0xeb5aa93f2317d635, 0xa9a6e6260d712103, 0x81a57c16dbcf555f, 0x43b831cd0347c826, 0x01f22f1a11a5569f,
		0x05e5635a21d9ae61, 0x64befef28cc970f2, 0x613670957bc46611, 0xb87c5a554fd00ecb, 0x8c3ee88a1ccf32c8,
		0x940c7922ae3a2614, 0x1841f924a2c509e4, 0x16f53526e70465c2, 0x75f644e97f30a13b, 0xeaf1ff7b5ceca249,
	}
	got := Permute(nil, State{})
	if got != want {
		t.Errorf("Permute of noughts is %x, want %x", got, want)
	}
	if lane := Permute(nil, got)[0]; lane != 0x2d5c954df96ecb3c {
		t.Errorf("lane 0 of the second Permute is %x", lane)
	}
}

// P7.1: every state that a rule turns at is permuted as the chapter's words say.
func TestPermuteByTheWords(t *testing.T) {
	for _, s := range states() {
		if got, want := Permute(nil, s), plain(s); got != want {
			t.Fatalf("Permute of %x is %x, want %x", s, got, want)
		}
	}
}

// P7.1: Permute done over and over.
func TestPermuteSeveralTimes(t *testing.T) {
	for _, s := range []State{{}, ones(), random(1)} {
		want := s
		for n := range 200 {
			s, want = Permute(nil, s), plain(want)
			if s != want {
				t.Fatalf("done %d times: %x, want %x", n+1, s, want)
			}
		}
	}
}

// P7.1, step 1: a round's sums of columns, by themselves.
func TestMixed(t *testing.T) {
	for _, s := range states() {
		a := gridOf(s)
		var want grid
		for x := range 5 {
			for y := range 5 {
				want[x][y] = a[x][y] ^ a.column(x-1) ^ bits.RotateLeft64(a.column(x+1), 1)
			}
		}
		if got := mixed(s); got != want.state() {
			t.Fatalf("mixed of %x is %x, want %x", s, got, want.state())
		}
		if got := unmixed(want).state(); got != s {
			t.Fatalf("unmixed gives %x, want %x", got, s)
		}
	}
}

// P7.1, step 2: the way goes over every lane but the first, by the chapter's rule, and ends where it began.
func TestWay(t *testing.T) {
	x, y := 1, 0
	seen := map[int]bool{0: true}
	for n, at := range way {
		if at != x+5*y {
			t.Errorf("way[%d] is %d, want %d", n, at, x+5*y)
		}
		seen[at] = true
		x, y = y, (2*x+3*y)%5
	}
	if len(seen) != 25 || way[0] != way[len(way)-1] {
		t.Errorf("the way goes over %d lanes, from %d to %d", len(seen), way[0], way[len(way)-1])
	}
}

// P7.1, step 2: each lane comes to its place, turned as it must be, and the first stays.
func TestMoved(t *testing.T) {
	lane := uint64(0x0123456789abcdef)
	if got := moved(State{lane}); got != (State{lane}) {
		t.Errorf("the first lane was moved: %x", got)
	}
	x, y := 1, 0
	for n := range 24 {
		var s, want State
		s[x+5*y] = lane
		want[y+5*((2*x+3*y)%5)] = bits.RotateLeft64(lane, (n+1)*(n+2)/2)
		if got := moved(s); got != want {
			t.Errorf("the lane (%d, %d) moved: %x, want %x", x, y, got, want)
		}
		x, y = y, (2*x+3*y)%5
	}
}

// P7.1, step 3: every row that there may be, in each of the five places.
func TestJoined(t *testing.T) {
	for y := range 5 {
		for row := range 32 {
			var b, want grid
			for x := range 5 {
				b[x][y] = uint64(row>>x&1) * 0x8000000000000001
			}
			for x := range 5 {
				want[x][y] = b[x][y]
				if b[(x+1)%5][y] == 0 {
					want[x][y] ^= b[(x+2)%5][y]
				}
			}
			if got := joined(b.state()); got != want.state() {
				t.Fatalf("the row %05b at %d is joined to %x, want %x", row, y, got, want.state())
			}
		}
	}
}

// P7.1, step 4: the constants of all rounds by the rule, and those of the chapter's example.
func TestConstants(t *testing.T) {
	for i, constant := range constants {
		if want := constantOf(i); constant != want {
			t.Errorf("the constant of the round %d is %x, want %x", i, constant, want)
		}
	}
	for i, want := range map[int]uint64{0: 1, 1: 0x8082, 2: 0x800000000000808a, 23: 0x8000000080008008} {
		if constants[i] != want {
			t.Errorf("the constant of the round %d is %x, want %x", i, constants[i], want)
		}
	}
}

// absorbed is SHA-3 of 256 bits by Permute, From and Bytes: blocks of 136 bytes, and 6 and 128 as its ending.
func absorbed(message []byte) []byte {
	var s State
	padded := append(bytes.Clone(message), 6)
	padded = append(padded, make([]byte, 135-(len(padded)-1)%136)...)
	padded[len(padded)-1] |= 128
	for block := range slices.Chunk(padded, 136) {
		b := Bytes(s)
		for i := range block {
			b[i] ^= block[i]
		}
		s = Permute(nil, From(b))
	}
	b := Bytes(s)
	return b[:32]
}

// P7.1, P7.2: a hash function of the language's own library, made of these three.
func TestAsTheLibrary(t *testing.T) {
	message := make([]byte, 700)
	rand.New(rand.NewSource(7)).Read(message)
	for n := range message {
		want := sha3.Sum256(message[:n])
		if got := absorbed(message[:n]); !bytes.Equal(got, want[:]) {
			t.Fatalf("of %d bytes: %x, want %x", n, got, want)
		}
	}
}

// P7.1: what is recorded, behind one Permute and behind several, behind what stood there already.
func TestRecorded(t *testing.T) {
	l := ledger.New()
	s := Permute(l, State{})
	if got := l.Runs(); len(got) != 1 || got[0] != (api.Run{Event: permuted, Count: 1}) {
		t.Errorf("one Permute recorded %v", got)
	}
	wantEvents(t, "one Permute", l, permuted)
	for range 5 {
		s = Permute(l, s)
	}
	wantEvents(t, "five of them", l, slices.Repeat([]api.Event{permuted}, 5)...)

	var zero ledger.Ledger
	zero.Note(other)
	s = Permute(&zero, s)
	zero.Note(other)
	Permute(&zero, s)
	wantEvents(t, "two, and another behind the first", &zero, other, permuted, other, permuted)
}

// P7.1: with no ledger, a new one, a full one and the zero one the answer is the same.
func TestLedgerChangesNoAnswer(t *testing.T) {
	full := ledger.New()
	full.NoteTimes(permuted, 1000)
	for _, s := range []State{{}, ones(), random(2)} {
		want := plain(s)
		for _, l := range []*ledger.Ledger{nil, ledger.New(), full, {}} {
			if got := Permute(l, s); got != want {
				t.Fatalf("Permute of %x is %x, want %x", s, got, want)
			}
		}
	}
	if full.Len() != 1003 {
		t.Errorf("%d events behind three Permutes and 1000 others", full.Len())
	}
}

// P7.3: what is recorded does not hang on the state.
func TestRecordedAlike(t *testing.T) {
	l := ledger.New()
	for _, s := range states() {
		Permute(l, s)
		wantEvents(t, "Permute", l, permuted)
	}
}

// P7.2: each byte of each lane has its place, the lowest first; and the chapter's example.
func TestBytesByPlaces(t *testing.T) {
	for at := range 200 {
		for _, x := range []byte{1, 0x80, 0xff} {
			var s State
			s[at/8] = uint64(x) << (8 * (at % 8))
			var b [200]byte
			b[at] = x
			if got := Bytes(s); got != b {
				t.Fatalf("Bytes of %x is %x, want %x", s, got, b)
			}
			if got := From(b); got != s {
				t.Fatalf("From of %x is %x, want %x", b, got, s)
			}
		}
	}
	b := Bytes(State{1: 0x0102})
	if b[8] != 2 || b[9] != 1 || b[10] != 0 || From(b) != (State{1: 0x0102}) {
		t.Errorf("Bytes of lane 1 as 0x0102: %d", b)
	}
	if Bytes(State{}) != [200]byte{} || From([200]byte{}) != (State{}) {
		t.Error("noughts are not noughts")
	}
}

// P7.2: whole states, as the language's own library lays words.
func TestBytesOfStates(t *testing.T) {
	for _, s := range states() {
		var want []byte
		for _, lane := range s {
			want = binary.LittleEndian.AppendUint64(want, lane)
		}
		if got := Bytes(s); !bytes.Equal(got[:], want) {
			t.Fatalf("Bytes of %x is %x, want %x", s, got, want)
		}
	}
}

// P7.3: there and back changes nothing, from either side.
func TestThereAndBack(t *testing.T) {
	for _, s := range states() {
		if got := From(Bytes(s)); got != s {
			t.Fatalf("From of Bytes of %x is %x", s, got)
		}
	}
	r := rand.New(rand.NewSource(3))
	for range 200 {
		var b [200]byte
		r.Read(b[:])
		if got := Bytes(From(b)); got != b {
			t.Fatalf("Bytes of From of %x is %x", b, got)
		}
	}
}

// P7.3: states that differ in one bit have unlike Permute, and no state takes another's.
func TestUnlike(t *testing.T) {
	seen := map[State]State{}
	for _, base := range []State{{}, ones(), random(4)} {
		seen[Permute(nil, base)] = base
		for n := range 1600 {
			s := base
			s[n/64] ^= 1 << (n % 64)
			p := Permute(nil, s)
			if before, taken := seen[p]; taken {
				t.Fatalf("Permute of %x and of %x are alike", before, s)
			}
			seen[p] = s
		}
	}
}

// P7.3: Permute can be undone, so that unlike states can't have the same; and every state is one's Permute.
func TestUndone(t *testing.T) {
	all := []State{{}, ones(), oneBit(0), oneBit(1599)}
	for seed := range int64(6) {
		all = append(all, random(seed))
	}
	for _, s := range all {
		if got := undone(Permute(nil, s)); got != s {
			t.Fatalf("undone: %x, want %x", got, s)
		}
		if got := Permute(nil, undone(s)); got != s {
			t.Fatalf("Permute of undone: %x, want %x", got, s)
		}
	}
}

// Rule 3: what is handed in stays, and an answer does not change with what is done to it or called later.
func TestHandedAsValues(t *testing.T) {
	s := random(5)
	kept := s
	p, b := Permute(nil, s), Bytes(s)
	keptP, keptB := p, b
	again := From(b)
	b[0] ^= 1
	again[24] ^= 1
	if s != kept || p != keptP || Permute(nil, s) != keptP || Bytes(s) != keptB || From(keptB) != s {
		t.Error("a state, or an answer, was changed")
	}
}

// Rule 7: what other goroutines do changes no answer.
func TestManyAtOnce(t *testing.T) {
	var group sync.WaitGroup
	for seed := range int64(8) {
		group.Go(func() {
			l := ledger.New()
			s := random(seed)
			want := plain(s)
			for range 50 {
				if Permute(l, s) != want || From(Bytes(s)) != s {
					t.Errorf("the state %d, beside others: another answer", seed)
				}
			}
			if l.Len() != 50 || l.Count(api.EvKeccak) != 50 {
				t.Errorf("the ledger %d, beside others: %v", seed, l.Runs())
			}
		})
	}
	group.Wait()
}

// P7.1 to P7.3, P1: at whatever state.
func FuzzPermute(f *testing.F) {
	f.Add([]byte{}, uint8(1))
	f.Add(bytes.Repeat([]byte{255}, 200), uint8(3))
	f.Fuzz(func(t *testing.T, p []byte, times uint8) {
		var b [200]byte
		copy(b[:], p)
		s := From(b)
		if Bytes(s) != b {
			t.Fatalf("there and back: %x", b)
		}
		l := ledger.New()
		want := s
		for range times % 8 {
			s, want = Permute(l, s), plain(want)
		}
		if s != want {
			t.Fatalf("Permute %d times: %x, want %x", times%8, s, want)
		}
		wantEvents(t, "Permute", l, slices.Repeat([]api.Event{permuted}, int(times%8))...)
	})
}
