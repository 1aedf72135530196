package sha256

import (
	"bytes"
	std "crypto/sha256"
	"encoding/hex"
	"math/big"
	"math/rand"
	"slices"
	"strings"
	"sync"
	"testing"

	"turnkey/api"
	"turnkey/ledger"
)

// block and wiped are the events that the calls record.
var (
	block = api.Event{Kind: api.EvSha256, Size: 64}
	wiped = api.Event{Kind: api.EvWipe, Size: 104}
	// other is an event of somebody else's, which stands in a ledger already.
	other = api.Event{Kind: api.EvOp, Size: 5}
)

// edges are the lengths that the chapter's rules turn at.
var edges = []int{0, 1, 55, 56, 57, 63, 64, 65, 119, 120, 121, 127, 128, 129, 183, 184, 191, 192, 1000}

// wantEvents holds a ledger against the events that it must have, one by one, and empties it.
func wantEvents(t *testing.T, what string, l *ledger.Ledger, want ...api.Event) {
	t.Helper()
	if got := slices.Collect(l.All()); !slices.Equal(got, want) {
		t.Fatalf("%s recorded %v, want %v", what, got, want)
	}
	l.Reset()
}

// blocks are so many events of a block.
func blocks(n int) []api.Event { return slices.Repeat([]api.Event{block}, n) }

// ofWrites is how many blocks become full by a message of m bytes.
func ofWrites(m int) int { return m / 64 }

// ofSum is how many blocks Sum records behind m bytes.
func ofSum(m int) int {
	if m%64 > 55 {
		return 2
	}
	return 1
}

// random makes n bytes, the same ones for the same seed.
func random(seed int64, n int) []byte {
	b := make([]byte, n)
	rand.New(rand.NewSource(seed)).Read(b)
	return b
}

// plain is the digest as the library of the language has it.
func plain(p []byte) []byte {
	sum := std.Sum256(p)
	return sum[:]
}

// unhex takes bytes out of a text to the base 16, with gaps.
func unhex(t *testing.T, text string) []byte {
	t.Helper()
	b, err := hex.DecodeString(strings.ReplaceAll(text, " ", ""))
	if err != nil {
		t.Fatal(err)
	}
	return b
}

// padded is a message of whole blocks: p, and what its digest puts behind it. Of that one the words are p's digest.
func padded(p []byte) []byte {
	out := append(bytes.Clone(p), 128)
	for len(out)%64 != 56 {
		out = append(out, 0)
	}
	bits := new(big.Int).Mul(big.NewInt(8), big.NewInt(int64(len(p))))
	return append(out, bits.FillBytes(make([]byte, 8))...)
}

// formOf is the form of a message: h0 to h7 are handed in, all else is reckoned.
func formOf(words, message []byte) []byte {
	form := bytes.Clone(words)
	form = append(form, big.NewInt(int64(len(message))).FillBytes(make([]byte, 8))...)
	form = append(form, message[len(message)/64*64:]...)
	return append(form, make([]byte, 104-len(form))...)
}

// write writes a piece, and must not be refused.
func write(t *testing.T, s *State, l *ledger.Ledger, p []byte) {
	t.Helper()
	if e := s.Write(l, p); e != api.OK {
		t.Fatalf("Write of %d bytes: %d", len(p), e)
	}
}

// written is a new state that took pieces.
func written(t *testing.T, pieces ...[]byte) *State {
	t.Helper()
	s := New()
	for _, p := range pieces {
		write(t, s, nil, p)
	}
	return s
}

// clone clones, and must not be refused.
func clone(t *testing.T, s *State) *State {
	t.Helper()
	c, e := s.Clone()
	if e != api.OK || c == nil || c == s {
		t.Fatalf("Clone: %p of %p, %d", c, s, e)
	}
	return c
}

// wantMessage holds all that a state tells against its message, twice: telling changes nothing.
func wantMessage(t *testing.T, s *State, message []byte) {
	t.Helper()
	l := ledger.New()
	whole := written(t, message)
	for range 2 {
		if got := s.Len(); got != len(message) {
			t.Fatalf("Len is %d, want %d", got, len(message))
		}
		if got := s.Form(); !bytes.Equal(got, whole.Form()) || !bytes.Equal(got, formOf(got[:32], message)) {
			t.Fatalf("Form of %d bytes is %x", len(message), got)
		}
		for _, l := range []*ledger.Ledger{l, nil} {
			if got, e := s.Sum(l); e != api.OK || !bytes.Equal(got, plain(message)) {
				t.Fatalf("Sum of %d bytes is %x, %d, want %x", len(message), got, e, plain(message))
			}
		}
		wantEvents(t, "Sum", l, blocks(ofSum(len(message)))...)
	}
}

// wantNone holds all calls of a state that is none against rule 4.
func wantNone(t *testing.T, what string, s *State) {
	t.Helper()
	l := ledger.New()
	l.Note(other)
	for _, l := range []*ledger.Ledger{l, nil} {
		for _, p := range [][]byte{nil, {}, {7}, make([]byte, 200)} {
			if e := s.Write(l, p); e != api.ErrNil {
				t.Errorf("%s: Write of %d bytes: %d", what, len(p), e)
			}
		}
		if got, e := s.Sum(l); len(got) != 0 || e != api.ErrNil {
			t.Errorf("%s: Sum: %x, %d", what, got, e)
		}
		if c, e := s.Clone(); c != nil || e != api.ErrNil {
			t.Errorf("%s: Clone: %v, %d", what, c, e)
		}
		if e := s.Reset(); e != api.ErrNil {
			t.Errorf("%s: Reset: %d", what, e)
		}
		if e := s.Wipe(l); e != api.ErrNil {
			t.Errorf("%s: Wipe: %d", what, e)
		}
		if got := s.Form(); len(got) != 0 {
			t.Errorf("%s: Form: %x", what, got)
		}
		if got := s.Len(); got != 0 {
			t.Errorf("%s: Len: %d", what, got)
		}
	}
	wantEvents(t, what, l, other)
}

// firstPrimes are the first n primes.
func firstPrimes(n int) []int64 {
	var primes []int64
	for x := int64(2); len(primes) < n; x++ {
		if !slices.ContainsFunc(primes, func(p int64) bool { return x%p == 0 }) {
			primes = append(primes, x)
		}
	}
	return primes
}

// rootBits are the first 32 bits behind the point of the root of that degree: the greatest x with x^degree <= p 2^(32 degree), its lower half.
func rootBits(p, degree int64) uint32 {
	under := new(big.Int).Lsh(big.NewInt(p), uint(32*degree))
	x := new(big.Int)
	for bit := 40; bit >= 0; bit-- {
		x.SetBit(x, bit, 1)
		if new(big.Int).Exp(x, big.NewInt(degree), nil).Cmp(under) > 0 {
			x.SetBit(x, bit, 0)
		}
	}
	return uint32(x.Uint64())
}

func TestTheWordsAreBitsOfRoots(t *testing.T) { // the chapter's words
	primes := firstPrimes(64)
	if primes[63] != 311 {
		t.Fatal("the last prime is", primes[63])
	}
	for i, p := range primes {
		if want := rootBits(p, 3); k[i] != want {
			t.Errorf("k[%d] = %08x, want %08x", i, k[i], want)
		}
	}
	for i, p := range primes[:8] {
		if got, want := New().words[i], rootBits(p, 2); got != want {
			t.Errorf("h%d begins as %08x, want %08x", i, got, want)
		}
	}
}

func TestExamplesOfSum(t *testing.T) { // P5.1: the chapter's, and DOC.md's first
	for _, c := range []struct {
		message, digest string
		events          int
	}{
		{"", "e3b0c442 98fc1c14 9afbf4c8 996fb924 27ae41e4 649b934c a495991b 7852b855", 1},
		{"abc", "ba7816bf 8f01cfea 414140de 5dae2223 b00361a3 96177a9c b410ff61 f20015ad", 1},
		{"abcdbcdecdefdefgefghfghighijhijkijkljklmklmnlmnomnopnopq", "248d6a61 d20638b8 e5c02693 0c3e6039 a33ce459 64ff2167 f6ecedd4 19db06c1", 2},
	} {
		l := ledger.New()
		if got := Sum(l, []byte(c.message)); !bytes.Equal(got, unhex(t, c.digest)) {
			t.Errorf("Sum of %q = %x, want %s", c.message, got, c.digest)
		}
		wantEvents(t, "Sum of "+c.message, l, blocks(c.events)...)
	}
}

func TestExamplesOfAState(t *testing.T) { // P5.1, P5.2: the chapter's
	l, s := ledger.New(), New()
	for _, c := range []struct{ length, events int }{{63, 0}, {1, 1}, {65, 1}} {
		write(t, s, l, make([]byte, c.length))
		wantEvents(t, "Write", l, blocks(c.events)...)
	}
	if s.Len() != 129 {
		t.Error("Len is", s.Len())
	}
	if got, e := s.Sum(l); e != api.OK || !bytes.Equal(got, plain(make([]byte, 129))) {
		t.Errorf("Sum: %x, %d", got, e)
	}
	wantEvents(t, "Sum", l, block)
	want := append(unhex(t, "6a09e667 bb67ae85 3c6ef372 a54ff53a 510e527f 9b05688c 1f83d9ab 5be0cd19"), make([]byte, 72)...)
	if got := New().Form(); !bytes.Equal(got, want) {
		t.Errorf("Form of New is %x", got)
	}
}

func TestSumOfAllShortMessages(t *testing.T) { // P5.1
	p := random(51, 700)
	for n := range len(p) + 1 {
		message := p[:n]
		l := ledger.New()
		if got := Sum(l, message); !bytes.Equal(got, plain(message)) {
			t.Fatalf("Sum of %d bytes = %x, want %x", n, got, plain(message))
		}
		wantEvents(t, "Sum", l, blocks(ofWrites(n)+ofSum(n))...)
		if got := Sum(nil, message); !bytes.Equal(got, plain(message)) {
			t.Fatalf("Sum of %d bytes without a ledger = %x", n, got)
		}
		s := New()
		write(t, s, l, message)
		wantEvents(t, "Write", l, blocks(ofWrites(n))...)
		wantMessage(t, s, message)
	}
}

func TestSumOfManyLooks(t *testing.T) { // P5.1: sums that wrap round, and words of all bits
	for _, n := range edges {
		for _, fill := range []byte{0, 1, 127, 128, 255} {
			p := bytes.Repeat([]byte{fill}, n)
			if got := Sum(nil, p); !bytes.Equal(got, plain(p)) {
				t.Errorf("Sum of %d times %d = %x", n, fill, got)
			}
		}
	}
}

func TestSumOfLongMessages(t *testing.T) { // P5.1: lengths of several bytes
	for _, n := range []int{8191, 8192, 65535, 65536, 1 << 20, 1<<21 + 63} {
		p := random(int64(n), n)
		l := ledger.New()
		if got := Sum(l, p); !bytes.Equal(got, plain(p)) {
			t.Errorf("Sum of %d bytes = %x", n, got)
		}
		if want := []api.Run{{Event: block, Count: ofWrites(n) + ofSum(n)}}; !ledger.Same(l.Runs(), want) {
			t.Errorf("Sum of %d bytes recorded %v", n, l.Runs())
		}
	}
}

func TestEmptyAndNilAreTheSame(t *testing.T) { // P5.1, P5.3; DOC.md's words
	l := ledger.New()
	room := []byte{1, 2, 3}
	for _, none := range [][]byte{nil, {}, room[:0], room[1:1]} {
		if got := Sum(nil, none); !bytes.Equal(got, plain(nil)) {
			t.Errorf("Sum of none = %x", got)
		}
		for _, n := range edges {
			message := random(52, n)
			s := written(t, message)
			write(t, s, l, none)
			wantEvents(t, "Write of none", l)
			wantMessage(t, s, message)
		}
	}
}

func TestStateGoesOnBehindSum(t *testing.T) { // P5.1: the state stays as it is
	p := random(53, 400)
	s, l := New(), ledger.New()
	for i := range p {
		if got, e := s.Sum(nil); e != api.OK || !bytes.Equal(got, plain(p[:i])) {
			t.Fatalf("Sum of %d bytes = %x, %d", i, got, e)
		}
		write(t, s, l, p[i:i+1])
		wantEvents(t, "Write of a byte", l, blocks(ofWrites(i+1)-ofWrites(i))...)
	}
	wantMessage(t, s, p)
}

func TestTellingLeavesTheState(t *testing.T) { // P5.1, P5.2, rule 5
	for _, n := range edges {
		s := written(t, random(54, n))
		was := *s
		s.Sum(nil)
		s.Form()
		s.Len()
		s.Clone()
		if *s != was {
			t.Errorf("%d bytes: the state has changed", n)
		}
	}
}

func TestFormHasTheWordsBehindWholeBlocks(t *testing.T) { // P5.2, the chapter's words
	tail := random(55, 63)
	for n := range 300 {
		p := random(int64(n), n)
		for _, more := range []int{0, 1, 55, 56, 63, n % 64} {
			message := append(padded(p), tail[:more]...)
			if got, want := written(t, message).Form(), formOf(plain(p), message); !bytes.Equal(got, want) {
				t.Fatalf("Form of %d bytes is\n%x, want\n%x", len(message), got, want)
			}
		}
	}
}

func TestFormHasNoughtsWhereNothingWaits(t *testing.T) { // P5.2: no byte of an earlier block is left
	for n := range 200 {
		s := written(t, bytes.Repeat([]byte{0xee}, n))
		if got := s.Form()[40+n%64:]; !bytes.Equal(got, make([]byte, 64-n%64)) {
			t.Errorf("Form of %d bytes ends with %x", n, got)
		}
		if got := s.waiting[n%64:]; !bytes.Equal(got, make([]byte, 64-n%64)) {
			t.Errorf("%d bytes: the memory ends with %x", n, got)
		}
	}
}

func TestLen(t *testing.T) { // P5.2
	s, sum := New(), 0
	for _, n := range append(edges, 70000, 0, 1) {
		write(t, s, nil, make([]byte, n))
		if sum += n; s.Len() != sum {
			t.Errorf("Len is %d, want %d", s.Len(), sum)
		}
	}
}

func TestReset(t *testing.T) { // P5.2
	for _, n := range edges {
		s, l := written(t, random(56, n)), ledger.New()
		for range 2 {
			if e := s.Reset(); e != api.OK {
				t.Fatal("Reset:", e)
			}
			if *s != *New() {
				t.Errorf("%d bytes: behind Reset the state is not as New makes it", n)
			}
			wantMessage(t, s, nil)
		}
		message := random(57, n)
		write(t, s, l, message)
		wantEvents(t, "Write", l, blocks(ofWrites(n))...)
		wantMessage(t, s, message)
	}
}

func TestWipe(t *testing.T) { // P5.2, rule 4
	for _, n := range edges {
		for _, l := range []*ledger.Ledger{ledger.New(), nil} {
			s := written(t, random(58, n))
			if e := s.Wipe(l); e != api.OK {
				t.Fatal("Wipe:", e)
			}
			if l != nil {
				wantEvents(t, "Wipe", l, wiped)
			}
			if *s != (State{}) {
				t.Errorf("%d bytes: the memory of a wiped state is no noughts", n)
			}
			wantNone(t, "wiped", s)
			if *s != (State{}) {
				t.Errorf("%d bytes: a wiped state took something", n)
			}
		}
	}
}

func TestStatesThatAreNone(t *testing.T) { // P1, rule 2, rule 4
	wantNone(t, "nil", nil)
	wantNone(t, "new(State)", new(State))
	var zero State
	wantNone(t, "the zero State", &zero)
	reset := written(t, []byte{1})
	reset.Reset()
	reset.Wipe(nil)
	wantNone(t, "reset and wiped", reset)
	copied := clone(t, written(t, []byte{1}))
	copied.Wipe(nil)
	wantNone(t, "a clone that was wiped", copied)
}

func TestInEveryTwoAndThreePieces(t *testing.T) { // P5.3
	p := random(59, 200)
	for _, n := range []int{0, 1, 55, 56, 63, 64, 65, 119, 120, 128, 129, 200} {
		message := p[:n]
		want := written(t, message).Form()
		for i := range n + 1 {
			for j := i; j <= n; j += 1 + j%5 {
				l, s := ledger.New(), New()
				for _, piece := range [][]byte{message[:i], message[i:j], nil, message[j:], {}} {
					was := s.Len()
					write(t, s, l, piece)
					wantEvents(t, "Write", l, blocks(ofWrites(was+len(piece))-ofWrites(was))...)
				}
				if got := s.Form(); !bytes.Equal(got, want) {
					t.Fatalf("%d bytes cut at %d and %d have the form %x", n, i, j, got)
				}
				if got, e := s.Sum(nil); e != api.OK || !bytes.Equal(got, plain(message)) {
					t.Fatalf("%d bytes cut at %d and %d have the digest %x, %d", n, i, j, got, e)
				}
			}
		}
	}
}

func TestInPiecesOfOneLength(t *testing.T) { // P5.3
	message := random(60, 1000)
	for size := 1; size <= 200; size++ {
		l, s := ledger.New(), New()
		for piece := range slices.Chunk(message, size) {
			write(t, s, l, piece)
		}
		wantEvents(t, "all Writes", l, blocks(ofWrites(len(message)))...)
		wantMessage(t, s, message)
		if *s != *written(t, message) {
			t.Errorf("in pieces of %d the memory is another one", size)
		}
	}
}

func TestCloneAndElderGoOnApart(t *testing.T) { // P5.2, P5.4
	for _, n := range edges {
		for _, more := range edges {
			message, first, second := random(61, n), random(62, more), random(63, more+1)
			elder := written(t, message)
			younger := clone(t, elder)
			wantMessage(t, younger, message)
			write(t, elder, nil, first)
			wantMessage(t, younger, message)
			write(t, younger, nil, second)
			wantMessage(t, elder, slices.Concat(message, first))
			wantMessage(t, younger, slices.Concat(message, second))
		}
	}
}

func TestCloneOutlivesItsElder(t *testing.T) { // P5.4
	for _, n := range edges {
		message := random(64, n)
		elder := written(t, message)
		younger := clone(t, elder)
		third := clone(t, younger)
		elder.Reset()
		wantMessage(t, younger, message)
		elder.Wipe(nil)
		wantMessage(t, younger, message)
		younger.Wipe(nil)
		wantMessage(t, third, message)
		wantNone(t, "elder", elder)
		wantNone(t, "younger", younger)
	}
}

func TestNewStatesAreEachByItself(t *testing.T) { // P5.4: no memory is shared by what New makes
	var states [5]*State
	var messages [5][]byte
	for i := range states {
		states[i] = New()
	}
	r := rand.New(rand.NewSource(65))
	for range 300 {
		i := r.Intn(len(states))
		piece := random(r.Int63(), r.Intn(90))
		write(t, states[i], nil, piece)
		messages[i] = append(messages[i], piece...)
	}
	states[4].Wipe(nil)
	for i, s := range states[:4] {
		wantMessage(t, s, messages[i])
	}
	wantMessage(t, New(), nil)
}

func TestStatesInGoroutines(t *testing.T) { // P5.4, rules 6, 7
	var wait sync.WaitGroup
	for i := range 8 {
		wait.Go(func() {
			message := random(int64(i), 5000+i)
			s := New()
			for piece := range slices.Chunk(message, 17+i) {
				s.Write(nil, piece)
			}
			if got, e := s.Sum(nil); e != api.OK || !bytes.Equal(got, plain(message)) {
				t.Errorf("goroutine %d: %x, %d", i, got, e)
			}
		})
	}
	wait.Wait()
}

// overwrite writes over a list and over its spare room.
func overwrite(b []byte) {
	for i := range b[:cap(b)] {
		b[:cap(b)][i] = 0x99
	}
}

func TestAnswersAreNew(t *testing.T) { // P5.4, rule 3
	for _, n := range edges {
		message := random(66, n)
		s := written(t, message)
		tell := func() [][]byte {
			digest, _ := s.Sum(nil)
			return [][]byte{digest, s.Form(), Sum(nil, message)}
		}
		first, second := tell(), tell()
		for i, answer := range first {
			want := bytes.Clone(second[i])
			for _, x := range answer[len(answer):cap(answer)] {
				if x != 0 {
					t.Errorf("%d bytes: the spare room of answer %d has %d", n, i, x)
				}
			}
			overwrite(answer)
			if !bytes.Equal(second[i], want) || !bytes.Equal(tell()[i], want) {
				t.Errorf("%d bytes: answer %d that was written over shows elsewhere", n, i)
			}
		}
		wantMessage(t, s, message)
		// Nor does an answer change with what is called later.
		want := bytes.Clone(second[1])
		write(t, s, nil, []byte("and so on, for more than a block of bytes, so that the words change too"))
		s.Reset()
		s.Wipe(nil)
		if !bytes.Equal(second[1], want) || !bytes.Equal(second[0], plain(message)) {
			t.Errorf("%d bytes: an answer has changed", n)
		}
	}
}

func TestPiecesAreNotKept(t *testing.T) { // P5.4, rule 3
	for _, n := range edges {
		message := random(67, n)
		whole := slices.Concat([]byte{91, 92}, message, []byte{93, 94, 95})
		piece, was := whole[2:2+n], bytes.Clone(whole)
		s := written(t, piece[:n/2], piece[n/2:])
		Sum(nil, piece)
		wantMessage(t, s, message)
		if !bytes.Equal(whole, was) {
			t.Errorf("%d bytes: what was handed in has changed", n)
		}
		// Written over behind the calls: nothing looks at it again.
		overwrite(whole)
		wantMessage(t, s, message)
		write(t, s, nil, []byte("more"))
		wantMessage(t, s, append(message, "more"...))
	}
}

func TestLedgerHangsOnLengths(t *testing.T) { // P5.3, rule 9
	for _, n := range edges {
		for _, message := range [][]byte{make([]byte, n), bytes.Repeat([]byte{255}, n), random(68, n)} {
			l, s := ledger.New(), New()
			write(t, s, l, message)
			s.Sum(l)
			Sum(l, message)
			s.Wipe(l)
			want := blocks(2 * (ofWrites(n) + ofSum(n)))
			wantEvents(t, "all calls", l, append(want, wiped)...)
		}
	}
}

func TestRecordedBehindAllOthers(t *testing.T) { // rule 5; the zero Ledger is one, too
	var l ledger.Ledger
	l.Note(other)
	s := New()
	write(t, s, &l, make([]byte, 130))
	l.Note(other)
	s.Sum(&l)
	l.Note(other)
	Sum(&l, make([]byte, 60))
	s.Wipe(&l)
	l.Note(other)
	wantEvents(t, "four calls", &l, other, block, block, other, block, other, block, block, wiped, other)
}

func FuzzInPieces(f *testing.F) { // P1, P5.1, P5.3
	f.Add([]byte{}, []byte{})
	f.Add([]byte("abc"), []byte{1, 0, 1})
	f.Add(make([]byte, 129), []byte{63, 1, 65})
	f.Add(bytes.Repeat([]byte{255}, 120), []byte{55, 64})
	f.Fuzz(func(t *testing.T, message, cuts []byte) {
		l, s, rest := ledger.New(), New(), message
		for _, cut := range cuts {
			n := min(int(cut), len(rest))
			write(t, s, l, rest[:n])
			rest = rest[n:]
		}
		write(t, s, l, rest)
		if l.Len() != ofWrites(len(message)) || l.Count(api.EvSha256) != l.Len() {
			t.Fatalf("%d bytes recorded %v", len(message), l.Runs())
		}
		wantMessage(t, s, message)
		if got := Sum(nil, message); !bytes.Equal(got, plain(message)) {
			t.Fatalf("Sum = %x", got)
		}
	})
}
