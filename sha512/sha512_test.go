package sha512

import (
	"bytes"
	std "crypto/sha512"
	"encoding/hex"
	"math/big"
	"math/rand"
	"slices"
	"strings"
	"sync"
	"testing"

	"turnkey/api"
	"turnkey/ledger"
)

// block and wiped are the events that the calls record.
var (
	block = api.Event{Kind: api.EvSha512, Size: 128}
	wiped = api.Event{Kind: api.EvWipe, Size: 200}
	// other is an event of somebody else's, which stands in a ledger already.
	other = api.Event{Kind: api.EvOp, Size: 5}
)

// edges are the lengths that the chapter's rules turn at.
var edges = []int{0, 1, 63, 64, 111, 112, 113, 127, 128, 129, 239, 240, 241, 255, 256, 257, 367, 368, 383, 384, 1000}

// wantEvents holds a ledger against the events that it must have, one by one, and empties it.
func wantEvents(t *testing.T, what string, l *ledger.Ledger, want ...api.Event) {
	t.Helper()
	if got := slices.Collect(l.All()); !slices.Equal(got, want) {
		t.Fatalf("%s recorded %v, want %v", what, got, want)
	}
	l.Reset()
}

// blocks are so many events of a block.
func blocks(n int) []api.Event { return slices.Repeat([]api.Event{block}, n) }

// ofWrites is how many blocks become full by a message of m bytes.
func ofWrites(m int) int { return m / 128 }

// ofSum is how many blocks Sum records behind m bytes.
func ofSum(m int) int {
	if m%128 >= 112 {
		return 2
	}
	return 1
}

// random makes n bytes, the same ones for the same seed.
func random(seed int64, n int) []byte {
	b := make([]byte, n)
	rand.New(rand.NewSource(seed)).Read(b)
	return b
}

// plain is the digest as the library of the language has it.
func plain(p []byte) []byte {
	sum := std.Sum512(p)
	return sum[:]
}

// unhex takes bytes out of a text to the base 16, with gaps.
func unhex(t *testing.T, text string) []byte {
	t.Helper()
	b, err := hex.DecodeString(strings.ReplaceAll(text, " ", ""))
	if err != nil {
		t.Fatal(err)
	}
	return b
}

// padded is a message of whole blocks: p, and what its digest puts behind it. Of that one the words are p's digest.
func padded(p []byte) []byte {
	out := append(bytes.Clone(p), 128)
	for len(out)%128 != 112 {
		out = append(out, 0)
	}
	bits := new(big.Int).Mul(big.NewInt(8), big.NewInt(int64(len(p))))
	return append(out, bits.FillBytes(make([]byte, 16))...)
}

// formOf is the form of a message: h0 to h7 are handed in, all else is reckoned.
func formOf(words, message []byte) []byte {
	form := bytes.Clone(words)
	form = append(form, big.NewInt(int64(len(message))).FillBytes(make([]byte, 8))...)
	form = append(form, message[len(message)/128*128:]...)
	return append(form, make([]byte, 200-len(form))...)
}

// write writes a piece, and must not be refused.
func write(t *testing.T, s *State, l *ledger.Ledger, p []byte) {
	t.Helper()
	if e := s.Write(l, p); e != api.OK {
		t.Fatalf("Write of %d bytes: %d", len(p), e)
	}
}

// written is a new state that took pieces.
func written(t *testing.T, pieces ...[]byte) *State {
	t.Helper()
	s := New()
	for _, p := range pieces {
		write(t, s, nil, p)
	}
	return s
}

// clone clones, and must not be refused.
func clone(t *testing.T, s *State) *State {
	t.Helper()
	c, e := s.Clone()
	if e != api.OK || c == nil || c == s {
		t.Fatalf("Clone: %p of %p, %d", c, s, e)
	}
	return c
}

// wantMessage holds all that a state tells against its message, twice: telling changes nothing.
func wantMessage(t *testing.T, s *State, message []byte) {
	t.Helper()
	l := ledger.New()
	whole := written(t, message)
	for range 2 {
		if got := s.Len(); got != len(message) {
			t.Fatalf("Len is %d, want %d", got, len(message))
		}
		if got := s.Form(); !bytes.Equal(got, whole.Form()) || !bytes.Equal(got, formOf(got[:64], message)) {
			t.Fatalf("Form of %d bytes is %x", len(message), got)
		}
		for _, l := range []*ledger.Ledger{l, nil} {
			if got, e := s.Sum(l); e != api.OK || !bytes.Equal(got, plain(message)) {
				t.Fatalf("Sum of %d bytes is %x, %d, want %x", len(message), got, e, plain(message))
			}
		}
		wantEvents(t, "Sum", l, blocks(ofSum(len(message)))...)
	}
}

// wantNone holds all calls of a state that is none against rule 4.
func wantNone(t *testing.T, what string, s *State) {
	t.Helper()
	l := ledger.New()
	l.Note(other)
	for _, l := range []*ledger.Ledger{l, nil} {
		for _, p := range [][]byte{nil, {}, {7}, make([]byte, 300)} {
			if e := s.Write(l, p); e != api.ErrNil {
				t.Errorf("%s: Write of %d bytes: %d", what, len(p), e)
			}
		}
		if got, e := s.Sum(l); len(got) != 0 || e != api.ErrNil {
			t.Errorf("%s: Sum: %x, %d", what, got, e)
		}
		if c, e := s.Clone(); c != nil || e != api.ErrNil {
			t.Errorf("%s: Clone: %v, %d", what, c, e)
		}
		if e := s.Reset(); e != api.ErrNil {
			t.Errorf("%s: Reset: %d", what, e)
		}
		if e := s.Wipe(l); e != api.ErrNil {
			t.Errorf("%s: Wipe: %d", what, e)
		}
		if got := s.Form(); len(got) != 0 {
			t.Errorf("%s: Form: %x", what, got)
		}
		if got := s.Len(); got != 0 {
			t.Errorf("%s: Len: %d", what, got)
		}
	}
	wantEvents(t, what, l, other)
}

// firstPrimes are the first n primes.
func firstPrimes(n int) []int64 {
	var primes []int64
	for x := int64(2); len(primes) < n; x++ {
		if !slices.ContainsFunc(primes, func(p int64) bool { return x%p == 0 }) {
			primes = append(primes, x)
		}
	}
	return primes
}

// rootBits are the first 64 bits behind the point of the root of that degree: the greatest x with x^degree <= p 2^(64 degree), its lower bits.
func rootBits(p, degree int64) uint64 {
	under := new(big.Int).Lsh(big.NewInt(p), uint(64*degree))
	x := new(big.Int)
	for bit := 72; bit >= 0; bit-- {
		x.SetBit(x, bit, 1)
		if new(big.Int).Exp(x, big.NewInt(degree), nil).Cmp(under) > 0 {
			x.SetBit(x, bit, 0)
		}
	}
	whole := new(big.Int).Lsh(big.NewInt(1), 64)
	return x.Mod(x, whole).Uint64()
}

func TestTheWordsAreBitsOfRoots(t *testing.T) { // the chapter's words
	primes := firstPrimes(80)
	if primes[79] != 409 {
		t.Fatal("the last prime is", primes[79])
	}
	for i, p := range primes {
		if want := rootBits(p, 3); k[i] != want {
			t.Errorf("k[%d] = %016x, want %016x", i, k[i], want)
		}
	}
	for i, p := range primes[:8] {
		if got, want := New().words[i], rootBits(p, 2); got != want {
			t.Errorf("h%d begins as %016x, want %016x", i, got, want)
		}
	}
}

func TestExamplesOfSum(t *testing.T) { // P6.1, P6.2: the chapter's
	for _, c := range []struct {
		message, head, tail string
		ofWrite, ofSum      int
	}{
		{"", "cf83e1357eefb8bd f1542850d66d8007", "a538327af927da3e", 0, 1},
		{"abc", "ddaf35a193617aba cc417349ae204131 12e6fa4e89a97ea2 0a9eeee64b55d39a", "2192992a274fc1a8 36ba3c23a3feebbd 454d4423643ce80e 2a9ac94fa54ca49f", 0, 1},
		{strings.Repeat("\x00", 111), "77ddd3a542e530fd", "", 0, 1},
		{strings.Repeat("\x00", 112), "2be2e788c8a8adea", "", 0, 2},
		{strings.Repeat("\x00", 127), "876fee26a8dc66d6", "", 0, 2},
		{strings.Repeat("\x00", 128), "ab942f526272e456", "", 1, 1},
		{strings.Repeat("\x00", 129), "b1f542f68a48608a", "", 1, 1},
	} {
		head, tail := unhex(t, c.head), unhex(t, c.tail)
		isIt := func(sum []byte) bool {
			return len(sum) == 64 && bytes.HasPrefix(sum, head) && bytes.HasSuffix(sum, tail)
		}
		l, s := ledger.New(), New()
		write(t, s, l, []byte(c.message))
		wantEvents(t, "Write", l, blocks(c.ofWrite)...)
		if got, e := s.Sum(l); e != api.OK || !isIt(got) {
			t.Errorf("Sum of a state with %q = %x, %d", c.message, got, e)
		}
		wantEvents(t, "Sum of a state", l, blocks(c.ofSum)...)
		if got := Sum(l, []byte(c.message)); !isIt(got) {
			t.Errorf("Sum of %q = %x", c.message, got)
		}
		wantEvents(t, "Sum", l, blocks(c.ofWrite+c.ofSum)...)
	}
}

func TestExamplesOfForm(t *testing.T) { // P6.4: the chapter's
	words := unhex(t, "6a09e667f3bcc908 bb67ae8584caa73b 3c6ef372fe94f82b a54ff53a5f1d36f1 510e527fade682d1 9b05688c2b3e6c1f 1f83d9abfb41bd6b 5be0cd19137e2179")
	s := New()
	if got := s.Form(); !bytes.Equal(got, append(bytes.Clone(words), make([]byte, 136)...)) {
		t.Errorf("Form of the empty message is %x", got)
	}
	write(t, s, nil, []byte("abc"))
	want := slices.Concat(words, []byte{0, 0, 0, 0, 0, 0, 0, 3, 97, 98, 99}, make([]byte, 125))
	if got := s.Form(); !bytes.Equal(got, want) || len(got) != 200 {
		t.Errorf("Form of abc is %x", got)
	}
}

func TestEndingTellsTheBitsInSixteenBytes(t *testing.T) { // the chapter's words
	for _, length := range []uint64{0, 1, 3, 111, 112, 127, 128, 1<<31 - 1, 1<<61 - 1, 1 << 61, 1<<64 - 1} {
		bits := new(big.Int).SetUint64(length)
		bits.Mul(bits, big.NewInt(8))
		got := ending(length)
		noughts := len(got) - 17
		if (length+uint64(len(got)))%128 != 0 || noughts < 0 || noughts > 127 || got[0] != 128 {
			t.Fatalf("behind %d bytes stand %x", length, got)
		}
		if want := bits.FillBytes(make([]byte, 16+noughts)); !bytes.Equal(got[1:], want) {
			t.Errorf("behind %d bytes stand %x, want %x", length, got[1:], want)
		}
	}
}

func TestSumOfAllShortMessages(t *testing.T) { // P6.1, P6.2
	p := random(51, 700)
	for n := range len(p) + 1 {
		message := p[:n]
		l := ledger.New()
		if got := Sum(l, message); !bytes.Equal(got, plain(message)) {
			t.Fatalf("Sum of %d bytes = %x, want %x", n, got, plain(message))
		}
		wantEvents(t, "Sum", l, blocks(ofWrites(n)+ofSum(n))...)
		if got := Sum(nil, message); !bytes.Equal(got, plain(message)) {
			t.Fatalf("Sum of %d bytes without a ledger = %x", n, got)
		}
		s := New()
		write(t, s, l, message)
		wantEvents(t, "Write", l, blocks(ofWrites(n))...)
		wantMessage(t, s, message)
	}
}

func TestSumOfManyLooks(t *testing.T) { // P6.2: sums that wrap round, and words of all bits
	for _, n := range edges {
		for _, fill := range []byte{0, 1, 127, 128, 255} {
			p := bytes.Repeat([]byte{fill}, n)
			if got := Sum(nil, p); !bytes.Equal(got, plain(p)) {
				t.Errorf("Sum of %d times %d = %x", n, fill, got)
			}
		}
	}
}

func TestSumOfLongMessages(t *testing.T) { // P6.2: lengths of several bytes
	for _, n := range []int{8191, 8192, 65535, 65536, 1 << 20, 1<<21 + 127} {
		p := random(int64(n), n)
		l := ledger.New()
		if got := Sum(l, p); !bytes.Equal(got, plain(p)) {
			t.Errorf("Sum of %d bytes = %x", n, got)
		}
		if want := []api.Run{{Event: block, Count: ofWrites(n) + ofSum(n)}}; !ledger.Same(l.Runs(), want) {
			t.Errorf("Sum of %d bytes recorded %v", n, l.Runs())
		}
	}
}

func TestEmptyAndNilAreTheSame(t *testing.T) { // P6.1, P6.2, P6.6; DOC.md's words
	l := ledger.New()
	room := []byte{1, 2, 3}
	for _, none := range [][]byte{nil, {}, room[:0], room[1:1]} {
		if got := Sum(nil, none); !bytes.Equal(got, plain(nil)) {
			t.Errorf("Sum of none = %x", got)
		}
		for _, n := range edges {
			message := random(52, n)
			s := written(t, message)
			write(t, s, l, none)
			wantEvents(t, "Write of none", l)
			wantMessage(t, s, message)
		}
	}
}

func TestStateGoesOnBehindSum(t *testing.T) { // P6.2: the state stays
	p := random(53, 400)
	s, l := New(), ledger.New()
	for i := range p {
		if got, e := s.Sum(nil); e != api.OK || !bytes.Equal(got, plain(p[:i])) {
			t.Fatalf("Sum of %d bytes = %x, %d", i, got, e)
		}
		write(t, s, l, p[i:i+1])
		wantEvents(t, "Write of a byte", l, blocks(ofWrites(i+1)-ofWrites(i))...)
	}
	wantMessage(t, s, p)
}

func TestTellingLeavesTheState(t *testing.T) { // P6.2, P6.3, P6.4, rule 5
	for _, n := range edges {
		s := written(t, random(54, n))
		was := *s
		s.Sum(nil)
		s.Form()
		s.Len()
		s.Clone()
		if *s != was {
			t.Errorf("%d bytes: the state has changed", n)
		}
	}
}

func TestFormHasTheWordsBehindWholeBlocks(t *testing.T) { // P6.4, the chapter's words
	tail := random(55, 127)
	for n := range 300 {
		p := random(int64(n), n)
		for _, more := range []int{0, 1, 111, 112, 127, n % 128} {
			message := append(padded(p), tail[:more]...)
			if got, want := written(t, message).Form(), formOf(plain(p), message); !bytes.Equal(got, want) {
				t.Fatalf("Form of %d bytes is\n%x, want\n%x", len(message), got, want)
			}
		}
	}
}

func TestFormHasNoughtsWhereNothingWaits(t *testing.T) { // P6.4: no byte of an earlier block is left
	for n := range 400 {
		s := written(t, bytes.Repeat([]byte{0xee}, n))
		if got := s.Form()[72+n%128:]; !bytes.Equal(got, make([]byte, 128-n%128)) {
			t.Errorf("Form of %d bytes ends with %x", n, got)
		}
		if got := s.waiting[n%128:]; !bytes.Equal(got, make([]byte, 128-n%128)) {
			t.Errorf("%d bytes: the memory ends with %x", n, got)
		}
	}
}

func TestLen(t *testing.T) { // P6.4
	s, sum := New(), 0
	for _, n := range append(edges, 70000, 0, 1) {
		write(t, s, nil, make([]byte, n))
		if sum += n; s.Len() != sum {
			t.Errorf("Len is %d, want %d", s.Len(), sum)
		}
	}
}

func TestReset(t *testing.T) { // P6.3
	for _, n := range edges {
		s, l := written(t, random(56, n)), ledger.New()
		for range 2 {
			if e := s.Reset(); e != api.OK {
				t.Fatal("Reset:", e)
			}
			if *s != *New() {
				t.Errorf("%d bytes: behind Reset the state is not as New makes it", n)
			}
			wantMessage(t, s, nil)
		}
		message := random(57, n)
		write(t, s, l, message)
		wantEvents(t, "Write", l, blocks(ofWrites(n))...)
		wantMessage(t, s, message)
	}
}

func TestWipe(t *testing.T) { // P6.5, rule 4
	for _, n := range edges {
		for _, l := range []*ledger.Ledger{ledger.New(), nil} {
			s := written(t, random(58, n))
			if e := s.Wipe(l); e != api.OK {
				t.Fatal("Wipe:", e)
			}
			if l != nil {
				wantEvents(t, "Wipe", l, wiped)
			}
			if *s != (State{}) {
				t.Errorf("%d bytes: the memory of a wiped state is no noughts", n)
			}
			wantNone(t, "wiped", s)
			if *s != (State{}) {
				t.Errorf("%d bytes: a wiped state took something", n)
			}
		}
	}
}

func TestStatesThatAreNone(t *testing.T) { // P1, rule 2, rule 4
	wantNone(t, "nil", nil)
	wantNone(t, "new(State)", new(State))
	var zero State
	wantNone(t, "the zero State", &zero)
	reset := written(t, []byte{1})
	reset.Reset()
	reset.Wipe(nil)
	wantNone(t, "reset and wiped", reset)
	copied := clone(t, written(t, []byte{1}))
	copied.Wipe(nil)
	wantNone(t, "a clone that was wiped", copied)
}

func TestInEveryTwoAndThreePieces(t *testing.T) { // P6.6
	p := random(59, 400)
	for _, n := range []int{0, 1, 111, 112, 127, 128, 129, 239, 240, 256, 257, 400} {
		message := p[:n]
		want := written(t, message).Form()
		for i := range n + 1 {
			for j := i; j <= n; j += 1 + j%7 {
				l, s := ledger.New(), New()
				for _, piece := range [][]byte{message[:i], message[i:j], nil, message[j:], {}} {
					was := s.Len()
					write(t, s, l, piece)
					wantEvents(t, "Write", l, blocks(ofWrites(was+len(piece))-ofWrites(was))...)
				}
				if got := s.Form(); !bytes.Equal(got, want) {
					t.Fatalf("%d bytes cut at %d and %d have the form %x", n, i, j, got)
				}
				if got, e := s.Sum(nil); e != api.OK || !bytes.Equal(got, plain(message)) {
					t.Fatalf("%d bytes cut at %d and %d have the digest %x, %d", n, i, j, got, e)
				}
			}
		}
	}
}

func TestInPiecesOfOneLength(t *testing.T) { // P6.6
	message := random(60, 1000)
	for size := 1; size <= 300; size++ {
		l, s := ledger.New(), New()
		for piece := range slices.Chunk(message, size) {
			write(t, s, l, piece)
		}
		wantEvents(t, "all Writes", l, blocks(ofWrites(len(message)))...)
		wantMessage(t, s, message)
		if *s != *written(t, message) {
			t.Errorf("in pieces of %d the memory is another one", size)
		}
	}
}

func TestCloneAndElderGoOnApart(t *testing.T) { // P6.3, P6.6
	for _, n := range edges {
		for _, more := range edges {
			message, first, second := random(61, n), random(62, more), random(63, more+1)
			elder := written(t, message)
			younger := clone(t, elder)
			wantMessage(t, younger, message)
			write(t, elder, nil, first)
			wantMessage(t, younger, message)
			write(t, younger, nil, second)
			wantMessage(t, elder, slices.Concat(message, first))
			wantMessage(t, younger, slices.Concat(message, second))
		}
	}
}

func TestCloneOutlivesItsElder(t *testing.T) { // P6.3, P6.6
	for _, n := range edges {
		message := random(64, n)
		elder := written(t, message)
		younger := clone(t, elder)
		third := clone(t, younger)
		elder.Reset()
		wantMessage(t, younger, message)
		elder.Wipe(nil)
		wantMessage(t, younger, message)
		younger.Wipe(nil)
		wantMessage(t, third, message)
		wantNone(t, "elder", elder)
		wantNone(t, "younger", younger)
	}
}

func TestNewStatesAreEachByItself(t *testing.T) { // P6.1, rule 7: no memory is shared by what New makes
	var states [5]*State
	var messages [5][]byte
	for i := range states {
		states[i] = New()
	}
	r := rand.New(rand.NewSource(65))
	for range 300 {
		i := r.Intn(len(states))
		piece := random(r.Int63(), r.Intn(300))
		write(t, states[i], nil, piece)
		messages[i] = append(messages[i], piece...)
	}
	states[4].Wipe(nil)
	for i, s := range states[:4] {
		wantMessage(t, s, messages[i])
	}
	wantMessage(t, New(), nil)
}

func TestStatesInGoroutines(t *testing.T) { // rules 6, 7
	var wait sync.WaitGroup
	for i := range 8 {
		wait.Go(func() {
			message := random(int64(i), 5000+i)
			s := New()
			for piece := range slices.Chunk(message, 17+i) {
				s.Write(nil, piece)
			}
			if got, e := s.Sum(nil); e != api.OK || !bytes.Equal(got, plain(message)) {
				t.Errorf("goroutine %d: %x, %d", i, got, e)
			}
		})
	}
	wait.Wait()
}

// overwrite writes over a list and over its spare room.
func overwrite(b []byte) {
	for i := range b[:cap(b)] {
		b[:cap(b)][i] = 0x99
	}
}

func TestAnswersAreNew(t *testing.T) { // rule 3
	for _, n := range edges {
		message := random(66, n)
		s := written(t, message)
		tell := func() [][]byte {
			digest, _ := s.Sum(nil)
			return [][]byte{digest, s.Form(), Sum(nil, message)}
		}
		first, second := tell(), tell()
		for i, answer := range first {
			want := bytes.Clone(second[i])
			for _, x := range answer[len(answer):cap(answer)] {
				if x != 0 {
					t.Errorf("%d bytes: the spare room of answer %d has %d", n, i, x)
				}
			}
			overwrite(answer)
			if !bytes.Equal(second[i], want) || !bytes.Equal(tell()[i], want) {
				t.Errorf("%d bytes: answer %d that was written over shows elsewhere", n, i)
			}
		}
		wantMessage(t, s, message)
		// Nor does an answer change with what is called later.
		want := bytes.Clone(second[1])
		write(t, s, nil, []byte(strings.Repeat("and so on ", 30)))
		s.Reset()
		s.Wipe(nil)
		if !bytes.Equal(second[1], want) || !bytes.Equal(second[0], plain(message)) {
			t.Errorf("%d bytes: an answer has changed", n)
		}
	}
}

func TestPiecesAreNotKept(t *testing.T) { // rule 3
	for _, n := range edges {
		message := random(67, n)
		whole := slices.Concat([]byte{91, 92}, message, []byte{93, 94, 95})
		piece, was := whole[2:2+n], bytes.Clone(whole)
		s := written(t, piece[:n/2], piece[n/2:])
		Sum(nil, piece)
		wantMessage(t, s, message)
		if !bytes.Equal(whole, was) {
			t.Errorf("%d bytes: what was handed in has changed", n)
		}
		// Written over behind the calls: nothing looks at it again.
		overwrite(whole)
		wantMessage(t, s, message)
		write(t, s, nil, []byte("more"))
		wantMessage(t, s, append(message, "more"...))
	}
}

func TestLedgerHangsOnLengths(t *testing.T) { // P6.6, rule 9
	for _, n := range edges {
		for _, message := range [][]byte{make([]byte, n), bytes.Repeat([]byte{255}, n), random(68, n)} {
			l, s := ledger.New(), New()
			write(t, s, l, message)
			s.Sum(l)
			Sum(l, message)
			s.Wipe(l)
			want := blocks(2 * (ofWrites(n) + ofSum(n)))
			wantEvents(t, "all calls", l, append(want, wiped)...)
		}
	}
}

func TestRecordedBehindAllOthers(t *testing.T) { // rule 5; the zero Ledger is one, too
	var l ledger.Ledger
	l.Note(other)
	s := New()
	write(t, s, &l, make([]byte, 260))
	l.Note(other)
	s.Sum(&l)
	l.Note(other)
	Sum(&l, make([]byte, 120))
	s.Wipe(&l)
	l.Note(other)
	wantEvents(t, "four calls", &l, other, block, block, other, block, other, block, block, wiped, other)
}

func FuzzInPieces(f *testing.F) { // P1, P6.2, P6.6
	f.Add([]byte{}, []byte{})
	f.Add([]byte("abc"), []byte{1, 0, 1})
	f.Add(make([]byte, 257), []byte{127, 1, 129})
	f.Add(bytes.Repeat([]byte{255}, 240), []byte{111, 128})
	f.Fuzz(func(t *testing.T, message, cuts []byte) {
		l, s, rest := ledger.New(), New(), message
		for _, cut := range cuts {
			n := min(int(cut), len(rest))
			write(t, s, l, rest[:n])
			rest = rest[n:]
		}
		write(t, s, l, rest)
		if l.Len() != ofWrites(len(message)) || l.Count(api.EvSha512) != l.Len() {
			t.Fatalf("%d bytes recorded %v", len(message), l.Runs())
		}
		wantMessage(t, s, message)
		if got := Sum(nil, message); !bytes.Equal(got, plain(message)) {
			t.Fatalf("Sum = %x", got)
		}
	})
}
