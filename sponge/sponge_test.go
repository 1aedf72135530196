package sponge

import (
	"bytes"
	"crypto/sha3"
	"encoding/hex"
	"hash"
	"math"
	"math/rand"
	"slices"
	"strings"
	"sync"
	"testing"

	"turnkey/api"
	"turnkey/keccak"
	"turnkey/ledger"
)

// turned and wiped are the events that the calls record.
var (
	turned = api.Event{Kind: api.EvKeccak, Size: 200}
	wiped  = api.Event{Kind: api.EvWipe, Size: 203}
	// other is an event of somebody else's, which stands in a ledger already.
	other = api.Event{Kind: api.EvOp, Size: 5}
)

// someRates and suffixes are those that most tests go over: the least and the greatest, and those of the known functions.
var (
	someRates = []int{8, 16, 72, 104, 136, 144, 168, 192}
	suffixes  = []byte{0, 1, 4, 6, 31, 128, 255}
)

// edges are the lengths at which something turns, of a rate.
func edges(rate int) []int {
	return []int{0, 1, 7, rate - 2, rate - 1, rate, rate + 1, 2*rate - 1, 2 * rate, 2*rate + 1, 3*rate + 5}
}

// wantEvents holds a ledger against the events that it must have, one by one, and empties it.
func wantEvents(t *testing.T, what string, l *ledger.Ledger, want ...api.Event) {
	t.Helper()
	if got := slices.Collect(l.All()); !slices.Equal(got, want) {
		t.Fatalf("%s recorded %v, want %v", what, got, want)
	}
	l.Reset()
}

// turns are so many events of the permutation.
func turns(n int) []api.Event { return slices.Repeat([]api.Event{turned}, n) }

// ofRead is how many events Reads of n bytes behind the shutting record.
func ofRead(n, rate int) int {
	if n == 0 {
		return 0
	}
	return (n - 1) / rate
}

// random makes n bytes, the same ones for the same seed.
func random(seed int64, n int) []byte {
	b := make([]byte, n)
	rand.New(rand.NewSource(seed)).Read(b)
	return b
}

// unhex takes bytes out of a text to the base 16, with gaps.
func unhex(t *testing.T, text string) []byte {
	t.Helper()
	b, err := hex.DecodeString(strings.ReplaceAll(text, " ", ""))
	if err != nil {
		t.Fatal(err)
	}
	return b
}

// plain is a sponge as the chapter's words have it, byte by byte; it counts its permutations.
type plain struct {
	rate, place, count int
	suffix             byte
	shut               bool
	memory             [200]byte
}

func (m *plain) permute() {
	m.memory = keccak.Bytes(keccak.Permute(nil, keccak.From(m.memory)))
	m.count++
	m.place = 0
}

func (m *plain) write(p []byte) {
	for _, b := range p {
		m.memory[m.place] ^= b
		m.place++
		if m.place == m.rate {
			m.permute()
		}
	}
}

func (m *plain) close() {
	m.memory[m.place] ^= m.suffix
	m.memory[m.rate-1] ^= 128
	m.permute()
	m.shut = true
}

func (m *plain) read(n int) []byte {
	if !m.shut {
		m.close()
	}
	var out []byte
	for range n {
		if m.place == m.rate {
			m.permute()
		}
		out = append(out, m.memory[m.place])
		m.place++
	}
	return out
}

func (m *plain) form() []byte {
	form := append(slices.Clone(m.memory[:]), byte(m.place/256), byte(m.place%256))
	if m.shut {
		return append(form, 1)
	}
	return append(form, 0)
}

// made makes a sponge, and must not be refused.
func made(t *testing.T, rate int, suffix byte) *Sponge {
	t.Helper()
	s, e := New(rate, suffix)
	if e != api.OK || s == nil {
		t.Fatalf("New(%d, %d): %v, %d", rate, suffix, s, e)
	}
	return s
}

// write writes a piece, and must not be refused.
func write(t *testing.T, s *Sponge, l *ledger.Ledger, p []byte) {
	t.Helper()
	if e := s.Write(l, p); e != api.OK {
		t.Fatalf("Write of %d bytes: %d", len(p), e)
	}
}

// shut closes, and must not be refused.
func shut(t *testing.T, s *Sponge, l *ledger.Ledger) {
	t.Helper()
	if e := s.Close(l); e != api.OK {
		t.Fatalf("Close: %d", e)
	}
}

// read reads n bytes, and must not be refused.
func read(t *testing.T, s *Sponge, l *ledger.Ledger, n int) []byte {
	t.Helper()
	b, e := s.Read(l, n)
	if e != api.OK || len(b) != n {
		t.Fatalf("Read of %d bytes: %d bytes, %d", n, len(b), e)
	}
	return b
}

// clone clones, and must not be refused.
func clone(t *testing.T, s *Sponge) *Sponge {
	t.Helper()
	c, e := s.Clone()
	if e != api.OK || c == nil || c == s {
		t.Fatalf("Clone: %p of %p, %d", c, s, e)
	}
	return c
}

// both is a sponge with bytes taken in, and the plain one.
func both(t *testing.T, rate int, suffix byte, p []byte) (*Sponge, *plain) {
	t.Helper()
	s, m := made(t, rate, suffix), &plain{rate: rate, suffix: suffix}
	write(t, s, nil, p)
	m.write(p)
	return s, m
}

// wantAs holds all that a sponge tells of itself against the plain one, twice: telling changes nothing.
func wantAs(t *testing.T, s *Sponge, m *plain) {
	t.Helper()
	for range 2 {
		if got := s.Form(); !bytes.Equal(got, m.form()) {
			t.Fatalf("rate %d: Form is\n%x, want\n%x", m.rate, got, m.form())
		}
		if s.Rate() != m.rate || s.Shut() != m.shut {
			t.Fatalf("Rate is %d, want %d; Shut is %v, want %v", s.Rate(), m.rate, s.Shut(), m.shut)
		}
	}
}

// wantNext holds what a clone of a sponge tells next against a copy of the plain one.
func wantNext(t *testing.T, s *Sponge, m *plain) {
	t.Helper()
	wantAs(t, s, m)
	c, as := clone(t, s), *m
	if got, want := read(t, c, nil, 2*m.rate+3), as.read(2*m.rate+3); !bytes.Equal(got, want) {
		t.Fatalf("rate %d: told next\n%x, want\n%x", m.rate, got, want)
	}
	wantAs(t, s, m)
}

// wantNone holds all calls of a sponge that is none against rule 4.
func wantNone(t *testing.T, what string, s *Sponge) {
	t.Helper()
	l := ledger.New()
	l.Note(other)
	for _, l := range []*ledger.Ledger{l, nil} {
		for _, p := range [][]byte{nil, {}, {7}, make([]byte, 300)} {
			if e := s.Write(l, p); e != api.ErrNil {
				t.Errorf("%s: Write of %d bytes: %d", what, len(p), e)
			}
		}
		if e := s.Close(l); e != api.ErrNil {
			t.Errorf("%s: Close: %d", what, e)
		}
		for _, n := range []int{math.MinInt, -1, 0, 1, 65536, 65537, math.MaxInt} {
			if got, e := s.Read(l, n); len(got) != 0 || e != api.ErrNil {
				t.Errorf("%s: Read of %d: %x, %d", what, n, got, e)
			}
		}
		if c, e := s.Clone(); c != nil || e != api.ErrNil {
			t.Errorf("%s: Clone: %v, %d", what, c, e)
		}
		if e := s.Wipe(l); e != api.ErrNil {
			t.Errorf("%s: Wipe: %d", what, e)
		}
		if got := s.Form(); len(got) != 0 {
			t.Errorf("%s: Form: %x", what, got)
		}
		if s.Rate() != 0 || s.Shut() {
			t.Errorf("%s: Rate %d, Shut %v", what, s.Rate(), s.Shut())
		}
	}
	wantEvents(t, what, l, other)
}

func TestExamples(t *testing.T) { // P8.1 to P8.3: the chapter's
	for _, rate := range []int{0, 12, 200} {
		if s, e := New(rate, 6); s != nil || e != api.ErrArg {
			t.Errorf("New(%d, 6): %v, %d", rate, s, e)
		}
	}
	made(t, 192, 0)

	s, l := made(t, 136, 6), ledger.New()
	shut(t, s, l)
	want := unhex(t, "a7ffc6f8 bf1ed766 51c14756 a061d662 f580ff4d e43b49fa 82d80a4b 80f8434a")
	if got := read(t, s, l, 32); !bytes.Equal(got, want) {
		t.Errorf("SHA3-256 of nothing is %x", got)
	}
	wantEvents(t, "Close and Read", l, turned)

	s = made(t, 168, 31)
	if got := read(t, s, l, 8); !bytes.Equal(got, unhex(t, "7f9c2ba4 e88f827d")) {
		t.Errorf("SHAKE128 of nothing is %x", got)
	}
	wantEvents(t, "Read of a new one", l, turned)
	if e := s.Write(l, []byte("abc")); e != api.ErrShut {
		t.Error("Write of a shut one:", e)
	}
	if e := s.Close(l); e != api.ErrShut {
		t.Error("Close of a shut one:", e)
	}
	read(t, s, l, 160)
	wantEvents(t, "up to the rate", l)
	read(t, s, l, 1)
	wantEvents(t, "behind the rate", l, turned)

	s = made(t, 168, 31)
	for _, n := range []int{65537, -1} {
		if b, e := s.Read(l, n); len(b) != 0 || e != api.ErrArg || s.Shut() {
			t.Errorf("Read(%d): %x, %d, %v", n, b, e, s.Shut())
		}
	}
	wantEvents(t, "what was refused", l)
}

func TestNew(t *testing.T) { // P8.1
	rates := []int{math.MinInt, math.MinInt + 8, -200, -136, -8, math.MaxInt, math.MaxInt - 7, 1 << 32, 1<<32 + 8, 1<<16 + 136, 256 + 136}
	for rate := -20; rate <= 300; rate++ {
		rates = append(rates, rate)
	}
	for _, rate := range rates {
		for _, suffix := range suffixes {
			s, e := New(rate, suffix)
			if rate < 8 || rate > 192 || rate%8 != 0 {
				if s != nil || e != api.ErrArg {
					t.Errorf("New(%d, %d): %v, %d", rate, suffix, s, e)
				}
				continue
			}
			if s == nil || e != api.OK || s.Rate() != rate || s.Shut() || !bytes.Equal(s.Form(), make([]byte, 203)) {
				t.Errorf("New(%d, %d): %v, %d", rate, suffix, s, e)
			}
		}
	}
}

func TestEverySuffix(t *testing.T) { // P8.1: any; the chapter's words: to shut
	for suffix := range 256 {
		for _, n := range []int{0, 3, 134, 135, 136} {
			s, m := both(t, 136, byte(suffix), random(71, n))
			wantNext(t, s, m)
		}
	}
}

func TestAsTheKnownHashes(t *testing.T) { // P8.2, P8.3
	p := random(72, 620)
	for _, c := range []struct {
		rate int
		make func() hash.Hash
	}{
		{144, func() hash.Hash { return sha3.New224() }},
		{136, func() hash.Hash { return sha3.New256() }},
		{104, func() hash.Hash { return sha3.New384() }},
		{72, func() hash.Hash { return sha3.New512() }},
	} {
		for n := range len(p) + 1 {
			h := c.make()
			h.Write(p[:n])
			s, l := made(t, c.rate, 6), ledger.New()
			write(t, s, l, p[:n])
			wantEvents(t, "Write", l, turns(n/c.rate)...)
			if got, want := read(t, s, l, h.Size()), h.Sum(nil); !bytes.Equal(got, want) {
				t.Fatalf("rate %d, %d bytes: %x, want %x", c.rate, n, got, want)
			}
			wantEvents(t, "Read", l, turned)
		}
	}
}

func TestAsTheKnownStreams(t *testing.T) { // P8.2, P8.3
	p := random(73, 400)
	for _, c := range []struct {
		rate int
		make func([]byte, int) []byte
	}{{168, sha3.SumSHAKE128}, {136, sha3.SumSHAKE256}} {
		for n := range len(p) + 1 {
			s, l := made(t, c.rate, 31), ledger.New()
			write(t, s, nil, p[:n])
			if got, want := read(t, s, l, 3*n), c.make(p[:n], 3*n); !bytes.Equal(got, want) {
				t.Fatalf("rate %d, %d bytes: %x, want %x", c.rate, n, got, want)
			}
			wantEvents(t, "Read", l, turns(1+ofRead(3*n, c.rate))...)
		}
	}
}

func TestEveryRateAsTheChapterSays(t *testing.T) { // P8.2, P8.3, P8.4
	for rate := 8; rate <= 192; rate += 8 {
		for _, suffix := range suffixes {
			for _, n := range edges(rate) {
				s, m := both(t, rate, suffix, random(74, n))
				wantNext(t, s, m)
				shut(t, s, nil)
				m.close()
				wantNext(t, s, m)
				for _, more := range edges(rate) {
					if got, want := read(t, s, nil, more), m.read(more); !bytes.Equal(got, want) {
						t.Fatalf("rate %d, suffix %d, %d bytes: told %x, want %x", rate, suffix, n, got, want)
					}
					wantAs(t, s, m)
				}
			}
		}
	}
}

func TestSuffixAndLastBitOnOneByte(t *testing.T) { // the chapter's words: they may be one byte
	for _, rate := range someRates {
		for _, suffix := range suffixes {
			p := random(75, rate-1)
			last := [200]byte(append(bytes.Clone(p), make([]byte, 201-rate)...))
			last[rate-1] = suffix ^ 128
			want := keccak.Bytes(keccak.Permute(nil, keccak.From(last)))
			s, _ := both(t, rate, suffix, p)
			if got := read(t, s, nil, rate); !bytes.Equal(got, want[:rate]) {
				t.Errorf("rate %d, suffix %d: %x, want %x", rate, suffix, got, want[:rate])
			}
		}
	}
}

func TestExamplesOfForm(t *testing.T) { // P8.4, the chapter's words: the place and the mark
	for _, c := range []struct{ rate, in, out, high, low, mark int }{
		{136, 0, -1, 0, 0, 0},
		{136, 135, -1, 0, 135, 0},
		{136, 136, -1, 0, 0, 0},
		{136, 137, -1, 0, 1, 0},
		{136, 137, 0, 0, 0, 1},
		{136, 0, 135, 0, 135, 1},
		{136, 0, 136, 0, 136, 1},
		{136, 0, 137, 0, 1, 1},
		{192, 191, 192, 0, 192, 1},
	} {
		s := made(t, c.rate, 6)
		write(t, s, nil, make([]byte, c.in))
		if c.out >= 0 {
			read(t, s, nil, c.out)
		}
		form := s.Form()
		if len(form) != 203 || !bytes.Equal(form[200:], []byte{byte(c.high), byte(c.low), byte(c.mark)}) {
			t.Errorf("%v: the form ends with %x", c, form[200:])
		}
	}
	// What is taken in stands there as it came, ahead of the first permutation.
	s := made(t, 16, 6)
	write(t, s, nil, []byte{1, 2, 3})
	write(t, s, nil, []byte{4})
	want := append([]byte{1, 2, 3, 4}, make([]byte, 199)...)
	want[201] = 4
	if got := s.Form(); !bytes.Equal(got, want) {
		t.Errorf("Form is %x", got)
	}
}

func TestReadsOfAllLengths(t *testing.T) { // P8.3, P8.5: the edges
	for _, rate := range someRates {
		for _, n := range []int{0, 1, rate - 1, rate, rate + 1, 2 * rate, 2*rate + 1, 65535, 65536} {
			for _, l := range []*ledger.Ledger{ledger.New(), nil} {
				s, m := both(t, rate, 31, []byte("abc"))
				if got := read(t, s, l, n); !bytes.Equal(got, m.read(n)) {
					t.Errorf("rate %d: Read of %d bytes is another one", rate, n)
				}
				wantAs(t, s, m)
				if want := 1 + ofRead(n, rate); l != nil && (l.Len() != want || l.Count(api.EvKeccak) != want || l.Runs()[0].Event != turned) {
					t.Errorf("rate %d: Read of %d bytes recorded %v", rate, n, l.Runs())
				}
			}
		}
	}
}

func TestReadsThatAreRefused(t *testing.T) { // P8.3, rule 2
	for _, n := range []int{math.MinInt, -65536, -2, -1, 65537, 65538, 1 << 17, 1 << 32, math.MaxInt} {
		l := ledger.New()
		l.Note(other)
		open, m := both(t, 136, 6, random(76, 200))
		closed := clone(t, open)
		as := *m
		read(t, closed, nil, 136)
		as.read(136)
		for range 2 {
			for _, s := range []*Sponge{open, closed} {
				if b, e := s.Read(l, n); len(b) != 0 || e != api.ErrArg {
					t.Errorf("Read(%d): %d bytes, %d", n, len(b), e)
				}
			}
			wantNext(t, open, m)
			wantNext(t, closed, &as)
		}
		wantEvents(t, "what was refused", l, other)
	}
}

func TestReadOfNothingShuts(t *testing.T) { // P8.3
	for _, rate := range someRates {
		s, m := both(t, rate, 6, random(77, rate+3))
		l := ledger.New()
		if got := read(t, s, l, 0); len(got) != 0 || !s.Shut() {
			t.Errorf("rate %d: %x, %v", rate, got, s.Shut())
		}
		wantEvents(t, "Read of nothing", l, turned)
		m.close()
		wantNext(t, s, m)
		read(t, s, l, 0)
		wantEvents(t, "Read of nothing again", l)
		// At the rate nothing is permuted until somebody reads on.
		read(t, s, l, rate)
		m.read(rate)
		read(t, s, l, 0)
		wantEvents(t, "Reads up to the rate", l)
		wantNext(t, s, m)
	}
}

func TestShutOnesTakeNothingIn(t *testing.T) { // P8.2, rule 2
	for _, rate := range someRates {
		for _, n := range []int{-1, 0, 1, rate - 1, rate, rate + 1} {
			s, m := both(t, rate, 6, random(78, 50))
			if n < 0 {
				shut(t, s, nil)
				m.close()
			} else {
				read(t, s, nil, n)
				m.read(n)
			}
			l := ledger.New()
			l.Note(other)
			for _, l := range []*ledger.Ledger{l, nil} {
				for _, p := range [][]byte{nil, {}, {1}, make([]byte, 500)} {
					if e := s.Write(l, p); e != api.ErrShut {
						t.Errorf("Write of %d bytes: %d", len(p), e)
					}
				}
				if e := s.Close(l); e != api.ErrShut {
					t.Errorf("Close: %d", e)
				}
			}
			wantEvents(t, "what was refused", l, other)
			wantNext(t, s, m)
		}
	}
}

func TestCloseIsReadOfNothing(t *testing.T) { // P8.2, P8.3
	for _, rate := range someRates {
		for _, n := range edges(rate) {
			p := random(79, n)
			one, _ := both(t, rate, 31, p)
			two := clone(t, one)
			l, k := ledger.New(), ledger.New()
			shut(t, one, l)
			read(t, two, k, 0)
			if *one != *two || !one.Shut() {
				t.Errorf("rate %d, %d bytes: Close and Read of nothing are unlike", rate, n)
			}
			wantEvents(t, "Close", l, turned)
			wantEvents(t, "Read of nothing", k, turned)
		}
	}
}

func TestEmptyAndNilAreTheSame(t *testing.T) { // P8.2, P8.5; DOC.md's words
	room := []byte{1, 2, 3}
	for _, none := range [][]byte{nil, {}, room[:0], room[1:1]} {
		for _, n := range edges(72) {
			s, m := both(t, 72, 6, random(80, n))
			l := ledger.New()
			write(t, s, l, none)
			wantEvents(t, "Write of none", l)
			wantNext(t, s, m)
		}
	}
}

func TestTellingLeavesTheSponge(t *testing.T) { // P8.4, rule 5
	for _, n := range edges(136) {
		open, _ := both(t, 136, 6, random(81, n))
		closed := clone(t, open)
		read(t, closed, nil, n)
		for _, s := range []*Sponge{open, closed} {
			was := *s
			s.Form()
			s.Rate()
			s.Shut()
			s.Clone()
			if *s != was {
				t.Errorf("%d bytes: the sponge has changed", n)
			}
		}
	}
}

func TestWipe(t *testing.T) { // P8.4, rule 4
	for _, n := range edges(168) {
		for _, l := range []*ledger.Ledger{ledger.New(), nil} {
			open, _ := both(t, 168, 31, random(82, n))
			closed := clone(t, open)
			read(t, closed, nil, n)
			for _, s := range []*Sponge{open, closed, made(t, 8, 255)} {
				if e := s.Wipe(l); e != api.OK {
					t.Fatal("Wipe:", e)
				}
				if l != nil {
					wantEvents(t, "Wipe", l, wiped)
				}
				wantNone(t, "wiped", s)
				if *s != (Sponge{}) {
					t.Errorf("%d bytes: the memory of a wiped sponge is no noughts", n)
				}
			}
		}
	}
}

func TestSpongesThatAreNone(t *testing.T) { // P1, rule 2, rule 4
	wantNone(t, "nil", nil)
	wantNone(t, "new(Sponge)", new(Sponge))
	var zero Sponge
	wantNone(t, "the zero Sponge", &zero)
	refused, _ := New(200, 6)
	wantNone(t, "a refused one", refused)
	copied := clone(t, made(t, 136, 6))
	copied.Wipe(nil)
	wantNone(t, "a clone that was wiped", copied)
}

func TestWritesInEveryTwoAndThreePieces(t *testing.T) { // P8.5
	for _, rate := range []int{8, 72, 136} {
		for _, n := range edges(rate) {
			p := random(83, n)
			want, _ := both(t, rate, 6, p)
			for i := range n + 1 {
				for j := i; j <= n; j += 1 + j%11 {
					l, s, was := ledger.New(), made(t, rate, 6), 0
					for _, piece := range [][]byte{p[:i], p[i:j], nil, p[j:], {}} {
						write(t, s, l, piece)
						wantEvents(t, "Write", l, turns((was+len(piece))/rate-was/rate)...)
						was += len(piece)
					}
					if *s != *want {
						t.Fatalf("rate %d: %d bytes cut at %d and %d are others", rate, n, i, j)
					}
				}
			}
		}
	}
}

func TestReadsInEveryTwoAndThreePieces(t *testing.T) { // P8.5
	for _, rate := range []int{8, 72, 136} {
		shutOne, m := both(t, rate, 6, random(84, 100))
		shut(t, shutOne, nil)
		m.close()
		for _, n := range edges(rate) {
			as := *m
			want := as.read(n)
			for i := range n + 1 {
				for j := i; j <= n; j += 1 + j%11 {
					l, s, was := ledger.New(), clone(t, shutOne), 0
					var got []byte
					for _, size := range []int{i, 0, j - i, n - j, 0} {
						got = append(got, read(t, s, l, size)...)
						wantEvents(t, "Read", l, turns(ofRead(was+size, rate)-ofRead(was, rate))...)
						was += size
					}
					if !bytes.Equal(got, want) {
						t.Fatalf("rate %d: %d bytes cut at %d and %d are others", rate, n, i, j)
					}
					wantAs(t, s, &as)
				}
			}
		}
	}
}

func TestInPiecesOfOneLength(t *testing.T) { // P8.5
	p := random(85, 700)
	for _, rate := range someRates {
		as, m := both(t, rate, 31, p)
		want := read(t, as, nil, 900)
		m.read(900)
		for size := 1; size <= 400; size++ {
			l, s := ledger.New(), made(t, rate, 31)
			for piece := range slices.Chunk(p, size) {
				write(t, s, l, piece)
			}
			wantEvents(t, "all Writes", l, turns(len(p)/rate)...)
			var got []byte
			for len(got) < 900 {
				got = append(got, read(t, s, l, min(size, 900-len(got)))...)
			}
			wantEvents(t, "all Reads", l, turns(1+ofRead(900, rate))...)
			if !bytes.Equal(got, want) || *s != *as {
				t.Fatalf("rate %d: in pieces of %d it is another one", rate, size)
			}
			wantAs(t, s, m)
		}
	}
}

func TestCloneAndElderGoOnApart(t *testing.T) { // P8.4, P8.6: cloned while open
	for _, rate := range []int{8, 136, 168} {
		for _, n := range edges(rate) {
			for _, more := range edges(rate) {
				elder, m := both(t, rate, 31, random(86, n))
				younger, y := clone(t, elder), *m
				first, second := random(87, more), random(88, more+1)
				write(t, elder, nil, first)
				m.write(first)
				wantNext(t, younger, &y)
				write(t, younger, nil, second)
				y.write(second)
				wantNext(t, elder, m)
				shut(t, elder, nil)
				m.close()
				wantNext(t, younger, &y)
				read(t, younger, nil, more)
				y.read(more)
				wantNext(t, elder, m)
				wantNext(t, younger, &y)
			}
		}
	}
}

func TestCloneOfAShutOne(t *testing.T) { // P8.4, P8.6: cloned behind shutting
	for _, rate := range []int{8, 136, 168} {
		for _, n := range edges(rate) {
			elder, m := both(t, rate, 31, random(89, 77))
			read(t, elder, nil, n)
			m.read(n)
			younger, y := clone(t, elder), *m
			third := clone(t, younger)
			if !younger.Shut() || younger.Write(nil, nil) != api.ErrShut {
				t.Errorf("rate %d: the clone of a shut one is open", rate)
			}
			read(t, elder, nil, n+1)
			wantNext(t, younger, &y)
			read(t, younger, nil, n+2)
			wantNext(t, third, m)
			elder.Wipe(nil)
			wantNone(t, "elder", elder)
			y.read(n + 2)
			wantNext(t, younger, &y)
			younger.Wipe(nil)
			wantNext(t, third, m)
		}
	}
}

func TestManySpongesEachByItself(t *testing.T) { // P8.5, P8.6, rule 7: whatever is done, in whatever order
	r := rand.New(rand.NewSource(90))
	var sponges []*Sponge
	var plains []*plain
	for range 12 {
		s, m := both(t, 8*(1+r.Intn(24)), byte(r.Intn(256)), nil)
		sponges, plains = append(sponges, s), append(plains, m)
	}
	l := ledger.New()
	for range 6000 {
		i := r.Intn(len(sponges))
		s, m := sponges[i], plains[i]
		was := m.count
		switch n := r.Intn(3 * m.rate); r.Intn(9) {
		case 0, 1, 2, 3:
			p := random(r.Int63(), n)
			want := api.ErrShut
			if !m.shut {
				m.write(p)
				want = api.OK
			}
			if e := s.Write(l, p); e != want {
				t.Fatalf("Write: %d, want %d", e, want)
			}
		case 4:
			want := api.ErrShut
			if !m.shut {
				m.close()
				want = api.OK
			}
			if e := s.Close(l); e != want {
				t.Fatalf("Close: %d, want %d", e, want)
			}
		case 5, 6, 7:
			if got, want := read(t, s, l, n), m.read(n); !bytes.Equal(got, want) {
				t.Fatalf("Read is %x, want %x", got, want)
			}
		case 8:
			j := r.Intn(len(sponges))
			other := *m
			sponges[j], plains[j] = clone(t, s), &other
			if r.Intn(4) == 0 {
				sponges[j], plains[j] = both(t, m.rate, m.suffix, nil)
			}
			was = m.count
		}
		wantEvents(t, "a call", l, turns(m.count-was)...)
		wantAs(t, s, m)
	}
	for i, s := range sponges {
		wantNext(t, s, plains[i])
	}
}

func TestSpongesInGoroutines(t *testing.T) { // rules 6, 7
	var wait sync.WaitGroup
	for i := range 8 {
		wait.Go(func() {
			p := random(int64(i), 5000+i)
			s, _ := New(136, 31)
			for piece := range slices.Chunk(p, 17+i) {
				s.Write(nil, piece)
			}
			if got, e := s.Read(nil, 3000+i); e != api.OK || !bytes.Equal(got, sha3.SumSHAKE256(p, 3000+i)) {
				t.Errorf("goroutine %d: %x, %d", i, got, e)
			}
		})
	}
	wait.Wait()
}

// overwrite writes over a list and over its spare room.
func overwrite(b []byte) {
	for i := range b[:cap(b)] {
		b[:cap(b)][i] = 0x99
	}
}

func TestAnswersAreNew(t *testing.T) { // rule 3
	for _, n := range edges(136) {
		s, m := both(t, 136, 6, random(91, n))
		tell := func() [][]byte {
			return [][]byte{read(t, clone(t, s), nil, n), s.Form()}
		}
		for range 2 {
			first, second := tell(), tell()
			for i, answer := range first {
				want := bytes.Clone(second[i])
				for _, x := range answer[len(answer):cap(answer)] {
					if x != 0 {
						t.Errorf("%d bytes: the spare room of answer %d has %d", n, i, x)
					}
				}
				overwrite(answer)
				if !bytes.Equal(second[i], want) || !bytes.Equal(tell()[i], want) {
					t.Errorf("%d bytes: answer %d that was written over shows elsewhere", n, i)
				}
			}
			wantNext(t, s, m)
			// Once more, of a shut one: what it told itself is written over, too.
			overwrite(read(t, s, nil, n))
			m.read(n)
			wantNext(t, s, m)
		}
		// Nor does an answer change with what is called later.
		form, told := s.Form(), read(t, s, nil, n)
		wantForm, wantTold := bytes.Clone(form), bytes.Clone(told)
		read(t, s, nil, 500)
		s.Wipe(nil)
		if !bytes.Equal(form, wantForm) || !bytes.Equal(told, wantTold) {
			t.Errorf("%d bytes: an answer has changed", n)
		}
	}
}

func TestPiecesAreNotKept(t *testing.T) { // rule 3
	for _, n := range edges(136) {
		p := random(92, n)
		whole := slices.Concat([]byte{91, 92}, p, []byte{93, 94, 95})
		piece, was := whole[2:2+n], bytes.Clone(whole)
		s := made(t, 136, 6)
		write(t, s, nil, piece[:n/2])
		write(t, s, nil, piece[n/2:])
		c := clone(t, s)
		read(t, c, nil, n)
		if !bytes.Equal(whole, was) {
			t.Errorf("%d bytes: what was handed in has changed", n)
		}
		// Written over behind the calls: nothing looks at it again.
		overwrite(whole)
		_, m := both(t, 136, 6, p)
		wantNext(t, s, m)
		write(t, s, nil, []byte("more"))
		m.write([]byte("more"))
		wantNext(t, s, m)
	}
}

func TestLedgerHangsOnLengths(t *testing.T) { // P8.5, rule 9
	for _, rate := range someRates {
		for _, n := range edges(rate) {
			for _, p := range [][]byte{make([]byte, n), bytes.Repeat([]byte{255}, n), random(93, n)} {
				for _, suffix := range suffixes {
					l, s := ledger.New(), made(t, rate, suffix)
					write(t, s, l, p)
					wantEvents(t, "Write", l, turns(n/rate)...)
					shut(t, s, l)
					wantEvents(t, "Close", l, turned)
					read(t, s, l, n)
					wantEvents(t, "Read", l, turns(ofRead(n, rate))...)
					s.Wipe(l)
					wantEvents(t, "Wipe", l, wiped)
				}
			}
		}
	}
}

func TestWithoutALedgerAllIsTheSame(t *testing.T) { // rule 5
	for _, n := range edges(168) {
		p := random(94, n)
		one, two := made(t, 168, 31), made(t, 168, 31)
		write(t, one, nil, p)
		write(t, two, ledger.New(), p)
		if !bytes.Equal(read(t, one, nil, n), read(t, two, ledger.New(), n)) || *one != *two {
			t.Errorf("%d bytes: unlike without a ledger", n)
		}
	}
}

func TestRecordedBehindAllOthers(t *testing.T) { // rule 5; the zero Ledger is one, too
	var l ledger.Ledger
	l.Note(other)
	s := made(t, 72, 6)
	write(t, s, &l, make([]byte, 150))
	l.Note(other)
	c := clone(t, s)
	shut(t, s, &l)
	l.Note(other)
	read(t, s, &l, 145)
	l.Note(other)
	s.Wipe(&l)
	read(t, c, &l, 73)
	wantEvents(t, "the calls", &l, other, turned, turned, other, turned, other, turned, turned, other, wiped, turned, turned)
}

func FuzzInPieces(f *testing.F) { // P1, P8.2, P8.3, P8.5
	f.Add([]byte{}, []byte{}, 136, byte(6), 32)
	f.Add([]byte("abc"), []byte{1, 0, 1}, 168, byte(31), 169)
	f.Add(make([]byte, 257), []byte{135, 1, 136}, 136, byte(0), -1)
	f.Add(bytes.Repeat([]byte{255}, 24), []byte{7, 8}, 8, byte(255), 65537)
	f.Fuzz(func(t *testing.T, p, cuts []byte, rate int, suffix byte, n int) {
		s, e := New(rate, suffix)
		if e != api.OK {
			wantNone(t, "a refused one", s)
			return
		}
		m := &plain{rate: rate, suffix: suffix}
		m.write(p)
		l, rest := ledger.New(), p
		for _, cut := range cuts {
			size := min(int(cut), len(rest))
			write(t, s, l, rest[:size])
			rest = rest[size:]
		}
		write(t, s, l, rest)
		wantAs(t, s, m)
		if got, e := s.Read(l, n); e == api.OK {
			if !bytes.Equal(got, m.read(n)) {
				t.Fatalf("Read(%d) is %x", n, got)
			}
		} else if e != api.ErrArg || n >= 0 && n <= 65536 || len(got) != 0 {
			t.Fatalf("Read(%d): %d", n, e)
		}
		for _, cut := range cuts {
			if got := read(t, s, l, int(cut)); !bytes.Equal(got, m.read(int(cut))) {
				t.Fatalf("Read(%d) is %x", cut, got)
			}
		}
		wantAs(t, s, m)
		if l.Len() != m.count || l.Count(api.EvKeccak) != m.count {
			t.Fatalf("recorded %v, want %d", l.Runs(), m.count)
		}
	})
}
