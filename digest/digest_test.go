package digest

import (
	"bytes"
	std256 "crypto/sha256"
	std512 "crypto/sha512"
	"encoding/hex"
	"math/big"
	"math/rand"
	"slices"
	"strings"
	"sync"
	"testing"

	"turnkey/api"
	"turnkey/ledger"
	"turnkey/sha256"
	"turnkey/sha512"
)

// other is an event of somebody else's, which stands in a ledger already.
var other = api.Event{Kind: api.EvOp, Size: 5}

// face is what the chapters say of a hash function, told apart from what Of answers.
type face struct {
	alg                     api.Alg
	size, block, tail, form int
	event                   api.Event
	plain                   func(p []byte) []byte
	below                   func() below
	sumBelow                func(l *ledger.Ledger, p []byte) []byte
}

// below is a state of the layer below, which a digest's state must be like.
type below interface {
	Write(l *ledger.Ledger, p []byte) api.Errno
	Sum(l *ledger.Ledger) ([]byte, api.Errno)
	Wipe(l *ledger.Ledger) api.Errno
	Form() []byte
}

// faces are both hash functions.
func faces() []face {
	return []face{
		{
			alg: api.AlgHmac256, size: 32, block: 64, tail: 55, form: 104,
			event:    api.Event{Kind: api.EvSha256, Size: 64},
			plain:    func(p []byte) []byte { sum := std256.Sum256(p); return sum[:] },
			below:    func() below { return sha256.New() },
			sumBelow: sha256.Sum,
		},
		{
			alg: api.AlgHmac512, size: 64, block: 128, tail: 111, form: 200,
			event:    api.Event{Kind: api.EvSha512, Size: 128},
			plain:    func(p []byte) []byte { sum := std512.Sum512(p); return sum[:] },
			below:    func() below { return sha512.New() },
			sumBelow: sha512.Sum,
		},
	}
}

// edges are the lengths that the chapters' rules turn at: about one block, and about the end of one.
func (f face) edges() []int {
	list := []int{0, 1, 2, 1000}
	for _, blocks := range []int{0, 1, 2} {
		at := blocks * f.block
		list = append(list, at+f.tail, at+f.tail+1, at+f.tail+2, at+f.block-1, at+f.block, at+f.block+1)
	}
	return list
}

// blocks are so many events of a block.
func (f face) blocks(n int) []api.Event { return slices.Repeat([]api.Event{f.event}, n) }

// ofWrites is how many blocks become full by a message of m bytes.
func (f face) ofWrites(m int) int { return m / f.block }

// ofSum is how many blocks Sum records behind m bytes.
func (f face) ofSum(m int) int {
	if m%f.block > f.tail {
		return 2
	}
	return 1
}

// wiped is what Wipe records.
func (f face) wiped() api.Event { return api.Event{Kind: api.EvWipe, Size: f.form} }

// hash is the Hash, which must not be refused.
func (f face) hash(t *testing.T) Hash {
	t.Helper()
	h, e := Of(f.alg)
	if e != api.OK || h.New == nil || h.Sum == nil {
		t.Fatalf("Of(%d): %d", f.alg, e)
	}
	return h
}

// written is a new state that took pieces.
func (f face) written(t *testing.T, pieces ...[]byte) State {
	t.Helper()
	s := f.hash(t).New()
	for _, p := range pieces {
		write(t, s, nil, p)
	}
	return s
}

// formOf is the form of a message: the words are handed in, all else is reckoned.
func (f face) formOf(words, message []byte) []byte {
	form := bytes.Clone(words)
	form = append(form, big.NewInt(int64(len(message))).FillBytes(make([]byte, 8))...)
	form = append(form, message[len(message)/f.block*f.block:]...)
	return append(form, make([]byte, f.form-len(form))...)
}

// wantMessage holds all that a state tells against its message, twice: telling changes nothing.
func (f face) wantMessage(t *testing.T, s State, message []byte) {
	t.Helper()
	l, whole := ledger.New(), f.below()
	whole.Write(nil, message)
	for range 2 {
		if got := s.Form(); !bytes.Equal(got, whole.Form()) || !bytes.Equal(got, f.formOf(got[:f.size], message)) {
			t.Fatalf("%d: Form of %d bytes is %x", f.alg, len(message), got)
		}
		for _, l := range []*ledger.Ledger{l, nil} {
			if got, e := s.Sum(l); e != api.OK || !bytes.Equal(got, f.plain(message)) || len(got) != f.size {
				t.Fatalf("%d: Sum of %d bytes is %x, %d, want %x", f.alg, len(message), got, e, f.plain(message))
			}
		}
		wantEvents(t, "Sum", l, f.blocks(f.ofSum(len(message)))...)
		if c := s.Copy(); c == nil || !bytes.Equal(c.Form(), whole.Form()) {
			t.Fatalf("%d: Copy of %d bytes", f.alg, len(message))
		}
	}
}

// wantWiped holds all calls of a wiped state against rule 4.
func wantWiped(t *testing.T, what string, s State) {
	t.Helper()
	l := ledger.New()
	l.Note(other)
	for _, l := range []*ledger.Ledger{l, nil} {
		for _, p := range [][]byte{nil, {}, {7}, make([]byte, 300)} {
			if e := s.Write(l, p); e != api.ErrNil {
				t.Errorf("%s: Write of %d bytes: %d", what, len(p), e)
			}
		}
		if got, e := s.Sum(l); len(got) != 0 || e != api.ErrNil {
			t.Errorf("%s: Sum: %x, %d", what, got, e)
		}
		if c := s.Copy(); c != nil {
			t.Errorf("%s: Copy: %v", what, c)
		}
		if e := s.Wipe(l); e != api.ErrNil {
			t.Errorf("%s: Wipe: %d", what, e)
		}
		if got := s.Form(); len(got) != 0 {
			t.Errorf("%s: Form: %x", what, got)
		}
	}
	wantEvents(t, what, l, other)
}

// wantEvents holds a ledger against the events that it must have, one by one, and empties it.
func wantEvents(t *testing.T, what string, l *ledger.Ledger, want ...api.Event) {
	t.Helper()
	if got := slices.Collect(l.All()); !slices.Equal(got, want) {
		t.Fatalf("%s recorded %v, want %v", what, got, want)
	}
	l.Reset()
}

// write writes a piece, and must not be refused.
func write(t *testing.T, s State, l *ledger.Ledger, p []byte) {
	t.Helper()
	if e := s.Write(l, p); e != api.OK {
		t.Fatalf("Write of %d bytes: %d", len(p), e)
	}
}

// copied copies a state, and must not be refused.
func copied(t *testing.T, s State) State {
	t.Helper()
	c := s.Copy()
	if c == nil || c == s {
		t.Fatal("Copy is nil, or the state itself")
	}
	return c
}

// random makes n bytes, the same ones for the same seed.
func random(seed int64, n int) []byte {
	b := make([]byte, n)
	rand.New(rand.NewSource(seed)).Read(b)
	return b
}

// unhex takes bytes out of a text to the base 16, with gaps.
func unhex(t *testing.T, text string) []byte {
	t.Helper()
	b, err := hex.DecodeString(strings.ReplaceAll(text, " ", ""))
	if err != nil {
		t.Fatal(err)
	}
	return b
}

// overwrite writes over a list and over its spare room.
func overwrite(b []byte) {
	for i := range b[:cap(b)] {
		b[:cap(b)][i] = 0x99
	}
}

// isZero tells the zero Hash: a struct with functions is not compared by ==.
func isZero(h Hash) bool {
	return h.Alg == 0 && h.Size == 0 && h.Block == 0 && h.Event == (api.Event{}) && h.New == nil && h.Sum == nil
}

func TestOfTheTwoHashFunctions(t *testing.T) { // P11.1, the chapter's first example
	for _, f := range faces() {
		for range 2 {
			h := f.hash(t)
			if h.Alg != f.alg || h.Size != f.size || h.Block != f.block || h.Event != f.event {
				t.Errorf("Of(%d) = %d, %d, %d, %v", f.alg, h.Alg, h.Size, h.Block, h.Event)
			}
			if s := h.New(); s == nil || !bytes.Equal(s.Form(), f.below().Form()) {
				t.Errorf("%d: New has not the empty message", f.alg)
			}
		}
	}
}

func TestOfAndSumOfAllNumbers(t *testing.T) { // P11.1, P11.3, rule 2: all 256, the seven algorithms and 0 among them
	l := ledger.New()
	l.Note(other)
	refused := 0
	for n := range 256 {
		a := api.Alg(n)
		if a == api.AlgHmac256 || a == api.AlgHmac512 {
			continue
		}
		refused++
		if h, e := Of(a); e != api.ErrAlg || !isZero(h) {
			t.Errorf("Of(%d) = %d, %d, %d, %v, %d", n, h.Alg, h.Size, h.Block, h.Event, e)
		}
		for _, l := range []*ledger.Ledger{l, nil} {
			for _, p := range [][]byte{nil, {}, []byte("abc"), make([]byte, 300)} {
				if got, e := Sum(l, a, p); e != api.ErrAlg || len(got) != 0 {
					t.Errorf("Sum of %d = %x, %d", n, got, e)
				}
			}
		}
	}
	if refused != 254 {
		t.Errorf("%d numbers were asked", refused)
	}
	wantEvents(t, "all refused", l, other)
}

func TestHashIsAValue(t *testing.T) { // P11.1, rule 3: what is done with an answer shows in no other one
	for _, f := range faces() {
		h := f.hash(t)
		h.Alg, h.Size, h.Block, h.Event, h.New, h.Sum = 0, 0, 0, api.Event{}, nil, nil
		if h = f.hash(t); h.Alg != f.alg || h.Size != f.size || h.Block != f.block || h.Event != f.event {
			t.Errorf("Of(%d) has changed", f.alg)
		}
		f.wantMessage(t, h.New(), nil)
	}
}

func TestExamples(t *testing.T) { // the chapter's
	if h, e := Of(api.AlgCmac); e != api.ErrAlg || !isZero(h) {
		t.Error("Of(AlgCmac):", e)
	}
	if h, e := Of(0); e != api.ErrAlg || !isZero(h) {
		t.Error("Of(0):", e)
	}
	if got, e := Sum(nil, api.AlgKmac128, nil); e != api.ErrAlg || len(got) != 0 {
		t.Errorf("Sum of AlgKmac128: %x, %d", got, e)
	}
	want := unhex(t, "ba7816bf 8f01cfea 414140de 5dae2223 b00361a3 96177a9c b410ff61 f20015ad")
	h, e := Of(api.AlgHmac256)
	if e != api.OK {
		t.Fatal("Of(AlgHmac256):", e)
	}
	l, s := ledger.New(), h.New()
	write(t, s, nil, []byte("abc"))
	if got, e := s.Sum(nil); e != api.OK || !bytes.Equal(got, want) {
		t.Errorf("the state's Sum: %x, %d", got, e)
	}
	if got := h.Sum(nil, []byte("abc")); !bytes.Equal(got, want) {
		t.Errorf("the Hash's Sum: %x", got)
	}
	if e := s.Wipe(l); e != api.OK {
		t.Error("Wipe:", e)
	}
	if c := s.Copy(); c != nil {
		t.Error("Copy of a wiped one:", c)
	}
	if got, e := s.Sum(l); e != api.ErrNil || len(got) != 0 {
		t.Errorf("Sum of a wiped one: %x, %d", got, e)
	}
	if got := s.Form(); len(got) != 0 {
		t.Errorf("Form of a wiped one: %x", got)
	}
	wantEvents(t, "Wipe, Copy, Sum, Form", l, api.Event{Kind: api.EvWipe, Size: 104})
}

func TestSumOfAllShortMessages(t *testing.T) { // P11.3, P11.4
	p := random(111, 600)
	for _, f := range faces() {
		h, l, same := f.hash(t), ledger.New(), ledger.New()
		for n := range len(p) + 1 {
			message := p[:n]
			want, blocks := f.plain(message), f.blocks(f.ofWrites(n)+f.ofSum(n))
			if got := h.Sum(l, message); !bytes.Equal(got, want) || len(got) != h.Size {
				t.Fatalf("%d: the Hash's Sum of %d bytes is %x, want %x", f.alg, n, got, want)
			}
			wantEvents(t, "the Hash's Sum", l, blocks...)
			if got, e := Sum(l, f.alg, message); e != api.OK || !bytes.Equal(got, want) {
				t.Fatalf("%d: Sum of %d bytes is %x, %d, want %x", f.alg, n, got, e, want)
			}
			if got := f.sumBelow(same, message); !bytes.Equal(got, want) || !ledger.Same(l.Runs(), same.Runs()) {
				t.Fatalf("%d: Sum of %d bytes is not as below", f.alg, n)
			}
			same.Reset()
			wantEvents(t, "Sum", l, blocks...)
			if got, e := Sum(nil, f.alg, message); e != api.OK || !bytes.Equal(got, want) || !bytes.Equal(h.Sum(nil, message), want) {
				t.Fatalf("%d: without a ledger: %x, %d", f.alg, got, e)
			}
		}
	}
}

func TestStateOfAllShortMessages(t *testing.T) { // P11.2, P11.4
	p := random(112, 400)
	for _, f := range faces() {
		l := ledger.New()
		for n := range len(p) + 1 {
			s := f.hash(t).New()
			write(t, s, l, p[:n])
			wantEvents(t, "Write", l, f.blocks(f.ofWrites(n))...)
			f.wantMessage(t, s, p[:n])
		}
	}
}

func TestLongMessages(t *testing.T) { // P11.3, P11.4: lengths of several bytes
	for _, f := range faces() {
		for _, n := range []int{8191, 8192, 65535, 65536, 1<<20 + 111} {
			p, l := random(int64(n), n), ledger.New()
			if got, e := Sum(l, f.alg, p); e != api.OK || !bytes.Equal(got, f.plain(p)) {
				t.Errorf("%d: Sum of %d bytes is %x, %d", f.alg, n, got, e)
			}
			if want := []api.Run{{Event: f.event, Count: f.ofWrites(n) + f.ofSum(n)}}; !ledger.Same(l.Runs(), want) {
				t.Errorf("%d: Sum of %d bytes recorded %v", f.alg, n, l.Runs())
			}
		}
	}
}

func TestStateIsAsBelowCallByCall(t *testing.T) { // P11.2
	for _, f := range faces() {
		r := rand.New(rand.NewSource(113))
		for range 40 {
			got, want := ledger.New(), ledger.New()
			s, b := f.hash(t).New(), f.below()
			for range 30 {
				callBoth(t, r, s, b, got, want)
				if !slices.Equal(slices.Collect(got.All()), slices.Collect(want.All())) {
					t.Fatalf("%d: recorded %v, want %v", f.alg, got.Runs(), want.Runs())
				}
			}
		}
	}
}

// callBoth makes one call of a state and of one below, now and then without a ledger, and holds the answers against each other.
func callBoth(t *testing.T, r *rand.Rand, s State, b below, got, want *ledger.Ledger) {
	t.Helper()
	if r.Intn(4) == 0 {
		got, want = nil, nil
	}
	switch r.Intn(40) {
	case 0:
		if x, y := s.Wipe(got), b.Wipe(want); x != y {
			t.Fatalf("Wipe: %d, want %d", x, y)
		}
	case 1, 2, 3, 4, 5, 6, 7, 8:
		x, e := s.Sum(got)
		if y, f := b.Sum(want); e != f || !bytes.Equal(x, y) {
			t.Fatalf("Sum: %x, %d, want %x, %d", x, e, y, f)
		}
	case 9, 10, 11, 12:
		if x, y := s.Form(), b.Form(); !bytes.Equal(x, y) {
			t.Fatalf("Form: %x, want %x", x, y)
		}
	default:
		p := random(r.Int63(), r.Intn(150))
		if x, y := s.Write(got, p), b.Write(want, p); x != y {
			t.Fatalf("Write: %d, want %d", x, y)
		}
	}
}

func TestInPieces(t *testing.T) { // P11.4: two cuts, all about the edges; pieces of 0 bytes among them
	for _, f := range faces() {
		for _, n := range f.edges() {
			message := random(114, n)
			for _, first := range f.edges() {
				cut := min(first, n)
				l, s := ledger.New(), f.hash(t).New()
				for _, piece := range [][]byte{nil, message[:cut], {}, message[cut:], message[n:]} {
					write(t, s, l, piece)
				}
				wantEvents(t, "Writes", l, f.blocks(f.ofWrites(n))...)
				f.wantMessage(t, s, message)
				if got, _ := s.Sum(nil); !bytes.Equal(got, f.hash(t).Sum(nil, message)) {
					t.Errorf("%d: %d bytes cut at %d have %x", f.alg, n, cut, got)
				}
			}
		}
	}
}

func TestByteByByteWithSumBetween(t *testing.T) { // P11.2, P11.4: Sum in the midst of a message leaves the state
	p := random(115, 300)
	for _, f := range faces() {
		l, s := ledger.New(), f.hash(t).New()
		for i := range p {
			if got, e := s.Sum(nil); e != api.OK || !bytes.Equal(got, f.plain(p[:i])) {
				t.Fatalf("%d: Sum of %d bytes = %x, %d", f.alg, i, got, e)
			}
			write(t, s, l, p[i:i+1])
			wantEvents(t, "Write of a byte", l, f.blocks(f.ofWrites(i+1)-f.ofWrites(i))...)
		}
		f.wantMessage(t, s, p)
	}
}

func TestEmptyAndNilAreTheSame(t *testing.T) { // P11.2, P11.3; DOC.md's words
	room := []byte{1, 2, 3}
	for _, f := range faces() {
		for _, none := range [][]byte{nil, {}, room[:0], room[1:1]} {
			l := ledger.New()
			if got, e := Sum(l, f.alg, none); e != api.OK || !bytes.Equal(got, f.plain(nil)) {
				t.Errorf("%d: Sum of none = %x, %d", f.alg, got, e)
			}
			wantEvents(t, "Sum of none", l, f.event)
			if got := f.hash(t).Sum(l, none); !bytes.Equal(got, f.plain(nil)) {
				t.Errorf("%d: the Hash's Sum of none = %x", f.alg, got)
			}
			wantEvents(t, "the Hash's Sum of none", l, f.event)
			for _, n := range f.edges() {
				s := f.written(t, random(116, n))
				write(t, s, l, none)
				wantEvents(t, "Write of none", l)
				f.wantMessage(t, s, random(116, n))
			}
		}
	}
}

func TestCopyGoesOnByItself(t *testing.T) { // P11.2, P11.4: ahead of any Write (0 bytes), in the midst of a block, about its end
	for _, f := range faces() {
		for _, n := range f.edges() {
			for _, more := range f.edges() {
				message, first, second := random(117, n), random(118, more), random(119, more+1)
				elder := f.hash(t).New()
				if n > 0 {
					write(t, elder, nil, message)
				}
				younger := copied(t, elder)
				f.wantMessage(t, younger, message)
				write(t, elder, nil, first)
				f.wantMessage(t, younger, message)
				write(t, younger, nil, second)
				f.wantMessage(t, elder, slices.Concat(message, first))
				f.wantMessage(t, younger, slices.Concat(message, second))
			}
		}
	}
}

func TestCopyOutlivesItsElder(t *testing.T) { // P11.4
	for _, f := range faces() {
		for _, n := range f.edges() {
			message := random(120, n)
			elder := f.written(t, message)
			younger := copied(t, elder)
			third := copied(t, younger)
			elder.Wipe(nil)
			f.wantMessage(t, younger, message)
			younger.Wipe(nil)
			f.wantMessage(t, third, message)
			wantWiped(t, "elder", elder)
			wantWiped(t, "younger", younger)
		}
	}
}

func TestWipe(t *testing.T) { // P11.2, rule 4
	for _, f := range faces() {
		for _, n := range f.edges() {
			for _, l := range []*ledger.Ledger{ledger.New(), nil} {
				s := f.written(t, random(121, n))
				if e := s.Wipe(l); e != api.OK {
					t.Fatal("Wipe:", e)
				}
				if l != nil {
					wantEvents(t, "Wipe", l, f.wiped())
				}
				wantWiped(t, "wiped", s)
				f.wantMessage(t, f.hash(t).New(), nil)
			}
		}
	}
}

func TestStatesAreEachByItself(t *testing.T) { // P11.4: no memory is shared by what New makes, of one Hash or of two
	for _, f := range faces() {
		h := f.hash(t)
		states := []State{h.New(), h.New(), f.hash(t).New(), f.hash(t).New(), h.New()}
		messages := make([][]byte, len(states))
		r := rand.New(rand.NewSource(122))
		for range 300 {
			i := r.Intn(len(states))
			piece := random(r.Int63(), r.Intn(90))
			write(t, states[i], nil, piece)
			messages[i] = append(messages[i], piece...)
		}
		states[4].Wipe(nil)
		for i, s := range states[:4] {
			f.wantMessage(t, s, messages[i])
		}
		f.wantMessage(t, h.New(), nil)
	}
}

func TestTwoHashFunctionsBesideEachOther(t *testing.T) { // P11.4, rule 7
	both := faces()
	s, u := both[0].hash(t).New(), both[1].hash(t).New()
	message := random(123, 900)
	for piece := range slices.Chunk(message, 37) {
		write(t, s, nil, piece)
		write(t, u, nil, piece)
		c, d := copied(t, s), copied(t, u)
		c.Wipe(nil)
		d.Wipe(nil)
	}
	both[0].wantMessage(t, s, message)
	both[1].wantMessage(t, u, message)
}

func TestStatesInGoroutines(t *testing.T) { // P11.4, rules 6, 7
	for _, f := range faces() {
		var wait sync.WaitGroup
		h := f.hash(t)
		for i := range 8 {
			wait.Go(func() {
				message, s := random(int64(i), 5000+i), h.New()
				for piece := range slices.Chunk(message, 17+i) {
					s.Write(nil, piece)
				}
				if got, e := s.Copy().Sum(nil); e != api.OK || !bytes.Equal(got, f.plain(message)) || !bytes.Equal(h.Sum(nil, message), got) {
					t.Errorf("goroutine %d: %x, %d", i, got, e)
				}
			})
		}
		wait.Wait()
	}
}

func TestAnswersAreNew(t *testing.T) { // P11.2, P11.3, rule 3
	for _, f := range faces() {
		for _, n := range f.edges() {
			message := random(124, n)
			s, h := f.written(t, message), f.hash(t)
			tell := func() [][]byte {
				digest, _ := s.Sum(nil)
				whole, _ := Sum(nil, f.alg, message)
				return [][]byte{digest, s.Form(), whole, h.Sum(nil, message)}
			}
			first, second := tell(), tell()
			for i, answer := range first {
				want := bytes.Clone(second[i])
				if room := answer[len(answer):cap(answer)]; !bytes.Equal(room, make([]byte, len(room))) {
					t.Errorf("%d bytes: the spare room of answer %d has %x", n, i, room)
				}
				overwrite(answer)
				if !bytes.Equal(second[i], want) || !bytes.Equal(tell()[i], want) {
					t.Errorf("%d bytes: answer %d that was written over shows elsewhere", n, i)
				}
			}
			f.wantMessage(t, s, message)
			// Nor does an answer change with what is called later.
			form := bytes.Clone(second[1])
			write(t, s, nil, make([]byte, 2*f.block))
			s.Wipe(nil)
			if !bytes.Equal(second[0], f.plain(message)) || !bytes.Equal(second[1], form) {
				t.Errorf("%d bytes: an answer has changed", n)
			}
		}
	}
}

func TestPiecesAreNotKept(t *testing.T) { // P11.2, P11.3, rule 3
	for _, f := range faces() {
		for _, n := range f.edges() {
			message := random(125, n)
			whole := slices.Concat([]byte{91, 92}, message, []byte{93, 94, 95})
			piece, was := whole[2:2+n], bytes.Clone(whole)
			s := f.written(t, piece[:n/2], piece[n/2:])
			c := copied(t, s)
			f.hash(t).Sum(nil, piece)
			Sum(nil, f.alg, piece)
			f.wantMessage(t, s, message)
			if !bytes.Equal(whole, was) {
				t.Errorf("%d bytes: what was handed in has changed", n)
			}
			// Written over behind the calls: nothing looks at it again.
			overwrite(whole)
			f.wantMessage(t, s, message)
			f.wantMessage(t, c, message)
			write(t, s, nil, []byte("more"))
			f.wantMessage(t, s, append(message, "more"...))
		}
	}
}

func TestLedgerHangsOnLengths(t *testing.T) { // P11.4, rule 9
	for _, f := range faces() {
		for _, n := range f.edges() {
			for _, message := range [][]byte{make([]byte, n), bytes.Repeat([]byte{255}, n), random(126, n)} {
				l, s := ledger.New(), f.hash(t).New()
				write(t, s, l, message)
				s.Sum(l)
				s.Copy()
				s.Form()
				f.hash(t).Sum(l, message)
				Sum(l, f.alg, message)
				s.Wipe(l)
				want := f.blocks(3 * (f.ofWrites(n) + f.ofSum(n)))
				wantEvents(t, "all calls", l, append(want, f.wiped())...)
			}
		}
	}
}

func TestRecordedBehindAllOthers(t *testing.T) { // rule 5; the zero Ledger is one, too
	for _, f := range faces() {
		var l ledger.Ledger
		l.Note(other)
		s := f.hash(t).New()
		write(t, s, &l, make([]byte, 2*f.block+1))
		l.Note(other)
		s.Sum(&l)
		l.Note(other)
		f.hash(t).Sum(&l, make([]byte, f.tail+1))
		l.Note(other)
		Sum(&l, f.alg, nil)
		s.Wipe(&l)
		l.Note(other)
		b := f.event
		wantEvents(t, "five calls", &l, other, b, b, other, b, other, b, b, other, b, f.wiped(), other)
	}
}

func FuzzInPieces(f *testing.F) { // P1, P11.1 to P11.4
	f.Add(byte(1), []byte{}, []byte{})
	f.Add(byte(2), []byte("abc"), []byte{1, 0, 1})
	f.Add(byte(1), make([]byte, 129), []byte{63, 1, 65})
	f.Add(byte(2), bytes.Repeat([]byte{255}, 250), []byte{111, 128})
	f.Add(byte(3), []byte("abc"), []byte{1})
	f.Fuzz(func(t *testing.T, alg byte, message, cuts []byte) {
		all := faces()
		if alg < 1 || int(alg) > len(all) {
			if h, e := Of(api.Alg(alg)); e != api.ErrAlg || !isZero(h) {
				t.Fatal("Of:", e)
			}
			return
		}
		face := all[alg-1]
		l, s, rest := ledger.New(), face.hash(t).New(), message
		for _, cut := range cuts {
			n := min(int(cut), len(rest))
			write(t, s, l, rest[:n])
			rest = rest[n:]
			s = copied(t, s)
		}
		write(t, s, l, rest)
		wantEvents(t, "Writes", l, face.blocks(face.ofWrites(len(message)))...)
		face.wantMessage(t, s, message)
		if got, e := Sum(nil, api.Alg(alg), message); e != api.OK || !bytes.Equal(got, face.plain(message)) {
			t.Fatalf("Sum = %x, %d", got, e)
		}
	})
}
