package hmac

import (
	"bytes"
	std "crypto/hmac"
	std256 "crypto/sha256"
	std512 "crypto/sha512"
	"encoding/hex"
	"hash"
	"math/big"
	"math/rand"
	"slices"
	"strings"
	"sync"
	"testing"

	"turnkey/api"
	"turnkey/digest"
	"turnkey/ledger"
)

// other is an event of somebody else's, which stands in a ledger already.
var other = api.Event{Kind: api.EvOp, Size: 5}

// face is what the chapter says of an algorithm, and the language's own hash function of it.
type face struct {
	alg                           api.Alg
	size, block, tail, part, form int
	event                         api.Event
	std                           func() hash.Hash
}

// faces are both algorithms: tail is how many bytes may wait for their end to go into the same block, part a state's form.
func faces() []face {
	return []face{
		{
			alg: api.AlgHmac256, size: 32, block: 64, tail: 55, part: 104, form: 312,
			event: api.Event{Kind: api.EvSha256, Size: 64}, std: std256.New,
		},
		{
			alg: api.AlgHmac512, size: 64, block: 128, tail: 111, part: 200, form: 600,
			event: api.Event{Kind: api.EvSha512, Size: 128}, std: std512.New,
		},
	}
}

// keys are the lengths that the block key's rule turns at.
func (f face) keys() []int {
	return []int{0, 1, f.size, f.block - 1, f.block, f.block + 1, f.block + f.tail, f.block + f.tail + 1, 2 * f.block, 1000}
}

// edges are the lengths of messages that the rules turn at: about one block, and about the end of one.
func (f face) edges() []int {
	list := []int{0, 1, 2, 1000}
	for _, blocks := range []int{0, 1} {
		at := blocks * f.block
		list = append(list, at+f.tail, at+f.tail+1, at+f.block-1, at+f.block, at+f.block+1)
	}
	return list
}

// tag is the HMAC by the language's own.
func (f face) tag(key, message []byte) []byte {
	h := std.New(f.std, key)
	h.Write(message)
	return h.Sum(nil)
}

// plain is the HMAC by the chapter's words, over whole lists.
func (f face) plain(key, message []byte) []byte {
	inner := f.hashed(f.masked(key, 54), message)
	return f.hashed(f.masked(key, 92), inner)
}

// hashed is the hash of lists, one behind the other.
func (f face) hashed(lists ...[]byte) []byte {
	h := f.std()
	h.Write(slices.Concat(lists...))
	return h.Sum(nil)
}

// blockKey is the block key.
func (f face) blockKey(key []byte) []byte {
	if len(key) > f.block {
		key = f.hashed(key)
	}
	return slices.Concat(key, make([]byte, f.block-len(key)))
}

// masked is the inner or the outer key.
func (f face) masked(key []byte, mask byte) []byte {
	block := f.blockKey(key)
	for i := range block {
		block[i] ^= mask
	}
	return block
}

// blocks are so many events of a block.
func (f face) blocks(n int) []api.Event { return slices.Repeat([]api.Event{f.event}, n) }

// ofWrites is how many blocks become full by a message of m bytes.
func (f face) ofWrites(m int) int { return m / f.block }

// ofState is how many blocks a state's Sum records behind m bytes.
func (f face) ofState(m int) int {
	if m%f.block > f.tail {
		return 2
	}
	return 1
}

// ofSum is how many blocks Sum records behind a message of m bytes.
func (f face) ofSum(m int) int { return f.ofState(m) + 1 }

// ofNew is how many blocks New records of a key of k bytes.
func (f face) ofNew(k int) int {
	if k > f.block {
		return f.ofWrites(k) + f.ofState(k) + 2
	}
	return 2
}

// ofTag is how many blocks Tag records.
func (f face) ofTag(k, m int) int { return f.ofNew(k) + f.ofWrites(m) + f.ofSum(m) }

// wiped is what Wipe records.
func (f face) wiped() api.Event { return api.Event{Kind: api.EvWipe, Size: f.form} }

// stateForm is the form of a state of the layer below that took lists, one behind the other.
func (f face) stateForm(lists ...[]byte) []byte {
	h, _ := digest.Of(f.alg)
	s := h.New()
	s.Write(nil, slices.Concat(lists...))
	return s.Form()
}

// formOf is the form of a mac, part by part.
func (f face) formOf(key, message []byte) []byte {
	inner, outer := f.masked(key, 54), f.masked(key, 92)
	return slices.Concat(f.stateForm(inner, message), f.stateForm(outer), f.stateForm(inner))
}

// made is a new mac of a key, which must not be refused.
func (f face) made(t *testing.T, l *ledger.Ledger, key []byte) *Mac {
	t.Helper()
	m, e := New(l, f.alg, key)
	if e != api.OK || m == nil {
		t.Fatalf("New(%d) of %d bytes: %d", f.alg, len(key), e)
	}
	return m
}

// written is a new mac that took pieces.
func (f face) written(t *testing.T, key []byte, pieces ...[]byte) *Mac {
	t.Helper()
	m := f.made(t, nil, key)
	for _, p := range pieces {
		write(t, m, nil, p)
	}
	return m
}

// wantMac holds all that a mac tells against its key and message, twice: telling changes nothing.
func (f face) wantMac(t *testing.T, m *Mac, key, message []byte) {
	t.Helper()
	l, want, form := ledger.New(), f.tag(key, message), f.formOf(key, message)
	for range 2 {
		if got := m.Form(); !bytes.Equal(got, form) || len(got) != f.form {
			t.Fatalf("%d: Form of %d bytes is %x, want %x", f.alg, len(message), got, form)
		}
		if got := m.Size(); got != f.size {
			t.Fatalf("%d: Size is %d", f.alg, got)
		}
		for _, l := range []*ledger.Ledger{l, nil} {
			if got, e := m.Sum(l); e != api.OK || !bytes.Equal(got, want) || len(got) != f.size {
				t.Fatalf("%d: Sum of %d bytes is %x, %d, want %x", f.alg, len(message), got, e, want)
			}
		}
		wantEvents(t, "Sum", l, f.blocks(f.ofSum(len(message)))...)
	}
}

// wantNone holds all calls of a mac that is none against rule 4.
func wantNone(t *testing.T, what string, m *Mac) {
	t.Helper()
	l := ledger.New()
	l.Note(other)
	for _, l := range []*ledger.Ledger{l, nil} {
		for _, p := range [][]byte{nil, {}, {7}, make([]byte, 300)} {
			if e := m.Write(l, p); e != api.ErrNil {
				t.Errorf("%s: Write of %d bytes: %d", what, len(p), e)
			}
		}
		if got, e := m.Sum(l); len(got) != 0 || e != api.ErrNil {
			t.Errorf("%s: Sum: %x, %d", what, got, e)
		}
		if e := m.Reset(); e != api.ErrNil {
			t.Errorf("%s: Reset: %d", what, e)
		}
		if c, e := m.Clone(); c != nil || e != api.ErrNil {
			t.Errorf("%s: Clone: %v, %d", what, c, e)
		}
		if e := m.Wipe(l); e != api.ErrNil {
			t.Errorf("%s: Wipe: %d", what, e)
		}
		if got := m.Form(); len(got) != 0 {
			t.Errorf("%s: Form: %x", what, got)
		}
		if got := m.Size(); got != 0 {
			t.Errorf("%s: Size: %d", what, got)
		}
	}
	wantEvents(t, what, l, other)
}

// wantEvents holds a ledger against the events that it must have, one by one, and empties it.
func wantEvents(t *testing.T, what string, l *ledger.Ledger, want ...api.Event) {
	t.Helper()
	if got := slices.Collect(l.All()); !slices.Equal(got, want) {
		t.Fatalf("%s recorded %v, want %v", what, got, want)
	}
	l.Reset()
}

// write writes a piece, and must not be refused.
func write(t *testing.T, m *Mac, l *ledger.Ledger, p []byte) {
	t.Helper()
	if e := m.Write(l, p); e != api.OK {
		t.Fatalf("Write of %d bytes: %d", len(p), e)
	}
}

// reset resets a mac, and must not be refused.
func reset(t *testing.T, m *Mac) {
	t.Helper()
	if e := m.Reset(); e != api.OK {
		t.Fatal("Reset:", e)
	}
}

// cloned clones a mac, and must not be refused.
func cloned(t *testing.T, m *Mac) *Mac {
	t.Helper()
	c, e := m.Clone()
	if e != api.OK || c == nil || c == m {
		t.Fatalf("Clone: %v, %d", c, e)
	}
	return c
}

// random makes n bytes, the same ones for the same seed.
func random(seed int64, n int) []byte {
	b := make([]byte, n)
	rand.New(rand.NewSource(seed)).Read(b)
	return b
}

// unhex takes bytes out of a text to the base 16, with gaps.
func unhex(t *testing.T, text string) []byte {
	t.Helper()
	b, err := hex.DecodeString(strings.ReplaceAll(text, " ", ""))
	if err != nil {
		t.Fatal(err)
	}
	return b
}

// overwrite writes over a list and over its spare room.
func overwrite(b []byte) {
	for i := range b[:cap(b)] {
		b[:cap(b)][i] = 0x99
	}
}

func TestExamplesOfTags(t *testing.T) { // the chapter's, and example 2 of the whole
	examples := []struct {
		alg          api.Alg
		key, message string
		begin        string
	}{
		{api.AlgHmac256, "key", "The quick brown fox jumps over the lazy dog", "f7bc83f430538424b13298e6aa6fb143ef4d59a14946175997479dbc2d1a3cd8"},
		{api.AlgHmac256, "", "", "b613679a0814d9ec772f95d778c35fc5ff1697c493715653c6c712144292c5ad"},
		{api.AlgHmac512, "key", "abc", "3926a207c8c42b0c41792cbd3e1a1aaa"},
		{api.AlgHmac256, "Jefe", "what do ya want for nothing?", "5bdcc146 bf60754e 6a042426 089575c7 5a003f08 9d273983 9dec58b9 64ec3843"},
	}
	for _, x := range examples {
		f, l := faces()[x.alg-1], ledger.New()
		got, e := Tag(l, x.alg, []byte(x.key), []byte(x.message))
		if e != api.OK || len(got) != f.size || !bytes.HasPrefix(got, unhex(t, x.begin)) {
			t.Errorf("Tag of %q and %q: %x, %d", x.key, x.message, got, e)
		}
		wantEvents(t, "Tag", l, f.blocks(4)...)
	}
}

func TestExamplesOfMacs(t *testing.T) { // the chapter's
	l, block := ledger.New(), api.Event{Kind: api.EvSha256, Size: 64}
	for length, times := range map[int]int{65: 4, 64: 2} {
		if _, e := New(l, api.AlgHmac256, make([]byte, length)); e != api.OK {
			t.Error("New:", e)
		}
		wantEvents(t, "New", l, slices.Repeat([]api.Event{block}, times)...)
	}
	for _, a := range []api.Alg{api.AlgCmac, 0} {
		if m, e := New(l, a, nil); e != api.ErrAlg || m != nil {
			t.Errorf("New of %d: %v, %d", a, m, e)
		}
	}
	for length, times := range map[int]int{55: 2, 56: 3, 64: 2} {
		m := faces()[0].written(t, nil, make([]byte, length))
		if _, e := m.Sum(l); e != api.OK {
			t.Error("Sum:", e)
		}
		wantEvents(t, "Sum", l, slices.Repeat([]api.Event{block}, times)...)
	}
	m, _ := New(nil, api.AlgHmac256, []byte("whatever"))
	form := m.Form()
	if want := []byte{0, 0, 0, 0, 0, 0, 0, 64}; len(form) != 312 || !bytes.Equal(form[32:40], want) || !bytes.Equal(form[136:144], want) {
		t.Errorf("Form: %x", form)
	}
}

func TestVectorsOfRFC4231(t *testing.T) { // P12.6: a short key, and one longer than a block
	short, long := bytes.Repeat([]byte{0x0b}, 20), bytes.Repeat([]byte{0xaa}, 131)
	hi, larger := "Hi There", "Test Using Larger Than Block-Size Key - Hash Key First"
	vectors := []struct {
		alg     api.Alg
		key     []byte
		message string
		begin   string
	}{
		{api.AlgHmac256, short, hi, "b0344c61 d8db3853"},
		{api.AlgHmac512, short, hi, "87aa7cde a5ef619d"},
		{api.AlgHmac256, long, larger, "60e43159 1ee0b67f"},
		{api.AlgHmac512, long, larger, "80b24263 c7c1a3eb"},
	}
	for _, v := range vectors {
		if got, e := Tag(nil, v.alg, v.key, []byte(v.message)); e != api.OK || !bytes.HasPrefix(got, unhex(t, v.begin)) {
			t.Errorf("%d: Tag of %q: %x, %d", v.alg, v.message, got, e)
		}
	}
}

func TestAllNumbers(t *testing.T) { // P12.1, P12.6, rule 2: all 256, the seven algorithms and 0 among them
	l := ledger.New()
	l.Note(other)
	refused := 0
	for n := range 256 {
		a := api.Alg(n)
		if a == api.AlgHmac256 || a == api.AlgHmac512 {
			continue
		}
		refused++
		for _, l := range []*ledger.Ledger{l, nil} {
			for _, key := range [][]byte{nil, {}, []byte("key"), make([]byte, 300)} {
				if m, e := New(l, a, key); e != api.ErrAlg || m != nil {
					t.Errorf("New of %d: %v, %d", n, m, e)
				}
				for _, p := range [][]byte{nil, {}, []byte("abc"), make([]byte, 300)} {
					if got, e := Tag(l, a, key, p); e != api.ErrAlg || len(got) != 0 {
						t.Errorf("Tag of %d: %x, %d", n, got, e)
					}
				}
			}
		}
	}
	if refused != 254 {
		t.Errorf("%d numbers were asked", refused)
	}
	wantEvents(t, "all refused", l, other)
}

func TestTagsOfAllKeysAndMessages(t *testing.T) { // P12.1, P12.6, P12.7
	for _, f := range faces() {
		l := ledger.New()
		for _, k := range f.keys() {
			for _, n := range f.edges() {
				key, message := random(int64(k), k), random(int64(n)+1, n)
				want := f.tag(key, message)
				if !bytes.Equal(want, f.plain(key, message)) {
					t.Fatal("the chapter's words are not the language's own")
				}
				for _, l := range []*ledger.Ledger{l, nil} {
					if got, e := Tag(l, f.alg, key, message); e != api.OK || !bytes.Equal(got, want) || len(got) != f.size {
						t.Fatalf("%d: Tag of %d and %d bytes is %x, %d, want %x", f.alg, k, n, got, e, want)
					}
				}
				wantEvents(t, "Tag", l, f.blocks(f.ofTag(k, n))...)
			}
		}
	}
}

func TestAllShortKeys(t *testing.T) { // P12.1
	p, message := random(121, 400), random(122, 70)
	for _, f := range faces() {
		l := ledger.New()
		for k := range len(p) + 1 {
			m := f.made(t, l, p[:k])
			wantEvents(t, "New", l, f.blocks(f.ofNew(k))...)
			f.wantMac(t, m, p[:k], nil)
			if got, e := Tag(nil, f.alg, p[:k], message); e != api.OK || !bytes.Equal(got, f.tag(p[:k], message)) {
				t.Fatalf("%d: Tag with a key of %d bytes is %x, %d", f.alg, k, got, e)
			}
		}
	}
}

func TestAllShortMessages(t *testing.T) { // P12.2, P12.3
	p, key := random(123, 400), random(124, 33)
	for _, f := range faces() {
		l := ledger.New()
		for n := range len(p) + 1 {
			m := f.made(t, nil, key)
			write(t, m, l, p[:n])
			wantEvents(t, "Write", l, f.blocks(f.ofWrites(n))...)
			f.wantMac(t, m, key, p[:n])
		}
	}
}

func TestLongKeysAndMessages(t *testing.T) { // P12.6: lengths of several bytes
	for _, f := range faces() {
		for _, n := range []int{8191, 65535, 65536, 1<<20 + 111} {
			p, l := random(int64(n), n), ledger.New()
			if got, e := Tag(l, f.alg, p, p); e != api.OK || !bytes.Equal(got, f.tag(p, p)) {
				t.Errorf("%d: Tag of %d bytes is %x, %d", f.alg, n, got, e)
			}
			if want := []api.Run{{Event: f.event, Count: f.ofTag(n, n)}}; !ledger.Same(l.Runs(), want) {
				t.Errorf("%d: Tag of %d bytes recorded %v", f.alg, n, l.Runs())
			}
		}
	}
}

func TestFormPartByPart(t *testing.T) { // P12.5: the inner, the outer and the first state
	for _, f := range faces() {
		for _, k := range f.keys() {
			for _, n := range f.edges() {
				key, message := random(125, k), random(126, n)
				form := f.written(t, key, message).Form()
				if len(form) != f.form || f.form != 3*f.part {
					t.Fatalf("%d: Form has %d bytes", f.alg, len(form))
				}
				part := func(i int) []byte { return form[i*f.part : (i+1)*f.part] }
				length := func(i int) []byte { return part(i)[f.size : f.size+8] }
				laid := func(n int) []byte { return big.NewInt(int64(n)).FillBytes(make([]byte, 8)) }
				if !bytes.Equal(length(0), laid(f.block+n)) || !bytes.Equal(length(1), laid(f.block)) || !bytes.Equal(length(2), laid(f.block)) {
					t.Errorf("%d: the lengths in %x", f.alg, form)
				}
				for i := range 3 {
					waiting := make([]byte, f.block)
					if i == 0 {
						copy(waiting, message[n/f.block*f.block:])
					}
					if !bytes.Equal(part(i)[f.size+8:], waiting) {
						t.Errorf("%d: what waits in part %d of %x", f.alg, i, form)
					}
				}
				if bytes.Equal(part(1), part(2)) || bytes.Equal(part(0), part(2)) != (n == 0) {
					t.Errorf("%d: the parts of %x are alike", f.alg, form)
				}
				if want := f.formOf(key, message); !bytes.Equal(form, want) {
					t.Errorf("%d: Form is %x, want %x", f.alg, form, want)
				}
			}
		}
	}
}

func TestInPieces(t *testing.T) { // P12.7: two cuts, all about the edges; pieces of 0 bytes among them
	for _, f := range faces() {
		key := random(127, 20)
		for _, n := range f.edges() {
			message := random(128, n)
			for _, at := range f.edges() {
				cut := min(at, n)
				l, m := ledger.New(), f.made(t, nil, key)
				for _, piece := range [][]byte{nil, message[:cut], {}, message[cut:], message[n:]} {
					write(t, m, l, piece)
				}
				wantEvents(t, "Writes", l, f.blocks(f.ofWrites(n))...)
				f.wantMac(t, m, key, message)
			}
		}
	}
}

func TestByteByByteWithSumBetween(t *testing.T) { // P12.2, P12.3: Sum in the midst of a message, and again, leaves the mac
	p := random(129, 300)
	for _, f := range faces() {
		key := random(130, f.block+5)
		l, m := ledger.New(), f.made(t, nil, key)
		for i := range p {
			for range 2 {
				if got, e := m.Sum(l); e != api.OK || !bytes.Equal(got, f.tag(key, p[:i])) {
					t.Fatalf("%d: Sum of %d bytes is %x, %d", f.alg, i, got, e)
				}
				wantEvents(t, "Sum", l, f.blocks(f.ofSum(i))...)
			}
			write(t, m, l, p[i:i+1])
			wantEvents(t, "Write of a byte", l, f.blocks(f.ofWrites(i+1)-f.ofWrites(i))...)
		}
		f.wantMac(t, m, key, p)
	}
}

func TestPiecesRecordTheWhole(t *testing.T) { // P12.6, P12.7: New, Writes and Sum record what Tag does
	r := rand.New(rand.NewSource(131))
	for _, f := range faces() {
		for range 60 {
			key, message := random(r.Int63(), r.Intn(300)), random(r.Int63(), r.Intn(500))
			whole, pieces := ledger.New(), ledger.New()
			want, e := Tag(whole, f.alg, key, message)
			m, rest := f.made(t, pieces, key), message
			for len(rest) > 0 {
				n := r.Intn(len(rest) + 1)
				write(t, m, pieces, rest[:n])
				rest = rest[n:]
			}
			if got, x := m.Sum(pieces); e != api.OK || x != api.OK || !bytes.Equal(got, want) {
				t.Fatalf("%d: Sum is %x, %d, Tag %x, %d", f.alg, got, x, want, e)
			}
			if !ledger.Same(whole.Runs(), pieces.Runs()) || whole.Len() != f.ofTag(len(key), len(message)) {
				t.Fatalf("%d: the pieces recorded %v, the whole %v", f.alg, pieces.Runs(), whole.Runs())
			}
		}
	}
}

func TestKeysThatAreAlike(t *testing.T) { // P12.7
	message := random(132, 200)
	for _, f := range faces() {
		for _, k := range f.keys() {
			key := random(133, k)
			alike := [][]byte{f.blockKey(key)}
			if k > f.block {
				alike = append(alike, f.hashed(key))
			} else {
				alike = append(alike, slices.Concat(key, make([]byte, (f.block-k)/2)))
			}
			want, _ := Tag(nil, f.alg, key, message)
			form := f.made(t, nil, key).Form()
			for _, also := range alike {
				if got, e := Tag(nil, f.alg, also, message); e != api.OK || !bytes.Equal(got, want) {
					t.Errorf("%d: a key of %d bytes and its like of %d: %x, %x", f.alg, k, len(also), want, got)
				}
				if !bytes.Equal(f.made(t, nil, also).Form(), form) {
					t.Errorf("%d: a key of %d bytes and its like of %d: the forms", f.alg, k, len(also))
				}
			}
			// A nought too many is another key: behind a whole block the key is hashed.
			unlike := slices.Concat(f.blockKey(key), []byte{0})
			if got, e := Tag(nil, f.alg, unlike, message); e != api.OK || bytes.Equal(got, want) {
				t.Errorf("%d: a key of %d bytes is like one of %d", f.alg, k, len(unlike))
			}
		}
	}
}

func TestReset(t *testing.T) { // P12.4, P12.7: ahead of any Write, in the midst of a block, about its end, behind a Sum
	for _, f := range faces() {
		for _, k := range f.keys() {
			key := random(134, k)
			m := f.made(t, nil, key)
			fresh := m.Form()
			reset(t, m)
			f.wantMac(t, m, key, nil)
			for _, n := range f.edges() {
				write(t, m, nil, random(135, n))
				if n%2 == 0 {
					m.Sum(nil)
				}
				reset(t, m)
				if !bytes.Equal(m.Form(), fresh) {
					t.Errorf("%d: behind Reset the form is %x, want %x", f.alg, m.Form(), fresh)
				}
				f.wantMac(t, m, key, nil)
				l, message := ledger.New(), random(136, n)
				write(t, m, l, message)
				wantEvents(t, "Write behind Reset", l, f.blocks(f.ofWrites(n))...)
				f.wantMac(t, m, key, message)
				reset(t, m)
				reset(t, m)
			}
		}
	}
}

func TestResetOften(t *testing.T) { // P12.7: what stands for the empty message is not used up
	for _, f := range faces() {
		key := random(137, 40)
		m, c := f.made(t, nil, key), f.made(t, nil, key)
		for i := range 50 {
			message := random(int64(i), 3*i)
			write(t, m, nil, message)
			c = cloned(t, m)
			f.wantMac(t, c, key, message)
			reset(t, c)
			f.wantMac(t, c, key, nil)
			f.wantMac(t, m, key, message)
			reset(t, m)
		}
		f.wantMac(t, m, key, nil)
	}
}

func TestEmptyAndNilAreTheSame(t *testing.T) { // P12.1, P12.2, P12.6; DOC.md's words
	room := []byte{1, 2, 3}
	for _, f := range faces() {
		for _, none := range [][]byte{nil, {}, room[:0], room[1:1]} {
			l := ledger.New()
			if got, e := Tag(l, f.alg, none, none); e != api.OK || !bytes.Equal(got, f.tag(nil, nil)) {
				t.Errorf("%d: Tag of none: %x, %d", f.alg, got, e)
			}
			wantEvents(t, "Tag of none", l, f.blocks(4)...)
			m := f.made(t, l, none)
			wantEvents(t, "New of none", l, f.blocks(2)...)
			f.wantMac(t, m, nil, nil)
			for _, n := range f.edges() {
				m := f.written(t, none, random(138, n))
				write(t, m, l, none)
				wantEvents(t, "Write of none", l)
				f.wantMac(t, m, nil, random(138, n))
			}
		}
	}
}

func TestCloneGoesOnByItself(t *testing.T) { // P12.4: ahead of any Write (0 bytes), in the midst of a block, about its end
	for _, f := range faces() {
		key := random(139, 50)
		for _, n := range f.edges() {
			for _, more := range f.edges() {
				message, one, two := random(140, n), random(141, more), random(142, more+1)
				elder := f.made(t, nil, key)
				if n > 0 {
					write(t, elder, nil, message)
				}
				younger := cloned(t, elder)
				f.wantMac(t, younger, key, message)
				write(t, elder, nil, one)
				f.wantMac(t, younger, key, message)
				write(t, younger, nil, two)
				f.wantMac(t, elder, key, slices.Concat(message, one))
				f.wantMac(t, younger, key, slices.Concat(message, two))
				reset(t, younger)
				f.wantMac(t, elder, key, slices.Concat(message, one))
				f.wantMac(t, younger, key, nil)
			}
		}
	}
}

func TestCloneOutlivesItsElder(t *testing.T) { // P12.4, P12.5: with its key, too
	for _, f := range faces() {
		for _, n := range f.edges() {
			key, message := random(143, 70), random(144, n)
			elder := f.written(t, key, message)
			younger := cloned(t, elder)
			third := cloned(t, younger)
			elder.Wipe(nil)
			f.wantMac(t, younger, key, message)
			reset(t, younger)
			younger.Wipe(nil)
			f.wantMac(t, third, key, message)
			reset(t, third)
			f.wantMac(t, third, key, nil)
			wantNone(t, "elder", elder)
			wantNone(t, "younger", younger)
		}
	}
}

func TestWipe(t *testing.T) { // P12.5, rule 4
	for _, f := range faces() {
		for _, n := range f.edges() {
			for _, l := range []*ledger.Ledger{ledger.New(), nil} {
				m := f.written(t, random(145, 30), random(146, n))
				states := m.states
				if e := m.Wipe(l); e != api.OK {
					t.Fatal("Wipe:", e)
				}
				if l != nil {
					wantEvents(t, "Wipe", l, f.wiped())
				}
				wantNone(t, "wiped", m)
				if *m != (Mac{}) {
					t.Errorf("%d: the memory is not noughts", f.alg)
				}
				// DOC.md's words: nor is any of it left in the states that it had.
				for i, s := range states {
					if len(s.Form()) != 0 {
						t.Errorf("%d: state %d is not wiped", f.alg, i)
					}
				}
			}
		}
	}
}

func TestNone(t *testing.T) { // P12.2 to P12.5, rule 4
	wantNone(t, "nil", nil)
	wantNone(t, "zero", &Mac{})
	wantNone(t, "new", new(Mac))
	var none Mac
	wantNone(t, "var", &none)
}

func TestMacsAreEachByItself(t *testing.T) { // P1, rule 7: no memory is shared by what New makes
	for _, f := range faces() {
		keys := [][]byte{nil, random(147, 10), random(147, 10), random(148, 200)}
		macs, messages := make([]*Mac, len(keys)), make([][]byte, len(keys))
		for i, key := range keys {
			macs[i] = f.made(t, nil, key)
		}
		r := rand.New(rand.NewSource(149))
		for range 300 {
			i := r.Intn(len(macs))
			if r.Intn(20) == 0 {
				reset(t, macs[i])
				messages[i] = nil
			}
			piece := random(r.Int63(), r.Intn(90))
			write(t, macs[i], nil, piece)
			messages[i] = append(messages[i], piece...)
		}
		gone := f.made(t, nil, keys[1])
		gone.Wipe(nil)
		for i, m := range macs {
			f.wantMac(t, m, keys[i], messages[i])
		}
	}
}

func TestMacsInGoroutines(t *testing.T) { // rules 6, 7: clones of one mac, each in a goroutine of its own
	for _, f := range faces() {
		var wait sync.WaitGroup
		key := random(150, 90)
		elder := f.written(t, key, []byte("begin"))
		for i := range 8 {
			m := cloned(t, elder)
			wait.Go(func() {
				message := random(int64(i), 3000+i)
				for piece := range slices.Chunk(message, 17+i) {
					m.Write(nil, piece)
				}
				if got, e := m.Sum(nil); e != api.OK || !bytes.Equal(got, f.tag(key, slices.Concat([]byte("begin"), message))) {
					t.Errorf("goroutine %d: %x, %d", i, got, e)
				}
				m.Reset()
				if got, e := Tag(nil, f.alg, key, message); e != api.OK || !bytes.Equal(got, f.tag(key, message)) {
					t.Errorf("goroutine %d: Tag %x, %d", i, got, e)
				}
				m.Wipe(nil)
			})
		}
		wait.Wait()
		f.wantMac(t, elder, key, []byte("begin"))
	}
}

func TestAnswersAreNew(t *testing.T) { // rule 3
	for _, f := range faces() {
		for _, n := range f.edges() {
			key, message := random(151, 60), random(152, n)
			m := f.written(t, key, message)
			tell := func() [][]byte {
				sum, _ := m.Sum(nil)
				tag, _ := Tag(nil, f.alg, key, message)
				return [][]byte{sum, m.Form(), tag}
			}
			one, two := tell(), tell()
			for i, answer := range one {
				want := bytes.Clone(two[i])
				if room := answer[len(answer):cap(answer)]; !bytes.Equal(room, make([]byte, len(room))) {
					t.Errorf("%d bytes: the spare room of answer %d has %x", n, i, room)
				}
				overwrite(answer)
				if !bytes.Equal(two[i], want) || !bytes.Equal(tell()[i], want) {
					t.Errorf("%d bytes: answer %d that was written over shows elsewhere", n, i)
				}
			}
			f.wantMac(t, m, key, message)
			// Nor does an answer change with what is called later.
			write(t, m, nil, make([]byte, 2*f.block))
			reset(t, m)
			m.Wipe(nil)
			if want := f.tag(key, message); !bytes.Equal(two[0], want) || !bytes.Equal(two[1], f.formOf(key, message)) || !bytes.Equal(two[2], want) {
				t.Errorf("%d bytes: an answer has changed", n)
			}
		}
	}
}

func TestBytesAreNotKept(t *testing.T) { // rule 3: keys and pieces are neither changed nor looked at again
	for _, f := range faces() {
		for _, k := range f.keys() {
			for _, n := range f.edges() {
				key, message := random(153, k), random(154, n)
				wide, whole := slices.Concat([]byte{81, 82}, key, random(155, 300)), slices.Concat([]byte{91, 92}, message, []byte{93, 94, 95})
				wasWide, wasWhole := bytes.Clone(wide), bytes.Clone(whole)
				handed, piece := wide[2:2+k], whole[2:2+n]
				m := f.written(t, handed, piece[:n/2], piece[n/2:])
				c := cloned(t, m)
				if got, e := Tag(nil, f.alg, handed, piece); e != api.OK || !bytes.Equal(got, f.tag(key, message)) {
					t.Fatalf("Tag: %x, %d", got, e)
				}
				if !bytes.Equal(wide, wasWide) || !bytes.Equal(whole, wasWhole) {
					t.Errorf("%d and %d bytes: what was handed in has changed", k, n)
				}
				overwrite(wide)
				overwrite(whole)
				f.wantMac(t, m, key, message)
				f.wantMac(t, c, key, message)
				write(t, m, nil, []byte("more"))
				f.wantMac(t, m, key, slices.Concat(message, []byte("more")))
				reset(t, c)
				f.wantMac(t, c, key, nil)
			}
		}
	}
}

func TestKeyIsTheMessage(t *testing.T) { // rule 3: one list as both
	for _, f := range faces() {
		for _, n := range f.keys() {
			b := random(156, n)
			if got, e := Tag(nil, f.alg, b, b); e != api.OK || !bytes.Equal(got, f.tag(random(156, n), random(156, n))) {
				t.Errorf("%d bytes: %x, %d", n, got, e)
			}
		}
	}
}

func TestLedgerHangsOnLengths(t *testing.T) { // P12.7, rule 9
	for _, f := range faces() {
		for _, k := range f.keys() {
			for _, n := range f.edges() {
				for seed, fill := range []func(n int) []byte{
					func(n int) []byte { return make([]byte, n) },
					func(n int) []byte { return bytes.Repeat([]byte{255}, n) },
					func(n int) []byte { return random(157, n) },
				} {
					l := ledger.New()
					m := f.made(t, l, fill(k))
					write(t, m, l, fill(n))
					m.Sum(l)
					m.Form()
					m.Clone()
					m.Reset()
					Tag(l, f.alg, fill(k), fill(n))
					m.Wipe(l)
					if want := append(f.blocks(2*f.ofTag(k, n)), f.wiped()); !slices.Equal(slices.Collect(l.All()), want) {
						t.Errorf("%d: fill %d of %d and %d bytes recorded %v", f.alg, seed, k, n, l.Runs())
					}
				}
			}
		}
	}
}

func TestRecordedBehindAllOthers(t *testing.T) { // rule 5; the zero Ledger is one, too
	for _, f := range faces() {
		var l ledger.Ledger
		l.Note(other)
		m := f.made(t, &l, make([]byte, f.block+1))
		l.Note(other)
		write(t, m, &l, make([]byte, 2*f.block+1))
		l.Note(other)
		m.Sum(&l)
		l.Note(other)
		Tag(&l, f.alg, nil, make([]byte, f.tail+1))
		m.Wipe(&l)
		l.Note(other)
		o := []api.Event{other}
		want := slices.Concat(o, f.blocks(4), o, f.blocks(2), o, f.blocks(2), o, f.blocks(5), []api.Event{f.wiped()}, o)
		wantEvents(t, "five calls", &l, want...)
	}
}

func FuzzInPieces(f *testing.F) { // P1, P12.1 to P12.7
	f.Add(byte(1), []byte{}, []byte{}, []byte{})
	f.Add(byte(2), []byte("key"), []byte("abc"), []byte{1, 0, 1})
	f.Add(byte(1), make([]byte, 65), make([]byte, 129), []byte{63, 1, 65})
	f.Add(byte(2), make([]byte, 129), bytes.Repeat([]byte{255}, 250), []byte{111, 128})
	f.Add(byte(3), []byte("key"), []byte("abc"), []byte{1})
	f.Fuzz(func(t *testing.T, alg byte, key, message, cuts []byte) {
		all := faces()
		if alg < 1 || int(alg) > len(all) {
			if m, e := New(nil, api.Alg(alg), key); e != api.ErrAlg || m != nil {
				t.Fatal("New:", e)
			}
			return
		}
		face := all[alg-1]
		l := ledger.New()
		m, rest := face.made(t, l, key), message
		wantEvents(t, "New", l, face.blocks(face.ofNew(len(key)))...)
		for _, cut := range cuts {
			n := min(int(cut), len(rest))
			write(t, m, l, rest[:n])
			rest = rest[n:]
			m = cloned(t, m)
		}
		write(t, m, l, rest)
		wantEvents(t, "Writes", l, face.blocks(face.ofWrites(len(message)))...)
		face.wantMac(t, m, key, message)
		if got, e := Tag(nil, api.Alg(alg), key, message); e != api.OK || !bytes.Equal(got, face.tag(key, message)) {
			t.Fatalf("Tag: %x, %d", got, e)
		}
		reset(t, m)
		face.wantMac(t, m, key, nil)
	})
}
