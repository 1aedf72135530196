package cmac

import (
	"bytes"
	std "crypto/aes"
	"encoding/hex"
	"math/big"
	"math/rand"
	"slices"
	"strings"
	"sync"
	"testing"

	"turnkey/aes"
	"turnkey/api"
	"turnkey/ledger"
)

// other is an event of somebody else's, which stands in a ledger already.
var other = api.Event{Kind: api.EvOp, Size: 5}

// The key and the message of the chapter's examples; the message goes on, as the standard's does.
const (
	exampleKey     = "2b7e151628aed2a6abf7158809cf4f3c"
	exampleMessage = "6bc1bee22e409f96e93d7e117393172a ae2d8a571e03ac9c9eb76fac45af8e51 30c81c46a35ce411e5fbc1191a0a52ef f69f2445df4f9b17ad2b417be66c3710"
)

// keyLens are the lengths that keys may have.
func keyLens() []int { return []int{16, 24, 32} }

// edges are the lengths of messages that the rules turn at: about the end of a block, and many.
func edges() []int { return []int{0, 1, 15, 16, 17, 31, 32, 33, 47, 48, 49, 200} }

// formLen is how many bytes the form of a mac has, by its key's length.
func formLen(k int) int { return map[int]int{16: 241, 24: 273, 32: 305}[k] }

// roundKeyLen is how many of them are the round keys.
func roundKeyLen(k int) int { return map[int]int{16: 176, 24: 208, 32: 240}[k] }

// ofWrites is how many blocks are enciphered by the writes of a message of n bytes: all but the last one.
func ofWrites(n int) int { return max(0, n-1) / 16 }

// ciphered are so many events of a block, by a key of k bytes.
func ciphered(k, n int) []api.Event {
	return slices.Repeat([]api.Event{{Kind: api.EvAes, Size: k}}, n)
}

// ofNew is what New records of a key of k bytes.
func ofNew(k int) []api.Event {
	return append([]api.Event{{Kind: api.EvSchedule, Size: k}}, ciphered(k, 1)...)
}

// ofTag is what Tag records of a key of k bytes and a message of n.
func ofTag(k, n int) []api.Event {
	return append(ofNew(k), ciphered(k, max(1, (n+15)/16))...)
}

// wiped is what Wipe records.
func wiped(k int) api.Event { return api.Event{Kind: api.EvWipe, Size: formLen(k)} }

// enciphered is a block that went through the cipher of the layer below.
func enciphered(key []byte, b [16]byte) [16]byte {
	c, _ := aes.New(nil, key)
	out, _ := c.Encrypt(nil, b)
	return out
}

// stdEnciphered is a block that went through the language's own cipher.
func stdEnciphered(key []byte, b [16]byte) [16]byte {
	c, err := std.NewCipher(key)
	if err != nil {
		panic(err)
	}
	c.Encrypt(b[:], b[:])
	return b
}

// doubled is the double as a number of 128 bits.
func doubled(b [16]byte) [16]byte {
	n := new(big.Int).SetBytes(b[:])
	n.Lsh(n, 1)
	if n.Bit(128) == 1 {
		n.SetBit(n, 128, 0)
		n.Xor(n, big.NewInt(0x87))
	}
	var out [16]byte
	n.FillBytes(out[:])
	return out
}

// subkeys are K1 and K2.
func subkeys(key []byte) (one, two [16]byte) {
	one = doubled(stdEnciphered(key, [16]byte{}))
	return one, doubled(one)
}

// blocksOf cuts a message as the chapter says; the last one may be short, or have no bytes.
func blocksOf(message []byte) [][]byte {
	if len(message) == 0 {
		return [][]byte{nil}
	}
	return slices.Collect(slices.Chunk(message, 16))
}

// plain is the tag by the chapter's words, over whole lists, of whichever cipher.
func plain(cipher func(key []byte, b [16]byte) [16]byte, key, message []byte) []byte {
	one := doubled(cipher(key, [16]byte{}))
	two := doubled(one)
	blocks := blocksOf(message)
	var have [16]byte
	for i, b := range blocks {
		with := make([]byte, 16)
		if i == len(blocks)-1 {
			if len(b) == 16 {
				with = one[:]
			} else {
				b, with = slices.Concat(b, []byte{0x80}, make([]byte, 15-len(b))), two[:]
			}
		}
		for j := range have {
			have[j] ^= b[j] ^ with[j]
		}
		have = cipher(key, have)
	}
	return have[:]
}

// tagOf is the tag by the language's own cipher.
func tagOf(key, message []byte) []byte { return plain(stdEnciphered, key, message) }

// waitingOf is what waits of a message: all that no byte came behind a whole block of.
func waitingOf(message []byte) []byte { return message[16*ofWrites(len(message)):] }

// chainOf is the chain behind a message.
func chainOf(key, message []byte) [16]byte {
	var chain [16]byte
	for i := range ofWrites(len(message)) {
		for j := range chain {
			chain[j] ^= message[16*i+j]
		}
		chain = stdEnciphered(key, chain)
	}
	return chain
}

// formOf is the form of a mac, part by part.
func formOf(key, message []byte) []byte {
	c, _ := aes.New(nil, key)
	one, two := subkeys(key)
	chain, waits := chainOf(key, message), waitingOf(message)
	return slices.Concat(c.Form(), one[:], two[:], chain[:], waits, make([]byte, 16-len(waits)), []byte{byte(len(waits))})
}

// made is a new mac of a key, which must not be refused.
func made(t *testing.T, l *ledger.Ledger, key []byte) *Mac {
	t.Helper()
	m, e := New(l, key)
	if e != api.OK || m == nil {
		t.Fatalf("New of %d bytes: %d", len(key), e)
	}
	return m
}

// written is a new mac that took pieces.
func written(t *testing.T, key []byte, pieces ...[]byte) *Mac {
	t.Helper()
	m := made(t, nil, key)
	for _, p := range pieces {
		write(t, m, nil, p)
	}
	return m
}

// wantMac holds all that a mac tells against its key and message, twice: telling changes nothing.
func wantMac(t *testing.T, m *Mac, key, message []byte) {
	t.Helper()
	l, want, form := ledger.New(), tagOf(key, message), formOf(key, message)
	for range 2 {
		if got := m.Form(); !bytes.Equal(got, form) || len(got) != formLen(len(key)) {
			t.Fatalf("Form of %d bytes is %x, want %x", len(message), got, form)
		}
		for _, l := range []*ledger.Ledger{l, nil} {
			if got, e := m.Sum(l); e != api.OK || !bytes.Equal(got, want) {
				t.Fatalf("Sum of %d bytes is %x, %d, want %x", len(message), got, e, want)
			}
		}
		wantEvents(t, "Sum", l, ciphered(len(key), 1)...)
	}
}

// wantNone holds all calls of a mac that is none against rule 4.
func wantNone(t *testing.T, what string, m *Mac) {
	t.Helper()
	l := ledger.New()
	l.Note(other)
	for _, l := range []*ledger.Ledger{l, nil} {
		for _, p := range [][]byte{nil, {}, {7}, make([]byte, 16), make([]byte, 17), make([]byte, 300)} {
			if e := m.Write(l, p); e != api.ErrNil {
				t.Errorf("%s: Write of %d bytes: %d", what, len(p), e)
			}
		}
		if got, e := m.Sum(l); len(got) != 0 || e != api.ErrNil {
			t.Errorf("%s: Sum: %x, %d", what, got, e)
		}
		if e := m.Reset(); e != api.ErrNil {
			t.Errorf("%s: Reset: %d", what, e)
		}
		if c, e := m.Clone(); c != nil || e != api.ErrNil {
			t.Errorf("%s: Clone: %v, %d", what, c, e)
		}
		if e := m.Wipe(l); e != api.ErrNil {
			t.Errorf("%s: Wipe: %d", what, e)
		}
		if got := m.Form(); len(got) != 0 {
			t.Errorf("%s: Form: %x", what, got)
		}
	}
	wantEvents(t, what, l, other)
}

// wantEvents holds a ledger against the events that it must have, one by one, and empties it.
func wantEvents(t *testing.T, what string, l *ledger.Ledger, want ...api.Event) {
	t.Helper()
	if got := slices.Collect(l.All()); !slices.Equal(got, want) {
		t.Fatalf("%s recorded %v, want %v", what, got, want)
	}
	l.Reset()
}

// write writes a piece, and must not be refused.
func write(t *testing.T, m *Mac, l *ledger.Ledger, p []byte) {
	t.Helper()
	if e := m.Write(l, p); e != api.OK {
		t.Fatalf("Write of %d bytes: %d", len(p), e)
	}
}

// reset resets a mac, and must not be refused.
func reset(t *testing.T, m *Mac) {
	t.Helper()
	if e := m.Reset(); e != api.OK {
		t.Fatal("Reset:", e)
	}
}

// cloned clones a mac, and must not be refused.
func cloned(t *testing.T, m *Mac) *Mac {
	t.Helper()
	c, e := m.Clone()
	if e != api.OK || c == nil || c == m {
		t.Fatalf("Clone: %v, %d", c, e)
	}
	return c
}

// random makes n bytes, the same ones for the same seed.
func random(seed int64, n int) []byte {
	b := make([]byte, n)
	rand.New(rand.NewSource(seed)).Read(b)
	return b
}

// unhex takes bytes out of a text to the base 16, with gaps.
func unhex(t *testing.T, text string) []byte {
	t.Helper()
	b, err := hex.DecodeString(strings.ReplaceAll(text, " ", ""))
	if err != nil {
		t.Fatal(err)
	}
	return b
}

// overwrite writes over a list and over its spare room.
func overwrite(b []byte) {
	for i := range b[:cap(b)] {
		b[:cap(b)][i] = 0x99
	}
}

func TestExamples(t *testing.T) { // the chapter's, and example 3 of the whole
	key, message, l := unhex(t, exampleKey), unhex(t, exampleMessage), ledger.New()
	noughts := enciphered(key, [16]byte{})
	if got := hex.EncodeToString(noughts[:]); got != "7df76b0c1ab899b33e42f047b91b546f" {
		t.Error("L:", got)
	}
	if one := Double(noughts); hex.EncodeToString(one[:]) != "fbeed618357133667c85e08f7236a8de" {
		t.Errorf("K1: %x", one)
	}
	for n, want := range map[int]string{0: "bb1d6929e95937287fa37d129b756746", 16: "070a16b46b4d4144f79bdd9dd04a287c", 40: "dfa66747de9ae63030ca32611497c827"} {
		if got, e := Tag(nil, key, message[:n]); e != api.OK || hex.EncodeToString(got) != want {
			t.Errorf("Tag of %d bytes: %x, %d", n, got, e)
		}
	}
	Tag(l, key, nil)
	wantEvents(t, "Tag", l, api.Event{Kind: api.EvSchedule, Size: 16}, api.Event{Kind: api.EvAes, Size: 16}, api.Event{Kind: api.EvAes, Size: 16})
	m := made(t, nil, key)
	write(t, m, l, message[:16])
	wantEvents(t, "Write of 16 bytes", l)
	write(t, m, l, message[:1])
	wantEvents(t, "Write of one more", l, api.Event{Kind: api.EvAes, Size: 16})
	m.Sum(l)
	wantEvents(t, "Sum", l, api.Event{Kind: api.EvAes, Size: 16})
	for n, want := range map[int]byte{16: 16, 17: 1, 0: 0} {
		if form := written(t, key, message[:n]).Form(); form[240] != want {
			t.Errorf("the last byte behind %d bytes: %d", n, form[240])
		}
	}
	if got := Double([16]byte{0x80}); got != [16]byte{15: 0x87} {
		t.Errorf("Double: %x", got)
	}
}

func TestVectorsOfTheStandard(t *testing.T) { // P13.7: SP 800-38B's, with all three lengths of keys
	message := unhex(t, exampleMessage)
	vectors := []struct{ key, of0, of16, of40, of64 string }{
		{exampleKey, "bb1d6929e95937287fa37d129b756746", "070a16b46b4d4144f79bdd9dd04a287c", "dfa66747de9ae63030ca32611497c827", "51f0bebf7e3b9d92fc49741779363cfe"},
		{"8e73b0f7da0e6452c810f32b809079e562f8ead2522c6b7b", "d17ddf46adaacde531cac483de7a9367", "9e99a7bf31e710900662f65e617c5184", "8a1de5be2eb31aad089a82e6ee908b0e", "a1d5df0eed790f794d77589659f39a11"},
		{"603deb1015ca71be2b73aef0857d77811f352c073b6108d72d9810a30914dff4", "028962f61b7bf89efc6b551f4667d983", "28a7023f452e8f82bd4bf28d8c37c35c", "aaf3d8f1de5640c232f5b169b9c911e6", "e1992190549f6ed5696a2c056c315410"},
	}
	for _, v := range vectors {
		for n, want := range map[int]string{0: v.of0, 16: v.of16, 40: v.of40, 64: v.of64} {
			if got, e := Tag(nil, unhex(t, v.key), message[:n]); e != api.OK || hex.EncodeToString(got) != want {
				t.Errorf("key %s: Tag of %d bytes: %x, %d", v.key, n, got, e)
			}
		}
	}
}

func TestDouble(t *testing.T) { // P13.1: with and without the top bit, and again and again
	want := map[[16]byte][16]byte{
		{}:                            {},
		{15: 1}:                       {15: 2},
		{15: 0x80}:                    {14: 1},
		{1: 0x80}:                     {0: 1},
		{0: 0x40}:                     {0: 0x80},
		{0: 0x80}:                     {15: 0x87},
		{0: 0x80, 15: 1}:              {15: 0x85},
		{0: 0xc0}:                     {0: 0x80, 15: 0x87},
		{0: 0x80, 14: 0x80, 15: 0xff}: {13: 1, 14: 1, 15: 0xfe ^ 0x87},
	}
	for b, double := range want {
		if got := Double(b); got != double {
			t.Errorf("Double of %x: %x, want %x", b, got, double)
		}
	}
	for bit := range 128 {
		var b [16]byte
		b[bit/8] = 1 << (bit % 8)
		if got := Double(b); got != doubled(b) {
			t.Errorf("Double of %x: %x", b, got)
		}
	}
	for seed := range 500 {
		b := [16]byte(random(int64(seed), 16))
		was := b
		once, twice := Double(b), Double(Double(b))
		if once != doubled(b) || twice != doubled(doubled(b)) || b != was {
			t.Errorf("Double of %x: %x, and then %x", b, once, twice)
		}
	}
	b, same := [16]byte{15: 1}, [16]byte{15: 1}
	for range 1000 {
		b, same = Double(b), doubled(same)
	}
	if b != same {
		t.Errorf("doubled 1000 times: %x, want %x", b, same)
	}
}

func TestDoubleOfAllOnes(t *testing.T) { // P13.1: a bit goes out of every byte
	ones := [16]byte(bytes.Repeat([]byte{255}, 16))
	want := ones
	want[15] = 0xfe ^ 0x87
	if got := Double(ones); got != want {
		t.Errorf("Double: %x", got)
	}
}

func TestKeysOfAllLengths(t *testing.T) { // P13.2, P13.7, rule 2: 0 to 40 bytes, and many
	p := random(130, 1000)
	l := ledger.New()
	lengths := []int{48, 64, 128, 256, 512, 1000}
	for k := range 41 {
		lengths = append(lengths, k)
	}
	for _, k := range lengths {
		for _, l := range []*ledger.Ledger{l, nil} {
			m, e := New(l, p[:k])
			tag, x := Tag(l, p[:k], p[:20])
			if slices.Contains(keyLens(), k) {
				if e != api.OK || x != api.OK || !bytes.Equal(tag, tagOf(p[:k], p[:20])) {
					t.Fatalf("a key of %d bytes: %d; %x, %d", k, e, tag, x)
				}
				wantMac(t, m, p[:k], nil)
				continue
			}
			if e != api.ErrKeyLen || m != nil || x != api.ErrKeyLen || len(tag) != 0 {
				t.Errorf("a key of %d bytes: %v, %d; %x, %d", k, m, e, tag, x)
			}
		}
	}
	want := slices.Concat(ofNew(16), ofTag(16, 20), ofNew(24), ofTag(24, 20), ofNew(32), ofTag(32, 20))
	wantEvents(t, "New and Tag", l, want...)
}

func TestRefusedKeysRecordNothing(t *testing.T) { // P13.2, P13.7, rule 2: whatever the message is
	l := ledger.New()
	l.Note(other)
	for _, key := range [][]byte{nil, {}, make([]byte, 15), make([]byte, 17), make([]byte, 31), make([]byte, 33)} {
		for _, n := range edges() {
			if tag, e := Tag(l, key, make([]byte, n)); e != api.ErrKeyLen || len(tag) != 0 {
				t.Errorf("Tag of a key of %d bytes: %x, %d", len(key), tag, e)
			}
			if m, e := New(l, key); e != api.ErrKeyLen || m != nil {
				t.Errorf("New of %d bytes: %v, %d", len(key), m, e)
			}
		}
	}
	wantEvents(t, "all refused", l, other)
}

func TestNewByItsEvents(t *testing.T) { // P13.2, rule 5
	for _, k := range keyLens() {
		l := ledger.New()
		l.Note(other)
		key := random(131, k)
		m := made(t, l, key)
		wantEvents(t, "New", l, append([]api.Event{other}, ofNew(k)...)...)
		wantMac(t, m, key, nil)
		wantMac(t, made(t, nil, key), key, nil)
	}
}

func TestTagsOfAllKeysAndMessages(t *testing.T) { // P13.7, P13.8
	l := ledger.New()
	for _, k := range keyLens() {
		for _, n := range edges() {
			key, message := random(int64(k), k), random(int64(n)+1, n)
			want := tagOf(key, message)
			if !bytes.Equal(want, plain(enciphered, key, message)) {
				t.Fatal("the layer below is not the language's own")
			}
			for _, l := range []*ledger.Ledger{l, nil} {
				if got, e := Tag(l, key, message); e != api.OK || !bytes.Equal(got, want) || len(got) != 16 {
					t.Fatalf("Tag of %d and %d bytes is %x, %d, want %x", k, n, got, e, want)
				}
			}
			wantEvents(t, "Tag", l, ofTag(k, n)...)
		}
	}
}

func TestAllShortMessages(t *testing.T) { // P13.3, P13.4, P13.6
	p, l := random(132, 100), ledger.New()
	for _, k := range keyLens() {
		key := random(133, k)
		for n := range len(p) + 1 {
			m := made(t, nil, key)
			write(t, m, l, p[:n])
			wantEvents(t, "Write", l, ciphered(k, ofWrites(n))...)
			wantMac(t, m, key, p[:n])
		}
	}
}

func TestNoughtsAtTheEnd(t *testing.T) { // P13.7: messages that are alike but for noughts and 0x80 behind them have unlike tags
	for _, k := range keyLens() {
		key, seen := random(134, k), map[string]int{}
		for n := range 50 {
			for _, message := range [][]byte{make([]byte, n), slices.Concat(make([]byte, n), []byte{0x80})} {
				got, e := Tag(nil, key, message)
				if e != api.OK || !bytes.Equal(got, tagOf(key, message)) {
					t.Fatalf("Tag of %x: %x, %d", message, got, e)
				}
				seen[string(got)]++
			}
		}
		if len(seen) != 100 {
			t.Errorf("%d tags of 100 messages", len(seen))
		}
	}
}

func TestLongMessages(t *testing.T) { // P13.7, P13.8
	for _, n := range []int{1000, 4095, 4096, 4097} {
		key, p, l := random(135, 32), random(int64(n), n), ledger.New()
		if got, e := Tag(l, key, p); e != api.OK || !bytes.Equal(got, tagOf(key, p)) {
			t.Errorf("Tag of %d bytes is %x, %d", n, got, e)
		}
		wantEvents(t, "Tag", l, ofTag(32, n)...)
	}
}

func TestFormPartByPart(t *testing.T) { // P13.6
	for _, k := range keyLens() {
		for _, n := range edges() {
			key, message := random(136, k), random(137, n)
			form := written(t, key, message).Form()
			if len(form) != formLen(k) {
				t.Fatalf("Form has %d bytes", len(form))
			}
			at := roundKeyLen(k)
			part := func(i int) []byte { return form[at+16*i : at+16*(i+1)] }
			c, _ := aes.New(nil, key)
			one, two := subkeys(key)
			chain, waits := chainOf(key, message), waitingOf(message)
			if !bytes.Equal(form[:at], c.Form()) {
				t.Errorf("the round keys in %x", form)
			}
			if !bytes.Equal(part(0), one[:]) || !bytes.Equal(part(1), two[:]) || !bytes.Equal(part(2), chain[:]) {
				t.Errorf("the subkeys and the chain in %x", form)
			}
			if !bytes.HasPrefix(part(3), waits) || !bytes.Equal(part(3)[len(waits):], make([]byte, 16-len(waits))) {
				t.Errorf("what waits in %x", form)
			}
			if form[len(form)-1] != byte(len(waits)) {
				t.Errorf("how many wait in %x", form)
			}
		}
	}
}

func TestHowManyWait(t *testing.T) { // P13.6: about the edges of a block; 0 of an empty message alone
	for _, k := range keyLens() {
		key := random(138, k)
		m := made(t, nil, key)
		for n := range 70 {
			want := byte(0)
			if n > 0 {
				want = byte((n-1)%16 + 1)
			}
			form := m.Form()
			if form[formLen(k)-1] != want {
				t.Errorf("%d bytes: %d wait, want %d", n, form[formLen(k)-1], want)
			}
			chain := form[roundKeyLen(k)+32 : roundKeyLen(k)+48]
			if bytes.Equal(chain, make([]byte, 16)) != (n <= 16) {
				t.Errorf("%d bytes: the chain is %x", n, chain)
			}
			write(t, m, nil, []byte{byte(n)})
		}
	}
}

func TestPiecesAboutTheEdges(t *testing.T) { // P13.3: ahead of, at and behind a block's edge; of nothing
	key, p := random(139, 16), random(140, 400)
	lengths := []int{0, 1, 7, 15, 16, 17, 31, 32, 33, 64}
	for _, first := range lengths {
		for _, second := range lengths {
			for _, third := range lengths {
				l, m, done := ledger.New(), made(t, nil, key), 0
				for _, n := range []int{first, second, third} {
					write(t, m, l, p[done:done+n])
					wantEvents(t, "Write", l, ciphered(16, ofWrites(done+n)-ofWrites(done))...)
					done += n
				}
				if got := m.Form(); !bytes.Equal(got, formOf(key, p[:done])) {
					t.Fatalf("pieces of %d, %d, %d bytes: Form is %x", first, second, third, got)
				}
				if got, e := m.Sum(l); e != api.OK || !bytes.Equal(got, tagOf(key, p[:done])) {
					t.Fatalf("pieces of %d, %d, %d bytes: Sum is %x, %d", first, second, third, got, e)
				}
				wantEvents(t, "Sum", l, ciphered(16, 1)...)
			}
		}
	}
}

func TestInPieces(t *testing.T) { // P13.8: cuts at all edges; pieces of 0 bytes among them
	for _, k := range keyLens() {
		key := random(141, k)
		for _, n := range edges() {
			message := random(142, n)
			for _, at := range edges() {
				cut := min(at, n)
				l, m := ledger.New(), made(t, nil, key)
				for _, piece := range [][]byte{nil, message[:cut], {}, message[cut:], message[n:]} {
					write(t, m, l, piece)
				}
				wantEvents(t, "Writes", l, ciphered(k, ofWrites(n))...)
				wantMac(t, m, key, message)
			}
		}
	}
}

func TestByteByByteWithSumBetween(t *testing.T) { // P13.3, P13.4: Sum in the midst of a message, and again, leaves the mac
	p := random(143, 70)
	for _, k := range keyLens() {
		key := random(144, k)
		l, m := ledger.New(), made(t, nil, key)
		for i := range p {
			for range 2 {
				if got, e := m.Sum(l); e != api.OK || !bytes.Equal(got, tagOf(key, p[:i])) {
					t.Fatalf("Sum of %d bytes is %x, %d", i, got, e)
				}
				wantEvents(t, "Sum", l, ciphered(k, 1)...)
			}
			write(t, m, l, p[i:i+1])
			wantEvents(t, "Write of a byte", l, ciphered(k, ofWrites(i+1)-ofWrites(i))...)
		}
		wantMac(t, m, key, p)
	}
}

func TestPiecesRecordTheWhole(t *testing.T) { // P13.7, P13.8: New, Writes and Sum record what Tag does
	r := rand.New(rand.NewSource(145))
	for _, k := range keyLens() {
		for range 60 {
			key, message := random(r.Int63(), k), random(r.Int63(), r.Intn(150))
			whole, pieces := ledger.New(), ledger.New()
			want, e := Tag(whole, key, message)
			m, rest := made(t, pieces, key), message
			for len(rest) > 0 {
				n := r.Intn(len(rest) + 1)
				write(t, m, pieces, rest[:n])
				rest = rest[n:]
			}
			if got, x := m.Sum(pieces); e != api.OK || x != api.OK || !bytes.Equal(got, want) {
				t.Fatalf("Sum is %x, %d, Tag %x, %d", got, x, want, e)
			}
			if !ledger.Same(whole.Runs(), pieces.Runs()) {
				t.Fatalf("the pieces recorded %v, the whole %v", pieces.Runs(), whole.Runs())
			}
			wantEvents(t, "Tag", whole, ofTag(k, len(message))...)
		}
	}
}

func TestReset(t *testing.T) { // P13.5: ahead of any Write, in the midst of a block, about its end, behind a Sum
	for _, k := range keyLens() {
		key := random(146, k)
		m := made(t, nil, key)
		fresh := m.Form()
		reset(t, m)
		wantMac(t, m, key, nil)
		for _, n := range edges() {
			write(t, m, nil, random(147, n))
			if n%2 == 0 {
				m.Sum(nil)
			}
			reset(t, m)
			if !bytes.Equal(m.Form(), fresh) {
				t.Errorf("behind Reset the form is %x, want %x", m.Form(), fresh)
			}
			wantMac(t, m, key, nil)
			l, message := ledger.New(), random(148, n)
			write(t, m, l, message)
			wantEvents(t, "Write behind Reset", l, ciphered(k, ofWrites(n))...)
			wantMac(t, m, key, message)
			reset(t, m)
			reset(t, m)
		}
	}
}

func TestEmptyAndNilAreTheSame(t *testing.T) { // P13.3, P13.7; DOC.md's words
	room, key := []byte{1, 2, 3}, random(149, 24)
	for _, none := range [][]byte{nil, {}, room[:0], room[1:1]} {
		l := ledger.New()
		if got, e := Tag(l, key, none); e != api.OK || !bytes.Equal(got, tagOf(key, nil)) {
			t.Errorf("Tag of none: %x, %d", got, e)
		}
		wantEvents(t, "Tag of none", l, ofTag(24, 0)...)
		for _, n := range edges() {
			m := written(t, key, random(150, n))
			write(t, m, l, none)
			wantEvents(t, "Write of none", l)
			wantMac(t, m, key, random(150, n))
		}
	}
}

func TestCloneGoesOnByItself(t *testing.T) { // P13.5: ahead of any Write (0 bytes), in the midst of a block, about its end
	for _, k := range keyLens() {
		key := random(151, k)
		for _, n := range []int{0, 1, 15, 16, 17, 33} {
			for _, more := range []int{0, 1, 15, 16, 17} {
				message, one, two := random(152, n), random(153, more), random(154, more+1)
				elder := made(t, nil, key)
				if n > 0 {
					write(t, elder, nil, message)
				}
				younger := cloned(t, elder)
				wantMac(t, younger, key, message)
				write(t, elder, nil, one)
				wantMac(t, younger, key, message)
				write(t, younger, nil, two)
				wantMac(t, elder, key, slices.Concat(message, one))
				wantMac(t, younger, key, slices.Concat(message, two))
				reset(t, younger)
				wantMac(t, elder, key, slices.Concat(message, one))
				wantMac(t, younger, key, nil)
			}
		}
	}
}

func TestCloneOutlivesItsElder(t *testing.T) { // P13.5: with its key, too
	for _, k := range keyLens() {
		for _, n := range edges() {
			key, message := random(155, k), random(156, n)
			elder := written(t, key, message)
			younger := cloned(t, elder)
			third := cloned(t, younger)
			elder.Wipe(nil)
			wantMac(t, younger, key, message)
			reset(t, younger)
			younger.Wipe(nil)
			wantMac(t, third, key, message)
			reset(t, third)
			wantMac(t, third, key, nil)
			wantNone(t, "elder", elder)
			wantNone(t, "younger", younger)
		}
	}
}

func TestWipe(t *testing.T) { // P13.5, rule 4
	for _, k := range keyLens() {
		for _, n := range edges() {
			for _, l := range []*ledger.Ledger{ledger.New(), nil} {
				m := written(t, random(157, k), random(158, n))
				cipher := m.cipher
				if e := m.Wipe(l); e != api.OK {
					t.Fatal("Wipe:", e)
				}
				if l != nil {
					wantEvents(t, "Wipe", l, wiped(k))
				}
				wantNone(t, "wiped", m)
				if *m != (Mac{}) {
					t.Error("the memory is not noughts")
				}
				// DOC.md's words: nor is any of it left in the cipher that it had.
				if len(cipher.Form()) != 0 {
					t.Error("the cipher is not wiped")
				}
			}
		}
	}
}

func TestNone(t *testing.T) { // P13.3 to P13.6, rule 4
	wantNone(t, "nil", nil)
	wantNone(t, "zero", &Mac{})
	wantNone(t, "new", new(Mac))
	var none Mac
	wantNone(t, "var", &none)
}

func TestMacsAreEachByItself(t *testing.T) { // P1, rule 7: no memory is shared by what New makes
	keys := [][]byte{random(159, 16), random(159, 16), random(160, 24), random(161, 32)}
	macs, messages := make([]*Mac, len(keys)), make([][]byte, len(keys))
	for i, key := range keys {
		macs[i] = made(t, nil, key)
	}
	r := rand.New(rand.NewSource(162))
	for range 300 {
		i := r.Intn(len(macs))
		if r.Intn(20) == 0 {
			reset(t, macs[i])
			messages[i] = nil
		}
		piece := random(r.Int63(), r.Intn(40))
		write(t, macs[i], nil, piece)
		messages[i] = append(messages[i], piece...)
	}
	gone := made(t, nil, keys[1])
	gone.Wipe(nil)
	for i, m := range macs {
		wantMac(t, m, keys[i], messages[i])
	}
}

func TestMacsInGoroutines(t *testing.T) { // rules 6, 7: clones of one mac, each in a goroutine of its own
	for _, k := range keyLens() {
		var wait sync.WaitGroup
		key := random(163, k)
		elder := written(t, key, []byte("begin"))
		for i := range 8 {
			m := cloned(t, elder)
			wait.Go(func() {
				message := random(int64(i), 300+i)
				for piece := range slices.Chunk(message, 13+i) {
					m.Write(nil, piece)
				}
				if got, e := m.Sum(nil); e != api.OK || !bytes.Equal(got, tagOf(key, slices.Concat([]byte("begin"), message))) {
					t.Errorf("goroutine %d: %x, %d", i, got, e)
				}
				m.Reset()
				if got, e := Tag(nil, key, message); e != api.OK || !bytes.Equal(got, tagOf(key, message)) {
					t.Errorf("goroutine %d: Tag %x, %d", i, got, e)
				}
				m.Wipe(nil)
			})
		}
		wait.Wait()
		wantMac(t, elder, key, []byte("begin"))
	}
}

func TestAnswersAreNew(t *testing.T) { // rule 3
	for _, k := range keyLens() {
		for _, n := range edges() {
			key, message := random(164, k), random(165, n)
			m := written(t, key, message)
			tell := func() [][]byte {
				sum, _ := m.Sum(nil)
				tag, _ := Tag(nil, key, message)
				return [][]byte{sum, m.Form(), tag}
			}
			one, two := tell(), tell()
			for i, answer := range one {
				want := bytes.Clone(two[i])
				if room := answer[len(answer):cap(answer)]; !bytes.Equal(room, make([]byte, len(room))) {
					t.Errorf("%d bytes: the spare room of answer %d has %x", n, i, room)
				}
				overwrite(answer)
				if !bytes.Equal(two[i], want) || !bytes.Equal(tell()[i], want) {
					t.Errorf("%d bytes: answer %d that was written over shows elsewhere", n, i)
				}
			}
			wantMac(t, m, key, message)
			// Nor does an answer change with what is called later.
			write(t, m, nil, make([]byte, 40))
			reset(t, m)
			m.Wipe(nil)
			if want := tagOf(key, message); !bytes.Equal(two[0], want) || !bytes.Equal(two[1], formOf(key, message)) || !bytes.Equal(two[2], want) {
				t.Errorf("%d bytes: an answer has changed", n)
			}
		}
	}
}

func TestBytesAreNotKept(t *testing.T) { // rule 3: keys and pieces are neither changed nor looked at again
	for _, k := range keyLens() {
		for _, n := range edges() {
			key, message := random(166, k), random(167, n)
			wide, whole := slices.Concat([]byte{81, 82}, key, random(168, 40)), slices.Concat([]byte{91, 92}, message, random(169, 20))
			wasWide, wasWhole := bytes.Clone(wide), bytes.Clone(whole)
			handed, piece := wide[2:2+k], whole[2:2+n]
			m := written(t, handed, piece[:n/2], piece[n/2:])
			c := cloned(t, m)
			if got, e := Tag(nil, handed, piece); e != api.OK || !bytes.Equal(got, tagOf(key, message)) {
				t.Fatalf("Tag: %x, %d", got, e)
			}
			if !bytes.Equal(wide, wasWide) || !bytes.Equal(whole, wasWhole) {
				t.Errorf("%d and %d bytes: what was handed in has changed", k, n)
			}
			overwrite(wide)
			overwrite(whole)
			wantMac(t, m, key, message)
			wantMac(t, c, key, message)
			write(t, m, nil, []byte("more"))
			wantMac(t, m, key, slices.Concat(message, []byte("more")))
			reset(t, c)
			wantMac(t, c, key, nil)
		}
	}
}

func TestKeyIsTheMessage(t *testing.T) { // rule 3: one list as both
	for _, k := range keyLens() {
		b := random(170, k)
		if got, e := Tag(nil, b, b); e != api.OK || !bytes.Equal(got, tagOf(random(170, k), random(170, k))) {
			t.Errorf("%d bytes: %x, %d", k, got, e)
		}
	}
}

func TestLedgerHangsOnLengths(t *testing.T) { // P13.8, rule 9
	for _, k := range keyLens() {
		for _, n := range edges() {
			for seed, fill := range []func(n int) []byte{
				func(n int) []byte { return make([]byte, n) },
				func(n int) []byte { return bytes.Repeat([]byte{255}, n) },
				func(n int) []byte { return random(171, n) },
			} {
				l := ledger.New()
				m := made(t, l, fill(k))
				write(t, m, l, fill(n))
				m.Sum(l)
				m.Form()
				m.Clone()
				m.Reset()
				Tag(l, fill(k), fill(n))
				m.Wipe(l)
				if want := append(slices.Concat(ofTag(k, n), ofTag(k, n)), wiped(k)); !slices.Equal(slices.Collect(l.All()), want) {
					t.Errorf("fill %d of %d and %d bytes recorded %v", seed, k, n, l.Runs())
				}
			}
		}
	}
}

func TestRecordedBehindAllOthers(t *testing.T) { // rule 5; the zero Ledger is one, too
	for _, k := range keyLens() {
		var l ledger.Ledger
		l.Note(other)
		m := made(t, &l, make([]byte, k))
		l.Note(other)
		write(t, m, &l, make([]byte, 33))
		l.Note(other)
		m.Sum(&l)
		l.Note(other)
		Tag(&l, make([]byte, k), make([]byte, 32))
		m.Wipe(&l)
		l.Note(other)
		o := []api.Event{other}
		want := slices.Concat(o, ofNew(k), o, ciphered(k, 2), o, ciphered(k, 1), o, ofNew(k), ciphered(k, 2), []api.Event{wiped(k)}, o)
		wantEvents(t, "five calls", &l, want...)
	}
}

func FuzzInPieces(f *testing.F) { // P1, P13.1 to P13.8
	f.Add([]byte{}, []byte{}, []byte{})
	f.Add(make([]byte, 16), []byte("abc"), []byte{1, 0, 1})
	f.Add(make([]byte, 24), make([]byte, 49), []byte{15, 1, 1, 16})
	f.Add(make([]byte, 32), bytes.Repeat([]byte{255}, 64), []byte{16, 32})
	f.Fuzz(func(t *testing.T, key, message, cuts []byte) {
		k, l := len(key), ledger.New()
		if !slices.Contains(keyLens(), k) {
			if m, e := New(l, key); e != api.ErrKeyLen || m != nil {
				t.Fatal("New:", e)
			}
			wantEvents(t, "New", l)
			return
		}
		m, rest := made(t, l, key), message
		wantEvents(t, "New", l, ofNew(k)...)
		for _, cut := range cuts {
			n := min(int(cut), len(rest))
			write(t, m, l, rest[:n])
			rest = rest[n:]
			m = cloned(t, m)
		}
		write(t, m, l, rest)
		wantEvents(t, "Writes", l, ciphered(k, ofWrites(len(message)))...)
		wantMac(t, m, key, message)
		if got, e := Tag(nil, key, message); e != api.OK || !bytes.Equal(got, tagOf(key, message)) {
			t.Fatalf("Tag: %x, %d", got, e)
		}
		reset(t, m)
		wantMac(t, m, key, nil)
	})
}
