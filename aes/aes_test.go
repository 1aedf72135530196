package aes

import (
	"bytes"
	std "crypto/aes"
	"encoding/hex"
	"math/bits"
	"math/rand"
	"slices"
	"strings"
	"sync"
	"testing"

	"turnkey/api"
	"turnkey/ledger"
)

// other is an event of somebody else's, which stands in a ledger already.
var other = api.Event{Kind: api.EvOp, Size: 5}

// keyLens are the lengths that a key may have.
var keyLens = []int{16, 24, 32}

// scheduled, worked and wiped are the events that the calls record, of a key of n bytes.
func scheduled(n int) api.Event { return api.Event{Kind: api.EvSchedule, Size: n} }
func worked(n int) api.Event    { return api.Event{Kind: api.EvAes, Size: n} }
func wiped(n int) api.Event     { return api.Event{Kind: api.EvWipe, Size: 4*n + 112} }

// wantEvents holds a ledger against the events that it must have, one by one, and empties it.
func wantEvents(t *testing.T, what string, l *ledger.Ledger, want ...api.Event) {
	t.Helper()
	if got := slices.Collect(l.All()); !slices.Equal(got, want) {
		t.Fatalf("%s recorded %v, want %v", what, got, want)
	}
	l.Reset()
}

// random makes n bytes, the same ones for the same seed.
func random(seed int64, n int) []byte {
	b := make([]byte, n)
	rand.New(rand.NewSource(seed)).Read(b)
	return b
}

// unhex takes bytes out of a text to the base 16, with gaps.
func unhex(t *testing.T, text string) []byte {
	t.Helper()
	b, err := hex.DecodeString(strings.Join(strings.Fields(text), ""))
	if err != nil {
		t.Fatal(err)
	}
	return b
}

// counted are the bytes 0, 1, 2 and so on.
func counted(n int) []byte {
	b := make([]byte, n)
	for i := range b {
		b[i] = byte(i)
	}
	return b
}

// looks are keys of n bytes, of many looks.
func looks(n int) [][]byte {
	keys := [][]byte{make([]byte, n), bytes.Repeat([]byte{255}, n), bytes.Repeat([]byte{1}, n), bytes.Repeat([]byte{128}, n), counted(n)}
	for seed := range int64(20) {
		keys = append(keys, random(seed, n))
	}
	return keys
}

// blocks are blocks of many looks.
func blocks() [][16]byte {
	var all [][16]byte
	for _, b := range looks(16) {
		all = append(all, [16]byte(b))
	}
	for i := range 16 { // noughts but for one byte
		var b [16]byte
		for _, b[i] = range []byte{1, 255} {
			all = append(all, b)
		}
	}
	return all
}

// made makes a cipher, and must not be refused.
func made(t *testing.T, key []byte) *Cipher {
	t.Helper()
	c, e := New(nil, key)
	if e != api.OK || c == nil {
		t.Fatalf("New of %d bytes: %v, %d", len(key), c, e)
	}
	return c
}

// clone clones, and must not be refused.
func clone(t *testing.T, c *Cipher) *Cipher {
	t.Helper()
	d, e := c.Clone()
	if e != api.OK || d == nil || d == c {
		t.Fatalf("Clone: %p of %p, %d", d, c, e)
	}
	return d
}

// product multiplies in the field: the whole product first, then what is above x^7 is taken away, from the top.
func product(a, b byte) byte {
	var whole uint32
	for i := range 8 {
		if b>>i&1 == 1 {
			whole ^= uint32(a) << i
		}
	}
	for top := 14; top >= 8; top-- {
		if whole>>top&1 == 1 {
			whole ^= 0x11b << (top - 8)
		}
	}
	return byte(whole)
}

// box is the S-box of all bytes, by looking for inverses.
func box() (all [256]byte) {
	for a := range 256 {
		var y byte
		for b := range 256 {
			if product(byte(a), byte(b)) == 1 {
				y = byte(b)
			}
		}
		all[a] = y ^ bits.RotateLeft8(y, 1) ^ bits.RotateLeft8(y, 2) ^ bits.RotateLeft8(y, 3) ^ bits.RotateLeft8(y, 4) ^ 99
	}
	return all
}

// sbox is that table: a test may have one.
var sbox = box()

// boxWord puts each byte of a word through the S-box.
func boxWord(x uint32) uint32 {
	return uint32(sbox[x>>24])<<24 | uint32(sbox[x>>16&255])<<16 | uint32(sbox[x>>8&255])<<8 | uint32(sbox[x&255])
}

// power is x^n in the field.
func power(n int) byte {
	p := byte(1)
	for range n {
		p = product(p, 2)
	}
	return p
}

// roundKeys are a key's round keys, as the chapter's words say them, as numbers.
func roundKeys(key []byte) []uint32 {
	k := len(key) / 4
	w := make([]uint32, 4*(k+7))
	for i := range w {
		if i < k {
			w[i] = uint32(key[4*i])<<24 | uint32(key[4*i+1])<<16 | uint32(key[4*i+2])<<8 | uint32(key[4*i+3])
			continue
		}
		t := w[i-1]
		if i%k == 0 {
			t = boxWord(bits.RotateLeft32(t, 8)) ^ uint32(power(i/k-1))<<24
		} else if k == 8 && i%8 == 4 {
			t = boxWord(t)
		}
		w[i] = w[i-k] ^ t
	}
	return w
}

// laid gives words as bytes.
func laid(words []uint32) []byte {
	var out []byte
	for _, x := range words {
		out = append(out, byte(x>>24), byte(x>>16), byte(x>>8), byte(x))
	}
	return out
}

// states are a block's states as P10.2 says them: behind the round key 0, and behind each round.
func states(key []byte, b [16]byte) [][16]byte {
	w := roundKeys(key)
	rounds := len(key)/4 + 6
	var all [][16]byte
	for r := range rounds + 1 {
		if r > 0 {
			var rows [4][4]byte
			for i, x := range b {
				rows[i%4][i/4] = sbox[x]
			}
			for i, row := range rows {
				rows[i] = [4]byte(slices.Concat(row[i:], row[:i]))
			}
			for c := range 4 {
				a0, a1, a2, a3 := rows[0][c], rows[1][c], rows[2][c], rows[3][c]
				if r < rounds {
					a0, a1, a2, a3 = product(2, a0)^product(3, a1)^a2^a3, a0^product(2, a1)^product(3, a2)^a3, a0^a1^product(2, a2)^product(3, a3), product(3, a0)^a1^a2^product(2, a3)
				}
				b[4*c], b[4*c+1], b[4*c+2], b[4*c+3] = a0, a1, a2, a3
			}
		}
		for i, x := range laid(w[4*r : 4*r+4]) {
			b[i] ^= x
		}
		all = append(all, b)
	}
	return all
}

// plain is a block enciphered as the library of the language has it.
func plain(t *testing.T, key []byte, b [16]byte) (out [16]byte) {
	t.Helper()
	c, err := std.NewCipher(key)
	if err != nil {
		t.Fatal(err)
	}
	c.Encrypt(out[:], b[:])
	return out
}

// wantKey holds all that a cipher tells against its key, twice: telling changes nothing.
func wantKey(t *testing.T, c *Cipher, key []byte) {
	t.Helper()
	l := ledger.New()
	n := len(key)
	for range 2 {
		if got := c.KeyLen(); got != n {
			t.Fatalf("KeyLen is %d, want %d", got, n)
		}
		if got, want := c.Form(), laid(roundKeys(key)); !bytes.Equal(got, want) {
			t.Fatalf("Form of %x is\n%x, want\n%x", key, got, want)
		}
		for _, b := range [][16]byte{{}, [16]byte(random(101, 16))} {
			want := plain(t, key, b)
			for _, l := range []*ledger.Ledger{l, nil} {
				if got, e := c.Encrypt(l, b); e != api.OK || got != want {
					t.Fatalf("Encrypt of %x by %x is %x, %d, want %x", b, key, got, e, want)
				}
				if got, e := c.Decrypt(l, want); e != api.OK || got != b {
					t.Fatalf("Decrypt of %x by %x is %x, %d, want %x", want, key, got, e, b)
				}
			}
			wantEvents(t, "Encrypt and Decrypt", l, worked(n), worked(n))
		}
	}
}

// wantNone holds all calls of a cipher that is none against rule 4.
func wantNone(t *testing.T, what string, c *Cipher) {
	t.Helper()
	l := ledger.New()
	l.Note(other)
	for _, l := range []*ledger.Ledger{l, nil} {
		for _, b := range [][16]byte{{}, {7}, [16]byte(bytes.Repeat([]byte{255}, 16))} {
			if got, e := c.Encrypt(l, b); got != [16]byte{} || e != api.ErrNil {
				t.Errorf("%s: Encrypt: %x, %d", what, got, e)
			}
			if got, e := c.Decrypt(l, b); got != [16]byte{} || e != api.ErrNil {
				t.Errorf("%s: Decrypt: %x, %d", what, got, e)
			}
		}
		if got := c.KeyLen(); got != 0 {
			t.Errorf("%s: KeyLen: %d", what, got)
		}
		if got := c.Form(); len(got) != 0 {
			t.Errorf("%s: Form: %x", what, got)
		}
		if d, e := c.Clone(); d != nil || e != api.ErrNil {
			t.Errorf("%s: Clone: %v, %d", what, d, e)
		}
		if e := c.Wipe(l); e != api.ErrNil {
			t.Errorf("%s: Wipe: %d", what, e)
		}
	}
	wantEvents(t, what, l, other)
}

func TestExamples(t *testing.T) { // P10.1 to P10.4: the chapter's
	var b [16]byte
	for i := range b {
		b[i] = byte(17 * i)
	}
	for n, want := range map[int]string{
		16: "69c4e0d86a7b0430d8cdb78070b4c55a",
		24: "dda97ca4864cdfe06eaf70a0ec0d7191",
		32: "8ea2b7ca516745bfeafc49904b496089",
	} {
		c := made(t, counted(n))
		got, e := c.Encrypt(nil, b)
		if e != api.OK || got != [16]byte(unhex(t, want)) {
			t.Errorf("Encrypt by %d bytes: %x, %d", n, got, e)
		}
		if back, e := c.Decrypt(nil, got); e != api.OK || back != b {
			t.Errorf("Decrypt by %d bytes: %x, %d", n, back, e)
		}
	}
	for _, n := range []int{0, 15, 17, 33} {
		if c, e := New(nil, make([]byte, n)); c != nil || e != api.ErrKeyLen {
			t.Errorf("New of %d bytes: %v, %d", n, c, e)
		}
	}
}

func TestExampleOfALedger(t *testing.T) { // P10.1 to P10.4: the chapter's
	l := ledger.New()
	c, _ := New(l, make([]byte, 16))
	c.Encrypt(l, [16]byte{1})
	c.Decrypt(l, [16]byte{2})
	c.Wipe(l)
	aes16 := api.Event{Kind: api.EvAes, Size: 16}
	wantEvents(t, "New, Encrypt, Decrypt, Wipe", l, api.Event{Kind: api.EvSchedule, Size: 16}, aes16, aes16, api.Event{Kind: api.EvWipe, Size: 176})
	if got, e := c.Encrypt(l, [16]byte{}); got != [16]byte{} || e != api.ErrNil || len(c.Form()) != 0 || c.KeyLen() != 0 {
		t.Errorf("a wiped cipher answers %x, %d, %x, %d", got, e, c.Form(), c.KeyLen())
	}
	wantEvents(t, "a wiped cipher", l)
}

func TestNewOfAllLengths(t *testing.T) { // P10.1, rule 2
	lengths := []int{176, 208, 240, 256, 65536, 1<<20 + 16}
	for n := range 130 {
		lengths = append(lengths, n)
	}
	for _, n := range lengths {
		l := ledger.New()
		l.Note(other)
		key := random(int64(n), n)
		c, e := New(l, key)
		if slices.Contains(keyLens, n) {
			if e != api.OK || c == nil {
				t.Fatalf("New of %d bytes: %v, %d", n, c, e)
			}
			wantEvents(t, "New", l, other, scheduled(n))
			wantKey(t, c, key)
			continue
		}
		if c != nil || e != api.ErrKeyLen {
			t.Errorf("New of %d bytes: %v, %d", n, c, e)
		}
		wantEvents(t, "New that was refused", l, other)
		if c, e := New(nil, key); c != nil || e != api.ErrKeyLen {
			t.Errorf("New of %d bytes without a ledger: %v, %d", n, c, e)
		}
	}
	room := make([]byte, 32)
	for _, key := range [][]byte{nil, {}, room[:0], room[:15], room[16:31], room[:31]} { // a length is no capacity
		if c, e := New(nil, key); c != nil || e != api.ErrKeyLen {
			t.Errorf("New of %d bytes with spare room: %v, %d", len(key), c, e)
		}
	}
}

// The round keys that the cipher's standard prints (its appendix A), as far as they stand behind the keys' own words.
func TestRoundKeysOfTheStandard(t *testing.T) { // P10.1, P10.4, the chapter's words
	for _, c := range []struct{ key, first, last string }{
		{
			"2b7e1516 28aed2a6 abf71588 09cf4f3c",
			"a0fafe17 88542cb1 23a33939 2a6c7605 f2c295f2 7a96b943 5935807a 7359f67f 3d80477d 4716fe3e 1e237e44 6d7a883b",
			"d014f9a8 c9ee2589 e13f0cc8 b6630ca6",
		},
		{
			"8e73b0f7 da0e6452 c810f32b 809079e5 62f8ead2 522c6b7b",
			"fe0c91f7 2402f5a5 ec12068e 6c827f6b 0e7a95b9 5c56fec2 4db7b4bd 69b54118 85a74796 e92538fd",
			"e98ba06f 448c773c 8ecc7204 01002202",
		},
		{
			"603deb10 15ca71be 2b73aef0 857d7781 1f352c07 3b6108d7 2d9810a3 0914dff4",
			"9ba35411 8e6925af a51a8b5f 2067fcde a8b09c1a 93d194cd be49846e b75d5b9a d59aecb8 5bf3c917 fee94248 de8ebe96",
			"fe4890d1 e6188d0b 046df344 706c631e",
		},
	} {
		key, first, last := unhex(t, c.key), unhex(t, c.first), unhex(t, c.last)
		form := made(t, key).Form()
		if len(form) != 112+4*len(key) {
			t.Fatalf("Form of %d bytes has %d", len(key), len(form))
		}
		if !bytes.HasPrefix(form, slices.Concat(key, first)) {
			t.Errorf("Form of %x begins with\n%x", key, form[:len(key)+len(first)])
		}
		if !bytes.HasSuffix(form, last) {
			t.Errorf("Form of %x ends with %x", key, form[len(form)-16:])
		}
	}
}

func TestRoundKeysWordByWord(t *testing.T) { // P10.1, P10.4, the chapter's words
	for _, n := range keyLens {
		for _, key := range looks(n) {
			c, want := made(t, key), roundKeys(key)
			form := c.Form()
			if len(form) != 4*len(want) {
				t.Fatalf("Form of %d bytes has %d", n, len(form))
			}
			for i, w := range want {
				if got := form[4*i : 4*i+4]; !bytes.Equal(got, laid([]uint32{w})) {
					t.Fatalf("w[%d] of %x is %x, want %08x", i, key, got, w)
				}
			}
			for i := len(want); i < maxWords; i++ {
				if c.words[i] != [4]byte{} {
					t.Errorf("behind the round keys of %x stands %x", key, c.words[i])
				}
			}
		}
	}
}

func TestPowersInTheRoundKeys(t *testing.T) { // the chapter's words: 1, 2, 4, .., 0x80, 0x1b, 0x36
	want := []byte{1, 2, 4, 8, 0x10, 0x20, 0x40, 0x80, 0x1b, 0x36}
	for _, n := range keyLens {
		k := n / 4
		form := made(t, random(102, n)).Form()
		for i := k; i < len(form)/4; i += k {
			at := form[4*i]
			behind := sbox[form[4*(i-1)+1]] ^ form[4*(i-k)]
			if got := at ^ behind; got != want[i/k-1] {
				t.Errorf("%d bytes: w[%d] has the power %#x, want %#x", n, i, got, want[i/k-1])
			}
		}
	}
}

func TestEncryptAndDecryptAsTheLibrary(t *testing.T) { // P10.2, P10.3, P10.5
	for _, n := range keyLens {
		for _, key := range looks(n) {
			c := made(t, key)
			for _, b := range blocks() {
				want := plain(t, key, b)
				got, e := c.Encrypt(nil, b)
				if e != api.OK || got != want {
					t.Fatalf("Encrypt of %x by %x is %x, %d, want %x", b, key, got, e, want)
				}
				if got, e := c.Decrypt(nil, want); e != api.OK || got != b {
					t.Fatalf("Decrypt of %x by %x is %x, %d, want %x", want, key, got, e, b)
				}
			}
		}
	}
}

// The first and the last round as the cipher's standard prints them (its appendix C).
func TestFirstAndLastRoundOfTheStandard(t *testing.T) { // P10.2
	for _, c := range []struct {
		n                          int
		first, second, last, crypt string
	}{
		{16, "00102030405060708090a0b0c0d0e0f0", "89d810e8855ace682d1843d8cb128fe4", "bd6e7c3df2b5779e0b61216e8b10b689", "69c4e0d86a7b0430d8cdb78070b4c55a"},
		{24, "00102030405060708090a0b0c0d0e0f0", "4f63760643e0aa85aff8c9d041fa0de4", "afb73eeb1cd1b85162280f27fb20d585", "dda97ca4864cdfe06eaf70a0ec0d7191"},
		{32, "00102030405060708090a0b0c0d0e0f0", "4f63760643e0aa85efa7213201a4e705", "627bceb9999d5aaac945ecf423f56da5", "8ea2b7ca516745bfeafc49904b496089"},
	} {
		var b [16]byte
		for i := range b {
			b[i] = byte(17 * i)
		}
		all := states(counted(c.n), b)
		last := len(all) - 1
		for i, want := range map[int]string{0: c.first, 1: c.second, last - 1: c.last, last: c.crypt} {
			if all[i] != [16]byte(unhex(t, want)) {
				t.Errorf("%d bytes: behind round %d stands %x, want %s", c.n, i, all[i], want)
			}
		}
		if got, e := made(t, counted(c.n)).Encrypt(nil, b); e != api.OK || got != all[last] {
			t.Errorf("%d bytes: Encrypt is %x, %d, want %x", c.n, got, e, all[last])
		}
	}
}

func TestEncryptRoundByRound(t *testing.T) { // P10.2, P10.3: the last state is the chapter's words
	for _, n := range keyLens {
		for seed := range int64(50) {
			key, b := random(seed, n), [16]byte(random(-seed-1, 16))
			all := states(key, b)
			if len(all) != n/4+7 {
				t.Fatalf("%d rounds", len(all)-1)
			}
			want := all[len(all)-1]
			c := made(t, key)
			if got, e := c.Encrypt(nil, b); e != api.OK || got != want {
				t.Fatalf("Encrypt of %x by %x is %x, %d, want %x", b, key, got, e, want)
			}
			if got, e := c.Decrypt(nil, want); e != api.OK || got != b {
				t.Fatalf("Decrypt of %x by %x is %x, %d, want %x", want, key, got, e, b)
			}
		}
	}
}

func TestRowsAreTurned(t *testing.T) { // P10.2: what stands in the column c is what stood in the column c + r
	b := [16]byte(counted(16))
	want := [16]byte{0, 5, 10, 15, 4, 9, 14, 3, 8, 13, 2, 7, 12, 1, 6, 11}
	if got := turned(b, 1); got != want {
		t.Errorf("turned: %v", got)
	}
	if got := turned(want, -1); got != b {
		t.Errorf("turned back: %v", got)
	}
}

func TestColumnsAreMultiplied(t *testing.T) { // P10.2: columns that are often printed with their products
	b := [16]byte(unhex(t, "db135345 f20a225c 01010101 2d26314c"))
	want := [16]byte(unhex(t, "8e4da1bc 9fdc589d 01010101 4d7ebdf8"))
	if got := multiplied(b, mixing); got != want {
		t.Errorf("multiplied: %x", got)
	}
	if got := multiplied(want, unmixing); got != b {
		t.Errorf("multiplied back: %x", got)
	}
}

func TestThereAndBack(t *testing.T) { // P10.5
	for _, n := range keyLens {
		for _, key := range looks(n) {
			c := made(t, key)
			for _, b := range blocks() {
				there, _ := c.Encrypt(nil, b)
				if got, e := c.Decrypt(nil, there); e != api.OK || got != b {
					t.Fatalf("Decrypt of Encrypt of %x by %x is %x, %d", b, key, got, e)
				}
				back, _ := c.Decrypt(nil, b)
				if got, e := c.Encrypt(nil, back); e != api.OK || got != b {
					t.Fatalf("Encrypt of Decrypt of %x by %x is %x, %d", b, key, got, e)
				}
			}
		}
	}
}

func TestUnlikeKeysHaveUnlikeForms(t *testing.T) { // P10.5
	forms := map[string][]byte{}
	take := func(key []byte) {
		form := string(made(t, key).Form())
		if was, ok := forms[form]; ok {
			t.Fatalf("%x and %x have the same form", was, key)
		}
		forms[form] = bytes.Clone(key)
	}
	for _, n := range keyLens { // noughts of three lengths too
		for _, fill := range []byte{0, 255} {
			key := bytes.Repeat([]byte{fill}, n)
			take(key)
			for i := range 8 * n { // one bit is another one
				key[i/8] ^= 1 << (i % 8)
				take(key)
				key[i/8] ^= 1 << (i % 8)
			}
		}
	}
	whole := random(103, 32) // keys that begin alike
	for _, n := range keyLens {
		take(whole[:n])
	}
}

func TestFormIsOfTheKeyAlone(t *testing.T) { // P10.4: 176, 208 or 240 bytes, whatever was done
	for n, size := range map[int]int{16: 176, 24: 208, 32: 240} {
		key := random(104, n)
		c, want := made(t, key), laid(roundKeys(key))
		for i := range 5 {
			if got := c.Form(); len(got) != size || !bytes.Equal(got, want) {
				t.Errorf("%d bytes: Form is %x", n, got)
			}
			c.Encrypt(nil, [16]byte{byte(i)})
			c.Decrypt(nil, [16]byte{byte(i)})
			clone(t, c)
		}
		if !bytes.Equal(c.Form()[:n], key) {
			t.Errorf("%d bytes: Form does not begin with the key", n)
		}
	}
}

func TestTellingLeavesTheCipher(t *testing.T) { // P10.2 to P10.4, rule 5
	for _, n := range keyLens {
		c := made(t, random(105, n))
		was := *c
		c.Encrypt(nil, [16]byte{1})
		c.Decrypt(nil, [16]byte{2})
		c.Form()
		c.KeyLen()
		c.Clone()
		if *c != was {
			t.Errorf("%d bytes: the cipher has changed", n)
		}
	}
}

func TestClone(t *testing.T) { // P10.4
	for _, n := range keyLens {
		key := random(106, n)
		elder := made(t, key)
		younger := clone(t, elder)
		third := clone(t, younger)
		wantKey(t, younger, key)
		if e := elder.Wipe(nil); e != api.OK {
			t.Fatal("Wipe:", e)
		}
		wantNone(t, "elder", elder)
		wantKey(t, younger, key)
		younger.Wipe(nil)
		wantNone(t, "younger", younger)
		wantKey(t, third, key)
	}
}

func TestTwoCiphersOfOneKey(t *testing.T) { // P10.4, rule 7: wiping one leaves the other
	for _, n := range keyLens {
		key := random(107, n)
		first, second := made(t, key), made(t, key)
		if first == second || *first != *second {
			t.Fatal("two ciphers of one key are not alike, or are one")
		}
		first.Wipe(nil)
		wantNone(t, "first", first)
		wantKey(t, second, key)
		wantKey(t, made(t, key), key)
	}
}

func TestWipe(t *testing.T) { // P10.4, rule 4
	for n, size := range map[int]int{16: 176, 24: 208, 32: 240} {
		for _, key := range looks(n) {
			for _, l := range []*ledger.Ledger{ledger.New(), nil} {
				c := made(t, key)
				if e := c.Wipe(l); e != api.OK {
					t.Fatal("Wipe:", e)
				}
				if l != nil {
					wantEvents(t, "Wipe", l, api.Event{Kind: api.EvWipe, Size: size})
				}
				if *c != (Cipher{}) {
					t.Errorf("%d bytes: the memory of a wiped cipher is no noughts", n)
				}
				wantNone(t, "wiped", c)
				if *c != (Cipher{}) {
					t.Errorf("%d bytes: a wiped cipher took something", n)
				}
			}
		}
	}
}

func TestCiphersThatAreNone(t *testing.T) { // P1, rule 2, rule 4
	wantNone(t, "nil", nil)
	wantNone(t, "new(Cipher)", new(Cipher))
	var zero Cipher
	wantNone(t, "the zero Cipher", &zero)
	wiped := made(t, make([]byte, 24))
	wiped.Wipe(nil)
	wantNone(t, "wiped", wiped)
	ofWiped, _ := wiped.Clone()
	wantNone(t, "a clone of a wiped one", ofWiped)
	refused, _ := New(nil, make([]byte, 17))
	wantNone(t, "refused", refused)
}

func TestManyCiphersEachByItself(t *testing.T) { // rule 7
	var ciphers []*Cipher
	var keys [][]byte
	for i := range 12 {
		keys = append(keys, random(int64(200+i), keyLens[i%3]))
		ciphers = append(ciphers, made(t, keys[i]))
	}
	for i, c := range ciphers {
		if i%4 == 3 {
			c.Wipe(nil)
		}
	}
	for i, c := range ciphers {
		if i%4 == 3 {
			wantNone(t, "wiped", c)
			continue
		}
		wantKey(t, c, keys[i])
	}
}

func TestCiphersInGoroutines(t *testing.T) { // rules 6, 7
	var wait sync.WaitGroup
	for i := range 8 {
		key, b := random(int64(300+i), keyLens[i%3]), [16]byte(random(int64(400+i), 16))
		want := plain(t, key, b)
		wait.Go(func() {
			for range 50 {
				c, e := New(nil, key)
				got, e2 := c.Encrypt(nil, b)
				back, e3 := c.Decrypt(nil, got)
				if e != api.OK || e2 != api.OK || e3 != api.OK || got != want || back != b {
					t.Errorf("goroutine %d: %x, %x", i, got, back)
				}
				c.Wipe(nil)
			}
		})
	}
	wait.Wait()
}

// overwrite writes over a list and over its spare room.
func overwrite(b []byte) {
	for i := range b[:cap(b)] {
		b[:cap(b)][i] = 0x99
	}
}

func TestAnswersAreNew(t *testing.T) { // P10.4, rule 3
	for _, n := range keyLens {
		key := random(108, n)
		c := made(t, key)
		d := clone(t, c)
		first, second := c.Form(), c.Form()
		want := bytes.Clone(first)
		for _, x := range first[len(first):cap(first)] {
			if x != 0 {
				t.Errorf("%d bytes: the spare room of Form has %d", n, x)
			}
		}
		overwrite(first)
		if !bytes.Equal(second, want) || !bytes.Equal(c.Form(), want) || !bytes.Equal(d.Form(), want) {
			t.Errorf("%d bytes: a Form that was written over shows elsewhere", n)
		}
		wantKey(t, c, key)
		wantKey(t, d, key)
		// Nor does an answer change with what is called later.
		c.Wipe(nil)
		if !bytes.Equal(second, want) {
			t.Errorf("%d bytes: a Form has changed", n)
		}
	}
}

func TestKeyIsNotKept(t *testing.T) { // P10.1, rule 3
	for _, n := range keyLens {
		key := random(109, n)
		whole := slices.Concat([]byte{91, 92}, key, []byte{93, 94, 95})
		was := bytes.Clone(whole)
		c := made(t, whole[2:2+n])
		wantKey(t, c, key)
		if !bytes.Equal(whole, was) {
			t.Errorf("%d bytes: the key that was handed in has changed", n)
		}
		// Written over behind New: nothing looks at it again.
		overwrite(whole)
		wantKey(t, c, key)
		d := clone(t, c)
		c.Wipe(nil)
		if !bytes.Equal(whole, bytes.Repeat([]byte{0x99}, n+5)) {
			t.Errorf("%d bytes: Wipe has changed what was handed in", n)
		}
		wantKey(t, d, key)
	}
}

func TestBlockIsNotChanged(t *testing.T) { // rule 3: a block goes in as a value
	c := made(t, random(110, 16))
	b := [16]byte(random(111, 16))
	was := b
	c.Encrypt(nil, b)
	c.Decrypt(nil, b)
	if b != was {
		t.Error("the block has changed")
	}
}

func TestLedgerHangsOnTheKeysLength(t *testing.T) { // P10.5, rule 9
	for _, n := range keyLens {
		for _, key := range looks(n) {
			for _, b := range [][16]byte{{}, [16]byte(bytes.Repeat([]byte{255}, 16)), [16]byte(random(112, 16))} {
				l := ledger.New()
				c, _ := New(l, key)
				c.Encrypt(l, b)
				c.Decrypt(l, b)
				c.KeyLen()
				c.Form()
				d, _ := c.Clone()
				d.Decrypt(l, b)
				c.Wipe(l)
				d.Encrypt(l, b)
				wantEvents(t, "all calls", l, scheduled(n), worked(n), worked(n), worked(n), wiped(n), worked(n))
			}
		}
	}
}

func TestRecordedBehindAllOthers(t *testing.T) { // rule 5; the zero Ledger is one, too
	for _, n := range keyLens {
		var l ledger.Ledger
		l.Note(other)
		c, _ := New(&l, make([]byte, n))
		l.Note(other)
		c.Encrypt(&l, [16]byte{})
		l.Note(other)
		c.Decrypt(&l, [16]byte{})
		l.Note(other)
		c.Wipe(&l)
		l.Note(other)
		wantEvents(t, "four calls", &l, other, scheduled(n), other, worked(n), other, worked(n), other, wiped(n), other)
	}
}

func FuzzKeysAndBlocks(f *testing.F) { // P1, P10.1 to P10.5
	f.Add([]byte{}, []byte{})
	f.Add(counted(16), counted(16))
	f.Add(make([]byte, 24), make([]byte, 16))
	f.Add(bytes.Repeat([]byte{255}, 32), bytes.Repeat([]byte{255}, 16))
	f.Add(make([]byte, 33), []byte{1})
	f.Fuzz(func(t *testing.T, key, block []byte) {
		l := ledger.New()
		c, e := New(l, key)
		if !slices.Contains(keyLens, len(key)) {
			if c != nil || e != api.ErrKeyLen || l.Len() != 0 {
				t.Fatalf("New of %d bytes: %v, %d, %v", len(key), c, e, l.Runs())
			}
			return
		}
		if e != api.OK || !bytes.Equal(c.Form(), laid(roundKeys(key))) {
			t.Fatalf("New of %x: %d, %x", key, e, c.Form())
		}
		var b [16]byte
		copy(b[:], block)
		got, e := c.Encrypt(l, b)
		if want := plain(t, key, b); e != api.OK || got != want {
			t.Fatalf("Encrypt of %x by %x is %x, %d, want %x", b, key, got, e, want)
		}
		back, e := c.Decrypt(l, got)
		if e != api.OK || back != b {
			t.Fatalf("Decrypt of %x by %x is %x, %d, want %x", got, key, back, e, b)
		}
		n := len(key)
		wantEvents(t, "New, Encrypt, Decrypt", l, scheduled(n), worked(n), worked(n))
	})
}
