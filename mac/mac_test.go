package mac

import (
	"bytes"
	stdaes "crypto/aes"
	stdhmac "crypto/hmac"
	std256 "crypto/sha256"
	"crypto/sha3"
	std512 "crypto/sha512"
	"encoding/hex"
	"hash"
	"math"
	"math/big"
	"math/rand"
	"slices"
	"strings"
	"sync"
	"testing"

	"turnkey/api"
	"turnkey/cmac"
	"turnkey/hmac"
	"turnkey/kmac"
	"turnkey/ledger"
)

// other is an event of somebody else's, which stands in a ledger already.
var other = api.Event{Kind: api.EvOp, Size: 5}

// face is what the chapters say of an algorithm: block is a hash's or a sponge's or the cipher's; strength and xof are of the KMACs alone.
type face struct {
	alg         api.Alg
	most, block int
	custom      bool
	strength    int
	xof         bool
	event       api.EventKind
}

// faces are all seven.
func faces() []face {
	return []face{
		{alg: api.AlgHmac256, most: 32, block: 64, event: api.EvSha256},
		{alg: api.AlgHmac512, most: 64, block: 128, event: api.EvSha512},
		{alg: api.AlgCmac, most: 16, block: 16, event: api.EvAes},
		{alg: api.AlgKmac128, most: 64, block: 168, custom: true, strength: 128, event: api.EvKeccak},
		{alg: api.AlgKmac256, most: 64, block: 136, custom: true, strength: 256, event: api.EvKeccak},
		{alg: api.AlgKmacX128, most: 64, block: 168, custom: true, strength: 128, xof: true, event: api.EvKeccak},
		{alg: api.AlgKmacX256, most: 64, block: 136, custom: true, strength: 256, xof: true, event: api.EvKeccak},
	}
}

// isHmac, isCmac and isKmac tell which Mac it has.
func (f face) isHmac() bool { return f.alg == api.AlgHmac256 || f.alg == api.AlgHmac512 }
func (f face) isCmac() bool { return f.alg == api.AlgCmac }
func (f face) isKmac() bool { return f.strength > 0 }

// std is the language's own hash function of an HMAC.
func (f face) std() func() hash.Hash {
	if f.alg == api.AlgHmac256 {
		return std256.New
	}
	return std512.New
}

// tail is how many bytes may wait for their end to go into the same block of a hash.
func (f face) tail() int { return f.block - 1 - f.block/8 }

// keys are the lengths of keys that the rules turn at.
func (f face) keys() []int {
	if f.isCmac() {
		return []int{16, 24, 32}
	}
	return []int{0, 1, 15, 16, 17, 31, 32, 33, f.block - 6, f.block - 5, f.block - 4, f.block - 1, f.block, f.block + 1, 2 * f.block, 2*f.block + 1, 512, 1000}
}

// fewKeys are those with which other edges are tried.
func (f face) fewKeys() []int {
	if f.isCmac() {
		return f.keys()
	}
	return []int{0, 1, 4, f.block + 1}
}

// customs are the lengths of customizations that the rules turn at.
func (f face) customs() []int {
	if !f.custom {
		return []int{0}
	}
	return []int{0, 1, 31, 32, 63, 64}
}

// outs are the lengths of tags that the rules turn at: 8 n takes a byte more from 32 on.
func (f face) outs() []int {
	list := []int{1, 2, 15, 16, 17, 31, 32, 33, 63, 64}
	return slices.DeleteFunc(list, func(n int) bool { return n > f.most })
}

// sizes are the lengths of messages that the rules turn at: about the ends of blocks, with what comes behind a message.
func (f face) sizes() []int {
	list := []int{0, 1, 4, 300}
	for _, end := range []int{f.block, 2 * f.block, 5 * f.block} {
		for n := end - 5; n <= end+1; n++ {
			list = append(list, n)
		}
		if f.isHmac() {
			list = append(list, end-f.block+f.tail(), end-f.block+f.tail()+1)
		}
	}
	return list
}

// fewSizes are those of them with which other edges are tried.
func (f face) fewSizes() []int { return []int{0, 1, f.block - 1, f.block, f.block + 1, 3*f.block + 5} }

// input is what a session is made of.
type input struct {
	face
	key, custom []byte
	out         int
}

// of makes an input of an algorithm, of lengths.
func (f face) of(key, custom, out int) input {
	return input{f, random(170, key), random(171, custom), out}
}

// any is an input of an algorithm with the greatest tag.
func (f face) any() input {
	custom := 0
	if f.custom {
		custom = 20
	}
	return f.of(32, custom, f.most)
}

// inputs are inputs of an algorithm, each length at its edges.
func (f face) inputs() []input {
	var list []input
	for _, k := range f.fewKeys() {
		for _, c := range f.customs() {
			for _, n := range f.outs() {
				list = append(list, f.of(k, c, n))
			}
		}
	}
	return list
}

// lower is a Mac of a layer below.
type lower interface {
	Write(l *ledger.Ledger, p []byte) api.Errno
	Wipe(l *ledger.Ledger) api.Errno
	Form() []byte
}

// lower makes the Mac that a session of this has, by the layer below.
func (in input) lower(t *testing.T, l *ledger.Ledger) lower {
	t.Helper()
	var m lower
	var e api.Errno
	switch {
	case in.isHmac():
		m, e = hmac.New(l, in.alg, in.key)
	case in.isCmac():
		m, e = cmac.New(l, in.key)
	default:
		m, e = kmac.New(l, in.strength, in.key, in.custom)
	}
	if e != api.OK {
		t.Fatalf("%d: the Mac below: %d", in.alg, e)
	}
	return m
}

// lowerSum is the tag that such a Mac tells, by the chapter's table.
func (in input) lowerSum(l *ledger.Ledger, m lower) []byte {
	var tag []byte
	switch m := m.(type) {
	case *hmac.Mac:
		tag, _ = m.Sum(l)
	case *cmac.Mac:
		tag, _ = m.Sum(l)
	case *kmac.Mac:
		tag, _ = m.Sum(l, in.out, in.xof)
	}
	return tag[:in.out]
}

// tagOf is the tag by the language's own means, over whole lists.
func (in input) tagOf(message []byte) []byte {
	switch {
	case in.isHmac():
		m := stdhmac.New(in.std(), in.key)
		m.Write(message)
		return m.Sum(nil)[:in.out]
	case in.isCmac():
		return stdCmac(in.key, message)[:in.out]
	}
	return in.stdKmac(message)
}

// stdCmac is CMAC by the language's own cipher.
func stdCmac(key, message []byte) []byte {
	c, err := stdaes.NewCipher(key)
	if err != nil {
		panic(err)
	}
	have := make([]byte, 16)
	c.Encrypt(have, have)
	with := doubled(have)
	blocks := slices.Collect(slices.Chunk(message, 16))
	if len(message)%16 > 0 || len(message) == 0 {
		with = doubled(with)
		blocks = slices.Collect(slices.Chunk(slices.Concat(message, []byte{0x80}, make([]byte, 15-len(message)%16)), 16))
	}
	clear(have)
	for i, b := range blocks {
		for j := range have {
			have[j] ^= b[j]
			if i == len(blocks)-1 {
				have[j] ^= with[j]
			}
		}
		c.Encrypt(have, have)
	}
	return have
}

// doubled is a block's double, as a number of 128 bits.
func doubled(b []byte) []byte {
	n := new(big.Int).SetBytes(b)
	n.Lsh(n, 1)
	if n.Bit(128) == 1 {
		n.SetBit(n, 128, 0)
		n.Xor(n, big.NewInt(0x87))
	}
	return n.FillBytes(make([]byte, 16))
}

// stdKmac is KMAC by the language's own sponge.
func (in input) stdKmac(message []byte) []byte {
	begin := sha3.NewCSHAKE128
	if in.strength == 256 {
		begin = sha3.NewCSHAKE256
	}
	s := begin([]byte("KMAC"), in.custom)
	s.Write(slices.Concat([]byte{1, byte(in.block)}, listed(in.key), make([]byte, in.aheadOf(len(in.key), 2)*in.block-2-len(listed(in.key)))))
	s.Write(message)
	s.Write(in.last())
	tag := make([]byte, in.out)
	s.Read(tag)
	return tag
}

// digitsOf are the bytes of a number, one at least.
func digitsOf(n int) []byte {
	if n == 0 {
		return []byte{0}
	}
	return big.NewInt(int64(n)).Bytes()
}

// listed is a list with its bits counted ahead of it.
func listed(b []byte) []byte {
	bits := digitsOf(8 * len(b))
	return slices.Concat([]byte{byte(len(bits))}, bits, b)
}

// last is what a sponge takes in behind the message.
func (in input) last() []byte {
	bits := digitsOf(8 * in.out)
	if in.xof {
		bits = []byte{0}
	}
	return append(bits, byte(len(bits)))
}

// aheadOf is how many rates a list of n bytes fills, with so many bytes ahead of it and its bits counted.
func (f face) aheadOf(n, ahead int) int {
	bytes := ahead + 1 + len(digitsOf(8*n)) + n
	return (bytes + f.block - 1) / f.block
}

// times are so many events of the algorithm's own.
func (in input) times(n int) []api.Event {
	size := in.block
	if in.isCmac() {
		size = len(in.key)
	}
	if in.isKmac() {
		size = 200
	}
	return slices.Repeat([]api.Event{{Kind: in.event, Size: size}}, n)
}

// ofBegin is what Begin records, of lengths alone.
func (in input) ofBegin() []api.Event {
	key := len(in.key)
	switch {
	case in.isHmac() && key > in.block:
		return in.times(2 + in.ofHash(key))
	case in.isHmac():
		return in.times(2)
	case in.isCmac():
		return append([]api.Event{{Kind: api.EvSchedule, Size: key}}, in.times(1)...)
	}
	// Two bytes of the rate, and six of the name, stand ahead of the customization.
	return in.times(in.aheadOf(len(in.custom), 8) + in.aheadOf(key, 2))
}

// ofHash is how many blocks of the hash a message has with its end.
func (in input) ofHash(size int) int {
	if size%in.block > in.tail() {
		return size/in.block + 2
	}
	return size/in.block + 1
}

// ofWrites is what the writes of a message of so many bytes record.
func (in input) ofWrites(size int) []api.Event {
	if in.isCmac() {
		size = max(0, size-1)
	}
	return in.times(size / in.block)
}

// ofSum is what Sum records behind a message of so many bytes.
func (in input) ofSum(size int) []api.Event {
	switch {
	case in.isHmac():
		return in.times(in.ofHash(size%in.block) + 1)
	case in.isCmac():
		return in.times(1)
	}
	return in.times((size%in.block+len(in.last()))/in.block + 1)
}

// ofVerify is what Verify records.
func (in input) ofVerify(size int) []api.Event {
	return append(in.ofSum(size), api.Event{Kind: api.EvCompare, Size: in.out})
}

// formLen is how many bytes the form has.
func (in input) formLen() int {
	switch in.alg {
	case api.AlgHmac256:
		return 312
	case api.AlgHmac512:
		return 600
	case api.AlgCmac:
		return map[int]int{16: 241, 24: 273, 32: 305}[len(in.key)]
	}
	return 203
}

// wiped is what Wipe records.
func (in input) wiped() api.Event { return api.Event{Kind: api.EvWipe, Size: in.formLen()} }

// begin begins a session, which must not be refused.
func (in input) begin(t *testing.T, l *ledger.Ledger) *Session {
	t.Helper()
	s, e := Begin(l, in.alg, in.key, in.custom, in.out)
	if e != api.OK || s == nil {
		t.Fatalf("Begin(%d) with %d and %d bytes, %d: %v, %d", in.alg, len(in.key), len(in.custom), in.out, s, e)
	}
	return s
}

// written is a new session that took pieces.
func (in input) written(t *testing.T, pieces ...[]byte) *Session {
	t.Helper()
	s := in.begin(t, nil)
	for _, p := range pieces {
		write(t, s, nil, p)
	}
	return s
}

// want holds all that a session tells against what it was made of and its message, twice: telling changes nothing.
func (in input) want(t *testing.T, s *Session, message []byte) {
	t.Helper()
	l, tag := ledger.New(), in.tagOf(message)
	m := in.lower(t, nil)
	m.Write(nil, message)
	form := m.Form()
	for range 2 {
		if got := s.Form(); !bytes.Equal(got, form) || len(got) != in.formLen() {
			t.Fatalf("%d: Form of %d bytes is %x, want %x", in.alg, len(message), got, form)
		}
		if s.Alg() != in.alg || s.Out() != in.out {
			t.Fatalf("Alg and Out are %d, %d, want %d, %d", s.Alg(), s.Out(), in.alg, in.out)
		}
		for _, l := range []*ledger.Ledger{l, nil} {
			if got, e := s.Sum(l); e != api.OK || !bytes.Equal(got, tag) || len(got) != in.out {
				t.Fatalf("%d: Sum of %d bytes is %x, %d, want %x", in.alg, len(message), got, e, tag)
			}
		}
		wantEvents(t, "Sum", l, in.ofSum(len(message))...)
		in.wantVerdict(t, s, len(message), tag, true)
	}
}

// wantVerdict holds what Verify tells of a candidate of Out bytes, and records, against the chapter's words.
func (in input) wantVerdict(t *testing.T, s *Session, size int, candidate []byte, want bool) {
	t.Helper()
	l := ledger.New()
	for _, l := range []*ledger.Ledger{l, nil} {
		if same, e := s.Verify(l, candidate); e != api.OK || same != want {
			t.Fatalf("%d: Verify of %x is %v, %d, want %v", in.alg, candidate, same, e, want)
		}
	}
	wantEvents(t, "Verify", l, in.ofVerify(size)...)
}

// wantNone holds all calls of a session that is none against rule 4.
func wantNone(t *testing.T, what string, s *Session) {
	t.Helper()
	l := ledger.New()
	l.Note(other)
	for _, l := range []*ledger.Ledger{l, nil} {
		for _, p := range [][]byte{nil, {}, {7}, make([]byte, 16), make([]byte, 32), make([]byte, 64), make([]byte, 700)} {
			if e := s.Write(l, p); e != api.ErrNil {
				t.Errorf("%s: Write of %d bytes: %d", what, len(p), e)
			}
			// Also of what would be ErrTagLen: ErrNil is ahead of it.
			if same, e := s.Verify(l, p); same || e != api.ErrNil {
				t.Errorf("%s: Verify of %d bytes: %v, %d", what, len(p), same, e)
			}
		}
		if got, e := s.Sum(l); len(got) != 0 || e != api.ErrNil {
			t.Errorf("%s: Sum: %x, %d", what, got, e)
		}
		if c, e := s.Clone(); c != nil || e != api.ErrNil {
			t.Errorf("%s: Clone: %v, %d", what, c, e)
		}
		if e := s.Wipe(l); e != api.ErrNil {
			t.Errorf("%s: Wipe: %d", what, e)
		}
		if form, a, n := s.Form(), s.Alg(), s.Out(); len(form) != 0 || a != 0 || n != 0 {
			t.Errorf("%s: Form, Alg, Out: %x, %d, %d", what, form, a, n)
		}
	}
	wantEvents(t, what, l, other)
}

// wantRefused holds Begin against an error, with a ledger and with none.
func wantRefused(t *testing.T, a api.Alg, key, custom []byte, out int, want api.Errno) {
	t.Helper()
	l := ledger.New()
	l.Note(other)
	for _, l := range []*ledger.Ledger{l, nil} {
		if s, e := Begin(l, a, key, custom, out); s != nil || e != want {
			t.Errorf("Begin(%d) with %d and %d bytes, %d: %v, %d, want %d", a, len(key), len(custom), out, s, e, want)
		}
	}
	wantEvents(t, "what was refused", l, other)
}

// wantEvents holds a ledger against the events that it must have, one by one, and empties it.
func wantEvents(t *testing.T, what string, l *ledger.Ledger, want ...api.Event) {
	t.Helper()
	if got := slices.Collect(l.All()); !slices.Equal(got, want) {
		t.Fatalf("%s recorded %v, want %v", what, got, want)
	}
	l.Reset()
}

// write writes a piece, and must not be refused.
func write(t *testing.T, s *Session, l *ledger.Ledger, p []byte) {
	t.Helper()
	if e := s.Write(l, p); e != api.OK {
		t.Fatalf("Write of %d bytes: %d", len(p), e)
	}
}

// cloned clones a session, and must not be refused.
func cloned(t *testing.T, s *Session) *Session {
	t.Helper()
	c, e := s.Clone()
	if e != api.OK || c == nil || c == s {
		t.Fatalf("Clone: %v, %d", c, e)
	}
	return c
}

// wantedCode is what Begin answers, by the chapter's words.
func wantedCode(a api.Alg, key, custom, out int) api.Errno {
	if a == 0 || a > 7 {
		return api.ErrAlg
	}
	if a == api.AlgCmac && key != 16 && key != 24 && key != 32 {
		return api.ErrKeyLen
	}
	if a < api.AlgKmac128 && custom > 0 {
		return api.ErrArg
	}
	if custom > 64 {
		return api.ErrLong
	}
	if out < 1 || out > []int{32, 64, 16, 64, 64, 64, 64}[a-1] {
		return api.ErrTagLen
	}
	return api.OK
}

// noAlgs are all numbers that are no algorithm.
func noAlgs() []api.Alg {
	list := []api.Alg{0}
	for n := 8; n < 256; n++ {
		list = append(list, api.Alg(n))
	}
	return list
}

// noOuts are numbers of bytes that no tag has; some are few, if their upper bits are lost.
func (f face) noOuts() []int {
	return []int{math.MinInt, math.MinInt + 1, math.MinInt + 16, math.MinInt32, 16 - 1<<32, -1 << 16, -65, -64, -16, -1, 0, f.most + 1, f.most + 2, 65, 128, 256, 257, 65536, 65537, math.MaxInt32, 1 << 32, 1<<32 + 16, math.MaxInt - 1, math.MaxInt}
}

// random makes n bytes, the same ones for the same seed.
func random(seed int64, n int) []byte {
	b := make([]byte, n)
	rand.New(rand.NewSource(seed)).Read(b)
	return b
}

// rising are so many bytes from a number on.
func rising(from, n int) []byte {
	b := make([]byte, n)
	for i := range b {
		b[i] = byte(from + i)
	}
	return b
}

// unhex takes bytes out of a text to the base 16, with gaps.
func unhex(t *testing.T, text string) []byte {
	t.Helper()
	b, err := hex.DecodeString(strings.ReplaceAll(text, " ", ""))
	if err != nil {
		t.Fatal(err)
	}
	return b
}

// turned is a list with one bit turned.
func turned(b []byte, bit int) []byte {
	b = bytes.Clone(b)
	b[bit/8] ^= 1 << (bit % 8)
	return b
}

// overwrite writes over a list and over its spare room.
func overwrite(b []byte) {
	for i := range b[:cap(b)] {
		b[:cap(b)][i] = 0x99
	}
}

func TestExamples(t *testing.T) { // the chapter's
	l := ledger.New()
	s, e := Begin(l, api.AlgHmac256, []byte("Jefe"), nil, 32)
	if e != api.OK {
		t.Fatal("Begin:", e)
	}
	write(t, s, l, []byte("what do ya want for nothing?"))
	tag, e := s.Sum(l)
	if want := unhex(t, "5bdcc146 bf60754e 6a042426 089575c7 5a003f08 9d273983 9dec58b9 64ec3843"); e != api.OK || !bytes.Equal(tag, want) {
		t.Errorf("Sum: %x, %d", tag, e)
	}
	hashed := api.Event{Kind: api.EvSha256, Size: 64}
	wantEvents(t, "the first one", l, hashed, hashed, hashed, hashed)
	if same, e := s.Verify(l, tag); e != api.OK || !same {
		t.Errorf("Verify of the tag: %v, %d", same, e)
	}
	if same, e := s.Verify(l, turned(tag, 9)); e != api.OK || same {
		t.Errorf("Verify with a bit turned: %v, %d", same, e)
	}
	held := api.Event{Kind: api.EvCompare, Size: 32}
	wantEvents(t, "both", l, hashed, hashed, held, hashed, hashed, held)
	if same, e := s.Verify(l, tag[:31]); e != api.ErrTagLen || same {
		t.Errorf("Verify of 31 bytes: %v, %d", same, e)
	}
	wantEvents(t, "what was refused", l)
	for a, want := range map[api.Alg]int{api.AlgHmac256: 312, api.AlgHmac512: 600, api.AlgCmac: 241, api.AlgKmac128: 203} {
		s, e := Begin(nil, a, make([]byte, 16), nil, 16)
		if got := s.Form(); e != api.OK || len(got) != want {
			t.Errorf("the form of %d has %d bytes, %d", a, len(got), e)
		}
	}
}

func TestExamplesThatAreRefused(t *testing.T) { // the chapter's
	b := make([]byte, 65)
	for _, c := range []struct {
		alg              api.Alg
		key, custom, out int
		want             api.Errno
	}{
		{api.AlgHmac256, 16, 0, 33, api.ErrTagLen},
		{api.AlgCmac, 16, 0, 17, api.ErrTagLen},
		{api.AlgKmac128, 16, 0, 65, api.ErrTagLen},
		{api.AlgHmac256, 16, 0, 0, api.ErrTagLen},
		{api.AlgCmac, 16, 0, 0, api.ErrTagLen},
		{api.AlgKmac128, 16, 0, 0, api.ErrTagLen},
		{api.AlgCmac, 15, 0, 16, api.ErrKeyLen},
		{api.AlgCmac, 16, 1, 16, api.ErrArg},
		{api.AlgHmac512, 16, 1, 16, api.ErrArg},
		{0, 16, 0, 16, api.ErrAlg},
		{8, 16, 0, 16, api.ErrAlg},
		{api.AlgKmac256, 16, 65, 16, api.ErrLong},
	} {
		wantRefused(t, c.alg, b[:c.key], b[:c.custom], c.out, c.want)
	}
}

func TestCasesThatAreKnown(t *testing.T) { // P17.3: of RFC 4231, SP 800-38B and SP 800-185
	cipherKey := unhex(t, "2b7e151628aed2a6abf7158809cf4f3c")
	blocks := unhex(t, "6bc1bee22e409f96e93d7e117393172a ae2d8a571e03ac9c9eb76fac45af8e51 30c81c46a35ce411")
	application := []byte("My Tagged Application")
	for i, c := range []struct {
		alg                  api.Alg
		key, custom, message []byte
		want                 string
	}{
		{api.AlgHmac256, bytes.Repeat([]byte{0x0b}, 20), nil, []byte("Hi There"), "b0344c61d8db38535ca8afceaf0bf12b 881dc200c9833da726e9376c2e32cff7"},
		{api.AlgHmac256, bytes.Repeat([]byte{0x0c}, 20), nil, []byte("Test With Truncation"), "a3b6167473100ee06e0c796c2955552b"},
		{api.AlgHmac512, bytes.Repeat([]byte{0x0b}, 20), nil, []byte("Hi There"), "87aa7cdea5ef619d4ff0b4241a1d6cb0 2379f4e2ce4ec2787ad0b30545e17cde daa833b7d6b8a702038b274eaea3f4e4 be9d914eeb61f1702e696c203a126854"},
		{api.AlgHmac512, bytes.Repeat([]byte{0x0c}, 20), nil, []byte("Test With Truncation"), "415fad6271580a531d4179bc891d87a6"},
		{api.AlgCmac, cipherKey, nil, nil, "bb1d6929e95937287fa37d129b756746"},
		{api.AlgCmac, cipherKey, nil, blocks[:16], "070a16b46b4d4144f79bdd9dd04a287c"},
		{api.AlgCmac, cipherKey, nil, blocks, "dfa66747de9ae630"},
		{api.AlgCmac, unhex(t, "8e73b0f7da0e6452c810f32b809079e562f8ead2522c6b7b"), nil, nil, "d17ddf46adaacde531cac483de7a9367"},
		{api.AlgCmac, unhex(t, "603deb1015ca71be2b73aef0857d77811f352c073b6108d72d9810a30914dff4"), nil, blocks[:16], "28a7023f452e8f82bd4bf28d8c37c35c"},
		{api.AlgKmac128, rising(0x40, 32), nil, rising(0, 4), "e5780b0d3ea6f7d3a429c5706aa43a00fadbd7d49628839e3187243f456ee14e"},
		{api.AlgKmac128, rising(0x40, 32), application, rising(0, 200), "1f5b4e6cca02209e0dcb5ca635b89a15e271ecc760071dfd805faa38f9729230"},
		{api.AlgKmac256, rising(0x40, 32), application, rising(0, 4), "20c570c31346f703c9ac36c61c03cb64c3970d0cfc787e9b79599d273a68d2f7f69d4cc3de9d104a351689f27cf6f5951f0103f33f4f24871024d9c27773a8dd"},
		{api.AlgKmacX128, rising(0x40, 32), nil, rising(0, 4), "cd83740bbd92ccc8cf032b1481a0f4460e7ca9dd12b08a0c4031178bacd6ec35"},
		{api.AlgKmacX128, rising(0x40, 32), nil, rising(0, 4), "cd83740bbd92ccc8"},
		{api.AlgKmacX256, rising(0x40, 32), application, rising(0, 4), "1755133f1534752aad0748f2c706fb5c784512cab835cd15676b16c0c6647fa96faa7af634a0bf8ff6df39374fa00fad9a39e322a7c92065a64eb1fb0801eb2b"},
	} {
		want := unhex(t, c.want)
		s, e := Begin(nil, c.alg, c.key, c.custom, len(want))
		if e != api.OK {
			t.Fatalf("case %d: Begin: %d", i, e)
		}
		write(t, s, nil, c.message)
		if got, e := s.Sum(nil); e != api.OK || !bytes.Equal(got, want) {
			t.Errorf("case %d: %x, %d", i, got, e)
		}
	}
}

func TestKinds(t *testing.T) { // P17.1: the table
	for _, f := range faces() {
		k, e := Of(f.alg)
		if e != api.OK || k.Alg != f.alg || k.Most != f.most || k.Custom != f.custom || k.Key == nil {
			t.Fatalf("Of(%d): %v, %d", f.alg, k, e)
		}
	}
	for _, a := range noAlgs() {
		if k, e := Of(a); e != api.ErrAlg || k.Alg != 0 || k.Most != 0 || k.Custom || k.Key != nil {
			t.Errorf("Of(%d): %v, %d", a, k, e)
		}
	}
}

func TestKeysThatMayBe(t *testing.T) { // P17.1: Key, of all lengths about its edges, and far from them
	lengths := []int{math.MinInt, math.MinInt + 1, math.MinInt + 16, math.MinInt32, 16 - 1<<32, 1 << 16, 1<<16 + 16, 1 << 31, math.MaxInt32, 1<<32 + 16, 1<<32 + 32, math.MaxInt - 1, math.MaxInt}
	for n := -300; n < 600; n++ {
		lengths = append(lengths, n)
	}
	for _, f := range faces() {
		k, _ := Of(f.alg)
		for _, n := range lengths {
			want := n >= 0
			if f.isCmac() {
				want = n == 16 || n == 24 || n == 32
			}
			if got := k.Key(n); got != want {
				t.Errorf("%d: Key(%d) is %v", f.alg, n, got)
			}
			if n < 0 || n > 1000 {
				continue
			}
			if s, e := Begin(nil, f.alg, make([]byte, n), nil, 1); (e == api.OK) != want || (s != nil) != want || !want && e != api.ErrKeyLen {
				t.Errorf("%d: Begin with %d bytes: %d", f.alg, n, e)
			}
		}
	}
}

func TestKindsAreEachByItself(t *testing.T) { // rules 3, 7: what is done to an answer shows in no other
	for _, f := range faces() {
		k, _ := Of(f.alg)
		k.Most, k.Custom, k.Key = 99, !k.Custom, func(int) bool { return false }
		again, e := Of(f.alg)
		if e != api.OK || again.Most != f.most || again.Custom != f.custom || !again.Key(16) {
			t.Errorf("Of(%d) behind it: %v, %d", f.alg, again, e)
		}
		f.any().written(t, []byte{1})
	}
}

func TestNumbersThatAreNoAlgorithm(t *testing.T) { // P17.2, rules 1, 2: ErrAlg is ahead of all others
	for _, a := range noAlgs() {
		for _, key := range []int{0, 1, 16, 100} {
			for _, custom := range []int{0, 1, 64, 65} {
				for _, out := range []int{math.MinInt, -1, 0, 1, 16, 65, math.MaxInt} {
					wantRefused(t, a, make([]byte, key), make([]byte, custom), out, api.ErrAlg)
				}
			}
		}
	}
}

func TestKeysThatMayNotBe(t *testing.T) { // P17.2, rules 1, 2: ErrKeyLen is ahead of the others, but for ErrAlg
	for _, key := range []int{0, 1, 8, 15, 17, 23, 25, 31, 33, 48, 64, 256 + 16, 512, 65536 + 16} {
		for _, custom := range []int{0, 1, 64, 65, 100} {
			for _, out := range []int{math.MinInt, -1, 0, 1, 16, 17, math.MaxInt} {
				wantRefused(t, api.AlgCmac, make([]byte, key), make([]byte, custom), out, api.ErrKeyLen)
			}
		}
	}
}

func TestCustomizationsThatMayNotBe(t *testing.T) { // P17.2, rules 1, 2: ErrArg and ErrLong are ahead of ErrTagLen
	for _, f := range faces() {
		for _, key := range f.fewKeys() {
			for _, out := range append(f.noOuts(), f.outs()...) {
				for _, custom := range []int{1, 2, 63, 64, 65, 66, 256, 65536, 65536 + 1} {
					if !f.custom {
						wantRefused(t, f.alg, make([]byte, key), make([]byte, custom), out, api.ErrArg)
					} else if custom > 64 {
						wantRefused(t, f.alg, make([]byte, key), make([]byte, custom), out, api.ErrLong)
					}
				}
			}
		}
	}
}

func TestLengthsThatNoTagHas(t *testing.T) { // P17.2, rule 2
	for _, f := range faces() {
		for _, key := range f.keys() {
			for _, custom := range f.customs() {
				for _, out := range f.noOuts() {
					wantRefused(t, f.alg, make([]byte, key), make([]byte, custom), out, api.ErrTagLen)
				}
			}
		}
	}
}

func TestWhichErrorIsFirst(t *testing.T) { // P17.2, rule 1: whatever applies beside it
	for n := range 256 {
		a := api.Alg(n)
		for _, key := range []int{0, 1, 15, 16, 17, 24, 31, 32, 33, 200} {
			for _, custom := range []int{0, 1, 64, 65} {
				for _, out := range []int{math.MinInt, -1, 0, 1, 16, 17, 32, 33, 64, 65, math.MaxInt} {
					want := wantedCode(a, key, custom, out)
					s, e := Begin(nil, a, make([]byte, key), make([]byte, custom), out)
					if e != want || (s != nil) != (want == api.OK) {
						t.Errorf("Begin(%d) with %d and %d bytes, %d: %d, want %d", a, key, custom, out, e, want)
					}
				}
			}
		}
	}
}

func TestBegin(t *testing.T) { // P17.2: the empty message; recorded is what New records, with every length of key and customization
	for _, f := range faces() {
		for _, key := range f.keys() {
			for _, custom := range f.customs() {
				in, l, as := f.of(key, custom, f.most), ledger.New(), ledger.New()
				s := in.begin(t, l)
				in.lower(t, as)
				wantEvents(t, "New below", as, in.ofBegin()...)
				wantEvents(t, "Begin", l, in.ofBegin()...)
				in.want(t, s, nil)
				in.want(t, in.begin(t, nil), nil)
			}
		}
	}
}

func TestNoneIsEmpty(t *testing.T) { // P17.2, P17.3: nil and empty are the same
	for _, f := range faces() {
		in := f.any()
		in.custom = nil
		if !f.isCmac() {
			in.key = nil
		}
		for _, none := range [][]byte{nil, {}, make([]byte, 0, 9)} {
			like := in
			like.custom = none
			if !f.isCmac() {
				like.key = none
			}
			s := like.written(t, none, none)
			in.want(t, s, nil)
			if same, e := s.Verify(nil, none); same || e != api.ErrTagLen {
				t.Errorf("%d: Verify of none: %v, %d", f.alg, same, e)
			}
		}
	}
}

func TestTagsOfEachLength(t *testing.T) { // P17.2, P17.3: held against the layers below, and against the language's own
	for _, f := range faces() {
		message := random(172, 3*f.block+7)
		for _, key := range f.fewKeys() {
			for n := 1; n <= f.most; n++ {
				in := f.any()
				in.key, in.out = random(170, key), n
				m := in.lower(t, nil)
				m.Write(nil, message)
				if below := in.lowerSum(nil, m); !bytes.Equal(below, in.tagOf(message)) {
					t.Fatalf("%d: the layer below tells %x, want %x", f.alg, below, in.tagOf(message))
				}
				in.want(t, in.written(t, message), message)
			}
		}
	}
}

func TestWhichTagsBeginOthers(t *testing.T) { // the chapter's table: those of n bytes are the first ones, but for the two KMACs
	message := random(173, 50)
	for _, f := range faces() {
		long := f.any()
		all, _ := long.written(t, message).Sum(nil)
		for n := 1; n <= f.most; n++ {
			short := long
			short.out = n
			got, _ := short.written(t, message).Sum(nil)
			want := !f.isKmac() || f.xof || n == f.most
			// One byte, and now and then two, may be alike by chance.
			if begins := bytes.Equal(got, all[:n]); begins != want && n > 2 {
				t.Errorf("%d: the tag of %d bytes begins the other: %v", f.alg, n, begins)
			}
		}
	}
}

func TestAlgorithmsAreToldApart(t *testing.T) { // P17.2: no two of them have one tag
	seen := map[string]api.Alg{}
	for _, f := range faces() {
		in := f.of(32, 0, 16)
		tag, e := in.written(t, []byte("message")).Sum(nil)
		if was, is := seen[string(tag)]; is || e != api.OK {
			t.Errorf("%d has the tag of %d, %d", f.alg, was, e)
		}
		seen[string(tag)] = f.alg
	}
}

func TestMessages(t *testing.T) { // P17.3: of all lengths about the ends of blocks, event by event as the layers below
	for _, f := range faces() {
		in := f.any()
		for _, size := range f.sizes() {
			message, l, as := random(174, size), ledger.New(), ledger.New()
			s, m := in.begin(t, nil), in.lower(t, nil)
			write(t, s, l, message)
			m.Write(as, message)
			wantEvents(t, "Write below", as, in.ofWrites(size)...)
			wantEvents(t, "Write", l, in.ofWrites(size)...)
			in.lowerSum(as, m)
			wantEvents(t, "Sum below", as, in.ofSum(size)...)
			in.want(t, s, message)
			in.want(t, in.written(t, message), message)
		}
	}
}

func TestLongMessages(t *testing.T) { // P17.3, P17.5
	for _, f := range faces() {
		in := f.any()
		for _, size := range []int{65535, 65536, 1<<18 + 5} {
			message, l := random(int64(size), size), ledger.New()
			s := in.begin(t, nil)
			write(t, s, l, message[:1000])
			write(t, s, l, message[1000:])
			wantEvents(t, "Writes", l, in.ofWrites(size)...)
			in.want(t, s, message)
		}
	}
}

func TestAllInputs(t *testing.T) { // P17.2, P17.3: keys, customizations and tags of all lengths that rules turn at
	for _, f := range faces() {
		for _, in := range f.inputs() {
			for _, size := range []int{0, f.block - 2, f.block + 1} {
				message := random(175, size)
				in.want(t, in.written(t, message), message)
			}
		}
	}
}

func TestPieces(t *testing.T) { // P17.5: however a message is cut
	for _, f := range faces() {
		in := f.any()
		for _, size := range f.fewSizes() {
			message := random(176, size)
			for _, step := range []int{1, 2, 3, 7, 16, f.block - 1, f.block, f.block + 1} {
				s, l := in.begin(t, nil), ledger.New()
				for piece := range slices.Chunk(message, step) {
					write(t, s, l, piece)
					write(t, s, l, nil)
				}
				wantEvents(t, "the pieces", l, in.ofWrites(size)...)
				in.want(t, s, message)
			}
		}
	}
}

func TestCutAnywhere(t *testing.T) { // P17.5: in two, the events of each piece by its own end
	for _, f := range faces() {
		in := f.any()
		message := random(177, 2*f.block+3)
		for cut := range len(message) + 1 {
			s, l := in.begin(t, nil), ledger.New()
			write(t, s, l, message[:cut])
			wantEvents(t, "the first piece", l, in.ofWrites(cut)...)
			write(t, s, l, message[cut:])
			wantEvents(t, "the second one", l, in.times(len(in.ofWrites(len(message)))-len(in.ofWrites(cut)))...)
			in.want(t, s, message)
		}
	}
}

func TestToldInTheMidst(t *testing.T) { // P17.3: Sum, Verify, Form leave the session as it is, and the message goes on
	for _, f := range faces() {
		in := f.any()
		message := random(178, 3*f.block)
		s := in.begin(t, nil)
		for i, b := range message {
			if i%5 == 0 {
				in.want(t, s, message[:i])
				in.wantVerdict(t, s, i, make([]byte, in.out), false)
				s.Verify(nil, nil)
			}
			write(t, s, nil, []byte{b})
		}
		in.want(t, s, message)
	}
}

func TestAnyBitTurned(t *testing.T) { // P17.3, P17.5: just the one tag is taken, and the ledger is the same for all
	for _, f := range faces() {
		for _, out := range f.outs() {
			in := f.any()
			in.out = out
			for _, size := range []int{0, 5, f.block} {
				message := random(179, size)
				s, tag := in.written(t, message), in.tagOf(message)
				for bit := range 8 * out {
					in.wantVerdict(t, s, size, turned(tag, bit), false)
				}
				for _, b := range []byte{0, 255} {
					same := bytes.Repeat([]byte{b}, out)
					in.wantVerdict(t, s, size, same, bytes.Equal(same, tag))
				}
				in.want(t, s, message)
			}
		}
	}
}

func TestOneByteTags(t *testing.T) { // P17.5: of all 256 candidates one is taken
	for _, f := range faces() {
		in := f.any()
		in.out = 1
		for size := range 20 {
			message := random(180, size)
			s, tag := in.written(t, message), in.tagOf(message)
			for b := range 256 {
				in.wantVerdict(t, s, size, []byte{byte(b)}, byte(b) == tag[0])
			}
		}
	}
}

func TestCandidatesOfOtherLengths(t *testing.T) { // P17.3, rule 2: fewer, more and none, also such as begin with the tag
	for _, f := range faces() {
		for _, out := range f.outs() {
			in, l := f.any(), ledger.New()
			in.out = out
			s := in.written(t, []byte("abc"))
			all := slices.Concat(in.tagOf([]byte("abc")), random(181, 300))
			l.Note(other)
			for n := range len(all) + 1 {
				for _, l := range []*ledger.Ledger{l, nil} {
					if same, e := s.Verify(l, all[:n]); n != out && (same || e != api.ErrTagLen) {
						t.Errorf("%d: Verify of %d bytes: %v, %d", f.alg, n, same, e)
					}
					if n == out {
						break
					}
				}
				if n == out {
					wantEvents(t, "Verify of Out bytes", l, append([]api.Event{other}, in.ofVerify(3)...)...)
					l.Note(other)
				}
			}
			if same, e := s.Verify(l, nil); same || e != api.ErrTagLen {
				t.Errorf("%d: Verify of nil: %v, %d", f.alg, same, e)
			}
			wantEvents(t, "all refused", l, other)
			in.want(t, s, []byte("abc"))
		}
	}
}

func TestAnotherOnesTag(t *testing.T) { // P17.5: of another key, customization, message or algorithm it is not taken
	for _, f := range faces() {
		in := f.any()
		s := in.written(t, []byte("abc"))
		for _, g := range faces() {
			for i, tag := range [][]byte{
				input{g, random(182, 32), nil, min(in.out, g.most)}.tagOf([]byte("abc")),
				input{g, in.key, nil, min(in.out, g.most)}.tagOf([]byte("abd")),
				input{g, in.key, []byte("x"), min(in.out, g.most)}.tagOf([]byte("abc\x00")),
			} {
				want := api.OK
				if len(tag) != in.out {
					want = api.ErrTagLen
				}
				if same, e := s.Verify(nil, tag); same || e != want {
					t.Errorf("%d: the tag %d of %d: %v, %d", f.alg, i, g.alg, same, e)
				}
			}
		}
	}
}

func TestClones(t *testing.T) { // P17.4, P17.5: in the midst, both go on by themselves
	for _, f := range faces() {
		for _, in := range []input{f.any(), f.of(f.fewKeys()[0], 0, 1)} {
			for _, size := range f.sizes() {
				ahead, one, two := random(183, size), random(184, f.block+3), random(185, 2*f.block)
				s := in.written(t, ahead)
				c := cloned(t, s)
				in.want(t, c, ahead)
				l := ledger.New()
				write(t, s, l, one)
				wantEvents(t, "the first one's Write", l, in.times(len(in.ofWrites(size+len(one)))-len(in.ofWrites(size)))...)
				in.want(t, c, ahead)
				write(t, c, l, two)
				wantEvents(t, "the clone's Write", l, in.times(len(in.ofWrites(size+len(two)))-len(in.ofWrites(size)))...)
				in.want(t, s, slices.Concat(ahead, one))
				in.want(t, c, slices.Concat(ahead, two))
			}
		}
	}
}

func TestClonesOutliveEachOther(t *testing.T) { // P17.4, P17.5: what is wiped is the one alone
	for _, f := range faces() {
		in, message := f.any(), random(186, f.block+9)
		s := in.written(t, message)
		c := cloned(t, s)
		d := cloned(t, c)
		if e := s.Wipe(nil); e != api.OK {
			t.Fatal("Wipe:", e)
		}
		wantNone(t, "the first one", s)
		in.want(t, c, message)
		if e := c.Wipe(nil); e != api.OK {
			t.Fatal("Wipe of the clone:", e)
		}
		wantNone(t, "the clone", c)
		write(t, d, nil, message)
		in.want(t, d, slices.Concat(message, message))
		in.want(t, cloned(t, d), slices.Concat(message, message))
	}
}

func TestWipe(t *testing.T) { // P17.4, rule 4: one event, and the Mac itself is wiped, too
	for _, f := range faces() {
		for _, key := range f.fewKeys() {
			for _, size := range f.fewSizes() {
				in, l, as := f.of(key, 0, f.outs()[1]), ledger.New(), ledger.New()
				s, m := in.written(t, random(187, size)), in.lower(t, nil)
				held := s.mac
				m.Wipe(as)
				wantEvents(t, "Wipe below", as, in.wiped())
				l.Note(other)
				if e := s.Wipe(l); e != api.OK {
					t.Fatalf("%d: Wipe: %d", f.alg, e)
				}
				wantEvents(t, "Wipe", l, other, in.wiped())
				wantNone(t, "a wiped one", s)
				if got := held.form(); len(got) != 0 || held.write(nil, nil) != api.ErrNil {
					t.Errorf("%d: the Mac of a wiped session has %x", f.alg, got)
				}
				if s.alg != 0 || s.out != 0 || s.mac.write != nil || s.mac.sum != nil || s.mac.clone != nil || s.mac.wipe != nil || s.mac.form != nil {
					t.Errorf("%d: a wiped session keeps something", f.alg)
				}
				s = in.begin(t, nil)
				if e := s.Wipe(nil); e != api.OK {
					t.Errorf("%d: Wipe without a ledger: %d", f.alg, e)
				}
				wantNone(t, "one that was wiped without a ledger", s)
			}
		}
	}
}

func TestSessionsThatAreNone(t *testing.T) { // rule 4
	wantNone(t, "nil", nil)
	wantNone(t, "new", new(Session))
	wantNone(t, "zero", &Session{})
	var s Session
	wantNone(t, "a variable", &s)
}

func TestLedgerHangsOnLengths(t *testing.T) { // P17.5, rule 9: whatever the bytes; of Verify whatever the candidate
	fills := []func(seed int64, n int) []byte{
		func(_ int64, n int) []byte { return make([]byte, n) },
		func(_ int64, n int) []byte { return bytes.Repeat([]byte{255}, n) },
		random,
		func(seed int64, n int) []byte { return random(seed+1000, n) },
	}
	for _, f := range faces() {
		for _, in := range f.inputs() {
			for _, size := range f.fewSizes() {
				want := slices.Concat(in.ofBegin(), in.ofWrites(size), in.ofSum(size), in.ofVerify(size), in.ofVerify(size), []api.Event{in.wiped()})
				for i, fill := range fills {
					l := ledger.New()
					s, e := Begin(l, f.alg, fill(188, len(in.key)), fill(189, len(in.custom)), in.out)
					if e != api.OK {
						t.Fatalf("%d: Begin: %d", f.alg, e)
					}
					s.Write(l, fill(190, size))
					tag, _ := s.Sum(l)
					s.Verify(l, tag)
					s.Verify(l, fill(191, in.out))
					s.Clone()
					s.Wipe(l)
					if got := slices.Collect(l.All()); !slices.Equal(got, want) {
						t.Fatalf("%d: fill %d recorded %v, want %v", f.alg, i, got, want)
					}
				}
			}
		}
	}
}

func TestRecordedBehindAllOthers(t *testing.T) { // rule 5; the zero Ledger is one, too
	for _, f := range faces() {
		var l ledger.Ledger
		in, o := f.any(), []api.Event{other}
		l.Note(other)
		s := in.begin(t, &l)
		l.Note(other)
		write(t, s, &l, make([]byte, 3*f.block))
		l.Note(other)
		s.Sum(&l)
		l.Note(other)
		s.Verify(&l, make([]byte, in.out))
		s.Verify(&l, nil)
		Begin(&l, f.alg, in.key, in.custom, 0)
		s.Wipe(&l)
		s.Wipe(&l)
		n := 3 * f.block
		wantEvents(t, "all calls", &l, slices.Concat(o, in.ofBegin(), o, in.ofWrites(n), o, in.ofSum(n), o, in.ofVerify(n), []api.Event{in.wiped()})...)
	}
}

func TestLedgersMayChange(t *testing.T) { // rule 5: a call records in its own ledger, whichever the ones ahead of it had
	for _, f := range faces() {
		in, one, two := f.any(), ledger.New(), ledger.New()
		s := in.begin(t, one)
		wantEvents(t, "Begin", one, in.ofBegin()...)
		c := cloned(t, s)
		write(t, s, two, make([]byte, 2*f.block))
		wantEvents(t, "Write", two, in.ofWrites(2*f.block)...)
		c.Sum(two)
		wantEvents(t, "Sum", two, in.ofSum(0)...)
		c.Wipe(two)
		wantEvents(t, "Wipe", two, in.wiped())
		s.Sum(nil)
		s.Verify(nil, make([]byte, in.out))
		s.Wipe(nil)
		wantEvents(t, "the first ledger", one)
		wantEvents(t, "the second ledger", two)
	}
}

func TestBytesStayAndAreNotKept(t *testing.T) { // rule 3: neither they nor their spare room change, and a session outlives them
	for _, f := range faces() {
		for _, in := range f.inputs() {
			for _, size := range []int{0, 3, f.block, f.block + 5} {
				message := random(192, size)
				tag := in.tagOf(message)
				var whole, was, lists [][]byte
				for i, b := range [][]byte{in.key, in.custom, message, tag} {
					whole = append(whole, slices.Concat([]byte{81, 82}, b, random(int64(193+i), 80)))
					was = append(was, bytes.Clone(whole[i]))
					lists = append(lists, whole[i][2:2+len(b)])
				}
				s, e := Begin(nil, f.alg, lists[0], lists[1], in.out)
				if e != api.OK {
					t.Fatalf("%d: Begin: %d", f.alg, e)
				}
				write(t, s, nil, lists[2])
				if same, e := s.Verify(nil, lists[3]); e != api.OK || !same {
					t.Errorf("%d: Verify: %v, %d", f.alg, same, e)
				}
				s.Verify(nil, lists[3][:0])
				c := cloned(t, s)
				for i := range whole {
					if !bytes.Equal(whole[i], was[i]) {
						t.Errorf("%d: list %d that was handed in has changed", f.alg, i)
					}
					overwrite(whole[i])
				}
				in.want(t, s, message)
				in.want(t, c, message)
				s.Wipe(nil)
				for i := range whole {
					if !bytes.Equal(whole[i], bytes.Repeat([]byte{0x99}, len(whole[i]))) {
						t.Errorf("%d: list %d was written to by Wipe", f.alg, i)
					}
				}
			}
		}
	}
}

func TestWrittenOverAtOnce(t *testing.T) { // rule 3: one list for all that is handed in, written over behind each call
	for _, f := range faces() {
		in, message := f.any(), random(197, 4*f.block+1)
		b := make([]byte, 200)
		n := copy(b, in.key)
		m := copy(b[n:], in.custom)
		s, e := Begin(nil, f.alg, b[:n], b[n:n+m], in.out)
		if e != api.OK {
			t.Fatalf("%d: Begin: %d", f.alg, e)
		}
		for piece := range slices.Chunk(message, 13) {
			overwrite(b)
			write(t, s, nil, b[:copy(b, piece)])
		}
		overwrite(b)
		in.want(t, s, message)
	}
}

func TestAnswersAreNew(t *testing.T) { // rule 3: neither they nor their spare room are shared, and the rest of a tag is not in it
	for _, f := range faces() {
		for _, in := range f.inputs() {
			message := random(198, f.block+1)
			s := in.written(t, message)
			tell := func() [][]byte {
				tag, _ := s.Sum(nil)
				return [][]byte{tag, s.Form()}
			}
			one, two := tell(), tell()
			for i, answer := range one {
				want := bytes.Clone(two[i])
				if room := answer[len(answer):cap(answer)]; !bytes.Equal(room, make([]byte, len(room))) {
					t.Errorf("%d: the spare room of answer %d has %x", f.alg, i, room)
				}
				overwrite(answer)
				if !bytes.Equal(two[i], want) || !bytes.Equal(tell()[i], want) {
					t.Errorf("%d: answer %d that was written over shows elsewhere", f.alg, i)
				}
			}
			write(t, s, nil, message)
			s.Wipe(nil)
			if !bytes.Equal(two[0], in.tagOf(message)) || len(two[1]) != in.formLen() || bytes.Equal(two[1], make([]byte, in.formLen())) {
				t.Errorf("%d: an answer has changed with what was called later", f.alg)
			}
		}
	}
}

func TestManySessionsAtOnce(t *testing.T) { // P17.5, rule 7: in turn, piece by piece, all algorithms among each other
	type pair struct {
		in      input
		s       *Session
		message []byte
	}
	var all []*pair
	for _, f := range faces() {
		for i, in := range f.inputs() {
			if i%7 == 0 {
				all = append(all, &pair{in: in, s: in.begin(t, nil)})
			}
		}
	}
	for round := range 30 {
		for i, p := range all {
			piece := random(int64(1000*round+i), (i*round)%41)
			write(t, p.s, nil, piece)
			p.message = append(p.message, piece...)
		}
	}
	for _, p := range all {
		p.in.want(t, p.s, p.message)
	}
}

func TestSessionsInGoroutines(t *testing.T) { // rule 7: each by itself, with lists that all of them read
	for _, f := range faces() {
		in, message := f.any(), random(199, 6*f.block)
		first := in.written(t, message[:f.block])
		var wait sync.WaitGroup
		for i := range 8 {
			s := cloned(t, first)
			wait.Go(func() {
				l := ledger.New()
				for n := f.block; n < len(message); n++ {
					s.Write(l, message[n:n+1])
				}
				tag, e := s.Sum(nil)
				if e != api.OK || !bytes.Equal(tag, in.tagOf(message)) {
					t.Errorf("goroutine %d: %x, %d", i, tag, e)
				}
				if want := len(in.ofWrites(len(message))) - len(in.ofWrites(f.block)); l.Len() != want {
					t.Errorf("goroutine %d: recorded %v", i, l.Runs())
				}
				fresh, e := Begin(nil, f.alg, in.key, in.custom, in.out)
				if same, x := fresh.Verify(nil, in.tagOf(nil)); e != api.OK || x != api.OK || !same {
					t.Errorf("goroutine %d: Verify: %v, %d, %d", i, same, e, x)
				}
				s.Wipe(nil)
			})
		}
		wait.Wait()
		in.want(t, first, message[:f.block])
	}
}

func FuzzSession(f *testing.F) { // P1, P17.1 to P17.5
	f.Add(byte(1), []byte("Jefe"), []byte{}, []byte("what do ya want for nothing?"), []byte{16, 3}, 32, []byte{1})
	f.Add(byte(2), make([]byte, 129), []byte{}, make([]byte, 239), []byte{127, 1, 1}, 64, make([]byte, 64))
	f.Add(byte(3), make([]byte, 24), []byte{}, make([]byte, 33), []byte{15, 1, 16}, 16, make([]byte, 16))
	f.Add(byte(3), make([]byte, 15), []byte{7}, []byte{}, []byte{}, 0, []byte{})
	f.Add(byte(4), rising(0x40, 32), make([]byte, 64), make([]byte, 166), []byte{165}, 32, make([]byte, 32))
	f.Add(byte(5), []byte{}, make([]byte, 65), []byte{}, []byte{}, -1, []byte{})
	f.Add(byte(6), []byte{}, []byte{}, []byte{}, []byte{}, 1, []byte{0})
	f.Add(byte(7), make([]byte, 131), []byte{1}, make([]byte, 300), []byte{135, 1}, 65, []byte{})
	f.Add(byte(0), []byte{}, []byte{1}, []byte{}, []byte{}, 0, []byte{})
	f.Fuzz(func(t *testing.T, a byte, key, custom, message, cuts []byte, out int, candidate []byte) {
		if want := wantedCode(api.Alg(a), len(key), len(custom), out); want != api.OK {
			wantRefused(t, api.Alg(a), key, custom, out, want)
			return
		}
		in, l := input{faces()[a-1], key, custom, out}, ledger.New()
		s, rest := in.begin(t, l), message
		wantEvents(t, "Begin", l, in.ofBegin()...)
		for _, cut := range cuts {
			n := min(int(cut), len(rest))
			write(t, s, l, rest[:n])
			rest = rest[n:]
			s = cloned(t, s)
		}
		write(t, s, l, rest)
		wantEvents(t, "Writes", l, in.ofWrites(len(message))...)
		in.want(t, s, message)
		if len(candidate) == out {
			in.wantVerdict(t, s, len(message), candidate, bytes.Equal(candidate, in.tagOf(message)))
		} else if same, e := s.Verify(l, candidate); same || e != api.ErrTagLen {
			t.Fatalf("Verify of %d bytes: %v, %d", len(candidate), same, e)
		}
		if e := s.Wipe(l); e != api.OK {
			t.Fatal("Wipe:", e)
		}
		wantEvents(t, "Wipe", l, in.wiped())
		wantNone(t, "the wiped one", s)
	})
}
