package hkdf

import (
	"bytes"
	std "crypto/hkdf"
	std256 "crypto/sha256"
	std512 "crypto/sha512"
	"encoding/hex"
	"hash"
	"math"
	"math/rand"
	"slices"
	"strings"
	"sync"
	"testing"

	"turnkey/api"
	"turnkey/hmac"
	"turnkey/ledger"
)

// other is an event of somebody else's, which stands in a ledger already.
var other = api.Event{Kind: api.EvOp, Size: 5}

// face is what the chapters say of an algorithm, and the language's own hash function of it.
type face struct {
	alg               api.Alg
	size, block, tail int
	event             api.Event
	std               func() hash.Hash
}

// faces are both algorithms: size is the chapter's L, tail how many bytes may wait for their end to go into the same block.
func faces() []face {
	return []face{
		{alg: api.AlgHmac256, size: 32, block: 64, tail: 55, event: api.Event{Kind: api.EvSha256, Size: 64}, std: std256.New},
		{alg: api.AlgHmac512, size: 64, block: 128, tail: 111, event: api.Event{Kind: api.EvSha512, Size: 128}, std: std512.New},
	}
}

// noAlgs are all numbers that are no algorithm of these calls: 0, AlgCmac and the greatest among them.
func noAlgs() []api.Alg {
	var list []api.Alg
	for n := range 256 {
		if a := api.Alg(n); a != api.AlgHmac256 && a != api.AlgHmac512 {
			list = append(list, a)
		}
	}
	return list
}

// most is how many bytes may be told.
func (f face) most() int { return 255 * f.size }

// keys are the lengths of keys, salts and pseudorandom keys that the rules turn at: about a sum, a block and two, and the ends of blocks.
func (f face) keys() []int {
	return []int{0, 1, f.size - 1, f.size, f.size + 1, f.tail, f.tail + 1, f.block - 1, f.block, f.block + 1, f.block + f.tail, f.block + f.tail + 1, 2 * f.block, 2*f.block + 1, 1000}
}

// infos are the lengths of informations that the rules turn at: a byte stands behind them, and a sum ahead of them but for the first part.
func (f face) infos() []int {
	list := []int{0, 1, 10, 1000}
	for _, ahead := range []int{1, f.size + 1} {
		for _, full := range []int{f.tail, f.block, f.block + f.tail, 2 * f.block} {
			for _, n := range []int{full - ahead - 1, full - ahead, full - ahead + 1} {
				if n >= 0 {
					list = append(list, n)
				}
			}
		}
	}
	return list
}

// outs are the numbers of bytes that the rules turn at.
func (f face) outs() []int {
	return []int{0, 1, f.size - 1, f.size, f.size + 1, 2*f.size - 1, 2 * f.size, 2*f.size + 1, f.most() - f.size, f.most() - 1, f.most()}
}

// fewOuts are those of them with which all edges of lists are tried.
func (f face) fewOuts() []int { return f.outs()[:8] }

// below are the numbers that are ErrArg.
func below() []int {
	return []int{-1, -2, -32, -64, -255, -8160, -8161, -16320, -16321, -65536, math.MinInt32, math.MinInt32 - 1, math.MinInt + 32, math.MinInt + 1, math.MinInt}
}

// above are the numbers that are ErrLong; some have few bytes, if their upper ones are lost or 31 is added.
func (f face) above() []int {
	return []int{f.most() + 1, f.most() + 2, f.most() + f.size, 256 * f.size, 256*f.size + 1, 2 * f.most(), 65536, 65537, 1 << 24, math.MaxInt32, 1 << 32, 1<<32 + 32, 1 << 62, math.MaxInt - 31, math.MaxInt - 1, math.MaxInt}
}

// extracted is Extract by the chapter's words, over whole lists, made of hmac alone; l has what is recorded of it.
func (f face) extracted(l *ledger.Ledger, salt, key []byte) []byte {
	if len(salt) == 0 {
		salt = make([]byte, f.size)
	}
	prk, _ := hmac.Tag(l, f.alg, salt, key)
	return prk
}

// expanded is Expand by the chapter's words, over whole lists, made of hmac alone; l has what is recorded of it.
func (f face) expanded(l *ledger.Ledger, prk, info []byte, n int) []byte {
	hmac.New(l, f.alg, prk)
	var last, all []byte
	for i := 1; len(all) < n; i++ {
		m, _ := hmac.New(nil, f.alg, prk)
		m.Write(l, slices.Concat(last, info, []byte{byte(i)}))
		last, _ = m.Sum(l)
		all = append(all, last...)
	}
	return all[:n]
}

// derived is Key likewise.
func (f face) derived(l *ledger.Ledger, key, salt, info []byte, n int) []byte {
	return f.expanded(l, f.extracted(l, salt, key), info, n)
}

// stdKey is Key by the language's own.
func (f face) stdKey(t *testing.T, key, salt, info []byte, n int) []byte {
	t.Helper()
	got, err := std.Key(f.std, key, salt, string(info), n)
	if err != nil {
		t.Fatal(err)
	}
	return got
}

// blocks are so many events of a block.
func (f face) blocks(n int) []api.Event { return slices.Repeat([]api.Event{f.event}, n) }

// ofHash is how many blocks a message has with its end.
func (f face) ofHash(m int) int {
	if m%f.block > f.tail {
		return m/f.block + 2
	}
	return m/f.block + 1
}

// ofNew is how many blocks hmac.New records of a key of k bytes.
func (f face) ofNew(k int) int {
	if k > f.block {
		return f.ofHash(k) + 2
	}
	return 2
}

// ofMessage is how many blocks a message of m bytes and its Sum record.
func (f face) ofMessage(m int) int { return f.ofHash(m) + 1 }

// ofExtract is how many blocks Extract records, of lengths alone.
func (f face) ofExtract(salt, key int) int { return f.ofNew(salt) + f.ofMessage(key) }

// ofExpand is how many blocks Expand records, of lengths alone.
func (f face) ofExpand(prk, info, n int) int {
	sum := f.ofNew(prk)
	for i := range (n + f.size - 1) / f.size {
		if i == 0 {
			sum += f.ofMessage(info + 1)
		} else {
			sum += f.ofMessage(f.size + info + 1)
		}
	}
	return sum
}

// ofKey is how many blocks Key records, of lengths alone.
func (f face) ofKey(key, salt, info, n int) int {
	return f.ofExtract(salt, key) + f.ofExpand(f.size, info, n)
}

// wantExtract holds Extract against the chapter's words, with a ledger and with none.
func (f face) wantExtract(t *testing.T, salt, key []byte) {
	t.Helper()
	l, as := ledger.New(), ledger.New()
	want := f.extracted(as, salt, key)
	for _, l := range []*ledger.Ledger{l, nil} {
		if got, e := Extract(l, f.alg, salt, key); e != api.OK || !bytes.Equal(got, want) || len(got) != f.size {
			t.Fatalf("%d: Extract of %d and %d bytes is %x, %d, want %x", f.alg, len(salt), len(key), got, e, want)
		}
	}
	wantEvents(t, "hmac for Extract", as, f.blocks(f.ofExtract(len(salt), len(key)))...)
	wantEvents(t, "Extract", l, f.blocks(f.ofExtract(len(salt), len(key)))...)
}

// wantExpand holds Expand against the chapter's words, with a ledger and with none.
func (f face) wantExpand(t *testing.T, prk, info []byte, n int) {
	t.Helper()
	l, as := ledger.New(), ledger.New()
	want := f.expanded(as, prk, info, n)
	for _, l := range []*ledger.Ledger{l, nil} {
		if got, e := Expand(l, f.alg, prk, info, n); e != api.OK || !bytes.Equal(got, want) || len(got) != n {
			t.Fatalf("%d: Expand of %d and %d bytes, %d, is %x, %d, want %x", f.alg, len(prk), len(info), n, got, e, want)
		}
	}
	wantEvents(t, "hmac for Expand", as, f.blocks(f.ofExpand(len(prk), len(info), n))...)
	wantEvents(t, "Expand", l, f.blocks(f.ofExpand(len(prk), len(info), n))...)
}

// wantKey holds Key against the chapter's words and against the language's own, with a ledger and with none.
func (f face) wantKey(t *testing.T, key, salt, info []byte, n int) {
	t.Helper()
	l, as := ledger.New(), ledger.New()
	want := f.derived(as, key, salt, info, n)
	if own := f.stdKey(t, key, salt, info, n); !bytes.Equal(own, want) {
		t.Fatalf("%d: the chapter's words are not the language's own", f.alg)
	}
	for _, l := range []*ledger.Ledger{l, nil} {
		if got, e := Key(l, f.alg, key, salt, info, n); e != api.OK || !bytes.Equal(got, want) || len(got) != n {
			t.Fatalf("%d: Key of %d, %d and %d bytes, %d, is %x, %d, want %x", f.alg, len(key), len(salt), len(info), n, got, e, want)
		}
	}
	wantEvents(t, "hmac for Key", as, f.blocks(f.ofKey(len(key), len(salt), len(info), n))...)
	wantEvents(t, "Key", l, f.blocks(f.ofKey(len(key), len(salt), len(info), n))...)
}

// wantEvents holds a ledger against the events that it must have, one by one, and empties it.
func wantEvents(t *testing.T, what string, l *ledger.Ledger, want ...api.Event) {
	t.Helper()
	if got := slices.Collect(l.All()); !slices.Equal(got, want) {
		t.Fatalf("%s recorded %v, want %d: %v", what, l.Runs(), len(want), want)
	}
	l.Reset()
}

// wantRefused holds an answer against an error, beside which there must be no bytes.
func wantRefused(t *testing.T, what string, got []byte, e, want api.Errno) {
	t.Helper()
	if e != want || len(got) != 0 {
		t.Errorf("%s: %x, %d, want %d", what, got, e, want)
	}
}

// random makes n bytes, the same ones for the same seed.
func random(seed int64, n int) []byte {
	b := make([]byte, n)
	rand.New(rand.NewSource(seed)).Read(b)
	return b
}

// rising are so many bytes from a number on.
func rising(from, n int) []byte {
	b := make([]byte, n)
	for i := range b {
		b[i] = byte(from + i)
	}
	return b
}

// unhex takes bytes out of a text to the base 16, with gaps.
func unhex(t *testing.T, text string) []byte {
	t.Helper()
	b, err := hex.DecodeString(strings.ReplaceAll(text, " ", ""))
	if err != nil {
		t.Fatal(err)
	}
	return b
}

// overwrite writes over a list and over its spare room.
func overwrite(b []byte) {
	for i := range b[:cap(b)] {
		b[:cap(b)][i] = 0x99
	}
}

func TestExamples(t *testing.T) { // the chapter's
	f, l := faces()[0], ledger.New()
	key, salt, info := bytes.Repeat([]byte{11}, 22), rising(0, 13), rising(240, 10)
	prk, e := Extract(l, api.AlgHmac256, salt, key)
	if want := unhex(t, "077709362c2e32df0ddc3f0dc47bba6390b6c73bb50f9c3122ec844ad7c2b3e5"); e != api.OK || !bytes.Equal(prk, want) {
		t.Errorf("Extract: %x, %d", prk, e)
	}
	wantEvents(t, "Extract", l, f.blocks(4)...)
	got, e := Key(l, api.AlgHmac256, key, salt, info, 42)
	if want := unhex(t, "3cb25f25faacd57a90434f64d0362f2a2d2d0a90cf1a5a4c5db02d56ecc4c5bf34007208d5b887185865"); e != api.OK || !bytes.Equal(got, want) {
		t.Errorf("Key of 42: %x, %d", got, e)
	}
	wantEvents(t, "Key of 42", l, f.blocks(4+2+2*2)...)
	if got, e := Key(l, api.AlgHmac256, key, salt, info, 0); e != api.OK || len(got) != 0 {
		t.Errorf("Key of 0: %x, %d", got, e)
	}
	wantEvents(t, "Key of 0", l, f.blocks(4+2)...)
	if got, e := Expand(nil, api.AlgHmac256, prk, info, 8160); e != api.OK || len(got) != 8160 {
		t.Errorf("Expand of 8160: %d bytes, %d", len(got), e)
	}
	got, e = Expand(l, api.AlgHmac256, prk, info, 8161)
	wantRefused(t, "Expand of 8161", got, e, api.ErrLong)
	got, e = Expand(l, api.AlgHmac256, prk, info, -1)
	wantRefused(t, "Expand of -1", got, e, api.ErrArg)
	got, e = Extract(l, api.AlgCmac, salt, key)
	wantRefused(t, "Extract of AlgCmac", got, e, api.ErrAlg)
	got, e = Key(l, 0, key, salt, info, 42)
	wantRefused(t, "Key of the algorithm 0", got, e, api.ErrAlg)
	wantEvents(t, "what was refused", l)
}

func TestCasesOfRFC5869(t *testing.T) { // P15.1 to P15.3: those with SHA-256
	for i, c := range []struct {
		key, salt, info []byte
		n               int
		prk, want       string
	}{
		{
			bytes.Repeat([]byte{0x0b}, 22), rising(0, 13), rising(0xf0, 10), 42,
			"077709362c2e32df0ddc3f0dc47bba6390b6c73bb50f9c3122ec844ad7c2b3e5",
			"3cb25f25faacd57a90434f64d0362f2a2d2d0a90cf1a5a4c5db02d56ecc4c5bf34007208d5b887185865",
		},
		{
			rising(0, 80), rising(0x60, 80), rising(0xb0, 80), 82,
			"06a6b88c5853361a06104c9ceb35b45cef760014904671014a193f40c15fc244",
			"b11e398dc80327a1c8e7f78c596a49344f012eda2d4efad8a050cc4c19afa97c59045a99cac7827271cb41c65e590e09da3275600c2f09b8367793a9aca3db71cc30c58179ec3e87c14c01d5c1f3434f1d87",
		},
		{
			bytes.Repeat([]byte{0x0b}, 22), nil, nil, 42,
			"19ef24a32c717b167f33a91d6f648bdf96596776afdb6377ac434c1c293ccb04",
			"8da4e775a563c18f715f802a063c5a31b8a11f5c5ee1879ec3454e5f3c738d2d9d201395faa4b61a96c8",
		},
	} {
		prk, e := Extract(nil, api.AlgHmac256, c.salt, c.key)
		if e != api.OK || !bytes.Equal(prk, unhex(t, c.prk)) {
			t.Errorf("case %d: Extract: %x, %d", i+1, prk, e)
		}
		if got, e := Expand(nil, api.AlgHmac256, unhex(t, c.prk), c.info, c.n); e != api.OK || !bytes.Equal(got, unhex(t, c.want)) {
			t.Errorf("case %d: Expand: %x, %d", i+1, got, e)
		}
		if got, e := Key(nil, api.AlgHmac256, c.key, c.salt, c.info, c.n); e != api.OK || !bytes.Equal(got, unhex(t, c.want)) {
			t.Errorf("case %d: Key: %x, %d", i+1, got, e)
		}
	}
}

func TestNumbersThatAreNoAlgorithm(t *testing.T) { // P15.1 to P15.3, rules 1, 2: ErrAlg is ahead of ErrArg and ErrLong
	l := ledger.New()
	l.Note(other)
	list := noAlgs()
	if len(list) != 254 {
		t.Fatalf("%d numbers are asked", len(list))
	}
	for _, a := range list {
		for _, l := range []*ledger.Ledger{l, nil} {
			for _, b := range [][]byte{nil, {}, {7}, make([]byte, 300)} {
				got, e := Extract(l, a, b, b)
				wantRefused(t, "Extract", got, e, api.ErrAlg)
				for _, n := range []int{math.MinInt, -1, 0, 1, 32, 8160, 8161, 16320, 16321, math.MaxInt} {
					got, e := Expand(l, a, b, b, n)
					wantRefused(t, "Expand", got, e, api.ErrAlg)
					got, e = Key(l, a, b, b, b, n)
					wantRefused(t, "Key", got, e, api.ErrAlg)
				}
			}
		}
	}
	wantEvents(t, "all refused", l, other)
}

func TestNumbersOfBytesThatMayNotBe(t *testing.T) { // P15.2, P15.3, rule 2
	for _, f := range faces() {
		l := ledger.New()
		l.Note(other)
		for _, l := range []*ledger.Ledger{l, nil} {
			for _, size := range f.keys() {
				b := random(150, size)
				for want, list := range map[api.Errno][]int{api.ErrArg: below(), api.ErrLong: f.above()} {
					for _, n := range list {
						got, e := Expand(l, f.alg, b, b, n)
						wantRefused(t, "Expand", got, e, want)
						got, e = Key(l, f.alg, b, b, b, n)
						wantRefused(t, "Key", got, e, want)
					}
				}
			}
		}
		wantEvents(t, "all refused", l, other)
	}
}

func TestTheMostThatMayBe(t *testing.T) { // P15.2, P15.3: each algorithm by its own L; the last part has the number 255
	prk, info, key, salt := random(151, 40), random(152, 20), random(153, 30), random(154, 10)
	for most, f := range map[int]face{8160: faces()[0], 16320: faces()[1]} {
		if f.most() != most || most > api.MaxOut {
			t.Fatal("the most is not what the chapter says")
		}
		for _, n := range []int{most - f.size - 1, most - f.size, most - f.size + 1, most - 1, most} {
			f.wantExpand(t, prk, info, n)
			f.wantKey(t, key, salt, info, n)
		}
		all, _ := Expand(nil, f.alg, prk, info, most)
		last, _ := hmac.Tag(nil, f.alg, prk, slices.Concat(all[most-2*f.size:most-f.size], info, []byte{255}))
		if !bytes.Equal(all[most-f.size:], last) {
			t.Errorf("%d: the last part is %x, want %x", f.alg, all[most-f.size:], last)
		}
		l := ledger.New()
		got, e := Expand(l, f.alg, prk, info, most+1)
		wantRefused(t, "Expand of one more", got, e, api.ErrLong)
		got, e = Key(l, f.alg, key, salt, info, most+1)
		wantRefused(t, "Key of one more", got, e, api.ErrLong)
		wantEvents(t, "one more", l)
	}
}

func TestExtractOfAllSaltsAndKeys(t *testing.T) { // P15.1
	for _, f := range faces() {
		for _, s := range f.keys() {
			for _, k := range f.keys() {
				f.wantExtract(t, random(int64(s), s), random(int64(k)+1, k))
			}
		}
	}
}

func TestExtractOfAllShortLists(t *testing.T) { // P15.1: each length up to three blocks and more
	p := random(155, 400)
	for _, f := range faces() {
		for n := range len(p) + 1 {
			f.wantExtract(t, p[:n], p[:20])
			f.wantExtract(t, p[:20], p[:n])
			own, err := std.Extract(f.std, p[:n], p[:20])
			if got, e := Extract(nil, f.alg, p[:20], p[:n]); err != nil || e != api.OK || !bytes.Equal(got, own) {
				t.Fatalf("%d: Extract of a key of %d bytes is %x, %d, want %x", f.alg, n, got, e, own)
			}
		}
	}
}

func TestExtractTellsSaltAndKeyApart(t *testing.T) { // P15.1, P15.3: which of the two HMAC's key is
	one, two := random(156, 30), random(157, 40)
	for _, f := range faces() {
		there, _ := Extract(nil, f.alg, one, two)
		back, _ := Extract(nil, f.alg, two, one)
		tag, _ := hmac.Tag(nil, f.alg, one, two)
		if bytes.Equal(there, back) || !bytes.Equal(there, tag) {
			t.Errorf("%d: Extract is %x, and turned round %x", f.alg, there, back)
		}
		prk, _ := Extract(nil, f.alg, two, one)
		whole, _ := Key(nil, f.alg, one, two, nil, 50)
		if parts, e := Expand(nil, f.alg, prk, nil, 50); e != api.OK || !bytes.Equal(whole, parts) {
			t.Errorf("%d: Key is %x, of its parts %x", f.alg, whole, parts)
		}
	}
}

func TestExpandOfAllKeysAndInformations(t *testing.T) { // P15.2
	for _, f := range faces() {
		for _, k := range f.keys() {
			for _, i := range f.infos() {
				for _, n := range f.fewOuts() {
					f.wantExpand(t, random(int64(k), k), random(int64(i)+1, i), n)
				}
			}
		}
	}
}

func TestExpandOfAllNumbers(t *testing.T) { // P15.2: each n up to five parts, and all edges
	prk, info := random(158, 50), random(159, 17)
	for _, f := range faces() {
		for n := range 5*f.size + 2 {
			f.wantExpand(t, prk, info, n)
		}
		for _, n := range f.outs() {
			f.wantExpand(t, prk, info, n)
			f.wantExpand(t, nil, nil, n)
		}
	}
}

func TestExpandOfAllShortInformations(t *testing.T) { // P15.2: where the first part, and where the others, take a block more
	p := random(160, 300)
	for _, f := range faces() {
		for i := range len(p) + 1 {
			for _, n := range []int{f.size, f.size + 1, 3 * f.size} {
				f.wantExpand(t, p[:32], p[:i], n)
			}
		}
	}
}

func TestExpandOfAllShortKeys(t *testing.T) { // P15.2: a pseudorandom key may have any length, and is hashed behind a block
	p := random(161, 300)
	for _, f := range faces() {
		for k := range len(p) + 1 {
			f.wantExpand(t, p[:k], p[:9], 0)
			f.wantExpand(t, p[:k], p[:9], f.size+3)
			own, err := std.Expand(f.std, p[:k], string(p[:9]), 100)
			if got, e := Expand(nil, f.alg, p[:k], p[:9], 100); err != nil || e != api.OK || !bytes.Equal(got, own) {
				t.Fatalf("%d: Expand of a key of %d bytes is %x, %d, want %x", f.alg, k, got, e, own)
			}
		}
	}
}

func TestExpandPartByPart(t *testing.T) { // P15.2: each of the 255, with the one ahead of it and its number
	for _, f := range faces() {
		for _, i := range []int{0, 1, f.block} {
			prk, info := random(162, f.size), random(163, i)
			all, e := Expand(nil, f.alg, prk, info, f.most())
			if e != api.OK || len(all) != f.most() {
				t.Fatalf("%d: Expand: %d bytes, %d", f.alg, len(all), e)
			}
			var last []byte
			for k := range 255 {
				want, _ := hmac.Tag(nil, f.alg, prk, slices.Concat(last, info, []byte{byte(k + 1)}))
				last = all[k*f.size : (k+1)*f.size]
				if !bytes.Equal(last, want) {
					t.Fatalf("%d: part %d is %x, want %x", f.alg, k+1, last, want)
				}
			}
		}
	}
}

func TestKeyOfAllLists(t *testing.T) { // P15.3
	for _, f := range faces() {
		for _, k := range f.keys() {
			for _, s := range f.keys() {
				for _, i := range []int{0, 1, f.tail - f.size, f.tail, f.block} {
					for _, n := range []int{0, 1, f.size, f.size + 1, 3 * f.size} {
						f.wantKey(t, random(int64(k), k), random(int64(s)+1, s), random(int64(i)+2, i), n)
					}
				}
			}
		}
	}
}

func TestKeyOfAllNumbers(t *testing.T) { // P15.3
	key, salt := random(164, 22), random(165, 13)
	for _, f := range faces() {
		for _, n := range f.outs() {
			for _, i := range f.infos() {
				if n > 5*f.size && i > 1 {
					continue
				}
				f.wantKey(t, key, salt, random(166, i), n)
			}
		}
		for n := range 3*f.size + 2 {
			f.wantKey(t, key, salt, []byte("information"), n)
		}
	}
}

func TestKeyIsExpandOfExtract(t *testing.T) { // P15.3: answers and ledgers
	r := rand.New(rand.NewSource(167))
	for _, f := range faces() {
		for range 60 {
			key, salt, info, n := random(r.Int63(), r.Intn(300)), random(r.Int63(), r.Intn(300)), random(r.Int63(), r.Intn(300)), r.Intn(10*f.size)
			whole, parts := ledger.New(), ledger.New()
			got, e := Key(whole, f.alg, key, salt, info, n)
			prk, x := Extract(parts, f.alg, salt, key)
			want, y := Expand(parts, f.alg, prk, info, n)
			if e != api.OK || x != api.OK || y != api.OK || !bytes.Equal(got, want) || len(got) != n {
				t.Fatalf("%d: Key is %x, %d, of its parts %x, %d, %d", f.alg, got, e, want, x, y)
			}
			if !ledger.Same(whole.Runs(), parts.Runs()) || whole.Len() != f.ofKey(len(key), len(salt), len(info), n) {
				t.Fatalf("%d: Key recorded %v, its parts %v", f.alg, whole.Runs(), parts.Runs())
			}
		}
	}
}

func TestLongLists(t *testing.T) { // P15.1 to P15.3
	for _, f := range faces() {
		for _, size := range []int{8191, 65535, 65536, 1<<18 + 111} {
			p := random(int64(size), size)
			f.wantExtract(t, p, p)
			f.wantExpand(t, p, p, 2*f.size+1)
			f.wantKey(t, p, p, p, 2*f.size+1)
		}
	}
}

func TestFewerBytesBeginMore(t *testing.T) { // P15.4
	prk, info, key, salt := random(168, 32), random(169, 33), random(170, 34), random(171, 35)
	for _, f := range faces() {
		all, _ := Expand(nil, f.alg, prk, info, f.most())
		whole, _ := Key(nil, f.alg, key, salt, info, f.most())
		few := []int{1000, 5000, 8000}
		for n := range 4*f.size + 2 {
			few = append(few, n)
		}
		for _, n := range append(few, f.outs()...) {
			if got, e := Expand(nil, f.alg, prk, info, n); e != api.OK || len(got) != n || !bytes.Equal(got, all[:n]) {
				t.Errorf("%d: Expand of %d is %x, %d", f.alg, n, got, e)
			}
			if got, e := Key(nil, f.alg, key, salt, info, n); e != api.OK || len(got) != n || !bytes.Equal(got, whole[:n]) {
				t.Errorf("%d: Key of %d is %x, %d", f.alg, n, got, e)
			}
		}
	}
}

func TestSaltsThatAreAlike(t *testing.T) { // P15.4: none, and noughts up to a block; one nought more is another salt
	key, info := random(172, 50), random(173, 10)
	for _, f := range faces() {
		as := ledger.New()
		prk, _ := Extract(as, f.alg, nil, key)
		whole, _ := Key(as, f.alg, key, nil, info, 100)
		for n := range f.block + 1 {
			l, salt := ledger.New(), make([]byte, n)
			if got, e := Extract(l, f.alg, salt, key); e != api.OK || !bytes.Equal(got, prk) {
				t.Errorf("%d: Extract with %d noughts is %x, %d, want %x", f.alg, n, got, e, prk)
			}
			if got, e := Key(l, f.alg, key, salt, info, 100); e != api.OK || !bytes.Equal(got, whole) {
				t.Errorf("%d: Key with %d noughts is %x, %d, want %x", f.alg, n, got, e, whole)
			}
			if !ledger.Same(l.Runs(), as.Runs()) {
				t.Errorf("%d: with %d noughts is recorded %v, want %v", f.alg, n, l.Runs(), as.Runs())
			}
		}
		for _, salt := range [][]byte{make([]byte, f.block+1), {1}, append(make([]byte, f.size), 1)} {
			if got, e := Extract(nil, f.alg, salt, key); e != api.OK || bytes.Equal(got, prk) {
				t.Errorf("%d: Extract with %x is as with none", f.alg, salt)
			}
			if got, e := Key(nil, f.alg, key, salt, info, 100); e != api.OK || bytes.Equal(got, whole) {
				t.Errorf("%d: Key with %x is as with none", f.alg, salt)
			}
		}
	}
}

func TestEachArgumentCounts(t *testing.T) { // P15.2, P15.3: another byte of any list is another answer
	for _, f := range faces() {
		lists := [][]byte{random(174, 20), random(175, 21), random(176, 22)}
		prk, _ := Extract(nil, f.alg, lists[1], lists[0])
		whole, _ := Key(nil, f.alg, lists[0], lists[1], lists[2], 40)
		part, _ := Expand(nil, f.alg, lists[0], lists[2], 40)
		for which := range lists {
			for at := range lists[which] {
				lists[which][at] ^= 1
				if got, _ := Key(nil, f.alg, lists[0], lists[1], lists[2], 40); bytes.Equal(got, whole) {
					t.Errorf("%d: Key is the same with byte %d of list %d changed", f.alg, at, which)
				}
				if got, _ := Extract(nil, f.alg, lists[1], lists[0]); bytes.Equal(got, prk) != (which == 2) {
					t.Errorf("%d: Extract with byte %d of list %d changed: %x", f.alg, at, which, got)
				}
				if got, _ := Expand(nil, f.alg, lists[0], lists[2], 40); bytes.Equal(got, part) != (which == 1) {
					t.Errorf("%d: Expand with byte %d of list %d changed: %x", f.alg, at, which, got)
				}
				lists[which][at] ^= 1
			}
		}
	}
}

func TestEmptyAndNilAreTheSame(t *testing.T) { // P15.1 to P15.3; DOC.md's words
	room := []byte{1, 2, 3}
	for _, f := range faces() {
		for _, none := range [][]byte{nil, {}, room[:0], room[1:1]} {
			l := ledger.New()
			if got, e := Extract(l, f.alg, none, none); e != api.OK || !bytes.Equal(got, f.extracted(nil, nil, nil)) {
				t.Errorf("%d: Extract of none: %x, %d", f.alg, got, e)
			}
			wantEvents(t, "Extract of none", l, f.blocks(4)...)
			if got, e := Expand(l, f.alg, none, none, 2*f.size); e != api.OK || !bytes.Equal(got, f.expanded(nil, nil, nil, 2*f.size)) {
				t.Errorf("%d: Expand of none: %x, %d", f.alg, got, e)
			}
			wantEvents(t, "Expand of none", l, f.blocks(2+2*2)...)
			if got, e := Key(l, f.alg, none, none, none, 2*f.size); e != api.OK || !bytes.Equal(got, f.derived(nil, nil, nil, nil, 2*f.size)) {
				t.Errorf("%d: Key of none: %x, %d", f.alg, got, e)
			}
			wantEvents(t, "Key of none", l, f.blocks(4+2+2*2)...)
		}
	}
}

func TestNoBytes(t *testing.T) { // P15.2, P15.3: no part is begun
	for _, f := range faces() {
		for _, size := range f.keys() {
			b, l := random(177, size), ledger.New()
			if got, e := Expand(l, f.alg, b, b, 0); e != api.OK || len(got) != 0 {
				t.Errorf("%d: Expand of 0: %x, %d", f.alg, got, e)
			}
			wantEvents(t, "Expand of 0", l, f.blocks(f.ofNew(size))...)
			if got, e := Key(l, f.alg, b, b, b, 0); e != api.OK || len(got) != 0 {
				t.Errorf("%d: Key of 0: %x, %d", f.alg, got, e)
			}
			wantEvents(t, "Key of 0", l, f.blocks(f.ofExtract(size, size)+2)...)
		}
	}
}

func TestPartsNeverEnd(t *testing.T) { // the way of the layer; rule 6: it may be stopped, and gone over again
	prk, info := random(178, 40), random(179, 20)
	for _, f := range faces() {
		l := ledger.New()
		m, _ := hmac.New(nil, f.alg, prk)
		seq := parts(l, m, info)
		wantEvents(t, "what was not gone over", l)
		for _, stop := range []int{1, 2, 3, 600} {
			var last []byte
			i := 0
			for part := range seq {
				i++
				want, _ := hmac.Tag(nil, f.alg, prk, slices.Concat(last, info, []byte{byte(i)}))
				if !bytes.Equal(part, want) {
					t.Fatalf("%d: part %d is %x, want %x", f.alg, i, part, want)
				}
				last = part
				if i == stop {
					break
				}
			}
			if i != stop {
				t.Fatalf("%d: it ended behind %d", f.alg, i)
			}
			wantEvents(t, "parts", l, f.blocks(f.ofExpand(0, len(info), stop*f.size)-2)...)
		}
	}
}

func TestLedgerHangsOnLengths(t *testing.T) { // P15.4, rule 9
	for _, f := range faces() {
		for _, size := range f.keys() {
			for _, n := range f.outs() {
				for seed, fill := range []func(n int) []byte{
					func(n int) []byte { return make([]byte, n) },
					func(n int) []byte { return bytes.Repeat([]byte{255}, n) },
					func(n int) []byte { return random(180, n) },
				} {
					if n > 5*f.size && size > 1 {
						continue
					}
					l := ledger.New()
					Extract(l, f.alg, fill(size), fill(size/2))
					Expand(l, f.alg, fill(size), fill(size/3), n)
					Key(l, f.alg, fill(size/2), fill(size/3), fill(size), n)
					want := f.ofExtract(size, size/2) + f.ofExpand(size, size/3, n) + f.ofKey(size/2, size/3, size, n)
					if !slices.Equal(slices.Collect(l.All()), f.blocks(want)) {
						t.Errorf("%d: fill %d of %d bytes, %d, recorded %v, want %d", f.alg, seed, size, n, l.Runs(), want)
					}
				}
			}
		}
	}
}

func TestRecordedBehindAllOthers(t *testing.T) { // rule 5; the zero Ledger is one, too
	for _, f := range faces() {
		var l ledger.Ledger
		b := make([]byte, 100)
		l.Note(other)
		Extract(&l, f.alg, b, b)
		l.Note(other)
		Expand(&l, f.alg, b, b, 70)
		l.Note(other)
		Key(&l, f.alg, b, b, b, 70)
		Key(&l, f.alg, b, b, b, -1)
		l.Note(other)
		o := []api.Event{other}
		want := slices.Concat(o, f.blocks(f.ofExtract(100, 100)), o, f.blocks(f.ofExpand(100, 100, 70)), o, f.blocks(f.ofKey(100, 100, 100, 70)), o)
		wantEvents(t, "four calls", &l, want...)
	}
}

func TestBytesStayAndAreNotKept(t *testing.T) { // rule 3: neither they nor their spare room change, and an answer outlives them
	for _, f := range faces() {
		for _, size := range f.keys() {
			for _, n := range []int{0, 1, f.size, 3*f.size + 1} {
				key, salt, info := random(181, size), random(182, size), random(183, size/2)
				var whole, was [][]byte
				for i, b := range [][]byte{key, salt, info} {
					whole = append(whole, slices.Concat([]byte{81, 82}, b, random(int64(184+i), 400)))
					was = append(was, bytes.Clone(whole[i]))
				}
				k, s, i := whole[0][2:2+size], whole[1][2:2+size], whole[2][2:2+size/2]
				l := ledger.New()
				prk, e := Extract(l, f.alg, s, k)
				part, x := Expand(l, f.alg, k, i, n)
				got, y := Key(l, f.alg, k, s, i, n)
				if e != api.OK || x != api.OK || y != api.OK {
					t.Fatalf("%d: refused: %d, %d, %d", f.alg, e, x, y)
				}
				for j := range whole {
					if !bytes.Equal(whole[j], was[j]) {
						t.Errorf("%d: list %d that was handed in has changed", f.alg, j)
					}
					overwrite(whole[j])
				}
				if !bytes.Equal(prk, f.extracted(nil, salt, key)) || !bytes.Equal(part, f.expanded(nil, key, info, n)) || !bytes.Equal(got, f.derived(nil, key, salt, info, n)) {
					t.Errorf("%d: an answer of %d bytes has changed with what was handed in", f.alg, n)
				}
				wantEvents(t, "three calls", l, f.blocks(f.ofExtract(size, size)+f.ofExpand(size, size/2, n)+f.ofKey(size, size, size/2, n))...)
			}
		}
	}
}

func TestOneListAsAll(t *testing.T) { // rule 3: key, salt and information may share memory
	for _, f := range faces() {
		for _, size := range f.keys() {
			b, like := random(190, size), random(190, size)
			prk, _ := Extract(nil, f.alg, b, b)
			part, _ := Expand(nil, f.alg, b, b, 100)
			got, _ := Key(nil, f.alg, b, b, b, 100)
			if !bytes.Equal(prk, f.extracted(nil, like, like)) || !bytes.Equal(part, f.expanded(nil, like, like, 100)) || !bytes.Equal(got, f.stdKey(t, like, like, like, 100)) || !bytes.Equal(b, like) {
				t.Errorf("%d: one list of %d bytes: %x, %x, %x", f.alg, size, prk, part, got)
			}
		}
	}
}

func TestAnswersAreNew(t *testing.T) { // rule 3
	key, salt, info := random(191, 60), random(192, 61), random(193, 62)
	for _, f := range faces() {
		for _, n := range f.outs() {
			tell := func() [][]byte {
				prk, _ := Extract(nil, f.alg, salt, key)
				part, _ := Expand(nil, f.alg, key, info, n)
				whole, _ := Key(nil, f.alg, key, salt, info, n)
				return [][]byte{prk, part, whole}
			}
			one, two := tell(), tell()
			for i, answer := range one {
				want := bytes.Clone(two[i])
				if room := answer[len(answer):cap(answer)]; !bytes.Equal(room, make([]byte, len(room))) {
					t.Errorf("%d: the spare room of answer %d of %d bytes has %x", f.alg, i, n, room)
				}
				overwrite(answer)
				if !bytes.Equal(two[i], want) || !bytes.Equal(tell()[i], want) {
					t.Errorf("%d: answer %d of %d bytes that was written over shows elsewhere", f.alg, i, n)
				}
			}
			if !bytes.Equal(two[0], f.extracted(nil, salt, key)) || !bytes.Equal(two[1], f.expanded(nil, key, info, n)) || !bytes.Equal(two[2], f.derived(nil, key, salt, info, n)) {
				t.Errorf("%d: an answer of %d bytes has changed", f.alg, n)
			}
		}
	}
}

func TestCallsInGoroutines(t *testing.T) { // rule 7: each by itself, with lists that all of them read
	key, salt, info := random(194, 90), random(195, 70), random(196, 80)
	for _, f := range faces() {
		var wait sync.WaitGroup
		for i := range 8 {
			wait.Go(func() {
				for n := i; n < 5*f.size; n += 13 {
					l := ledger.New()
					got, e := Key(l, f.alg, key, salt, info, n)
					if e != api.OK || !bytes.Equal(got, f.derived(nil, key, salt, info, n)) || l.Len() != f.ofKey(len(key), len(salt), len(info), n) {
						t.Errorf("goroutine %d: Key of %d: %x, %d, %v", i, n, got, e, l.Runs())
					}
				}
			})
		}
		wait.Wait()
	}
}

func FuzzKey(f *testing.F) { // P1, P15.1 to P15.4
	f.Add(byte(1), bytes.Repeat([]byte{11}, 22), rising(0, 13), rising(240, 10), 42)
	f.Add(byte(2), []byte{}, []byte{}, []byte{}, 0)
	f.Add(byte(1), make([]byte, 65), make([]byte, 64), make([]byte, 22), 8160)
	f.Add(byte(2), make([]byte, 129), make([]byte, 128), make([]byte, 46), 16321)
	f.Add(byte(3), []byte{1}, []byte{2}, []byte{3}, -1)
	f.Add(byte(1), []byte{1}, []byte{2}, []byte{3}, -1)
	f.Fuzz(func(t *testing.T, a byte, key, salt, info []byte, n int) {
		l := ledger.New()
		if a != 1 && a != 2 {
			got, e := Extract(l, api.Alg(a), salt, key)
			wantRefused(t, "Extract", got, e, api.ErrAlg)
			got, e = Expand(l, api.Alg(a), key, info, n)
			wantRefused(t, "Expand", got, e, api.ErrAlg)
			got, e = Key(l, api.Alg(a), key, salt, info, n)
			wantRefused(t, "Key", got, e, api.ErrAlg)
			wantEvents(t, "all refused", l)
			return
		}
		face := faces()[a-1]
		face.wantExtract(t, salt, key)
		if n >= 0 && n <= face.most() {
			face.wantExpand(t, key, info, n)
			face.wantKey(t, key, salt, info, n)
			return
		}
		want := api.ErrLong
		if n < 0 {
			want = api.ErrArg
		}
		got, e := Expand(l, face.alg, key, info, n)
		wantRefused(t, "Expand", got, e, want)
		got, e = Key(l, face.alg, key, salt, info, n)
		wantRefused(t, "Key", got, e, want)
		wantEvents(t, "all refused", l)
	})
}
