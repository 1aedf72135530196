package pbkdf2

import (
	"bytes"
	std "crypto/pbkdf2"
	std256 "crypto/sha256"
	std512 "crypto/sha512"
	"encoding/binary"
	"encoding/hex"
	"hash"
	"math"
	"math/rand"
	"slices"
	"strings"
	"sync"
	"testing"

	"turnkey/api"
	"turnkey/hmac"
	"turnkey/ledger"
)

// other is an event of somebody else's, which stands in a ledger already.
var other = api.Event{Kind: api.EvOp, Size: 5}

// face is what the chapters say of an algorithm, and the language's own hash function of it.
type face struct {
	alg               api.Alg
	size, block, tail int
	event             api.Event
	std               func() hash.Hash
}

// faces are both algorithms: size is the chapter's h, tail how many bytes may wait for their end to go into the same block.
func faces() []face {
	return []face{
		{alg: api.AlgHmac256, size: 32, block: 64, tail: 55, event: api.Event{Kind: api.EvSha256, Size: 64}, std: std256.New},
		{alg: api.AlgHmac512, size: 64, block: 128, tail: 111, event: api.Event{Kind: api.EvSha512, Size: 128}, std: std512.New},
	}
}

// noAlgs are all numbers that are no algorithm of these calls: 0, AlgCmac and the greatest among them.
func noAlgs() []api.Alg {
	var list []api.Alg
	for n := range 256 {
		if a := api.Alg(n); a != api.AlgHmac256 && a != api.AlgHmac512 {
			list = append(list, a)
		}
	}
	return list
}

// noCounts are numbers that are ErrCount; some are a count that may be, if their upper bits are lost.
func noCounts() []int {
	return []int{math.MinInt, math.MinInt + 1, math.MinInt32, 1 - 1<<32, -api.MaxCount, -2, -1, 0, api.MaxCount + 1, api.MaxCount + 2, 2 * api.MaxCount, math.MaxInt32, 1 << 32, 1<<32 + 1, math.MaxInt - 1, math.MaxInt}
}

// noPlaces are numbers of a block that are ErrArg; some are one that may be, if their upper bits are lost.
func noPlaces() []int {
	return []int{math.MinInt, math.MinInt + 1, -1 << 32, 1 - 1<<32, math.MinInt32, -256, -2, -1, 0, 1 << 32, 1<<32 + 1, 1<<32 + 2, 1 << 33, 1 << 62, math.MaxInt - 1, math.MaxInt}
}

// places are numbers of a block that may be: the edges of each of the four bytes among them.
func places() []int {
	return []int{1, 2, 3, 127, 128, 255, 256, 257, 65535, 65536, 65537, 0x010203, 1<<24 - 1, 1 << 24, 0x01020304, math.MaxInt32, math.MaxInt32 + 1, 0xfffefdfc, 1<<32 - 2, 1<<32 - 1}
}

// below are numbers of bytes that are ErrArg.
func below() []int {
	return []int{-1, -2, -32, -64, -16320, -16321, -65536, math.MinInt32, 1 - 1<<32, math.MinInt + 32, math.MinInt + 1, math.MinInt}
}

// above are numbers of bytes that are ErrLong; some are few, if their upper bits are lost.
func above() []int {
	return []int{16321, 16322, 16352, 16384, 2 * 16320, 65535, 65536, 65537, 1 << 24, math.MaxInt32, 1 << 32, 1<<32 + 32, 1 << 62, math.MaxInt - 63, math.MaxInt - 1, math.MaxInt}
}

// passwords are the lengths of passwords that the rules turn at: about a block and two, and the ends of blocks.
func (f face) passwords() []int {
	return []int{0, 1, 8, f.size, f.tail, f.block - 1, f.block, f.block + 1, f.block + f.tail, f.block + f.tail + 1, 2 * f.block, 2*f.block + 1, 1000}
}

// salts are the lengths of salts that the rules turn at: four bytes stand behind them.
func (f face) salts() []int {
	list := []int{0, 1, 4, f.size, 1000}
	for _, full := range []int{f.tail, f.block, f.block + f.tail, 2 * f.block} {
		for n := full - 5; n <= full+1; n++ {
			list = append(list, n)
		}
	}
	return list
}

// outs are the numbers of bytes that the rules turn at.
func (f face) outs() []int {
	return []int{0, 1, f.size - 1, f.size, f.size + 1, 2*f.size - 1, 2 * f.size, 2*f.size + 1, api.MaxOut - f.size, api.MaxOut - 1, api.MaxOut}
}

// fewOuts are those of them with which edges of lists are tried.
func (f face) fewOuts() []int { return f.outs()[:8] }

// told is a block by the chapter's words, over whole lists, made of hmac alone; l has what is recorded of it, but for New.
func (f face) told(l *ledger.Ledger, password, salt []byte, count, i int) []byte {
	sum := make([]byte, f.size)
	message := binary.BigEndian.AppendUint32(bytes.Clone(salt), uint32(i))
	for range count {
		m, _ := hmac.New(nil, f.alg, password)
		m.Write(l, message)
		message, _ = m.Sum(l)
		for k := range sum {
			sum[k] ^= message[k]
		}
	}
	return sum
}

// toldBlock is Block by the chapter's words; l has what is recorded of it.
func (f face) toldBlock(l *ledger.Ledger, password, salt []byte, count, i int) []byte {
	hmac.New(l, f.alg, password)
	return f.told(l, password, salt, count, i)
}

// toldKey is Key by the chapter's words; l has what is recorded of it.
func (f face) toldKey(l *ledger.Ledger, password, salt []byte, count, n int) []byte {
	hmac.New(l, f.alg, password)
	var all []byte
	for i := 1; len(all) < n; i++ {
		all = append(all, f.told(l, password, salt, count, i)...)
	}
	return all[:n]
}

// stdKey is Key by the language's own, which tells no empty key.
func (f face) stdKey(t *testing.T, password, salt []byte, count, n int) []byte {
	t.Helper()
	if n == 0 {
		return nil
	}
	got, err := std.Key(f.std, string(password), salt, count, n)
	if err != nil {
		t.Fatal(err)
	}
	return got
}

// blocks are so many events of a block of the hash.
func (f face) blocks(n int) []api.Event { return slices.Repeat([]api.Event{f.event}, n) }

// ofHash is how many blocks a message has with its end.
func (f face) ofHash(m int) int {
	if m%f.block > f.tail {
		return m/f.block + 2
	}
	return m/f.block + 1
}

// ofNew is how many blocks hmac.New records of a password of p bytes.
func (f face) ofNew(p int) int {
	if p > f.block {
		return f.ofHash(p) + 2
	}
	return 2
}

// ofOne is how many blocks one block of the key records, of lengths alone.
func (f face) ofOne(salt, count int) int {
	return f.ofHash(salt+4) + 1 + (count-1)*(f.ofHash(f.size)+1)
}

// ofBlock is how many Block records.
func (f face) ofBlock(password, salt, count int) int {
	return f.ofNew(password) + f.ofOne(salt, count)
}

// ofKey is how many Key records.
func (f face) ofKey(password, salt, count, n int) int {
	wanted := n / f.size
	if n%f.size > 0 {
		wanted++
	}
	return f.ofNew(password) + wanted*f.ofOne(salt, count)
}

// wantBlock holds Block against the chapter's words, with a ledger and with none.
func (f face) wantBlock(t *testing.T, password, salt []byte, count, i int) {
	t.Helper()
	l, as := ledger.New(), ledger.New()
	want := f.toldBlock(as, password, salt, count, i)
	for _, l := range []*ledger.Ledger{l, nil} {
		if got, e := Block(l, f.alg, password, salt, count, i); e != api.OK || !bytes.Equal(got, want) || len(got) != f.size {
			t.Fatalf("%d: Block of %d and %d bytes, %d, %d, is %x, %d, want %x", f.alg, len(password), len(salt), count, i, got, e, want)
		}
	}
	events := f.blocks(f.ofBlock(len(password), len(salt), count))
	wantEvents(t, "hmac for Block", as, events...)
	wantEvents(t, "Block", l, events...)
}

// wantKey holds Key against the chapter's words and against the language's own, with a ledger and with none.
func (f face) wantKey(t *testing.T, password, salt []byte, count, n int) {
	t.Helper()
	l, as := ledger.New(), ledger.New()
	want := f.toldKey(as, password, salt, count, n)
	if own := f.stdKey(t, password, salt, count, n); !bytes.Equal(own, want) {
		t.Fatalf("%d: the chapter's words are not the language's own", f.alg)
	}
	for _, l := range []*ledger.Ledger{l, nil} {
		if got, e := Key(l, f.alg, password, salt, count, n); e != api.OK || !bytes.Equal(got, want) || len(got) != n {
			t.Fatalf("%d: Key of %d and %d bytes, %d, %d, is %x, %d, want %x", f.alg, len(password), len(salt), count, n, got, e, want)
		}
	}
	events := f.blocks(f.ofKey(len(password), len(salt), count, n))
	wantEvents(t, "hmac for Key", as, events...)
	wantEvents(t, "Key", l, events...)
}

// wantEvents holds a ledger against the events that it must have, one by one, and empties it.
func wantEvents(t *testing.T, what string, l *ledger.Ledger, want ...api.Event) {
	t.Helper()
	if got := slices.Collect(l.All()); !slices.Equal(got, want) {
		t.Fatalf("%s recorded %v, want %d events", what, l.Runs(), len(want))
	}
	l.Reset()
}

// wantRefused holds an answer against an error, beside which there must be no bytes.
func wantRefused(t *testing.T, what string, got []byte, e, want api.Errno) {
	t.Helper()
	if e != want || len(got) != 0 {
		t.Errorf("%s: %x, %d, want %d", what, got, e, want)
	}
}

// random makes n bytes, the same ones for the same seed.
func random(seed int64, n int) []byte {
	b := make([]byte, n)
	rand.New(rand.NewSource(seed)).Read(b)
	return b
}

// unhex takes bytes out of a text to the base 16, with gaps.
func unhex(t *testing.T, text string) []byte {
	t.Helper()
	b, err := hex.DecodeString(strings.ReplaceAll(text, " ", ""))
	if err != nil {
		t.Fatal(err)
	}
	return b
}

// overwrite writes over a list and over its spare room.
func overwrite(b []byte) {
	for i := range b[:cap(b)] {
		b[:cap(b)][i] = 0x99
	}
}

func TestExamples(t *testing.T) { // the chapter's
	f, l := faces()[0], ledger.New()
	p, s := []byte("password"), []byte("salt")
	got, e := Key(l, api.AlgHmac256, p, s, 1, 32)
	if want := unhex(t, "120fb6cffcf8b32c43e7225256c4f837a86548c92ccc35480805987cb70be17b"); e != api.OK || !bytes.Equal(got, want) {
		t.Errorf("the first one: %x, %d", got, e)
	}
	wantEvents(t, "the first one", l, f.blocks(4)...)
	got, e = Key(nil, api.AlgHmac256, p, s, 2, 32)
	if want := unhex(t, "ae4d0c95af6b46d32d0adff928f06dd02a303f8ef3c251dfd6e2d85a95474c43"); e != api.OK || !bytes.Equal(got, want) {
		t.Errorf("with the count 2: %x, %d", got, e)
	}
	got, e = Key(nil, api.AlgHmac256, p, s, 1, 40)
	if want := unhex(t, "4dbf3a2f3dad3377"); e != api.OK || len(got) != 40 || !bytes.Equal(got[32:], want) {
		t.Errorf("40 bytes: %x, %d", got, e)
	}
	second, e := Block(nil, api.AlgHmac256, p, s, 1, 2)
	if e != api.OK || len(second) != 32 || !bytes.Equal(second[:8], got[32:]) {
		t.Errorf("the second block: %x, %d", second, e)
	}
	got, e = Key(nil, api.AlgHmac512, p, s, 1, 64)
	if want := unhex(t, "867f70cf1ade02cf"); e != api.OK || len(got) != 64 || !bytes.Equal(got[:8], want) {
		t.Errorf("AlgHmac512: %x, %d", got, e)
	}
	got, e = Key(nil, api.AlgHmac512, nil, nil, 3, 10)
	if want := unhex(t, "ba78a2c18fe1f3cfffab"); e != api.OK || !bytes.Equal(got, want) {
		t.Errorf("of nothing: %x, %d", got, e)
	}
}

func TestExamplesThatAreRefused(t *testing.T) { // the chapter's
	l := ledger.New()
	p, s := []byte("password"), []byte("salt")
	for _, c := range []struct {
		alg      api.Alg
		count, n int
		want     api.Errno
	}{
		{api.AlgCmac, 1, 32, api.ErrAlg},
		{api.AlgHmac256, 0, 32, api.ErrCount},
		{api.AlgHmac256, 1<<20 + 1, 32, api.ErrCount},
		{api.AlgHmac256, 1, -1, api.ErrArg},
		{api.AlgHmac256, 1, 16321, api.ErrLong},
	} {
		got, e := Key(l, c.alg, p, s, c.count, c.n)
		wantRefused(t, "Key", got, e, c.want)
	}
	for _, i := range []int{0, 1 << 32} {
		got, e := Block(l, api.AlgHmac256, p, s, 1, i)
		wantRefused(t, "Block", got, e, api.ErrArg)
	}
	wantEvents(t, "what was refused", l)
	if got, e := Key(l, api.AlgHmac256, p, s, 1, 0); e != api.OK || len(got) != 0 {
		t.Errorf("Key of 0: %x, %d", got, e)
	}
	wantEvents(t, "Key of 0", l, faces()[0].blocks(2)...)
}

func TestCasesThatAreKnown(t *testing.T) { // P16.2: RFC 7914's two, and those of RFC 6070 with SHA-256
	for i, c := range []struct {
		password, salt string
		count, n       int
		want           string
	}{
		{"passwd", "salt", 1, 64, "55ac046e56e3089fec1691c22544b605f94185216dde0465e68b9d57c20dacbc 49ca9cccf179b645991664b39d77ef317c71b845b1e30bd509112041d3a19783"},
		{"Password", "NaCl", 80000, 64, "4ddcd8f60b98be21830cee5ef22701f9641a4418d04c0414aeff08876b34ab56 a1d425a1225833549adb841b51c9b3176a272bdebba1d078478f62b397f33c8d"},
		{"password", "salt", 4096, 32, "c5e478d59288c841aa530db6845c4c8d962893a001ce4e11a4963873aa98134a"},
		{"passwordPASSWORDpassword", "saltSALTsaltSALTsaltSALTsaltSALTsalt", 4096, 40, "348c89dbcbd32b2f32d814b8116e84cf2b17347ebc1800181c4e2a1fb8dd53e1 c635518c7dac47e9"},
		{"pass\x00word", "sa\x00lt", 4096, 16, "89b69d0516f829893c696226650a8687"},
	} {
		got, e := Key(nil, api.AlgHmac256, []byte(c.password), []byte(c.salt), c.count, c.n)
		if e != api.OK || !bytes.Equal(got, unhex(t, c.want)) {
			t.Errorf("case %d: %x, %d", i+1, got, e)
		}
	}
}

func TestNumbersThatAreNoAlgorithm(t *testing.T) { // P16.1, P16.2, rules 1, 2: ErrAlg is ahead of all others
	l := ledger.New()
	l.Note(other)
	list := noAlgs()
	if len(list) != 254 {
		t.Fatalf("%d numbers are asked", len(list))
	}
	for _, a := range list {
		for _, l := range []*ledger.Ledger{l, nil} {
			for _, b := range [][]byte{nil, {}, {7}, make([]byte, 300)} {
				for _, count := range []int{math.MinInt, 0, 1, api.MaxCount, api.MaxCount + 1} {
					for _, n := range []int{math.MinInt, -1, 0, 1, 32, 16320, 16321, 1 << 32, math.MaxInt} {
						got, e := Block(l, a, b, b, count, n)
						wantRefused(t, "Block", got, e, api.ErrAlg)
						got, e = Key(l, a, b, b, count, n)
						wantRefused(t, "Key", got, e, api.ErrAlg)
					}
				}
			}
		}
	}
	wantEvents(t, "all refused", l, other)
}

func TestCountsThatMayNotBe(t *testing.T) { // P16.1, P16.2, rules 1, 2: ErrCount is ahead of ErrArg and ErrLong
	for _, f := range faces() {
		l := ledger.New()
		l.Note(other)
		for _, l := range []*ledger.Ledger{l, nil} {
			for _, size := range f.passwords() {
				b := random(160, size)
				for _, count := range noCounts() {
					for _, i := range append(noPlaces(), places()...) {
						got, e := Block(l, f.alg, b, b, count, i)
						wantRefused(t, "Block", got, e, api.ErrCount)
					}
					for _, n := range slices.Concat(below(), above(), f.outs()) {
						got, e := Key(l, f.alg, b, b, count, n)
						wantRefused(t, "Key", got, e, api.ErrCount)
					}
				}
			}
		}
		wantEvents(t, "all refused", l, other)
	}
}

func TestNumbersOfBlocksThatMayNotBe(t *testing.T) { // P16.1, rule 2
	for _, f := range faces() {
		l := ledger.New()
		l.Note(other)
		for _, l := range []*ledger.Ledger{l, nil} {
			for _, size := range f.passwords() {
				b := random(161, size)
				for _, i := range noPlaces() {
					for _, count := range []int{1, 2, api.MaxCount} {
						got, e := Block(l, f.alg, b, b, count, i)
						wantRefused(t, "Block", got, e, api.ErrArg)
					}
				}
			}
		}
		wantEvents(t, "all refused", l, other)
	}
}

func TestNumbersOfBytesThatMayNotBe(t *testing.T) { // P16.2, rule 2
	for _, f := range faces() {
		l := ledger.New()
		l.Note(other)
		for _, l := range []*ledger.Ledger{l, nil} {
			for _, size := range f.passwords() {
				b := random(162, size)
				for want, list := range map[api.Errno][]int{api.ErrArg: below(), api.ErrLong: above()} {
					for _, n := range list {
						for _, count := range []int{1, 2, api.MaxCount} {
							got, e := Key(l, f.alg, b, b, count, n)
							wantRefused(t, "Key", got, e, want)
						}
					}
				}
			}
		}
		wantEvents(t, "all refused", l, other)
	}
}

func TestTheGreatestCount(t *testing.T) { // P16.1 to P16.3: MaxCount is taken, and each of its tags is made and recorded
	password, salt := random(163, 20), random(164, 12)
	var wait sync.WaitGroup
	for _, f := range faces() {
		wait.Go(func() {
			l := ledger.New()
			got, e := Key(l, f.alg, password, salt, api.MaxCount, 5)
			want, err := std.Key(f.std, string(password), salt, api.MaxCount, 5)
			if e != api.OK || err != nil || !bytes.Equal(got, want) {
				t.Errorf("%d: Key is %x, %d, want %x", f.alg, got, e, want)
			}
			runs := []api.Run{{Event: f.event, Count: f.ofKey(20, 12, api.MaxCount, 5)}}
			if !ledger.Same(l.Runs(), runs) || l.Len() != 2+2*api.MaxCount {
				t.Errorf("%d: Key recorded %v, want %v", f.alg, l.Runs(), runs)
			}
		})
		wait.Go(func() {
			l := ledger.New()
			got, e := Block(l, f.alg, password, salt, api.MaxCount, 1)
			want, err := std.Key(f.std, string(password), salt, api.MaxCount, f.size)
			if e != api.OK || err != nil || !bytes.Equal(got, want) {
				t.Errorf("%d: Block is %x, %d, want %x", f.alg, got, e, want)
			}
			if l.Len() != 2+2*api.MaxCount || l.Count(f.event.Kind) != l.Len() {
				t.Errorf("%d: Block recorded %v", f.alg, l.Runs())
			}
		})
	}
	wait.Wait()
}

func TestTheGreatestCountOfNoBytes(t *testing.T) { // P16.2, P16.3: no block is begun, whatever the count is
	for _, f := range faces() {
		for _, count := range []int{1, 2, 3, 1000, api.MaxCount - 1, api.MaxCount} {
			for _, p := range f.passwords() {
				l := ledger.New()
				if got, e := Key(l, f.alg, random(165, p), random(166, 1000), count, 0); e != api.OK || len(got) != 0 {
					t.Errorf("%d: Key of 0 is %x, %d", f.alg, got, e)
				}
				wantEvents(t, "Key of 0", l, f.blocks(f.ofNew(p))...)
			}
		}
	}
}

func TestBlockOfAllPasswordsAndSalts(t *testing.T) { // P16.1, P16.3
	for _, f := range faces() {
		for _, p := range f.passwords() {
			for _, s := range f.salts() {
				for count := 1; count <= 3; count++ {
					f.wantBlock(t, random(int64(p), p), random(int64(s)+1, s), count, 1+s%7)
				}
			}
		}
	}
}

func TestBlockOfAllNumbers(t *testing.T) { // P16.1: the number is laid in four bytes, the highest first
	for _, f := range faces() {
		for _, s := range []int{0, 1, 10, f.tail - 4, f.tail - 3, f.block - 4} {
			password, salt := random(167, 9), random(168, s)
			seen := map[string]int{}
			for _, i := range places() {
				for count := 1; count <= 3; count++ {
					f.wantBlock(t, password, salt, count, i)
				}
				got, _ := Block(nil, f.alg, password, salt, 1, i)
				if at, ok := seen[string(got)]; ok {
					t.Errorf("%d: the blocks %d and %d are alike", f.alg, at, i)
				}
				seen[string(got)] = i
			}
		}
	}
}

func TestBlockLaysItsNumber(t *testing.T) { // P16.1: byte by byte, against one tag of HMAC
	for _, f := range faces() {
		password, salt := random(169, 30), random(170, 6)
		for i, four := range map[int][]byte{
			1: {0, 0, 0, 1}, 255: {0, 0, 0, 255}, 256: {0, 0, 1, 0}, 65536: {0, 1, 0, 0},
			0x01020304: {1, 2, 3, 4}, 1<<32 - 1: {255, 255, 255, 255},
		} {
			want, _ := hmac.Tag(nil, f.alg, password, slices.Concat(salt, four))
			if got, e := Block(nil, f.alg, password, salt, 1, i); e != api.OK || !bytes.Equal(got, want) {
				t.Errorf("%d: block %d is %x, %d, want %x", f.alg, i, got, e, want)
			}
		}
	}
}

func TestBlockOfAllCounts(t *testing.T) { // P16.1: u(count) more than the block of one count less
	for _, f := range faces() {
		password, salt := random(171, 11), random(172, 13)
		u, _ := hmac.Tag(nil, f.alg, password, append(bytes.Clone(salt), 0, 0, 0, 7))
		want := make([]byte, f.size)
		for count := 1; count <= 40; count++ {
			for k := range want {
				want[k] ^= u[k]
			}
			if got, e := Block(nil, f.alg, password, salt, count, 7); e != api.OK || !bytes.Equal(got, want) {
				t.Errorf("%d: the block of count %d is %x, %d, want %x", f.alg, count, got, e, want)
			}
			u, _ = hmac.Tag(nil, f.alg, password, u)
		}
		for _, count := range []int{255, 256, 257, 1000, 4097} {
			f.wantBlock(t, password, salt, count, 7)
		}
	}
}

func TestKeyOfAllPasswordsAndSalts(t *testing.T) { // P16.2, P16.3
	for _, f := range faces() {
		for _, p := range f.passwords() {
			for _, s := range f.salts() {
				for _, n := range []int{0, 1, f.size, f.size + 1} {
					f.wantKey(t, random(int64(p), p), random(int64(s)+1, s), 1+(p+s)%3, n)
				}
			}
		}
	}
}

func TestKeyOfAllShortLists(t *testing.T) { // P16.2, P16.3: each length up to two blocks and more
	b := random(173, 300)
	for _, f := range faces() {
		for n := range len(b) + 1 {
			f.wantKey(t, b[:n], b[:20], 2, f.size+3)
			f.wantKey(t, b[:20], b[:n], 2, f.size+3)
		}
	}
}

func TestKeyOfAllNumbers(t *testing.T) { // P16.2, P16.3: each n up to five blocks, and all edges, with the counts 1 to 3
	password, salt := random(174, 22), random(175, 13)
	for _, f := range faces() {
		for n := range 5*f.size + 2 {
			f.wantKey(t, password, salt, 1, n)
		}
		for _, n := range f.outs() {
			for count := 1; count <= 3; count++ {
				f.wantKey(t, password, salt, count, n)
			}
			f.wantKey(t, nil, nil, 1, n)
		}
		for _, count := range []int{4, 17, 255, 256, 1000} {
			f.wantKey(t, password, salt, count, 2*f.size+1)
		}
	}
}

func TestTheMostBytesThatMayBe(t *testing.T) { // P16.2: of both algorithms the same, so of AlgHmac256 more than 255 blocks
	if api.MaxOut != 16320 {
		t.Fatal("the most is not what the chapter says")
	}
	password, salt := random(176, 40), random(177, 20)
	for _, f := range faces() {
		for _, n := range []int{255*f.size - 1, 255 * f.size, 16319, 16320} {
			f.wantKey(t, password, salt, 1, n)
			f.wantKey(t, password, salt, 2, n)
		}
		l := ledger.New()
		got, e := Key(l, f.alg, password, salt, 1, 16321)
		wantRefused(t, "Key of one more", got, e, api.ErrLong)
		wantEvents(t, "one more", l)
	}
}

func TestKeyIsItsBlocks(t *testing.T) { // P16.2, P16.3: answers and ledgers
	r := rand.New(rand.NewSource(178))
	for _, f := range faces() {
		for range 60 {
			password, salt, count, n := random(r.Int63(), r.Intn(300)), random(r.Int63(), r.Intn(300)), 1+r.Intn(6), r.Intn(10*f.size)
			whole, parts := ledger.New(), ledger.New()
			got, e := Key(whole, f.alg, password, salt, count, n)
			hmac.New(parts, f.alg, password)
			var want []byte
			for i := 1; len(want) < n; i++ {
				l := ledger.New()
				b, x := Block(l, f.alg, password, salt, count, i)
				if x != api.OK || len(b) != f.size {
					t.Fatalf("%d: block %d is %x, %d", f.alg, i, b, x)
				}
				want = append(want, b...)
				parts.NoteTimes(f.event, l.Len()-f.ofNew(len(password)))
			}
			if e != api.OK || !bytes.Equal(got, want[:n]) {
				t.Fatalf("%d: Key is %x, %d, of its blocks %x", f.alg, got, e, want)
			}
			if !ledger.Same(whole.Runs(), parts.Runs()) || whole.Len() != f.ofKey(len(password), len(salt), count, n) {
				t.Fatalf("%d: Key recorded %v, its blocks %v", f.alg, whole.Runs(), parts.Runs())
			}
		}
	}
}

func TestPasswordAndSaltAreToldApart(t *testing.T) { // P16.1, P16.2: which of the two HMAC's key is
	one, two := random(179, 30), random(180, 40)
	for _, f := range faces() {
		there, _ := Block(nil, f.alg, one, two, 1, 1)
		back, _ := Block(nil, f.alg, two, one, 1, 1)
		tag, _ := hmac.Tag(nil, f.alg, one, append(bytes.Clone(two), 0, 0, 0, 1))
		if bytes.Equal(there, back) || !bytes.Equal(there, tag) {
			t.Errorf("%d: Block is %x, and turned round %x", f.alg, there, back)
		}
		whole, _ := Key(nil, f.alg, one, two, 1, f.size)
		if !bytes.Equal(whole, tag) {
			t.Errorf("%d: Key is %x, want %x", f.alg, whole, tag)
		}
	}
}

func TestLongLists(t *testing.T) { // P16.1 to P16.3
	for _, f := range faces() {
		for _, size := range []int{8191, 65535, 65536, 1<<18 + 111} {
			b := random(int64(size), size)
			f.wantBlock(t, b, b, 2, 3)
			f.wantKey(t, b, b, 2, 2*f.size+1)
		}
	}
}

func TestNoneIsEmpty(t *testing.T) { // P16.1, P16.2: nil and empty are the same
	for _, f := range faces() {
		want := f.stdKey(t, nil, nil, 2, f.size)
		for _, p := range [][]byte{nil, {}, make([]byte, 0, 9)} {
			for _, s := range [][]byte{nil, {}, make([]byte, 0, 9)} {
				b, e := Block(nil, f.alg, p, s, 2, 1)
				k, x := Key(nil, f.alg, p, s, 2, f.size)
				if e != api.OK || x != api.OK || !bytes.Equal(b, want) || !bytes.Equal(k, want) {
					t.Errorf("%d: of nothing %x, %d; %x, %d", f.alg, b, e, k, x)
				}
			}
		}
	}
}

func TestFewerBytesBeginMore(t *testing.T) { // P16.4
	password, salt := random(181, 32), random(182, 33)
	for _, f := range faces() {
		all, e := Key(nil, f.alg, password, salt, 2, api.MaxOut)
		if e != api.OK || len(all) != api.MaxOut {
			t.Fatalf("%d: all are %d bytes, %d", f.alg, len(all), e)
		}
		few := []int{1000, 5000, 8159, 8160, 8161, 12000}
		for n := range 4*f.size + 2 {
			few = append(few, n)
		}
		for _, n := range append(few, f.outs()...) {
			if got, e := Key(nil, f.alg, password, salt, 2, n); e != api.OK || len(got) != n || !bytes.Equal(got, all[:n]) {
				t.Errorf("%d: Key of %d is %x, %d", f.alg, n, got, e)
			}
		}
	}
}

func TestLedgerHangsOnLengths(t *testing.T) { // P16.4, rule 9
	for _, f := range faces() {
		for _, size := range f.passwords() {
			for _, n := range f.outs() {
				for seed, fill := range []func(n int) []byte{
					func(n int) []byte { return make([]byte, n) },
					func(n int) []byte { return bytes.Repeat([]byte{255}, n) },
					func(n int) []byte { return random(183, n) },
				} {
					if n > 5*f.size && size > 1 {
						continue
					}
					l := ledger.New()
					Block(l, f.alg, fill(size), fill(size/2), 3, 1+n)
					Key(l, f.alg, fill(size/2), fill(size), 2, n)
					want := f.ofBlock(size, size/2, 3) + f.ofKey(size/2, size, 2, n)
					if !slices.Equal(slices.Collect(l.All()), f.blocks(want)) {
						t.Errorf("%d: fill %d of %d bytes, %d, recorded %v, want %d", f.alg, seed, size, n, l.Runs(), want)
					}
				}
			}
		}
	}
}

func TestLedgerSaysNothingOfTheNumber(t *testing.T) { // P16.4: of Block i says nothing
	for _, f := range faces() {
		for _, s := range f.salts() {
			as := ledger.New()
			Block(as, f.alg, random(184, 10), random(185, s), 2, 1)
			for _, i := range places() {
				l := ledger.New()
				Block(l, f.alg, random(int64(i), 10), random(int64(i)+1, s), 2, i)
				if !ledger.Same(l.Runs(), as.Runs()) || l.Len() != f.ofBlock(10, s, 2) {
					t.Errorf("%d: of the block %d is recorded %v, of the first %v", f.alg, i, l.Runs(), as.Runs())
				}
			}
		}
	}
}

func TestRecordedBehindAllOthers(t *testing.T) { // rule 5; the zero Ledger is one, too
	for _, f := range faces() {
		var l ledger.Ledger
		b := make([]byte, 100)
		l.Note(other)
		Block(&l, f.alg, b, b, 3, 9)
		l.Note(other)
		Key(&l, f.alg, b, b, 3, 70)
		Key(&l, f.alg, b, b, 3, -1)
		Block(&l, f.alg, b, b, 3, 0)
		l.Note(other)
		o := []api.Event{other}
		want := slices.Concat(o, f.blocks(f.ofBlock(100, 100, 3)), o, f.blocks(f.ofKey(100, 100, 3, 70)), o)
		wantEvents(t, "four calls", &l, want...)
	}
}

func TestBlocksAreCounted(t *testing.T) { // the chapter's way: a closure that counts, each one by itself, and that records when it is called
	for _, f := range faces() {
		password, salt := random(186, 12), random(187, 5)
		for _, from := range []uint32{1, 2, 255, math.MaxUint32 - 20} {
			l := ledger.New()
			m, _ := hmac.New(nil, f.alg, password)
			next := blocksFrom(l, m, salt, 2, from)
			again := blocksFrom(nil, m, salt, 2, from)
			wantEvents(t, "a closure that was not called", l)
			for k := range 20 {
				want := f.told(nil, password, salt, 2, int(from)+k)
				if got := next(); !bytes.Equal(got, want) {
					t.Fatalf("%d: block %d is %x, want %x", f.alg, int(from)+k, got, want)
				}
				wantEvents(t, "a block", l, f.blocks(f.ofOne(5, 2))...)
			}
			if got, want := again(), f.told(nil, password, salt, 2, int(from)); !bytes.Equal(got, want) {
				t.Errorf("%d: the other closure's first block is %x, want %x", f.alg, got, want)
			}
		}
	}
}

func TestBytesStayAndAreNotKept(t *testing.T) { // rule 3: neither they nor their spare room change, and an answer outlives them
	for _, f := range faces() {
		for _, size := range f.passwords() {
			for _, n := range []int{0, 1, f.size, 3*f.size + 1} {
				password, salt := random(188, size), random(189, size/2)
				var whole, was [][]byte
				for i, b := range [][]byte{password, salt} {
					whole = append(whole, slices.Concat([]byte{81, 82}, b, random(int64(190+i), 400)))
					was = append(was, bytes.Clone(whole[i]))
				}
				p, s := whole[0][2:2+size], whole[1][2:2+size/2]
				l := ledger.New()
				block, e := Block(l, f.alg, p, s, 2, 300)
				key, x := Key(l, f.alg, p, s, 3, n)
				if e != api.OK || x != api.OK {
					t.Fatalf("%d: refused: %d, %d", f.alg, e, x)
				}
				for j := range whole {
					if !bytes.Equal(whole[j], was[j]) {
						t.Errorf("%d: list %d that was handed in has changed", f.alg, j)
					}
					overwrite(whole[j])
				}
				if !bytes.Equal(block, f.toldBlock(nil, password, salt, 2, 300)) || !bytes.Equal(key, f.toldKey(nil, password, salt, 3, n)) {
					t.Errorf("%d: an answer of %d bytes has changed with what was handed in", f.alg, n)
				}
				wantEvents(t, "two calls", l, f.blocks(f.ofBlock(size, size/2, 2)+f.ofKey(size, size/2, 3, n))...)
			}
		}
	}
}

func TestOneListAsBoth(t *testing.T) { // rule 3: password and salt may share memory
	for _, f := range faces() {
		for _, size := range f.passwords() {
			b, like := random(192, size), random(192, size)
			block, _ := Block(nil, f.alg, b, b, 2, 2)
			key, _ := Key(nil, f.alg, b, b, 2, 100)
			if !bytes.Equal(block, f.toldBlock(nil, like, like, 2, 2)) || !bytes.Equal(key, f.stdKey(t, like, like, 2, 100)) || !bytes.Equal(b, like) {
				t.Errorf("%d: one list of %d bytes: %x, %x", f.alg, size, block, key)
			}
		}
	}
}

func TestAnswersAreNew(t *testing.T) { // rule 3
	password, salt := random(193, 60), random(194, 61)
	for _, f := range faces() {
		for _, n := range f.outs() {
			for count := 1; count <= 2; count++ {
				tell := func() [][]byte {
					block, _ := Block(nil, f.alg, password, salt, count, 1)
					key, _ := Key(nil, f.alg, password, salt, count, n)
					return [][]byte{block, key}
				}
				one, two := tell(), tell()
				for i, answer := range one {
					want := bytes.Clone(two[i])
					if room := answer[len(answer):cap(answer)]; !bytes.Equal(room, make([]byte, len(room))) {
						t.Errorf("%d: the spare room of answer %d of %d bytes has %x", f.alg, i, n, room)
					}
					overwrite(answer)
					if !bytes.Equal(two[i], want) || !bytes.Equal(tell()[i], want) {
						t.Errorf("%d: answer %d of %d bytes that was written over shows elsewhere", f.alg, i, n)
					}
				}
				if !bytes.Equal(two[0], f.toldBlock(nil, password, salt, count, 1)) || !bytes.Equal(two[1], f.toldKey(nil, password, salt, count, n)) {
					t.Errorf("%d: an answer of %d bytes has changed", f.alg, n)
				}
			}
		}
	}
}

func TestCallsInGoroutines(t *testing.T) { // rule 7: each by itself, with lists that all of them read
	password, salt := random(195, 90), random(196, 70)
	for _, f := range faces() {
		var wait sync.WaitGroup
		for i := range 8 {
			wait.Go(func() {
				for n := i; n < 5*f.size; n += 13 {
					l := ledger.New()
					key, e := Key(l, f.alg, password, salt, 3, n)
					block, x := Block(l, f.alg, password, salt, 3, n+1)
					if e != api.OK || !bytes.Equal(key, f.toldKey(nil, password, salt, 3, n)) {
						t.Errorf("goroutine %d: Key of %d: %x, %d", i, n, key, e)
					}
					if x != api.OK || !bytes.Equal(block, f.toldBlock(nil, password, salt, 3, n+1)) {
						t.Errorf("goroutine %d: Block of %d: %x, %d", i, n+1, block, x)
					}
					if l.Len() != f.ofKey(90, 70, 3, n)+f.ofBlock(90, 70, 3) {
						t.Errorf("goroutine %d: recorded %v", i, l.Runs())
					}
				}
			})
		}
		wait.Wait()
	}
}

func FuzzBlockAndKey(f *testing.F) { // P1, P16.1 to P16.4
	f.Add(byte(1), []byte("password"), []byte("salt"), 1, 32)
	f.Add(byte(2), []byte{}, []byte{}, 3, 0)
	f.Add(byte(1), make([]byte, 65), make([]byte, 51), 2, 16320)
	f.Add(byte(2), make([]byte, 129), make([]byte, 108), 2, 16321)
	f.Add(byte(3), []byte{1}, []byte{2}, 0, -1)
	f.Add(byte(1), []byte{1}, []byte{2}, 0, -1)
	f.Add(byte(2), []byte{1}, []byte{2}, 1<<20+1, 1<<32)
	f.Add(byte(1), []byte{1}, []byte{2}, 1, 1<<32)
	f.Fuzz(func(t *testing.T, a byte, password, salt []byte, count, n int) {
		ofBlock, ofKey := wantedCodes(a, count, n)
		if count > 1000 && (ofBlock == api.OK || ofKey == api.OK) {
			// A count that is taken says no more than a small one, and takes its time.
			count = 1 + count%1000
		}
		if ofBlock == api.OK {
			faces()[a-1].wantBlock(t, password, salt, count, n)
		}
		if ofKey == api.OK {
			faces()[a-1].wantKey(t, password, salt, count, n)
		}
		l := ledger.New()
		if ofBlock != api.OK {
			got, e := Block(l, api.Alg(a), password, salt, count, n)
			wantRefused(t, "Block", got, e, ofBlock)
		}
		if ofKey != api.OK {
			got, e := Key(l, api.Alg(a), password, salt, count, n)
			wantRefused(t, "Key", got, e, ofKey)
		}
		wantEvents(t, "what was refused", l)
	})
}

// wantedCodes are what Block and Key answer of an algorithm, a count, and a number as i or n.
func wantedCodes(a byte, count, n int) (ofBlock, ofKey api.Errno) {
	if a != 1 && a != 2 {
		return api.ErrAlg, api.ErrAlg
	}
	if count < 1 || count > 1048576 {
		return api.ErrCount, api.ErrCount
	}
	if n < 1 || n > 4294967295 {
		ofBlock = api.ErrArg
	}
	if n < 0 {
		ofKey = api.ErrArg
	} else if n > 16320 {
		ofKey = api.ErrLong
	}
	return ofBlock, ofKey
}
