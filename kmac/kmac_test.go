package kmac

import (
	"bytes"
	"crypto/sha3"
	"encoding/hex"
	"math"
	"math/big"
	"math/rand"
	"slices"
	"strings"
	"sync"
	"testing"

	"turnkey/api"
	"turnkey/ledger"
	"turnkey/shake"
	"turnkey/sponge"
)

var (
	// turned is the one event of a sponge that works.
	turned = api.Event{Kind: api.EvKeccak, Size: 200}
	// wiped is what Wipe records.
	wiped = api.Event{Kind: api.EvWipe, Size: 203}
	// other is an event of somebody else's, which stands in a ledger already.
	other = api.Event{Kind: api.EvOp, Size: 5}
)

// application is the customization of the chapter's examples.
const application = "My Tagged Application"

// strengths are the two that may be.
func strengths() []int { return []int{128, 256} }

// rateOf is the rate of a strength.
func rateOf(strength int) int { return map[int]int{128: 168, 256: 136}[strength] }

// input is what a mac is made of.
type input struct {
	strength    int
	key, custom []byte
}

// edges are the lengths of messages that the rules turn at, of a rate: two to four bytes come behind a message.
func edges(rate int) []int {
	return []int{0, 1, 4, rate - 5, rate - 4, rate - 3, rate - 2, rate - 1, rate, rate + 1, 2*rate - 3, 2*rate - 2, 2*rate - 1, 2 * rate, 2*rate + 1, 5 * rate, 5*rate + 7}
}

// keyEdges are the lengths of keys that the rules turn at: ahead of 32 bytes and more stand five.
func keyEdges(rate int) []int {
	return []int{0, 1, 16, 31, 32, 33, rate - 6, rate - 5, rate - 4, rate - 1, rate, rate + 1, 2*rate - 6, 2*rate - 5, 2*rate - 4, 1000}
}

// customEdges are those of customizations: ahead of 32 bytes and more stand eleven, the name's six among them.
func customEdges(rate int) []int {
	return []int{0, 1, 21, 31, 32, 64, rate - 12, rate - 11, rate - 10, rate, rate + 1, 2*rate - 12, 2*rate - 11, 2*rate - 10, 700}
}

// outs are the lengths of tags that the rules turn at, of a rate: 8 n takes a byte more from 32 and from 8,192 on.
func outs(rate int) []int {
	return []int{0, 1, 31, 32, 33, 64, rate - 1, rate, rate + 1, 2*rate - 1, 2 * rate, 2*rate + 1, 1000, 8191, 8192, 8193, 65535, 65536}
}

// noOuts are the lengths that no tag has; those of them that are about 2^61 are short ones, if eight times they wrap round.
func noOuts() []int {
	return []int{-1, -2, -32, -64, -65536, -65537, math.MinInt32, math.MinInt + 1, math.MinInt, math.MinInt + 32, 65537, 65538, 131072, 1 << 24, math.MaxInt32, 1 << 32, 1<<32 + 32, 1 << 61, 1<<61 + 32, 1 << 62, math.MaxInt - 1, math.MaxInt}
}

// noStrengths are about 128 and 256, and far from them.
func noStrengths() []int {
	all := []int{512, 1024, 1 << 16, 1<<16 + 128, 1<<32 + 128, 1<<32 + 256, 1 << 32, math.MaxInt, math.MaxInt32, math.MinInt, math.MinInt + 128, math.MinInt32, -128, -256, -255, -512}
	for n := -20; n < 400; n++ {
		if n != 128 && n != 256 {
			all = append(all, n)
		}
	}
	return all
}

// digitsOf are the bytes of a number, one at least.
func digitsOf(n int) []byte {
	if n == 0 {
		return []byte{0}
	}
	return big.NewInt(int64(n)).Bytes()
}

// listed is a list with its bits counted ahead of it.
func listed(b []byte) []byte {
	bits := digitsOf(8 * len(b))
	return slices.Concat([]byte{byte(len(bits))}, bits, b)
}

// filled is a list with the rate ahead of it and noughts behind it, up to whole rates.
func filled(b []byte, rate int) []byte {
	b = slices.Concat([]byte{1, byte(rate)}, b)
	for len(b)%rate != 0 {
		b = append(b, 0)
	}
	return b
}

// lastOfAll is what the sponge takes in behind the message, by hand.
func lastOfAll(n int, xof bool) []byte {
	if xof {
		n = 0
	}
	bits := digitsOf(8 * n)
	return append(bits, byte(len(bits)))
}

// ahead is what the sponge has taken in ahead of the message, by hand.
func ahead(in input) []byte {
	rate := rateOf(in.strength)
	return slices.Concat(filled(slices.Concat(listed([]byte("KMAC")), listed(in.custom)), rate), filled(listed(in.key), rate))
}

// tagOf is the tag by the chapter's words, over whole lists, made of shake alone.
func tagOf(in input, message []byte, n int, xof bool) []byte {
	bits := 8 * n
	if xof {
		bits = 0
	}
	key, _ := shake.Pad(shake.String(in.key), rateOf(in.strength))
	end, _ := shake.Right(bits)
	tell := shake.C128
	if in.strength == 256 {
		tell = shake.C256
	}
	tag, _ := tell(nil, []byte("KMAC"), in.custom, slices.Concat(key, message, end), n)
	return tag
}

// spongeOf is the sponge of a mac, by the chapter's words, over whole lists, made of sponge alone.
func spongeOf(in input, message []byte) *sponge.Sponge {
	s, _ := sponge.New(rateOf(in.strength), 4)
	s.Write(nil, slices.Concat(ahead(in), message))
	return s
}

// spongeTagOf is the tag out of that sponge.
func spongeTagOf(in input, message []byte, n int, xof bool) []byte {
	s := spongeOf(in, message)
	s.Write(nil, lastOfAll(n, xof))
	tag, _ := s.Read(nil, n)
	return tag
}

// stdTagOf is the tag by the language's own sponge.
func stdTagOf(in input, message []byte, n int, xof bool) []byte {
	begin := sha3.NewCSHAKE128
	if in.strength == 256 {
		begin = sha3.NewCSHAKE256
	}
	s := begin([]byte("KMAC"), in.custom)
	s.Write(filled(listed(in.key), rateOf(in.strength)))
	s.Write(message)
	s.Write(lastOfAll(n, xof))
	tag := make([]byte, n)
	s.Read(tag)
	return tag
}

// formOf is the form of a mac.
func formOf(in input, message []byte) []byte { return spongeOf(in, message).Form() }

// turns are so many events of the permutation.
func turns(n int) []api.Event { return slices.Repeat([]api.Event{turned}, n) }

// ofNew is what New records.
func ofNew(in input) []api.Event { return turns(len(ahead(in)) / rateOf(in.strength)) }

// ofWrites is what the writes of a message of so many bytes record: what is ahead of it is whole rates.
func ofWrites(strength, size int) []api.Event { return turns(size / rateOf(strength)) }

// ofSum is what Sum records behind a message of so many bytes: what is taken in, shut, and told behind the first rate.
func ofSum(strength, size, n int, xof bool) []api.Event {
	rate := rateOf(strength)
	return turns((size%rate+len(lastOfAll(n, xof)))/rate + 1 + max(0, n-1)/rate)
}

// ofTag is what Tag records.
func ofTag(in input, size, n int, xof bool) []api.Event {
	return slices.Concat(ofNew(in), ofWrites(in.strength, size), ofSum(in.strength, size, n, xof))
}

// made is a new mac, which must not be refused.
func made(t *testing.T, l *ledger.Ledger, in input) *Mac {
	t.Helper()
	m, e := New(l, in.strength, in.key, in.custom)
	if e != api.OK || m == nil {
		t.Fatalf("New(%d) with %d and %d bytes: %v, %d", in.strength, len(in.key), len(in.custom), m, e)
	}
	return m
}

// written is a new mac that took pieces.
func written(t *testing.T, in input, pieces ...[]byte) *Mac {
	t.Helper()
	m := made(t, nil, in)
	for _, p := range pieces {
		write(t, m, nil, p)
	}
	return m
}

// wantSum holds a tag of a mac, and what is recorded of it, against the chapter's words.
func wantSum(t *testing.T, m *Mac, in input, message []byte, n int, xof bool) {
	t.Helper()
	l, want := ledger.New(), tagOf(in, message, n, xof)
	for _, l := range []*ledger.Ledger{l, nil} {
		if got, e := m.Sum(l, n, xof); e != api.OK || !bytes.Equal(got, want) || len(got) != n {
			t.Fatalf("Sum(%d, %v) of %d bytes is %x, %d, want %x", n, xof, len(message), got, e, want)
		}
	}
	wantEvents(t, "Sum", l, ofSum(in.strength, len(message), n, xof)...)
}

// wantMac holds all that a mac tells against what it was made of and its message, twice: telling changes nothing.
func wantMac(t *testing.T, m *Mac, in input, message []byte) {
	t.Helper()
	form := formOf(in, message)
	for range 2 {
		if got := m.Form(); !bytes.Equal(got, form) || len(got) != 203 {
			t.Fatalf("Form of %d bytes is %x, want %x", len(message), got, form)
		}
		if got := m.Strength(); got != in.strength {
			t.Fatalf("Strength: %d, want %d", got, in.strength)
		}
		for _, n := range []int{0, 32, 200} {
			wantSum(t, m, in, message, n, false)
			wantSum(t, m, in, message, n, true)
		}
	}
}

// wantNone holds all calls of a mac that is none against rule 4.
func wantNone(t *testing.T, what string, m *Mac) {
	t.Helper()
	l := ledger.New()
	l.Note(other)
	for _, l := range []*ledger.Ledger{l, nil} {
		for _, p := range [][]byte{nil, {}, {7}, make([]byte, 136), make([]byte, 168), make([]byte, 700)} {
			if e := m.Write(l, p); e != api.ErrNil {
				t.Errorf("%s: Write of %d bytes: %d", what, len(p), e)
			}
		}
		// Also of what would be ErrArg: ErrNil is ahead of it.
		for _, n := range append(noOuts(), 0, 1, 32, 64, 65536) {
			for _, xof := range []bool{false, true} {
				if got, e := m.Sum(l, n, xof); len(got) != 0 || e != api.ErrNil {
					t.Errorf("%s: Sum(%d, %v): %x, %d", what, n, xof, got, e)
				}
			}
		}
		if c, e := m.Clone(); c != nil || e != api.ErrNil {
			t.Errorf("%s: Clone: %v, %d", what, c, e)
		}
		if e := m.Wipe(l); e != api.ErrNil {
			t.Errorf("%s: Wipe: %d", what, e)
		}
		if got := m.Form(); len(got) != 0 {
			t.Errorf("%s: Form: %x", what, got)
		}
		if got := m.Strength(); got != 0 {
			t.Errorf("%s: Strength: %d", what, got)
		}
	}
	wantEvents(t, what, l, other)
}

// wantEvents holds a ledger against the events that it must have, one by one, and empties it.
func wantEvents(t *testing.T, what string, l *ledger.Ledger, want ...api.Event) {
	t.Helper()
	if got := slices.Collect(l.All()); !slices.Equal(got, want) {
		t.Fatalf("%s recorded %v, want %v", what, got, want)
	}
	l.Reset()
}

// write writes a piece, and must not be refused.
func write(t *testing.T, m *Mac, l *ledger.Ledger, p []byte) {
	t.Helper()
	if e := m.Write(l, p); e != api.OK {
		t.Fatalf("Write of %d bytes: %d", len(p), e)
	}
}

// cloned clones a mac, and must not be refused.
func cloned(t *testing.T, m *Mac) *Mac {
	t.Helper()
	c, e := m.Clone()
	if e != api.OK || c == nil || c == m {
		t.Fatalf("Clone: %v, %d", c, e)
	}
	return c
}

// random makes n bytes, the same ones for the same seed.
func random(seed int64, n int) []byte {
	b := make([]byte, n)
	rand.New(rand.NewSource(seed)).Read(b)
	return b
}

// rising are so many bytes from a number on.
func rising(from, n int) []byte {
	b := make([]byte, n)
	for i := range b {
		b[i] = byte(from + i)
	}
	return b
}

// unhex takes bytes out of a text to the base 16, with gaps.
func unhex(t *testing.T, text string) []byte {
	t.Helper()
	b, err := hex.DecodeString(strings.ReplaceAll(text, " ", ""))
	if err != nil {
		t.Fatal(err)
	}
	return b
}

// overwrite writes over a list and over its spare room.
func overwrite(b []byte) {
	for i := range b[:cap(b)] {
		b[:cap(b)][i] = 0x99
	}
}

func TestExamples(t *testing.T) { // the chapter's
	key, message, l := rising(0x40, 32), []byte{0, 1, 2, 3}, ledger.New()
	for i, c := range []struct {
		strength int
		custom   string
		n        int
		xof      bool
		want     string
	}{
		{128, "", 32, false, "e5780b0d 3ea6f7d3 a429c570 6aa43a00 fadbd7d4 9628839e 3187243f 456ee14e"},
		{128, application, 32, false, "3b1fba96 3cd8b0b5 9e8c1a6d 71888b71 43651af8 ba0a7070 c0979e28 11324aa5"},
		{256, application, 64, false, "20c570c3 1346f703 c9ac36c6 1c03cb64 c3970d0c fc787e9b 79599d27 3a68d2f7 f69d4cc3 de9d104a 351689f2 7cf6f595 1f0103f3 3f4f2487 1024d9c2 7773a8dd"},
		{128, "", 32, true, "cd83740b bd92ccc8 cf032b14 81a0f446 0e7ca9dd 12b08a0c 4031178b acd6ec35"},
	} {
		if got, e := Tag(nil, c.strength, key, []byte(c.custom), message, c.n, c.xof); e != api.OK || !bytes.Equal(got, unhex(t, c.want)) {
			t.Errorf("example %d: %x, %d", i, got, e)
		}
	}
	m, e := New(l, 128, key, nil)
	if e != api.OK {
		t.Fatal("New:", e)
	}
	wantEvents(t, "New", l, turned, turned)
	if none, e := New(l, 127, key, nil); none != nil || e != api.ErrArg {
		t.Errorf("New of strength 127: %v, %d", none, e)
	}
	for _, n := range []int{-1, 65537} {
		if got, e := m.Sum(l, n, false); len(got) != 0 || e != api.ErrArg {
			t.Errorf("Sum of %d: %x, %d", n, got, e)
		}
	}
	wantEvents(t, "what was refused", l)
}

func TestSamplesOfTheStandard(t *testing.T) { // P14.4: of those that were published with SP 800-185
	for i, c := range []struct {
		strength int
		custom   string
		size, n  int
		xof      bool
		want     string
	}{
		{128, "", 4, 32, false, "e5780b0d3ea6f7d3a429c5706aa43a00fadbd7d49628839e3187243f456ee14e"},
		{128, application, 4, 32, false, "3b1fba963cd8b0b59e8c1a6d71888b7143651af8ba0a7070c0979e2811324aa5"},
		{128, application, 200, 32, false, "1f5b4e6cca02209e0dcb5ca635b89a15e271ecc760071dfd805faa38f9729230"},
		{256, application, 4, 64, false, "20c570c31346f703c9ac36c61c03cb64c3970d0cfc787e9b79599d273a68d2f7f69d4cc3de9d104a351689f27cf6f5951f0103f33f4f24871024d9c27773a8dd"},
		{256, "", 200, 64, false, "75358cf39e41494e949707927cee0af20a3ff553904c86b08f21cc414bcfd691589d27cf5e15369cbbff8b9a4c2eb17800855d0235ff635da82533ec6b759b69"},
		{128, "", 4, 32, true, "cd83740bbd92ccc8cf032b1481a0f4460e7ca9dd12b08a0c4031178bacd6ec35"},
		{128, application, 4, 32, true, "31a44527b4ed9f5c6101d11de6d26f0620aa5c341def41299657fe9df1a3b16c"},
		{128, application, 200, 32, true, "47026c7cd793084aa0283c253ef658490c0db61438b8326fe9bddf281b83ae0f"},
		{256, application, 4, 64, true, "1755133f1534752aad0748f2c706fb5c784512cab835cd15676b16c0c6647fa96faa7af634a0bf8ff6df39374fa00fad9a39e322a7c92065a64eb1fb0801eb2b"},
		{256, "", 200, 64, true, "ff7b171f1e8a2b24683eed37830ee797538ba8dc563f6da1e667391a75edc02ca633079f81ce12a25f45615ec89972031d18337331d24ceb8f8ca8e6a19fd98b"},
		{256, application, 200, 64, true, "d5be731c954ed7732846bb59dbe3a8e30f83e77a4bff4459f2f1c2b4ecebb8ce67ba01c62e8ab8578d2d499bd1bb276768781190020a306a97de281dcc30305d"},
	} {
		if got, e := Tag(nil, c.strength, rising(0x40, 32), []byte(c.custom), rising(0, c.size), c.n, c.xof); e != api.OK || hex.EncodeToString(got) != c.want {
			t.Errorf("sample %d: %x, %d", i, got, e)
		}
	}
}

func TestStrengthsThatAreNone(t *testing.T) { // P14.1, P14.4, rule 2
	l := ledger.New()
	l.Note(other)
	for _, strength := range noStrengths() {
		for _, l := range []*ledger.Ledger{l, nil} {
			for _, b := range [][]byte{nil, {1}, random(140, 400)} {
				if m, e := New(l, strength, b, b); m != nil || e != api.ErrArg {
					t.Errorf("New(%d): %v, %d", strength, m, e)
				}
				for _, n := range []int{-1, 0, 32, 65536, 65537} {
					for _, xof := range []bool{false, true} {
						if got, e := Tag(l, strength, b, b, b, n, xof); len(got) != 0 || e != api.ErrArg {
							t.Errorf("Tag(%d, %d, %v): %x, %d", strength, n, xof, got, e)
						}
					}
				}
			}
		}
	}
	wantEvents(t, "all refused", l, other)
}

func TestLengthsThatNoTagHas(t *testing.T) { // P14.2, P14.4, rule 2: the mac stays as it is
	for _, strength := range strengths() {
		in := input{strength, random(141, 32), random(142, 20)}
		for _, size := range edges(rateOf(strength)) {
			message, l := random(143, size), ledger.New()
			m := written(t, in, message)
			l.Note(other)
			for _, n := range noOuts() {
				for _, xof := range []bool{false, true} {
					for _, l := range []*ledger.Ledger{l, nil} {
						if got, e := m.Sum(l, n, xof); len(got) != 0 || e != api.ErrArg {
							t.Errorf("Sum(%d, %v): %x, %d", n, xof, got, e)
						}
						if got, e := Tag(l, strength, in.key, in.custom, message, n, xof); len(got) != 0 || e != api.ErrArg {
							t.Errorf("Tag(%d, %d, %v): %x, %d", strength, n, xof, got, e)
						}
					}
				}
			}
			wantEvents(t, "all refused", l, other)
			wantMac(t, m, in, message)
		}
	}
}

func TestTwoReadingsAgree(t *testing.T) { // P14.4: the words made of shake, made of sponge, and the language's own sponge
	for _, strength := range strengths() {
		rate := rateOf(strength)
		for _, size := range edges(rate) {
			in := input{strength, random(int64(size), size), random(int64(size)+1, size/2)}
			for _, n := range []int{0, 1, 31, 32, 64, rate, rate + 1, 8191, 8192} {
				for _, xof := range []bool{false, true} {
					message := random(144, size)
					want := stdTagOf(in, message, n, xof)
					if !bytes.Equal(want, tagOf(in, message, n, xof)) || !bytes.Equal(want, spongeTagOf(in, message, n, xof)) {
						t.Fatalf("strength %d, %d bytes, a tag of %d", strength, size, n)
					}
				}
			}
		}
	}
}

func TestKeysAndCustoms(t *testing.T) { // P14.1, P14.4: 0, 1 and many bytes, and about the edges of both rates
	for _, strength := range strengths() {
		rate := rateOf(strength)
		for _, k := range keyEdges(rate) {
			for _, c := range customEdges(rate) {
				in := input{strength, random(int64(k), k), random(int64(c)+1, c)}
				message, l := random(145, 50), ledger.New()
				l.Note(other)
				m := made(t, l, in)
				wantEvents(t, "New", l, append([]api.Event{other}, ofNew(in)...)...)
				if got := m.Form(); !bytes.Equal(got, formOf(in, nil)) {
					t.Fatalf("%d and %d bytes: Form is %x", k, c, got)
				}
				if got := made(t, nil, in).Form(); !bytes.Equal(got, m.Form()) {
					t.Fatalf("%d and %d bytes: with no ledger Form is %x", k, c, got)
				}
				for _, xof := range []bool{false, true} {
					if got, e := Tag(l, strength, in.key, in.custom, message, 40, xof); e != api.OK || !bytes.Equal(got, tagOf(in, message, 40, xof)) {
						t.Fatalf("%d and %d bytes: Tag is %x, %d", k, c, got, e)
					}
					wantEvents(t, "Tag", l, ofTag(in, 50, 40, xof)...)
				}
			}
		}
	}
}

func TestHowManyEventsNewRecords(t *testing.T) { // P14.1: counted by hand, at the lengths where one more comes
	for _, c := range []struct{ strength, key, custom, want int }{
		{128, 0, 0, 2}, {128, 32, 0, 2},
		{128, 163, 0, 2}, {128, 164, 0, 3}, {128, 331, 0, 3}, {128, 332, 0, 4},
		{128, 0, 157, 2}, {128, 0, 158, 3}, {128, 0, 325, 3}, {128, 0, 326, 4},
		{128, 164, 158, 4}, {128, 8191, 0, 50}, {128, 0, 65536, 392},
		{256, 0, 0, 2}, {256, 32, 0, 2},
		{256, 131, 0, 2}, {256, 132, 0, 3}, {256, 267, 0, 3}, {256, 268, 0, 4},
		{256, 0, 125, 2}, {256, 0, 126, 3}, {256, 0, 261, 3}, {256, 0, 262, 4},
		{256, 132, 126, 4}, {256, 65536, 0, 483},
	} {
		l := ledger.New()
		made(t, l, input{c.strength, make([]byte, c.key), make([]byte, c.custom)})
		wantEvents(t, "New", l, turns(c.want)...)
	}
}

func TestKeysOfAllLengths(t *testing.T) { // P14.1, P14.4
	for _, strength := range strengths() {
		l := ledger.New()
		for k := range 360 {
			for _, in := range []input{{strength, random(146, k), nil}, {strength, []byte("key"), random(147, k)}} {
				if got, e := Tag(l, strength, in.key, in.custom, []byte("message"), 16, false); e != api.OK || !bytes.Equal(got, stdTagOf(in, []byte("message"), 16, false)) {
					t.Fatalf("strength %d, %d bytes: %x, %d", strength, k, got, e)
				}
				wantEvents(t, "Tag", l, ofTag(in, 7, 16, false)...)
			}
		}
	}
}

func TestLongKeysAndCustoms(t *testing.T) { // P14.1, P14.4
	for _, strength := range strengths() {
		for _, n := range []int{8190, 8191, 8192, 8193, 65536, 70000} {
			for _, in := range []input{{strength, random(148, n), nil}, {strength, nil, random(149, n)}} {
				l := ledger.New()
				if got, e := Tag(l, strength, in.key, in.custom, nil, 32, true); e != api.OK || !bytes.Equal(got, stdTagOf(in, nil, 32, true)) {
					t.Fatalf("strength %d, %d bytes: %x, %d", strength, n, got, e)
				}
				wantEvents(t, "Tag", l, ofTag(in, 0, 32, true)...)
			}
		}
	}
}

func TestKeyCustomAndMessageAreToldApart(t *testing.T) { // P14.4: noughts at an end, and a byte that changes places
	for _, strength := range strengths() {
		seen := map[string]int{}
		inputs := []input{{strength, nil, nil}, {strength, []byte{0}, nil}, {strength, nil, []byte{0}}, {strength, []byte{0, 0}, nil}, {strength, []byte{0}, []byte{0}}, {strength, nil, []byte{0, 0}}}
		for _, in := range inputs {
			for _, message := range [][]byte{nil, {0}, {0, 0}} {
				for _, xof := range []bool{false, true} {
					got, e := Tag(nil, strength, in.key, in.custom, message, 32, xof)
					if e != api.OK || !bytes.Equal(got, stdTagOf(in, message, 32, xof)) {
						t.Fatalf("Tag: %x, %d", got, e)
					}
					seen[string(got)]++
				}
			}
		}
		if len(seen) != 36 {
			t.Errorf("%d tags of 36 inputs", len(seen))
		}
	}
}

func TestTagsOfAllLengths(t *testing.T) { // P14.2, P14.4: up to 65,536 bytes, both strengths, XOF and not
	for _, strength := range strengths() {
		in, message := input{strength, random(150, 32), []byte(application)}, random(151, 77)
		m, l := written(t, in, message), ledger.New()
		for _, n := range outs(rateOf(strength)) {
			for _, xof := range []bool{false, true} {
				wantSum(t, m, in, message, n, xof)
				if want := stdTagOf(in, message, n, xof); !bytes.Equal(want, tagOf(in, message, n, xof)) {
					t.Fatal("the layer below is not the language's own")
				}
				if got, e := Tag(l, strength, in.key, in.custom, message, n, xof); e != api.OK || !bytes.Equal(got, tagOf(in, message, n, xof)) {
					t.Fatalf("Tag of %d bytes is %x, %d", n, got, e)
				}
				wantEvents(t, "Tag", l, ofTag(in, 77, n, xof)...)
			}
		}
		wantMac(t, m, in, message)
	}
}

func TestTagsOfShortLengths(t *testing.T) { // P14.2: every length up to beyond two rates, behind messages about the rate's edge
	for _, strength := range strengths() {
		rate := rateOf(strength)
		in := input{strength, random(152, 16), nil}
		for _, size := range []int{0, rate - 3, rate - 2, rate - 1} {
			message := random(153, size)
			m := written(t, in, message)
			for n := range 2*rate + 4 {
				wantSum(t, m, in, message, n, n%2 == 0)
			}
		}
	}
}

func TestHowManyEventsSumRecords(t *testing.T) { // P14.2: counted by hand, where what is behind the message fills the rate
	for _, c := range []struct {
		strength, size, n int
		xof               bool
		want              int
	}{
		{128, 0, 0, false, 1}, {128, 0, 0, true, 1}, {128, 0, 168, true, 1}, {128, 0, 169, true, 2}, {128, 0, 336, true, 2}, {128, 0, 337, false, 3},
		{128, 165, 0, false, 1}, {128, 166, 0, false, 2}, {128, 167, 0, false, 2}, {128, 168, 0, false, 1},
		{128, 164, 32, false, 1}, {128, 165, 32, false, 2}, {128, 165, 32, true, 1}, {128, 166, 32, true, 2},
		{128, 163, 8192, false, 49}, {128, 164, 8192, false, 50}, {128, 164, 8192, true, 49}, {128, 0, 65536, false, 391},
		{256, 0, 0, false, 1}, {256, 0, 136, true, 1}, {256, 0, 137, true, 2}, {256, 0, 272, false, 2}, {256, 0, 273, false, 3},
		{256, 133, 31, false, 1}, {256, 134, 31, false, 2}, {256, 132, 64, false, 1}, {256, 133, 64, false, 2}, {256, 133, 64, true, 1}, {256, 134, 64, true, 2},
		{256, 131, 8192, false, 61}, {256, 132, 8192, false, 62}, {256, 0, 65536, true, 482},
	} {
		l, m := ledger.New(), written(t, input{strength: c.strength}, make([]byte, c.size))
		if _, e := m.Sum(l, c.n, c.xof); e != api.OK {
			t.Fatal("Sum:", e)
		}
		wantEvents(t, "Sum", l, turns(c.want)...)
	}
}

func TestXofTagsBeginTheLonger(t *testing.T) { // P14.5
	for _, strength := range strengths() {
		rate := rateOf(strength)
		for _, size := range edges(rate) {
			m := written(t, input{strength, []byte("key"), nil}, random(154, size))
			long, e := m.Sum(nil, 700, true)
			if e != api.OK {
				t.Fatal("Sum:", e)
			}
			for _, n := range []int{0, 1, 31, 32, 64, rate - 1, rate, rate + 1, 2 * rate, 699, 700} {
				if short, e := m.Sum(nil, n, true); e != api.OK || !bytes.Equal(short, long[:n]) {
					t.Errorf("the XOF tag of %d bytes: %x, %d", n, short, e)
				}
			}
		}
	}
}

func TestOtherTagsDoNotBeginTheLonger(t *testing.T) { // P14.5: nor are they the XOF ones
	for _, strength := range strengths() {
		m := written(t, input{strength, []byte("key"), nil}, []byte("message"))
		seen := map[string]int{}
		for n := 16; n < 200; n++ {
			plain, _ := m.Sum(nil, n, false)
			seen[string(plain[:16])]++
		}
		xof, _ := m.Sum(nil, 16, true)
		seen[string(xof)]++
		if len(seen) != 185 {
			t.Errorf("%d beginnings of 185 tags", len(seen))
		}
	}
}

func TestAllShortMessages(t *testing.T) { // P14.2, P14.3: what Write records, and the form
	for _, strength := range strengths() {
		in, p, l := input{strength, random(155, 32), nil}, random(156, 400), ledger.New()
		for n := range len(p) + 1 {
			m := made(t, nil, in)
			write(t, m, l, p[:n])
			wantEvents(t, "Write", l, ofWrites(strength, n)...)
			if got := m.Form(); !bytes.Equal(got, formOf(in, p[:n])) {
				t.Fatalf("%d bytes: Form is %x", n, got)
			}
			wantSum(t, m, in, p[:n], 32, false)
			wantSum(t, m, in, p[:n], 32, true)
		}
	}
}

func TestLongMessages(t *testing.T) { // P14.2, P14.4
	for _, strength := range strengths() {
		in := input{strength, random(157, 32), []byte("long")}
		for _, n := range []int{4095, 4096, 65536, 100000} {
			p, l := random(int64(n), n), ledger.New()
			if got, e := Tag(l, strength, in.key, in.custom, p, 64, false); e != api.OK || !bytes.Equal(got, stdTagOf(in, p, 64, false)) {
				t.Errorf("Tag of %d bytes is %x, %d", n, got, e)
			}
			wantEvents(t, "Tag", l, ofTag(in, n, 64, false)...)
		}
	}
}

func TestFormPartByPart(t *testing.T) { // P14.3: the bytes, the place in two bytes, never shut
	for _, strength := range strengths() {
		rate := rateOf(strength)
		in := input{strength, random(158, 40), random(159, 40)}
		begun := made(t, nil, in).Form()
		if len(begun) != 203 || begun[200] != 0 || begun[201] != 0 || begun[202] != 0 {
			t.Fatalf("the form of a new one: %x", begun)
		}
		for n := range rate {
			message := random(160, n)
			form := written(t, in, message).Form()
			want := bytes.Clone(begun)
			for i, b := range message {
				want[i] ^= b
			}
			want[201] = byte(n)
			if !bytes.Equal(form, want) {
				t.Fatalf("the form of %d bytes: %x, want %x", n, form, want)
			}
		}
		full := written(t, in, random(160, rate)).Form()
		if !bytes.Equal(full[200:], make([]byte, 3)) || bytes.Equal(full[:200], begun[:200]) {
			t.Errorf("the form of a full rate: %x", full)
		}
	}
}

func TestPiecesAboutTheEdges(t *testing.T) { // P14.2, P14.5: ahead of, at and behind a rate's edge; of nothing
	for _, strength := range strengths() {
		rate := rateOf(strength)
		in, p := input{strength, random(161, 16), nil}, random(162, 9*rate)
		lengths := []int{0, 1, rate - 1, rate, rate + 1, 2 * rate}
		for _, first := range lengths {
			for _, second := range lengths {
				for _, third := range lengths {
					l, m, done := ledger.New(), made(t, nil, in), 0
					for _, n := range []int{first, second, third} {
						write(t, m, l, p[done:done+n])
						wantEvents(t, "Write", l, turns((done+n)/rate-done/rate)...)
						done += n
					}
					if got := m.Form(); !bytes.Equal(got, formOf(in, p[:done])) {
						t.Fatalf("pieces of %d, %d, %d bytes: Form is %x", first, second, third, got)
					}
					wantSum(t, m, in, p[:done], 32, first%2 == 0)
				}
			}
		}
	}
}

func TestInPieces(t *testing.T) { // P14.5: cuts at all edges; pieces of 0 bytes among them
	for _, strength := range strengths() {
		in := input{strength, random(163, 32), []byte("cut")}
		for _, n := range edges(rateOf(strength)) {
			message := random(164, n)
			for _, at := range edges(rateOf(strength)) {
				cut := min(at, n)
				l, m := ledger.New(), made(t, nil, in)
				for _, piece := range [][]byte{nil, message[:cut], {}, message[cut:], message[n:]} {
					write(t, m, l, piece)
				}
				wantEvents(t, "Writes", l, ofWrites(strength, n)...)
				if got := m.Form(); !bytes.Equal(got, formOf(in, message)) {
					t.Fatalf("%d bytes cut at %d: Form is %x", n, cut, got)
				}
				wantSum(t, m, in, message, 64, false)
				wantSum(t, m, in, message, 64, true)
			}
		}
	}
}

func TestByteByByteWithSumBetween(t *testing.T) { // P14.2: Sum in the midst of a message, and again, leaves the mac
	for _, strength := range strengths() {
		in, p := input{strength, random(165, 32), nil}, random(166, 2*rateOf(strength)+5)
		l, m := ledger.New(), made(t, nil, in)
		for i := range p {
			form := m.Form()
			for _, xof := range []bool{false, true, true, false} {
				wantSum(t, m, in, p[:i], 20, xof)
			}
			if !bytes.Equal(m.Form(), form) {
				t.Fatalf("Sum of %d bytes has changed the form", i)
			}
			write(t, m, l, p[i:i+1])
			wantEvents(t, "Write of a byte", l, turns((i+1)/rateOf(strength)-i/rateOf(strength))...)
		}
		wantMac(t, m, in, p)
	}
}

func TestPiecesRecordTheWhole(t *testing.T) { // P14.4, P14.5: New, Writes and Sum record what Tag does
	r := rand.New(rand.NewSource(167))
	for _, strength := range strengths() {
		for range 60 {
			in, message := input{strength, random(r.Int63(), r.Intn(200)), random(r.Int63(), r.Intn(200))}, random(r.Int63(), r.Intn(700))
			n, xof := r.Intn(400), r.Intn(2) == 0
			whole, pieces := ledger.New(), ledger.New()
			want, e := Tag(whole, strength, in.key, in.custom, message, n, xof)
			m, rest := made(t, pieces, in), message
			for len(rest) > 0 {
				n := r.Intn(len(rest) + 1)
				write(t, m, pieces, rest[:n])
				rest = rest[n:]
			}
			if got, x := m.Sum(pieces, n, xof); e != api.OK || x != api.OK || !bytes.Equal(got, want) {
				t.Fatalf("Sum is %x, %d, Tag %x, %d", got, x, want, e)
			}
			if !ledger.Same(whole.Runs(), pieces.Runs()) {
				t.Fatalf("the pieces recorded %v, the whole %v", pieces.Runs(), whole.Runs())
			}
			wantEvents(t, "Tag", whole, ofTag(in, len(message), n, xof)...)
		}
	}
}

func TestEmptyAndNilAreTheSame(t *testing.T) { // P14.1, P14.2, P14.4; DOC.md's words
	room := []byte{1, 2, 3}
	for _, strength := range strengths() {
		for _, none := range [][]byte{nil, {}, room[:0], room[1:1]} {
			in, l := input{strength: strength}, ledger.New()
			wantMac(t, made(t, l, input{strength, none, none}), in, nil)
			wantEvents(t, "New of none", l, turns(2)...)
			if got, e := Tag(l, strength, none, none, none, 32, false); e != api.OK || !bytes.Equal(got, stdTagOf(in, nil, 32, false)) {
				t.Errorf("Tag of none: %x, %d", got, e)
			}
			wantEvents(t, "Tag of none", l, turns(3)...)
			for _, n := range edges(rateOf(strength)) {
				m := written(t, in, random(168, n))
				write(t, m, l, none)
				wantEvents(t, "Write of none", l)
				wantMac(t, m, in, random(168, n))
			}
		}
	}
}

func TestCloneGoesOnByItself(t *testing.T) { // P14.3, P14.5: ahead of any Write (0 bytes), in the midst of a rate, about its end
	for _, strength := range strengths() {
		rate := rateOf(strength)
		in := input{strength, random(169, 32), []byte("clone")}
		for _, n := range []int{0, 1, rate - 1, rate, rate + 1} {
			for _, more := range []int{0, 1, rate - 1, rate, 2 * rate} {
				message, one, two := random(170, n), random(171, more), random(172, more+1)
				elder := written(t, in, message)
				younger := cloned(t, elder)
				wantMac(t, younger, in, message)
				write(t, elder, nil, one)
				wantMac(t, younger, in, message)
				write(t, younger, nil, two)
				wantMac(t, elder, in, slices.Concat(message, one))
				wantMac(t, younger, in, slices.Concat(message, two))
			}
		}
	}
}

func TestCloneOutlivesItsElder(t *testing.T) { // P14.3, P14.5
	for _, strength := range strengths() {
		for _, n := range edges(rateOf(strength)) {
			in, message := input{strength, random(173, 32), nil}, random(174, n)
			elder := written(t, in, message)
			younger := cloned(t, elder)
			third := cloned(t, younger)
			elder.Wipe(nil)
			wantMac(t, younger, in, message)
			younger.Wipe(nil)
			wantMac(t, third, in, message)
			wantNone(t, "elder", elder)
			wantNone(t, "younger", younger)
		}
	}
}

func TestWipe(t *testing.T) { // P14.3, rule 4
	for _, strength := range strengths() {
		for _, n := range edges(rateOf(strength)) {
			for _, l := range []*ledger.Ledger{ledger.New(), nil} {
				m := written(t, input{strength, random(175, 32), nil}, random(176, n))
				inner := m.Sponge
				if e := m.Wipe(l); e != api.OK {
					t.Fatal("Wipe:", e)
				}
				if l != nil {
					wantEvents(t, "Wipe", l, wiped)
				}
				wantNone(t, "wiped", m)
				if *m != (Mac{}) {
					t.Error("the memory is not noughts")
				}
				// DOC.md's words: nor is any of it left in the sponge that it had.
				if *inner != (sponge.Sponge{}) {
					t.Error("the sponge is not wiped")
				}
			}
		}
	}
}

func TestNone(t *testing.T) { // P14.2, P14.3, rule 4
	wantNone(t, "nil", nil)
	wantNone(t, "zero", &Mac{})
	wantNone(t, "new", new(Mac))
	var none Mac
	wantNone(t, "var", &none)
	for _, m := range []*Mac{{strength: 128}, {Sponge: &sponge.Sponge{}, strength: 256}} {
		wantNone(t, "without a sponge that was made", m)
	}
}

func TestMacsAreEachByItself(t *testing.T) { // P14.5, P1, rule 7: no memory is shared by what New makes
	inputs := []input{{128, random(177, 32), nil}, {128, random(177, 32), nil}, {256, random(177, 32), nil}, {256, random(178, 5), []byte("custom")}}
	macs, messages := make([]*Mac, len(inputs)), make([][]byte, len(inputs))
	for i, in := range inputs {
		macs[i] = made(t, nil, in)
	}
	r := rand.New(rand.NewSource(179))
	for range 300 {
		i := r.Intn(len(macs))
		piece := random(r.Int63(), r.Intn(200))
		write(t, macs[i], nil, piece)
		messages[i] = append(messages[i], piece...)
		if r.Intn(10) == 0 {
			macs[i].Sum(nil, 50, true)
		}
	}
	gone := made(t, nil, inputs[1])
	gone.Wipe(nil)
	for i, m := range macs {
		wantMac(t, m, inputs[i], messages[i])
	}
}

func TestMacsInGoroutines(t *testing.T) { // rules 6, 7: clones of one mac, each in a goroutine of its own
	for _, strength := range strengths() {
		var wait sync.WaitGroup
		in := input{strength, random(180, 32), []byte("many")}
		elder := written(t, in, []byte("begin"))
		for i := range 8 {
			m := cloned(t, elder)
			wait.Go(func() {
				message := random(int64(i), 1000+i)
				for piece := range slices.Chunk(message, 13+i) {
					m.Write(nil, piece)
				}
				if got, e := m.Sum(nil, 200, false); e != api.OK || !bytes.Equal(got, stdTagOf(in, slices.Concat([]byte("begin"), message), 200, false)) {
					t.Errorf("goroutine %d: %x, %d", i, got, e)
				}
				if got, e := Tag(nil, strength, in.key, in.custom, message, 32, true); e != api.OK || !bytes.Equal(got, stdTagOf(in, message, 32, true)) {
					t.Errorf("goroutine %d: Tag %x, %d", i, got, e)
				}
				m.Wipe(nil)
			})
		}
		wait.Wait()
		wantMac(t, elder, in, []byte("begin"))
	}
}

func TestAnswersAreNew(t *testing.T) { // rule 3
	for _, strength := range strengths() {
		for _, n := range []int{0, 1, 32, 64, 200, 1000} {
			in, message := input{strength, random(181, 32), random(182, 9)}, random(183, n)
			m := written(t, in, message)
			tell := func() [][]byte {
				plain, _ := m.Sum(nil, n, false)
				xof, _ := m.Sum(nil, n, true)
				tag, _ := Tag(nil, strength, in.key, in.custom, message, n, false)
				return [][]byte{plain, xof, tag, m.Form()}
			}
			one, two := tell(), tell()
			for i, answer := range one {
				want := bytes.Clone(two[i])
				if room := answer[len(answer):cap(answer)]; !bytes.Equal(room, make([]byte, len(room))) {
					t.Errorf("%d bytes: the spare room of answer %d has %x", n, i, room)
				}
				overwrite(answer)
				if !bytes.Equal(two[i], want) || !bytes.Equal(tell()[i], want) {
					t.Errorf("%d bytes: answer %d that was written over shows elsewhere", n, i)
				}
			}
			wantMac(t, m, in, message)
			// Nor does an answer change with what is called later.
			write(t, m, nil, make([]byte, 400))
			m.Wipe(nil)
			plain, xof := tagOf(in, message, n, false), tagOf(in, message, n, true)
			for i, want := range [][]byte{plain, xof, plain, formOf(in, message)} {
				if !bytes.Equal(two[i], want) {
					t.Errorf("%d bytes: answer %d has changed", n, i)
				}
			}
		}
	}
}

func TestBytesAreNotKept(t *testing.T) { // rule 3: keys, customizations and pieces are neither changed nor looked at again
	for _, strength := range strengths() {
		for _, n := range append(edges(rateOf(strength)), keyEdges(rateOf(strength))...) {
			key, custom, message := random(184, n), random(185, n/2), random(186, n)
			in := input{strength, key, custom}
			var whole, was [][]byte
			for i, b := range [][]byte{key, custom, message} {
				whole = append(whole, slices.Concat([]byte{81, 82}, b, random(int64(187+i), 400)))
				was = append(was, bytes.Clone(whole[i]))
			}
			handed, with, piece := whole[0][2:2+n], whole[1][2:2+n/2], whole[2][2:2+n]
			m := written(t, input{strength, handed, with}, piece[:n/2], piece[n/2:])
			c := cloned(t, m)
			if got, e := Tag(nil, strength, handed, with, piece, 64, false); e != api.OK || !bytes.Equal(got, tagOf(in, message, 64, false)) {
				t.Fatalf("Tag: %x, %d", got, e)
			}
			for i := range whole {
				if !bytes.Equal(whole[i], was[i]) {
					t.Errorf("%d bytes: list %d that was handed in has changed", n, i)
				}
				overwrite(whole[i])
			}
			wantMac(t, m, in, message)
			wantMac(t, c, in, message)
			write(t, m, nil, []byte("more"))
			wantMac(t, m, in, slices.Concat(message, []byte("more")))
		}
	}
}

func TestOneListAsAll(t *testing.T) { // rule 3: key, customization and message may share memory
	for _, strength := range strengths() {
		for _, n := range edges(rateOf(strength)) {
			b, like := random(190, n), random(190, n)
			if got, e := Tag(nil, strength, b, b, b, 32, false); e != api.OK || !bytes.Equal(got, stdTagOf(input{strength, like, like}, like, 32, false)) || !bytes.Equal(b, like) {
				t.Errorf("%d bytes: %x, %d", n, got, e)
			}
		}
	}
}

func TestLedgerHangsOnLengths(t *testing.T) { // rule 9
	for _, strength := range strengths() {
		for _, n := range edges(rateOf(strength)) {
			for seed, fill := range []func(n int) []byte{
				func(n int) []byte { return make([]byte, n) },
				func(n int) []byte { return bytes.Repeat([]byte{255}, n) },
				func(n int) []byte { return random(191, n) },
			} {
				in, l := input{strength, fill(n), fill(n / 3)}, ledger.New()
				m := made(t, l, in)
				write(t, m, l, fill(n))
				m.Sum(l, n, true)
				m.Form()
				m.Clone()
				m.Strength()
				Tag(l, strength, in.key, in.custom, fill(n), n, false)
				m.Wipe(l)
				if want := append(slices.Concat(ofTag(in, n, n, true), ofTag(in, n, n, false)), wiped); !slices.Equal(slices.Collect(l.All()), want) {
					t.Errorf("fill %d of %d bytes recorded %v", seed, n, l.Runs())
				}
			}
		}
	}
}

func TestRecordedBehindAllOthers(t *testing.T) { // rule 5; the zero Ledger is one, too
	for _, strength := range strengths() {
		var l ledger.Ledger
		in := input{strength, make([]byte, 32), nil}
		l.Note(other)
		m := made(t, &l, in)
		l.Note(other)
		write(t, m, &l, make([]byte, 500))
		l.Note(other)
		m.Sum(&l, 300, true)
		l.Note(other)
		Tag(&l, strength, in.key, nil, make([]byte, 32), 64, false)
		m.Wipe(&l)
		l.Note(other)
		o := []api.Event{other}
		want := slices.Concat(o, ofNew(in), o, ofWrites(strength, 500), o, ofSum(strength, 500, 300, true), o, ofTag(in, 32, 64, false), []api.Event{wiped}, o)
		wantEvents(t, "five calls", &l, want...)
	}
}

func FuzzInPieces(f *testing.F) { // P1, P14.1 to P14.5
	f.Add(128, []byte{}, []byte{}, []byte{}, []byte{}, 0, false)
	f.Add(256, rising(0x40, 32), []byte(application), []byte{0, 1, 2, 3}, []byte{1, 0, 1}, 64, true)
	f.Add(128, make([]byte, 163), make([]byte, 157), make([]byte, 166), []byte{167, 1, 1}, 169, false)
	f.Add(127, []byte{1}, []byte{2}, []byte{3}, []byte{4}, -1, true)
	f.Add(256, make([]byte, 132), make([]byte, 126), make([]byte, 300), []byte{135, 1, 136}, 65536, false)
	f.Fuzz(func(t *testing.T, strength int, key, custom, message, cuts []byte, n int, xof bool) {
		in, l := input{strength, key, custom}, ledger.New()
		knows, may := strength == 128 || strength == 256, n >= 0 && n <= 65536
		tag, e := Tag(l, strength, key, custom, message, n, xof)
		if !knows || !may {
			if e != api.ErrArg || len(tag) != 0 {
				t.Fatalf("Tag: %x, %d", tag, e)
			}
			wantEvents(t, "Tag", l)
		}
		if !knows {
			if m, e := New(l, strength, key, custom); e != api.ErrArg || m != nil {
				t.Fatal("New:", e)
			}
			wantEvents(t, "New", l)
			return
		}
		if may {
			if e != api.OK || !bytes.Equal(tag, stdTagOf(in, message, n, xof)) {
				t.Fatalf("Tag: %x, %d", tag, e)
			}
			wantEvents(t, "Tag", l, ofTag(in, len(message), n, xof)...)
		}
		m, rest := made(t, l, in), message
		wantEvents(t, "New", l, ofNew(in)...)
		for _, cut := range cuts {
			n := min(int(cut), len(rest))
			write(t, m, l, rest[:n])
			rest = rest[n:]
			m = cloned(t, m)
		}
		write(t, m, l, rest)
		wantEvents(t, "Writes", l, ofWrites(strength, len(message))...)
		wantMac(t, m, in, message)
		if got, e := m.Sum(l, n, xof); may && (e != api.OK || !bytes.Equal(got, tag)) || !may && (e != api.ErrArg || len(got) != 0) {
			t.Fatalf("Sum: %x, %d", got, e)
		}
	})
}
