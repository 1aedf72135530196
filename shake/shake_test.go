package shake

import (
	"bytes"
	"crypto/sha3"
	"encoding/hex"
	"math"
	"math/big"
	"math/rand"
	"slices"
	"strings"
	"sync"
	"testing"

	"turnkey/api"
	"turnkey/ledger"
	"turnkey/sponge"
)

var (
	// turned is the one event that the calls record.
	turned = api.Event{Kind: api.EvKeccak, Size: 200}
	// other is an event of somebody else's, which stands in a ledger already.
	other = api.Event{Kind: api.EvOp, Size: 5}
)

// known has the two strengths as the chapter and the language have them.
var known = []struct {
	strength, rate int
	custom         func(l *ledger.Ledger, name, custom, p []byte, n int) ([]byte, api.Errno)
	plain          func(l *ledger.Ledger, p []byte, n int) ([]byte, api.Errno)
	begin          func(name, custom []byte) *sha3.SHAKE
}{
	{128, 168, C128, Shake128, sha3.NewCSHAKE128},
	{256, 136, C256, Shake256, sha3.NewCSHAKE256},
}

// naming is a name and a custom.
type naming struct{ name, custom []byte }

// namings are no name and no custom, one of them, both, and those at whose lengths something turns, of a rate.
func namings(rate int) []naming {
	all := []naming{
		{nil, nil},
		{[]byte("KMAC"), nil},
		{nil, []byte("Email Signature")},
		{[]byte("KMAC"), []byte("My Tagged Application")},
		{[]byte{0}, nil},
		{nil, []byte{0}},
		{[]byte{0}, []byte{0}},
	}
	// Ahead of a custom of 32 bytes and more stand 7 bytes: two of the rate, two of the empty name, three of the length.
	for _, n := range []int{31, 32, rate - 8, rate - 7, rate - 6, rate, 2*rate - 8, 2*rate - 7, 2*rate - 6} {
		all = append(all, naming{nil, random(int64(n), n)}, naming{random(int64(n), n), nil})
	}
	return append(all, naming{random(1, 100), random(2, 300)})
}

// edges are the lengths at which something turns, of a rate.
func edges(rate int) []int {
	return []int{0, 1, 4, rate - 2, rate - 1, rate, rate + 1, 2*rate - 1, 2 * rate, 2*rate + 1, 3*rate + 5}
}

// numbers are those at which something turns, and some others.
func numbers() []int {
	all := []int{math.MaxInt, math.MaxInt - 1, 168, 136, 1 << 40}
	for n := range 66000 {
		all = append(all, n)
	}
	for bits := 17; bits < 63; bits++ {
		all = append(all, 1<<bits-1, 1<<bits, 1<<bits+1)
	}
	r := rand.New(rand.NewSource(95))
	for range 5000 {
		all = append(all, int(r.Int63()>>r.Intn(63)))
	}
	slices.Sort(all)
	return slices.Compact(all)
}

// below0 are numbers that are none for Left and Right.
var below0 = []int{-1, -2, -8, -255, -256, -257, -65536, math.MinInt32, math.MinInt + 1, math.MinInt}

// asBytes gives a number's bytes by the language's own big numbers.
func asBytes(n int) []byte {
	if n == 0 {
		return []byte{0}
	}
	return big.NewInt(int64(n)).Bytes()
}

// asPrefix gives the prefix of a name and a custom as the chapter's words have it.
func asPrefix(as naming, rate int) []byte {
	b := []byte{1, byte(rate)}
	for _, list := range [][]byte{as.name, as.custom} {
		bits := asBytes(8 * len(list))
		b = slices.Concat(b, []byte{byte(len(bits))}, bits, list)
	}
	for len(b)%rate != 0 {
		b = append(b, 0)
	}
	return b
}

// prefixSize is how many bytes of a prefix are written: none, if there is no name and no custom.
func prefixSize(as naming, rate int) int {
	if len(as.name)+len(as.custom) == 0 {
		return 0
	}
	return len(asPrefix(as, rate))
}

// asEvents is how many events the chapter's last section reckons for written and for read bytes.
func asEvents(written, n, rate int) int {
	count := written/rate + 1
	for n > rate {
		count++
		n -= rate
	}
	return count
}

// random makes n bytes, the same ones for the same seed.
func random(seed int64, n int) []byte {
	b := make([]byte, n)
	rand.New(rand.NewSource(seed)).Read(b)
	return b
}

// unhex takes bytes out of a text to the base 16, with gaps.
func unhex(t *testing.T, text string) []byte {
	t.Helper()
	b, err := hex.DecodeString(strings.ReplaceAll(text, " ", ""))
	if err != nil {
		t.Fatal(err)
	}
	return b
}

// turns are so many events of the permutation.
func turns(n int) []api.Event { return slices.Repeat([]api.Event{turned}, n) }

// wantEvents holds a ledger against the events that it must have, one by one, and empties it.
func wantEvents(t *testing.T, what string, l *ledger.Ledger, want ...api.Event) {
	t.Helper()
	if got := slices.Collect(l.All()); !slices.Equal(got, want) {
		t.Fatalf("%s recorded %v, want %v", what, got, want)
	}
	l.Reset()
}

// want holds an answer that was not refused against the bytes that it must have.
func want(t *testing.T, what string, got []byte, code api.Errno, as []byte) {
	t.Helper()
	if code != api.OK || !bytes.Equal(got, as) {
		t.Fatalf("%s: %x, %d, want %x", what, got, code, as)
	}
}

// wantRefused holds an answer against ErrArg and nothing beside it.
func wantRefused(t *testing.T, what string, got []byte, code api.Errno) {
	t.Helper()
	if len(got) != 0 || code != api.ErrArg {
		t.Errorf("%s: %x, %d, want ErrArg", what, got, code)
	}
}

// begun begins, and must not be refused.
func begun(t *testing.T, l *ledger.Ledger, strength int, as naming) *sponge.Sponge {
	t.Helper()
	s, code := Begin(l, strength, as.name, as.custom)
	if s == nil || code != api.OK {
		t.Fatalf("Begin(%d, %x, %x): %v, %d", strength, as.name, as.custom, s, code)
	}
	return s
}

func TestExamplesOfNumbersAndLists(t *testing.T) { // P9.1, P9.2: the chapter's, and the edges beside them
	for _, c := range []struct {
		n     int
		bytes string
	}{
		{0, "00"}, {1, "01"}, {127, "7f"}, {128, "80"}, {255, "ff"}, {256, "0100"}, {257, "0101"},
		{65535, "ffff"}, {65536, "010000"}, {16777215, "ffffff"}, {16777216, "01000000"},
		{math.MaxInt32, "7fffffff"}, {math.MaxUint32, "ffffffff"}, {1 << 32, "0100000000"},
		{1<<56 - 1, "ffffffffffffff"}, {1 << 56, "0100000000000000"}, {math.MaxInt64, "7fffffffffffffff"},
	} {
		b := unhex(t, c.bytes)
		left, code := Left(c.n)
		want(t, "Left", left, code, append([]byte{byte(len(b))}, b...))
		right, code := Right(c.n)
		want(t, "Right", right, code, append(bytes.Clone(b), byte(len(b))))
	}
	want(t, "String of none", String(nil), api.OK, []byte{1, 0})
	want(t, "String of a", String([]byte("a")), api.OK, []byte{1, 8, 97})
	for _, c := range []struct {
		b    []byte
		w    int
		want []byte
	}{
		{[]byte{7, 7}, 4, []byte{1, 4, 7, 7}},
		{[]byte{7, 7, 7}, 5, []byte{1, 5, 7, 7, 7}},
		{[]byte{7, 7}, 5, []byte{1, 5, 7, 7, 0}},
		{[]byte{7, 7, 7, 7}, 5, []byte{1, 5, 7, 7, 7, 7, 0, 0, 0, 0}},
		{nil, 1, []byte{1, 1}},
		{nil, 2, []byte{1, 2}},
		{nil, 3, []byte{1, 3, 0}},
	} {
		got, code := Pad(c.b, c.w)
		want(t, "Pad", got, code, c.want)
	}
	for _, w := range []int{0, 257} {
		got, code := Pad(nil, w)
		wantRefused(t, "Pad", got, code)
	}
}

func TestExamplesOfStreams(t *testing.T) { // P9.3, P9.4: the chapter's
	l := ledger.New()
	got, code := Shake128(l, nil, 32)
	want(t, "Shake128", got, code, unhex(t, "7f9c2ba4e88f827d616045507605853ed73b8093f6efbc88eb1a6eacfa66ef26"))
	wantEvents(t, "Shake128 of none", l, turned)
	got, code = Shake256(l, nil, 8)
	want(t, "Shake256", got, code, unhex(t, "46b9dd2b0ba88d13"))
	wantEvents(t, "Shake256 of none", l, turned)
	got, code = C128(l, nil, []byte("Email Signature"), []byte{0, 1, 2, 3}, 32)
	want(t, "C128", got, code, unhex(t, "c1c36925b6409a04f1b504fcbca9d82b4017277cb5ed2b2065fc1d3814d5aaf5"))
	wantEvents(t, "C128", l, turned, turned)
	Shake256(l, nil, 137)
	wantEvents(t, "Shake256 of none, 137 bytes", l, turned, turned)
	Shake128(l, make([]byte, 168), 0)
	wantEvents(t, "Shake128 of 168 bytes, 0 bytes", l, turned, turned)
	Shake128(l, nil, 168)
	wantEvents(t, "Shake128 of none, 168 bytes", l, turned)
	Shake128(l, nil, 169)
	wantEvents(t, "Shake128 of none, 169 bytes", l, turned, turned)
	if s, code := Begin(l, 127, nil, nil); s != nil || code != api.ErrArg {
		t.Errorf("Begin(127): %v, %d", s, code)
	}
	for _, n := range []int{-1, 65537} {
		got, code = Shake128(l, nil, n)
		wantRefused(t, "Shake128", got, code)
	}
	wantEvents(t, "what was refused", l)
}

func TestLeftAndRight(t *testing.T) { // P9.1
	for _, n := range numbers() {
		b := asBytes(n)
		left, code := Left(n)
		want(t, "Left", left, code, append([]byte{byte(len(b))}, b...))
		right, code := Right(n)
		want(t, "Right", right, code, append(b, byte(len(b))))
	}
}

func TestNumbersBelow0(t *testing.T) { // P9.1, rule 2
	for _, n := range below0 {
		left, code := Left(n)
		wantRefused(t, "Left", left, code)
		right, code := Right(n)
		wantRefused(t, "Right", right, code)
	}
}

func TestStringsAtTheirEdges(t *testing.T) { // P9.1: 8 times the length takes one byte more at 32, 8,192, 2,097,152 bytes
	for _, c := range []struct {
		size int
		head []byte
	}{
		{0, []byte{1, 0}},
		{1, []byte{1, 8}},
		{31, []byte{1, 248}},
		{32, []byte{2, 1, 0}},
		{33, []byte{2, 1, 8}},
		{8191, []byte{2, 255, 248}},
		{8192, []byte{3, 1, 0, 0}},
		{8193, []byte{3, 1, 0, 8}},
		{1<<21 - 1, []byte{3, 255, 255, 248}},
		{1 << 21, []byte{4, 1, 0, 0, 0}},
	} {
		b := random(96, c.size)
		if got := String(b); !bytes.Equal(got, slices.Concat(c.head, b)) {
			t.Errorf("String of %d bytes begins with %x, and has %d bytes", c.size, got[:2], len(got))
		}
	}
}

func TestStringsOfAllLengths(t *testing.T) { // P9.1
	for n := range 1200 {
		b := random(97, n)
		bits := asBytes(8 * n)
		want(t, "String", String(b), api.OK, slices.Concat([]byte{byte(len(bits))}, bits, b))
	}
}

func TestPad(t *testing.T) { // P9.2: every width, what is left to fill in each length
	for w := 1; w <= 256; w++ {
		head, _ := Left(w)
		for n := range 2*w + 3 {
			b := random(98, n)
			got, code := Pad(b, w)
			least := slices.Concat(head, b)
			for len(least)%w != 0 {
				least = append(least, 0)
			}
			want(t, "Pad", got, code, least)
		}
	}
}

func TestPadAtItsEdges(t *testing.T) { // P9.2: of how many bytes in which width so many noughts are left to fill
	for _, c := range []struct{ size, w, noughts int }{
		{0, 1, 0}, {1, 1, 0}, {500, 1, 0},
		{0, 2, 0}, {1, 2, 1},
		{165, 168, 1}, {166, 168, 0}, {167, 168, 167},
		{252, 255, 1}, {253, 255, 0}, {254, 255, 254},
		{0, 256, 253}, {252, 256, 1}, {253, 256, 0}, {254, 256, 255}, {509, 256, 0},
	} {
		head, b := []byte{1, byte(c.w)}, bytes.Repeat([]byte{7}, c.size)
		if c.w == 256 {
			head = []byte{2, 1, 0}
		}
		got, code := Pad(b, c.w)
		want(t, "Pad", got, code, slices.Concat(head, b, make([]byte, c.noughts)))
	}
}

func TestWidthsThatAreNone(t *testing.T) { // P9.2, rule 2
	for _, w := range append([]int{0, 257, 258, 511, 512, 1 << 16, 1 << 32, 1<<32 + 1, 1<<32 + 256, math.MaxInt}, below0...) {
		for _, b := range [][]byte{nil, {}, {7}, make([]byte, 300)} {
			got, code := Pad(b, w)
			wantRefused(t, "Pad", got, code)
		}
	}
}

func TestBegin(t *testing.T) { // P9.3: the rate, the suffix, the prefix, what is recorded
	for _, k := range known {
		for _, as := range namings(k.rate) {
			l := ledger.New()
			s := begun(t, l, k.strength, as)
			suffix := byte(31)
			var written []byte
			if len(as.name) > 0 || len(as.custom) > 0 {
				suffix, written = 4, asPrefix(as, k.rate)
			}
			wantEvents(t, "Begin", l, turns(len(written)/k.rate)...)
			own, _ := sponge.New(k.rate, suffix)
			own.Write(nil, written)
			if s.Rate() != k.rate || s.Shut() || !bytes.Equal(s.Form(), own.Form()) {
				t.Fatalf("Begin(%d, %x, %x): rate %d, shut %v, form %x", k.strength, as.name, as.custom, s.Rate(), s.Shut(), s.Form())
			}
			// The suffix shows only when it is shut.
			got, code := s.Read(l, 2*k.rate)
			told, _ := own.Read(nil, 2*k.rate)
			want(t, "Read", got, code, told)
			wantEvents(t, "Read", l, turned, turned)
		}
	}
}

func TestPrefixesAtTheRate(t *testing.T) { // P9.3: a prefix that ends just at the rate is one, one byte behind it two
	for _, c := range []struct{ strength, name, custom, events int }{
		{128, 0, 0, 0}, {128, 0, 1, 1}, {128, 1, 0, 1},
		{128, 0, 160, 1}, {128, 0, 161, 1}, {128, 0, 162, 2},
		{128, 160, 0, 1}, {128, 161, 0, 1}, {128, 162, 0, 2},
		{128, 4, 157, 1}, {128, 4, 158, 2}, {128, 0, 329, 2}, {128, 0, 330, 3},
		{256, 0, 0, 0}, {256, 0, 1, 1}, {256, 1, 0, 1},
		{256, 0, 128, 1}, {256, 0, 129, 1}, {256, 0, 130, 2},
		{256, 128, 0, 1}, {256, 129, 0, 1}, {256, 130, 0, 2},
		{256, 4, 125, 1}, {256, 4, 126, 2}, {256, 0, 265, 2}, {256, 0, 266, 3},
	} {
		l := ledger.New()
		begun(t, l, c.strength, naming{random(99, c.name), random(100, c.custom)})
		wantEvents(t, "Begin", l, turns(c.events)...)
	}
}

func TestStrengthsThatAreNone(t *testing.T) { // P9.3, rule 2
	strengths := append([]int{math.MaxInt, 1 << 32, 1<<32 + 128, 1<<32 + 256, 1<<16 + 128, -128, -256}, below0...)
	for n := range 600 {
		if n != 128 && n != 256 {
			strengths = append(strengths, n)
		}
	}
	l := ledger.New()
	l.Note(other)
	for _, strength := range strengths {
		for _, as := range namings(168) {
			for _, l := range []*ledger.Ledger{l, nil} {
				if s, code := Begin(l, strength, as.name, as.custom); s != nil || code != api.ErrArg {
					t.Fatalf("Begin(%d): %v, %d", strength, s, code)
				}
			}
		}
	}
	wantEvents(t, "what was refused", l, other)
}

func TestAsTheKnownStreams(t *testing.T) { // P9.4, P9.5: the language's own, and the events
	for _, k := range known {
		for _, as := range namings(k.rate) {
			for _, size := range edges(k.rate) {
				p := random(101, size)
				for _, n := range edges(k.rate) {
					own, told := k.begin(as.name, as.custom), make([]byte, n)
					own.Write(p)
					own.Read(told)
					l := ledger.New()
					got, code := k.custom(l, as.name, as.custom, p, n)
					want(t, "cSHAKE", got, code, told)
					wantEvents(t, "cSHAKE", l, turns(asEvents(prefixSize(as, k.rate)+size, n, k.rate))...)
					got, code = k.custom(nil, as.name, as.custom, p, n)
					want(t, "cSHAKE without a ledger", got, code, told)
				}
			}
		}
	}
}

func TestPlainIsWithoutNameAndCustom(t *testing.T) { // P9.4; nil and empty are the same
	room := []byte{1, 2, 3}
	for i, k := range known {
		sum := []func([]byte, int) []byte{sha3.SumSHAKE128, sha3.SumSHAKE256}[i]
		for _, size := range edges(k.rate) {
			p := random(102, size)
			for _, n := range edges(k.rate) {
				l := ledger.New()
				got, code := k.plain(l, p, n)
				want(t, "SHAKE", got, code, sum(p, n))
				wantEvents(t, "SHAKE", l, turns(asEvents(size, n, k.rate))...)
				for _, none := range [][]byte{nil, {}, room[:0], room[1:1]} {
					got, code = k.custom(l, none, none, p, n)
					want(t, "cSHAKE of none", got, code, sum(p, n))
					wantEvents(t, "cSHAKE of none", l, turns(asEvents(size, n, k.rate))...)
				}
			}
		}
	}
}

func TestEmptyAndNilAreTheSame(t *testing.T) { // DOC.md's words
	room := []byte{1, 2, 3}
	for _, none := range [][]byte{{}, room[:0], room[1:1]} {
		want(t, "String", String(none), api.OK, String(nil))
		got, code := Pad(none, 9)
		as, _ := Pad(nil, 9)
		want(t, "Pad", got, code, as)
		for _, k := range known {
			name := []byte("name")
			for _, two := range [][2]naming{{{nil, name}, {none, name}}, {{name, nil}, {name, none}}, {{nil, nil}, {none, none}}} {
				one, other := begun(t, nil, k.strength, two[0]), begun(t, nil, k.strength, two[1])
				if !bytes.Equal(one.Form(), other.Form()) {
					t.Errorf("Begin of %x and of %x are unlike", two[0], two[1])
				}
				as, _ := k.custom(nil, two[0].name, two[0].custom, nil, 50)
				got, code := k.custom(nil, two[1].name, two[1].custom, none, 50)
				want(t, "cSHAKE", got, code, as)
			}
		}
	}
}

func TestReadsOfAllLengths(t *testing.T) { // P9.4, P9.5: the edges of n
	for _, k := range known {
		for _, as := range []naming{{nil, nil}, {[]byte("n"), []byte("c")}} {
			for _, n := range []int{0, 1, k.rate - 1, k.rate, k.rate + 1, 2 * k.rate, 2*k.rate + 1, 65535, 65536} {
				own, told := k.begin(as.name, as.custom), make([]byte, n)
				own.Write([]byte("abc"))
				own.Read(told)
				l := ledger.New()
				got, code := k.custom(l, as.name, as.custom, []byte("abc"), n)
				want(t, "cSHAKE", got, code, told)
				wantEvents(t, "cSHAKE", l, turns(asEvents(prefixSize(as, k.rate)+3, n, k.rate))...)
			}
		}
	}
}

func TestReadsThatAreRefused(t *testing.T) { // P9.4, rule 2: nothing is recorded, whatever was to be written
	l := ledger.New()
	l.Note(other)
	for _, k := range known {
		for _, n := range append([]int{65537, 65538, 1 << 17, 1 << 32, 1<<32 + 5, math.MaxInt}, below0...) {
			for _, l := range []*ledger.Ledger{l, nil} {
				for _, p := range [][]byte{nil, {1}, make([]byte, 500)} {
					got, code := k.plain(l, p, n)
					wantRefused(t, "SHAKE", got, code)
					for _, as := range namings(k.rate) {
						got, code = k.custom(l, as.name, as.custom, p, n)
						wantRefused(t, "cSHAKE", got, code)
					}
				}
			}
		}
	}
	wantEvents(t, "what was refused", l, other)
}

func TestStrengthsNamesAndCustomsAreTold(t *testing.T) { // P9.3, P9.4: no two of these are one function
	var all [][]byte
	for _, k := range known {
		for _, as := range []naming{
			{nil, nil}, {[]byte("a"), nil}, {nil, []byte("a")}, {[]byte("a"), []byte("a")},
			{[]byte("ab"), []byte("c")}, {[]byte("a"), []byte("bc")}, {[]byte{0}, nil}, {nil, []byte{0}}, {nil, []byte{0, 0}},
		} {
			got, code := k.custom(nil, as.name, as.custom, []byte("message"), 32)
			if code != api.OK || len(got) != 32 {
				t.Fatalf("cSHAKE: %x, %d", got, code)
			}
			all = append(all, got)
		}
	}
	slices.SortFunc(all, bytes.Compare)
	if len(slices.CompactFunc(all, bytes.Equal)) != 18 {
		t.Error("two of them tell the same")
	}
}

// wantApart holds lists against P9.5: none is alike another, or its beginning. In order, a beginning stands just ahead of one that it begins.
func wantApart(t *testing.T, what string, lists [][]byte) {
	t.Helper()
	slices.SortFunc(lists, bytes.Compare)
	for i := range len(lists) - 1 {
		if bytes.HasPrefix(lists[i+1], lists[i]) {
			t.Errorf("%s: %x is the beginning of %x", what, lists[i], lists[i+1])
		}
	}
}

func TestNumbersAreTold(t *testing.T) { // P9.5
	var lefts, rights [][]byte
	for _, n := range numbers() {
		left, _ := Left(n)
		right, _ := Right(n)
		slices.Reverse(right)
		lefts, rights = append(lefts, left), append(rights, right)
	}
	wantApart(t, "Left", lefts)
	wantApart(t, "Right, from its end on", rights)
}

func TestListsAreTold(t *testing.T) { // P9.5
	var lists [][]byte
	for n := range 70 {
		for _, b := range []byte{0, 1, 2, 8, 255} {
			if n > 0 || b == 0 {
				lists = append(lists, bytes.Repeat([]byte{b}, n))
			}
		}
	}
	for a := range 256 {
		for b := range 256 {
			lists = append(lists, []byte{byte(a), byte(b)})
		}
	}
	// Lists that are made of lists already, and longer ones.
	for i := range 40 {
		lists = append(lists, String(lists[i]), String(String(lists[i])), random(int64(i), 8180+i))
	}
	slices.SortFunc(lists, bytes.Compare)
	lists = slices.CompactFunc(lists, bytes.Equal)
	for i, b := range lists {
		lists[i] = String(b)
	}
	wantApart(t, "String", lists)
}

func TestFewerBytesBeginMore(t *testing.T) { // P9.5
	for _, k := range known {
		for _, as := range namings(k.rate) {
			p := random(103, 77)
			most, code := k.custom(nil, as.name, as.custom, p, 700)
			if code != api.OK || len(most) != 700 {
				t.Fatalf("cSHAKE: %d bytes, %d", len(most), code)
			}
			for n := range 700 {
				got, code := k.custom(nil, as.name, as.custom, p, n)
				want(t, "cSHAKE", got, code, most[:n])
			}
		}
	}
}

func TestBegunOnesTellTheSame(t *testing.T) { // P9.3, P9.4: Begin, Write by pieces, Read by pieces
	for _, k := range known {
		for _, as := range namings(k.rate) {
			for _, size := range edges(k.rate) {
				p := random(104, size)
				l, m := ledger.New(), ledger.New()
				whole, code := k.custom(l, as.name, as.custom, p, 500)
				s := begun(t, m, k.strength, as)
				for piece := range slices.Chunk(p, 50) {
					s.Write(m, piece)
				}
				var got []byte
				for range 20 {
					b, _ := s.Read(m, 25)
					got = append(got, b...)
				}
				want(t, "cSHAKE", whole, code, got)
				wantEvents(t, "cSHAKE", l, slices.Collect(m.All())...)
			}
		}
	}
}

func TestLedgerHangsOnLengths(t *testing.T) { // P9.5, rule 9: whatever the bytes are
	for _, k := range known {
		for _, as := range namings(k.rate) {
			for _, size := range edges(k.rate) {
				for _, n := range []int{0, 1, k.rate, k.rate + 1} {
					for _, fill := range []byte{0, 1, 31, 128, 255} {
						same := naming{bytes.Repeat([]byte{fill}, len(as.name)), bytes.Repeat([]byte{fill}, len(as.custom))}
						l := ledger.New()
						k.custom(l, same.name, same.custom, bytes.Repeat([]byte{fill}, size), n)
						wantEvents(t, "cSHAKE", l, turns(asEvents(prefixSize(as, k.rate)+size, n, k.rate))...)
					}
				}
			}
		}
	}
}

func TestRecordedBehindAllOthers(t *testing.T) { // rule 5; the zero Ledger is one, too
	var l ledger.Ledger
	l.Note(other)
	begun(t, &l, 128, naming{nil, nil})
	begun(t, &l, 128, naming{[]byte("KMAC"), nil})
	l.Note(other)
	C256(&l, nil, []byte("custom"), make([]byte, 136), 137)
	l.Note(other)
	Shake256(&l, nil, 0)
	wantEvents(t, "the calls", &l, other, turned, other, turned, turned, turned, turned, other, turned)
}

func TestBegunOnesEachByItself(t *testing.T) { // rule 7
	for _, k := range known {
		for _, as := range namings(k.rate) {
			first, second := begun(t, nil, k.strength, as), begun(t, nil, k.strength, as)
			form := second.Form()
			first.Write(nil, random(105, 300))
			first.Read(nil, 300)
			first.Wipe(nil)
			if !bytes.Equal(second.Form(), form) || !bytes.Equal(begun(t, nil, k.strength, as).Form(), form) {
				t.Fatalf("what is done with one shows in another, %d, %x, %x", k.strength, as.name, as.custom)
			}
		}
	}
}

func TestInGoroutines(t *testing.T) { // rules 6, 7
	var wait sync.WaitGroup
	for i := range 8 {
		wait.Go(func() {
			for _, k := range known {
				for _, as := range namings(k.rate) {
					p, told := random(int64(i), 300+i), make([]byte, 400+i)
					own := k.begin(as.name, as.custom)
					own.Write(p)
					own.Read(told)
					if got, code := k.custom(nil, as.name, as.custom, p, len(told)); code != api.OK || !bytes.Equal(got, told) {
						t.Errorf("goroutine %d: %x, %d", i, got, code)
					}
				}
			}
		})
	}
	wait.Wait()
}

// overwrite writes over a list and over its spare room.
func overwrite(b []byte) {
	for i := range b[:cap(b)] {
		b[:cap(b)][i] = 0x99
	}
}

// answers gives all answers that are lists, of one list and one number.
func answers(b []byte, n int) [][]byte {
	left, _ := Left(n)
	right, _ := Right(n)
	padded, _ := Pad(b, 1+n%256)
	all := [][]byte{left, right, String(b), padded}
	for _, k := range known {
		plain, _ := k.plain(nil, b, n)
		custom, _ := k.custom(nil, b, b, b, n)
		all = append(all, plain, custom)
	}
	return all
}

func TestAnswersAreNew(t *testing.T) { // rule 3
	for _, size := range edges(168) {
		b := random(106, size)
		was := bytes.Clone(b)
		for _, n := range []int{0, 1, 135, 136, 167, 168, 255, 256, 300, 65536} {
			first, second := answers(b, n), answers(b, n)
			for i, answer := range first {
				as := bytes.Clone(second[i])
				for _, x := range answer[len(answer):cap(answer)] {
					if x != 0 {
						t.Errorf("%d bytes, %d: the spare room of answer %d has %d", size, n, i, x)
					}
				}
				overwrite(answer)
				if !bytes.Equal(second[i], as) || !bytes.Equal(b, was) {
					t.Errorf("%d bytes, %d: answer %d that was written over shows elsewhere", size, n, i)
				}
			}
			for i, answer := range answers(b, n) {
				if !bytes.Equal(answer, second[i]) {
					t.Errorf("%d bytes, %d: answer %d is another one now", size, n, i)
				}
			}
		}
	}
}

func TestWhatIsHandedInIsNeitherChangedNorKept(t *testing.T) { // rule 3
	for _, k := range known {
		for _, as := range namings(k.rate) {
			for _, size := range []int{0, 1, k.rate - 1, k.rate, 300} {
				p := random(107, size)
				// One list behind the other in the same memory: what is put into spare room would show in the next one.
				whole := slices.Concat(as.name, as.custom, p, []byte{93, 94, 95})
				was, a, b := bytes.Clone(whole), len(as.name), len(as.name)+len(as.custom)
				name, custom, message := whole[:a], whole[a:b], whole[b:b+size]
				got, code := k.custom(nil, name, custom, message, 300)
				s := begun(t, nil, k.strength, naming{name, custom})
				said := String(message)
				padded, _ := Pad(message, 200)
				if !bytes.Equal(whole, was) {
					t.Fatal("what was handed in has changed")
				}
				asPadded, _ := Pad(p, 200)
				asTold, _ := k.custom(nil, as.name, as.custom, p, 300)
				overwrite(whole)
				want(t, "cSHAKE", got, code, asTold)
				want(t, "String", said, api.OK, String(p))
				want(t, "Pad", padded, api.OK, asPadded)
				s.Write(nil, p)
				got, code = s.Read(nil, 300)
				want(t, "Read of what was begun", got, code, asTold)
			}
		}
	}
}

func TestOneListForAll(t *testing.T) { // rule 3: name, custom and message may be the same memory
	for _, k := range known {
		for _, size := range edges(k.rate) {
			b := random(108, size)
			own, told := k.begin(b, b), make([]byte, 300)
			own.Write(b)
			own.Read(told)
			got, code := k.custom(nil, b, b, b, 300)
			want(t, "cSHAKE", got, code, told)
		}
	}
}

func FuzzStreams(f *testing.F) { // P1, P9.3, P9.4, P9.5
	f.Add([]byte{}, []byte{}, []byte{}, 32, 128)
	f.Add([]byte("KMAC"), []byte("custom"), []byte("abc"), 169, 256)
	f.Add([]byte{}, make([]byte, 161), make([]byte, 168), -1, 127)
	f.Add(make([]byte, 129), []byte{}, make([]byte, 136), 65537, -256)
	f.Fuzz(func(t *testing.T, name, custom, p []byte, n, strength int) {
		if _, code := Begin(nil, strength, name, custom); (code == api.OK) != (strength == 128 || strength == 256) {
			t.Fatalf("Begin(%d): %d", strength, code)
		}
		for _, k := range known {
			l := ledger.New()
			got, code := k.custom(l, name, custom, p, n)
			if n < 0 || n > 65536 {
				wantRefused(t, "cSHAKE", got, code)
				wantEvents(t, "what was refused", l)
				continue
			}
			own, told := k.begin(name, custom), make([]byte, n)
			own.Write(p)
			own.Read(told)
			want(t, "cSHAKE", got, code, told)
			wantEvents(t, "cSHAKE", l, turns(asEvents(prefixSize(naming{name, custom}, k.rate)+len(p), n, k.rate))...)
		}
	})
}

func FuzzNumbersAndLists(f *testing.F) { // P1, P9.1, P9.2
	f.Add(0, []byte{})
	f.Add(255, []byte("abc"))
	f.Add(256, make([]byte, 32))
	f.Add(-1, make([]byte, 253))
	f.Add(math.MaxInt, []byte{7})
	f.Add(math.MinInt, []byte{7})
	f.Fuzz(func(t *testing.T, n int, b []byte) {
		left, code := Left(n)
		right, same := Right(n)
		if n < 0 {
			wantRefused(t, "Left", left, code)
			wantRefused(t, "Right", right, same)
		} else {
			as := asBytes(n)
			want(t, "Left", left, code, append([]byte{byte(len(as))}, as...))
			want(t, "Right", right, same, append(as, byte(len(as))))
		}
		bits := asBytes(8 * len(b))
		want(t, "String", String(b), api.OK, slices.Concat([]byte{byte(len(bits))}, bits, b))
		got, code := Pad(b, n)
		if n < 1 || n > 256 {
			wantRefused(t, "Pad", got, code)
			return
		}
		width := asBytes(n)
		as := slices.Concat([]byte{byte(len(width))}, width, b)
		for len(as)%n != 0 {
			as = append(as, 0)
		}
		want(t, "Pad", got, code, as)
	})
}
