package op

import (
	"bytes"
	"encoding/binary"
	"math"
	"math/rand"
	"reflect"
	"slices"
	"sync"
	"testing"

	"turnkey/api"
)

// most is the greatest length that a list may have.
const most = 1<<24 - 1

// fieldNames are the names of all fields but Kind, in the order of Uses.
var fieldNames = []string{"Handle", "Alg", "Count", "Out", "Data", "More"}

// chapter is what the chapter says that the kinds use, in its own order.
var chapter = map[api.OpKind][]string{
	1:  {"Data"},
	2:  {"Handle", "Alg", "Data", "Out"},
	3:  {"Handle", "Data"},
	4:  {"Handle"},
	5:  {"Handle", "Data"},
	6:  {"Handle"},
	7:  {"Handle", "Alg", "Data", "More", "Out"},
	8:  {"Handle", "Alg", "Data", "Count", "Out"},
	9:  {"Handle"},
	10: {"Handle"},
}

// numbers are numbers for Handle, Count and Out, with those at which their bytes turn.
var numbers = []int{
	0, 1, 2, 5, 63, 64, 127, 128, 255, 256, 257, 1<<16 - 1, 1 << 16, 1<<24 - 1, 1 << 24, 1<<31 - 1, 1 << 31, 1<<32 - 1, 1 << 32, 1 << 40, 1<<56 - 1, 1 << 56,
	0x0102030405060708, math.MaxInt - 1, math.MaxInt, -1, -2, -128, -129, -255, -256, -257, -1 << 16, -1 << 24, -1 << 31, -1 << 32, -1 << 40, -1 << 56, -0x0102030405060708,
	math.MinInt + 1, math.MinInt,
}

// lengthsOfLists are lengths at which the bytes of a length turn.
var lengthsOfLists = []int{0, 1, 2, 3, 31, 32, 33, 254, 255, 256, 257, 65535, 65536, 65537}

// allKinds are all that a byte can be, with those that are none.
func allKinds() []api.OpKind {
	var kinds []api.OpKind
	for k := range 256 {
		kinds = append(kinds, api.OpKind(k))
	}
	return kinds
}

// random makes n bytes, the same ones for the same seed.
func random(seed int64, n int) []byte {
	b := make([]byte, n)
	rand.New(rand.NewSource(seed)).Read(b)
	return b
}

// all is an operation in which each field is set, used or not, and no two are alike.
func all(k api.OpKind) api.Op {
	return api.Op{Kind: k, Handle: 0x1122334455667788, Alg: 0x99, Count: -0x0a0b0c0d0e0f1011, Out: 0x21222324, Data: []byte{7, 0, 255}, More: []byte{8, 9}}
}

// operations are many, of all kinds, numbers and short lists.
func operations() []api.Op {
	var list []api.Op
	for _, k := range allKinds() {
		list = append(list, all(k), api.Op{Kind: k})
	}
	for _, n := range numbers {
		list = append(list, api.Op{Handle: n}, api.Op{Count: n}, api.Op{Out: n}, api.Op{Kind: 8, Handle: n, Count: n, Out: n, Data: []byte{1}})
	}
	for i, n := range lengthsOfLists {
		b := random(int64(200+i), n)
		list = append(list, api.Op{Data: b}, api.Op{More: b}, api.Op{Kind: 7, Alg: 255, Data: b, More: []byte{5}}, api.Op{Kind: 7, Handle: -1, Data: []byte{5}, More: b})
	}
	return list
}

// laid is what an operation's bytes must be.
func laid(o api.Op) []byte {
	b := []byte{uint8(o.Kind), uint8(o.Alg)}
	for _, n := range []int{o.Handle, o.Count, o.Out} {
		b = binary.BigEndian.AppendUint64(b, uint64(n))
	}
	for _, list := range [][]byte{o.Data, o.More} {
		b = append(b, binary.BigEndian.AppendUint32(nil, uint32(len(list)))[1:]...)
	}
	return slices.Concat(b, o.Data, o.More)
}

// alike holds two operations against each other, field by field, without Same.
func alike(a, b api.Op) bool {
	return a.Kind == b.Kind && a.Handle == b.Handle && a.Alg == b.Alg && a.Count == b.Count && a.Out == b.Out && string(a.Data) == string(b.Data) && string(a.More) == string(b.More)
}

// isZero tells an operation in which nothing is.
func isZero(o api.Op) bool { return alike(o, api.Op{}) }

// brief tells an operation in a line, however long its lists are.
func brief(o api.Op) []int {
	return []int{int(o.Kind), o.Handle, int(o.Alg), o.Count, o.Out, len(o.Data), len(o.More)}
}

// encoded encodes an operation that has bytes.
func encoded(t *testing.T, o api.Op) []byte {
	t.Helper()
	b, e := Encode(o)
	if e != api.OK {
		t.Fatalf("Encode of %d: %d", brief(o), e)
	}
	return b
}

// wantBytes holds Encode of an operation against what its bytes must be, and Decode and Next of them against it.
func wantBytes(t *testing.T, o api.Op) {
	t.Helper()
	b, want := encoded(t, o), laid(o)
	if !bytes.Equal(b, want) {
		t.Fatalf("Encode of %d: %x, want %x", brief(o), b[:32], want[:32])
	}
	wantOp(t, want, o)
}

// wantOp wants bytes to be those of an operation, and nothing more.
func wantOp(t *testing.T, b []byte, o api.Op) {
	t.Helper()
	if d, e := Decode(b); e != api.OK || !alike(d, o) {
		t.Fatalf("Decode of %d bytes: %d, %d, want %d", len(b), brief(d), e, brief(o))
	}
	wantNext(t, b, o, len(b))
}

// wantNext wants bytes to begin with an operation of n bytes.
func wantNext(t *testing.T, b []byte, o api.Op, n int) {
	t.Helper()
	if d, got, e := Next(b); e != api.OK || got != n || !alike(d, o) {
		t.Fatalf("Next of %d bytes: %d, %d, %d, want %d, %d", len(b), brief(d), got, e, brief(o), n)
	}
}

// wantNoDecode wants Decode to be refused.
func wantNoDecode(t *testing.T, what string, b []byte) {
	t.Helper()
	if d, e := Decode(b); e != api.ErrBytes || !isZero(d) {
		t.Fatalf("%s: Decode of %d bytes: %d, %d", what, len(b), brief(d), e)
	}
}

// wantNone wants bytes that neither are an operation's nor begin with one.
func wantNone(t *testing.T, what string, b []byte) {
	t.Helper()
	wantNoDecode(t, what, b)
	if d, n, e := Next(b); e != api.ErrBytes || n != 0 || !isZero(d) {
		t.Fatalf("%s: Next of %d bytes: %d, %d, %d", what, len(b), brief(d), n, e)
	}
}

// head makes the 32 bytes ahead of lists of two lengths.
func head(data, more int) []byte {
	b := random(203, 32)
	copy(b[26:], []byte{byte(data >> 16), byte(data >> 8), byte(data), byte(more >> 16), byte(more >> 8), byte(more)})
	return b
}

// overwrite writes over a list and over its spare room.
func overwrite[T any](list []T, by T) {
	for i := range list[:cap(list)] {
		list[:cap(list)][i] = by
	}
}

// clone is an operation with lists of its own.
func clone(o api.Op) api.Op {
	o.Data, o.More = bytes.Clone(o.Data), bytes.Clone(o.More)
	return o
}

// uses tells whether a kind uses a field, as the chapter says.
func uses(k api.OpKind, name string) bool { return slices.Contains(chapter[k], name) }

// without is an operation of which one field is as in the zero one.
func without(o api.Op, name string) api.Op {
	switch name {
	case "Handle":
		o.Handle = 0
	case "Alg":
		o.Alg = 0
	case "Count":
		o.Count = 0
	case "Out":
		o.Out = 0
	case "Data":
		o.Data = nil
	case "More":
		o.More = nil
	}
	return o
}

// stripped is what Plain must tell.
func stripped(o api.Op) api.Op {
	for _, name := range fieldNames {
		if !uses(o.Kind, name) {
			o = without(o, name)
		}
	}
	return o
}

func TestExamples(t *testing.T) { // the chapter's, in its order
	drop := slices.Concat([]byte{10, 0, 0, 0, 0, 0, 0, 0, 0, 5}, make([]byte, 16), make([]byte, 6))
	if b, e := Encode(api.Op{Kind: api.OpDrop, Handle: 5}); e != api.OK || !bytes.Equal(b, drop) {
		t.Errorf("OpDrop: %x, %d", b, e)
	}
	o := api.Op{Kind: api.OpPut, Handle: -1, Data: []byte{7, 8}}
	put := slices.Concat([]byte{1, 0}, bytes.Repeat([]byte{255}, 8), make([]byte, 16), []byte{0, 0, 2, 0, 0, 0, 7, 8})
	if b, e := Encode(o); e != api.OK || !bytes.Equal(b, put) {
		t.Errorf("OpPut: %x, %d", b, e)
	}
	wantOp(t, put, o)
	wantNone(t, "without its last byte", put[:33])
	one := append(bytes.Clone(put), 9)
	wantNoDecode(t, "with one more", one)
	wantNext(t, one, o, 34)
	if p := Plain(o); !alike(p, api.Op{Kind: api.OpPut, Data: []byte{7, 8}}) {
		t.Error("Plain:", p)
	}
	wantNone(t, "no bytes", nil)
	wantNone(t, "31 bytes", make([]byte, 31))
	wantOp(t, make([]byte, 32), api.Op{})
	for k, want := range map[api.OpKind][]string{api.OpBegin: {"Handle", "Alg", "Out", "Data"}, api.OpPut: {"Data"}, 11: nil} {
		if got := Uses(k); !slices.Equal(got, want) {
			t.Error("Uses:", k, got)
		}
	}
}

func TestKindsAreTheChapters(t *testing.T) { // the kinds' numbers, by iota, and ErrBytes
	kinds := []api.OpKind{api.OpPut, api.OpBegin, api.OpUpdate, api.OpFinish, api.OpVerify, api.OpClone, api.OpHkdf, api.OpPbkdf, api.OpReveal, api.OpDrop}
	for i, k := range kinds {
		if b := encoded(t, api.Op{Kind: k}); int(b[0]) != i+1 {
			t.Errorf("kind %d is laid as %d", i+1, b[0])
		}
	}
	if api.ErrBytes != 300 || api.ErrLong != 9 {
		t.Error("errors:", int(api.ErrBytes), int(api.ErrLong))
	}
}

func TestEncodeOfEachKind(t *testing.T) { // P20.1, P20.2: of kinds that are none, too, with all fields set, used or not, and with none
	for _, k := range allKinds() {
		wantBytes(t, all(k))
		wantBytes(t, api.Op{Kind: k})
	}
}

func TestEncodeOfEachAlg(t *testing.T) { // P20.1, P20.2: what is no algorithm, too
	for a := range 256 {
		wantBytes(t, api.Op{Kind: api.OpBegin, Alg: api.Alg(a)})
		wantBytes(t, api.Op{Kind: 255, Alg: api.Alg(a), More: []byte{1}})
	}
}

func TestEncodeOfNumbers(t *testing.T) { // P20.1, P20.2: each number in each field, alone and beside others
	for _, n := range numbers {
		for _, k := range []api.OpKind{0, api.OpPut, api.OpHkdf, api.OpPbkdf, api.OpDrop, 11, 255} {
			wantBytes(t, api.Op{Kind: k, Handle: n})
			wantBytes(t, api.Op{Kind: k, Count: n})
			wantBytes(t, api.Op{Kind: k, Out: n})
			for _, m := range numbers {
				wantBytes(t, api.Op{Kind: k, Handle: n, Count: m, Out: n ^ m, Data: []byte{3}})
			}
		}
	}
}

func TestNumbersByteByByte(t *testing.T) { // P20.1: which byte of which number lies where, written out
	o := api.Op{Kind: 3, Alg: 4, Handle: 0x0102030405060708, Count: 0x1112131415161718, Out: math.MinInt, Data: make([]byte, 0x010203), More: make([]byte, 0x000405)}
	want := []byte{3, 4, 1, 2, 3, 4, 5, 6, 7, 8, 0x11, 0x12, 0x13, 0x14, 0x15, 0x16, 0x17, 0x18, 0x80, 0, 0, 0, 0, 0, 0, 0, 1, 2, 3, 0, 4, 5}
	if b := encoded(t, o); !bytes.Equal(b[:32], want) || len(b) != 32+0x010203+0x0405 {
		t.Errorf("%x, of %d bytes", b[:32], len(b))
	}
	o = api.Op{Handle: math.MaxInt, Count: math.MinInt + 1, Out: -256}
	want = []byte{0, 0, 127, 255, 255, 255, 255, 255, 255, 255, 128, 0, 0, 0, 0, 0, 0, 1, 255, 255, 255, 255, 255, 255, 255, 0, 0, 0, 0, 0, 0, 0}
	if b := encoded(t, o); !bytes.Equal(b, want) {
		t.Errorf("%x", b)
	}
}

func TestEncodeOfLists(t *testing.T) { // P20.1, P20.2: of each two lengths, Data and More
	for _, n := range lengthsOfLists {
		for _, m := range lengthsOfLists {
			wantBytes(t, api.Op{Kind: api.OpHkdf, Handle: 1, Data: random(204, n), More: random(205, m)})
		}
	}
}

func TestEncodeOfTheLongestLists(t *testing.T) { // P20.1, P20.2: 2^24 - 1 bytes of one, of the other, of both
	long, other := random(206, most), random(207, most)
	for _, o := range []api.Op{{Data: long}, {More: long}, {Kind: 255, Data: long, More: other}, {Kind: api.OpPut, Data: long, More: []byte{1}}, {Data: []byte{1}, More: other[:most-1]}} {
		wantBytes(t, o)
		b := laid(o)
		wantNone(t, "the longest without its last byte", b[:len(b)-1])
		wantNoDecode(t, "the longest with one more", append(b, 0))
	}
}

func TestEncodeOfListsThatAreTooLong(t *testing.T) { // P20.1, rule 2: whether the kind uses them or not, and whatever else it has
	for _, n := range []int{most + 1, most + 2, 1<<24 + 255, 1 << 25, 1<<25 + 1} {
		long := make([]byte, n)
		for _, k := range []api.OpKind{0, api.OpPut, api.OpFinish, api.OpHkdf, api.OpDrop, 11, 255} {
			for _, o := range []api.Op{{Data: long}, {More: long}, {Data: long, More: long}, {Data: []byte{1}, More: long}, {Data: long, More: long[:most]}, {Data: long[:most], More: long}} {
				o.Kind = k
				if b, e := Encode(o); e != api.ErrLong || len(b) != 0 {
					t.Fatalf("Encode of %d: %d bytes, %d", brief(o), len(b), e)
				}
			}
		}
	}
}

func TestListsAreAsLongAsTheyAre(t *testing.T) { // P20.1 to P20.3, rule 3: spare room counts for nothing
	room := make([]byte, 1<<24+8)
	copy(room, []byte{1, 2, 3, 4})
	o := api.Op{Kind: api.OpHkdf, Data: room[:2], More: room[2:3]}
	wantBytes(t, o)
	if p := Plain(o); !alike(p, o) {
		t.Error("Plain:", brief(p))
	}
	if !Same(o, api.Op{Kind: api.OpHkdf, Data: []byte{1, 2}, More: []byte{3}}) {
		t.Error("Same: spare room was held against none")
	}
	b := laid(o)
	long := append(bytes.Clone(b), 77)
	wantOp(t, long[:len(b)], o)
	wantNone(t, "cut, with its last byte as spare room", long[:len(b)-1])
	wantNone(t, "a head cut, with the rest as spare room", long[:31])
}

func TestNilIsEmpty(t *testing.T) { // Words: nil and empty lists are the same, in and out
	for _, k := range allKinds() {
		a, b := api.Op{Kind: k, Handle: 3}, api.Op{Kind: k, Handle: 3, Data: []byte{}, More: []byte{}}
		if !bytes.Equal(encoded(t, a), encoded(t, b)) || !Same(a, b) || !Same(b, a) || !Same(Plain(a), Plain(b)) {
			t.Fatalf("of kind %d nil is not empty", k)
		}
	}
	wantNone(t, "nil", nil)
	wantNone(t, "empty", []byte{})
}

func TestZeroOp(t *testing.T) { // Examples: 32 noughts are the zero Op, to its lists, which are nil
	d, e := Decode(make([]byte, 32))
	if e != api.OK || !reflect.DeepEqual(d, api.Op{}) {
		t.Errorf("%#v, %d", d, e)
	}
	if p := Plain(api.Op{}); !reflect.DeepEqual(p, api.Op{}) {
		t.Errorf("%#v", p)
	}
}

func TestTooFewBytes(t *testing.T) { // P20.2: each length below 32, whatever the bytes are
	for n := range 32 {
		wantNone(t, "noughts", make([]byte, n))
		wantNone(t, "all ones", bytes.Repeat([]byte{255}, n))
		wantNone(t, "any bytes", random(208, n))
		wantNone(t, "an operation's", laid(all(api.OpHkdf))[:n])
	}
}

func TestBytesCutAndLengthened(t *testing.T) { // P20.2: at each place, and with more behind them
	for _, o := range []api.Op{{}, all(api.OpHkdf), all(0), all(255), {Kind: 1, Data: random(209, 300)}, {Kind: 7, More: random(210, 300)}, {Data: random(211, 255), More: random(212, 256)}} {
		b := laid(o)
		for n := range b {
			wantNone(t, "cut", b[:n])
		}
		wantOp(t, b, o)
		for _, n := range []int{1, 2, 31, 32, 33, 255, 256, 65536} {
			for _, more := range [][]byte{make([]byte, n), random(213, n)} {
				long := slices.Concat(b, more)
				wantNoDecode(t, "lengthened", long)
				wantNext(t, long, o, len(b))
			}
		}
	}
}

func TestLengthsThatSayMoreThanThereIs(t *testing.T) { // P20.2: of Data, of More, and of both together
	lists := []int{0, 1, 2, 254, 255, 256, 65535, 65536}
	said := append(slices.Clone(lists), 3, 257, 65537, 1<<16+255, 1<<23, most-1, most)
	for _, have := range lists {
		for _, data := range said {
			for _, more := range said {
				b := append(head(data, more), make([]byte, have)...)
				if data+more > have {
					wantNone(t, "more is said", b)
					continue
				}
				if _, n, e := Next(b); n != 32+data+more || e != api.OK {
					t.Fatalf("%d and %d are said, %d are there: %d, %d", data, more, have, n, e)
				}
				if d, e := Decode(b); (e == api.OK) != (data+more == have) || e == api.OK && (len(d.Data) != data || len(d.More) != more) {
					t.Fatalf("%d and %d are said, %d are there: %d, %d", data, more, have, brief(d), e)
				}
			}
		}
	}
}

func TestListsAreToldApart(t *testing.T) { // P20.2: the same bytes behind the head, cut at each place
	b := random(214, 40)
	for n := range len(b) + 1 {
		d, e := Decode(append(head(n, len(b)-n), b...))
		if e != api.OK || !bytes.Equal(d.Data, b[:n]) || !bytes.Equal(d.More, b[n:]) {
			t.Fatalf("cut behind %d: %x, %x, %d", n, d.Data, d.More, e)
		}
	}
}

func TestThereAndBack(t *testing.T) { // P20.4: Decode of Encode is the operation, Encode of what Decode told are the bytes
	for _, o := range operations() {
		b := encoded(t, o)
		d, e := Decode(b)
		if e != api.OK || !Same(d, o) || !alike(d, o) {
			t.Fatalf("Decode of Encode of %d: %d, %d", brief(o), brief(d), e)
		}
		if again := encoded(t, d); !bytes.Equal(again, b) {
			t.Fatalf("Encode of Decode: %x, want %x", again, b)
		}
	}
	for i := range 500 {
		b := append(head(i%7, i%11), random(int64(i), i%7+i%11)...)
		copy(b[:26], random(int64(1000+i), 26))
		d, e := Decode(b)
		if e != api.OK || !bytes.Equal(encoded(t, d), b) {
			t.Fatalf("Encode of Decode of %x: %d, %d", b, brief(d), e)
		}
	}
}

func TestOperationsOneBehindTheOther(t *testing.T) { // P20.4: Next goes through them, one by one, and ends with ErrBytes
	list := operations()
	var b []byte
	for _, o := range list {
		b = append(b, encoded(t, o)...)
	}
	wantNoDecode(t, "many", b)
	for i, o := range list {
		d, n, e := Next(b)
		if e != api.OK || !alike(d, o) || n != len(laid(o)) {
			t.Fatalf("operation %d: %d, %d, %d, want %d", i, brief(d), n, e, brief(o))
		}
		b = b[n:]
	}
	wantNone(t, "behind the last one", b)
}

func TestOperationsWithTheLastOneCut(t *testing.T) { // P20.2, P20.4: those ahead of it are told, and it is refused
	first, last := all(api.OpPbkdf), all(api.OpHkdf)
	both := slices.Concat(laid(first), laid(last))
	for n := len(laid(first)); n < len(both); n++ {
		wantNext(t, both[:n], first, len(laid(first)))
		wantNone(t, "the second one", both[len(laid(first)):n])
	}
}

func TestPlainOfEachKind(t *testing.T) { // P20.3: all fields set, and one alone, of each kind and of those that are none
	for _, k := range allKinds() {
		o := all(k)
		if p := Plain(o); !alike(p, stripped(o)) {
			t.Fatalf("Plain of %d: %d", brief(o), brief(p))
		}
		for _, name := range fieldNames {
			alone := o
			for _, other := range fieldNames {
				if other != name {
					alone = without(alone, other)
				}
			}
			for _, x := range []api.Op{alone, without(o, name)} {
				if p := Plain(x); !alike(p, stripped(x)) {
					t.Fatalf("Plain of %d: %d", brief(x), brief(p))
				}
			}
		}
	}
}

func TestPlainOfNumbersAndLists(t *testing.T) { // P20.3, P20.4: what is used stays as it is, whatever it is
	for _, o := range operations() {
		for k := range api.OpKind(12) {
			o.Kind = k
			if p := Plain(o); !alike(p, stripped(o)) {
				t.Fatalf("Plain of %d: %d", brief(o), brief(p))
			}
		}
	}
	long := random(215, most+1) // Encode would refuse it
	for _, k := range []api.OpKind{api.OpHkdf, api.OpPut, api.OpDrop} {
		o := api.Op{Kind: k, Data: long, More: long[1:]}
		if p := Plain(o); !alike(p, stripped(o)) {
			t.Fatalf("Plain of %d: %d", brief(o), brief(p))
		}
	}
}

func TestPlainOfWhatIsPlain(t *testing.T) { // P20.4
	for _, o := range operations() {
		p := Plain(o)
		if !Same(Plain(p), p) || !alike(Plain(p), p) {
			t.Fatalf("Plain of Plain of %d: %d", brief(o), brief(Plain(p)))
		}
		if plain := alike(o, stripped(o)); Same(o, p) != plain {
			t.Fatalf("%d is plain: %t", brief(o), plain)
		}
	}
}

func TestSameOfOneFieldAlone(t *testing.T) { // P20.3: of each field, used or not, both ways round
	for _, k := range allKinds() {
		o := all(k)
		others := []api.Op{o, o, o, o, o, o, o}
		others[0].Kind++
		others[1].Handle++
		others[2].Alg++
		others[3].Count++
		others[4].Out++
		others[5].Data = []byte{7, 0, 254}
		others[6].More = []byte{8, 8}
		for i, x := range others {
			if Same(o, x) || Same(x, o) {
				t.Fatalf("of kind %d field %d alone shows nothing", k, i)
			}
		}
		for _, name := range fieldNames {
			if x := without(o, name); Same(o, x) || Same(x, o) {
				t.Fatalf("of kind %d without %s is the same", k, name)
			}
		}
		if !Same(o, o) || !Same(o, clone(o)) || !Same(clone(o), o) {
			t.Fatalf("of kind %d it is not the same as itself", k)
		}
	}
}

func TestSameOfNumbers(t *testing.T) { // P20.3: to the highest bit, and with their sign
	for _, n := range numbers {
		for _, m := range numbers {
			a := []api.Op{{Handle: n}, {Count: n}, {Out: n}, {Kind: 8, Handle: n, Count: m, Out: 1}}
			b := []api.Op{{Handle: m}, {Count: m}, {Out: m}, {Kind: 8, Handle: m, Count: n, Out: 1}}
			for i := range a {
				if Same(a[i], b[i]) != (n == m) {
					t.Fatalf("Same of %d and %d", brief(a[i]), brief(b[i]))
				}
			}
		}
	}
}

func TestSameOfLists(t *testing.T) { // P20.3: unlike in one byte, at each place; or one begins the other; or they changed places
	for _, n := range []int{1, 2, 7, 8, 9, 33, 256} {
		list := random(216, n)
		for i := range n {
			other := bytes.Clone(list)
			other[i] ^= 1 << (i % 8)
			if Same(api.Op{Data: list}, api.Op{Data: other}) || Same(api.Op{More: list}, api.Op{More: other}) {
				t.Fatalf("%d bytes, unlike at %d, are the same", n, i)
			}
			if Same(api.Op{Data: list}, api.Op{Data: list[:i]}) || Same(api.Op{More: list[:i]}, api.Op{More: list}) {
				t.Fatalf("%d bytes and %d of them are the same", n, i)
			}
		}
		if Same(api.Op{Data: list}, api.Op{More: list}) || Same(api.Op{Data: list, More: []byte{1}}, api.Op{Data: []byte{1, 2}, More: list}) {
			t.Fatal("Data was held against More")
		}
		if Same(api.Op{Data: list[:1], More: list[1:]}, api.Op{Data: list}) != (n == 1) {
			t.Fatal("the lists were held against each other as one")
		}
	}
	if Same(api.Op{Data: []byte{0}}, api.Op{}) || Same(api.Op{}, api.Op{More: []byte{0}}) {
		t.Error("a nought is not none")
	}
	long := random(217, most+2)
	if !Same(api.Op{Data: long, More: long}, api.Op{Data: bytes.Clone(long), More: bytes.Clone(long)}) || Same(api.Op{Data: long}, api.Op{Data: long[:most+1]}) {
		t.Error("of lists that are too long to be encoded")
	}
}

func TestSameOfNilAndEmpty(t *testing.T) { // P20.3: in each list, both ways round
	lists := [][]byte{nil, {}, make([]byte, 0, 5), []byte{1, 2}[:0]}
	for _, a := range lists {
		for _, b := range lists {
			if !Same(api.Op{Kind: 7, Data: a}, api.Op{Kind: 7, Data: b}) || !Same(api.Op{Kind: 7, More: a}, api.Op{Kind: 7, More: b}) || !Same(api.Op{Data: a, More: b}, api.Op{Data: b, More: a}) {
				t.Fatalf("%#v and %#v are not the same", a, b)
			}
		}
	}
}

func TestUsesOfEachKind(t *testing.T) { // P20.3: in its order, and none of kinds that are none
	for _, k := range allKinds() {
		var want []string
		for _, name := range fieldNames {
			if uses(k, name) {
				want = append(want, name)
			}
		}
		if got := Uses(k); !slices.Equal(got, want) {
			t.Errorf("Uses of %d: %s, want %s", k, got, want)
		}
	}
}

func TestUsesIsWhatPlainLeaves(t *testing.T) { // P20.3: a field that is named stays, another one does not
	for _, k := range allKinds() {
		o := all(k)
		p := Plain(o)
		for _, name := range fieldNames {
			gone := alike(without(p, name), p)
			if gone == slices.Contains(Uses(k), name) {
				t.Errorf("of kind %d: is %s gone: %t, but Uses says %s", k, name, gone, Uses(k))
			}
		}
	}
}

func TestWhatIsHandedInStays(t *testing.T) { // rule 3: neither the lists nor their spare room change
	room := random(218, 400)
	want := bytes.Clone(room)
	for _, k := range allKinds() {
		o := api.Op{Kind: k, Handle: 1, Alg: 2, Count: 3, Out: 4, Data: room[10:20], More: room[100:130]}
		before := o
		encoded(t, o)
		Plain(o)
		Same(o, o)
		Same(o, api.Op{Kind: k, Data: room[:300]})
		if !reflect.DeepEqual(o, before) || cap(o.Data) != cap(before.Data) || !bytes.Equal(room, want) {
			t.Fatalf("of kind %d what was handed in has changed", k)
		}
	}
	b := laid(all(api.OpHkdf))
	long := slices.Concat(b, random(219, 50))
	want = bytes.Clone(long)
	for n := range long {
		Decode(long[:n])
		Next(long[:n])
		if !bytes.Equal(long, want) {
			t.Fatalf("the bytes have changed, with %d of them", n)
		}
	}
}

func TestWhatIsToldOutlivesWhatWasHandedIn(t *testing.T) { // rule 3: nothing that was handed in is kept, its spare room neither
	for _, n := range []int{0, 1, 2, 255, 256, 65536} {
		for _, m := range []int{0, 1, 2, 255, 256, 65536} {
			o := api.Op{Kind: api.OpHkdf, Handle: 6, Alg: 1, Out: 40, Data: append(make([]byte, 0, n+9), random(220, n)...), More: append(make([]byte, 0, m+9), random(221, m)...)}
			want := clone(o)
			b, p := encoded(t, o), Plain(o)
			overwrite(o.Data, 0x99)
			overwrite(o.More, 0x99)
			if !alike(p, want) || !bytes.Equal(b, laid(want)) {
				t.Fatalf("%d and %d bytes: what was told lies in what was handed in", n, m)
			}
			d, e := Decode(b)
			x, _, f := Next(b)
			overwrite(b, 0x99)
			if e != api.OK || f != api.OK || !alike(d, want) || !alike(x, want) {
				t.Fatalf("%d and %d bytes: an operation lies in its bytes", n, m)
			}
		}
	}
}

func TestAnswersAreNew(t *testing.T) { // rule 3: written over, with their spare room, they change no other answer, no list beside them, and nothing that was handed in
	for _, n := range []int{0, 1, 2, 7, 8, 9, 31, 33, 255, 256, 65536} {
		o := api.Op{Kind: api.OpHkdf, Handle: 6, Alg: 1, Out: 40, Data: random(222, n), More: random(223, n+1)}
		want, b := clone(o), laid(o)
		tell := []func() api.Op{
			func() api.Op { return Plain(o) },
			func() api.Op { d, _ := Decode(b); return d },
			func() api.Op { d, _, _ := Next(b); return d },
		}
		for i, f := range tell {
			one, two, three := f(), f(), f()
			overwrite(one.Data, 0x99)
			if !bytes.Equal(one.More, want.More) {
				t.Fatalf("%d, %d bytes: Data and More share memory", i, n)
			}
			overwrite(two.More, 0x99)
			if !bytes.Equal(two.Data, want.Data) {
				t.Fatalf("%d, %d bytes: More and Data share memory", i, n)
			}
			if !alike(three, want) || !alike(f(), want) || !alike(o, want) || !bytes.Equal(b, laid(want)) {
				t.Fatalf("%d, %d bytes: answers share memory", i, n)
			}
		}
		one, two := encoded(t, o), encoded(t, o)
		overwrite(one, 0x99)
		if !bytes.Equal(two, b) || !alike(o, want) || !bytes.Equal(encoded(t, o), b) {
			t.Fatalf("%d bytes: bytes that were told share memory", n)
		}
	}
}

func TestSpareRoomOfAnswersTellsNothing(t *testing.T) { // rule 3: what is there is noughts, if there is any
	for _, n := range []int{0, 1, 2, 9, 33, 255, 1000} {
		o := api.Op{Kind: api.OpHkdf, Data: bytes.Repeat([]byte{255}, n), More: bytes.Repeat([]byte{254}, n+1)}
		b := encoded(t, o)
		d, _ := Decode(b)
		x, _, _ := Next(slices.Concat(b, b))
		p := Plain(o)
		for i, list := range [][]byte{b, d.Data, d.More, x.Data, x.More, p.Data, p.More} {
			for _, x := range list[len(list):cap(list)] {
				if x != 0 {
					t.Fatalf("%d bytes: the spare room of answer %d has %d", n, i, x)
				}
			}
		}
	}
}

func TestNamesAreNew(t *testing.T) { // rule 3: what Uses told may be written over, its spare room too
	for _, k := range allKinds() {
		one, two := Uses(k), Uses(k)
		want := slices.Clone(two)
		overwrite(one, "none")
		if !slices.Equal(two, want) || !slices.Equal(Uses(k), want) {
			t.Fatalf("of kind %d names share memory", k)
		}
	}
}

func TestOneListAsBoth(t *testing.T) { // rule 3: Data and More may share memory when they are handed in, and don't when they are told
	list := random(224, 50)
	for _, o := range []api.Op{{Kind: 7, Data: list, More: list}, {Kind: 7, Data: list[:30], More: list[10:]}, {Kind: 7, Data: list[10:], More: list[:30]}} {
		wantBytes(t, o)
		p := Plain(o)
		if !alike(p, o) {
			t.Fatal("Plain:", brief(p))
		}
		overwrite(p.Data, 0x99)
		if !bytes.Equal(p.More, o.More) {
			t.Fatal("Data and More share memory")
		}
	}
}

func TestCallsInTurn(t *testing.T) { // rule 7: what was asked before shows in no answer, refusals neither
	o := all(api.OpBegin)
	b := laid(o)
	for _, k := range allKinds() {
		Uses(k)
		Plain(all(k))
		Decode(random(int64(k), 40))
		Next(b[:int(k)%len(b)])
		Encode(api.Op{Kind: k, More: make([]byte, int(k)%2<<24)})
		Same(o, all(k))
		wantBytes(t, o)
		if p := Plain(o); !alike(p, stripped(o)) || !slices.Equal(Uses(o.Kind), []string{"Handle", "Alg", "Out", "Data"}) {
			t.Fatal("behind kind", k)
		}
	}
}

func TestCallsInGoroutines(t *testing.T) { // rule 7: each by itself, with lists that all of them read
	list := operations()
	var group sync.WaitGroup
	for range 8 {
		group.Go(func() {
			for _, o := range list {
				b, e := Encode(o)
				d, f := Decode(b)
				if e != api.OK || f != api.OK || !bytes.Equal(b, laid(o)) || !alike(d, o) || !Same(d, o) || !alike(Plain(o), stripped(o)) {
					t.Errorf("of %d", brief(o))
					return
				}
			}
		})
	}
	group.Wait()
}

func FuzzBytes(f *testing.F) { // P1, P20.2, P20.4: whatever the bytes are
	f.Add([]byte{})
	f.Add(make([]byte, 31))
	f.Add(make([]byte, 32))
	f.Add(bytes.Repeat([]byte{255}, 32))
	for k := range api.OpKind(12) {
		f.Add(laid(all(k)))
		f.Add(append(laid(all(k)), 1))
		f.Add(laid(all(k))[:36])
	}
	f.Fuzz(func(t *testing.T, b []byte) {
		n := 32
		if len(b) >= 32 {
			n += int(b[26])<<16 + int(b[27])<<8 + int(b[28]) + int(b[29])<<16 + int(b[30])<<8 + int(b[31])
		}
		if n > len(b) {
			wantNone(t, "too few", b)
			return
		}
		o, got, e := Next(b)
		if e != api.OK || got != n || !bytes.Equal(laid(o), b[:n]) {
			t.Fatalf("Next of %x: %d, %d, %d", b, brief(o), got, e)
		}
		wantOp(t, b[:n], o)
		wantBytes(t, o)
		if n < len(b) {
			wantNoDecode(t, "too many", b)
		}
	})
}

func FuzzOperation(f *testing.F) { // P1, P20.1, P20.3, P20.4: whatever the operation is
	for k := range api.OpKind(12) {
		o := all(k)
		f.Add(byte(o.Kind), o.Handle, byte(o.Alg), o.Count, o.Out, o.Data, o.More)
	}
	f.Add(byte(255), -1, byte(255), math.MaxInt, math.MinInt, []byte{}, []byte(nil))
	f.Fuzz(func(t *testing.T, kind byte, handle int, alg byte, count, out int, data, more []byte) {
		o := api.Op{Kind: api.OpKind(kind), Handle: handle, Alg: api.Alg(alg), Count: count, Out: out, Data: data, More: more}
		wantBytes(t, o)
		p := Plain(o)
		if !alike(p, stripped(o)) || !Same(Plain(p), p) {
			t.Fatalf("Plain of %d: %d", brief(o), brief(p))
		}
		if !Same(o, clone(o)) || Same(o, p) != alike(o, p) {
			t.Fatalf("Same of %d", brief(o))
		}
	})
}
