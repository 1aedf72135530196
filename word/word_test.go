package word

import (
	"bytes"
	"math"
	"math/big"
	"slices"
	"testing"
)

// own32 and own64 are types made of words: the union has them too.
type (
	own32 uint32
	own64 uint64
)

// someWords are 64 bits of many looks; a word of 32 bits is the lower half of one.
var someWords = []uint64{
	0, 1, 2, 3, 0x80, 0xff, 0x100, 0x7fffffff, 0x80000000, 0x80000001, 0xffffffff, 0x100000000,
	0x0102030405060708, 0xfedcba9876543210, 0x8000000000000000, 0x8000000000000001, 0x7fffffffffffffff, math.MaxUint64,
}

// someTurns are numbers of places: below 0, beyond both widths, at the ends of int.
var someTurns = []int{
	0, 1, 7, 31, 32, 33, 63, 64, 65, 127, 128, 1000003, math.MaxInt - 1, math.MaxInt,
	-1, -7, -31, -32, -33, -63, -64, -65, -1000003, math.MinInt + 1, math.MinInt,
}

// bitAt tells the bit of place i of x.
func bitAt[T Word](x T, i int) bool { return x>>i&1 == 1 }

// turnedBits holds got against x bit by bit, with the place reckoned without wrap-round.
func turnedBits[T Word](t *testing.T, x T, wide, n int) {
	t.Helper()
	got := Turn(x, n)
	by := int(new(big.Int).Mod(big.NewInt(int64(n)), big.NewInt(int64(wide))).Int64())
	for i := range wide {
		if bitAt(x, i) != bitAt(got, (i+by)%wide) {
			t.Fatalf("Turn(%#x, %d) of %d bits = %#x: bit %d is not where it must be", x, n, wide, got, i)
		}
	}
}

func TestTurnMovesEveryBit(t *testing.T) { // P1.1
	for _, w := range someWords {
		for _, n := range someTurns {
			turnedBits(t, uint32(w), 32, n)
			turnedBits(t, own32(w), 32, n)
			turnedBits(t, w, 64, n)
			turnedBits(t, own64(w), 64, n)
		}
		for n := -200; n <= 200; n++ {
			turnedBits(t, uint32(w), 32, n)
			turnedBits(t, w, 64, n)
		}
	}
}

func TestTurnExamples(t *testing.T) { // the chapter's
	for n, want := range map[int]uint32{1: 3, 33: 3, -1: 0xc0000000, 32: 0x80000001} {
		if got := Turn(uint32(0x80000001), n); got != want {
			t.Errorf("Turn(0x80000001, %d) = %#x, want %#x", n, got, want)
		}
		if got := Turn(own32(0x80000001), n); got != own32(want) {
			t.Errorf("Turn(own32 0x80000001, %d) = %#x, want %#x", n, got, want)
		}
	}
	for n, want := range map[int]uint64{63: 1 << 63, -1: 1 << 63, math.MinInt64: 1} {
		if got := Turn(uint64(1), n); got != want {
			t.Errorf("Turn(1, %d) = %#x, want %#x", n, got, want)
		}
	}
}

// placesOf gives the bytes from at on, the places reckoned as numbers without ends.
func placesOf(b []byte, at, count int) []byte {
	out := make([]byte, count)
	for i := range out {
		place := new(big.Int).Add(big.NewInt(int64(at)), big.NewInt(int64(i)))
		if place.Sign() >= 0 && place.Cmp(big.NewInt(int64(len(b)))) < 0 {
			out[i] = b[place.Int64()]
		}
	}
	return out
}

func takenAt[T Word](t *testing.T, b []byte, at, count int) {
	t.Helper()
	places := placesOf(b, at, count)
	if got, want := Take[T](b, at), T(new(big.Int).SetBytes(places).Uint64()); got != want {
		t.Errorf("Take(%v, %d) of %d bytes = %#x, want %#x", b, at, count, got, want)
	}
	slices.Reverse(places)
	if got, want := TakeLE[T](b, at), T(new(big.Int).SetBytes(places).Uint64()); got != want {
		t.Errorf("TakeLE(%v, %d) of %d bytes = %#x, want %#x", b, at, count, got, want)
	}
}

func TestTakeAtAllPlaces(t *testing.T) { // P1.2
	whole := []byte{0x81, 0x92, 0xa3, 0xb4, 0xc5, 0xd6, 0xe7, 0xf8, 0x19, 0x2a, 0x3b, 0x4c, 0x5d, 0x6e, 0x7f, 0x80, 0x91}
	far := []int{100, -100, 1 << 31, -1 << 31, 1 << 32, -1 << 32}
	for i := range 20 { // wherever at+i could wrap
		far = append(far, math.MaxInt-i, math.MinInt+i)
	}
	for count := range len(whole) + 1 {
		places := slices.Clone(far)
		for at := -20; at <= count+20; at++ {
			places = append(places, at)
		}
		for _, at := range places {
			b := whole[:count]
			takenAt[uint32](t, b, at, 4)
			takenAt[own32](t, b, at, 4)
			takenAt[uint64](t, b, at, 8)
			takenAt[own64](t, b, at, 8)
		}
	}
	takenAt[uint32](t, nil, 0, 4)
	takenAt[uint64](t, nil, -3, 8)
}

func TestTakeExamples(t *testing.T) { // the chapter's
	b := []byte{1, 2, 3, 4, 5}
	for at, want := range map[int]uint32{1: 0x02030405, 3: 0x04050000, -2: 0x00000102, 5: 0} {
		if got := Take[uint32](b, at); got != want {
			t.Errorf("Take(%d) = %#x, want %#x", at, got, want)
		}
	}
	if got := Take[uint64](b, 0); got != 0x0102030405000000 {
		t.Errorf("Take of 64 bits = %#x", got)
	}
	for at, want := range map[int]uint32{1: 0x05040302, 3: 0x00000504} {
		if got := TakeLE[uint32](b, at); got != want {
			t.Errorf("TakeLE(%d) = %#x, want %#x", at, got, want)
		}
	}
}

// The spare room of a list is no part of it: its bytes count as 0.
func TestTakeLooksAtNoSpareRoom(t *testing.T) { // P1.2, rule 3
	b := bytes.Repeat([]byte{0xee}, 16)[:2]
	if got := Take[uint32](b, 0); got != 0xeeee0000 {
		t.Errorf("Take = %#x", got)
	}
	if got := TakeLE[uint64](b, 1); got != 0xee {
		t.Errorf("TakeLE = %#x", got)
	}
}

func laidBytes[T Word](t *testing.T, x T, count int) {
	t.Helper()
	want := new(big.Int).SetUint64(uint64(x)).FillBytes(make([]byte, count))
	if got := Lay(x); !bytes.Equal(got, want) {
		t.Errorf("Lay(%#x) = %v, want %v", x, got, want)
	}
	slices.Reverse(want)
	if got := LayLE(x); !bytes.Equal(got, want) {
		t.Errorf("LayLE(%#x) = %v, want %v", x, got, want)
	}
}

func TestLayAllBytes(t *testing.T) { // P1.3
	for _, w := range someWords {
		laidBytes(t, uint32(w), 4)
		laidBytes(t, own32(w), 4)
		laidBytes(t, w, 8)
		laidBytes(t, own64(w), 8)
	}
}

func TestLayExamples(t *testing.T) { // the chapter's
	if got := Lay(uint32(0x01020304)); !bytes.Equal(got, []byte{1, 2, 3, 4}) {
		t.Errorf("Lay = %v", got)
	}
	if got := LayLE(uint32(0x01020304)); !bytes.Equal(got, []byte{4, 3, 2, 1}) {
		t.Errorf("LayLE = %v", got)
	}
}

func TestXor(t *testing.T) { // P1.4, the chapter's examples among them
	for _, c := range []struct{ a, b, want []byte }{
		{[]byte{1, 2, 3}, []byte{255, 1}, []byte{254, 3}},
		{[]byte{255, 1}, []byte{1, 2, 3}, []byte{254, 3}},
		{nil, []byte{7}, nil},
		{[]byte{7}, nil, nil},
		{[]byte{}, []byte{}, nil},
		{nil, nil, nil},
		{[]byte{0xf0, 0x0f, 0xaa}, []byte{0xff, 0xff, 0xaa}, []byte{0x0f, 0xf0, 0}},
	} {
		if got := Xor(c.a, c.b); !bytes.Equal(got, c.want) {
			t.Errorf("Xor(%v, %v) = %v, want %v", c.a, c.b, got, c.want)
		}
	}
}

func TestXorOfEveryPairOfBytes(t *testing.T) { // P1.4
	for a := range 256 {
		for b := range 256 {
			got := Xor([]byte{byte(a)}, []byte{byte(b)})
			if len(got) != 1 || int(got[0]) != (a|b)-(a&b) {
				t.Fatalf("Xor(%d, %d) = %v", a, b, got)
			}
		}
	}
}

func thereAndBack[T Word](t *testing.T, x T) {
	t.Helper()
	if Take[T](Lay(x), 0) != x || TakeLE[T](LayLE(x), 0) != x {
		t.Errorf("%#x was laid and is not taken again", x)
	}
	back := LayLE(x)
	slices.Reverse(back)
	if !bytes.Equal(back, Lay(x)) {
		t.Errorf("LayLE(%#x) is not Lay backwards", x)
	}
	if Turn(x, 0) != x {
		t.Errorf("Turn(%#x, 0) = %#x", x, Turn(x, 0))
	}
	turns := []int{1 << 62, -1 << 62, 1<<62 - 1, 1 - 1<<62, 0, 1, -1, 5, 31, 32, 33, 63, 64, 65, -13, -45, 1 << 40}
	for _, n := range turns {
		for _, m := range turns {
			// Both ends together, 2^63, are one too many for an int; modulo the width that wraps to the same turn.
			if Turn(Turn(x, n), m) != Turn(x, n+m) {
				t.Errorf("Turn(%#x) by %d and %d is not Turn by both", x, n, m)
			}
		}
	}
}

func TestWhatFollows(t *testing.T) { // P1.5
	for _, w := range someWords {
		thereAndBack(t, uint32(w))
		thereAndBack(t, own32(w))
		thereAndBack(t, w)
		thereAndBack(t, own64(w))
	}
	for count := range 70 {
		a, b := make([]byte, count), make([]byte, count)
		for i := range count {
			a[i], b[i] = byte(37*i+count), byte(101*i+7)
		}
		if !bytes.Equal(Xor(Xor(a, b), b), a) {
			t.Errorf("Xor twice, %d bytes", count)
		}
	}
}

// An answer is new memory, and what was handed in stays as it was, its spare room too.
func TestAnswersAreNewMemory(t *testing.T) { // rule 3
	room := []byte{1, 2, 3, 4, 5, 6, 7, 8}
	was := slices.Clone(room)
	a, b := room[:3], room[4:6]
	got := Xor(a, b)
	spoil(got)
	spoil(Xor(a, a))
	Take[uint64](a, 0)
	TakeLE[uint64](a, 0)
	if !bytes.Equal(room, was) {
		t.Errorf("what was handed in is now %v", room)
	}
	if again := Xor(a, b); !bytes.Equal(again, []byte{4, 4}) {
		t.Errorf("Xor again = %v", again)
	}
	kept := Lay(uint32(0x01020304))
	spoil(Lay(uint32(0x01020304)))
	spoil(LayLE(uint32(0x01020304)))
	if !bytes.Equal(kept, []byte{1, 2, 3, 4}) {
		t.Errorf("an earlier answer is now %v", kept)
	}
}

// spoil writes over a list and its spare room.
func spoil(b []byte) {
	b = b[:cap(b)]
	for i := range b {
		b[i] = 0xdd
	}
}

// Every call ends without a panic, whatever it is given; what it answers hangs on that alone.
func FuzzCalm(f *testing.F) { // P1
	f.Add([]byte{1, 2, 3, 4, 5}, []byte{255, 1}, 3)
	f.Add([]byte{}, []byte{7}, math.MaxInt)
	f.Add([]byte{9}, []byte{}, math.MinInt)
	f.Fuzz(func(t *testing.T, a, b []byte, n int) {
		takenAt[uint32](t, a, n, 4)
		takenAt[uint64](t, b, n, 8)
		x := Take[uint64](a, 0)
		turnedBits(t, uint32(x), 32, n)
		turnedBits(t, x, 64, n)
		laidBytes(t, x, 8)
		if len(Xor(a, b)) != min(len(a), len(b)) || !bytes.Equal(Xor(a, b), Xor(b, a)) {
			t.Error("Xor")
		}
	})
}
