package skel

import (
	"bytes"
	"math"
	"math/big"
	"math/rand"
	"slices"
	"sync"
	"testing"

	"turnkey/api"
	"turnkey/op"
)

// most is the greatest length that a list of an operation may have.
const most = 1<<24 - 1

// fieldNames are the names of all fields but Kind.
var fieldNames = []string{"Handle", "Alg", "Count", "Out", "Data", "More"}

// chapter is what the chapter says that the kinds use, in its own order.
var chapter = map[api.OpKind][]string{
	1:  {"Data"},
	2:  {"Handle", "Alg", "Data", "Out"},
	3:  {"Handle", "Data"},
	4:  {"Handle"},
	5:  {"Handle", "Data"},
	6:  {"Handle"},
	7:  {"Handle", "Alg", "Data", "More", "Out"},
	8:  {"Handle", "Alg", "Data", "Count", "Out"},
	9:  {"Handle"},
	10: {"Handle"},
}

// numbers are numbers for all fields of a skeleton, with those at which a bound turns.
var numbers = []int{
	0, 1, 2, 15, 16, 17, 30, 31, 32, 33, 63, 64, 65, 512, 1000, 1 << 16, 1 << 20, 1<<24 - 33, 1<<24 - 32, 1<<24 - 31, 1<<24 - 2, 1<<24 - 1, 1 << 24, 1<<24 + 1, 1<<24 + 32, 1 << 25,
	1<<31 - 1, 1 << 31, 1<<32 - 1, 1 << 32, 1<<32 + 5, 1 << 40, 1 << 62, math.MaxInt - 1, math.MaxInt,
	-1, -2, -16, -31, -32, -33, -1 << 24, -1 << 31, -1 << 32, -1<<32 + 5, -1 << 62, math.MinInt + 1, math.MinInt,
}

// allKinds are all that a byte can be, with those that are none.
func allKinds() []api.OpKind {
	var kinds []api.OpKind
	for k := range 256 {
		kinds = append(kinds, api.OpKind(k))
	}
	return kinds
}

// uses tells whether a kind uses a field, as the chapter says.
func uses(k api.OpKind, name string) bool { return slices.Contains(chapter[k], name) }

// random makes n bytes, the same ones for the same seed.
func random(seed int64, n int) []byte {
	b := make([]byte, n)
	rand.New(rand.NewSource(seed)).Read(b)
	return b
}

// fullOp is an operation in which each field is set, used or not, and no two are alike.
func fullOp(k api.OpKind) api.Op {
	return api.Op{Kind: k, Handle: -3, Alg: 0x99, Count: math.MinInt, Out: math.MaxInt, Data: []byte{7, 0, 255}, More: []byte{8, 9}}
}

// fullSkeleton is a skeleton in which each field is set, used or not, and no two are alike.
func fullSkeleton(k api.OpKind) api.Skeleton {
	return api.Skeleton{Kind: k, Handle: -3, Alg: 0x99, Count: math.MinInt, Out: math.MaxInt, Data: 3, More: 2}
}

// field is where a number of a skeleton lies; nil of Kind and Alg, which are bytes.
func field(s *api.Skeleton, name string) *int {
	switch name {
	case "Handle":
		return &s.Handle
	case "Count":
		return &s.Count
	case "Out":
		return &s.Out
	case "Data":
		return &s.Data
	case "More":
		return &s.More
	}
	return nil
}

// with is a skeleton in which one field is another number (of Alg its lowest byte).
func with(s api.Skeleton, name string, n int) api.Skeleton {
	if p := field(&s, name); p != nil {
		*p = n
	} else {
		s.Alg = api.Alg(n)
	}
	return s
}

// stripped is a skeleton with noughts where the chapter says that its kind uses nothing.
func stripped(s api.Skeleton) api.Skeleton {
	for _, name := range fieldNames {
		if !uses(s.Kind, name) {
			s = with(s, name, 0)
		}
	}
	return s
}

// skeletonOf is what Of must tell.
func skeletonOf(o api.Op) api.Skeleton {
	return stripped(api.Skeleton{Kind: o.Kind, Handle: o.Handle, Alg: o.Alg, Count: o.Count, Out: o.Out, Data: len(o.Data), More: len(o.More)})
}

// alike holds two operations against each other, field by field.
func alike(a, b api.Op) bool {
	return a.Kind == b.Kind && a.Handle == b.Handle && a.Alg == b.Alg && a.Count == b.Count && a.Out == b.Out && string(a.Data) == string(b.Data) && string(a.More) == string(b.More)
}

// clone is an operation with lists of its own.
func clone(o api.Op) api.Op {
	o.Data, o.More = bytes.Clone(o.Data), bytes.Clone(o.More)
	return o
}

// overwrite writes over a list and over its spare room.
func overwrite[T any](list []T, by T) {
	for i := range list[:cap(list)] {
		list[:cap(list)][i] = by
	}
}

// brief tells an operation in a line, however long its lists are.
func brief(o api.Op) []int {
	return []int{int(o.Kind), o.Handle, int(o.Alg), o.Count, o.Out, len(o.Data), len(o.More)}
}

// mayFill tells whether Fill must make an operation of a skeleton.
func mayFill(s api.Skeleton) bool {
	for _, name := range []string{"Data", "More"} {
		if n := *field(&s, name); uses(s.Kind, name) && (n < 0 || n > most) {
			return false
		}
	}
	return true
}

// wantOf wants an operation to have a skeleton.
func wantOf(t *testing.T, o api.Op, want api.Skeleton) {
	t.Helper()
	if got := Of(o); got != want {
		t.Fatalf("Of of %d: %+v, want %+v", brief(o), got, want)
	}
}

// wantFill holds Fill of a skeleton against what it must make, or wants it to be refused.
func wantFill(t *testing.T, s api.Skeleton, b byte) {
	t.Helper()
	o, e := Fill(s, b)
	if !mayFill(s) {
		if e != api.ErrArg || !alike(o, api.Op{}) {
			t.Fatalf("Fill of %+v: %d, %d, want it refused", s, brief(o), e)
		}
		return
	}
	p := stripped(s)
	want := api.Op{Kind: p.Kind, Handle: p.Handle, Alg: p.Alg, Count: p.Count, Out: p.Out, Data: bytes.Repeat([]byte{b}, p.Data), More: bytes.Repeat([]byte{b}, p.More)}
	if e != api.OK || !alike(o, want) {
		t.Fatalf("Fill of %+v with %d: %d, %d", s, b, brief(o), e)
	}
	wantOf(t, o, p)
}

// bound is what Bound must tell, reckoned with numbers that never wrap round.
func bound(s api.Skeleton) *big.Int {
	number := func(n int) *big.Int { return big.NewInt(int64(n)) }
	within := func(n int) *big.Int {
		switch {
		case n < 0:
			return number(0)
		case n > 16777216:
			return number(16777216)
		}
		return number(n)
	}
	parts := new(big.Int).Div(within(s.Out), number(32))
	parts.Add(parts, number(1))
	long := new(big.Int).Add(within(s.More), number(512))
	long.Mul(long, parts).Div(long, number(16))
	often := new(big.Int).Mul(number(4), within(s.Count))
	often.Mul(often, parts)
	sum := new(big.Int).Add(number(64), within(s.Data))
	return sum.Add(sum, within(s.Out)).Add(sum, long).Add(sum, often)
}

// wantBound holds Bound of a skeleton against what it must be.
func wantBound(t *testing.T, s api.Skeleton) {
	t.Helper()
	if got, want := Bound(s), bound(s); want.Cmp(big.NewInt(int64(got))) != 0 {
		t.Fatalf("Bound of %+v: %d, want %v", s, got, want)
	}
}

func TestExamples(t *testing.T) { // the chapter's, in its order
	wantOf(t, api.Op{Kind: api.OpPut, Handle: 5, Data: []byte{7, 8, 9}}, api.Skeleton{Kind: api.OpPut, Data: 3})
	wantOf(t, api.Op{Kind: api.OpHkdf, Handle: 2, Alg: api.AlgHmac256, Data: make([]byte, 5), Out: 40, Count: 9}, api.Skeleton{Kind: api.OpHkdf, Handle: 2, Alg: 1, Data: 5, Out: 40})
	wantOf(t, api.Op{Kind: 77, Handle: 3}, api.Skeleton{Kind: 77})
	s := api.Skeleton{Kind: api.OpUpdate, Handle: 3, Data: 2}
	if o, e := Fill(s, 255); e != api.OK || !alike(o, api.Op{Kind: api.OpUpdate, Handle: 3, Data: []byte{255, 255}}) {
		t.Errorf("Fill: %+v, %d", o, e)
	}
	for _, n := range []int{-1, 1 << 24} {
		s.Data = n
		if o, e := Fill(s, 255); e != api.ErrArg || !alike(o, api.Op{}) {
			t.Errorf("Fill of Data %d: %d, %d", n, brief(o), e)
		}
	}
	for _, c := range []struct {
		s    api.Skeleton
		want int
	}{
		{api.Skeleton{Kind: api.OpPut, Data: 3}, 99}, {api.Skeleton{Kind: api.OpFinish}, 96}, {api.Skeleton{}, 96},
		{api.Skeleton{Kind: api.OpPbkdf, Data: 8, Count: 1000, Out: 64}, 12232}, {api.Skeleton{Out: 1 << 62}, 33554528}, {api.Skeleton{Out: 1 << 24}, 33554528},
	} {
		if got := Bound(c.s); got != c.want {
			t.Errorf("Bound of %+v: %d, want %d", c.s, got, c.want)
		}
	}
}

func TestErrorIsTheChapters(t *testing.T) { // Errors
	if api.ErrArg != 2 {
		t.Error("ErrArg:", int(api.ErrArg))
	}
}

func TestOfEachKindWrittenOut(t *testing.T) { // P21.1: what stays of an operation in which all fields are set
	o := fullOp(0)
	want := []api.Skeleton{
		{Kind: 1, Data: 3},
		{Kind: 2, Handle: -3, Alg: 0x99, Data: 3, Out: math.MaxInt},
		{Kind: 3, Handle: -3, Data: 3},
		{Kind: 4, Handle: -3},
		{Kind: 5, Handle: -3, Data: 3},
		{Kind: 6, Handle: -3},
		{Kind: 7, Handle: -3, Alg: 0x99, Data: 3, More: 2, Out: math.MaxInt},
		{Kind: 8, Handle: -3, Alg: 0x99, Data: 3, Count: math.MinInt, Out: math.MaxInt},
		{Kind: 9, Handle: -3},
		{Kind: 10, Handle: -3},
		{Kind: 0}, {Kind: 11}, {Kind: 77}, {Kind: 255},
	}
	for _, s := range want {
		o.Kind = s.Kind
		wantOf(t, o, s)
	}
	names := []api.OpKind{api.OpPut, api.OpBegin, api.OpUpdate, api.OpFinish, api.OpVerify, api.OpClone, api.OpHkdf, api.OpPbkdf, api.OpReveal, api.OpDrop}
	for i, k := range names {
		o.Kind = k
		wantOf(t, o, want[i])
	}
}

func TestOfEachKind(t *testing.T) { // P21.1: with all fields set, with none, and with one alone, used or not
	for _, k := range allKinds() {
		wantOf(t, fullOp(k), stripped(fullSkeleton(k)))
		wantOf(t, api.Op{Kind: k}, api.Skeleton{Kind: k})
		full := fullOp(k)
		for i, o := range []api.Op{{Handle: full.Handle}, {Alg: full.Alg}, {Count: full.Count}, {Out: full.Out}, {Data: full.Data}, {More: full.More}} {
			o.Kind = k
			want := api.Skeleton{Kind: k}
			if name := fieldNames[i]; uses(k, name) && name == "Alg" {
				want.Alg = full.Alg
			} else if uses(k, name) {
				s := fullSkeleton(k)
				*field(&want, name) = *field(&s, name)
			}
			wantOf(t, o, want)
		}
	}
}

func TestOfNumbers(t *testing.T) { // P21.1: they stay as they are, whatever they are, what is no algorithm too
	for k := range api.OpKind(13) {
		for i, n := range numbers {
			m, r := numbers[(i+7)%len(numbers)], numbers[(i+13)%len(numbers)]
			o := api.Op{Kind: k, Handle: n, Count: m, Out: r, Data: []byte{1}, More: []byte{2, 3}}
			wantOf(t, o, stripped(api.Skeleton{Kind: k, Handle: n, Count: m, Out: r, Data: 1, More: 2}))
		}
		for a := range 256 {
			wantOf(t, api.Op{Kind: k, Alg: api.Alg(a)}, stripped(api.Skeleton{Kind: k, Alg: api.Alg(a)}))
		}
	}
}

func TestOfLists(t *testing.T) { // P21.1: nil, empty and of several lengths, each beside each
	lists := [][]byte{nil, {}, {0}, {0, 0}, random(1, 31), random(2, 32), random(3, 33), random(4, 255), random(5, 256), random(6, 65536), random(7, 65537)}
	for _, k := range []api.OpKind{0, 1, 2, 3, 4, 5, 6, 7, 8, 9, 10, 11, 77, 255} {
		for _, data := range lists {
			for _, more := range lists {
				wantOf(t, api.Op{Kind: k, Data: data, More: more}, stripped(api.Skeleton{Kind: k, Data: len(data), More: len(more)}))
			}
		}
	}
}

func TestOfLongLists(t *testing.T) { // P21.1: above what Fill makes, too, for Of refuses nothing
	long := make([]byte, 1<<24+9)
	for _, n := range []int{most - 1, most, most + 1, most + 9} {
		for k := range api.OpKind(12) {
			wantOf(t, api.Op{Kind: k, Data: long[:n], More: long[:n-1]}, stripped(api.Skeleton{Kind: k, Data: n, More: n - 1}))
		}
	}
}

func TestSpareRoomCountsForNothing(t *testing.T) { // P21.1, rule 3: lists are as long as they are
	room := random(8, 100)
	wantOf(t, api.Op{Kind: api.OpHkdf, Data: room[:0], More: room[5:7]}, api.Skeleton{Kind: api.OpHkdf, More: 2})
	ops := []api.Op{fullOp(1), fullOp(2), fullOp(3)}
	if got := All(ops[:1]); !slices.Equal(got, []api.Skeleton{{Kind: 1, Data: 3}}) {
		t.Error("All:", got)
	}
	s := []api.Skeleton{{Kind: 1}, {Kind: 2}}
	r := []api.Skeleton{{Kind: 1}, {Kind: 3}}
	if !Same(s[:1], r[:1]) || !Same(s[:0], r[:0]) || Same(s[:1], r) {
		t.Error("Same looks at spare room")
	}
}

func TestOfIsWhatOpUses(t *testing.T) { // P21.1: the fields are those that op tells, of each kind
	for _, k := range allKinds() {
		names, s := op.Uses(k), Of(fullOp(k))
		for _, name := range fieldNames {
			left := s.Alg != 0
			if name != "Alg" {
				left = *field(&s, name) != 0
			}
			if left != slices.Contains(names, name) {
				t.Errorf("kind %d, %s: left %v", k, name, left)
			}
		}
		if Of(op.Plain(fullOp(k))) != s {
			t.Errorf("kind %d: the plain operation has another skeleton", k)
		}
	}
}

// several are operations of all kinds, in an order of no meaning, with some twice.
func several() []api.Op {
	var ops []api.Op
	for i := range 600 {
		o := fullOp(api.OpKind(i * 7 % 256))
		o.Handle, o.Data, o.More = i, make([]byte, i%40), make([]byte, i%23)
		ops = append(ops, o)
		if i%50 == 0 {
			ops = append(ops, o)
		}
	}
	return ops
}

func TestAllOfNone(t *testing.T) { // P21.1: no operation has no skeleton
	for _, l := range [][]api.Op{nil, {}, make([]api.Op, 0, 5)} {
		if got := All(l); len(got) != 0 {
			t.Error("All:", got)
		}
	}
}

func TestAllOfOneAndMany(t *testing.T) { // P21.1: one by one, in order, to the last
	for _, k := range allKinds() {
		if got := All([]api.Op{fullOp(k)}); len(got) != 1 || got[0] != stripped(fullSkeleton(k)) {
			t.Fatalf("All of kind %d: %+v", k, got)
		}
	}
	ops := several()
	for n := range len(ops) + 1 {
		got := All(ops[:n])
		if len(got) != n {
			t.Fatalf("All of %d: %d", n, len(got))
		}
		for i, s := range got {
			if s != skeletonOf(ops[i]) {
				t.Fatalf("All of %d, at %d: %+v", n, i, s)
			}
		}
	}
	turned := slices.Clone(ops)
	slices.Reverse(turned)
	want := All(ops)
	slices.Reverse(want)
	if !slices.Equal(All(turned), want) {
		t.Error("All of operations turned round")
	}
}

// wantSame holds Same of two lists against what it must be, both ways round.
func wantSame(t *testing.T, a, b []api.Skeleton, want bool) {
	t.Helper()
	if Same(a, b) != want || Same(b, a) != want {
		t.Fatalf("Same of %+v and %+v: want %v", a, b, want)
	}
}

func TestSameOfNilAndEmpty(t *testing.T) { // P21.1, Words: they are the same, and no list beside them
	none := [][]api.Skeleton{nil, {}, make([]api.Skeleton, 0, 4)}
	for _, a := range none {
		for _, b := range none {
			wantSame(t, a, b, true)
		}
		wantSame(t, a, []api.Skeleton{{}}, false)
		wantSame(t, a, []api.Skeleton{{Kind: 1}}, false)
	}
}

func TestSameOfLengths(t *testing.T) { // P21.1: a list that begins another one is not it, if more zero ones follow neither
	zero, list := make([]api.Skeleton, 9), All(several())
	for n := range 9 {
		for m := range 9 {
			wantSame(t, zero[:n], make([]api.Skeleton, m), n == m)
			wantSame(t, list[:n], slices.Clone(list[:m]), n == m)
		}
		wantSame(t, list[:n], append(slices.Clone(list[:n]), api.Skeleton{}), false)
	}
}

func TestSameOfOneFieldAlone(t *testing.T) { // P21.1: of each field, used or not, of each kind, at each place
	for _, k := range []api.OpKind{0, 1, 2, 3, 4, 5, 6, 7, 8, 9, 10, 11, 77, 255} {
		a := []api.Skeleton{fullSkeleton(k), fullSkeleton(k), fullSkeleton(k), {}, {Kind: k}}
		wantSame(t, a, slices.Clone(a), true)
		for i := range a {
			b := slices.Clone(a)
			b[i].Kind ^= 0x80
			wantSame(t, a, b, false)
			for _, name := range fieldNames {
				for _, n := range []int{0x7b, 1 << 31} {
					b = slices.Clone(a)
					b[i] = with(a[i], name, n)
					wantSame(t, a, b, name == "Alg" && a[i].Alg == api.Alg(n&0xff))
				}
			}
		}
	}
}

func TestSameOfNumbers(t *testing.T) { // P21.1: to the highest bit, and with their sign; nothing is brought within bounds
	for _, name := range []string{"Handle", "Count", "Out", "Data", "More"} {
		for _, n := range numbers {
			for _, m := range numbers {
				s := fullSkeleton(api.OpHkdf)
				wantSame(t, []api.Skeleton{with(s, name, n)}, []api.Skeleton{with(s, name, m)}, n == m)
			}
			for bit := range 64 {
				wantSame(t, []api.Skeleton{with(api.Skeleton{}, name, n)}, []api.Skeleton{with(api.Skeleton{}, name, n^1<<bit)}, false)
			}
		}
	}
	for a := range 256 {
		for b := range 256 {
			wantSame(t, []api.Skeleton{{Alg: api.Alg(a)}}, []api.Skeleton{{Alg: api.Alg(b)}}, a == b)
			wantSame(t, []api.Skeleton{{Kind: api.OpKind(a)}}, []api.Skeleton{{Kind: api.OpKind(b)}}, a == b)
		}
	}
}

func TestSameOfFieldsThatChangedPlaces(t *testing.T) { // P21.1: each field with itself, each skeleton with the one at its place
	for _, one := range fieldNames {
		for _, two := range fieldNames {
			a, b := with(api.Skeleton{Kind: 7}, one, 9), with(api.Skeleton{Kind: 7}, two, 9)
			wantSame(t, []api.Skeleton{a}, []api.Skeleton{b}, one == two)
			wantSame(t, []api.Skeleton{a, b}, []api.Skeleton{b, a}, one == two)
		}
	}
}

func TestSameOfOneList(t *testing.T) { // P21.1: with itself, and with pieces of it
	list := All(several())
	wantSame(t, list, list, true)
	wantSame(t, list[1:], list[:len(list)-1], false)
}

// somes are bytes with which Fill fills.
var somes = []byte{0, 1, 255}

func TestFillOfEachKind(t *testing.T) { // P21.2, P21.4: with all fields set, used or not, and with none
	for _, k := range allKinds() {
		for _, b := range somes {
			wantFill(t, fullSkeleton(k), b)
			wantFill(t, api.Skeleton{Kind: k}, b)
		}
	}
}

func TestFillWrittenOut(t *testing.T) { // P21.2: which field goes where
	s := api.Skeleton{Handle: -3, Alg: 9, Count: 5, Out: -6, Data: 2, More: 1}
	for _, want := range []api.Op{
		{Kind: api.OpPut, Data: []byte{1, 1}},
		{Kind: api.OpBegin, Handle: -3, Alg: 9, Data: []byte{1, 1}, Out: -6},
		{Kind: api.OpUpdate, Handle: -3, Data: []byte{1, 1}},
		{Kind: api.OpFinish, Handle: -3},
		{Kind: api.OpVerify, Handle: -3, Data: []byte{1, 1}},
		{Kind: api.OpClone, Handle: -3},
		{Kind: api.OpHkdf, Handle: -3, Alg: 9, Data: []byte{1, 1}, More: []byte{1}, Out: -6},
		{Kind: api.OpPbkdf, Handle: -3, Alg: 9, Data: []byte{1, 1}, Count: 5, Out: -6},
		{Kind: api.OpReveal, Handle: -3},
		{Kind: api.OpDrop, Handle: -3},
		{Kind: 0}, {Kind: 11}, {Kind: 77}, {Kind: 255},
	} {
		s.Kind = want.Kind
		if o, e := Fill(s, 1); e != api.OK || !alike(o, want) {
			t.Errorf("Fill of kind %d: %+v, %d", s.Kind, o, e)
		}
	}
}

func TestFillOfLengths(t *testing.T) { // P21.2: at the edges and beyond, in Data and in More, used by the kind or not
	edges := []int{0, 1, 2, 33, -1, -2, math.MinInt, math.MinInt + 1, math.MaxInt, 1 << 24, 1<<24 + 1, 1 << 32, 1<<32 + 1, -1 << 32, -1<<32 + 1}
	for _, k := range []api.OpKind{0, 1, 2, 3, 4, 5, 6, 7, 8, 9, 10, 11, 77, 255} {
		for _, data := range edges {
			for _, more := range edges {
				for _, b := range somes {
					wantFill(t, api.Skeleton{Kind: k, Handle: 1, Alg: 2, Count: 3, Out: 4, Data: data, More: more}, b)
				}
			}
		}
	}
}

func TestFillOfTheLongestLists(t *testing.T) { // P21.2: 2^24 - 1 of one, of the other and of both is made, one more of either is not
	for k := range api.OpKind(12) {
		wantFill(t, api.Skeleton{Kind: k, Data: most}, 255)
		wantFill(t, api.Skeleton{Kind: k, More: most}, 1)
		wantFill(t, api.Skeleton{Kind: k, Data: most, More: most - 1}, 0)
	}
	for _, s := range []api.Skeleton{{Data: most, More: most + 1}, {Data: most + 1, More: most}, {Data: most, More: -1}, {Data: -1, More: most}} {
		for _, k := range []api.OpKind{api.OpHkdf, api.OpPut, api.OpPbkdf, api.OpDrop, 0} {
			s.Kind = k
			wantFill(t, s, 1)
		}
	}
}

func TestFillRefusedWrittenOut(t *testing.T) { // P21.2, rule 2: ErrArg, and nothing else, where the kind uses the list
	for _, n := range []int{-1, math.MinInt, 1 << 24, math.MaxInt} {
		for k, used := range map[api.OpKind][2]bool{1: {true, false}, 2: {true, false}, 3: {true, false}, 4: {}, 5: {true, false}, 6: {}, 7: {true, true}, 8: {true, false}, 9: {}, 10: {}, 0: {}, 11: {}, 77: {}, 255: {}} {
			for i, s := range []api.Skeleton{{Data: n, Handle: 5, Out: 6}, {More: n, Handle: 5, Out: 6}} {
				s.Kind = k
				o, e := Fill(s, 7)
				if (e == api.ErrArg) != used[i] || (e == api.OK) == used[i] || used[i] && !alike(o, api.Op{}) || len(o.Data) != 0 || len(o.More) != 0 {
					t.Errorf("Fill of %+v: %d, %d", s, brief(o), e)
				}
			}
		}
	}
}

func TestFillOfNumbers(t *testing.T) { // P21.2: whatever Handle, Alg, Count and Out are, they refuse nothing
	for k := range api.OpKind(12) {
		for i, n := range numbers {
			m, r := numbers[(i+5)%len(numbers)], numbers[(i+11)%len(numbers)]
			wantFill(t, api.Skeleton{Kind: k, Handle: n, Alg: api.Alg(i), Count: m, Out: r, Data: 1, More: 2}, byte(i))
		}
		for b := range 256 {
			wantFill(t, api.Skeleton{Kind: k, Alg: api.Alg(b), Data: 3, More: 2}, byte(b))
		}
	}
}

func TestFillOfNothingIsTheZeroOp(t *testing.T) { // P21.2: to its lists
	for _, b := range somes {
		if o, e := Fill(api.Skeleton{Handle: 4, Data: 9, More: -9}, b); e != api.OK || !alike(o, api.Op{}) {
			t.Errorf("Fill with %d: %+v, %d", b, o, e)
		}
	}
}

func TestFillMakesWhatOpEncodes(t *testing.T) { // P21.2, P20.1: whatever is made has bytes, and is plain
	for k := range api.OpKind(12) {
		for _, s := range []api.Skeleton{fullSkeleton(k), {Kind: k, Data: most, More: most}, {Kind: k, Data: most}} {
			o, e := Fill(s, 5)
			if _, f := op.Encode(o); e != api.OK || f != api.OK || !op.Same(o, op.Plain(o)) {
				t.Fatalf("of %+v: %d, %d", s, e, f)
			}
		}
	}
}

func TestOfWhatFillMade(t *testing.T) { // P21.4: the skeleton, if what its kind does not use is 0
	for _, k := range allKinds() {
		for i, n := range []int{0, 1, 2, 31, 32, 33, 700, most} {
			s := stripped(api.Skeleton{Kind: k, Handle: numbers[i], Alg: api.Alg(i), Count: -n, Out: n, Data: n, More: n / 2})
			o, e := Fill(s, byte(i))
			if e != api.OK || Of(o) != s {
				t.Fatalf("of %+v: %+v, %d", s, Of(o), e)
			}
		}
	}
}

func TestOfHangsOnNoByte(t *testing.T) { // P21.4: operations whose lists have other bytes have the same skeleton
	for _, k := range allKinds() {
		o := fullOp(k)
		for seed := range int64(20) {
			r := clone(o)
			copy(r.Data, random(seed, len(r.Data)))
			copy(r.More, random(seed+99, len(r.More)))
			wantSame(t, All([]api.Op{o}), All([]api.Op{r}), true)
		}
		s := stripped(api.Skeleton{Kind: k, Data: 9, More: 4})
		for b := range 256 {
			if f, e := Fill(s, byte(b)); e != api.OK || Of(f) != s {
				t.Fatalf("kind %d: with %d it is %+v", k, b, Of(f))
			}
		}
	}
}

func TestBoundWrittenOut(t *testing.T) { // P21.3: each term at its edges, reckoned by hand
	for _, c := range []struct {
		s    api.Skeleton
		want int
	}{
		{api.Skeleton{Data: 1 << 24}, 96 + 16777216}, {api.Skeleton{Data: 1<<24 + 1}, 96 + 16777216}, {api.Skeleton{Data: 1<<24 - 1}, 96 + 16777215}, {api.Skeleton{Data: math.MaxInt}, 96 + 16777216},
		{api.Skeleton{Out: 1}, 97}, {api.Skeleton{Out: 31}, 127}, {api.Skeleton{Out: 32}, 64 + 32 + 64}, {api.Skeleton{Out: 33}, 64 + 33 + 64},
		{api.Skeleton{Out: 1<<24 - 1}, 64 + 16777215 + 32*524288}, {api.Skeleton{Out: 1 << 24}, 64 + 16777216 + 32*524289}, {api.Skeleton{Out: 1<<24 + 32}, 64 + 16777216 + 32*524289},
		{api.Skeleton{More: 15}, 96}, {api.Skeleton{More: 16}, 97}, {api.Skeleton{More: 31}, 97}, {api.Skeleton{More: 32}, 98}, {api.Skeleton{More: 33}, 98},
		{api.Skeleton{More: 8, Out: 32}, 64 + 32 + 65}, {api.Skeleton{More: 7, Out: 32}, 64 + 32 + 64}, {api.Skeleton{More: 1<<24 - 1}, 64 + 1048607}, {api.Skeleton{More: 1 << 24}, 64 + 1048608}, {api.Skeleton{More: math.MaxInt}, 64 + 1048608},
		{api.Skeleton{Count: 1}, 100}, {api.Skeleton{Count: 1, Out: 31}, 131}, {api.Skeleton{Count: 1, Out: 32}, 64 + 32 + 64 + 8}, {api.Skeleton{Count: 1 << 20, Out: 512}, 64 + 512 + 32*17 + 4*1048576*17},
		{api.Skeleton{Count: 1 << 24}, 96 + 67108864}, {api.Skeleton{Count: 1<<24 + 1}, 96 + 67108864}, {api.Skeleton{Count: math.MaxInt}, 96 + 67108864},
		{api.Skeleton{Data: -1, More: -513, Out: -33, Count: -1}, 96}, {api.Skeleton{Data: math.MinInt, More: math.MinInt, Out: math.MinInt, Count: math.MinInt}, 96},
		{api.Skeleton{Data: math.MaxInt, More: math.MaxInt, Out: math.MaxInt, Count: math.MaxInt}, 64 + 2*16777216 + 16777728*524289/16 + 67108864*524289},
	} {
		if got := Bound(c.s); got != c.want {
			t.Errorf("Bound of %+v: %d, want %d", c.s, got, c.want)
		}
		wantBound(t, c.s)
	}
}

func TestBoundOfNumbers(t *testing.T) { // P21.3: each two of the fields, whatever the others are
	names := []string{"Data", "More", "Out", "Count"}
	for _, base := range []api.Skeleton{{}, {Data: 5, More: 9, Out: 31, Count: 3}, {Data: -1, More: -1, Out: -1, Count: -1}, {Data: 1 << 30, More: 1 << 30, Out: 1 << 30, Count: 1 << 30}} {
		for _, one := range names {
			for _, two := range names {
				for _, n := range numbers {
					for _, m := range numbers {
						wantBound(t, with(with(base, one, n), two, m))
					}
				}
			}
		}
	}
}

func TestBoundOfEachSmallNumber(t *testing.T) { // P21.3: where each / rounds down
	for out := range 130 {
		for more := range 70 {
			wantBound(t, api.Skeleton{Out: out, More: more, Count: more % 3, Data: out % 5})
		}
	}
}

func TestBoundOfEachKind(t *testing.T) { // P21.3: fields count as they stand, used or not; Kind, Handle and Alg count for nothing
	for _, k := range allKinds() {
		s := api.Skeleton{Kind: k, Data: 3, More: 400, Out: 64, Count: 7}
		want := 64 + 3 + 64 + 912*3/16 + 28*3
		if got := Bound(s); got != want {
			t.Fatalf("kind %d: %d, want %d", k, got, want)
		}
		for i, n := range numbers {
			s.Handle, s.Alg = n, api.Alg(i)
			if got := Bound(s); got != want {
				t.Fatalf("kind %d, Handle %d, Alg %d: %d, want %d", k, n, i, got, want)
			}
		}
	}
}

func TestBoundIsNoLessOfMore(t *testing.T) { // P21.4: of two skeletons of which one is more in a field
	rising := slices.Sorted(slices.Values(numbers))
	for _, base := range []api.Skeleton{{}, {Kind: 7, Data: 31, More: 31, Out: 31, Count: 31}, {Kind: 8, Data: 1 << 24, More: 1 << 24, Out: 1 << 24, Count: 1 << 24}, fullSkeleton(2), fullSkeleton(255)} {
		for _, name := range fieldNames {
			if name == "Alg" {
				continue // A number of an algorithm is no count; TestBoundOfEachKind has it.
			}
			last := math.MinInt
			for _, n := range rising {
				now := Bound(with(base, name, n))
				if now < last {
					t.Fatalf("%+v, %s %d: %d behind %d", base, name, n, now, last)
				}
				last = now
			}
		}
	}
	for i := range 100 {
		s := api.Skeleton{Data: i, More: 3 * i, Out: 5 * i, Count: i % 4}
		for _, name := range []string{"Data", "More", "Out", "Count"} {
			if more := with(s, name, *field(&s, name)+1); Bound(more) < Bound(s) {
				t.Fatalf("%+v: one more of %s is less", s, name)
			}
		}
	}
}

func TestWhatIsHandedInStays(t *testing.T) { // rule 3: neither lists nor what lies in their spare room change
	room := random(9, 40)
	o := api.Op{Kind: api.OpHkdf, Handle: 1, Alg: 2, Count: 3, Out: 4, Data: room[:10], More: room[20:25]}
	ops := append(make([]api.Op, 0, 6), o, fullOp(1), fullOp(255))
	spare := ops[:6]
	spare[4] = fullOp(9)
	Of(o)
	All(ops)
	if !bytes.Equal(room, random(9, 40)) || !alike(ops[0], o) || !alike(ops[1], fullOp(1)) || !alike(ops[2], fullOp(255)) || !alike(spare[4], fullOp(9)) || !alike(spare[3], api.Op{}) {
		t.Error("Of or All changed what they were handed")
	}
	list := append(make([]api.Skeleton, 0, 4), fullSkeleton(7), fullSkeleton(11))
	other := slices.Clone(list)
	Same(list, other)
	Same(other, list[:1])
	if want := (api.Skeleton{}); list[0] != fullSkeleton(7) || list[1] != fullSkeleton(11) || list[:3][2] != want || !slices.Equal(list, other) {
		t.Error("Same changed what it was handed")
	}
}

func TestWhatIsToldOutlivesWhatWasHandedIn(t *testing.T) { // rule 3: nothing that was handed in is kept
	ops := several()
	got := All(ops)
	want := slices.Clone(got)
	for i := range ops {
		overwrite(ops[i].Data, 9)
	}
	overwrite(ops, fullOp(3))
	if !slices.Equal(got, want) {
		t.Error("All keeps what it was handed")
	}
}

func TestAnswersAreNew(t *testing.T) { // rule 3: written over, with their spare room, they change no other answer, and no list beside them
	for _, n := range []int{1, 2, 9, 33, 255, 1000} {
		s := api.Skeleton{Kind: api.OpHkdf, Handle: 1, Data: n, More: n + 1}
		want := api.Op{Kind: api.OpHkdf, Handle: 1, Data: bytes.Repeat([]byte{6}, n), More: bytes.Repeat([]byte{6}, n+1)}
		one, _ := Fill(s, 6)
		two, _ := Fill(s, 6)
		three, _ := Fill(s, 6)
		overwrite(one.Data, 0x99)
		overwrite(two.More, 0x99)
		if !bytes.Equal(one.More, want.More) || !bytes.Equal(two.Data, want.Data) {
			t.Fatalf("%d bytes: Data and More share memory", n)
		}
		four, _ := Fill(s, 6)
		if !alike(three, want) || !alike(four, want) {
			t.Fatalf("%d bytes: answers share memory", n)
		}
	}
	ops := several()
	one, two := All(ops), All(ops)
	want := slices.Clone(two)
	overwrite(one, fullSkeleton(77))
	if !slices.Equal(two, want) || !slices.Equal(All(ops), want) {
		t.Error("lists of skeletons share memory")
	}
}

func TestEmptyAnswersAreNew(t *testing.T) { // rule 3: what grows out of an empty list shows in no other one
	s := api.Skeleton{Kind: api.OpHkdf}
	one, _ := Fill(s, 1)
	two, _ := Fill(s, 1)
	a, b := append(one.Data, 1), append(one.More, 2)
	c, d := append(two.Data, 3), append(two.More, 4)
	if a[0] != 1 || b[0] != 2 || c[0] != 3 || d[0] != 4 {
		t.Error("empty lists share memory")
	}
	x, y := append(All(nil), fullSkeleton(1)), append(All(nil), fullSkeleton(2))
	if x[0] != fullSkeleton(1) || y[0] != fullSkeleton(2) {
		t.Error("empty lists of skeletons share memory")
	}
}

func TestSpareRoomOfAnswersTellsNothing(t *testing.T) { // rule 3: what is there is noughts, if there is any
	for _, n := range []int{0, 1, 2, 9, 33, 255, 1000} {
		o, _ := Fill(api.Skeleton{Kind: api.OpHkdf, Data: n, More: n + 1}, 255)
		for _, list := range [][]byte{o.Data, o.More} {
			for _, x := range list[len(list):cap(list)] {
				if x != 0 {
					t.Fatalf("%d bytes: the spare room has %d", n, x)
				}
			}
		}
		got := All(several()[:min(n, 600)])
		for _, s := range got[len(got):cap(got)] {
			if s != (api.Skeleton{}) {
				t.Fatalf("%d skeletons: the spare room has %+v", n, s)
			}
		}
	}
}

func TestCallsInTurn(t *testing.T) { // rule 7: what was asked before shows in no answer, refusals neither
	for _, k := range allKinds() {
		Of(fullOp(k))
		All([]api.Op{fullOp(k), fullOp(k + 1)})
		Fill(fullSkeleton(k), byte(k))
		Fill(api.Skeleton{Kind: k, Data: -1, More: 1 << 24}, 3)
		Bound(fullSkeleton(k))
		Same([]api.Skeleton{fullSkeleton(k)}, nil)
		wantOf(t, fullOp(api.OpBegin), stripped(fullSkeleton(api.OpBegin)))
		wantFill(t, fullSkeleton(api.OpHkdf), 8)
		wantBound(t, fullSkeleton(api.OpPbkdf))
	}
}

func TestCallsInGoroutines(t *testing.T) { // rule 7: each by itself, with lists that all of them read
	ops := several()
	want := All(ops)
	var group sync.WaitGroup
	for i := range 8 {
		group.Go(func() {
			for _, o := range ops {
				if s := Of(o); s != skeletonOf(o) || Bound(s) != Bound(skeletonOf(o)) {
					t.Errorf("of %d", brief(o))
					return
				}
				if f, e := Fill(skeletonOf(o), byte(i)); e != api.OK || Of(f) != skeletonOf(o) {
					t.Errorf("Fill of %d: %d", brief(o), e)
					return
				}
			}
			if !Same(All(ops), want) {
				t.Error("All")
			}
		})
	}
	group.Wait()
}

func FuzzOperation(f *testing.F) { // P1, P21.1, P21.4: whatever the operation is
	for k := range api.OpKind(12) {
		o := fullOp(k)
		f.Add(byte(o.Kind), o.Handle, byte(o.Alg), o.Count, o.Out, o.Data, o.More)
	}
	f.Add(byte(255), -1, byte(255), math.MaxInt, math.MinInt, []byte{}, []byte(nil))
	f.Fuzz(func(t *testing.T, kind byte, handle int, alg byte, count, out int, data, more []byte) {
		o := api.Op{Kind: api.OpKind(kind), Handle: handle, Alg: api.Alg(alg), Count: count, Out: out, Data: data, More: more}
		s := skeletonOf(o)
		wantOf(t, o, s)
		wantSame(t, All([]api.Op{o, o}), []api.Skeleton{s, s}, true)
		wantFill(t, s, kind^alg)
		wantBound(t, s)
	})
}

func FuzzSkeleton(f *testing.F) { // P1, P21.2 to P21.4: whatever the skeleton is
	for k := range api.OpKind(12) {
		s := fullSkeleton(k)
		f.Add(byte(s.Kind), s.Handle, byte(s.Alg), s.Count, s.Out, s.Data, s.More, byte(255))
		f.Add(byte(s.Kind), 0, byte(1), 1000, 64, -1, 1<<24, byte(0))
		f.Add(byte(s.Kind), -1, byte(255), math.MinInt, 1<<24, 1<<24, -1, byte(1))
	}
	f.Fuzz(func(t *testing.T, kind byte, handle int, alg byte, count, out, data, more int, b byte) {
		s := api.Skeleton{Kind: api.OpKind(kind), Handle: handle, Alg: api.Alg(alg), Count: count, Out: out, Data: data, More: more}
		wantFill(t, s, b)
		wantBound(t, s)
		wantSame(t, []api.Skeleton{s}, []api.Skeleton{stripped(s)}, s == stripped(s))
		for _, name := range []string{"Data", "More", "Out", "Count"} {
			if n := *field(&s, name); n < math.MaxInt && Bound(with(s, name, n+1)) < Bound(s) {
				t.Fatalf("%+v: one more of %s is less", s, name)
			}
		}
	})
}
