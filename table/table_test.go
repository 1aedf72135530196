package table

import (
	"errors"
	"iter"
	"maps"
	"math"
	"math/rand"
	"runtime"
	"slices"
	"sync"
	"testing"
	"weak"

	"turnkey/api"
)

// bounds are bounds that may be, with those at which the rules turn.
var bounds = []int{1, 2, 3, 5, 31, 32, 33, 62, 63, 64}

// noBounds are bounds that may not be.
var noBounds = []int{0, -1, -2, -63, -64, -65, 65, 66, 127, 128, 129, 256, 1024, 1 << 32, 1<<32 + 1, -1 << 32, 1 - 1<<32, math.MaxInt32, math.MinInt32, math.MaxInt - 1, math.MaxInt, math.MinInt + 1, math.MinInt}

// noNumbers are numbers that no table ever holds.
var noNumbers = []int{-1, -2, -63, -64, -65, 64, 65, 66, 127, 128, 256, 1 << 32, 1<<32 + 1, -1 << 32, 1 - 1<<32, math.MaxInt32, math.MinInt32, math.MaxInt - 1, math.MaxInt, math.MinInt + 1, math.MinInt}

// entry is a number with what it stands for.
type entry[T any] struct {
	number int
	thing  T
}

// entries makes a list of what is gone over.
func entries[T any](all iter.Seq2[int, T]) []entry[T] {
	var list []entry[T]
	for h, v := range all {
		list = append(list, entry[T]{h, v})
	}
	return list
}

// plain is what a table must be: its bound, and what its numbers stand for.
type plain[T comparable] struct {
	most int
	has  map[int]T
}

// entries lists what is held, rising.
func (p plain[T]) entries() []entry[T] {
	var list []entry[T]
	for _, h := range slices.Sorted(maps.Keys(p.has)) {
		list = append(list, entry[T]{h, p.has[h]})
	}
	return list
}

// free is the least number that is not held.
func (p plain[T]) free() int {
	for h := 0; ; h++ {
		if _, held := p.has[h]; !held {
			return h
		}
	}
}

// both is a table beside what it must be: each call is made of both, and the answers are held against each other.
type both[T comparable] struct {
	*testing.T
	table *Table[T]
	plain plain[T]
}

// made makes an empty table.
func made[T comparable](t *testing.T, most int) both[T] {
	t.Helper()
	x, e := New[T](most)
	if e != api.OK || x == nil {
		t.Fatalf("New of %d: %v, %d", most, x, e)
	}
	b := both[T]{t, x, plain[T]{most, map[int]T{}}}
	b.look()
	return b
}

// filled makes a full table, with the things that a function gives to the numbers.
func filled[T comparable](t *testing.T, most int, thing func(int) T) both[T] {
	t.Helper()
	b := made[T](t, most)
	for h := range most {
		b.plain.has[h] = thing(h)
		if got, e := b.table.Add(b.plain.has[h]); got != h || e != api.OK {
			t.Fatalf("of at most %d: Add: %d, %d, want %d", most, got, e, h)
		}
	}
	b.look()
	return b
}

// tens is the thing of a number: no two are alike, and none is a number that is held.
func tens(h int) int { return 1000 + 10*h }

// add adds a thing.
func (b both[T]) add(v T) {
	b.Helper()
	h, e := b.table.Add(v)
	want, code := b.plain.free(), api.OK
	if len(b.plain.has) == b.plain.most {
		want, code = 0, api.ErrFull
	} else {
		b.plain.has[want] = v
	}
	if h != want || e != code {
		b.Fatalf("of at most %d: Add: %d, %d, want %d, %d", b.plain.most, h, e, want, code)
	}
	b.look()
}

// set has a number stand for a thing.
func (b both[T]) set(h int, v T) {
	b.Helper()
	code := api.ErrHandle
	if _, held := b.plain.has[h]; held {
		code = api.OK
		b.plain.has[h] = v
	}
	if e := b.table.Set(h, v); e != code {
		b.Fatalf("of at most %d: Set of %d: %d, want %d", b.plain.most, h, e, code)
	}
	b.look()
}

// drop takes a number back.
func (b both[T]) drop(h int) {
	b.Helper()
	want, held := b.plain.has[h]
	code := api.ErrHandle
	if held {
		code = api.OK
		delete(b.plain.has, h)
	}
	if v, e := b.table.Drop(h); v != want || e != code {
		b.Fatalf("of at most %d: Drop of %d: %v, %d, want %v, %d", b.plain.most, h, v, e, want, code)
	}
	b.look()
}

// get looks a number up.
func (b both[T]) get(h int) {
	b.Helper()
	want, held := b.plain.has[h]
	code := api.ErrHandle
	if held {
		code = api.OK
	}
	if v, e := b.table.Get(h); v != want || e != code {
		b.Fatalf("of at most %d: Get of %d: %v, %d, want %v, %d", b.plain.most, h, v, e, want, code)
	}
}

// look holds all that a table tells against what it must tell.
func (b both[T]) look() {
	b.Helper()
	p := b.plain
	if n := b.table.Len(); n != len(p.has) {
		b.Fatalf("of at most %d: Len is %d, want %d", p.most, n, len(p.has))
	}
	if full := b.table.Full(); full != (len(p.has) == p.most) {
		b.Fatalf("of at most %d: Full is %v with %d", p.most, full, len(p.has))
	}
	for h := range api.MaxHandles {
		b.get(h)
	}
	for _, h := range noNumbers {
		b.get(h)
	}
	wantAll(b.T, "the table's All", b.table.All(), p.entries())
}

// wantAll holds an iterator against what it must go over, twice.
func wantAll[T comparable](t *testing.T, what string, all iter.Seq2[int, T], want []entry[T]) {
	t.Helper()
	if all == nil {
		t.Fatalf("%s: All is nil", what)
	}
	for range 2 {
		if got := entries(all); !slices.Equal(got, want) {
			t.Fatalf("%s: All goes over %v, want %v", what, got, want)
		}
	}
}

// wantNone holds every call of a table that is none against rule 4.
func wantNone[T comparable](t *testing.T, what string, x *Table[T], v T) {
	t.Helper()
	var zero T
	for range 2 {
		if h, e := x.Add(v); h != 0 || e != api.ErrNil {
			t.Errorf("%s: Add: %d, %d", what, h, e)
		}
		for _, h := range slices.Concat([]int{0, 1, 2, 62, 63}, noNumbers) {
			if got, e := x.Get(h); got != zero || e != api.ErrNil {
				t.Errorf("%s: Get of %d: %v, %d", what, h, got, e)
			}
			if e := x.Set(h, v); e != api.ErrNil {
				t.Errorf("%s: Set of %d: %d", what, h, e)
			}
			if got, e := x.Drop(h); got != zero || e != api.ErrNil {
				t.Errorf("%s: Drop of %d: %v, %d", what, h, got, e)
			}
		}
		if n := x.Len(); n != 0 {
			t.Errorf("%s: Len is %d", what, n)
		}
		if x.Full() {
			t.Errorf("%s: it is full", what)
		}
		wantAll(t, what, x.All(), nil)
	}
}

func TestExamples(t *testing.T) { // the chapter's
	x, e := New[string](2)
	if e != api.OK {
		t.Fatal("New(2):", e)
	}
	wantAdd := func(v string, want int, code api.Errno) {
		t.Helper()
		if h, e := x.Add(v); h != want || e != code {
			t.Errorf("Add of %s: %d, %d", v, h, e)
		}
	}
	wantThing := func(what string, v string, e api.Errno, want string, code api.Errno) {
		t.Helper()
		if v != want || e != code {
			t.Errorf("%s: %q, %d", what, v, e)
		}
	}
	wantAdd("a", 0, api.OK)
	wantAdd("b", 1, api.OK)
	wantAdd("c", 0, api.ErrFull)
	if !x.Full() {
		t.Error("it is not full")
	}
	v, e := x.Drop(0)
	wantThing("Drop", v, e, "a", api.OK)
	v, e = x.Drop(0)
	wantThing("Drop again", v, e, "", api.ErrHandle)
	v, e = x.Get(0)
	wantThing("Get behind Drop", v, e, "", api.ErrHandle)
	wantAdd("d", 0, api.OK)
	v, e = x.Get(0)
	wantThing("Get behind Add", v, e, "d", api.OK)
	if e := x.Set(1, "e"); e != api.OK {
		t.Error("Set of 1:", e)
	}
	if e := x.Set(2, "e"); e != api.ErrHandle {
		t.Error("Set of 2:", e)
	}
	v, e = x.Get(-1)
	wantThing("Get of -1", v, e, "", api.ErrHandle)
	wantAll(t, "at the end", x.All(), []entry[string]{{0, "d"}, {1, "e"}})
	for _, most := range []int{0, 65} {
		if x, e := New[string](most); x != nil || e != api.ErrArg {
			t.Errorf("New of %d: %v, %d", most, x, e)
		}
	}
}

func TestNew(t *testing.T) { // P19.1: made itself looks at the empty table
	for most := 1; most <= 64; most++ {
		b := made[int](t, most)
		for h := range most {
			b.set(h, 7)
			b.drop(h)
		}
	}
}

func TestBoundsThatMayNotBe(t *testing.T) { // P19.1, rule 2
	for _, most := range noBounds {
		if x, e := New[int](most); x != nil || e != api.ErrArg {
			t.Errorf("New of %d: %v, %d", most, x, e)
		}
		if x, e := New[struct{}](most); x != nil || e != api.ErrArg {
			t.Errorf("New of %d, of things without bytes: %v, %d", most, x, e)
		}
		if x, e := New[*int](most); x != nil || e != api.ErrArg {
			t.Errorf("New of %d, of pointers: %v, %d", most, x, e)
		}
	}
}

func TestAddUntilItIsFull(t *testing.T) { // P19.2, P19.4: and further, at each bound that may be
	for most := 1; most <= 64; most++ {
		b := made[int](t, most)
		for h := range most {
			b.add(tens(h))
		}
		if !b.table.Full() || b.table.Len() != most {
			t.Errorf("%d things of at most %d", b.table.Len(), most)
		}
		for i := range 3 {
			b.add(i)
		}
		if want := entries(filled(t, most, tens).table.All()); !slices.Equal(entries(b.table.All()), want) {
			t.Errorf("of at most %d: what was refused has changed something", most)
		}
	}
}

func TestAddBehindOneDrop(t *testing.T) { // P19.2, P19.5: of the first, of each in the midst, of the last
	for _, most := range bounds {
		for h := range most {
			b := filled(t, most, tens)
			b.drop(h)
			if b.table.Full() {
				t.Fatalf("of at most %d: full behind Drop of %d", most, h)
			}
			b.add(7)
			b.add(8)
			if v, e := b.table.Get(h); v != 7 || e != api.OK {
				t.Fatalf("of at most %d: the number %d stands for %d, %d", most, h, v, e)
			}
		}
	}
}

func TestAddBehindTwoDrops(t *testing.T) { // P19.2, P19.5: the lesser one comes first, whichever was dropped first
	for _, most := range []int{2, 3, 5, 63, 64} {
		for h := range most {
			for k := range most {
				b := filled(t, most, tens)
				b.drop(h)
				b.drop(k)
				first, e := b.table.Add(7)
				if first != min(h, k) || e != api.OK {
					t.Fatalf("of at most %d: behind Drop of %d and %d Add gives %d, %d", most, h, k, first, e)
				}
				b.plain.has[first] = 7
				b.add(8)
				b.add(9)
			}
		}
	}
}

func TestAddBehindManyDrops(t *testing.T) { // P19.2, P19.5: the free ones are given out in their order
	r := rand.New(rand.NewSource(190))
	for _, most := range bounds {
		for n := range most + 1 {
			b := filled(t, most, tens)
			gone := r.Perm(most)[:n]
			for _, h := range gone {
				b.drop(h)
			}
			slices.Sort(gone)
			for i, want := range gone {
				h, e := b.table.Add(i)
				if h != want || e != api.OK {
					t.Fatalf("of at most %d, behind Drop of %v: Add gives %d, %d, want %d", most, gone, h, e, want)
				}
				b.plain.has[h] = i
			}
			b.add(7)
		}
	}
}

func TestAddBetweenDrops(t *testing.T) { // P19.5: a lesser number that is dropped later is given out ahead of a greater one that was dropped earlier
	b := filled(t, 5, tens)
	b.drop(3)
	b.drop(1)
	b.add(7) // 1
	b.drop(0)
	b.drop(4)
	b.add(8) // 0
	b.add(9) // 3
	b.add(10)
	b.add(11)
	want := []entry[int]{{0, 8}, {1, 7}, {2, 1020}, {3, 9}, {4, 10}}
	wantAll(t, "behind all", b.table.All(), want)
}

func TestAddWhileItIsNotFull(t *testing.T) { // P19.2, P19.5: a gap is filled although there is room behind the last one
	b := made[int](t, 64)
	for h := range 10 {
		b.add(tens(h))
	}
	b.drop(4)
	b.drop(9)
	b.add(7)
	b.add(8)
	b.add(9)
	wantAll(t, "behind all", b.table.All(), []entry[int]{{0, 1000}, {1, 1010}, {2, 1020}, {3, 1030}, {4, 7}, {5, 1050}, {6, 1060}, {7, 1070}, {8, 1080}, {9, 8}, {10, 9}})
}

func TestEmptiedAndFilledAgain(t *testing.T) { // P19.2, P19.3, P19.5: from both ends
	for _, most := range bounds {
		b := filled(t, most, tens)
		for h := range most {
			b.drop(h)
		}
		for i := range most + 1 {
			b.add(-i)
		}
		for h := most - 1; h >= 0; h-- {
			b.drop(h)
		}
		for i := range most + 1 {
			b.add(i)
		}
	}
}

func TestNumbersThatAreNotHeld(t *testing.T) { // P19.3, rule 2: of empty, partly filled and full tables, below and beyond the bound
	for _, most := range bounds {
		for n := range most + 1 {
			b := made[int](t, most)
			for h := range n {
				b.add(tens(h))
			}
			numbers := slices.Concat([]int{n, most - 1, most, most + 1, 62, 63}, noNumbers)
			for _, h := range numbers {
				if h >= 0 && h < n {
					continue
				}
				if e := b.table.Set(h, 7); e != api.ErrHandle {
					t.Fatalf("%d of at most %d: Set of %d: %d", n, most, h, e)
				}
				if v, e := b.table.Drop(h); v != 0 || e != api.ErrHandle {
					t.Fatalf("%d of at most %d: Drop of %d: %d, %d", n, most, h, v, e)
				}
				if v, e := b.table.Get(h); v != 0 || e != api.ErrHandle {
					t.Fatalf("%d of at most %d: Get of %d: %d, %d", n, most, h, v, e)
				}
			}
			b.look()
			b.add(7)
		}
	}
}

func TestSet(t *testing.T) { // P19.3: of each number, and of no other one
	for _, most := range bounds {
		b := filled(t, most, tens)
		for h := range most {
			b.set(h, -h)
			b.set(h, tens(h)+1)
			b.set(h, 0)
		}
		for h := range most + 2 {
			b.set(h, tens(h)+2)
		}
		b.add(7)
		b.drop(most - 1)
		b.set(most-1, 8)
		b.add(9)
	}
}

func TestDropTwice(t *testing.T) { // P19.3: the second one is refused; behind Add it may be dropped again
	for _, most := range bounds {
		for h := range most {
			b := filled(t, most, tens)
			b.drop(h)
			b.drop(h)
			b.drop(h)
			b.set(h, 7)
			b.get(h)
			b.add(8)
			b.drop(h)
			b.drop(h)
		}
	}
}

func TestThingsThatLookLikeNone(t *testing.T) { // P19.2, P19.3: a zero value is a thing, too
	b := filled(t, 3, func(int) int { return 0 })
	b.add(0)
	b.set(1, 5)
	b.set(1, 0)
	b.drop(1)
	b.drop(1)
	b.add(0)
	texts := filled(t, 3, func(int) string { return "" })
	texts.drop(0)
	texts.add("")
	texts.drop(2)
	pointers := filled(t, 3, func(int) *int { return nil })
	pointers.drop(1)
	pointers.add(nil)
	pointers.drop(0)
	mixed := filled(t, 3, func(int) any { return nil })
	mixed.add(nil)
	mixed.drop(2)
	mixed.set(0, nil)
	mixed.drop(0)
	mixed.add(nil)
}

func TestThingsThatAreAlike(t *testing.T) { // P19.5: numbers are told apart, not things
	b := filled(t, 64, func(int) string { return "the same" })
	b.drop(40)
	b.drop(3)
	b.set(7, "another one")
	b.add("the same")
	b.drop(7)
	b.add("the same")
	b.add("the same")
	b.add("the same")
}

func TestAllOfAnEmptyTable(t *testing.T) { // P19.4
	for _, most := range bounds {
		b := made[int](t, most)
		wantAll(t, "new", b.table.All(), nil)
		b.add(7)
		b.drop(0)
		wantAll(t, "emptied", b.table.All(), nil)
	}
}

func TestAllWithGaps(t *testing.T) { // P19.4: rising, whatever was dropped, and in whatever order it was added
	for mask := range 1 << 7 {
		b := filled(t, 7, tens)
		for h := range 7 {
			if mask>>h&1 == 0 {
				b.drop(h)
			}
		}
	}
	for _, step := range []int{2, 3, 63} {
		b := filled(t, 64, tens)
		var want []entry[int]
		for h := range 64 {
			if h%step == 0 {
				want = append(want, entry[int]{h, tens(h)})
			} else {
				b.drop(h)
			}
		}
		wantAll(t, "with gaps", b.table.All(), want)
	}
}

func TestAllLeftBeforeItsEnd(t *testing.T) { // P19.4, rule 6: nothing is told behind the stop; and it may be gone over again
	for _, most := range bounds {
		b := filled(t, most, tens)
		b.drop(most / 2)
		want := b.plain.entries()
		all := b.table.All()
		for stop := range want {
			told := 0
			all(func(h, v int) bool {
				if told > stop || want[told] != (entry[int]{h, v}) {
					t.Fatalf("of at most %d: behind %d numbers %d is told, and a stop was asked for behind %d", most, told, h, stop+1)
				}
				told++
				return told <= stop
			})
			if told != stop+1 {
				t.Fatalf("of at most %d: %d are told, want %d", most, told, stop+1)
			}
		}
		wantAll(t, "behind stops", all, want)
		b.look()
	}
}

func TestAllIsAsAtTheCall(t *testing.T) { // P19.4, rules 3, 6: what is changed behind the call shows nowhere
	for _, most := range bounds {
		b := filled(t, most, tens)
		b.drop(most / 2)
		want, all := b.plain.entries(), b.table.All()
		b.add(7)
		wantAll(t, "behind Add", all, want)
		b.set(0, 8)
		b.set(most-1, 9)
		wantAll(t, "behind Set", all, want)
		for h := range most {
			b.drop(h)
		}
		wantAll(t, "behind Drop of all", all, want)
		for h := range most {
			b.add(-h)
		}
		wantAll(t, "filled again", all, want)
		wantAll(t, "a new one", b.table.All(), b.plain.entries())
	}
	b := made[int](t, 3)
	all := b.table.All()
	b.add(7)
	wantAll(t, "of an empty one, behind Add", all, nil)
}

func TestChangedWhileAllGoesOverIt(t *testing.T) { // P19.4, rule 6: each change, at each place
	changes := []func(both[int], int){
		func(b both[int], h int) { b.drop(h) },
		func(b both[int], h int) { b.drop(h + 1) },
		func(b both[int], h int) { b.drop(b.plain.most - 1) },
		func(b both[int], h int) { b.set(h, -1) },
		func(b both[int], h int) { b.set(h+1, -2) },
		func(b both[int], h int) { b.add(-3) },
		func(b both[int], h int) {
			for k := range b.plain.most {
				b.drop(k)
			}
		},
		func(b both[int], h int) { b.drop(h + 1); b.add(-4) },
	}
	for _, most := range []int{1, 2, 3, 7, 64} {
		for i, change := range changes {
			for gap := range min(most, 4) {
				b := filled(t, most, tens)
				b.drop(gap)
				want := b.plain.entries()
				all := b.table.All()
				var got []entry[int]
				for h, v := range all {
					got = append(got, entry[int]{h, v})
					change(b, h)
				}
				if !slices.Equal(got, want) {
					t.Fatalf("of at most %d, change %d: gone over %v, want %v", most, i, got, want)
				}
				wantAll(t, "again", all, want)
				b.look()
			}
		}
	}
}

func TestAllInAll(t *testing.T) { // rule 6: one iterator gone over inside itself, and by halves
	b := filled(t, 5, tens)
	b.drop(2)
	want, all := b.plain.entries(), b.table.All()
	var got []entry[int]
	for h, v := range all {
		got = append(got, entry[int]{h, v})
		wantAll(t, "inside itself", all, want)
	}
	if !slices.Equal(got, want) {
		t.Errorf("gone over %v, want %v", got, want)
	}
	one, stopOne := iter.Pull2(all)
	two, stopTwo := iter.Pull2(all)
	defer stopOne()
	defer stopTwo()
	for _, w := range want {
		h, v, ok := one()
		k, x, more := two()
		if !ok || !more || (entry[int]{h, v}) != w || (entry[int]{k, x}) != w {
			t.Errorf("by turns: %d %d, %d %d, want %v", h, v, k, x, w)
		}
	}
	if _, _, ok := one(); ok {
		t.Error("something behind the last one")
	}
}

func TestTablesThatAreNone(t *testing.T) { // rule 4, P19.4
	wantNone(t, "nil", nil, 7)
	wantNone(t, "new", new(Table[int]), 7)
	wantNone(t, "zero", &Table[string]{}, "a")
	var x Table[struct{}]
	wantNone(t, "a variable, of things without bytes", &x, struct{}{})
	var many [3]Table[any]
	wantNone(t, "one of many", &many[1], nil)
	wantNone(t, "nil, of pointers", (*Table[*int])(nil), new(int))
	refused, _ := New[float64](65)
	wantNone(t, "what New answers with an error", refused, 1.5)
}

func TestFullOfWhatIsNotMade(t *testing.T) { // P19.4: it holds as many as it may hold, none, and is not full
	if new(Table[int]).Full() || (*Table[int])(nil).Full() {
		t.Error("it is full")
	}
}

func TestThingsAreHandedOnAsGoAssigns(t *testing.T) { // Types: pointers and slices share, arrays and structs do not
	x, _ := New[[]byte](2)
	list := []byte{1, 2, 3}
	h, _ := x.Add(list)
	list[0] = 9
	got, _ := x.Get(h)
	got[1] = 8
	all := x.All()
	list[2] = 7
	for _, v := range all {
		if !slices.Equal(v, []byte{9, 8, 7}) || &v[0] != &list[0] {
			t.Error("of a list All tells", v)
		}
	}
	if v, _ := x.Drop(h); &v[0] != &list[0] || cap(v) != cap(list) {
		t.Error("the list that is dropped is another one")
	}
	y, _ := New[[3]int](2)
	array := [3]int{1, 2, 3}
	h, _ = y.Add(array)
	array[0] = 9
	if v, _ := y.Get(h); v != [3]int{1, 2, 3} {
		t.Error("an array that was changed behind Add:", v)
	}
	y.Set(h, array)
	array[0] = 10
	v, _ := y.Get(h)
	v[1] = 11
	for _, v := range y.All() {
		v[2] = 12
	}
	if v, _ := y.Drop(h); v != [3]int{9, 2, 3} {
		t.Error("an array that was changed behind Set, Get and All:", v)
	}
}

func TestThingsOfOneVariable(t *testing.T) { // P19.5: each number stands for what was added, not for what the variable has later
	x, _ := New[entry[int]](64)
	var v entry[int]
	for v.number = range 64 {
		v.thing = tens(v.number)
		x.Add(v)
	}
	for h, v := range x.All() {
		if v != (entry[int]{h, tens(h)}) {
			t.Errorf("the number %d stands for %v", h, v)
		}
	}
}

func TestThingsOfManyTypes(t *testing.T) { // P19.1 to P19.5, whatever T is
	type pair struct {
		text string
		list [2]int
	}
	goThrough(t, 0, 1, 2)
	goThrough(t, "", "b", "c")
	goThrough(t, false, true, false)
	goThrough(t, byte(0), 255, 128)
	goThrough(t, math.Inf(1), 1.5, 0.0)
	goThrough(t, 1i, 2, complex(0, -1))
	goThrough(t, struct{}{}, struct{}{}, struct{}{})
	goThrough(t, pair{}, pair{"b", [2]int{1, 2}}, pair{"c", [2]int{3, 4}})
	goThrough(t, [2]string{}, [2]string{"a", ""}, [2]string{"", "b"})
	goThrough(t, new(int), nil, new(int))
	goThrough[any](t, nil, 1, "c")
	goThrough[error](t, nil, api.ErrFull, errors.New("another one"))
	goThrough(t, make(chan int), nil, make(chan int))
	goThrough(t, new(Table[int]), nil, new(Table[int]))
	goThrough(t, [1 << 12]int{5}, [1 << 12]int{4095: 6}, [1 << 12]int{})
}

// goThrough makes each call of tables of a type.
func goThrough[T comparable](t *testing.T, a, b, c T) {
	t.Helper()
	var zero T
	wantNone(t, "zero", new(Table[T]), a)
	wantNone(t, "nil", nil, c)
	for _, most := range []int{1, 2, 3, 64} {
		x := made[T](t, most)
		x.add(a)
		x.add(b)
		x.add(c)
		x.add(zero)
		x.set(0, c)
		x.set(1, a)
		x.drop(0)
		x.drop(0)
		x.add(b)
		x.set(most, b)
		x.drop(most)
	}
}

func TestFunctionsAndListsAsThings(t *testing.T) { // P19.2 to P19.4: what can't be compared is held likewise
	x, _ := New[func() int](2)
	x.Add(func() int { return 7 })
	x.Add(nil)
	if f, e := x.Get(0); e != api.OK || f() != 7 {
		t.Error("a function")
	}
	if f, e := x.Get(1); e != api.OK || f != nil || !x.Full() {
		t.Error("no function, as a thing")
	}
	if _, e := x.Add(nil); e != api.ErrFull {
		t.Error("one too many:", e)
	}
	y, _ := New[map[string]int](1)
	y.Add(map[string]int{"a": 1})
	if m, e := y.Drop(0); e != api.OK || m["a"] != 1 {
		t.Error("a map")
	}
	if m, e := y.Get(0); e != api.ErrHandle || m != nil {
		t.Error("no map")
	}
}

func TestThingsThatAreNotThemselves(t *testing.T) { // P19.5: NaN is found, too
	x, _ := New[float64](2)
	x.Add(math.NaN())
	x.Add(1)
	if v, e := x.Get(0); e != api.OK || !math.IsNaN(v) {
		t.Error("Get:", v, e)
	}
	if v, e := x.Drop(0); e != api.OK || !math.IsNaN(v) || x.Len() != 1 {
		t.Error("Drop:", v, e)
	}
}

func TestTablesOfTables(t *testing.T) { // P19.5, rule 7: a table may be another one's thing
	x, _ := New[*Table[int]](64)
	for i := range 64 {
		y, _ := New[int](i + 1)
		y.Add(i)
		x.Add(y)
	}
	for h, y := range x.All() {
		if v, e := y.Get(0); v != h || e != api.OK || y.Len() != 1 || y.Full() != (h == 0) {
			t.Errorf("the table under %d: %d, %d", h, v, e)
		}
	}
}

func TestSideBySide(t *testing.T) { // rule 7: what one is told changes no other one
	one, two, three := made[int](t, 3), made[int](t, 3), made[int](t, 2)
	tables := []both[int]{one, two, three}
	looks := func() {
		t.Helper()
		for _, b := range tables {
			b.look()
		}
	}
	for i := range 4 {
		for k, b := range tables {
			b.add(100*k + i)
			looks()
		}
	}
	all := one.table.All()
	was := one.plain.entries()
	two.drop(0)
	looks()
	one.set(1, 7)
	looks()
	three.drop(1)
	looks()
	two.add(8)
	looks()
	one.drop(2)
	one.drop(0)
	looks()
	two.set(2, 9)
	three.add(10)
	looks()
	wantAll(t, "beside others", all, was)
}

func TestWhatIsGoneIsNotKept(t *testing.T) { // LANGUAGE.md, 8: neither what was dropped nor what was set over
	type big struct{ bytes [1 << 16]byte }
	x, _ := New[*big](3)
	add := func() weak.Pointer[big] {
		v := new(big)
		x.Add(v)
		return weak.Make(v)
	}
	dropped, replaced, stays := add(), add(), add()
	x.Drop(0)
	x.Set(1, nil)
	runtime.GC()
	if dropped.Value() != nil {
		t.Error("what was dropped is kept")
	}
	if replaced.Value() != nil {
		t.Error("what was set over is kept")
	}
	if stays.Value() == nil {
		t.Error("what is held is not kept")
	}
	runtime.KeepAlive(x)
}

func TestTablesInGoroutines(t *testing.T) { // rule 7: each by itself; and one iterator that all of them go over
	shared := filled(t, 64, tens)
	all, want := shared.table.All(), shared.plain.entries()
	var wait sync.WaitGroup
	for i := range 8 {
		wait.Go(func() {
			x, e := New[int](64)
			for round := range 50 {
				for h := range 64 {
					if got, e := x.Add(1000*i + h); got != h || e != api.OK {
						t.Errorf("goroutine %d, round %d: Add: %d, %d", i, round, got, e)
					}
				}
				if !slices.Equal(entries(all), want) {
					t.Errorf("goroutine %d: the iterator of all", i)
				}
				for h := range 64 {
					if v, e := x.Drop(h); v != 1000*i+h || e != api.OK {
						t.Errorf("goroutine %d, round %d: Drop: %d, %d", i, round, v, e)
					}
				}
			}
			if e != api.OK || x.Len() != 0 {
				t.Errorf("goroutine %d: %d are left", i, x.Len())
			}
		})
	}
	// The table itself goes on while others go over what it was.
	for h := range 64 {
		shared.table.Set(h, -h)
		shared.table.Drop(h)
	}
	wait.Wait()
}

func TestManySteps(t *testing.T) { // P19.2 to P19.5: against a plain map, in all states that come
	for _, most := range bounds {
		r := rand.New(rand.NewSource(int64(most)))
		b := made[int](t, most)
		for step := range 1500 {
			h := r.Intn(most+4) - 2
			// Adding and dropping take turns in the majority, so that the table becomes full and empty.
			switch kind := r.Intn(6); {
			case kind == 0:
				b.set(h, step)
			case kind < 5 == (step/200%2 == 0):
				b.add(step)
			default:
				b.drop(h)
			}
		}
	}
}

func FuzzAsPlain(f *testing.F) { // P1, P19.1 to P19.5: against a plain map
	f.Add(2, []byte{0, 0, 0, 2, 2, 0, 5}, 0)
	f.Add(64, []byte{0, 3, 6, 1, 4, 2, 5, 8}, math.MaxInt)
	f.Add(1, []byte{0, 1, 2, 0}, math.MinInt)
	f.Add(0, []byte{0}, -1)
	f.Add(65, []byte{2}, 64)
	f.Fuzz(func(t *testing.T, most int, steps []byte, far int) {
		if most < 1 || most > 64 {
			if x, e := New[int](most); x != nil || e != api.ErrArg {
				t.Fatalf("New of %d: %v, %d", most, x, e)
			}
			return
		}
		b := made[int](t, most)
		for i, step := range steps[:min(len(steps), 300)] {
			h := int(step/3) - 2
			if step > 240 {
				h = far
			}
			switch all, was := b.table.All(), b.plain.entries(); step % 3 {
			case 0:
				b.add(i)
				wantAll(t, "behind Add", all, was)
			case 1:
				b.set(h, i)
				wantAll(t, "behind Set", all, was)
			default:
				b.drop(h)
				wantAll(t, "behind Drop", all, was)
			}
		}
	})
}
