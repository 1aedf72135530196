package cost_test

import (
	"math"
	"math/rand"
	"slices"
	"sync"
	"testing"

	"turnkey/api"
	"turnkey/cost"
	"turnkey/ledger"
	"turnkey/skel"
)

// algs are all seven algorithms.
func algs() []api.Alg { return []api.Alg{1, 2, 3, 4, 5, 6, 7} }

// hmacs are those with which keys are derived, too.
func hmacs() []api.Alg { return []api.Alg{api.AlgHmac256, api.AlgHmac512} }

// kmacs are those that may have a customization.
func kmacs() []api.Alg {
	return []api.Alg{api.AlgKmac128, api.AlgKmac256, api.AlgKmacX128, api.AlgKmacX256}
}

// noAlgs are numbers that are no algorithm.
func noAlgs() []api.Alg { return []api.Alg{0, 8, 9, 77, 128, 254, 255} }

// noHandles are numbers that are no handle.
func noHandles() []int {
	return []int{-1, -2, -64, 64, 65, 128, 1 << 8, 1 << 32, 1<<32 + 1, -1 << 32, math.MinInt, math.MinInt + 1, math.MaxInt - 1, math.MaxInt}
}

// far are numbers far below and far above all that may be.
func far() []int {
	return []int{math.MinInt, math.MinInt + 1, -1 << 32, -65536, -1, 1<<24 + 1, 1 << 31, 1<<32 + 16, 1 << 62, math.MaxInt - 1, math.MaxInt}
}

// most is how many bytes an algorithm's tag has at most.
func most(a api.Alg) int {
	switch a {
	case api.AlgHmac256:
		return 32
	case api.AlgCmac:
		return 16
	}
	return 64
}

// block is how many bytes of a message an algorithm works on at once.
func block(a api.Alg) int {
	return []int{0, 64, 128, 16, 168, 136, 168, 136}[a]
}

// isKmac tells whether an algorithm may have a customization.
func isKmac(a api.Alg) bool { return slices.Contains(kmacs(), a) }

// run is a run of an event.
func run(k api.EventKind, size, n int) api.Run {
	return api.Run{Event: api.Event{Kind: k, Size: size}, Count: n}
}

// The runs of the events that an operation may record, by the events' numbers.
func sha256s(n int) api.Run    { return run(1, 64, n) }
func sha512s(n int) api.Run    { return run(2, 128, n) }
func keccaks(n int) api.Run    { return run(3, 200, n) }
func schedule(key int) api.Run { return run(4, key, 1) }
func blocks(key, n int) api.Run {
	return run(5, key, n)
}
func compare(n int) api.Run { return run(6, n, 1) }
func wipe() api.Run         { return run(8, 1024, 1) }

// worked is a run of what an algorithm's session records of a message (of CMAC with a key of 16 bytes).
func worked(a api.Alg, n int) api.Run {
	switch a {
	case api.AlgHmac256:
		return sha256s(n)
	case api.AlgHmac512:
		return sha512s(n)
	case api.AlgCmac:
		return blocks(16, n)
	}
	return keccaks(n)
}

// row is what an operation records: EvOp, what is between, EvCode. A run of no events is left out.
func row(k api.OpKind, code api.Errno, between ...api.Run) []api.Run {
	l := []api.Run{run(11, int(k), 1)}
	for _, r := range between {
		if r.Count > 0 {
			l = append(l, r)
		}
	}
	return append(l, run(12, int(code), 1))
}

// Skeletons of operations, with the fields that their kinds use.
func put(n int) api.Skeleton { return api.Skeleton{Kind: api.OpPut, Data: n} }
func begin(h int, a api.Alg, custom, out int) api.Skeleton {
	return api.Skeleton{Kind: api.OpBegin, Handle: h, Alg: a, Data: custom, Out: out}
}
func update(h, n int) api.Skeleton { return api.Skeleton{Kind: api.OpUpdate, Handle: h, Data: n} }
func finish(h int) api.Skeleton    { return api.Skeleton{Kind: api.OpFinish, Handle: h} }
func verify(h, n int) api.Skeleton { return api.Skeleton{Kind: api.OpVerify, Handle: h, Data: n} }
func clone(h int) api.Skeleton     { return api.Skeleton{Kind: api.OpClone, Handle: h} }
func derive(h int, a api.Alg, salt, info, out int) api.Skeleton {
	return api.Skeleton{Kind: api.OpHkdf, Handle: h, Alg: a, Data: salt, More: info, Out: out}
}
func stretch(h int, a api.Alg, salt, count, out int) api.Skeleton {
	return api.Skeleton{Kind: api.OpPbkdf, Handle: h, Alg: a, Data: salt, Count: count, Out: out}
}
func reveal(h int) api.Skeleton { return api.Skeleton{Kind: api.OpReveal, Handle: h} }
func drop(h int) api.Skeleton   { return api.Skeleton{Kind: api.OpDrop, Handle: h} }

// upTo are the numbers from 0 to n - 1.
func upTo(n int) []int {
	var l []int
	for i := range n {
		l = append(l, i)
	}
	return l
}

// wantShape wants what each row must be, whatever the operation is (P22.5): a ledger's runs, EvOp ahead, EvCode behind, no more than the bound.
func wantShape(t *testing.T, s api.Skeleton, runs []api.Run, code api.Errno) {
	t.Helper()
	n := len(runs)
	if ledger.Check(runs) != api.OK || n < 2 || runs[0] != run(11, int(s.Kind), 1) || runs[n-1] != run(12, int(code), 1) {
		t.Fatalf("%+v: %v, %d", s, runs, code)
	}
	if code != api.OK && n != 2 {
		t.Fatalf("%+v: refused, %d, and %v", s, code, runs)
	}
	if ledger.Total(runs) > skel.Bound(s) {
		t.Fatalf("%+v: %v are more than %d", s, runs, skel.Bound(s))
	}
}

// wantDo wants Do to tell a code, and the runs between EvOp and EvCode.
func wantDo(t *testing.T, p *cost.Public, s api.Skeleton, code api.Errno, between ...api.Run) {
	t.Helper()
	held := p.Held()
	runs, e := p.Do(s)
	if want := row(s.Kind, code, between...); e != code || !ledger.Same(runs, want) {
		t.Fatalf("%+v: %v, %d, want %v, %d", s, runs, e, want, code)
	}
	wantShape(t, s, runs, e)
	if e != api.OK {
		wantHeld(t, p, held)
	}
}

// wantHeld wants some handles to be held.
func wantHeld(t *testing.T, p *cost.Public, want []int) {
	t.Helper()
	if got := p.Held(); !slices.Equal(got, want) {
		t.Fatalf("held are %v, want %v", got, want)
	}
}

// behind is what is public behind some operations, all of which must be done.
func behind(t *testing.T, l ...api.Skeleton) *cost.Public {
	t.Helper()
	p := cost.New()
	for _, s := range l {
		if runs, e := p.Do(s); e != api.OK {
			t.Fatalf("%+v: %v, %d", s, runs, e)
		}
	}
	return p
}

// fill puts keys of 16 bytes till no handle is free.
func fill(p *cost.Public) {
	for len(p.Held()) < 64 {
		p.Do(put(16))
	}
}

// wantAlike wants two to answer alike from now on: of each slot it is looked through what it has, till it is free.
func wantAlike(t *testing.T, p, q *cost.Public) {
	t.Helper()
	wantHeld(t, p, q.Held())
	for _, h := range q.Held() {
		l := []api.Skeleton{reveal(h), begin(h, api.AlgCmac, 0, 1), begin(h, api.AlgHmac256, 0, 1), stretch(h, api.AlgHmac512, 0, 1, 1), derive(h, api.AlgHmac512, 0, 0, 1)}
		for range 170 {
			l = append(l, update(h, 1))
		}
		for n := range 65 {
			l = append(l, verify(h, n))
		}
		for _, s := range append(l, finish(h), drop(h)) {
			one, e := p.Do(s)
			two, f := q.Do(s)
			if e != f || !ledger.Same(one, two) {
				t.Fatalf("%+v: %v, %d and %v, %d", s, one, e, two, f)
			}
		}
	}
	wantHeld(t, p, q.Held())
}

func TestExamples(t *testing.T) { // the chapter's, in its order
	p := cost.New()
	wantDo(t, p, put(16), 0)
	wantHeld(t, p, []int{0})
	wantDo(t, p, begin(0, 3, 0, 16), 0, schedule(16), blocks(16, 1))
	wantDo(t, p, update(1, 33), 0, blocks(16, 2))
	wantDo(t, p, finish(1), 0, blocks(16, 1), wipe())
	wantDo(t, p, begin(0, 1, 0, 20), 0, sha256s(2))
	wantDo(t, p, verify(1, 20), 0, sha256s(2), compare(20), wipe())
	wantDo(t, p, stretch(0, 2, 4, 3, 65), 0, sha512s(14))
	wantDo(t, p, finish(0), 6)
	wantDo(t, p, drop(5), 5)
	wantDo(t, p, api.Skeleton{Kind: 99}, 3)
}

func TestExamplesOfTheWhole(t *testing.T) { // DOC.md's examples 4 to 8, and those of the vault's chapter
	p := cost.New()
	wantDo(t, p, put(4), 0)
	wantDo(t, p, begin(0, api.AlgHmac256, 0, 32), 0, sha256s(2))
	wantDo(t, p, update(1, 16), 0)
	wantDo(t, p, clone(1), 0)
	wantHeld(t, p, []int{0, 1, 2})
	wantDo(t, p, update(1, 12), 0)
	wantDo(t, p, verify(1, 31), api.ErrTagLen)
	wantDo(t, p, finish(1), 0, sha256s(2), wipe())
	wantHeld(t, p, []int{0, 2})
	wantDo(t, p, verify(2, 32), 0, sha256s(2), compare(32), wipe())
	wantDo(t, p, verify(2, 32), api.ErrHandle)

	p = behind(t, put(3))
	wantDo(t, p, derive(0, api.AlgHmac256, 0, 1, 16), 0, sha256s(8))
	wantDo(t, p, reveal(1), 0)
	wantDo(t, p, begin(0, api.AlgCmac, 0, 16), api.ErrKeyLen)
	wantDo(t, p, begin(1, api.AlgCmac, 0, 16), 0, schedule(16), blocks(16, 1))
	wantDo(t, p, update(0, 1), api.ErrKind)
	wantDo(t, p, reveal(2), api.ErrKind)
	wantDo(t, p, put(513), api.ErrKeyLen)
	for h := 3; h < 64; h++ {
		wantDo(t, p, put(0), 0)
	}
	wantDo(t, p, put(0), api.ErrFull)
	wantDo(t, p, drop(5), 0, wipe())
	wantDo(t, p, put(0), 0)
	wantHeld(t, p, upTo(64))
}

func TestErrorsAreTheDocuments(t *testing.T) { // Errors
	for want, e := range []api.Errno{api.OK, api.ErrNil, api.ErrArg, api.ErrOp, api.ErrAlg, api.ErrHandle, api.ErrKind, api.ErrKeyLen, api.ErrFull, api.ErrLong, api.ErrCount, api.ErrTagLen} {
		if int(e) != want {
			t.Errorf("%d, want %d", int(e), want)
		}
	}
}

func TestEmptyAtFirst(t *testing.T) { // P22.1
	wantHeld(t, cost.New(), nil)
	for h := range 64 {
		for _, s := range []api.Skeleton{begin(h, 1, 0, 1), update(h, 1), finish(h), verify(h, 1), clone(h), derive(h, 1, 0, 0, 1), stretch(h, 1, 0, 1, 1), reveal(h), drop(h)} {
			wantDo(t, cost.New(), s, api.ErrHandle)
		}
	}
	p := cost.New()
	for h := range 64 {
		wantDo(t, p, put(h), 0)
		wantHeld(t, p, upTo(h+1))
	}
}

func TestEachByItself(t *testing.T) { // P22.1, rule 7: what one is told shows in no other one
	p, q := behind(t, put(16), begin(0, 1, 0, 32)), cost.New()
	wantHeld(t, q, nil)
	wantDo(t, q, put(3), 0)
	wantDo(t, q, drop(0), 0, wipe())
	wantHeld(t, p, []int{0, 1})
	wantDo(t, p, finish(1), 0, sha256s(2), wipe())
	wantHeld(t, q, nil)
}

func TestKindsThatAreNone(t *testing.T) { // P22.2: whatever stands in their fields
	p, q := behind(t, put(16), begin(0, 1, 0, 32)), behind(t, put(16), begin(0, 1, 0, 32))
	fields := []api.Skeleton{{}, {Handle: 1, Alg: 1, Count: 1, Out: 16, Data: 16, More: 16}, {Handle: -1, Alg: 255, Count: -1, Out: -1, Data: -1, More: -1}, {Handle: math.MaxInt, Count: math.MaxInt, Out: math.MaxInt, Data: math.MaxInt, More: math.MaxInt}, {Handle: math.MinInt, Count: math.MinInt, Out: math.MinInt, Data: math.MinInt, More: math.MinInt}}
	for k := range 256 {
		if k >= 1 && k <= 10 {
			continue
		}
		for _, s := range fields {
			s.Kind = api.OpKind(k)
			wantDo(t, p, s, api.ErrOp)
		}
	}
	wantAlike(t, p, q)
}

func TestUnusedFieldsCountForNothing(t *testing.T) { // P22.2: also if they are what would be refused in a used one
	l := []api.Skeleton{put(16), begin(0, 4, 5, 40), update(1, 170), clone(1), verify(1, 40), finish(2), derive(0, 1, 5, 6, 40), stretch(0, 2, 7, 8, 90), reveal(1), drop(2), {Kind: 0}, {Kind: 11}}
	uses := map[api.OpKind]string{1: "D", 2: "HADO", 3: "HD", 4: "H", 5: "HD", 6: "H", 7: "HADMO", 8: "HADCO", 9: "H", 10: "H"}
	for _, n := range append(far(), 0, 1, 2, 5, 63) {
		p, q := cost.New(), cost.New()
		for _, s := range l {
			full := s
			set := func(name rune, field *int) {
				if !slices.Contains([]rune(uses[s.Kind]), name) {
					*field = n
				}
			}
			set('H', &full.Handle)
			set('O', &full.Out)
			set('D', &full.Data)
			set('M', &full.More)
			set('C', &full.Count)
			if !slices.Contains([]rune(uses[s.Kind]), 'A') {
				full.Alg = api.Alg(n)
			}
			one, e := p.Do(s)
			two, f := q.Do(full)
			if e != f || !ledger.Same(one, two) {
				t.Fatalf("%+v: %v, %d; %+v: %v, %d", s, one, e, full, two, f)
			}
			wantShape(t, full, two, f)
		}
		wantAlike(t, q, p)
	}
}

func TestLengthsBelowNoughtAreNought(t *testing.T) { // Words: of Data and More, not of Out, Count and Handle
	for _, n := range []int{-1, -2, -17, -1 << 32, math.MinInt + 1, math.MinInt} {
		p, q := cost.New(), cost.New()
		for _, l := range [][2]api.Skeleton{
			{put(n), put(0)}, {put(16), put(16)}, {begin(0, 1, n, 1), begin(0, 1, 0, 1)}, {begin(1, 3, n, 16), begin(1, 3, 0, 16)}, {begin(0, 5, n, 64), begin(0, 5, 0, 64)},
			{update(2, 1), update(2, 1)}, {update(2, n), update(2, 0)}, {update(3, n), update(3, 0)}, {update(3, 17), update(3, 17)}, {update(4, n), update(4, 0)},
			{verify(2, n), verify(2, 0)}, {derive(0, 1, n, n, 33), derive(0, 1, 0, 0, 33)}, {derive(0, 2, 9, n, 33), derive(0, 2, 9, 0, 33)}, {stretch(0, 1, n, 2, 1), stretch(0, 1, 0, 2, 1)},
			{begin(1, 1, 0, n), begin(1, 1, 0, 0)}, {derive(1, 1, 0, 0, n), derive(1, 1, 0, 0, 0)}, {stretch(1, 1, 0, 1, n), stretch(1, 1, 0, 1, 0)}, {stretch(1, 1, 0, n, 1), stretch(1, 1, 0, 0, 1)},
		} {
			one, e := p.Do(l[0])
			two, f := q.Do(l[1])
			if e != f || !ledger.Same(one, two) {
				t.Fatalf("%+v: %v, %d, want %v, %d", l[0], one, e, two, f)
			}
			wantShape(t, l[0], one, e)
			wantHeld(t, p, q.Held())
		}
		wantDo(t, p, finish(2), 0, sha256s(2), wipe())
		wantAlike(t, q, behind(t, put(0), put(16), begin(0, 1, 0, 1), begin(1, 3, 0, 16), begin(0, 5, 0, 64), update(2, 1), update(3, 17), put(33), put(33), put(1)))
	}
}

func TestCodesWrittenOut(t *testing.T) { // P22.2: each code of each kind, and where two apply the one that comes first
	// 0: a key of 16 bytes; 1: a key of 20; 2: a session with tags of 20 bytes; 3: free.
	free := behind(t, put(16), put(20), begin(0, 1, 0, 20))
	full := behind(t, put(16), put(20), begin(0, 1, 0, 20))
	fill(full)
	wide := 1 << 40
	for _, c := range []struct {
		p    *cost.Public
		s    api.Skeleton
		want api.Errno
	}{
		{free, put(513), 7}, {full, put(513), 7}, {full, put(512), 8}, {full, put(0), 8},

		{free, begin(3, 1, 0, 20), 5}, {free, begin(64, 0, 65, 0), 5}, {full, begin(-1, 0, 65, 0), 5},
		{free, begin(2, 1, 0, 20), 6}, {free, begin(2, 0, 65, 0), 6}, {full, begin(2, 3, 65, 0), 6},
		{free, begin(1, 0, 0, 20), 4}, {free, begin(1, 8, 65, 0), 4}, {full, begin(1, 255, 65, 99), 4},
		{free, begin(1, 3, 0, 16), 7}, {free, begin(1, 3, 1, 16), 7}, {free, begin(1, 3, 65, 17), 7}, {full, begin(1, 3, 65, 0), 7},
		{free, begin(0, 3, 1, 16), 2}, {free, begin(0, 3, 65, 16), 2}, {free, begin(1, 1, 1, 20), 2}, {free, begin(1, 2, 65, 0), 2}, {full, begin(1, 2, wide, 65), 2},
		{free, begin(1, 4, 65, 20), 9}, {free, begin(1, 5, 65, 0), 9}, {full, begin(1, 6, 65, 65), 9}, {full, begin(1, 7, wide, 0), 9},
		{free, begin(1, 1, 0, 0), 11}, {free, begin(1, 1, 0, 33), 11}, {full, begin(0, 3, 0, 17), 11}, {full, begin(1, 7, 64, 65), 11},
		{full, begin(1, 1, 0, 20), 8}, {full, begin(0, 3, 0, 16), 8}, {full, begin(1, 4, 64, 64), 8},

		{free, update(3, 1), 5}, {free, update(3, 65537), 5}, {full, update(64, wide), 5},
		{free, update(0, 1), 6}, {free, update(0, 65537), 6}, {full, update(1, 65537), 6}, {free, update(2, 65537), 9}, {full, update(2, wide), 9},

		{free, finish(3), 5}, {full, finish(64), 5}, {free, finish(0), 6}, {full, finish(63), 6},

		{free, verify(3, 20), 5}, {free, verify(3, 19), 5}, {full, verify(-1, 20), 5}, {free, verify(1, 20), 6}, {free, verify(1, 0), 6}, {full, verify(63, 20), 6},
		{free, verify(2, 19), 11}, {free, verify(2, 21), 11}, {full, verify(2, 0), 11}, {full, verify(2, wide), 11},

		{free, clone(3), 5}, {full, clone(64), 5}, {full, clone(0), 8}, {full, clone(2), 8},

		{free, derive(3, 1, 0, 0, 1), 5}, {free, derive(3, 0, 65537, 0, 0), 5}, {full, derive(64, 3, 0, 65537, 9999), 5},
		{free, derive(2, 1, 0, 0, 1), 6}, {free, derive(2, 3, 65537, 0, 0), 6}, {full, derive(2, 0, 0, 65537, 513), 6},
		{free, derive(0, 0, 0, 0, 1), 4}, {free, derive(0, 3, 65537, 65537, 0), 4}, {full, derive(0, 4, 0, 0, wide), 4},
		{free, derive(0, 1, 65537, 0, 1), 9}, {free, derive(0, 2, 0, 65537, 1), 9}, {free, derive(0, 1, 65537, 0, 0), 9}, {full, derive(0, 2, 0, 65537, 513), 9},
		{free, derive(0, 1, 0, 0, 8161), 9}, {full, derive(0, 2, 0, 0, 16321), 9}, {full, derive(0, 1, 0, 0, wide), 9},
		{free, derive(0, 1, 0, 0, 8160), 7}, {free, derive(0, 2, 0, 0, 16320), 7}, {free, derive(0, 2, 0, 0, 8161), 7}, {free, derive(0, 1, 0, 0, 0), 7}, {full, derive(0, 1, 0, 0, -1), 7}, {full, derive(0, 2, 0, 0, 513), 7},
		{full, derive(0, 1, 65536, 65536, 512), 8}, {full, derive(0, 2, 0, 0, 1), 8},

		{free, stretch(3, 1, 0, 1, 1), 5}, {free, stretch(3, 0, 65537, 0, 0), 5}, {full, stretch(64, 3, 65537, 0, 0), 5},
		{free, stretch(2, 1, 0, 1, 1), 6}, {free, stretch(2, 3, 65537, 0, 0), 6}, {full, stretch(2, 0, 65537, 0, wide), 6},
		{free, stretch(0, 0, 0, 1, 1), 4}, {free, stretch(0, 3, 65537, 0, 0), 4}, {full, stretch(0, 7, 0, 0, wide), 4},
		{free, stretch(0, 1, 65537, 1, 1), 9}, {free, stretch(0, 1, 65537, 0, 0), 9}, {full, stretch(0, 2, 65537, 1<<20+1, 513), 9},
		{free, stretch(0, 1, 0, 1, 32*(1<<32-1)+1), 9}, {free, stretch(0, 2, 0, 0, 64*(1<<32-1)+1), 9}, {full, stretch(0, 2, 0, 0, math.MaxInt), 9},
		{free, stretch(0, 1, 0, 0, 1), 10}, {free, stretch(0, 1, 0, 1<<20+1, 1), 10}, {free, stretch(0, 1, 0, -1, 0), 10}, {full, stretch(0, 2, 0, 0, 513), 10}, {free, stretch(0, 1, 0, 0, 32*(1<<32-1)), 10}, {free, stretch(0, 2, 0, 0, 64*(1<<32-1)), 10},
		{free, stretch(0, 1, 0, 1, 0), 7}, {free, stretch(0, 1, 0, 1, 513), 7}, {free, stretch(0, 1, 0, 1, 16321), 7}, {free, stretch(0, 1, 0, 1, 32*(1<<32-1)), 7}, {full, stretch(0, 2, 0, 1<<20, 64*(1<<32-1)), 7}, {full, stretch(0, 2, 0, 1, -1), 7},
		{full, stretch(0, 1, 65536, 1<<20, 512), 8}, {full, stretch(0, 2, 0, 1, 1), 8},

		{free, reveal(3), 5}, {full, reveal(64), 5}, {free, reveal(2), 6}, {full, reveal(2), 6}, {free, drop(3), 5}, {full, drop(64), 5},
		{free, api.Skeleton{}, 3}, {full, api.Skeleton{Kind: 11}, 3}, {full, api.Skeleton{Kind: 255, Handle: 3}, 3},
	} {
		wantDo(t, c.p, c.s, c.want)
	}
	wantAlike(t, free, behind(t, put(16), put(20), begin(0, 1, 0, 20)))
	again := behind(t, put(16), put(20), begin(0, 1, 0, 20))
	fill(again)
	wantAlike(t, full, again)
}

func TestHandles(t *testing.T) { // P22.2: numbers that are none, of each kind that has a handle
	p, q := behind(t, put(16), begin(0, 1, 0, 20)), behind(t, put(16), begin(0, 1, 0, 20))
	for _, h := range append(noHandles(), 2, 3, 31, 62, 63) {
		for _, s := range []api.Skeleton{begin(h, 1, 0, 1), update(h, 1), finish(h), verify(h, 1), clone(h), derive(h, 1, 0, 0, 1), stretch(h, 1, 0, 1, 1), reveal(h), drop(h)} {
			wantDo(t, p, s, api.ErrHandle)
		}
	}
	wantAlike(t, p, q)

	// All 64 are handles, the first and the last too, of keys and of sessions.
	p = behind(t, put(16))
	for h := 1; h < 64; h++ {
		wantDo(t, p, begin(0, 3, 0, 16), 0, schedule(16), blocks(16, 1))
	}
	wantDo(t, p, reveal(0), 0)
	wantDo(t, p, update(63, 17), 0, blocks(16, 1))
	for h := 63; h > 0; h-- {
		wantDo(t, p, finish(h), 0, blocks(16, 1), wipe())
		wantHeld(t, p, upTo(h))
	}
	fill(p)
	wantDo(t, p, reveal(63), 0)
	wantDo(t, p, drop(63), 0, wipe())
	wantDo(t, p, drop(0), 0, wipe())
	wantHeld(t, p, upTo(63)[1:])
}

func TestLeastHandleFirst(t *testing.T) { // P22.2: by each operation that takes one, and up to all 64
	taking := []api.Skeleton{put(20), begin(0, 1, 0, 32), clone(0), derive(0, 1, 0, 0, 20), stretch(0, 1, 0, 1, 20)}
	for _, s := range taking {
		p := behind(t, put(20))
		for h := 1; h < 64; h++ {
			wantHeld(t, p, upTo(h))
			if _, e := p.Do(s); e != api.OK {
				t.Fatalf("%+v: %d", s, e)
			}
		}
		wantDo(t, p, s, api.ErrFull)
		wantHeld(t, p, upTo(64))
		for _, freed := range [][]int{{63}, {1}, {9, 5, 40}, {63, 62, 1, 33, 32, 2}} {
			for _, h := range freed {
				wantDo(t, p, drop(h), 0, wipe())
			}
			slices.Sort(freed)
			for i := range freed {
				want := slices.DeleteFunc(upTo(64), func(h int) bool { return slices.Contains(freed[i:], h) })
				wantHeld(t, p, want)
				if _, e := p.Do(s); e != api.OK {
					t.Fatalf("%+v with %v free: %d", s, freed[i:], e)
				}
			}
			wantDo(t, p, s, api.ErrFull)
		}
	}
}

func TestWhatAHandleHasAgain(t *testing.T) { // P22.2: of what was there before nothing is left
	p := behind(t, put(32), begin(0, 3, 0, 16), update(1, 40))
	wantDo(t, p, drop(1), 0, wipe())
	wantDo(t, p, begin(0, 3, 0, 9), 0, schedule(32), blocks(32, 1))
	wantDo(t, p, update(1, 16), 0)
	wantDo(t, p, verify(1, 9), 0, blocks(32, 1), compare(9), wipe())
	wantDo(t, p, put(5), 0)
	wantDo(t, p, update(1, 1), api.ErrKind)
	wantDo(t, p, drop(0), 0, wipe())
	wantDo(t, p, begin(1, 1, 0, 32), 0, sha256s(2))
	wantDo(t, p, update(0, 64), 0, sha256s(1))
	// The key may be gone: what the session is stays as it was.
	wantDo(t, p, drop(1), 0, wipe())
	wantDo(t, p, finish(0), 0, sha256s(2), wipe())
	wantHeld(t, p, nil)
}

func TestPutLengths(t *testing.T) { // P22.2: a key has so many bytes, an empty one too
	for _, n := range []int{0, 1, 16, 24, 32, 64, 65, 128, 129, 511, 512} {
		p := behind(t, put(n))
		wantHeld(t, p, []int{0})
		wantDo(t, p, reveal(0), 0)
	}
	for _, n := range []int{513, 514, 1024, 65536, 1 << 24, 1 << 32, math.MaxInt} {
		p := cost.New()
		wantDo(t, p, put(n), api.ErrKeyLen)
		wantHeld(t, p, nil)
	}
}

func TestBeginWrittenOut(t *testing.T) { // P22.2: what a session's key costs, by its length
	for n, c := range map[int]struct{ sha256, sha512, keccak128, keccak256 int }{
		0: {2, 2, 2, 2}, 1: {2, 2, 2, 2}, 15: {2, 2, 2, 2}, 16: {2, 2, 2, 2}, 24: {2, 2, 2, 2}, 32: {2, 2, 2, 2}, 63: {2, 2, 2, 2}, 64: {2, 2, 2, 2},
		65: {4, 2, 2, 2}, 119: {4, 2, 2, 2}, 120: {5, 2, 2, 2}, 127: {5, 2, 2, 2}, 128: {5, 2, 2, 2}, 129: {5, 4, 2, 2},
		131: {5, 4, 2, 2}, 132: {5, 4, 2, 3}, 163: {5, 4, 2, 3}, 164: {5, 4, 3, 3}, 239: {6, 4, 3, 3}, 240: {6, 5, 3, 3}, 267: {7, 5, 3, 3}, 268: {7, 5, 3, 4},
		511: {11, 7, 5, 5}, 512: {11, 7, 5, 5},
	} {
		for _, a := range algs() {
			p := behind(t, put(n))
			switch a {
			case api.AlgHmac256:
				wantDo(t, p, begin(0, a, 0, 32), 0, sha256s(c.sha256))
			case api.AlgHmac512:
				wantDo(t, p, begin(0, a, 0, 64), 0, sha512s(c.sha512))
			case api.AlgKmac128, api.AlgKmacX128:
				wantDo(t, p, begin(0, a, 0, 64), 0, keccaks(c.keccak128))
			case api.AlgKmac256, api.AlgKmacX256:
				wantDo(t, p, begin(0, a, 0, 64), 0, keccaks(c.keccak256))
			case api.AlgCmac:
				if n != 16 && n != 24 && n != 32 {
					wantDo(t, p, begin(0, a, 0, 16), api.ErrKeyLen)
					continue
				}
				wantDo(t, p, begin(0, a, 0, 16), 0, schedule(n), blocks(n, 1))
			}
			wantHeld(t, p, []int{0, 1})
		}
	}
}

func TestBeginNumbers(t *testing.T) { // P22.2: algorithms, tag lengths at both edges, customizations
	for _, a := range noAlgs() {
		wantDo(t, behind(t, put(16)), begin(0, a, 0, 16), api.ErrAlg)
	}
	for _, a := range algs() {
		for _, out := range append(far(), 0, 1, 2, 15, 16, 17, 31, 32, 33, 63, 64, 65) {
			p := behind(t, put(16))
			runs, e := p.Do(begin(0, a, 0, out))
			if may := out >= 1 && out <= most(a); may != (e == api.OK) || !may && (e != api.ErrTagLen || len(runs) != 2) {
				t.Errorf("%d, a tag of %d bytes: %v, %d", a, out, runs, e)
			}
		}
		for _, custom := range append(far(), 0, 1, 31, 32, 63, 64, 65) {
			p := behind(t, put(16))
			runs, e := p.Do(begin(0, a, custom, 16))
			want := api.OK
			if custom > 0 && !isKmac(a) {
				want = api.ErrArg
			} else if custom > 64 {
				want = api.ErrLong
			}
			if e != want {
				t.Errorf("%d, a customization of %d bytes: %v, %d, want %d", a, custom, runs, e, want)
			}
			if e == api.OK && isKmac(a) && !ledger.Same(runs, row(2, 0, keccaks(2))) {
				t.Errorf("%d, a customization of %d bytes: %v", a, custom, runs)
			}
		}
	}
}

func TestPiecesWrittenOut(t *testing.T) { // P22.2: of a block less one, just one, and one more, and what comes behind
	for _, a := range algs() {
		b := block(a)
		// CMAC holds a full block back till a byte comes behind it.
		late := 0
		if a == api.AlgCmac {
			late = 1
		}
		p := behind(t, put(16), begin(0, a, 0, 16))
		wantDo(t, p, update(1, 0), 0)
		wantDo(t, p, update(1, b-1), 0)
		wantDo(t, p, update(1, 0), 0)
		wantDo(t, p, update(1, 1), 0, worked(a, 1-late))
		wantDo(t, p, update(1, 0), 0)
		wantDo(t, p, update(1, 1), 0, worked(a, late))
		wantDo(t, p, update(1, b-1), 0, worked(a, 1-late))
		wantDo(t, p, update(1, b), 0, worked(a, 1))
		wantDo(t, p, update(1, b+1), 0, worked(a, 1+late))
		wantDo(t, p, update(1, b+1), 0, worked(a, 1))
		wantDo(t, p, update(1, 3*b-2), 0, worked(a, 3-late))
	}
	for a, c := range map[api.Alg]struct{ first, second int }{1: {1024, 1024}, 2: {512, 512}, 3: {4095, 4096}, 4: {390, 390}, 5: {481, 482}, 6: {390, 390}, 7: {481, 482}} {
		p := behind(t, put(16), begin(0, a, 0, 16))
		wantDo(t, p, update(1, 65537), api.ErrLong)
		wantDo(t, p, update(1, 65536), 0, worked(a, c.first))
		wantDo(t, p, update(1, math.MaxInt), api.ErrLong)
		wantDo(t, p, update(1, -1), 0)
		wantDo(t, p, update(1, 65536), 0, worked(a, c.second))
		wantDo(t, p, update(1, 65537), api.ErrLong)
	}
}

func TestTagsWrittenOut(t *testing.T) { // P22.2: what a tag costs, by the message's length
	for _, c := range []struct {
		a               api.Alg
		out, message, n int
	}{
		{1, 1, 0, 2}, {1, 32, 1, 2}, {1, 32, 55, 2}, {1, 32, 56, 3}, {1, 32, 63, 3}, {1, 32, 64, 2}, {1, 32, 65, 2}, {1, 32, 119, 2}, {1, 1, 120, 3}, {1, 32, 128, 2}, {1, 32, 65535, 3}, {1, 32, 65536, 2},
		{2, 1, 0, 2}, {2, 64, 1, 2}, {2, 64, 55, 2}, {2, 64, 56, 2}, {2, 64, 111, 2}, {2, 64, 112, 3}, {2, 64, 127, 3}, {2, 64, 128, 2}, {2, 64, 129, 2}, {2, 64, 239, 2}, {2, 1, 240, 3}, {2, 64, 256, 2}, {2, 64, 65535, 3},
		{3, 1, 0, 1}, {3, 16, 1, 1}, {3, 16, 15, 1}, {3, 16, 16, 1}, {3, 16, 17, 1}, {3, 16, 32, 1}, {3, 16, 65536, 1},
		{4, 1, 0, 1}, {4, 64, 1, 1}, {4, 31, 165, 1}, {4, 31, 166, 2}, {4, 32, 164, 1}, {4, 32, 165, 2}, {4, 64, 165, 2}, {4, 64, 167, 2}, {4, 64, 168, 1}, {4, 32, 332, 1}, {4, 32, 333, 2}, {4, 31, 333, 1},
		{5, 1, 0, 1}, {5, 64, 1, 1}, {5, 31, 133, 1}, {5, 31, 134, 2}, {5, 32, 132, 1}, {5, 32, 133, 2}, {5, 64, 133, 2}, {5, 64, 135, 2}, {5, 64, 136, 1}, {5, 32, 268, 1}, {5, 32, 269, 2}, {5, 31, 269, 1},
		{6, 1, 0, 1}, {6, 31, 165, 1}, {6, 31, 166, 2}, {6, 32, 165, 1}, {6, 64, 165, 1}, {6, 64, 166, 2}, {6, 64, 167, 2}, {6, 64, 168, 1}, {6, 64, 333, 1}, {6, 64, 334, 2},
		{7, 1, 0, 1}, {7, 31, 133, 1}, {7, 31, 134, 2}, {7, 32, 133, 1}, {7, 64, 133, 1}, {7, 64, 134, 2}, {7, 64, 135, 2}, {7, 64, 136, 1}, {7, 64, 269, 1}, {7, 64, 270, 2},
	} {
		p := behind(t, put(16), begin(0, c.a, 0, c.out), update(1, c.message), clone(1))
		wantDo(t, p, verify(1, c.out-1), api.ErrTagLen)
		wantDo(t, p, verify(1, c.out+1), api.ErrTagLen)
		wantDo(t, p, finish(1), 0, worked(c.a, c.n), wipe())
		wantHeld(t, p, []int{0, 2})
		wantDo(t, p, verify(2, c.out), 0, worked(c.a, c.n), compare(c.out), wipe())
		wantHeld(t, p, []int{0})
		wantDo(t, p, finish(1), api.ErrHandle)
	}
}

func TestCipherKeysWrittenOut(t *testing.T) { // P22.2: the events of CMAC have the key's size, also of a clone, and when the key is gone
	for _, n := range []int{16, 24, 32} {
		p := behind(t, put(n))
		wantDo(t, p, begin(0, api.AlgCmac, 0, 16), 0, schedule(n), blocks(n, 1))
		wantDo(t, p, drop(0), 0, wipe())
		wantDo(t, p, clone(1), 0)
		wantDo(t, p, update(0, 33), 0, blocks(n, 2))
		wantDo(t, p, finish(0), 0, blocks(n, 1), wipe())
		wantDo(t, p, verify(1, 16), 0, blocks(n, 1), compare(16), wipe())
	}
}

func TestCloneGoesOnByItself(t *testing.T) { // P22.2: of a session its message, of a key its bytes
	for _, a := range algs() {
		b, tag := block(a), 1
		if slices.Contains(hmacs(), a) {
			tag = 2
		}
		p := behind(t, put(16), begin(0, a, 0, 9), update(1, b-1))
		wantDo(t, p, clone(1), 0)
		wantDo(t, p, update(1, 2), 0, worked(a, 1))
		wantDo(t, p, clone(1), 0)
		wantHeld(t, p, []int{0, 1, 2, 3})
		wantDo(t, p, update(2, 2), 0, worked(a, 1))
		wantDo(t, p, update(2, b), 0, worked(a, 1))
		wantDo(t, p, update(3, 2*b), 0, worked(a, 2))
		wantDo(t, p, verify(2, 9), 0, worked(a, tag), compare(9), wipe())
		wantDo(t, p, update(1, b), 0, worked(a, 1))
		wantDo(t, p, drop(1), 0, wipe())
		wantDo(t, p, finish(3), 0, worked(a, tag), wipe())
		wantHeld(t, p, []int{0})
	}
	for _, n := range []int{0, 1, 16, 24, 65, 512} {
		p := behind(t, put(n), clone(0))
		one, e := p.Do(begin(0, 1, 0, 32))
		wantDo(t, p, drop(0), 0, wipe())
		if two, f := p.Do(begin(1, 1, 0, 32)); e != api.OK || f != api.OK || !ledger.Same(one, two) {
			t.Errorf("a key of %d bytes: %v, %d, its clone: %v, %d", n, one, e, two, f)
		}
		wantDo(t, p, reveal(1), 0)
		wantHeld(t, p, []int{0, 1, 2})
	}
}

func TestHkdfWrittenOut(t *testing.T) { // P22.2: what it costs, by its lengths
	for _, c := range []struct {
		a                       api.Alg
		key, salt, info, out, n int
	}{
		{1, 22, 13, 10, 42, 10}, {1, 3, 0, 1, 16, 8}, // the chapters' own
		{1, 0, 0, 0, 1, 8}, {1, 0, 0, 0, 32, 8}, {1, 0, 0, 0, 33, 10}, {1, 0, 0, 0, 64, 10}, {1, 0, 0, 0, 65, 12}, {1, 0, 0, 0, 512, 38},
		{1, 55, 0, 0, 1, 8}, {1, 56, 0, 0, 1, 9}, {1, 64, 0, 0, 1, 9}, {1, 119, 0, 0, 1, 9}, {1, 120, 0, 0, 1, 10}, {1, 512, 0, 0, 1, 16},
		{1, 0, 64, 0, 1, 8}, {1, 0, 65, 0, 1, 10}, {1, 0, 120, 0, 1, 11}, {1, 0, 65535, 0, 1, 1033}, {1, 0, 65536, 0, 1, 1033},
		{1, 0, 0, 54, 1, 8}, {1, 0, 0, 55, 1, 9}, {1, 0, 0, 22, 33, 10}, {1, 0, 0, 23, 33, 11}, {1, 0, 0, 63, 33, 12}, {1, 0, 0, 23, 512, 53}, {1, 0, 0, 65535, 32, 1032}, {1, 0, 0, 65536, 32, 1032}, {1, 0, 0, 65535, 512, 6 + 16*1026}, {1, 0, 0, 65536, 512, 6 + 16*1026},
		{2, 22, 13, 10, 42, 8}, {2, 0, 0, 0, 1, 8}, {2, 0, 0, 0, 64, 8}, {2, 0, 0, 0, 65, 10}, {2, 0, 0, 0, 512, 22}, {2, 0, 0, 0, 511, 22},
		{2, 111, 0, 0, 1, 8}, {2, 112, 0, 0, 1, 9}, {2, 128, 0, 0, 1, 9}, {2, 512, 0, 0, 1, 12}, {2, 0, 128, 0, 1, 8}, {2, 0, 129, 0, 1, 10}, {2, 0, 240, 0, 1, 11}, {2, 0, 65536, 0, 1, 521},
		{2, 0, 0, 110, 1, 8}, {2, 0, 0, 111, 1, 9}, {2, 3, 0, 46, 65, 10}, {2, 3, 0, 47, 65, 11}, {2, 0, 0, 65536, 512, 6 + 8*514},
	} {
		p := behind(t, put(c.key))
		wantDo(t, p, derive(0, c.a, c.salt, c.info, c.out), 0, worked(c.a, c.n))
		wantHeld(t, p, []int{0, 1})
		wantKey(t, p, 1, c.out)
		wantKey(t, p, 0, c.key)
	}
}

func TestPbkdfWrittenOut(t *testing.T) { // P22.2: what it costs, by its lengths and its count
	for _, c := range []struct {
		a                        api.Alg
		key, salt, count, out, n int
	}{
		{1, 8, 4, 1, 32, 4}, {2, 16, 4, 3, 65, 14}, // the chapters' own
		{1, 0, 0, 1, 1, 4}, {1, 0, 0, 1, 32, 4}, {1, 0, 0, 1, 33, 6}, {1, 0, 0, 1, 64, 6}, {1, 0, 0, 1, 65, 8}, {1, 0, 0, 1, 512, 34}, {1, 0, 0, 2, 1, 6}, {1, 0, 0, 1000, 512, 32002},
		{1, 64, 0, 1, 1, 4}, {1, 65, 0, 1, 1, 6}, {1, 120, 0, 1, 1, 7}, {1, 512, 0, 1, 33, 15},
		{1, 0, 51, 1, 1, 4}, {1, 0, 52, 1, 1, 5}, {1, 0, 60, 1, 1, 5}, {1, 0, 52, 3, 33, 16}, {1, 0, 65536, 1, 1, 1028}, {1, 0, 65536, 2, 512, 2 + 16*1028},
		{1, 0, 0, 1 << 20, 1, 1<<21 + 2}, {1, 0, 0, 1 << 20, 512, 1<<25 + 2}, {1, 512, 65536, 1 << 20, 512, 11 + 16*(1024+1<<21)},
		{2, 0, 0, 1, 1, 4}, {2, 0, 0, 1, 64, 4}, {2, 0, 0, 1, 65, 6}, {2, 0, 0, 1, 512, 18}, {2, 0, 0, 2, 512, 34}, {2, 128, 0, 1, 1, 4}, {2, 129, 0, 1, 1, 6}, {2, 240, 0, 1, 1, 7}, {2, 512, 0, 1, 1, 9},
		{2, 0, 107, 1, 1, 4}, {2, 0, 108, 1, 1, 5}, {2, 0, 124, 1, 1, 5}, {2, 0, 65536, 1, 1, 516}, {2, 0, 0, 1 << 20, 1, 1<<21 + 2}, {2, 0, 0, 1 << 20, 512, 1<<24 + 2},
	} {
		p := behind(t, put(c.key))
		wantDo(t, p, stretch(0, c.a, c.salt, c.count, c.out), 0, worked(c.a, c.n))
		wantHeld(t, p, []int{0, 1})
		wantKey(t, p, 1, c.out)
		wantKey(t, p, 0, c.key)
	}
}

// wantKey wants a handle to have a key of so many bytes, as far as it shows in what is made with it.
func wantKey(t *testing.T, p *cost.Public, h, n int) {
	t.Helper()
	q := behind(t, put(n))
	wantDo(t, p, reveal(h), 0)
	for _, a := range algs() {
		one, e := p.Do(begin(h, a, 0, 1))
		two, f := q.Do(begin(0, a, 0, 1))
		if e != f || !ledger.Same(one, two) {
			t.Fatalf("%d is no key of %d bytes: %v, %d", h, n, one, e)
		}
	}
	for _, a := range hmacs() {
		one, _ := p.Do(derive(h, a, 0, 0, 1))
		two, _ := q.Do(derive(0, a, 0, 0, 1))
		if !ledger.Same(one, two) {
			t.Fatalf("%d is no key of %d bytes: %v", h, n, one)
		}
	}
}

func TestDerivedLengths(t *testing.T) { // P22.2: of Out, of lists and of Count, at both edges and far off
	for _, a := range hmacs() {
		size := most(a)
		for _, out := range append(far(), 0, 1, 32, 33, 64, 65, 511, 512, 513, 8160, 8161, 16320, 16321) {
			want := api.OK
			switch {
			case out > 255*size:
				want = api.ErrLong
			case out < 1 || out > 512:
				want = api.ErrKeyLen
			}
			if _, e := behind(t, put(5)).Do(derive(0, a, 0, 0, out)); e != want {
				t.Errorf("OpHkdf %d, Out %d: %d, want %d", a, out, e, want)
			}
			if want == api.ErrLong && out <= size*(1<<32-1) {
				want = api.ErrKeyLen
			}
			if _, e := behind(t, put(5)).Do(stretch(0, a, 0, 1, out)); e != want {
				t.Errorf("OpPbkdf %d, Out %d: %d, want %d", a, out, e, want)
			}
		}
		for _, n := range append(far(), 0, 1, 65535, 65536, 65537) {
			want := api.OK
			if n > 65536 {
				want = api.ErrLong
			}
			for _, s := range []api.Skeleton{derive(0, a, n, 0, 1), derive(0, a, 0, n, 1), derive(0, a, n, n, 1), stretch(0, a, n, 1, 1)} {
				if _, e := behind(t, put(5)).Do(s); e != want {
					t.Errorf("%+v: %d, want %d", s, e, want)
				}
			}
		}
		for _, count := range append(far(), 0, 1, 2, 1<<20-1, 1<<20, 1<<20+1) {
			want := api.OK
			if count < 1 || count > 1<<20 {
				want = api.ErrCount
			}
			if _, e := behind(t, put(5)).Do(stretch(0, a, 0, count, 1)); e != want {
				t.Errorf("OpPbkdf %d, Count %d: %d, want %d", a, count, e, want)
			}
		}
	}
	for _, a := range append(noAlgs(), 3, 4, 5, 6, 7) {
		for _, s := range []api.Skeleton{derive(0, a, 0, 0, 16), stretch(0, a, 0, 1, 16)} {
			wantDo(t, behind(t, put(16)), s, api.ErrAlg)
		}
	}
}

// mixed makes skeletons of all kinds, most of which may be done, and numbers at their edges.
func mixed(r *rand.Rand, n int) []api.Skeleton {
	pick := func(l ...int) int { return l[r.Intn(len(l))] }
	var l []api.Skeleton
	for range n {
		s := api.Skeleton{
			Kind:   api.OpKind(pick(1, 1, 2, 2, 2, 2, 3, 3, 3, 3, 4, 5, 6, 7, 8, 9, 10, 10, 0, 11, 77, 255)),
			Handle: pick(0, 1, 2, 3, 4, 5, 6, 7, 0, 1, 2, 3, 20, 63, 64, -1, math.MaxInt, math.MinInt),
			Alg:    api.Alg(pick(1, 2, 3, 4, 5, 6, 7, 1, 2, 3, 0, 8, 255)),
			Count:  pick(1, 1, 2, 3, 1<<20, 0, -1, 1<<20+1),
			Out:    pick(16, 16, 16, 32, 24, 1, 31, 33, 64, 65, 129, 512, 0, -1, 513, 8161, math.MaxInt),
			Data:   pick(0, 0, 0, 16, 16, 24, 32, 1, 31, 55, 64, 65, 128, 129, 135, 167, 168, 512, 513, 65536, 65537, -1, math.MinInt, math.MaxInt),
			More:   pick(0, 0, 1, 22, 23, 64, 129, 65536, 65537, -1),
		}
		l = append(l, s)
	}
	return l
}

// scripts are lists of skeletons: none, one, and many.
func scripts() [][]api.Skeleton {
	l := [][]api.Skeleton{nil, {}, {put(16)}, {{}}, {{Kind: 99}}, {drop(0)}, {put(16), begin(0, 3, 0, 16), update(1, 33), finish(1)}, {drop(0), drop(0), {Kind: 5}, {Kind: 5}, put(600), put(1)}}
	for i := range 64 {
		l = append(l, mixed(rand.New(rand.NewSource(int64(i))), 20+20*i))
	}
	return l
}

func TestEachCodesRuns(t *testing.T) { // P22.4: held against Do, one by one
	for _, l := range scripts() {
		p := cost.New()
		each, codes, all := cost.Each(l), cost.Codes(l), []api.Run(nil)
		if len(each) != len(l) || len(codes) != len(l) {
			t.Fatalf("%d skeletons: %d rows, %d codes", len(l), len(each), len(codes))
		}
		for i, s := range l {
			runs, e := p.Do(s)
			if e != codes[i] || !ledger.Same(runs, each[i]) {
				t.Fatalf("%d, %+v: %v, %d, want %v, %d", i, s, each[i], codes[i], runs, e)
			}
			wantShape(t, s, each[i], codes[i])
			all = ledger.Join(all, runs)
		}
		if got := cost.Runs(l); !ledger.Same(got, all) || ledger.Check(got) != api.OK {
			t.Fatalf("Runs of %d: %v, want %v", len(l), got, all)
		}
	}
}

func TestEachCodesRunsWrittenOut(t *testing.T) { // P22.4
	for _, l := range [][]api.Skeleton{nil, {}} {
		if len(cost.Each(l)) != 0 || len(cost.Codes(l)) != 0 || len(cost.Runs(l)) != 0 {
			t.Error("of none there is something")
		}
	}
	l := []api.Skeleton{put(4), begin(0, 1, 0, 32), update(1, 16), update(1, 12), finish(1), {Kind: 99}}
	want := [][]api.Run{row(1, 0), row(2, 0, sha256s(2)), row(3, 0), row(3, 0), row(4, 0, sha256s(2), wipe()), row(99, 3)}
	if !slices.EqualFunc(cost.Each(l), want, ledger.Same) {
		t.Error("Each:", cost.Each(l))
	}
	if !slices.Equal(cost.Codes(l), []api.Errno{0, 0, 0, 0, 0, 3}) {
		t.Error("Codes:", cost.Codes(l))
	}
	if !ledger.Same(cost.Runs(l), slices.Concat(want...)) {
		t.Error("Runs:", cost.Runs(l))
	}
	if one := []api.Skeleton{{Kind: 1, Data: 513}}; !ledger.Same(cost.Runs(one), row(1, 7)) || !slices.EqualFunc(cost.Each(one), [][]api.Run{row(1, 7)}, ledger.Same) || !slices.Equal(cost.Codes(one), []api.Errno{7}) {
		t.Error("of one that is refused:", cost.Runs(one), cost.Each(one), cost.Codes(one))
	}
}

func TestLongScripts(t *testing.T) { // P22.4, P1: what is many is no slower by the piece
	l := []api.Skeleton{put(16), begin(0, 3, 0, 16)}
	for range 200000 {
		l = append(l, update(1, 17))
	}
	l = append(l, finish(1))
	if n := ledger.Total(cost.Runs(l)); n != 2+4+200000*2+(200000*17-1)/16+4 {
		t.Error("events:", n)
	}
	if got := cost.Each(l); len(got) != len(l) || cost.Codes(l)[len(l)-1] != api.OK {
		t.Error("rows:", len(got))
	}
}

func TestNone(t *testing.T) { // P22.2, P22.3, rule 4: a nil one, and one that New did not make
	for _, p := range []*cost.Public{nil, {}, new(cost.Public)} {
		for range 2 {
			for k := range 256 {
				if runs, e := p.Do(api.Skeleton{Kind: api.OpKind(k)}); e != api.ErrNil || len(runs) != 0 {
					t.Fatalf("the kind %d: %v, %d", k, runs, e)
				}
			}
			if held := p.Held(); len(held) != 0 {
				t.Fatal("held:", held)
			}
		}
	}
}

func TestRefusedChangesNothing(t *testing.T) { // P22.2, P6: one that was refused much, and one that was not, go on alike
	for i := range 60 {
		r := rand.New(rand.NewSource(int64(1000 + i)))
		p, q := cost.New(), cost.New()
		for _, s := range mixed(r, 300) {
			runs, e := p.Do(s)
			wantShape(t, s, runs, e)
			if e == api.OK {
				if two, f := q.Do(s); f != api.OK || !ledger.Same(runs, two) {
					t.Fatalf("%+v: %v, want %v, %d", s, runs, two, f)
				}
			}
			wantHeld(t, p, q.Held())
		}
		wantAlike(t, p, q)
	}
}

func TestCallsChangeNothingHandedIn(t *testing.T) { // rule 3: lists stay as they were, their spare room too
	room := mixed(rand.New(rand.NewSource(7)), 300)
	was := slices.Clone(room)
	l := room[:200]
	cost.Runs(l)
	cost.Codes(l)
	cost.Each(l)
	if !slices.Equal(room, was) {
		t.Error("a list was changed")
	}
	if len(cost.Each(l)) != 200 || len(cost.Codes(l)) != 200 || !ledger.Same(cost.Runs(l), cost.Runs(slices.Clone(l))) {
		t.Error("spare room was looked at")
	}
}

// overwrite writes over a list and over its spare room.
func overwrite[T any](list []T, by T) {
	for i := range list[:cap(list)] {
		list[:cap(list)][i] = by
	}
}

func TestAnswersAreNew(t *testing.T) { // rule 3: written over, with their spare room, they change no other answer, and no row beside them
	x := run(77, 77, 77)
	l := mixed(rand.New(rand.NewSource(8)), 100)
	each, codes, all := cost.Each(l), cost.Codes(l), cost.Runs(l)
	for i, s := range l {
		if !ledger.Same(each[i], cost.Each(l)[i]) {
			t.Fatalf("%d, %+v: written over by a row ahead of it", i, s)
		}
		overwrite(each[i], x)
	}
	overwrite(cost.Runs(l), x)
	overwrite(cost.Codes(l), 99)
	if !slices.Equal(cost.Codes(l), codes) || !ledger.Same(cost.Runs(l), all) || !ledger.Same(slices.Concat(cost.Each(l)...), all) {
		t.Error("answers share memory")
	}
	p := behind(t, put(16), begin(0, 3, 0, 16))
	overwrite(p.Held(), 5)
	wantHeld(t, p, []int{0, 1})
	one, _ := p.Do(update(1, 17))
	two, _ := p.Do(update(1, 16))
	overwrite(one, x)
	if !ledger.Same(two, row(3, 0, blocks(16, 1))) {
		t.Error("rows share memory")
	}
	wantDo(t, p, update(1, 16), 0, blocks(16, 1))
}

func TestCallsInTurn(t *testing.T) { // rule 7: what was asked before shows in no answer
	l := mixed(rand.New(rand.NewSource(9)), 200)
	each, codes, all, p := cost.Each(l), cost.Codes(l), cost.Runs(l), cost.New()
	for i, s := range l {
		cost.Runs(l[i:])
		cost.New().Do(s)
		(*cost.Public)(nil).Do(s)
		p.Held()
		if runs, e := p.Do(s); e != codes[i] || !ledger.Same(runs, each[i]) {
			t.Fatalf("%d, %+v: %v, %d", i, s, runs, e)
		}
	}
	if !ledger.Same(cost.Runs(l), all) || !slices.Equal(cost.Codes(l), codes) || !slices.EqualFunc(cost.Each(l), each, ledger.Same) {
		t.Error("other answers the second time")
	}
}

func TestCallsInGoroutines(t *testing.T) { // rule 7: each by itself, with lists that all of them read
	l := mixed(rand.New(rand.NewSource(10)), 400)
	each, codes, all := cost.Each(l), cost.Codes(l), cost.Runs(l)
	var group sync.WaitGroup
	for range 8 {
		group.Go(func() {
			p := cost.New()
			for i, s := range l {
				if runs, e := p.Do(s); e != codes[i] || !ledger.Same(runs, each[i]) {
					t.Errorf("%d, %+v: %v, %d", i, s, runs, e)
					return
				}
			}
			if !ledger.Same(cost.Runs(l), all) || !slices.Equal(cost.Codes(l), codes) {
				t.Error("Runs, Codes")
			}
		})
	}
	group.Wait()
}

func FuzzDo(f *testing.F) { // P1, P22.2, P22.5: whatever the skeleton is, of a vault with keys and sessions
	for i, s := range mixed(rand.New(rand.NewSource(11)), 60) {
		f.Add(byte(s.Kind), s.Handle, byte(s.Alg), s.Count, s.Out, s.Data, s.More, i%2 == 0)
	}
	f.Fuzz(func(t *testing.T, kind byte, handle int, alg byte, count, out, data, more int, full bool) {
		s := api.Skeleton{Kind: api.OpKind(kind), Handle: handle, Alg: api.Alg(alg), Count: count, Out: out, Data: data, More: more}
		first := []api.Skeleton{put(16), put(512), put(0)}
		for _, a := range algs() {
			first = append(first, begin(0, a, 0, 1+handle&15))
		}
		p := behind(t, append(first, update(3, 70), update(4, 130), update(5, 17))...)
		if full {
			fill(p)
		}
		held := p.Held()
		for range 3 {
			runs, e := p.Do(s)
			wantShape(t, s, runs, e)
			if e != api.OK {
				wantHeld(t, p, held)
			}
			held = p.Held()
		}
	})
}

func FuzzScripts(f *testing.F) { // P1, P22.4: whatever was done before
	for i := range 8 {
		b := make([]byte, 300)
		rand.New(rand.NewSource(int64(i))).Read(b)
		f.Add(b)
	}
	f.Fuzz(func(t *testing.T, b []byte) {
		var l []api.Skeleton
		for ; len(b) >= 6; b = b[6:] {
			l = append(l, api.Skeleton{Kind: api.OpKind(b[0] % 12), Handle: int(b[1]%8) - 1, Alg: api.Alg(b[2] % 9), Count: int(b[3]) - 1, Out: int(b[3]) - 1, Data: int(b[4])<<(b[5]%11) - 1, More: int(b[5])})
		}
		p, each, codes, total := cost.New(), cost.Each(l), cost.Codes(l), 0
		for i, s := range l {
			runs, e := p.Do(s)
			wantShape(t, s, runs, e)
			if e != codes[i] || !ledger.Same(runs, each[i]) {
				t.Fatalf("%d, %+v: %v, %d", i, s, runs, e)
			}
			total += ledger.Total(runs)
		}
		if all := cost.Runs(l); ledger.Total(all) != total || ledger.Check(all) != api.OK {
			t.Fatal("Runs:", all)
		}
	})
}
