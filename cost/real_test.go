package cost_test

import (
	"bytes"
	"math"
	"math/rand"
	"slices"
	"testing"

	"turnkey/api"
	"turnkey/cost"
	"turnkey/hkdf"
	"turnkey/ledger"
	"turnkey/mac"
	"turnkey/pbkdf2"
	"turnkey/skel"
)

// shelf does operations as DOC.md's 'The vault' says, with bytes, by what layers 15 to 17 do and record.
type shelf struct {
	l *ledger.Ledger
	// slots have a key ([]byte), a session (*mac.Session), or nothing.
	slots [64]any
}

// rule is a code, and whether it applies.
type rule struct {
	applies bool
	code    api.Errno
}

// at is what lies under a handle.
func (v *shelf) at(h int) any {
	if h < 0 || h > 63 {
		return nil
	}
	return v.slots[h]
}

// held are the handles that are held.
func (v *shelf) held() []int {
	return slices.DeleteFunc(upTo(64), func(h int) bool { return v.slots[h] == nil })
}

// take puts something under the least handle that is free.
func (v *shelf) take(what any) {
	for h, s := range v.slots {
		if s == nil {
			v.slots[h] = what
			return
		}
	}
	panic("no handle is free")
}

// free frees a slot.
func (v *shelf) free(h int) {
	v.slots[h] = nil
	v.l.Note(api.Event{Kind: api.EvWipe, Size: 1024})
}

// rules are the codes of each kind, in the order in which the document names them.
func (v *shelf) rules(s api.Skeleton) map[api.OpKind][]rule {
	what := v.at(s.Handle)
	key, isKey := what.([]byte)
	session, isSession := what.(*mac.Session)
	none, data, more, full := what == nil, max(s.Data, 0), max(s.More, 0), len(v.held()) == 64
	noHmac, sum := s.Alg != 1 && s.Alg != 2, most(s.Alg)
	out := 0
	if isSession {
		out = session.Out()
	}
	noLength := rule{s.Out < 1 || s.Out > 512, 7}
	return map[api.OpKind][]rule{
		1:  {{data > 512, 7}, {full, 8}},
		2:  {{none, 5}, {isSession, 6}, {s.Alg < 1 || s.Alg > 7, 4}, {s.Alg == 3 && len(key) != 16 && len(key) != 24 && len(key) != 32, 7}, {data > 0 && s.Alg < 4, 2}, {data > 64, 9}, {s.Out < 1 || s.Out > sum, 11}, {full, 8}},
		3:  {{none, 5}, {isKey, 6}, {data > 65536, 9}},
		4:  {{none, 5}, {isKey, 6}},
		5:  {{none, 5}, {isKey, 6}, {data != out, 11}},
		6:  {{none, 5}, {full, 8}},
		7:  {{none, 5}, {isSession, 6}, {noHmac, 4}, {data > 65536, 9}, {more > 65536, 9}, {s.Out > 255*sum, 9}, noLength, {full, 8}},
		8:  {{none, 5}, {isSession, 6}, {noHmac, 4}, {data > 65536, 9}, {s.Out > (1<<32-1)*sum, 9}, {s.Count < 1, 10}, {s.Count > 1<<20, 10}, noLength, {full, 8}},
		9:  {{none, 5}, {isSession, 6}},
		10: {{none, 5}},
	}
}

// code is the first code that applies.
func (v *shelf) code(s api.Skeleton) api.Errno {
	rules, is := v.rules(s)[s.Kind]
	if !is {
		return 3
	}
	for _, r := range rules {
		if r.applies {
			return r.code
		}
	}
	return 0
}

// do does an operation.
func (v *shelf) do(t *testing.T, o api.Op) api.Errno {
	t.Helper()
	code := v.code(skel.Of(o))
	v.l.Note(api.Event{Kind: api.EvOp, Size: int(o.Kind)})
	if code == api.OK {
		if e := v.work(o); e != api.OK {
			t.Fatalf("%+v: %d", skel.Of(o), e)
		}
	}
	v.l.Note(api.Event{Kind: api.EvCode, Size: int(code)})
	return code
}

// work does an operation that is not refused; the error is that of a layer below, and none.
func (v *shelf) work(o api.Op) api.Errno {
	key, _ := v.at(o.Handle).([]byte)
	session, isSession := v.at(o.Handle).(*mac.Session)
	switch o.Kind {
	case api.OpPut:
		v.take(bytes.Clone(o.Data))
	case api.OpBegin:
		s, e := mac.Begin(v.l, o.Alg, key, o.Data, o.Out)
		v.take(s)
		return e
	case api.OpUpdate:
		return session.Write(v.l, o.Data)
	case api.OpFinish:
		_, e := session.Sum(v.l)
		v.free(o.Handle)
		return e
	case api.OpVerify:
		_, e := session.Verify(v.l, o.Data)
		v.free(o.Handle)
		return e
	case api.OpClone:
		if !isSession {
			v.take(bytes.Clone(key))
			return api.OK
		}
		s, e := session.Clone()
		v.take(s)
		return e
	case api.OpHkdf:
		made, e := hkdf.Key(v.l, o.Alg, key, o.Data, o.More, o.Out)
		v.take(made)
		return e
	case api.OpPbkdf:
		made, e := pbkdf2.Key(v.l, o.Alg, key, o.Data, o.Count, o.Out)
		v.take(made)
		return e
	case api.OpDrop:
		v.free(o.Handle)
	}
	return api.OK
}

// both are a shelf and what is public of it.
type both struct {
	t *testing.T
	v *shelf
	p *cost.Public
	r *rand.Rand
	// done are the skeletons of what was done, codes their codes.
	done  []api.Skeleton
	codes []api.Errno
}

// newBoth makes both, empty; the seed is that of the bytes.
func newBoth(t *testing.T, seed int64) *both {
	return &both{t: t, v: &shelf{l: ledger.New()}, p: cost.New(), r: rand.New(rand.NewSource(seed))}
}

// bytes makes so many bytes.
func (b *both) bytes(n int) []byte {
	l := make([]byte, max(n, 0))
	b.r.Read(l)
	return l
}

// do does an operation of each skeleton, with some bytes, and wants of the skeleton what the operation records and answers.
func (b *both) do(l ...api.Skeleton) *both {
	b.t.Helper()
	for _, s := range l {
		o := api.Op{Kind: s.Kind, Handle: s.Handle, Alg: s.Alg, Count: s.Count, Out: s.Out, Data: b.bytes(s.Data), More: b.bytes(s.More)}
		mark := b.v.l.Mark()
		code := b.v.do(b.t, o)
		want := b.v.l.Since(mark)
		runs, e := b.p.Do(skel.Of(o))
		if e != code || !ledger.Same(runs, want) {
			b.t.Fatalf("%+v, behind %+v: %v, %d, want %v, %d", s, b.done, runs, e, want, code)
		}
		wantShape(b.t, s, runs, e)
		wantHeld(b.t, b.p, b.v.held())
		b.done, b.codes = append(b.done, skel.Of(o)), append(b.codes, code)
	}
	return b
}

// end wants of all that was done the ledger and the codes.
func (b *both) end() {
	b.t.Helper()
	if got := cost.Runs(b.done); !ledger.Same(got, b.v.l.Runs()) {
		b.t.Fatalf("of %+v: Runs %v, want %v", b.done, got, b.v.l.Runs())
	}
	if got := cost.Codes(b.done); !slices.Equal(got, b.codes) {
		b.t.Fatalf("of %+v: Codes %v, want %v", b.done, got, b.codes)
	}
}

// keyLengths are the lengths of keys that what is recorded turns at, of an algorithm.
func keyLengths(a api.Alg) []int {
	if a == api.AlgCmac {
		return []int{16, 24, 32}
	}
	return []int{0, 1, 16, 24, 31, 32, 33, 55, 56, 64, 65, 111, 112, 119, 120, 127, 128, 129, 130, 131, 132, 133, 162, 163, 164, 165, 239, 240, 241, 266, 267, 268, 269, 330, 331, 332, 333, 403, 404, 511, 512}
}

func TestSessionsKeys(t *testing.T) { // P22.2, P22.5: against mac, keys and customizations of each length
	for _, a := range algs() {
		for _, n := range append(keyLengths(a), 0, 15, 17, 512) {
			newBoth(t, 1).do(put(n), begin(0, a, 0, most(a)), update(1, 20), finish(1)).end()
		}
		for _, custom := range []int{0, 1, 30, 31, 32, 33, 63, 64, 65} {
			newBoth(t, 2).do(put(16), begin(0, a, custom, 9), begin(0, a, custom, 0), update(1, 200), verify(1, 9)).end()
		}
	}
}

func TestSessionsTags(t *testing.T) { // P22.2, P22.5: against mac, messages of each length about two blocks, tags of each length at its edges
	for _, a := range algs() {
		for _, out := range []int{0, 1, 2, 15, 16, 17, 31, 32, 33, 63, 64, 65} {
			b := newBoth(t, 3).do(put(16))
			for n := range 2*block(a) + 2 {
				b.do(begin(0, a, 0, out), update(1, n), clone(1), finish(1), verify(2, out))
			}
			b.end()
		}
	}
}

func TestSessionsPieces(t *testing.T) { // P22.2, P22.5, P3: against mac, messages cut in all ways
	for _, a := range algs() {
		n := block(a)
		sizes := []int{0, 1, 2, n - 2, n - 1, n, n + 1, 2 * n, 3*n + 7}
		b := newBoth(t, 4).do(put(24), begin(0, a, 0, 8))
		for _, one := range sizes {
			for _, two := range sizes {
				b.do(clone(1), update(2, one), update(2, two), update(2, one), update(1, two), finish(2))
			}
		}
		b.do(update(1, 65536), update(1, 65537), update(1, 0), update(1, 65535), update(1, 1), update(1, n), verify(1, 8)).end()
	}
}

func TestSessionsClones(t *testing.T) { // P22.2, P22.5: against mac, each going on by itself
	for _, a := range algs() {
		n := block(a)
		newBoth(t, 5).do(put(32), clone(0), begin(1, a, 0, 16), update(2, n-1), clone(2), update(2, 2), clone(2), update(3, n), update(4, 2*n), update(2, 1), drop(0), clone(1), drop(1),
			verify(3, 16), verify(4, 15), clone(4), finish(4), finish(2), finish(4), update(1, 40), update(1, n), finish(1), finish(0), reveal(0)).end()
	}
}

func TestRealHkdf(t *testing.T) { // P22.2, P22.5: against hkdf
	for _, a := range hmacs() {
		sum, n := most(a), block(a)
		b := newBoth(t, 6)
		for _, key := range []int{0, 1, 16, n - n/8 - 1, n - n/8, n - 1, n, n + 1, 512} {
			b.do(put(key))
			for _, list := range []int{0, 1, 10, n - n/8 - sum - 2, n - n/8 - sum - 1, n - sum - 1, n - n/8 - 2, n - n/8 - 1, n - 1, n, n + 1, 2*n - n/8, 1000} {
				for _, out := range []int{1, 32, 33, 64, 65, 512} {
					b.do(derive(0, a, list, 0, out), drop(1), derive(0, a, 0, list, out), drop(1), derive(0, a, list, list, out), drop(1))
				}
			}
			b.do(drop(0))
		}
		b.do(put(16), derive(0, a, 65536, 0, 32), derive(1, a, 0, 65536, 512), derive(2, a, 65536, 65536, 65), derive(3, a, 65537, 0, 1), derive(3, a, 0, 65537, 1), derive(3, a, 0, 0, 0), derive(3, a, 0, 0, 513), derive(3, a, 0, 0, math.MaxInt), derive(3, 3, 0, 0, 1)).end()
	}
}

func TestRealPbkdf(t *testing.T) { // P22.2, P22.5: against pbkdf2
	for _, a := range hmacs() {
		n := block(a)
		b := newBoth(t, 7)
		for _, key := range []int{0, 1, 16, n - n/8, n - 1, n, n + 1, 2*n - n/8, 512} {
			b.do(put(key))
			for _, salt := range []int{0, 1, 8, n - n/8 - 5, n - n/8 - 4, n - 5, n - 4, n, n + 1, 1000} {
				for _, out := range []int{1, 32, 33, 64, 65, 512} {
					b.do(stretch(0, a, salt, 1, out), drop(1), stretch(0, a, salt, 2, out), drop(1))
				}
				b.do(stretch(0, a, salt, 9, 70), drop(1))
			}
			b.do(drop(0))
		}
		b.do(put(16), stretch(0, a, 65536, 1, 32), stretch(1, a, 65536, 3, 512), stretch(2, a, 65537, 1, 1), stretch(2, a, 0, 0, 1), stretch(2, a, 0, 1<<20+1, 1), stretch(2, a, 0, 1, 0), stretch(2, a, 0, 1, 513), stretch(2, a, 0, 1, math.MaxInt), stretch(2, 4, 0, 1, 1)).end()
	}
}

func TestRealPbkdfWithTheGreatestCount(t *testing.T) { // P22.2, P22.5: against pbkdf2
	for _, a := range hmacs() {
		t.Run("", func(t *testing.T) {
			t.Parallel()
			newBoth(t, 8).do(put(16), stretch(0, a, 8, 1<<20, 1)).end()
		})
	}
}

func TestRandomScripts(t *testing.T) { // P22.2 to P22.5, P4: whatever is done, whatever the bytes are
	for i := range 40 {
		t.Run("", func(t *testing.T) {
			t.Parallel()
			r := rand.New(rand.NewSource(int64(2000 + i)))
			l := mixed(r, 250)
			// What would take long, and what no list of bytes can be, stands in the tests of its own kind.
			l = slices.DeleteFunc(l, func(s api.Skeleton) bool {
				return s.Kind == api.OpPbkdf && s.Count == 1<<20 || s.Data > 65537 || s.More > 65537 || s.Data > 1000 && i > 3
			})
			one, two := newBoth(t, int64(i)), newBoth(t, int64(-i-1))
			one.do(l...).end()
			two.do(l...).end()
			if !ledger.Same(one.v.l.Runs(), two.v.l.Runs()) || !slices.Equal(one.codes, two.codes) {
				t.Fatal("with other bytes it is another ledger")
			}
		})
	}
}

func TestCodesAgainstRules(t *testing.T) { // P22.2, P22.4: all that may be refused together, in their order, with handles free and with none
	handles := []int{-1, 64, 0, 1, 2, 4}
	values := []int{-1, 0, 1, 16, 17, 32, 33, 64, 65, 512, 513, 8160, 8161, 16320, 16321, 32 * (1<<32 - 1), 32*(1<<32-1) + 1, 64 * (1<<32 - 1), 64*(1<<32-1) + 1, math.MaxInt}
	lengths := []int{-1, 0, 1, 16, 64, 65, 512, 513, 65536, 65537}
	setup := func(full bool) *both {
		b := newBoth(t, 9).do(put(16), put(20), begin(0, 1, 0, 20), begin(0, 3, 0, 16), put(0))
		for full && len(b.v.held()) < 64 {
			b.do(put(24))
		}
		return b
	}
	for _, full := range []bool{false, true} {
		b, q := setup(full), setup(full)
		// Handle 5 is free, if any is; the others are a key, a key that is no cipher's, a session, and an empty key.
		if !full {
			handles = append(handles, 5)
		}
		try := func(s api.Skeleton) {
			want := b.v.code(s)
			if want == api.OK {
				// On its own, for it changes what is public.
				if e := cost.Codes(append(slices.Clone(b.done), s)); e[len(b.done)] != api.OK {
					t.Fatalf("%+v, full %v: %d, want it done", s, full, e[len(b.done)])
				}
				return
			}
			wantDo(t, b.p, s, want)
		}
		for k := range api.OpKind(13) {
			for _, h := range handles {
				for _, data := range lengths {
					try(api.Skeleton{Kind: k, Handle: h, Data: data})
					if k != api.OpBegin && k != api.OpHkdf && k != api.OpPbkdf {
						continue
					}
					for a := range api.Alg(9) {
						for _, out := range values {
							s := api.Skeleton{Kind: k, Handle: h, Alg: a, Data: data, Out: out, Count: 1}
							try(s)
							for _, n := range []int{0, 1 << 20, 1<<20 + 1, 65536, 65537} {
								s.Count, s.More = n, n
								try(s)
							}
						}
					}
				}
			}
		}
		wantAlike(t, b.p, q.p)
	}
}
