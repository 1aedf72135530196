package vault_test

import (
	"bytes"
	"crypto/pbkdf2"
	"crypto/sha256"
	"crypto/sha512"
	"encoding/hex"
	"hash"
	"math"
	"math/rand"
	"reflect"
	"slices"
	"sync"
	"testing"

	"turnkey/api"
	"turnkey/cost"
	"turnkey/ledger"
	"turnkey/mac"
	"turnkey/op"
	"turnkey/skel"
	"turnkey/vault"
)

var fox = []byte("The quick brown fox jumps over the lazy dog")

// unhex is bytes as the document tells them.
func unhex(t *testing.T, s string) []byte {
	t.Helper()
	b, err := hex.DecodeString(s)
	if err != nil {
		t.Fatal(err)
	}
	return b
}

// algs are all seven algorithms.
func algs() []api.Alg { return []api.Alg{1, 2, 3, 4, 5, 6, 7} }

// noHandles are numbers that are no handle.
func noHandles() []int {
	return []int{-1, -2, -63, -64, 64, 65, 128, 256, 1 << 32, 1<<32 + 1, -1 << 32, math.MinInt, math.MinInt + 1, math.MaxInt - 1, math.MaxInt}
}

// withHandle are operations of each kind that has a handle, with arguments that may be.
func withHandle(h int) []api.Op {
	return []api.Op{begin(h, 1, nil, 1), update(h, []byte{1}), finish(h), verify(h, []byte{1}), clone(h), derive(h, 1, nil, nil, 1), stretch(h, 1, nil, 1, 1), reveal(h), drop(h)}
}

// look is a slot's memory.
func look(t *testing.T, v *vault.Vault, h int) api.Slot {
	t.Helper()
	s, e := v.Look(h)
	if e != api.OK {
		t.Fatalf("Look(%d): %d", h, e)
	}
	return s
}

// recorded is what a vault records of an operation, and its answer.
func recorded(v *vault.Vault, o api.Op) ([]api.Run, api.Answer) {
	mark := v.Ledger().Mark()
	a := v.Do(o)
	return v.Ledger().Since(mark), a
}

func TestExamples(t *testing.T) { // the chapter's, in its order
	a := newAll(t)
	tag := unhex(t, "f7bc83f430538424b13298e6aa6fb143ef4d59a14946175997479dbc2d1a3cd8")
	a.does(put([]byte("key")), 0, 0)
	a.does(begin(0, api.AlgHmac256, nil, 32), 0, 1, sha256s(2))
	a.does(update(1, fox), 0, 0)
	a.does(clone(1), 0, 2)
	if got := a.does(finish(1), 0, 0, sha256s(2), wipe()); !bytes.Equal(got.Bytes, tag) {
		t.Fatalf("the tag %x", got.Bytes)
	}
	if look(t, a.v, 1) != (api.Slot{}) {
		t.Fatal("slot 1 is not wiped")
	}
	if got := a.does(verify(2, tag), 0, 0, sha256s(2), compare(32), wipe()); !got.Same {
		t.Fatal("the tag is not the tag")
	}
	a.does(verify(2, tag), api.ErrHandle, 0)
	a.does(derive(0, api.AlgHmac256, nil, []byte("a"), 16), 0, 1, sha256s(4), sha256s(2), sha256s(2))
	if got := a.does(reveal(1), 0, 0); len(got.Bytes) != 16 {
		t.Fatalf("the key %x", got.Bytes)
	}
	a.does(begin(0, api.AlgCmac, nil, 16), api.ErrKeyLen, 0)
	a.does(begin(1, api.AlgCmac, nil, 16), 0, 2, schedule(16), blocks(16, 1))
	a.does(update(0, nil), api.ErrKind, 0)
	a.does(reveal(2), api.ErrKind, 0)
	a.does(drop(9), api.ErrHandle, 0)
	a.does(drop(-1), api.ErrHandle, 0)
	a.does(api.Op{Kind: 0}, api.ErrOp, 0)
	a.does(api.Op{Kind: 11}, api.ErrOp, 0)
	a.does(put(numbers(513)), api.ErrKeyLen, 0)
	for i := range 64 {
		if i < 61 {
			a.does(put(nil), 0, i+3)
		} else {
			a.does(put(nil), api.ErrFull, 0)
		}
	}
	was := a.v.Ledger().Runs()
	if got := a.v.DoBytes(nil); !sameAnswer(got, api.Answer{Code: api.ErrBytes}) || !ledger.Same(a.v.Ledger().Runs(), was) {
		t.Fatalf("DoBytes of none: %+v", got)
	}
	a.end()
}

func TestExamplesOfTheWhole(t *testing.T) { // DOC.md's examples 4 to 9
	message := []byte("what do ya want for nothing?")
	tag := unhex(t, "5bdcc146bf60754e6a042426089575c75a003f089d2739839dec58b964ec3843")
	begun := func(l *ledger.Ledger) *vault.Vault {
		v := vault.New(l)
		v.Do(put([]byte("Jefe")))
		v.Do(begin(0, api.AlgHmac256, nil, 32))
		v.Do(update(1, message[:16]))
		return v
	}
	l := ledger.New()
	v := begun(l)
	v.Do(update(1, message[16:]))
	if got := v.Do(finish(1)); !sameAnswer(got, api.Answer{Bytes: tag}) || look(t, v, 1) != (api.Slot{}) {
		t.Fatalf("4: %+v", got)
	}
	code := run(api.EvCode, 0, 1)
	want := []api.Run{run(api.EvOp, 1, 1), code, run(api.EvOp, 2, 1), sha256s(2), code, run(api.EvOp, 3, 1), code, run(api.EvOp, 3, 1), code, run(api.EvOp, 4, 1), sha256s(2), wipe(), code}
	if !ledger.Same(l.Runs(), want) {
		t.Fatalf("5: %v", l.Runs())
	}

	v = begun(ledger.New())
	v.Do(update(1, message[16:]))
	if runs, got := recorded(v, verify(1, tag[:31])); !sameAnswer(got, api.Answer{Code: api.ErrTagLen}) || !ledger.Same(runs, []api.Run{run(api.EvOp, 5, 1), run(api.EvCode, 11, 1)}) {
		t.Fatalf("6: %+v, %v", got, runs)
	}
	if got := v.Do(verify(1, make([]byte, 32))); !sameAnswer(got, api.Answer{}) {
		t.Fatalf("6: %+v", got)
	}

	v = begun(ledger.New())
	if got := v.Do(clone(1)); !sameAnswer(got, api.Answer{Handle: 2}) {
		t.Fatalf("7: %+v", got)
	}
	v.Do(update(1, []byte("something else")))
	v.Do(update(2, message[16:]))
	if got := v.Do(finish(2)); !bytes.Equal(got.Bytes, tag) {
		t.Fatalf("7: %+v", got)
	}
	if got := v.Do(verify(1, tag)); !sameAnswer(got, api.Answer{}) {
		t.Fatalf("7: %+v", got)
	}

	a := newAll(t).fill()
	a.does(put(nil), api.ErrFull, 0)
	a.does(drop(5), 0, 0, wipe())
	a.does(put(nil), 0, 5)

	a = newAll(t)
	a.does(put([]byte("password")), 0, 0)
	a.does(stretch(0, api.AlgHmac256, []byte("salt"), 1, 32), 0, 1, sha256s(4))
	if got := a.does(reveal(1), 0, 0); !bytes.Equal(got.Bytes, unhex(t, "120fb6cffcf8b32c43e7225256c4f837a86548c92ccc35480805987cb70be17b")) {
		t.Fatalf("9: %x", got.Bytes)
	}
	a.end()
}

func TestErrorsAreTheDocuments(t *testing.T) { // Errors
	for want, e := range []api.Errno{api.OK, api.ErrNil, api.ErrArg, api.ErrOp, api.ErrAlg, api.ErrHandle, api.ErrKind, api.ErrKeyLen, api.ErrFull, api.ErrLong, api.ErrCount, api.ErrTagLen} {
		if int(e) != want {
			t.Errorf("%d, want %d", int(e), want)
		}
	}
	if api.ErrBytes != 300 {
		t.Errorf("ErrBytes is %d", int(api.ErrBytes))
	}
}

func TestCallsAreTheChapters(t *testing.T) { // Functions: what is embedded makes no other calls
	var names []string
	for i := range reflect.TypeFor[*vault.Vault]().NumMethod() {
		names = append(names, reflect.TypeFor[*vault.Vault]().Method(i).Name)
	}
	if !slices.Equal(names, []string{"Do", "DoBytes", "Free", "Held", "Ledger", "Look"}) {
		t.Errorf("the calls are %v", names)
	}
	if n := reflect.TypeFor[vault.Vault]().NumMethod(); n != 0 {
		t.Errorf("%d calls of a value", n)
	}
	for f := range reflect.TypeFor[vault.Vault]().Fields() {
		if f.IsExported() {
			t.Errorf("the field %s", f.Name)
		}
	}
}

func TestNew(t *testing.T) { // P24.1
	begun := ledger.New()
	begun.NoteTimes(api.Event{Kind: api.EvWipe, Size: 1024}, 3)
	for _, l := range []*ledger.Ledger{nil, ledger.New(), {}, begun} {
		was := l.Runs()
		v := vault.New(l)
		if v.Ledger() != l || v.Free() != 64 || len(v.Held()) != 0 {
			t.Fatalf("Ledger %p, want %p; Free %d, Held %v", v.Ledger(), l, v.Free(), v.Held())
		}
		for h := range 64 {
			if look(t, v, h) != (api.Slot{}) {
				t.Fatalf("slot %d", h)
			}
			for _, o := range withHandle(h) {
				if got := vault.New(l).Do(o); !sameAnswer(got, api.Answer{Code: api.ErrHandle}) {
					t.Fatalf("%+v: %+v", o, got)
				}
			}
		}
		if l != nil {
			if !ledger.Same(l.Since(0)[:len(was)], was) || l.Len() != ledger.Total(was)+64*9*2 {
				t.Fatalf("recorded are %v behind %v", l.Runs(), was)
			}
		}
	}
}

func TestNone(t *testing.T) { // rule 4: a vault that is nil, or that New did not make, in every call
	var none *vault.Vault
	b, _ := op.Encode(put(nil))
	for _, v := range []*vault.Vault{none, {}, new(vault.Vault)} {
		for range 2 {
			for k := range 256 {
				for _, o := range []api.Op{{Kind: api.OpKind(k)}, {Kind: api.OpKind(k), Handle: 64, Alg: 9, Out: -1, Count: -1, Data: make([]byte, 66000), More: make([]byte, 66000)}} {
					if got := v.Do(o); !sameAnswer(got, api.Answer{Code: api.ErrNil}) {
						t.Fatalf("Do: %+v", got)
					}
				}
			}
			for _, in := range [][]byte{nil, {}, b, b[1:], make([]byte, 32), append(bytes.Clone(b), 0)} {
				if got := v.DoBytes(in); !sameAnswer(got, api.Answer{Code: api.ErrNil}) {
					t.Fatalf("DoBytes: %+v", got)
				}
			}
			for _, h := range append(noHandles(), 0, 1, 63) {
				if s, e := v.Look(h); s != (api.Slot{}) || e != api.ErrNil {
					t.Fatalf("Look(%d): %d", h, e)
				}
			}
			if v.Free() != 0 || len(v.Held()) != 0 || v.Ledger() != nil {
				t.Fatal("it has something")
			}
		}
	}
}

func TestKindsThatAreNone(t *testing.T) { // P24.2: whatever stands in their fields
	a := newAll(t)
	a.do(put(numbers(16)))
	a.do(begin(0, 1, nil, 16))
	for k := range 256 {
		if k >= 1 && k <= 10 {
			continue
		}
		for _, o := range []api.Op{{}, {Handle: 1, Alg: 1, Count: 1, Out: 16, Data: numbers(16), More: numbers(16)}, {Handle: -1, Alg: 255, Count: -1, Out: -1}, {Handle: math.MaxInt, Count: math.MinInt, Out: math.MaxInt, Data: numbers(600)}} {
			o.Kind = api.OpKind(k)
			a.does(o, api.ErrOp, 0)
		}
	}
	a.fill()
	a.does(api.Op{}, api.ErrOp, 0)
	a.does(api.Op{Kind: 11}, api.ErrOp, 0)
	a.end()
}

func TestUnusedFieldsCountForNothing(t *testing.T) { // P24.2: also if they are what would be refused in a used one
	l := []api.Op{put(numbers(16)), begin(0, 4, numbers(5), 40), update(1, numbers(170)), clone(1), verify(1, numbers(40)), finish(2), derive(0, 1, numbers(5), numbers(6), 40), stretch(0, 2, numbers(7), 8, 90), reveal(1), drop(2), {Kind: 0}, {Kind: 11}}
	great := numbers(65537)
	for _, n := range []int{math.MinInt, -1, 0, 1, 2, 63, 64, 513, 1 << 40, math.MaxInt} {
		v, w := vault.New(ledger.New()), vault.New(ledger.New())
		for _, o := range l {
			full := api.Op{Kind: o.Kind, Handle: n, Alg: api.Alg(n), Count: n, Out: n, Data: great, More: great}
			for _, name := range op.Uses(o.Kind) {
				reflect.ValueOf(&full).Elem().FieldByName(name).Set(reflect.ValueOf(o).FieldByName(name))
			}
			one, two := v.Do(o), w.Do(full)
			if !sameAnswer(one, two) || !ledger.Same(v.Ledger().Runs(), w.Ledger().Runs()) {
				t.Fatalf("%+v: %+v, with the fields %d that it does not use %+v", skel.Of(o), one, n, two)
			}
		}
		wantSameMemory(t, v, w)
	}
}

// crowd is a vault with 0: a key of 16 bytes; 1: a key of 20; 2: an HMAC session with tags of 20 bytes; 3: a CMAC session of 16; 4: an empty key; 5: free, unless it is full.
func crowd(t *testing.T, full bool) *all {
	t.Helper()
	a := newAll(t)
	a.does(put(numbers(16)), 0, 0)
	a.does(put(numbers(20)), 0, 1)
	a.does(begin(0, 1, nil, 20), 0, 2, sha256s(2))
	a.does(begin(0, 3, nil, 16), 0, 3, schedule(16), blocks(16, 1))
	a.does(put(nil), 0, 4)
	a.does(update(2, numbers(70)), 0, 0, sha256s(1))
	a.does(update(3, numbers(40)), 0, 0, blocks(16, 2))
	if full {
		a.fill()
	}
	return a
}

func TestCodesWrittenOut(t *testing.T) { // P24.2, P6: each code of each kind, and where two apply the one that comes first
	free, full := crowd(t, false), crowd(t, true)
	n := numbers
	wide := n(65537)
	for _, c := range []struct {
		a    *all
		o    api.Op
		want api.Errno
	}{
		{free, put(n(513)), 7}, {free, put(wide), 7}, {full, put(n(513)), 7}, {full, put(n(512)), 8}, {full, put(nil), 8},

		{free, begin(5, 1, nil, 20), 5}, {free, begin(64, 0, n(65), 0), 5}, {full, begin(-1, 0, n(65), 0), 5},
		{free, begin(2, 1, nil, 20), 6}, {free, begin(2, 0, n(65), 0), 6}, {full, begin(3, 3, n(65), 0), 6},
		{free, begin(1, 0, nil, 20), 4}, {free, begin(1, 8, n(65), 0), 4}, {full, begin(1, 255, n(65), 99), 4},
		{free, begin(1, 3, nil, 16), 7}, {free, begin(1, 3, n(1), 16), 7}, {free, begin(4, 3, n(65), 17), 7}, {full, begin(1, 3, n(65), 0), 7},
		{free, begin(0, 3, n(1), 16), 2}, {free, begin(0, 3, n(65), 16), 2}, {free, begin(1, 1, n(1), 20), 2}, {free, begin(1, 2, n(65), 0), 2}, {full, begin(1, 2, wide, 65), 2},
		{free, begin(1, 4, n(65), 20), 9}, {free, begin(1, 5, n(65), 0), 9}, {full, begin(1, 6, n(65), 65), 9}, {full, begin(1, 7, wide, 0), 9},
		{free, begin(1, 1, nil, 0), 11}, {free, begin(1, 1, nil, 33), 11}, {full, begin(0, 3, nil, 17), 11}, {full, begin(1, 7, n(64), 65), 11},
		{full, begin(1, 1, nil, 20), 8}, {full, begin(0, 3, nil, 16), 8}, {full, begin(1, 4, n(64), 64), 8},

		{free, update(5, n(1)), 5}, {free, update(5, wide), 5}, {full, update(64, wide), 5},
		{free, update(0, n(1)), 6}, {free, update(0, wide), 6}, {full, update(1, wide), 6}, {free, update(2, wide), 9}, {full, update(3, wide), 9},

		{free, finish(5), 5}, {full, finish(64), 5}, {free, finish(0), 6}, {full, finish(63), 6},

		{free, verify(5, n(20)), 5}, {free, verify(5, n(19)), 5}, {full, verify(-1, n(20)), 5}, {free, verify(1, n(20)), 6}, {free, verify(4, nil), 6}, {full, verify(63, n(20)), 6},
		{free, verify(2, n(19)), 11}, {free, verify(2, n(21)), 11}, {full, verify(3, nil), 11}, {full, verify(2, wide), 11},

		{free, clone(5), 5}, {full, clone(64), 5}, {full, clone(0), 8}, {full, clone(2), 8}, {full, clone(4), 8},

		{free, derive(5, 1, nil, nil, 1), 5}, {free, derive(5, 0, wide, nil, 0), 5}, {full, derive(64, 3, nil, wide, 9999), 5},
		{free, derive(2, 1, nil, nil, 1), 6}, {free, derive(2, 3, wide, nil, 0), 6}, {full, derive(2, 0, nil, wide, 513), 6},
		{free, derive(0, 0, nil, nil, 1), 4}, {free, derive(0, 3, wide, wide, 0), 4}, {full, derive(0, 4, nil, nil, 1<<40), 4},
		{free, derive(0, 1, wide, nil, 1), 9}, {free, derive(0, 2, nil, wide, 1), 9}, {free, derive(0, 1, wide, nil, 0), 9}, {full, derive(0, 2, nil, wide, 513), 9},
		{free, derive(0, 1, nil, nil, 8161), 9}, {full, derive(0, 2, nil, nil, 16321), 9}, {full, derive(0, 1, nil, nil, math.MaxInt), 9},
		{free, derive(0, 1, nil, nil, 8160), 7}, {free, derive(0, 2, nil, nil, 16320), 7}, {free, derive(0, 2, nil, nil, 8161), 7}, {free, derive(0, 1, nil, nil, 0), 7}, {full, derive(0, 1, nil, nil, -1), 7}, {full, derive(0, 2, nil, nil, 513), 7}, {full, derive(0, 2, nil, nil, math.MinInt), 7},
		{full, derive(0, 1, n(65536), n(65536), 512), 8}, {full, derive(0, 2, nil, nil, 1), 8},

		{free, stretch(5, 1, nil, 1, 1), 5}, {free, stretch(5, 0, wide, 0, 0), 5}, {full, stretch(64, 3, wide, 0, 0), 5},
		{free, stretch(2, 1, nil, 1, 1), 6}, {free, stretch(2, 3, wide, 0, 0), 6}, {full, stretch(2, 0, wide, 0, 1<<40), 6},
		{free, stretch(0, 0, nil, 1, 1), 4}, {free, stretch(0, 3, wide, 0, 0), 4}, {full, stretch(0, 7, nil, 0, 1<<40), 4},
		{free, stretch(0, 1, wide, 1, 1), 9}, {free, stretch(0, 1, wide, 0, 0), 9}, {full, stretch(0, 2, wide, 1<<20+1, 513), 9},
		{free, stretch(0, 1, nil, 1, 32*(1<<32-1)+1), 9}, {free, stretch(0, 2, nil, 0, 64*(1<<32-1)+1), 9}, {full, stretch(0, 2, nil, 0, math.MaxInt), 9},
		{free, stretch(0, 1, nil, 0, 1), 10}, {free, stretch(0, 1, nil, 1<<20+1, 1), 10}, {free, stretch(0, 1, nil, -1, 0), 10}, {full, stretch(0, 2, nil, 0, 513), 10}, {free, stretch(0, 1, nil, math.MinInt, 1), 10}, {free, stretch(0, 1, nil, math.MaxInt, 1), 10}, {free, stretch(0, 1, nil, 0, 32*(1<<32-1)), 10}, {free, stretch(0, 2, nil, 0, 64*(1<<32-1)), 10},
		{free, stretch(0, 1, nil, 1, 0), 7}, {free, stretch(0, 1, nil, 1, 513), 7}, {free, stretch(0, 1, nil, 1, 16321), 7}, {free, stretch(0, 1, nil, 1, 32*(1<<32-1)), 7}, {full, stretch(0, 2, nil, 1<<20, 64*(1<<32-1)), 7}, {full, stretch(0, 2, nil, 1, -1), 7},
		{full, stretch(0, 1, n(65536), 1<<20, 512), 8}, {full, stretch(0, 2, nil, 1, 1), 8},

		{free, reveal(5), 5}, {full, reveal(64), 5}, {free, reveal(2), 6}, {full, reveal(3), 6}, {free, drop(5), 5}, {full, drop(64), 5},
		{free, api.Op{}, 3}, {full, api.Op{Kind: 11}, 3}, {full, api.Op{Kind: 255, Handle: 3}, 3},
	} {
		if got := c.a.does(c.o, c.want, 0); got.Same || len(got.Bytes) != 0 {
			t.Fatalf("%+v: beside a code there is %+v", skel.Of(c.o), got)
		}
	}
	free.end()
	full.end()
}

func TestCodesAgainstRules(t *testing.T) { // P24.2, P6: all that may be refused together, in their order, with handles free and with none
	zeros := make([]byte, 65537)
	outs := []int{-1, 0, 1, 16, 17, 20, 32, 33, 64, 65, 512, 513, 8160, 8161, 16320, 16321, 32*(1<<32-1) + 1, 64 * (1<<32 - 1), math.MaxInt}
	for _, isFull := range []bool{false, true} {
		a := crowd(t, isFull)
		try := func(o api.Op) {
			want := a.code(o)
			if want == api.OK {
				return
			}
			mark := a.v.Ledger().Mark()
			got := a.v.Do(o)
			if !sameAnswer(got, api.Answer{Code: want}) || !ledger.Same(a.v.Ledger().Since(mark), []api.Run{run(api.EvOp, int(o.Kind), 1), run(api.EvCode, int(want), 1)}) {
				t.Fatalf("%+v, full %v: %+v, recorded %v, want %d", skel.Of(o), isFull, got, a.v.Ledger().Since(mark), want)
			}
		}
		for k := range api.OpKind(13) {
			for _, h := range []int{-1, 64, 0, 1, 2, 3, 4, 5, 63} {
				for _, n := range []int{0, 1, 16, 20, 64, 65, 512, 513, 65536, 65537} {
					try(api.Op{Kind: k, Handle: h, Data: zeros[:n]})
					if k != api.OpBegin && k != api.OpHkdf && k != api.OpPbkdf {
						continue
					}
					for alg := range api.Alg(9) {
						for _, out := range outs {
							for _, count := range []int{0, 1, 1 << 20, 1<<20 + 1} {
								try(api.Op{Kind: k, Handle: h, Alg: alg, Data: zeros[:n], Out: out, Count: count})
							}
							try(api.Op{Kind: k, Handle: h, Alg: alg, Data: zeros[:n], More: zeros[:65536], Out: out, Count: 1})
							try(api.Op{Kind: k, Handle: h, Alg: alg, Data: zeros[:n], More: zeros, Out: out, Count: 1})
						}
					}
				}
			}
		}
		a.wantSlots()
		// No later answer is another one.
		for _, h := range a.held() {
			a.do(finish(h))
			a.do(reveal(h))
			a.do(drop(h))
		}
	}
}

func TestHandles(t *testing.T) { // P24.2, P24.4: numbers that are none, free ones, the first and the last
	a := crowd(t, false)
	for _, h := range append(noHandles(), 5, 6, 31, 62, 63) {
		for _, o := range withHandle(h) {
			a.does(o, api.ErrHandle, 0)
		}
	}
	for _, h := range noHandles() {
		if s, e := a.v.Look(h); s != (api.Slot{}) || e != api.ErrHandle {
			t.Errorf("Look(%d): %d", h, e)
		}
	}
	a.end()
	// Each call of the least and of the greatest handle, for a key and for a session.
	for _, h := range []int{0, 63} {
		a := newAll(t)
		for range h {
			a.do(put(nil))
		}
		a.does(put(numbers(16)), 0, h)
		if h == 63 {
			a.does(drop(7), 0, 0, wipe())
		}
		room := map[int]int{0: 1, 63: 7}[h]
		a.does(clone(h), 0, room)
		a.does(drop(room), 0, 0, wipe())
		a.does(derive(h, 1, nil, nil, 9), 0, room, sha256s(8))
		a.does(drop(room), 0, 0, wipe())
		a.does(stretch(h, 1, nil, 1, 9), 0, room, sha256s(4))
		a.does(drop(room), 0, 0, wipe())
		a.does(reveal(h), 0, 0)
		a.does(begin(h, 1, nil, 32), 0, room, sha256s(2))
		a.does(drop(h), 0, 0, wipe())
		// No other one is free, or none that is less.
		a.does(clone(room), 0, h)
		a.does(update(h, fox), 0, 0)
		a.does(verify(h, numbers(32)), 0, 0, sha256s(2), compare(32), wipe())
		a.does(clone(room), 0, h)
		a.does(finish(h), 0, 0, sha256s(2), wipe())
		a.does(finish(h), api.ErrHandle, 0)
		a.end()
	}
}

func TestPut(t *testing.T) { // P24.2, P24.5: keys of each length
	for n := range 520 {
		a := newAll(t)
		key := numbers(n)
		if n > 512 {
			a.does(put(key), api.ErrKeyLen, 0)
			continue
		}
		a.does(put(key), 0, 0)
		a.does(put(make([]byte, n)), 0, 1)
		var want api.Slot
		copy(want[:], key)
		if look(t, a.v, 0) != want || look(t, a.v, 1) != (api.Slot{}) {
			t.Fatalf("a key of %d bytes: %x", n, look(t, a.v, 0))
		}
		if got := a.does(reveal(0), 0, 0); !bytes.Equal(got.Bytes, key) {
			t.Fatalf("a key of %d bytes: %x", n, got.Bytes)
		}
		// A key of noughts is told apart from an empty one, and from a free slot, by its length alone.
		if got := a.does(reveal(1), 0, 0); len(got.Bytes) != n {
			t.Fatalf("a key of %d noughts: %x", n, got.Bytes)
		}
		a.does(drop(0), 0, 0, wipe())
		a.end()
	}
	newAll(t).does(put(numbers(65536)), api.ErrKeyLen, 0)
	newAll(t).does(put(numbers(1<<24-1)), api.ErrKeyLen, 0)
}

func TestBegin(t *testing.T) { // P24.2, P24.5: each algorithm, key, customization and tag at the edges
	a := newAll(t)
	keys := []int{0, 15, 16, 24, 32, 33, 200, 512}
	for _, n := range keys {
		a.do(put(numbers(n)))
	}
	room := len(keys)
	begun := map[api.Alg]int{}
	for alg := range api.Alg(10) {
		for _, out := range []int{math.MinInt, -1, 0, 1, 15, 16, 17, 31, 32, 33, 63, 64, 65, 1 << 32, math.MaxInt} {
			for _, custom := range []int{0, 1, 63, 64, 65, 200} {
				for h := range keys {
					if got := a.do(begin(h, alg, numbers(custom), out)); got.Code == api.OK {
						begun[alg]++
						a.do(update(room, fox))
						if got := a.do(finish(room)); len(got.Bytes) != out {
							t.Fatalf("a tag of %d bytes: %x", out, got.Bytes)
						}
					}
				}
			}
		}
	}
	// By hand: tags that may be, times keys, times customizations.
	want := map[api.Alg]int{1: 6 * 8, 2: 9 * 8, 3: 3 * 3, 4: 9 * 8 * 4, 5: 9 * 8 * 4, 6: 9 * 8 * 4, 7: 9 * 8 * 4}
	if !reflect.DeepEqual(begun, want) {
		t.Fatalf("begun are %v, want %v", begun, want)
	}
	a.end()
}

func TestBeginCmac(t *testing.T) { // P24.2: the cipher's keys, at each length
	for n := range 513 {
		a := newAll(t)
		a.do(put(numbers(n)))
		if n == 16 || n == 24 || n == 32 {
			a.does(begin(0, api.AlgCmac, nil, 16), 0, 1, schedule(n), blocks(n, 1))
			a.does(update(1, numbers(16)), 0, 0)
			a.does(update(1, numbers(1)), 0, 0, blocks(n, 1))
			a.does(verify(1, numbers(16)), 0, 0, blocks(n, 1), compare(16), wipe())
			continue
		}
		a.does(begin(0, api.AlgCmac, nil, 16), api.ErrKeyLen, 0)
	}
}

func TestRecordedWrittenOut(t *testing.T) { // P24.2, P4: sessions of each algorithm, counted by hand
	for _, c := range []struct {
		key, custom, out int
		alg              api.Alg
		begun            []api.Run
		// written is what 300 bytes record, then 100 more; summed what the tag of these does.
		written, more, summed []api.Run
	}{
		{16, 0, 32, 1, []api.Run{sha256s(2)}, []api.Run{sha256s(4)}, []api.Run{sha256s(2)}, []api.Run{sha256s(2)}},
		{65, 0, 1, 1, []api.Run{sha256s(4)}, []api.Run{sha256s(4)}, []api.Run{sha256s(2)}, []api.Run{sha256s(2)}},
		{16, 0, 64, 2, []api.Run{sha512s(2)}, []api.Run{sha512s(2)}, []api.Run{sha512s(1)}, []api.Run{sha512s(2)}},
		{129, 0, 64, 2, []api.Run{sha512s(4)}, []api.Run{sha512s(2)}, []api.Run{sha512s(1)}, []api.Run{sha512s(2)}},
		{16, 0, 16, 3, []api.Run{schedule(16), blocks(16, 1)}, []api.Run{blocks(16, 18)}, []api.Run{blocks(16, 6)}, []api.Run{blocks(16, 1)}},
		{24, 0, 16, 3, []api.Run{schedule(24), blocks(24, 1)}, []api.Run{blocks(24, 18)}, []api.Run{blocks(24, 6)}, []api.Run{blocks(24, 1)}},
		{32, 0, 3, 3, []api.Run{schedule(32), blocks(32, 1)}, []api.Run{blocks(32, 18)}, []api.Run{blocks(32, 6)}, []api.Run{blocks(32, 1)}},
		{16, 0, 32, 4, []api.Run{keccaks(2)}, []api.Run{keccaks(1)}, []api.Run{keccaks(1)}, []api.Run{keccaks(1)}},
		{16, 64, 64, 5, []api.Run{keccaks(2)}, []api.Run{keccaks(2)}, nil, []api.Run{keccaks(1)}},
		{200, 64, 64, 6, []api.Run{keccaks(3)}, []api.Run{keccaks(1)}, []api.Run{keccaks(1)}, []api.Run{keccaks(1)}},
		{512, 1, 1, 7, []api.Run{keccaks(5)}, []api.Run{keccaks(2)}, nil, []api.Run{keccaks(1)}},
	} {
		a := newAll(t)
		a.does(put(numbers(c.key)), 0, 0)
		a.does(begin(0, c.alg, numbers(c.custom), c.out), 0, 1, c.begun...)
		a.does(update(1, numbers(300)), 0, 0, c.written...)
		a.does(update(1, nil), 0, 0)
		a.does(update(1, numbers(100)), 0, 0, c.more...)
		a.does(clone(1), 0, 2)
		a.does(clone(1), 0, 3)
		tag := a.does(finish(1), 0, 0, append(slices.Clone(c.summed), wipe())...).Bytes
		ends := append(slices.Clone(c.summed), compare(c.out), wipe())
		if got := a.does(verify(2, tag), 0, 0, ends...); len(tag) != c.out || !got.Same {
			t.Fatalf("%+v: %x, %v", c, tag, got.Same)
		}
		tag[0] ^= 0x80
		if got := a.does(verify(3, tag), 0, 0, ends...); got.Same {
			t.Fatalf("%+v: another tag is the tag", c)
		}
		a.end()
	}
}

func TestUpdate(t *testing.T) { // P24.2, P24.5, P3: messages cut in every way, and of each length about a block
	for _, alg := range algs() {
		t.Run("", func(t *testing.T) {
			t.Parallel()
			n := block(alg)
			a := newAll(t)
			a.do(put(numbers(24)))
			a.do(begin(0, alg, nil, 16))
			// 0: the key; 1: the session with the empty message, of which all others are clones.
			want := a.do(clone(1)).Handle
			message := numbers(2*n + 3)
			a.do(update(want, message))
			whole := look(t, a.v, want)
			tag := a.do(finish(want)).Bytes
			for cut := range message {
				h := a.do(clone(1)).Handle
				a.do(update(h, message[:cut]))
				a.do(update(h, nil))
				a.do(update(h, message[cut:]))
				if look(t, a.v, h) != whole || !bytes.Equal(a.do(finish(h)).Bytes, tag) {
					t.Fatalf("algorithm %d, cut at %d: another session", alg, cut)
				}
			}
			// All ways to cut a short one.
			short := numbers(7)
			for ways := range 1 << (len(short) - 1) {
				h, from := a.do(clone(1)).Handle, 0
				for i := range short {
					if i == len(short)-1 || ways>>i&1 == 1 {
						a.do(update(h, short[from:i+1]))
						from = i + 1
					}
				}
				a.do(finish(h))
			}
			a.end()
		})
	}
}

func TestEmptyMessage(t *testing.T) { // P24.2, P3: never updated, or updated with nothing
	for _, alg := range algs() {
		for _, out := range []int{1, most(alg)} {
			a := newAll(t)
			a.do(put(numbers(32)))
			for range 4 {
				a.do(begin(0, alg, nil, out))
			}
			a.does(update(2, nil), 0, 0)
			a.does(update(2, []byte{}), 0, 0)
			a.does(update(4, nil), 0, 0)
			if look(t, a.v, 1) != look(t, a.v, 2) {
				t.Fatalf("algorithm %d: nothing is something", alg)
			}
			tag := a.do(finish(1)).Bytes
			if got := a.do(finish(2)).Bytes; len(tag) != out || !bytes.Equal(got, tag) {
				t.Fatalf("algorithm %d: %x and %x", alg, tag, got)
			}
			if !a.do(verify(3, tag)).Same || !a.do(verify(4, tag)).Same {
				t.Fatalf("algorithm %d: %x is not the tag", alg, tag)
			}
			a.end()
		}
	}
	a := newAll(t)
	a.do(put(unhex(t, "2b7e151628aed2a6abf7158809cf4f3c")))
	a.does(begin(0, api.AlgCmac, nil, 16), 0, 1, schedule(16), blocks(16, 1))
	if got := a.does(finish(1), 0, 0, blocks(16, 1), wipe()); !bytes.Equal(got.Bytes, unhex(t, "bb1d6929e95937287fa37d129b756746")) {
		t.Fatalf("%x", got.Bytes)
	}
}

func TestUpdateAtTheGreatest(t *testing.T) { // P24.2: 65,536 bytes, and one more
	for _, alg := range algs() {
		t.Run("", func(t *testing.T) {
			t.Parallel()
			a := newAll(t)
			a.do(put(numbers(16)))
			a.do(begin(0, alg, nil, 16))
			a.does(update(1, numbers(65537)), api.ErrLong, 0)
			if got := a.do(update(1, numbers(65536))); got.Code != api.OK {
				t.Fatalf("65,536 bytes: %+v", got)
			}
			a.does(update(1, numbers(70000)), api.ErrLong, 0)
			a.do(update(1, numbers(1)))
			a.do(update(1, nil))
			a.do(finish(1))
			a.end()
		})
	}
}

func TestVerify(t *testing.T) { // P24.2: the tag, each one that is another, and those of other lengths
	for _, alg := range algs() {
		for _, out := range []int{1, 4, most(alg)} {
			a := newAll(t)
			a.do(put(numbers(16)))
			a.do(begin(0, alg, nil, out))
			a.do(update(1, fox))
			a.do(clone(1))
			tag := a.do(finish(2)).Bytes
			was := look(t, a.v, 1)
			for _, other := range [][]byte{nil, tag[1:], tag[:len(tag)-1], append(bytes.Clone(tag), 0), numbers(1000)} {
				a.does(verify(1, other), api.ErrTagLen, 0)
			}
			if look(t, a.v, 1) != was {
				t.Fatal("the session did not stay")
			}
			for bit := range 8 * out {
				other := bytes.Clone(tag)
				other[bit/8] ^= 1 << (bit % 8)
				a.do(clone(1))
				if got := a.do(verify(2, other)); got.Code != api.OK || got.Same {
					t.Fatalf("algorithm %d, bit %d turned: %+v", alg, bit, got)
				}
			}
			if got := a.do(verify(1, tag)); !got.Same {
				t.Fatalf("algorithm %d: the tag is not the tag", alg)
			}
			a.does(verify(1, tag), api.ErrHandle, 0)
			a.end()
		}
	}
}

func TestClone(t *testing.T) { // P24.2, P3: each goes on by itself, keys and sessions
	for _, alg := range algs() {
		n := block(alg)
		a := newAll(t)
		a.do(put(numbers(32)))
		a.does(clone(0), 0, 1)
		a.does(drop(0), 0, 0, wipe())
		if got := a.does(reveal(1), 0, 0); !bytes.Equal(got.Bytes, numbers(32)) {
			t.Fatalf("a key's clone: %x", got.Bytes)
		}
		a.do(begin(1, alg, nil, 16))
		a.do(update(0, numbers(n-1)))
		a.does(clone(0), 0, 2)
		if look(t, a.v, 0) != look(t, a.v, 2) {
			t.Fatal("a clone has another form")
		}
		a.do(update(0, numbers(2)))
		a.does(clone(2), 0, 3)
		a.does(clone(0), 0, 4)
		a.do(update(2, numbers(n)))
		a.do(update(4, numbers(3*n)))
		a.do(finish(0))
		a.do(update(4, numbers(1)))
		a.do(drop(1))
		a.do(verify(2, numbers(16)))
		// All others are gone, the key too.
		a.does(clone(3), 0, 0)
		a.do(finish(3))
		a.do(finish(4))
		a.do(update(0, numbers(n+1)))
		a.do(finish(0))
		if len(a.held()) != 0 {
			t.Fatalf("held are %v", a.held())
		}
		a.end()
	}
	a := newAll(t)
	a.do(put(nil))
	a.does(clone(0), 0, 1)
	a.does(drop(0), 0, 0, wipe())
	a.does(reveal(1), 0, 0)
}

func TestHkdf(t *testing.T) { // P24.2, P24.5: keys, salts, informations and lengths at the edges
	for _, alg := range []api.Alg{1, 2} {
		t.Run("", func(t *testing.T) {
			t.Parallel()
			n := block(alg)
			a := newAll(t)
			for _, key := range []int{0, 16, n, n + 1, 512} {
				a.do(put(numbers(key)))
			}
			for h := range a.held() {
				for _, out := range []int{math.MinInt, -1, 0, 1, 31, 32, 33, 64, 65, 511, 512, 513, 8160, 8161, 16320, 16321, math.MaxInt} {
					for _, list := range []int{0, 1, n, n + 1} {
						for _, o := range []api.Op{derive(h, alg, numbers(list), nil, out), derive(h, alg, nil, numbers(list), out), derive(h, alg, numbers(list), numbers(list), out)} {
							if got := a.do(o); got.Code == api.OK {
								if b := a.do(reveal(got.Handle)).Bytes; len(b) != out {
									t.Fatalf("%+v: %x", skel.Of(o), b)
								}
								a.do(drop(got.Handle))
							}
						}
					}
				}
			}
			a.do(derive(0, alg, numbers(65536), nil, 32))
			a.do(derive(0, alg, nil, numbers(65536), 512))
			a.do(derive(0, alg, numbers(65536), numbers(65536), 65))
			a.does(derive(0, alg, numbers(65537), nil, 32), api.ErrLong, 0)
			a.does(derive(0, alg, nil, numbers(65537), 32), api.ErrLong, 0)
			a.end()
		})
	}
	// RFC 5869's first case: a key of more than that is made with is its beginning.
	a := newAll(t)
	a.do(put(bytes.Repeat([]byte{11}, 22)))
	a.does(derive(0, api.AlgHmac256, unhex(t, "000102030405060708090a0b0c"), unhex(t, "f0f1f2f3f4f5f6f7f8f9"), 42), 0, 1, sha256s(4), sha256s(2), sha256s(4))
	if got := a.does(reveal(1), 0, 0); !bytes.Equal(got.Bytes, unhex(t, "3cb25f25faacd57a90434f64d0362f2a2d2d0a90cf1a5a4c5db02d56ecc4c5bf34007208d5b887185865")) {
		t.Fatalf("%x", got.Bytes)
	}
	// A derived key is a key like any other.
	a.does(begin(1, api.AlgKmac256, nil, 64), 0, 2, keccaks(2))
	a.does(derive(1, api.AlgHmac512, nil, nil, 16), 0, 3, sha512s(4), sha512s(2), sha512s(2))
	a.does(begin(3, api.AlgCmac, nil, 16), 0, 4, schedule(16), blocks(16, 1))
	a.end()
}

func TestPbkdf(t *testing.T) { // P24.2, P24.5: passwords, salts, counts and lengths at the edges
	for _, alg := range []api.Alg{1, 2} {
		t.Run("", func(t *testing.T) {
			t.Parallel()
			n := block(alg)
			a := newAll(t)
			for _, key := range []int{0, 8, n, n + 1, 512} {
				a.do(put(numbers(key)))
			}
			for h := range a.held() {
				for _, out := range []int{math.MinInt, -1, 0, 1, 31, 32, 33, 64, 65, 511, 512, 513, 16320, 16321, 32 * (1<<32 - 1), 32*(1<<32-1) + 1, 64 * (1<<32 - 1), 64*(1<<32-1) + 1, math.MaxInt} {
					for _, count := range []int{math.MinInt, -1, 0, 1, 2, 5, 1<<20 + 1, math.MaxInt} {
						for _, salt := range []int{0, 1, n + 1} {
							o := stretch(h, alg, numbers(salt), count, out)
							if got := a.do(o); got.Code == api.OK {
								if b := a.do(reveal(got.Handle)).Bytes; len(b) != out {
									t.Fatalf("%+v: %x", skel.Of(o), b)
								}
								a.do(drop(got.Handle))
							}
						}
					}
				}
			}
			a.do(stretch(0, alg, numbers(65536), 1, 32))
			a.do(stretch(0, alg, numbers(65536), 2, 512))
			a.does(stretch(0, alg, numbers(65537), 1, 32), api.ErrLong, 0)
			a.end()
		})
	}
	// By hand: two blocks of the password, then of each of two parts, three times, two blocks.
	a := newAll(t)
	a.do(put([]byte("password")))
	a.does(stretch(0, api.AlgHmac512, []byte("salt"), 3, 65), 0, 1, sha512s(14))
	a.does(begin(1, api.AlgHmac256, nil, 32), 0, 2, sha256s(4))
	a.end()
}

func TestPbkdfWithTheGreatestCount(t *testing.T) { // P24.2: 2^20, against the language's own
	for alg, h := range map[api.Alg]func() hash.Hash{1: sha256.New, 2: sha512.New} {
		t.Run("", func(t *testing.T) {
			t.Parallel()
			v := vault.New(ledger.New())
			v.Do(put([]byte("password")))
			runs, got := recorded(v, stretch(0, alg, []byte("salt"), 1<<20, 20))
			want, err := pbkdf2.Key(h, "password", []byte("salt"), 1<<20, 20)
			if err != nil {
				t.Fatal(err)
			}
			if b := v.Do(reveal(1)); got.Code != api.OK || got.Handle != 1 || !bytes.Equal(b.Bytes, want) {
				t.Errorf("algorithm %d: %+v, %x", alg, got, b.Bytes)
			}
			if n := ledger.Total(runs); n != 2+2+2<<20 || n > skel.Bound(skel.Of(stretch(0, alg, []byte("salt"), 1<<20, 20))) {
				t.Errorf("algorithm %d: %d events", alg, n)
			}
		})
	}
}

func TestFull(t *testing.T) { // P24.6: each operation that takes a handle, where none is free, and the least of those that became free
	a := crowd(t, true)
	takes := []api.Op{put(numbers(5)), begin(0, 1, nil, 20), begin(0, 3, nil, 16), begin(0, 7, numbers(64), 64), clone(0), clone(2), clone(4), derive(0, 1, numbers(9), nil, 512), stretch(0, 2, numbers(9), 2, 1)}
	for _, o := range takes {
		a.does(o, api.ErrFull, 0)
	}
	for _, h := range []int{5, 33, 63} {
		for _, o := range takes {
			a.does(drop(h), 0, 0, wipe())
			if got := a.do(o); got.Code != api.OK || got.Handle != h {
				t.Fatalf("%+v: %+v, want the handle %d", skel.Of(o), got, h)
			}
			a.does(o, api.ErrFull, 0)
		}
	}
	// Some in the midst, whichever way they were freed: they come back rising.
	a.do(finish(2))
	a.do(drop(40))
	a.do(verify(3, numbers(16)))
	a.do(drop(4))
	a.do(drop(60))
	for _, h := range []int{2, 3, 4, 40, 60} {
		a.does(put(nil), 0, h)
	}
	a.does(put(nil), api.ErrFull, 0)
	// All are freed, from the last to the first.
	for h := 63; h >= 0; h-- {
		a.does(drop(h), 0, 0, wipe())
		a.does(put(nil), 0, h)
		a.does(drop(h), 0, 0, wipe())
	}
	if a.v.Free() != 64 || len(a.v.Held()) != 0 {
		t.Fatalf("free are %d, held %v", a.v.Free(), a.v.Held())
	}
	a.end()
}

func TestFreed(t *testing.T) { // P5: noughts, and one EvWipe of 1024, whatever was in the slot
	for _, n := range []int{0, 1, 16, 512} {
		a := newAll(t)
		a.does(put(numbers(n)), 0, 0)
		a.does(drop(0), 0, 0, wipe())
		a.does(drop(0), api.ErrHandle, 0)
		// What comes there next has nothing of it.
		a.does(put(nil), 0, 0)
		if look(t, a.v, 0) != (api.Slot{}) {
			t.Fatalf("a key of %d bytes: %x is left", n, look(t, a.v, 0))
		}
		a.does(drop(0), 0, 0, wipe())
		a.does(put([]byte{1}), 0, 0)
		if got := look(t, a.v, 0); got != (api.Slot{1}) {
			t.Fatalf("a key of %d bytes: %x is left", n, got)
		}
	}
	for _, alg := range algs() {
		for _, end := range []func(h int) api.Op{drop, finish, func(h int) api.Op { return verify(h, numbers(9)) }} {
			a := newAll(t)
			a.do(put(numbers(16)))
			a.do(begin(0, alg, nil, 9))
			a.do(update(1, numbers(500)))
			a.do(clone(1))
			others := [2]api.Slot{look(t, a.v, 0), look(t, a.v, 2)}
			if others[1] == (api.Slot{}) || others[1] != look(t, a.v, 1) {
				t.Fatal("a session without a form")
			}
			mark := a.v.Ledger().Mark()
			a.do(end(1))
			wiped := 0
			for _, r := range a.v.Ledger().Since(mark) {
				if r.Event.Kind == api.EvWipe {
					wiped += r.Count
				}
				if r.Event.Kind == api.EvWipe && r.Event.Size != 1024 {
					t.Fatalf("%v", r)
				}
			}
			if wiped != 1 || look(t, a.v, 1) != (api.Slot{}) || others != [2]api.Slot{look(t, a.v, 0), look(t, a.v, 2)} {
				t.Fatalf("algorithm %d: %d times wiped", alg, wiped)
			}
			for _, o := range withHandle(1) {
				a.does(o, api.ErrHandle, 0)
			}
			a.end()
		}
	}
}

func TestMemory(t *testing.T) { // P24.5: a session's form part by part, without the model
	for _, alg := range algs() {
		v := vault.New(nil)
		v.Do(put(numbers(24)))
		v.Do(begin(0, alg, nil, 16))
		s, _ := mac.Begin(nil, alg, numbers(24), nil, 16)
		for n := range 2 * block(alg) {
			v.Do(update(1, numbers(n)))
			s.Write(nil, numbers(n))
			got, form := look(t, v, 1), s.Form()
			if len(form) == 0 || !bytes.Equal(got[:len(form)], form) || slices.ContainsFunc(got[len(form):], func(b byte) bool { return b != 0 }) {
				t.Fatalf("algorithm %d: %x, want %x", alg, got, form)
			}
		}
	}
}

func TestRefusedIsNothing(t *testing.T) { // P6: a script with refused operations everywhere, and without them
	wide := numbers(65537)
	for _, full := range []bool{false, true} {
		plain, mixed := crowd(t, full), crowd(t, full)
		refused := []api.Op{{}, {Kind: 11}, put(wide), begin(0, 0, nil, 0), begin(1, 3, nil, 16), begin(0, 1, wide, 1), begin(2, 1, nil, 1), update(2, wide), update(0, nil), finish(0), finish(64), verify(2, nil), verify(3, wide), verify(0, nil), clone(-1), derive(0, 1, wide, nil, 1), derive(2, 1, nil, nil, 1), derive(0, 3, nil, nil, 1), stretch(0, 1, nil, 0, 1), stretch(0, 1, nil, 1, 0), reveal(2), reveal(99), drop(-1)}
		for _, o := range []api.Op{update(2, fox), update(3, fox), clone(2), begin(0, 5, nil, 64), finish(2), put(fox), verify(3, numbers(16)), derive(0, 2, fox, fox, 70), stretch(1, 1, fox, 2, 70), reveal(0), drop(4), clone(0)} {
			n := 0
			for _, r := range refused {
				// Some would be done where another thing has come under their handle.
				if mixed.code(r) == api.OK {
					continue
				}
				if got := mixed.do(r); got.Code == api.OK {
					t.Fatalf("%+v is not refused", skel.Of(r))
				}
				n++
			}
			if n < 18 {
				t.Fatalf("just %d are refused", n)
			}
			if one, two := plain.do(o), mixed.do(o); !sameAnswer(one, two) {
				t.Fatalf("%+v: %+v, behind refused ones %+v", skel.Of(o), one, two)
			}
			wantSameMemory(t, plain.v, mixed.v)
		}
	}
}

func TestAskingChangesNothing(t *testing.T) { // P24.4, rule 3: nothing is recorded, and what is told is new memory
	a := crowd(t, false)
	b := crowd(t, false)
	for range 3 {
		held := a.v.Held()
		if !slices.Equal(held, []int{0, 1, 2, 3, 4}) || a.v.Free() != 59 {
			t.Fatalf("held are %v, free are %d", held, a.v.Free())
		}
		room := held[:cap(held)]
		for i := range room {
			room[i] = 77
		}
		for _, h := range append(noHandles(), upTo(64)...) {
			s, _ := a.v.Look(h)
			for i := range s {
				s[i] = 77
			}
		}
		if a.v.Ledger().Len() != b.v.Ledger().Len() {
			t.Fatal("something is recorded")
		}
	}
	a.wantSlots()
	wantSameMemory(t, a.v, b.v)
	wantSameFuture(t, a.v, b.v, 1)
}

func TestAnswersAreNewMemory(t *testing.T) { // rule 3: no two of them share any, nor with the vault
	v := vault.New(nil)
	key := lent(numbers(40))
	v.Do(put(key))
	for i := range key {
		key[i] = 0
	}
	one, two := v.Do(reveal(0)).Bytes, v.Do(reveal(0)).Bytes
	room := one[:cap(one)]
	for i := range room {
		room[i] = 0xee
	}
	if !bytes.Equal(two, numbers(40)) || !bytes.Equal(v.Do(reveal(0)).Bytes, numbers(40)) {
		t.Fatal("a revealed key shares memory")
	}
	for _, alg := range algs() {
		v := vault.New(nil)
		v.Do(put(numbers(16)))
		for range 4 {
			v.Do(begin(0, alg, nil, 9))
		}
		first := v.Do(finish(1)).Bytes
		kept := bytes.Clone(first)
		second := v.Do(finish(2)).Bytes
		room := second[:cap(second)]
		// Not even behind the tag are there bytes of a longer one.
		for i := range room {
			if i >= 9 && room[i] != 0 {
				t.Fatalf("algorithm %d: the spare room has %x", alg, room[9:])
			}
			room[i] = 0xee
		}
		if !bytes.Equal(first, kept) || !bytes.Equal(v.Do(finish(3)).Bytes, kept) {
			t.Fatalf("algorithm %d: tags share memory", alg)
		}
	}
}

func TestDoBytes(t *testing.T) { // P24.3
	a := crowd(t, false)
	was := a.v.Ledger().Runs()
	rest := bytes.Repeat([]byte{1}, 64)
	for _, o := range []api.Op{put(nil), put(numbers(16)), begin(0, 7, numbers(64), 64), update(2, fox), finish(2), verify(2, numbers(20)), clone(0), derive(0, 1, numbers(3), numbers(4), 32), stretch(0, 2, numbers(3), 2, 64), reveal(0), drop(1), {Kind: 77}} {
		b, _ := op.Encode(o)
		none := [][]byte{nil, {}, b[:1], b[:31], b[:len(b)-1], b[1:], append(bytes.Clone(b), 0), append(bytes.Clone(b), b...), append(bytes.Clone(rest), b...)}
		for _, in := range none {
			kept := lent(in)
			got := a.v.DoBytes(kept)
			if !sameAnswer(got, api.Answer{Code: api.ErrBytes}) || !ledger.Same(a.v.Ledger().Runs(), was) {
				t.Fatalf("DoBytes of %x: %+v", in, got)
			}
			a.giveBack(kept, in)
		}
		a.wantSlots()
	}
	// Bytes that are operations, refused ones and such as are none too, are done as these: see also all.do.
	for _, o := range []api.Op{{}, {Kind: 11, Handle: -1}, put(numbers(513)), update(2, numbers(65537)), finish(-1), drop(math.MinInt), begin(0, 1, nil, -1), stretch(0, 1, nil, -1, 1)} {
		a.do(o)
	}
	v := vault.New(ledger.New())
	if got := v.DoBytes(make([]byte, 32)); !sameAnswer(got, api.Answer{Code: api.ErrOp}) || v.Ledger().Len() != 2 {
		t.Fatalf("DoBytes of 32 noughts: %+v, %v", got, v.Ledger().Runs())
	}
	if got := vault.New(nil).DoBytes([]byte{1}); !sameAnswer(got, api.Answer{Code: api.ErrBytes}) {
		t.Fatalf("without a ledger: %+v", got)
	}
}

// wantSameMemory wants the slots of two vaults to be the same.
func wantSameMemory(t *testing.T, v, w *vault.Vault) {
	t.Helper()
	for h := range 64 {
		if look(t, v, h) != look(t, w, h) {
			t.Fatalf("slot %d is %x and %x", h, look(t, v, h), look(t, w, h))
		}
	}
	if !slices.Equal(v.Held(), w.Held()) || v.Free() != w.Free() {
		t.Fatalf("held are %v and %v", v.Held(), w.Held())
	}
}

// wantSameFuture wants two vaults to answer and record alike whatever follows.
func wantSameFuture(t *testing.T, v, w *vault.Vault, seed int64) {
	t.Helper()
	wantSameMemory(t, v, w)
	r := rand.New(rand.NewSource(seed))
	l := mixed(r, 150)
	for h := range 64 {
		// To the end of all that they have, whatever was done with it.
		l = append(l, update(h, fox), clone(h), finish(h), reveal(h), drop(h))
	}
	for _, o := range l {
		one, a := recorded(v, o)
		two, b := recorded(w, o)
		if !sameAnswer(a, b) || !ledger.Same(one, two) {
			t.Fatalf("%+v: %+v, %v and %+v, %v", skel.Of(o), a, one, b, two)
		}
		wantSameMemory(t, v, w)
	}
}

// done is a vault behind some operations, all of which must be done.
func done(t *testing.T, l ...api.Op) *vault.Vault {
	t.Helper()
	v := vault.New(ledger.New())
	for _, o := range l {
		if a := v.Do(o); a.Code != api.OK {
			t.Fatalf("%+v: %+v", skel.Of(o), a)
		}
	}
	return v
}

func TestSameMemorySameFuture(t *testing.T) { // P5: whatever came before
	n := numbers
	salted, _ := hex.DecodeString("120fb6cffcf8b32c43e7225256c4f837a86548c92ccc35480805987cb70be17b")
	hashed := sha256.Sum256(n(100))
	for i, l := range [][2][]api.Op{
		{{}, {put(n(9)), drop(0)}},
		{{}, {put(nil), put(n(16)), begin(1, 3, nil, 4), update(2, fox), finish(2), clone(1), drop(0), drop(1), drop(2)}},
		{{put(n(16))}, {put(n(16)), clone(0), drop(0), clone(1), drop(1)}},
		{{put(n(16))}, {put(n(512)), put(n(16)), drop(0), clone(1), drop(1)}},
		{{put(salted)}, {put(nil), put([]byte("password")), drop(0), stretch(1, 1, []byte("salt"), 1, 32), drop(1)}},
		{{put(n(3)), put(n(3)), drop(0)}, {put(nil), put(n(3)), drop(0)}},
		// Keys that come to the same block, and so to the same form.
		{{put(n(7)), begin(0, 1, nil, 32), drop(0)}, {put(append(n(7), 0, 0)), begin(0, 1, nil, 32), drop(0)}},
		{{put(n(100)), begin(0, 1, nil, 32), update(1, fox), drop(0)}, {put(hashed[:]), begin(0, 1, nil, 32), update(1, fox), drop(0)}},
	} {
		wantSameFuture(t, done(t, l[0]...), done(t, l[1]...), int64(i))
	}
	for _, alg := range algs() {
		size := 2*block(alg) + 1
		whole := []api.Op{put(n(16)), begin(0, alg, nil, 16), update(1, n(size))}
		pieces := []api.Op{put(n(16)), put(n(7)), begin(0, alg, nil, 16), drop(1), clone(2), drop(2)}
		for i := range size {
			pieces = append(pieces, update(1, n(size)[i:i+1]))
		}
		wantSameFuture(t, done(t, whole...), done(t, pieces...), int64(alg))
	}
}

func TestTwoVaults(t *testing.T) { // rule 7: what one is told shows in no other one, not even where they share a ledger
	a, b := crowd(t, false), newAll(t)
	for _, o := range []api.Op{put(numbers(3)), drop(0), put(nil), begin(0, 2, nil, 9), update(1, fox)} {
		b.do(o)
		a.wantSlots()
		a.do(o)
		b.wantSlots()
	}
	a.end()
	b.end()
	l := ledger.New()
	v, w := vault.New(l), vault.New(l)
	v.Do(put(numbers(16)))
	if got := w.Do(drop(0)); got.Code != api.ErrHandle {
		t.Fatalf("another vault's key: %+v", got)
	}
	w.Do(put(numbers(5)))
	v.Do(drop(0))
	if got := w.Do(reveal(0)); !bytes.Equal(got.Bytes, numbers(5)) {
		t.Fatalf("the key is %x", got.Bytes)
	}
	code := run(api.EvCode, 0, 1)
	want := []api.Run{run(api.EvOp, 1, 1), code, run(api.EvOp, 10, 1), run(api.EvCode, 5, 1), run(api.EvOp, 1, 1), code, run(api.EvOp, 10, 1), wipe(), code, run(api.EvOp, 9, 1), code}
	if !ledger.Same(l.Runs(), want) {
		t.Fatalf("recorded are %v", l.Runs())
	}
}

func TestVaultsAtOnce(t *testing.T) { // rules 6, 7: each by its goroutine
	l := mixed(rand.New(rand.NewSource(5)), 100)
	play := func() ([]api.Run, []api.Answer) {
		v := vault.New(ledger.New())
		var answers []api.Answer
		for _, o := range l {
			answers = append(answers, v.Do(o))
		}
		return v.Ledger().Runs(), answers
	}
	runs, answers := play()
	var group sync.WaitGroup
	for range 8 {
		group.Go(func() {
			r, a := play()
			if !ledger.Same(r, runs) || !slices.EqualFunc(a, answers, sameAnswer) {
				t.Error("by its goroutine a vault plays otherwise")
			}
		})
	}
	group.Wait()
}

// randomBytes are n bytes by chance.
func randomBytes(r *rand.Rand, n int) []byte {
	b := make([]byte, n)
	r.Read(b)
	return b
}

// one takes one of some numbers.
func one(r *rand.Rand, l ...int) int { return l[r.Intn(len(l))] }

// mixed are n operations of all kinds, most of which may be done.
func mixed(r *rand.Rand, n int) []api.Op {
	l := []api.Op{put(randomBytes(r, 16)), put(randomBytes(r, 32)), begin(0, 1, nil, 20)}
	for len(l) < n {
		o := api.Op{Kind: api.OpKind(1 + r.Intn(10)), Handle: r.Intn(8), Alg: api.Alg(1 + r.Intn(7)), Count: 1 + r.Intn(3), Out: one(r, 1, 9, 16, 20, 32, 64, 100), Data: randomBytes(r, r.Intn(40)), More: randomBytes(r, r.Intn(40))}
		switch {
		case r.Intn(25) == 0:
			o.Handle = one(r, -1, 63, 64, 9, 20)
		case o.Kind == api.OpPut:
			o.Data = randomBytes(r, one(r, 0, 5, 16, 16, 24, 32, 65, 129, 512, 513))
		case o.Kind == api.OpBegin && r.Intn(4) > 0:
			o.Alg, o.Out = api.Alg(1+r.Intn(7)), one(r, 1, 9, 16)
			if o.Alg < 4 {
				o.Data = nil
			}
		case o.Kind == api.OpUpdate:
			o.Data = randomBytes(r, one(r, 0, 1, 15, 16, 17, 63, 64, 65, 128, 135, 136, 167, 168, 400))
		case o.Kind == api.OpVerify:
			o.Data = randomBytes(r, one(r, 1, 9, 16, 20))
		case (o.Kind == api.OpHkdf || o.Kind == api.OpPbkdf) && r.Intn(4) > 0:
			o.Alg = api.Alg(1 + r.Intn(2))
		case r.Intn(20) == 0:
			o.Kind = api.OpKind(r.Intn(256))
		}
		l = append(l, o)
	}
	return l
}

func TestRandomScripts(t *testing.T) { // P2 to P7: against the model and what is public, operation by operation
	for i := range 40 {
		t.Run("", func(t *testing.T) {
			t.Parallel()
			r := rand.New(rand.NewSource(int64(i)))
			a := newAll(t)
			if i%4 == 0 {
				a.fill()
			}
			for _, o := range mixed(r, 250) {
				// Half of the candidates are the tag, as far as there is one.
				if x := a.at(o.Handle); o.Kind == api.OpVerify && x != nil && x.alg != 0 && r.Intn(2) == 0 {
					o.Data = x.tag()
				}
				a.do(o)
			}
			a.end()
		})
	}
}

func TestLedgerIsPublic(t *testing.T) { // P4: with the same skeletons, whatever the bytes are
	for i := range 20 {
		t.Run("", func(t *testing.T) {
			t.Parallel()
			l := mixed(rand.New(rand.NewSource(int64(100+i))), 300)
			skeletons := skel.All(l)
			var codes []api.Errno
			var runs []api.Run
			for k, fill := range []func(b []byte){func(b []byte) {}, func(b []byte) { clear(b) }, func(b []byte) { rand.New(rand.NewSource(int64(i))).Read(b) }} {
				v := vault.New(ledger.New())
				var got []api.Errno
				for _, o := range l {
					o.Data, o.More = bytes.Clone(o.Data), bytes.Clone(o.More)
					fill(o.Data)
					fill(o.More)
					row, a := recorded(v, o)
					if ledger.Total(row) > skel.Bound(skel.Of(o)) {
						t.Fatalf("%+v: %v are too many", skel.Of(o), row)
					}
					got = append(got, a.Code)
				}
				if k == 0 {
					codes, runs = got, v.Ledger().Runs()
				}
				if !slices.Equal(got, codes) || !ledger.Same(v.Ledger().Runs(), runs) {
					t.Fatal("with other bytes it is another ledger, or another code")
				}
			}
			if !slices.Equal(codes, cost.Codes(skeletons)) || !ledger.Same(runs, cost.Runs(skeletons)) {
				t.Fatal("it is not the ledger of the skeletons")
			}
		})
	}
}

func TestAnyArguments(t *testing.T) { // P1: every call ends, and none panics
	r := rand.New(rand.NewSource(3))
	far := []int{math.MinInt, math.MinInt + 1, -1 << 32, -1, 0, 1, 2, 16, 32, 63, 64, 65, 512, 513, 1 << 31, 1 << 32, 1 << 62, math.MaxInt - 1, math.MaxInt}
	a := newAll(t)
	for range 20000 {
		o := api.Op{Kind: api.OpKind(r.Intn(13)), Handle: one(r, append(far, 0, 1, 2, 3)...), Alg: api.Alg(r.Intn(10)), Count: one(r, far...), Out: one(r, far...), Data: randomBytes(r, one(r, 0, 1, 16, 64, 65, 513)), More: randomBytes(r, one(r, 0, 1, 600))}
		if r.Intn(50) == 0 {
			o.Kind, o.Alg = api.OpKind(r.Intn(256)), api.Alg(r.Intn(256))
		}
		a.do(o)
		if len(a.held()) > 20 {
			for _, h := range a.held() {
				a.do(drop(h))
			}
		}
	}
	a.end()
	v := vault.New(ledger.New())
	for range 20000 {
		b := randomBytes(r, r.Intn(80))
		if len(b) > 32 && r.Intn(2) == 0 {
			// As operations begin, with lengths that are their own.
			b[0] = byte(r.Intn(12))
			copy(b[2:32], make([]byte, 30))
			b[28] = byte(len(b) - 32)
		}
		v.DoBytes(b)
		v.Look(one(r, far...))
	}
}
