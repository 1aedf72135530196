package vault_test

import (
	"bytes"
	"math"
	"slices"
	"testing"

	"turnkey/api"
	"turnkey/cmac"
	"turnkey/cost"
	"turnkey/hkdf"
	"turnkey/hmac"
	"turnkey/kmac"
	"turnkey/ledger"
	"turnkey/mac"
	"turnkey/op"
	"turnkey/pbkdf2"
	"turnkey/skel"
	"turnkey/vault"
)

// thing is what a handle stands for in the model: a key, or a session with its key, its customization and its whole message.
type thing struct {
	// alg is 0 of a key.
	alg                  api.Alg
	out                  int
	key, custom, message []byte
	// memory is what the slot's memory must be.
	memory api.Slot
}

// model is a vault as DOC.md's 'The vault' says it, over whole lists of bytes.
type model struct{ slots [64]*thing }

// rule is a code, and whether it applies.
type rule struct {
	applies bool
	code    api.Errno
}

// at is what a handle stands for.
func (m *model) at(h int) *thing {
	if h < 0 || h > 63 {
		return nil
	}
	return m.slots[h]
}

// held are the handles that are held.
func (m *model) held() []int {
	return slices.DeleteFunc(upTo(64), func(h int) bool { return m.slots[h] == nil })
}

// rules are the codes of a kind, in the order in which the document names them; none of what is no kind.
func (m *model) rules(o api.Op) []rule {
	x, full := m.at(o.Handle), len(m.held()) == 64
	free := x == nil
	if free {
		x = &thing{}
	}
	isKey, isSession, n := x.alg == 0, x.alg != 0, len(x.key)
	sum := map[api.Alg]int{1: 32, 2: 64}[o.Alg]
	tooLong := o.Out > 255*sum
	if o.Kind == api.OpPbkdf {
		tooLong = o.Out > (1<<32-1)*sum
	}
	length := rule{o.Out < 1 || o.Out > 512, 7}
	switch o.Kind {
	case 1:
		return []rule{{len(o.Data) > 512, 7}, {full, 8}}
	case 2:
		return []rule{{free, 5}, {isSession, 6}, {o.Alg < 1 || o.Alg > 7, 4}, {o.Alg == 3 && n != 16 && n != 24 && n != 32, 7}, {len(o.Data) > 0 && o.Alg < 4, 2}, {len(o.Data) > 64, 9}, {o.Out < 1 || o.Out > most(o.Alg), 11}, {full, 8}}
	case 3:
		return []rule{{free, 5}, {isKey, 6}, {len(o.Data) > 65536, 9}}
	case 4:
		return []rule{{free, 5}, {isKey, 6}}
	case 5:
		return []rule{{free, 5}, {isKey, 6}, {len(o.Data) != x.out, 11}}
	case 6:
		return []rule{{free, 5}, {full, 8}}
	case 7:
		return []rule{{free, 5}, {isSession, 6}, {sum == 0, 4}, {len(o.Data) > 65536, 9}, {len(o.More) > 65536, 9}, {tooLong, 9}, length, {full, 8}}
	case 8:
		return []rule{{free, 5}, {isSession, 6}, {sum == 0, 4}, {len(o.Data) > 65536, 9}, {tooLong, 9}, {o.Count < 1, 10}, {o.Count > 1<<20, 10}, length, {full, 8}}
	case 9:
		return []rule{{free, 5}, {isSession, 6}}
	case 10:
		return []rule{{free, 5}}
	}
	return []rule{{true, 3}}
}

// code is the first code that applies.
func (m *model) code(o api.Op) api.Errno {
	for _, r := range m.rules(o) {
		if r.applies {
			return r.code
		}
	}
	return api.OK
}

// do does an operation.
func (m *model) do(o api.Op) api.Answer {
	if code := m.code(o); code != api.OK {
		return api.Answer{Code: code}
	}
	x := m.at(o.Handle)
	switch o.Kind {
	case api.OpPut:
		return m.take(thing{key: bytes.Clone(o.Data)})
	case api.OpBegin:
		return m.take(thing{alg: o.Alg, out: o.Out, key: x.key, custom: bytes.Clone(o.Data)})
	case api.OpUpdate:
		x.message = slices.Concat(x.message, o.Data)
		x.memory = x.bytes()
	case api.OpFinish:
		m.slots[o.Handle] = nil
		return api.Answer{Bytes: x.tag()}
	case api.OpVerify:
		m.slots[o.Handle] = nil
		return api.Answer{Same: bytes.Equal(x.tag(), o.Data)}
	case api.OpClone:
		return m.take(*x)
	case api.OpHkdf:
		made, _ := hkdf.Key(nil, o.Alg, x.key, o.Data, o.More, o.Out)
		return m.take(thing{key: made})
	case api.OpPbkdf:
		made, _ := pbkdf2.Key(nil, o.Alg, x.key, o.Data, o.Count, o.Out)
		return m.take(thing{key: made})
	case api.OpReveal:
		return api.Answer{Bytes: x.key}
	case api.OpDrop:
		m.slots[o.Handle] = nil
	}
	return api.Answer{}
}

// take puts something under the least handle that is free.
func (m *model) take(x thing) api.Answer {
	x.memory = x.bytes()
	h := slices.Index(m.slots[:], nil)
	m.slots[h] = &x
	return api.Answer{Handle: h}
}

// tag is the tag of a session's whole message.
func (x *thing) tag() []byte {
	var all []byte
	switch x.alg {
	case api.AlgHmac256, api.AlgHmac512:
		all, _ = hmac.Tag(nil, x.alg, x.key, x.message)
	case api.AlgCmac:
		all, _ = cmac.Tag(nil, x.key, x.message)
	case api.AlgKmac128, api.AlgKmacX128:
		all, _ = kmac.Tag(nil, 128, x.key, x.custom, x.message, x.out, x.alg == api.AlgKmacX128)
	case api.AlgKmac256, api.AlgKmacX256:
		all, _ = kmac.Tag(nil, 256, x.key, x.custom, x.message, x.out, x.alg == api.AlgKmacX256)
	}
	return all[:x.out]
}

// bytes are what the slot's memory must be: a key's bytes, or the form of a session that took its message whole.
func (x *thing) bytes() api.Slot {
	all := x.key
	if x.alg != 0 {
		s, _ := mac.Begin(nil, x.alg, x.key, x.custom, x.out)
		s.Write(nil, x.message)
		all = s.Form()
	}
	var memory api.Slot
	copy(memory[:], all)
	return memory
}

// most is how many bytes a tag of an algorithm has at most.
func most(a api.Alg) int { return map[api.Alg]int{1: 32, 2: 64, 3: 16, 4: 64, 5: 64, 6: 64, 7: 64}[a] }

// block is how many bytes a block of an algorithm has.
func block(a api.Alg) int {
	return map[api.Alg]int{1: 64, 2: 128, 3: 16, 4: 168, 5: 136, 6: 168, 7: 136}[a]
}

// upTo are the numbers from 0 to n - 1.
func upTo(n int) []int {
	var l []int
	for i := range n {
		l = append(l, i)
	}
	return l
}

// all is three vaults that are told the same, and what they must answer, record and have: the model, and what is public.
type all struct {
	t *testing.T
	// v has a ledger in which there is something already; bare has none, and is told rubbish in the fields that kinds don't use; told is told bytes.
	v, bare, told *vault.Vault
	model
	p *cost.Public
	// done are the skeletons of what was done, first the runs that there were ahead of it.
	done  []api.Skeleton
	codes []api.Errno
	first []api.Run
}

// newAll makes them, empty.
func newAll(t *testing.T) *all {
	t.Helper()
	l := ledger.New()
	// As the first operation's, so that both are one run.
	l.NoteTimes(api.Event{Kind: api.EvOp, Size: int(api.OpPut)}, 2)
	a := &all{t: t, v: vault.New(l), bare: vault.New(nil), told: vault.New(&ledger.Ledger{}), p: cost.New(), first: l.Runs()}
	a.wantSlots()
	return a
}

// spare is what stands in the spare room of each list that is handed in.
const spare = 0xa5

// lent is a list with the same bytes and some spare room.
func lent(b []byte) []byte {
	return slices.Concat(b, bytes.Repeat([]byte{spare}, 9))[:len(b)]
}

// giveBack wants a list that was lent to be as it was, and then writes over it.
func (a *all) giveBack(lent, was []byte) {
	a.t.Helper()
	room := lent[:len(lent)+9]
	if !bytes.Equal(lent, was) || !bytes.Equal(room[len(lent):], bytes.Repeat([]byte{spare}, 9)) {
		a.t.Fatal("what was handed in was changed")
	}
	for i := range room {
		room[i] ^= 0x5a
	}
}

// try does an operation in one of the vaults, with lists that are written over behind it.
func (a *all) try(o api.Op, do func(o api.Op) api.Answer) api.Answer {
	a.t.Helper()
	data, more := lent(o.Data), lent(o.More)
	was := o
	o.Data, o.More = data, more
	got := do(o)
	a.giveBack(data, was.Data)
	a.giveBack(more, was.More)
	kept := got
	kept.Bytes = bytes.Clone(got.Bytes)
	// An answer is new memory: what its owner does with it shows nowhere.
	room := got.Bytes[:cap(got.Bytes)]
	for i := range room {
		room[i] ^= 0xff
	}
	return kept
}

// do does an operation in all, and wants of it what the model answers, what is recorded by its skeleton, and what the slots then have.
func (a *all) do(o api.Op) api.Answer {
	a.t.Helper()
	s := skel.Of(o)
	mark, toldMark := a.v.Ledger().Mark(), a.told.Ledger().Mark()
	got := a.try(o, a.v.Do)
	bare := a.try(noisy(o), a.bare.Do)
	told := a.try(o, func(o api.Op) api.Answer {
		b, e := op.Encode(o)
		if e != api.OK {
			a.t.Fatal("no bytes of ", s)
		}
		in := lent(b)
		answer := a.told.DoBytes(in)
		a.giveBack(in, b)
		return answer
	})
	want := a.model.do(o)
	if !sameAnswer(got, want) || !sameAnswer(bare, want) || !sameAnswer(told, want) {
		a.t.Fatalf("%+v, behind %+v:\n%+v,\n%+v without a ledger,\n%+v of bytes, want\n%+v", s, a.done, got, bare, told, want)
	}
	runs, code := a.p.Do(s)
	if now := a.v.Ledger().Since(mark); code != want.Code || !ledger.Same(now, runs) {
		a.t.Fatalf("%+v, behind %+v: recorded are %v, want %v", s, a.done, now, runs)
	}
	if now := a.told.Ledger().Since(toldMark); !ledger.Same(now, runs) {
		a.t.Fatalf("%+v, behind %+v: recorded are of bytes %v, want %v", s, a.done, now, runs)
	}
	if code != api.OK && ledger.Total(runs) != 2 || ledger.Total(runs) > skel.Bound(s) {
		a.t.Fatalf("%+v: %v are too many", s, runs)
	}
	a.done, a.codes = append(a.done, s), append(a.codes, code)
	a.wantSlots()
	return got
}

// does does an operation in all, and wants a code, a handle and what is recorded between EvOp and EvCode.
func (a *all) does(o api.Op, code api.Errno, handle int, between ...api.Run) api.Answer {
	a.t.Helper()
	mark := a.v.Ledger().Mark()
	got := a.do(o)
	want := []api.Run{run(api.EvOp, int(o.Kind), 1)}
	for _, r := range between {
		want = ledger.Join(want, []api.Run{r})
	}
	want = append(want, run(api.EvCode, int(code), 1))
	if now := a.v.Ledger().Since(mark); got.Code != code || got.Handle != handle || !ledger.Same(now, want) {
		a.t.Fatalf("%+v: %+v, recorded %v, want the code %d, the handle %d, recorded %v", skel.Of(o), got, now, code, handle, want)
	}
	return got
}

// fill puts keys of 16 bytes till no handle is free.
func (a *all) fill() *all {
	a.t.Helper()
	for h := len(a.held()); h < 64; h++ {
		a.do(put(numbers(16)))
	}
	return a
}

// wantSlots wants of all vaults that their slots are the model's, and that nothing is recorded of asking.
func (a *all) wantSlots() {
	a.t.Helper()
	marks := [2]int{a.v.Ledger().Mark(), a.told.Ledger().Mark()}
	held := a.held()
	for _, v := range []*vault.Vault{a.v, a.bare, a.told} {
		for h, x := range a.slots {
			var want api.Slot
			if x != nil {
				want = x.memory
			}
			if got, e := v.Look(h); got != want || e != api.OK {
				a.t.Fatalf("behind %+v: slot %d is %x, %d, want %x", a.done, h, got, e, want)
			}
		}
		if got := v.Held(); !slices.Equal(got, held) || v.Free() != 64-len(held) {
			a.t.Fatalf("behind %+v: held are %v, free are %d, want %v", a.done, got, v.Free(), held)
		}
	}
	if marks != [2]int{a.v.Ledger().Mark(), a.told.Ledger().Mark()} || a.bare.Ledger() != nil {
		a.t.Fatal("something is recorded of Look, Held or Free")
	}
}

// end wants of all that was done the ledger and the codes that the skeletons tell.
func (a *all) end() {
	a.t.Helper()
	runs := cost.Runs(a.done)
	if got := a.v.Ledger().Runs(); !ledger.Same(got, ledger.Join(a.first, runs)) {
		a.t.Fatalf("recorded are %v, want %v", got, runs)
	}
	if got := a.told.Ledger().Runs(); !ledger.Same(got, runs) {
		a.t.Fatalf("recorded are of bytes %v, want %v", got, runs)
	}
	if !slices.Equal(a.codes, cost.Codes(a.done)) {
		a.t.Fatalf("the codes are %v, want %v", a.codes, cost.Codes(a.done))
	}
}

// sameAnswer tells whether two answers are the same.
func sameAnswer(a, b api.Answer) bool {
	return a.Code == b.Code && a.Handle == b.Handle && a.Same == b.Same && bytes.Equal(a.Bytes, b.Bytes)
}

// noisy is an operation with something in each field that its kind does not use.
func noisy(o api.Op) api.Op {
	uses := op.Uses(o.Kind)
	unused := func(name string) bool { return !slices.Contains(uses, name) }
	if unused("Handle") {
		o.Handle = 63
	}
	if unused("Alg") {
		o.Alg = 3
	}
	if unused("Count") {
		o.Count = math.MaxInt
	}
	if unused("Out") {
		o.Out = math.MinInt
	}
	if unused("Data") {
		o.Data = make([]byte, 600)
	}
	if unused("More") {
		o.More = make([]byte, 70)
	}
	return o
}

// Runs, of the kinds that a vault records.
func run(k api.EventKind, size, n int) api.Run {
	return api.Run{Event: api.Event{Kind: k, Size: size}, Count: n}
}
func sha256s(n int) api.Run      { return run(api.EvSha256, 64, n) }
func sha512s(n int) api.Run      { return run(api.EvSha512, 128, n) }
func keccaks(n int) api.Run      { return run(api.EvKeccak, 200, n) }
func blocks(size, n int) api.Run { return run(api.EvAes, size, n) }
func schedule(size int) api.Run  { return run(api.EvSchedule, size, 1) }
func compare(size int) api.Run   { return run(api.EvCompare, size, 1) }
func wipe() api.Run              { return run(api.EvWipe, 1024, 1) }

// Operations, with the fields that their kinds use.
func put(b []byte) api.Op { return api.Op{Kind: api.OpPut, Data: b} }
func begin(h int, a api.Alg, custom []byte, out int) api.Op {
	return api.Op{Kind: api.OpBegin, Handle: h, Alg: a, Data: custom, Out: out}
}
func update(h int, b []byte) api.Op { return api.Op{Kind: api.OpUpdate, Handle: h, Data: b} }
func finish(h int) api.Op           { return api.Op{Kind: api.OpFinish, Handle: h} }
func verify(h int, b []byte) api.Op { return api.Op{Kind: api.OpVerify, Handle: h, Data: b} }
func clone(h int) api.Op            { return api.Op{Kind: api.OpClone, Handle: h} }
func derive(h int, a api.Alg, salt, info []byte, out int) api.Op {
	return api.Op{Kind: api.OpHkdf, Handle: h, Alg: a, Data: salt, More: info, Out: out}
}
func stretch(h int, a api.Alg, salt []byte, count, out int) api.Op {
	return api.Op{Kind: api.OpPbkdf, Handle: h, Alg: a, Data: salt, Count: count, Out: out}
}
func reveal(h int) api.Op { return api.Op{Kind: api.OpReveal, Handle: h} }
func drop(h int) api.Op   { return api.Op{Kind: api.OpDrop, Handle: h} }

// numbers are n bytes, none of them a nought.
func numbers(n int) []byte {
	b := make([]byte, n)
	for i := range b {
		b[i] = byte(i%251) + 3
	}
	return b
}
