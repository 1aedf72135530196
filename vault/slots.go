package vault

import (
	"turnkey/api"
	"turnkey/ct"
	"turnkey/ledger"
	"turnkey/mac"
	"turnkey/slot"
	"turnkey/table"
)

// slots are a vault's slots: what those have that are held, and the memory of each.
type slots struct {
	held     *table.Table[holding]
	memories [api.MaxHandles]*slot.Memory
}

// holding is what a slot has that is held: a key, or a session. What it is in bytes is the slot's memory.
type holding interface {
	// another gives one just like it.
	another() (holding, api.Errno)
	// wipe leaves nothing of it; what it records is not the vault's.
	wipe()
}

// key has nothing by itself: its slot's memory is the one place where its bytes are.
type key struct{}

// session is one of mac.
type session struct{ *mac.Session }

// newSlots makes slots that are all free.
func newSlots() slots {
	var s slots
	s.held, _ = table.New[holding](len(s.memories))
	for h := range s.memories {
		s.memories[h] = slot.New()
	}
	return s
}

// take puts something under the least handle that is free, and its bytes into the slot's memory.
func (s *slots) take(x holding, b []byte) api.Answer {
	h, e := s.held.Add(x)
	if e != api.OK {
		return refused(e)
	}
	s.lay(h, b)
	return api.Answer{Handle: h}
}

// lay puts bytes into a slot's memory, and wipes the list that they came in, which must be the vault's own: the memory is to be their one place.
func (s *slots) lay(h int, b []byte) {
	s.memories[h].Put(b)
	ct.Wipe(nil, b)
}

// free frees a slot that is held.
func (s *slots) free(l *ledger.Ledger, h int) {
	x, e := s.held.Drop(h)
	if e != api.OK {
		return
	}
	x.wipe()
	s.memories[h].Wipe(l)
}

// unlessRoom refuses to take a handle where none is free. It is asked ahead of any work, for that would be recorded.
func (s *slots) unlessRoom() api.Errno {
	if s.held.Full() {
		return api.ErrFull
	}
	return api.OK
}

// keyAt gives the memory of a slot that has a key.
func (s *slots) keyAt(h int) (*slot.Memory, api.Errno) {
	x, e := s.held.Get(h)
	if e != api.OK {
		return nil, e
	}
	switch x.(type) {
	case key:
		return s.memories[h], api.OK
	default:
		return nil, api.ErrKind
	}
}

// sessionAt gives the session that a slot has.
func (s *slots) sessionAt(h int) (session, api.Errno) {
	x, e := s.held.Get(h)
	if e != api.OK {
		return session{}, e
	}
	switch x := x.(type) {
	case session:
		return x, api.OK
	default:
		return session{}, api.ErrKind
	}
}

// another key is just one that has another slot's memory.
func (k key) another() (holding, api.Errno) { return k, api.OK }

// wipe has nothing to do: a key's bytes go with its slot's memory.
func (k key) wipe() {}

// another session goes on by itself.
func (s session) another() (holding, api.Errno) {
	other, e := s.Clone()
	if e != api.OK {
		return nil, e
	}
	return session{other}, api.OK
}

// wipe is recorded nowhere: what is recorded is that the slot's memory is wiped.
func (s session) wipe() { s.Session.Wipe(nil) }
