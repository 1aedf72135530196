package vault

import (
	"bytes"

	"turnkey/api"
	"turnkey/ct"
	"turnkey/hkdf"
	"turnkey/mac"
	"turnkey/pbkdf2"
	"turnkey/slot"
)

// How many pieces of a hash's sum may be derived: their numbers are one byte (HKDF), or four (PBKDF2).
const (
	mostParts  = 1<<8 - 1
	mostBlocks = 1<<32 - 1
)

// deed does an operation of its kind, or refuses it ahead of all that it would change or record.
type deed func(v *Vault, o api.Op) api.Answer

// deeds is what is done, kind by kind.
func deeds() map[api.OpKind]deed {
	return map[api.OpKind]deed{
		api.OpPut:    (*Vault).put,
		api.OpBegin:  (*Vault).begin,
		api.OpUpdate: (*Vault).update,
		api.OpFinish: (*Vault).finish,
		api.OpVerify: (*Vault).verify,
		api.OpClone:  (*Vault).clone,
		api.OpHkdf:   (*Vault).hkdf,
		api.OpPbkdf:  (*Vault).pbkdf,
		api.OpReveal: (*Vault).reveal,
		api.OpDrop:   (*Vault).drop,
	}
}

// put takes a handle for a key.
func (v *Vault) put(o api.Op) api.Answer {
	if len(o.Data) > api.MaxKey {
		return refused(api.ErrKeyLen)
	}
	if e := v.unlessRoom(); e != api.OK {
		return refused(e)
	}
	return v.take(key{}, bytes.Clone(o.Data))
}

// begin takes a handle for a session with a key.
func (v *Vault) begin(o api.Op) api.Answer {
	from, e := v.keyAt(o.Handle)
	if e != api.OK {
		return refused(e)
	}
	if e := sessionRefusal(o, from.Len()); e != api.OK {
		return refused(e)
	}
	if e := v.unlessRoom(); e != api.OK {
		return refused(e)
	}
	b := from.Bytes()
	s, e := mac.Begin(v.events, o.Alg, b, o.Data, o.Out)
	ct.Wipe(nil, b)
	if e != api.OK {
		return refused(e)
	}
	return v.take(session{s}, s.Form())
}

// update goes on with a session's message.
func (v *Vault) update(o api.Op) api.Answer {
	s, e := v.sessionAt(o.Handle)
	if e != api.OK {
		return refused(e)
	}
	if len(o.Data) > api.MaxBytes {
		return refused(api.ErrLong)
	}
	if e := s.Write(v.events, o.Data); e != api.OK {
		return refused(e)
	}
	v.lay(o.Handle, s.Form())
	return api.Answer{}
}

// finish ends a session with its tag.
func (v *Vault) finish(o api.Op) api.Answer {
	s, e := v.sessionAt(o.Handle)
	if e != api.OK {
		return refused(e)
	}
	tag, e := s.Sum(v.events)
	if e != api.OK {
		return refused(e)
	}
	v.free(v.events, o.Handle)
	return api.Answer{Bytes: tag}
}

// verify ends a session with a verdict on a candidate, which is refused, and nothing with it, if it is not as long as the tag.
func (v *Vault) verify(o api.Op) api.Answer {
	s, e := v.sessionAt(o.Handle)
	if e != api.OK {
		return refused(e)
	}
	same, e := s.Verify(v.events, o.Data)
	if e != api.OK {
		return refused(e)
	}
	v.free(v.events, o.Handle)
	return api.Answer{Same: same}
}

// clone takes a handle for another one of what a slot has.
func (v *Vault) clone(o api.Op) api.Answer {
	x, e := v.held.Get(o.Handle)
	if e != api.OK {
		return refused(e)
	}
	if e := v.unlessRoom(); e != api.OK {
		return refused(e)
	}
	other, e := x.another()
	if e != api.OK {
		return refused(e)
	}
	return v.take(other, v.memories[o.Handle].Bytes())
}

// hkdf takes a handle for a key that HKDF makes of another one.
func (v *Vault) hkdf(o api.Op) api.Answer {
	from, e := v.keyAt(o.Handle)
	if e != api.OK {
		return refused(e)
	}
	if e := hkdfRefusal(o); e != api.OK {
		return refused(e)
	}
	return v.derive(from, func(b []byte) ([]byte, api.Errno) {
		return hkdf.Key(v.events, o.Alg, b, o.Data, o.More, o.Out)
	})
}

// pbkdf takes a handle for a key that PBKDF2 makes of another one, its password.
func (v *Vault) pbkdf(o api.Op) api.Answer {
	from, e := v.keyAt(o.Handle)
	if e != api.OK {
		return refused(e)
	}
	if e := pbkdfRefusal(o); e != api.OK {
		return refused(e)
	}
	return v.derive(from, func(b []byte) ([]byte, api.Errno) {
		return pbkdf2.Key(v.events, o.Alg, b, o.Data, o.Count, o.Out)
	})
}

// reveal tells a key's bytes.
func (v *Vault) reveal(o api.Op) api.Answer {
	from, e := v.keyAt(o.Handle)
	if e != api.OK {
		return refused(e)
	}
	return api.Answer{Bytes: from.Bytes()}
}

// drop frees a slot, whatever it has.
func (v *Vault) drop(o api.Op) api.Answer {
	if _, e := v.held.Get(o.Handle); e != api.OK {
		return refused(e)
	}
	v.free(v.events, o.Handle)
	return api.Answer{}
}

// derive takes a handle for a key that is made of another one.
func (v *Vault) derive(from *slot.Memory, made func(b []byte) ([]byte, api.Errno)) api.Answer {
	if e := v.unlessRoom(); e != api.OK {
		return refused(e)
	}
	b := from.Bytes()
	derived, e := made(b)
	ct.Wipe(nil, b)
	if e != api.OK {
		return refused(e)
	}
	return v.take(key{}, derived)
}

// sessionRefusal is why a session may not begin with a key of n bytes, or OK.
func sessionRefusal(o api.Op, n int) api.Errno {
	// mac.Begin would refuse the same, but a vault that is full has to say so ahead of all that it records.
	kind, e := mac.Of(o.Alg)
	switch {
	case e != api.OK:
		return e
	case !kind.Key(n):
		return api.ErrKeyLen
	case len(o.Data) > 0 && !kind.Custom:
		return api.ErrArg
	case len(o.Data) > api.MaxCustom:
		return api.ErrLong
	case o.Out < 1 || o.Out > kind.Most:
		return api.ErrTagLen
	}
	return api.OK
}

// hkdfRefusal is why HKDF may not make a key, or OK.
func hkdfRefusal(o api.Op) api.Errno {
	size, e := sumSize(o.Alg)
	switch {
	case e != api.OK:
		return e
	case len(o.Data) > api.MaxBytes || len(o.More) > api.MaxBytes || o.Out > mostParts*size:
		return api.ErrLong
	}
	return keyRefusal(o.Out)
}

// pbkdfRefusal is why PBKDF2 may not make a key, or OK.
func pbkdfRefusal(o api.Op) api.Errno {
	size, e := sumSize(o.Alg)
	switch {
	case e != api.OK:
		return e
	// As int64, for an int may have too few bits for this bound.
	case len(o.Data) > api.MaxBytes || int64(o.Out) > mostBlocks*int64(size):
		return api.ErrLong
	case o.Count < 1 || o.Count > api.MaxCount:
		return api.ErrCount
	}
	return keyRefusal(o.Out)
}

// keyRefusal is why no key of n bytes may be derived, or OK.
func keyRefusal(n int) api.Errno {
	if n < 1 || n > api.MaxKey {
		return api.ErrKeyLen
	}
	return api.OK
}

// sumSize is how many bytes the hash's sum has of an algorithm that keys are derived with.
func sumSize(a api.Alg) (int, api.Errno) {
	if a != api.AlgHmac256 && a != api.AlgHmac512 {
		return 0, api.ErrAlg
	}
	// The longest tag of HMAC is its hash's whole sum.
	kind, e := mac.Of(a)
	return kind.Most, e
}
