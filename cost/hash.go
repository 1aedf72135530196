package cost

import "turnkey/api"

// hash is what there is to reckon of a hash function: how many bytes its digest and its block have, and a block's event.
type hash struct {
	size, block int
	event       api.Event
}

// hashOf is the hash function of an algorithm; false, if it has none.
func hashOf(a api.Alg) (hash, bool) {
	switch a {
	case api.AlgHmac256:
		return hash{size: 32, block: 64, event: api.Event{Kind: api.EvSha256, Size: 64}}, true
	case api.AlgHmac512:
		return hash{size: 64, block: 128, event: api.Event{Kind: api.EvSha512, Size: 128}}, true
	}
	return hash{}, false
}

// last is how many blocks end a message of n bytes: behind it stand one byte and its length, an eighth of a block, for which there may be no room in the block that waits.
func (h hash) last(n int) int {
	if n%h.block < h.block-h.block/8 {
		return 1
	}
	return 2
}

// digest is how many blocks the digest of n bytes takes.
func (h hash) digest(n int) int { return n/h.block + h.last(n) }

// keyed is how many blocks HMAC's key of n bytes takes: it has to be one block, inner and outer.
func (h hash) keyed(n int) int {
	if n > h.block {
		return h.digest(n) + 2
	}
	return 2
}

// tagged is how many blocks the HMAC of n bytes takes, the key's aside: the outer hash has one more.
func (h hash) tagged(n int) int { return h.digest(n) + 1 }

// hkdf is how many blocks HKDF of n bytes takes, n being 1 or more.
func (h hash) hkdf(key, salt, info, n int) int {
	extract := h.keyed(salt) + h.tagged(key)
	// Behind the first part each one has the part ahead of it in its message.
	first, further := h.tagged(info+1), h.tagged(h.size+info+1)
	return extract + h.keyed(h.size) + first + (wholes(n, h.size)-1)*further
}

// pbkdf is how many blocks PBKDF2 of n bytes takes.
func (h hash) pbkdf(password, salt, count, n int) int {
	// The first u of a block is made of the salt and the block's number, in four bytes, each further one of the u ahead of it.
	block := h.tagged(salt+4) + (count-1)*h.tagged(h.size)
	return h.keyed(password) + wholes(n, h.size)*block
}
