package cost

import (
	"turnkey/api"
	"turnkey/ledger"
)

// algorithm is what there is to reckon of an algorithm's sessions.
type algorithm struct {
	// most is how many bytes a tag has at most.
	most int
	// custom: may there be a customization?
	custom bool
	// key: may a key have n bytes?
	key func(n int) bool
	// begin, write and sum record what a session's beginning, n bytes more of its message, and its tag record.
	begin func(l *ledger.Ledger, s holding)
	write func(l *ledger.Ledger, s holding, n int)
	sum   func(l *ledger.Ledger, s holding)
}

// algorithmOf is the algorithm of a number; false, if it is none.
func algorithmOf(a api.Alg) (algorithm, bool) {
	switch a {
	case api.AlgHmac256, api.AlgHmac512:
		h, _ := hashOf(a)
		return hmacOf(h), true
	case api.AlgCmac:
		return cmac(), true
	case api.AlgKmac128:
		return kmacOf(rate128, false), true
	case api.AlgKmac256:
		return kmacOf(rate256, false), true
	case api.AlgKmacX128:
		return kmacOf(rate128, true), true
	case api.AlgKmacX256:
		return kmacOf(rate256, true), true
	}
	return algorithm{}, false
}

// algorithm is the one of a session.
func (s holding) algorithm() algorithm {
	a, _ := algorithmOf(s.alg)
	return a
}

// anyLength: may a key have n bytes, if it may have any number of them?
func anyLength(int) bool { return true }

// cipherLength: may the cipher's key have n bytes?
func cipherLength(n int) bool { return n == 16 || n == 24 || n == 32 }

// hmacOf is HMAC with a hash function. What its message comes behind is just one block, so that the message alone says how its blocks end.
func hmacOf(h hash) algorithm {
	return algorithm{
		most: h.size,
		key:  anyLength,
		begin: func(l *ledger.Ledger, s holding) {
			l.NoteTimes(h.event, h.keyed(s.key))
		},
		write: func(l *ledger.Ledger, s holding, n int) {
			l.NoteTimes(h.event, (s.message+n)/h.block-s.message/h.block)
		},
		sum: func(l *ledger.Ledger, s holding) {
			l.NoteTimes(h.event, h.last(s.message)+1)
		},
	}
}

// cipherBlock is how many bytes a block of the cipher has.
const cipherBlock = 16

// cmac is CMAC.
func cmac() algorithm {
	enciphered := func(s holding) api.Event { return api.Event{Kind: api.EvAes, Size: s.key} }
	return algorithm{
		most: cipherBlock,
		key:  cipherLength,
		begin: func(l *ledger.Ledger, s holding) {
			l.Note(api.Event{Kind: api.EvSchedule, Size: s.key})
			l.Note(enciphered(s))
		},
		write: func(l *ledger.Ledger, s holding, n int) {
			l.NoteTimes(enciphered(s), passed(s.message+n)-passed(s.message))
		},
		sum: func(l *ledger.Ledger, s holding) {
			l.Note(enciphered(s))
		},
	}
}

// passed is how many blocks of a message of n bytes are enciphered ahead of its tag: one block is held back till a byte comes behind it.
func passed(n int) int { return max(n-1, 0) / cipherBlock }

// The rates of the sponges of both strengths.
const (
	rate128 = 168
	rate256 = 136
)

// nameSize is how many bytes the name has that every KMAC's sponge begins with.
const nameSize = len("KMAC")

// kmacOf is KMAC over a sponge of a rate. Its message begins at a rate's beginning, for all that stands ahead is padded.
func kmacOf(rate int, xof bool) algorithm {
	permuted := api.Event{Kind: api.EvKeccak, Size: 200}
	return algorithm{
		most:   api.MaxTag,
		custom: true,
		key:    anyLength,
		begin: func(l *ledger.Ledger, s holding) {
			l.NoteTimes(permuted, padded(stringSize(nameSize)+stringSize(s.custom), rate)+padded(stringSize(s.key), rate))
		},
		write: func(l *ledger.Ledger, s holding, n int) {
			l.NoteTimes(permuted, (s.message+n)/rate-s.message/rate)
		},
		sum: func(l *ledger.Ledger, s holding) {
			// It is permuted once more to be shut; the tag is shorter than any rate, so that telling it takes none.
			l.NoteTimes(permuted, (s.message%rate+endSize(s.out, xof))/rate+1)
		},
	}
}

// endSize is how many bytes the sponge takes in behind the message: the tag's bits as a number, or 0.
func endSize(out int, xof bool) int {
	if xof {
		return numberSize(0)
	}
	return numberSize(8 * out)
}

// padded is how many whole rates n bytes become that are padded to a rate, which is told ahead of them.
func padded(n, rate int) int { return wholes(numberSize(rate)+n, rate) }

// stringSize is how many bytes a list of n bytes has with its bits counted ahead of it.
func stringSize(n int) int { return numberSize(8*n) + n }

// numberSize is how many bytes a number has with their count beside it.
func numberSize(n int) int {
	size := 2
	for n > 255 {
		n >>= 8
		size++
	}
	return size
}

// wholes is how many pieces of a size n bytes need.
func wholes(n, size int) int { return (n + size - 1) / size }
