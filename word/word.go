// Package word is layer 1: words turned, laid, taken: see shared/doc/01-word.md.
package word

import "math/bits"

// Word is the types of words.
type Word interface{ ~uint32 | ~uint64 }

// width is asked of the type by its greatest value, so that a type made of uint32 or uint64 answers as that one does.
func width[T Word]() int { return bits.Len64(uint64(^T(0))) }

// size is the width in bytes.
func size[T Word]() int { return width[T]() / 8 }

// Turn turns a word's bits to the left.
func Turn[T Word](x T, n int) T {
	// The width is a power of two: the lowest bits of n are n modulo the width, below 0 too.
	left := n & (width[T]() - 1)
	// At left 0 the right half is shifted out whole, and x stays as it is.
	return x<<left | x>>(width[T]()-left)
}

// Take gives the word that stands at a place, the highest byte first.
func Take[T Word](b []byte, at int) T {
	var x T
	for i := range size[T]() {
		x = x<<8 | T(byteBehind(b, at, i))
	}
	return x
}

// TakeLE gives the word that stands at a place, the lowest byte first.
func TakeLE[T Word](b []byte, at int) T {
	var x T
	for i := range size[T]() {
		x |= T(byteBehind(b, at, i)) << (8 * i)
	}
	return x
}

// byteBehind gives the byte i places behind at, 0 where b has none; i is from 0 to 7.
func byteBehind(b []byte, at, i int) byte {
	// i is moved to the other side, where it can't wrap: at+i could, for a great at.
	if at < -i || at >= len(b)-i {
		return 0
	}
	return b[at+i]
}

// Lay gives a word's bytes, the highest first.
func Lay[T Word](x T) []byte {
	out := make([]byte, size[T]())
	for i := range out {
		out[len(out)-1-i] = byte(x >> (8 * i))
	}
	return out
}

// LayLE gives a word's bytes, the lowest first.
func LayLE[T Word](x T) []byte {
	out := make([]byte, size[T]())
	for i := range out {
		out[i] = byte(x >> (8 * i))
	}
	return out
}

// Xor gives the exclusive or of two lists, byte by byte.
func Xor(a, b []byte) []byte {
	out := make([]byte, min(len(a), len(b)))
	for i := range out {
		out[i] = a[i] ^ b[i]
	}
	return out
}
