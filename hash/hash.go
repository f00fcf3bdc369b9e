// Package hash implements a 64-bit hash of integers and bytes. See shared/doc/01-hash.md.
package hash

import "iter"

// factor is odd: only then can multiplying by it modulo 2^64 be undone, so that mixing loses nothing.
const factor = 0x9E3779B97F4A7C15

// wordSize is the number of bytes in a word.
const wordSize = 8

// Sum hashes a label and a sequence of integers.
func Sum(label string, words ...int) uint64 {
	var state uint64
	for w := range wordsOf([]byte(label)) {
		state = mix(state, w)
	}
	// Only the length tells a padded label from one that ends with zero bytes.
	state = mix(state, uint64(len(label)))
	state = mix(state, uint64(len(words)))
	for _, n := range words {
		state = mix(state, uint64(n))
	}
	return mix(state, 0)
}

// Bytes hashes a label and a byte slice.
func Bytes(label string, b []byte) uint64 {
	words := make([]int, 0, len(b)/wordSize+2)
	for w := range wordsOf(b) {
		words = append(words, int(w))
	}
	return Sum(label, append(words, len(b))...)
}

// Pair hashes two hashes.
func Pair(a, b uint64) uint64 {
	return Sum("pair", int(a), int(b))
}

// mix returns the state after mixing a word into it; it is a bijection of each argument.
func mix(state, word uint64) uint64 {
	m := (state ^ word) * factor
	return m ^ m>>32
}

// wordsOf yields the words of a byte slice.
func wordsOf(b []byte) iter.Seq[uint64] {
	return func(yield func(uint64) bool) {
		for i := 0; i < len(b); i += wordSize {
			if !yield(littleEndian(b[i:min(i+wordSize, len(b))])) {
				return
			}
		}
	}
}

// littleEndian returns the number with the given bytes, at most wordSize, the least significant one first.
func littleEndian(group []byte) uint64 {
	var n uint64
	for i, c := range group {
		n |= uint64(c) << (8 * i)
	}
	return n
}
