// Package word is layer 1: see shared/doc/01-word.md.
package word

import "ballast/api"

const wordBits = 64

// Get returns the field of a word from a bit on, with a width.
func Get(w uint64, from, width int) (uint64, api.Errno) {
	if !isField(from, width) {
		return 0, api.ErrArg
	}
	return w >> from & ones(width), api.OK
}

// Set returns a word with another field.
func Set(w uint64, from, width int, v uint64) (uint64, api.Errno) {
	if !isField(from, width) {
		return 0, api.ErrArg
	}
	if v > ones(width) {
		return 0, api.ErrRange
	}
	return w&^(ones(width)<<from) | v<<from, api.OK
}

// Bytes returns the eight bytes of a word, the lowest one first.
func Bytes(w uint64) [8]byte {
	var b [8]byte
	for i := range b {
		b[i] = byte(w >> (8 * i))
	}
	return b
}

// Of returns the word of eight bytes.
func Of(b [8]byte) uint64 {
	var w uint64
	for i, x := range b {
		w |= uint64(x) << (8 * i)
	}
	return w
}

// isField never adds from and width, so that no argument overflows.
func isField(from, width int) bool {
	return 0 <= from && from < wordBits && 1 <= width && width <= wordBits-from
}

// ones returns the greatest value of a field with a width from 1 to 64.
func ones(width int) uint64 {
	return ^uint64(0) >> (wordBits - width)
}
