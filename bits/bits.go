// Package bits is layer 1: fields of words. See shared/doc/01-bits.md.
package bits

import "donjon/api"

const (
	wordBits = 64
	maxShift = 40 // of Up: sums of its numbers stay far within an int
)

// Get is a field of a word.
func Get(w uint64, at, n int) (uint64, api.Errno) {
	if !isField(at, n) {
		return 0, api.ErrRange
	}
	return w >> at & lowest(n), api.OK
}

// Put is a word with a field.
func Put(w uint64, at, n int, v uint64) (uint64, api.Errno) {
	if !isField(at, n) {
		return 0, api.ErrRange
	}
	if v > lowest(n) {
		return 0, api.ErrField
	}
	return w&^(lowest(n)<<at) | v<<at, api.OK
}

// Ones is how many bits of a word are 1.
func Ones(w uint64) int {
	count := 0
	for i := range wordBits {
		if isOne(w, i) {
			count++
		}
	}
	return count
}

// High is the highest bit that is 1; below nought: there is none.
func High(w uint64) int {
	high := -1
	for i := range wordBits {
		if isOne(w, i) {
			high = i
		}
	}
	return high
}

// Low is the lowest bit that is 1; below nought: there is none.
func Low(w uint64) int {
	for i := range wordBits {
		if isOne(w, i) {
			return i
		}
	}
	return -1
}

// Up is the least multiple of a power of two that is not below a number.
func Up(n, k int) (int, api.Errno) {
	if n < 0 || n > 1<<maxShift || k < 0 || k > maxShift {
		return 0, api.ErrRange
	}
	below := 1<<k - 1
	return (n + below) &^ below, api.OK
}

// isField holds at against what n leaves of the word, because at and n
// together might leave their type.
func isField(at, n int) bool {
	return n >= 1 && n <= wordBits && at >= 0 && at <= wordBits-n
}

// lowest is a word whose n lowest bits are 1. Of 64 the shift leaves 0, and
// 1 less than 0 is all bits, as it should be.
func lowest(n int) uint64 { return uint64(1)<<n - 1 }

func isOne(w uint64, i int) bool { return w>>i&1 == 1 }
