// Package word is layer 1: see shared/doc/01-word.md.
package word

import (
	"iter"
	"math/bits"

	"windrow/api"
)

// Size is how many bits a word has.
const Size = 64

// bound: the nearest number that may count bits of a word.
func bound(n int) int { return min(max(n, 0), Size) }

// valid: is there a field of width bits from at on?
func valid(at, width int) bool {
	// at + width could wrap round, so the width is held against what is left.
	return at >= 0 && at < Size && width >= 1 && width <= Size-at
}

// Mask: the n lowest bits.
func Mask(n int) uint64 { return 1<<bound(n) - 1 }

// Get: the number in the width bits from at on.
func Get(w uint64, at, width int) (uint64, api.Errno) {
	if !valid(at, width) {
		return 0, api.ErrArg
	}
	return w >> at & Mask(width), api.OK
}

// Put: w, with that number in these bits.
func Put(w uint64, at, width int, v uint64) (uint64, api.Errno) {
	if !valid(at, width) {
		return 0, api.ErrArg
	}
	if v > Mask(width) {
		return 0, api.ErrBig
	}
	return w&^(Mask(width)<<at) | v<<at, api.OK
}

// Ones: how many bits are 1.
func Ones(w uint64) int { return bits.OnesCount64(w) }

// Lowest: the lowest bit that is 1; 64: none.
func Lowest(w uint64) int { return bits.TrailingZeros64(w) }

// Highest: the highest bit that is 1; -1: none.
func Highest(w uint64) int { return bits.Len64(w) - 1 }

// Rank: how many bits below at are 1.
func Rank(w uint64, at int) int { return Ones(w & Mask(at)) }

// Select: the bit that is 1 and has k such below it; -1: there is none.
func Select(w uint64, k int) int {
	for at := range Bits(w) {
		if Rank(w, at) == k {
			return at
		}
	}
	return -1
}

// Gap: the lowest bit from which on n bits are 0; -1: there is none.
func Gap(w uint64, n int) int {
	if n < 1 {
		return 0
	}
	for at := 0; at <= Size-n; at++ {
		if w>>at&Mask(n) == 0 {
			return at
		}
	}
	return -1
}

// Turn: the bits turned to the left.
func Turn(w uint64, by int) uint64 { return bits.RotateLeft64(w, by) }

// Bits goes through the bits that are 1, rising.
func Bits(w uint64) iter.Seq[int] {
	return func(yield func(int) bool) {
		// The iterator may be used again, so it leaves w as it is.
		for rest := w; rest != 0; rest &= rest - 1 {
			if !yield(Lowest(rest)) {
				return
			}
		}
	}
}

// Pack: numbers, one behind the other from the lowest bit on, each in its width.
func Pack(values []uint64, widths []int) (uint64, api.Errno) {
	if len(values) != len(widths) {
		return 0, api.ErrArg
	}
	w, at := uint64(0), 0
	for i, v := range values {
		next, e := Put(w, at, widths[i], v)
		if e != api.OK {
			return 0, e
		}
		w = next
		at += widths[i]
	}
	return w, api.OK
}

// Unpack: the numbers that stand so in a word.
func Unpack(w uint64, widths []int) ([]uint64, api.Errno) {
	var values []uint64
	at := 0
	for _, width := range widths {
		v, e := Get(w, at, width)
		if e != api.OK {
			return nil, e
		}
		values = append(values, v)
		at += width
	}
	return values, api.OK
}
