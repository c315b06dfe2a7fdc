package modulus

import (
	"math/bits"

	"reliquary/api"
	"reliquary/words"
)

// product tells what is left of a times b by 2^384: of any a, and of b below n.
// Each round lays in a word of a, and as often n as makes the lowest word 0,
// which is then dropped. The sum stays below b + n, so that it never needs a
// word more than it has, and one subtraction brings it below n.
func (m *Modulus) product(a, b api.Num) api.Num {
	var sum api.Num
	for _, word := range a {
		high, low := bits.Mul64(word, b[0])
		low, c := bits.Add64(low, sum[0], 0)
		carry := high + c
		// This wraps on purpose: only its rest by 2^64 counts.
		times := low * m.wrap
		high, zero := bits.Mul64(times, m.n[0])
		_, c = bits.Add64(zero, low, 0)
		drop := high + c
		for j := 1; j < len(b); j++ {
			low, carry = mulAdd(word, b[j], sum[j], carry)
			sum[j-1], drop = mulAdd(times, m.n[j], low, drop)
		}
		sum[len(sum)-1] = carry + drop
	}
	return m.below(sum)
}

// down tells a number from 0 to n that, times 2^384, leaves what a does: each
// round lays in n as often as makes the lowest word 0, and drops that word.
func (m *Modulus) down(a api.Num) api.Num {
	for range a {
		times := a[0] * m.wrap
		_, carry := mulAdd(times, m.n[0], a[0], 0)
		for j := 1; j < len(a); j++ {
			a[j-1], carry = mulAdd(times, m.n[j], a[j], carry)
		}
		a[len(a)-1] = carry
	}
	return a
}

// mulAdd tells the two words of a times b, more and carry together. These are
// at most (2^64 - 1)^2 + 2 (2^64 - 1) = 2^128 - 1, so that nothing is lost.
func mulAdd(a, b, more, carry uint64) (uint64, uint64) {
	high, low := bits.Mul64(a, b)
	low, c := bits.Add64(low, more, 0)
	high += c
	low, c = bits.Add64(low, carry, 0)
	return low, high + c
}

// below brings a number that is less than twice n below n.
func (m *Modulus) below(a api.Num) api.Num {
	rest, borrowed := words.Sub(a, m.n)
	if borrowed {
		return a
	}
	return rest
}

// wrapOf tells the word that, times an odd word, leaves -1 by 2^64.
func wrapOf(word uint64) uint64 {
	// An odd number times itself leaves 1 by 8: three bits are right at the
	// beginning, and each round makes them twice as many.
	inverse := word
	for right := 3; right < 64; right *= 2 {
		inverse *= 2 - word*inverse
	}
	return -inverse
}
