package modulus

import (
	"math/bits"

	"reliquary/api"
	"reliquary/words"
)

// product tells what is left of a times b by 2^384: of any a, and of b below n.
// Each round lays in a word of a, and as often n as makes the lowest word 0,
// which is then dropped. The sum stays below b + n, so that it never needs a
// word more than it has, and one subtraction brings it below n.
func (m *Modulus) product(a, b api.Num) api.Num {
	var sum api.Num
	for _, word := range a {
		high, low := bits.Mul64(word, b[0])
		low, c := bits.Add64(low, sum[0], 0)
		carry := high + c
		// This wraps on purpose: only its rest by 2^64 counts.
		times := low * m.wrap
		high, zero := bits.Mul64(times, m.n[0])
		_, c = bits.Add64(zero, low, 0)
		drop := high + c
		for j := 1; j < len(b); j++ {
			low, carry = mulAdd(word, b[j], sum[j], carry)
			sum[j-1], drop = mulAdd(times, m.n[j], low, drop)
		}
		sum[len(sum)-1] = carry + drop
	}
	return m.below(sum)
}

// mulAdd tells the two words of a times b, more and carry together. These are
// at most (2^64 - 1)^2 + 2 (2^64 - 1) = 2^128 - 1, so that nothing is lost.
func mulAdd(a, b, more, carry uint64) (uint64, uint64) {
	high, low := bits.Mul64(a, b)
	low, c := bits.Add64(low, more, 0)
	high += c
	low, c = bits.Add64(low, carry, 0)
	return low, high + c
}

// below brings a number that is less than twice n below n.
func (m *Modulus) below(a api.Num) api.Num {
	rest, borrowed := words.Sub(a, m.n)
	if borrowed {
		return a
	}
	return rest
}

// wrapOf tells the word that, times an odd word, leaves -1 by 2^64.
func wrapOf(word uint64) uint64 {
	// An odd number times itself leaves 1 by 8: three bits are right at the
	// beginning, and each round makes them twice as many.
	inverse := word
	for right := 3; right < 64; right *= 2 {
		inverse *= 2 - word*inverse
	}
	return -inverse
}

// oneOf tells what is left of 2^384.
func oneOf(n api.Num) api.Num {
	most, _ := words.Sub(api.Num{}, words.Of(1))
	_, left, _ := words.Divide(most, n)
	// This stays below n, as no odd number from 3 on goes into 2^384.
	one, _ := words.Add(left, words.Of(1))
	return one
}

// squareOfOne tells what is left of 2^768, which is 2^384 in Montgomery's form:
// 2^3 by three doublings, and squared seven times, as 384 is 3 times 2^7.
func (m *Modulus) squareOfOne() api.Num {
	square := m.one
	for range 3 {
		double, _ := words.Add(square, square)
		square = m.below(double)
	}
	for range 7 {
		square = m.product(square, square)
	}
	return square
}
