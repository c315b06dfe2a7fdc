// Package words is layer 1: numbers of 384 bits: see shared/doc/01-words.md.
package words

import (
	"math/bits"

	"reliquary/api"
)

// How much a word holds, and how much a number holds.
const (
	wordBits   = 64
	wordBytes  = 8
	wordDigits = 16
	numBits    = 384
	numBytes   = 48
	numDigits  = 96
)

// Of tells a small number.
func Of(n uint64) api.Num { return api.Num{n} }

// Compare tells which number is greater.
func Compare(a, b api.Num) int {
	if a == b {
		return 0
	}
	if _, borrowed := Sub(a, b); borrowed {
		return -1
	}
	return 1
}

// Bit tells a bit.
func Bit(a api.Num, i int) int {
	if i < 0 || i >= numBits {
		return 0
	}
	return int(a[i/wordBits] >> (i % wordBits) & 1)
}

// Len tells how many bits a number needs.
func Len(a api.Num) int {
	for i := len(a) - 1; i >= 0; i-- {
		if a[i] != 0 {
			return i*wordBits + bits.Len64(a[i])
		}
	}
	return 0
}

// Add adds two numbers, and tells what is carried.
func Add(a, b api.Num) (api.Num, bool) {
	var sum api.Num
	var carry uint64
	for i := range sum {
		sum[i], carry = bits.Add64(a[i], b[i], carry)
	}
	return sum, carry != 0
}

// Sub takes a number from another one, and tells what was borrowed.
func Sub(a, b api.Num) (api.Num, bool) {
	var rest api.Num
	var borrow uint64
	for i := range rest {
		rest[i], borrow = bits.Sub64(a[i], b[i], borrow)
	}
	return rest, borrow != 0
}

// Mul tells the lower and the higher half of a product.
func Mul(a, b api.Num) (api.Num, api.Num) {
	var product [12]uint64
	for i := range a {
		var carry uint64
		for j := range b {
			product[i+j], carry = mulAdd(a[i], b[j], product[i+j], carry)
		}
		product[i+len(b)] = carry
	}
	var low, high api.Num
	for i := range low {
		low[i], high[i] = product[i], product[i+len(low)]
	}
	return low, high
}

// mulAdd tells the two words of a times b, more and carry together. These are
// at most (2^64 - 1)^2 + 2 (2^64 - 1) = 2^128 - 1, so that nothing is lost.
func mulAdd(a, b, more, carry uint64) (uint64, uint64) {
	high, low := bits.Mul64(a, b)
	low, c := bits.Add64(low, more, 0)
	high += c
	low, c = bits.Add64(low, carry, 0)
	return low, high + c
}
