package words

import (
	"math"
	"math/bits"

	"reliquary/api"
)

// long is a number with one word above, for what a shift moves out of it.
type long [7]uint64

// Divide tells how often a number goes into another one, and what is left.
func Divide(a, b api.Num) (api.Num, api.Num, api.Errno) {
	if b == (api.Num{}) {
		return api.Num{}, api.Num{}, api.ErrArg
	}
	size := (Len(b) + wordBits - 1) / wordBits
	// Both are shifted till the divisor's highest bit is the highest of a word:
	// a word that is guessed by its highest word alone is then at most 2 too great.
	shift := size*wordBits - Len(b)
	divisor := Shift(b, shift)
	rest := shiftLong(a, shift)
	var often api.Num
	for i := len(often) - size; i >= 0; i-- {
		often[i], rest = divideStep(rest, divisor, i, size)
	}
	return often, Shift(lower(rest), -shift), api.OK
}

// shiftLong shifts a number by less than a word, and keeps what goes out above.
func shiftLong(a api.Num, n int) long {
	low, high := Shift(a, n), Shift(a, n-numBits)
	var l long
	for i := range low {
		l[i] = low[i]
	}
	l[len(low)] = high[0]
	return l
}

// lower tells the number without the word above.
func lower(l long) api.Num {
	var a api.Num
	for i := range a {
		a[i] = l[i]
	}
	return a
}

// divideStep tells how often b, moved up by place words, goes into rest, and
// what is left of it. As the step ahead left less than b, that is one word.
func divideStep(rest long, b api.Num, place, size int) (uint64, long) {
	often := guess(rest[place+size], rest[place+size-1], b[size-1])
	rest, below := takeTimes(rest, b, often, place, size)
	for below {
		var carried bool
		rest, carried = putBack(rest, b, place, size)
		below = !carried
		often--
	}
	return often, rest
}

// guess tells how often top goes into high and low, at most a word full.
func guess(high, low, top uint64) uint64 {
	// bits.Div64 would panic if the answer did not fit into a word.
	if high >= top {
		return math.MaxUint64
	}
	often, _ := bits.Div64(high, low, top)
	return often
}

// takeTimes takes b so many times from rest, and tells what was borrowed.
func takeTimes(rest long, b api.Num, times uint64, place, size int) (long, bool) {
	var carry, borrow uint64
	for i := range size {
		var low uint64
		low, carry = mulAdd(b[i], times, 0, carry)
		rest[place+i], borrow = bits.Sub64(rest[place+i], low, borrow)
	}
	rest[place+size], borrow = bits.Sub64(rest[place+size], carry, borrow)
	return rest, borrow != 0
}

// putBack adds b to rest, and tells what was carried.
func putBack(rest long, b api.Num, place, size int) (long, bool) {
	var carry uint64
	for i := range size {
		rest[place+i], carry = bits.Add64(rest[place+i], b[i], carry)
	}
	rest[place+size], carry = bits.Add64(rest[place+size], 0, carry)
	return rest, carry != 0
}
