package modulus

import (
	"math"
	"math/bits"

	"reliquary/api"
	"reliquary/words"
)

// leading is a divisor whose highest bit is the highest that a number has, and
// what is left by it. Of such a divisor a guess by its highest word alone is at
// most 2 too great.
type leading struct {
	by, left api.Num
}

// powersOf tells what is left of 2^384 and of 2^768. All is done by n shifted up,
// and so is what is left of numbers that are shifted up as far.
func powersOf(n api.Num) (one, square api.Num) {
	shift := numBits - words.Len(n)
	l := leading{by: words.Shift(n, shift)}
	// As by is above 2^383 it goes into 2^384 just once.
	l.left, _ = words.Sub(api.Num{}, l.by)
	l.double(shift)
	one = words.Shift(l.left, -shift)
	l.double(numBits)
	square = words.Shift(l.left, -shift)
	return one, square
}

// double doubles what is left i times, a word at once where it can.
func (l *leading) double(i int) {
	for ; i > wordBits; i -= wordBits {
		l.step(wordBits)
	}
	l.step(i)
}

// step doubles what is left at most 64 times, and divides.
func (l *leading) step(i int) {
	above := l.shift(i)
	last := len(l.by) - 1
	above -= l.take(guess(above, l.left[last], l.by[last]))
	// Above is 0 again, or below that by the one that a guess too great took.
	for above != 0 {
		sum, carried := words.Add(l.left, l.by)
		l.left = sum
		if carried {
			above++
		}
	}
}

// shift shifts what is left up, and tells what goes out above.
func (l *leading) shift(i int) uint64 {
	last := len(l.left) - 1
	above := l.left[last] >> (wordBits - i)
	for j := last; j > 0; j-- {
		l.left[j] = l.left[j]<<i | l.left[j-1]>>(wordBits-i)
	}
	l.left[0] <<= i
	return above
}

// take takes the divisor so many times, and tells what that lacks above.
func (l *leading) take(times uint64) uint64 {
	var low, carry, borrow uint64
	for j := range l.left {
		low, carry = mulAdd(l.by[j], times, 0, carry)
		l.left[j], borrow = bits.Sub64(l.left[j], low, borrow)
	}
	return carry + borrow
}

// guess tells how often top goes into high and low, at most a word full.
func guess(high, low, top uint64) uint64 {
	// bits.Div64 would panic if the answer did not fit into a word.
	if high >= top {
		return math.MaxUint64
	}
	often, _ := bits.Div64(high, low, top)
	return often
}
