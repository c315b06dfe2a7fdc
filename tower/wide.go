package tower

import (
	"math/bits"

	"reliquary/api"
	"reliquary/words"
)

// wide is a number of 768 bits, as products are, in two halves. Sums and
// differences of them wrap on purpose: where what comes out in the end lies
// within bounds it is right, whatever lay between.
type wide struct {
	low, high api.Num
}

// times tells a product.
func times(a, b api.Num) wide {
	low, high := words.Mul(a, b)
	return wide{low, high}
}

func (a wide) plus(b wide) wide {
	var carry uint64
	for i := range a.low {
		a.low[i], carry = bits.Add64(a.low[i], b.low[i], carry)
	}
	for i := range a.high {
		a.high[i], carry = bits.Add64(a.high[i], b.high[i], carry)
	}
	return a
}

func (a wide) less(b wide) wide {
	var borrow uint64
	for i := range a.low {
		a.low[i], borrow = bits.Sub64(a.low[i], b.low[i], borrow)
	}
	for i := range a.high {
		a.high[i], borrow = bits.Sub64(a.high[i], b.high[i], borrow)
	}
	return a
}

// rest tells what is left by p of a number that stands for one from -12 p p to
// 12 p p: each number of a product is a sum of six products of two parts, some
// of them raised, and none of these is beyond 2 p p. With 2 p 2^384 added, which
// leaves nothing, it is not below 0, as 2^384 is above 9 p; nor does it wrap.
func (f field) rest(a wide) api.Num {
	high, _ := words.Add(a.high, words.Shift(f.by.N(), 1))
	return f.by.Wide(a.low, high)
}

// wide2 is an element of two parts whose numbers are wide.
type wide2 [2]wide

// times2 tells a product by three products of numbers: both parts' sums times
// each other are all four products together.
func times2(a, b api.E2) wide2 {
	first, second := times(a[0], b[0]), times(a[1], b[1])
	all := times(together(a[0], a[1]), together(b[0], b[1]))
	return wide2{first.less(second), all.less(first).less(second)}
}

func (a wide2) plus(b wide2) wide2 { return wide2{a[0].plus(b[0]), a[1].plus(b[1])} }

func (a wide2) less(b wide2) wide2 { return wide2{a[0].less(b[0]), a[1].less(b[1])} }

// raised tells an element times 1 + i, which is w to the power 6.
func (a wide2) raised() wide2 { return wide2{a[0].less(a[1]), a[0].plus(a[1])} }

func (f field) rest2(a wide2) api.E2 { return api.E2{f.rest(a[0]), f.rest(a[1])} }
