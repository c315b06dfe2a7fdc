package little

import (
	"math/bits"

	"reliquary/api"
)

// Numbers of the field are below the prime, here and in the other files.

func (k kind) plus(a, b uint64) uint64 {
	if sum := a + b; sum < k.prime {
		return sum
	}
	return a + b - k.prime
}

func (k kind) minus(a, b uint64) uint64 {
	if a >= b {
		return a - b
	}
	return a + k.prime - b
}

func (k kind) times(a, b uint64) uint64 {
	high, low := bits.Mul64(a, b)
	return bits.Rem64(high, low, k.prime)
}

// twoTimes tells a b + c d, for which dividing once will do.
func (k kind) twoTimes(a, b, c, d uint64) uint64 {
	high, low := bits.Mul64(a, b)
	higher, lower := bits.Mul64(c, d)
	low, carry := bits.Add64(low, lower, 0)
	high, _ = bits.Add64(high, higher, carry)
	return bits.Rem64(high, low, k.prime)
}

func (k kind) power(a, n uint64) uint64 {
	all := uint64(1)
	for ; n > 0; n >>= 1 {
		if n&1 == 1 {
			all = k.times(all, a)
		}
		a = k.times(a, a)
	}
	return all
}

// inverse tells 1 / a, and 0 of 0.
func (k kind) inverse(a uint64) uint64 {
	return k.power(a, k.prime-2)
}

// root tells the lesser root of a number, if it has one. The prime leaves 3 by 4: of
// what has roots this power is one.
func (k kind) root(a uint64) (uint64, bool) {
	b := k.power(a, (k.prime+1)/4)
	return min(b, k.minus(0, b)), k.times(b, b) == a
}

// left tells what is left of both parts.
func (k kind) left(a api.L2) api.L2 {
	return api.L2{a[0] % k.prime, a[1] % k.prime}
}

func (k kind) product(a, b api.L2) api.L2 {
	return api.L2{
		k.twoTimes(a[0], b[0], k.minus(0, a[1]), b[1]),
		k.twoTimes(a[0], b[1], a[1], b[0]),
	}
}

func (k kind) raised(a api.L2, n uint64) api.L2 {
	all := api.L2{1}
	for ; n > 0; n >>= 1 {
		if n&1 == 1 {
			all = k.product(all, a)
		}
		a = k.product(a, a)
	}
	return all
}
