package tower

import (
	"reliquary/api"
	"reliquary/words"
)

// Add2, Sub2, Neg2, Conj2, Mul2, Inv2, Root2: of two parts.

func Add2(a, b api.E2) api.E2 {
	a, b = left2(a), left2(b)
	return api.E2{sum(a[0], b[0]), sum(a[1], b[1])}
}

func Sub2(a, b api.E2) api.E2 {
	a, b = left2(a), left2(b)
	return api.E2{difference(a[0], b[0]), difference(a[1], b[1])}
}

func Neg2(a api.E2) api.E2 { return Sub2(api.E2{}, a) }

func Conj2(a api.E2) api.E2 {
	a = left2(a)
	return api.E2{a[0], negated(a[1])}
}

func Mul2(a, b api.E2) api.E2 { return great().mul2(left2(a), left2(b)) }

func Inv2(a api.E2) (api.E2, api.Errno) { return great().inv2(left2(a)) }

func left2(a api.E2) api.E2 { return api.E2{left(a[0]), left(a[1])} }

func one2() api.E2 { return api.E2{words.Of(1)} }

// mul2 and inv2 are told of numbers below p.

func (f field) mul2(a, b api.E2) api.E2 { return f.rest2(times2(a, b)) }

// inv2 divides the conjugate by what both make, which is no more than a number.
func (f field) inv2(a api.E2) (api.E2, api.Errno) {
	inverse, e := f.by.Inv(f.norm(a))
	if e != api.OK {
		return api.E2{}, e
	}
	return api.E2{f.by.Mul(a[0], inverse), f.by.Mul(negated(a[1]), inverse)}, api.OK
}

// norm tells an element times its conjugate: 0 of 0 alone, as -1 is no square by p.
func (f field) norm(a api.E2) api.Num {
	return f.rest(times(a[0], a[0]).plus(times(a[1], a[1])))
}
