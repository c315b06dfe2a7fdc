package tower

import (
	"reliquary/api"
	"reliquary/words"
)

// One, Add, Sub, Mul, Inv, Conj, Frob, Pow: of twelve parts.

func One() api.E12 { return api.E12{one2()} }

func Add(a, b api.E12) api.E12 {
	for k := range a {
		a[k] = Add2(a[k], b[k])
	}
	return a
}

func Sub(a, b api.E12) api.E12 {
	for k := range a {
		a[k] = Sub2(a[k], b[k])
	}
	return a
}

func Mul(a, b api.E12) api.E12 { return great().mul(leftAll(a), leftAll(b)) }

// Conj negates what stands with odd powers of w.
func Conj(a api.E12) api.E12 {
	a = leftAll(a)
	for k := 1; k < len(a); k += 2 {
		a[k] = Neg2(a[k])
	}
	return a
}

// Inv goes down by conjugates: a times its conjugate has even powers of w alone,
// and that times what it comes to turned 2 and 4 times has no power of w at all.
func Inv(a api.E12) (api.E12, api.Errno) {
	f, a := great(), leftAll(a)
	others := Conj(a)
	even := f.mul(a, others)
	turned := f.mul(f.turn(even, 2), f.turn(even, 4))
	inverse, e := f.inv2(f.mul(even, turned)[0])
	if e != api.OK {
		return api.E12{}, e
	}
	return f.mul(f.mul(others, turned), api.E12{inverse}), api.OK
}

func Pow(a api.E12, e api.Num) api.E12 {
	f, a, power := great(), leftAll(a), One()
	for i := words.Len(e) - 1; i >= 0; i-- {
		power = f.mul(power, power)
		if words.Bit(e, i) == 1 {
			power = f.mul(power, a)
		}
	}
	return power
}

// Whole tells whether all parts are below the prime.
func Whole(a api.E12) bool {
	for _, part := range a {
		if !below(part[0]) || !below(part[1]) {
			return false
		}
	}
	return true
}

func leftAll(a api.E12) api.E12 {
	for k := range a {
		a[k] = left2(a[k])
	}
	return a
}
