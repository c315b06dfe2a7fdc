package little

import "reliquary/api"

// kind is what a suite is: its primes are below 2^60, so that sums of numbers below
// them, and sums of two of their products, need no carry.
type kind struct {
	prime uint64 // p
	order uint64 // r
	rest  uint64 // c: p + 1 is c r
	gen   api.L1
}

// kindOf tells what a suite is; of one that is not little it has nothing but the error.
func kindOf(s api.Suite) (kind, api.Errno) {
	switch s {
	case api.Little:
		return kind{
			prime: 786251,
			order: 65521,
			rest:  12,
			gen:   api.L1{X: 9723, Y: 164643},
		}, api.OK
	case api.Middle:
		return kind{
			prime: 1152921504606846223,
			order: 72057594037927889,
			rest:  16,
			gen:   api.L1{X: 613740293506734924, Y: 666621259561003659},
		}, api.OK
	}
	return kind{}, api.ErrArg
}

// kindWith tells what a suite is to calls that are handed points of its curve.
func kindWith(s api.Suite, points ...api.L1) (kind, api.Errno) {
	k, e := kindOf(s)
	if e != api.OK {
		return kind{}, e
	}
	for _, p := range points {
		if !k.onCurve(p) {
			return kind{}, api.ErrPoint
		}
	}
	return k, api.OK
}
