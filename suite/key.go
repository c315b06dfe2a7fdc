package suite

import (
	"reliquary/api"
	"reliquary/curve"
	"reliquary/little"
	"reliquary/point"
)

// Gen tells the first group's generator.
func Gen(s api.Suite) (api.Key, api.Errno) {
	switch s {
	case api.Great:
		return api.Key{P: curve.Gen1()}, api.OK
	default:
		p, e := little.Gen(s)
		return littleKey(s, p, e)
	}
}

// littleKey tells as a key what little answered.
func littleKey(s api.Suite, p api.L1, e api.Errno) (api.Key, api.Errno) {
	if e != api.OK {
		return api.Key{}, e
	}
	return api.Key{S: s, L: p}, api.OK
}

// KeyCheck, KeyAdd, KeyNeg, KeyMul, KeyBytes, ReadKey: the first group.

func KeyCheck(k api.Key) bool {
	switch k.S {
	case api.Great:
		return k.L == api.L1{} && curve.In1(k.P)
	default:
		return k.P == api.P1{} && little.In(k.S, k.L)
	}
}

func KeyAdd(a, b api.Key) (api.Key, api.Errno) {
	if !KeyCheck(a) || !KeyCheck(b) {
		return api.Key{}, api.ErrPoint
	}
	if a.S != b.S {
		return api.Key{}, api.ErrArg
	}
	switch a.S {
	case api.Great:
		p, e := curve.Add1(a.P, b.P)
		return api.Key{P: p}, e
	default:
		p, e := little.Add(a.S, a.L, b.L)
		return littleKey(a.S, p, e)
	}
}

func KeyNeg(a api.Key) (api.Key, api.Errno) {
	if !KeyCheck(a) {
		return api.Key{}, api.ErrPoint
	}
	switch a.S {
	case api.Great:
		p, e := curve.Neg1(a.P)
		return api.Key{P: p}, e
	default:
		p, e := little.Neg(a.S, a.L)
		return littleKey(a.S, p, e)
	}
}

func KeyMul(a api.Key, n api.Num) (api.Key, api.Errno) {
	if !KeyCheck(a) {
		return api.Key{}, api.ErrPoint
	}
	if _, e := orderAbove(a.S, n); e != api.OK {
		return api.Key{}, e
	}
	switch a.S {
	case api.Great:
		p, e := curve.Mul1(a.P, n)
		return api.Key{P: p}, e
	default:
		p, e := little.Mul(a.S, a.L, n[0])
		return littleKey(a.S, p, e)
	}
}

func KeyBytes(a api.Key) ([]byte, api.Errno) {
	if !KeyCheck(a) {
		return nil, api.ErrPoint
	}
	switch a.S {
	case api.Great:
		return point.Bytes1(a.P)
	default:
		return little.Bytes(a.S, a.L)
	}
}

func ReadKey(s api.Suite, b []byte) (api.Key, api.Errno) {
	switch s {
	case api.Great:
		p, e := point.Read1(b)
		return api.Key{P: p}, e
	default:
		p, e := little.Read(s, b)
		return littleKey(s, p, e)
	}
}
