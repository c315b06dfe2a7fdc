package suite

import (
	"reliquary/api"
	"reliquary/curve"
	"reliquary/little"
	"reliquary/point"
)

// littleSig tells as a sig what little answered.
func littleSig(s api.Suite, p api.L1, e api.Errno) (api.Sig, api.Errno) {
	if e != api.OK {
		return api.Sig{}, e
	}
	return api.Sig{S: s, L: p}, api.OK
}

// SigCheck, SigAdd, SigMul, SigBytes, ReadSig: the second group.

func SigCheck(k api.Sig) bool {
	switch k.S {
	case api.Great:
		return k.L == api.L1{} && curve.In2(k.P)
	default:
		return k.P == api.P2{} && little.In(k.S, k.L)
	}
}

func SigAdd(a, b api.Sig) (api.Sig, api.Errno) {
	if !SigCheck(a) || !SigCheck(b) {
		return api.Sig{}, api.ErrPoint
	}
	if a.S != b.S {
		return api.Sig{}, api.ErrArg
	}
	switch a.S {
	case api.Great:
		p, e := curve.Add2(a.P, b.P)
		return api.Sig{P: p}, e
	default:
		p, e := little.Add(a.S, a.L, b.L)
		return littleSig(a.S, p, e)
	}
}

func SigMul(a api.Sig, n api.Num) (api.Sig, api.Errno) {
	if !SigCheck(a) {
		return api.Sig{}, api.ErrPoint
	}
	if _, e := orderAbove(a.S, n); e != api.OK {
		return api.Sig{}, e
	}
	switch a.S {
	case api.Great:
		p, e := curve.Mul2(a.P, n)
		return api.Sig{P: p}, e
	default:
		p, e := little.Mul(a.S, a.L, n[0])
		return littleSig(a.S, p, e)
	}
}

func SigBytes(a api.Sig) ([]byte, api.Errno) {
	if !SigCheck(a) {
		return nil, api.ErrPoint
	}
	switch a.S {
	case api.Great:
		return point.Bytes2(a.P)
	default:
		return little.Bytes(a.S, a.L)
	}
}

func ReadSig(s api.Suite, b []byte) (api.Sig, api.Errno) {
	switch s {
	case api.Great:
		p, e := point.Read2(b)
		return api.Sig{P: p}, e
	default:
		p, e := little.Read(s, b)
		return littleSig(s, p, e)
	}
}
