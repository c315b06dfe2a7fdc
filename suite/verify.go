package suite

import (
	"reliquary/api"
	"reliquary/curve"
	"reliquary/little"
	"reliquary/pairing"
	"reliquary/words"
)

// Verify tells whether the pairing of g and a signature is that of a key and a hash.
func Verify(key api.Key, hash, sig api.Sig) (bool, api.Errno) {
	if !KeyCheck(key) || !SigCheck(hash) || !SigCheck(sig) {
		return false, api.ErrPoint
	}
	if key.S != hash.S || key.S != sig.S {
		return false, api.ErrArg
	}
	switch key.S {
	case api.Great:
		return greatSame(key.P, hash.P, sig.P)
	default:
		return littleSame(key.S, key.L, hash.L, sig.L)
	}
}

// greatSame goes by the negated key, whose number makes 1 with that of the key: so both
// numbers are the same just where this product is 1, and have one last power together.
func greatSame(key api.P1, hash, sig api.P2) (bool, api.Errno) {
	away, e := curve.Neg1(key)
	if e != api.OK {
		return false, e
	}
	product, e := pairing.Pairs([]api.P1{curve.Gen1(), away}, []api.P2{sig, hash})
	return product == api.E12{{words.Of(1)}}, e
}

func littleSame(s api.Suite, key, hash, sig api.L1) (bool, api.Errno) {
	g, e := little.Gen(s)
	if e != api.OK {
		return false, e
	}
	one, e := little.Pair(s, g, sig)
	if e != api.OK {
		return false, e
	}
	other, e := little.Pair(s, key, hash)
	return one == other, e
}
