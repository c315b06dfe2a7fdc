package suite

import (
	"reliquary/api"
	"reliquary/little"
	"reliquary/point"
)

// The tags of wide numbers.
const (
	baseTag   byte = iota + 1 // of which h is made
	numTag                    // a scalar
	sigTag                    // a sig
	besideTag                 // the second part of the number near which a great sig is
)

// HashNum and HashSig tell a scalar, and a point of the second group, of texts.

func HashNum(s api.Suite, parts [][]byte) (api.Num, api.Errno) {
	r, e := Order(s)
	if e != api.OK {
		return api.Num{}, e
	}
	text, e := joined(parts)
	if e != api.OK {
		return api.Num{}, e
	}
	return left(r, numTag, text), api.OK
}

func HashSig(s api.Suite, parts [][]byte) (api.Sig, api.Errno) {
	p, e := prime(s)
	if e != api.OK {
		return api.Sig{}, e
	}
	text, e := joined(parts)
	if e != api.OK {
		return api.Sig{}, e
	}
	x := left(p, sigTag, text)
	switch s {
	case api.Great:
		near, _ := point.Near2(api.E2{x, left(p, besideTag, text)})
		inside, e := point.Clear2(near)
		return api.Sig{P: inside}, e
	default:
		inside, e := littleFound(s, x)
		return littleSig(s, inside, e)
	}
}

// littleFound tells the point near a number, cleared.
func littleFound(s api.Suite, x api.Num) (api.L1, api.Errno) {
	near, _, e := little.Near(s, x[0])
	if e != api.OK {
		return api.L1{}, e
	}
	return little.Clear(s, near)
}
