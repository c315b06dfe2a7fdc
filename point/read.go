package point

import (
	"reliquary/api"
	"reliquary/modulus"
	"reliquary/tower"
	"reliquary/words"
)

// size is how many bytes a number has.
const size = 48

// read1 reads a point of the first curve, of the group or not. That -y is the greater
// root where y is not holds without a look: no point of the curves has Y 0, since
// neither curve has an even count of points.
func read1(b []byte) (api.P1, bool) {
	rest, bits, ok := take(b, size)
	if !ok {
		return api.P1{}, false
	}
	if bits&zero != 0 {
		return api.P1{Zero: true}, true
	}
	x, ok := number(rest)
	if !ok {
		return api.P1{}, false
	}
	m := great()
	y, ok := root1(m, x)
	if !ok {
		return api.P1{}, false
	}
	if bits&upper != 0 {
		y = m.Neg(y)
	}
	return api.P1{X: x, Y: y}, true
}

// read2 reads a point of the second curve, of the group or not.
func read2(b []byte) (api.P2, bool) {
	rest, bits, ok := take(b, 2*size)
	if !ok {
		return api.P2{}, false
	}
	if bits&zero != 0 {
		return api.P2{Zero: true}, true
	}
	second, ok2 := number(rest[:size])
	first, ok1 := number(rest[size:])
	if !ok1 || !ok2 {
		return api.P2{}, false
	}
	x := api.E2{first, second}
	y, ok := root2(x)
	if !ok {
		return api.P2{}, false
	}
	if bits&upper != 0 {
		y = tower.Neg2(y)
	}
	return api.P2{X: x, Y: y}, true
}

// number reads a number that is below p.
func number(b []byte) (api.Num, bool) {
	n, e := words.Read(b)
	return n, e == api.OK && words.Compare(n, modulus.Base()) < 0
}
