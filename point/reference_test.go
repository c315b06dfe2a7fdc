package point

import (
	"math/big"
	"testing"

	"reliquary/api"
	"reliquary/curve"
	"reliquary/modulus"
	"reliquary/words"
)

// The tests hold the package against the document's own words, done by math/big in the
// field of two parts, in which the first curve's numbers are, too.

var (
	prime = bigOf(modulus.Base())
	// square is how many numbers of two parts there are.
	square = new(big.Int).Mul(prime, prime)
	half   = new(big.Int).Rsh(prime, 1)
	one    = big.NewInt(1)
)

// cofactors are written down here once more, by the bit.
var cofactors = [2]*big.Int{
	hex("396c8c005555e1568c00aaab0000aaab"),
	hex("5d543a95414e7f1091d50792876a202cd91de4547085abaa68a205b2e5a7ddfa628f1cb4d9e82ef21537e293a6691ae1616ec6e786f0c70cf1c38e31c7238e5"),
}

func hex(digits string) *big.Int {
	n, _ := new(big.Int).SetString(digits, 16)
	return n
}

func bigOf(a api.Num) *big.Int { return new(big.Int).SetBytes(words.Bytes(a)) }

func num(t *testing.T, n *big.Int) api.Num {
	t.Helper()
	a, e := words.Read(n.Bytes())
	if e != api.OK || n.Sign() < 0 {
		t.Fatal(n, e)
	}
	return a
}

// pair is an element of two parts, each from 0 to p - 1.
type pair [2]*big.Int

func of(a, b int64) pair { return left(big.NewInt(a), big.NewInt(b)) }

func pairOf(a api.E2) pair { return left(bigOf(a[0]), bigOf(a[1])) }

func (a pair) e2(t *testing.T) api.E2 {
	t.Helper()
	return api.E2{num(t, a[0]), num(t, a[1])}
}

func left(a, b *big.Int) pair {
	return pair{new(big.Int).Mod(a, prime), new(big.Int).Mod(b, prime)}
}

func (a pair) same(b pair) bool { return a[0].Cmp(b[0]) == 0 && a[1].Cmp(b[1]) == 0 }

func (a pair) plus(b pair) pair {
	return left(new(big.Int).Add(a[0], b[0]), new(big.Int).Add(a[1], b[1]))
}

func (a pair) negated() pair {
	return left(new(big.Int).Neg(a[0]), new(big.Int).Neg(a[1]))
}

func (a pair) times(b pair) pair {
	first := new(big.Int).Mul(a[0], b[0])
	first.Sub(first, new(big.Int).Mul(a[1], b[1]))
	second := new(big.Int).Mul(a[0], b[1])
	second.Add(second, new(big.Int).Mul(a[1], b[0]))
	return left(first, second)
}

func (a pair) power(n *big.Int) pair {
	all := of(1, 0)
	for i := n.BitLen() - 1; i >= 0; i-- {
		all = all.times(all)
		if n.Bit(i) == 1 {
			all = all.times(a)
		}
	}
	return all
}

// greater is the document's greater root.
func (a pair) greater() bool {
	return a[1].Cmp(half) > 0 || a[1].Sign() == 0 && a[0].Cmp(half) > 0
}

// cubed tells what Y Y is at an X.
func (a pair) cubed(beside pair) pair { return a.times(a).times(a).plus(beside) }

// isSquare is Euler's rule, in the field of one part or of two.
func (a pair) isSquare(field *big.Int) bool {
	all := new(big.Int).Sub(field, one)
	return a.same(of(0, 0)) || a.power(all.Rsh(all, 1)).same(of(1, 0))
}

// cubeRoot tells one of the numbers that, to the power 3, is a: a to the power that
// leads back where 3 divides no order, times whichever number of an order 3, 9, 27, ..
// makes it good.
func (a pair) cubeRoot() (pair, bool) {
	three := big.NewInt(3)
	rest, order := new(big.Int).Sub(square, one), 1
	for new(big.Int).Mod(rest, three).Sign() == 0 {
		rest.Div(rest, three)
		order *= 3
	}
	most := of(0, 0)
	for n := int64(1); ; n++ {
		most = of(n, 1).power(rest)
		if !most.power(big.NewInt(int64(order / 3))).same(of(1, 0)) {
			break
		}
	}
	root := a.power(new(big.Int).ModInverse(three, rest))
	for range order {
		if root.power(three).same(a) {
			return root, true
		}
		root = root.times(most)
	}
	return pair{}, false
}

// side is one of the two groups: its calls, and what they are held against.
type side[P comparable] struct {
	which     int
	length    int
	field     *big.Int
	beside    pair
	zero, gen P
	bytes     func(P) ([]byte, api.Errno)
	read      func([]byte) (P, api.Errno)
	near      func(api.E2) (P, int)
	clear     func(P) (P, api.Errno)
	check, in func(P) bool
	neg       func(P) (P, api.Errno)
	add       func(p, q P) (P, api.Errno)
	parts     func(P) (x, y pair, zero bool)
	point     func(x, y api.E2) P
}

func sideOne() side[api.P1] {
	return side[api.P1]{
		0, 48, prime, of(4, 0), api.P1{Zero: true}, curve.Gen1(), Bytes1, Read1,
		func(x api.E2) (api.P1, int) { return Near1(x[0]) },
		Clear1, curve.Check1, curve.In1, curve.Neg1, curve.Add1,
		func(p api.P1) (pair, pair, bool) {
			return pairOf(api.E2{p.X}), pairOf(api.E2{p.Y}), p.Zero
		},
		func(x, y api.E2) api.P1 { return api.P1{X: x[0], Y: y[0]} },
	}
}

func sideTwo() side[api.P2] {
	return side[api.P2]{
		1, 96, square, of(4, 4), api.P2{Zero: true}, curve.Gen2(), Bytes2, Read2,
		Near2, Clear2, curve.Check2, curve.In2, curve.Neg2, curve.Add2,
		func(p api.P2) (pair, pair, bool) { return pairOf(p.X), pairOf(p.Y), p.Zero },
		func(x, y api.E2) api.P2 { return api.P2{X: x, Y: y} },
	}
}

// both runs a test for each group.
func both(t *testing.T, one func(*testing.T, side[api.P1]), two func(*testing.T, side[api.P2])) {
	t.Run("first", func(t *testing.T) { one(t, sideOne()) })
	t.Run("second", func(t *testing.T) { two(t, sideTwo()) })
}

// written tells a point's bytes by the document's words.
func (s side[P]) written(p P) []byte {
	x, y, zero := s.parts(p)
	b := make([]byte, s.length)
	x[0].FillBytes(b[s.length-48:])
	if s.length == 96 {
		x[1].FillBytes(b[:48])
	}
	b[0] += 128
	if zero {
		b[0] += 64
	} else if y.greater() {
		b[0] += 32
	}
	return b
}

// times multiplies a point by adding alone.
func (s side[P]) times(p P, n *big.Int) P {
	all := s.zero
	for i := n.BitLen() - 1; i >= 0; i-- {
		all, _ = s.add(all, all)
		if n.Bit(i) == 1 {
			all, _ = s.add(all, p)
		}
	}
	return all
}
