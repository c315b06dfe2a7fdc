package curve

import (
	"math/big"
	"testing"

	"reliquary/api"
	"reliquary/modulus"
	"reliquary/tower"
	"reliquary/words"
)

// The tests hold the package against the document's own rule for adding, done with
// slopes by math/big in the field of two parts, in which the first curve is, too.

var (
	prime = bigOf(modulus.Base())
	order = bigOf(modulus.Order())
	// cofactors are how many points the curves have, over r.
	cofactors = [2]*big.Int{
		hex("396c8c005555e1568c00aaab0000aaab"),
		hex("5d543a95414e7f1091d50792876a202cd91de4547085abaa68a205b2e5a7ddfa628f1cb4d9e82ef21537e293a6691ae1616ec6e786f0c70cf1c38e31c7238e5"),
	}
	// smallFactors are primes of these.
	smallFactors = [2][]int64{{3, 11, 10177, 859267, 52437899}, {13, 23, 2713, 11953, 262069}}
)

func hex(digits string) *big.Int {
	n, _ := new(big.Int).SetString(digits, 16)
	return n
}

func bigOf(a api.Num) *big.Int { return new(big.Int).SetBytes(words.Bytes(a)) }

func num(t *testing.T, n *big.Int) api.Num {
	t.Helper()
	a, e := words.Read(n.Bytes())
	if e != api.OK || n.Sign() < 0 {
		t.Fatal(n, e)
	}
	return a
}

// pair is an element of two parts, each from 0 to p - 1.
type pair [2]*big.Int

func of(a, b int64) pair { return left(big.NewInt(a), big.NewInt(b)) }

func left(a, b *big.Int) pair {
	return pair{new(big.Int).Mod(a, prime), new(big.Int).Mod(b, prime)}
}

func (a pair) same(b pair) bool { return a[0].Cmp(b[0]) == 0 && a[1].Cmp(b[1]) == 0 }

func (a pair) plus(b pair) pair {
	return left(new(big.Int).Add(a[0], b[0]), new(big.Int).Add(a[1], b[1]))
}

func (a pair) less(b pair) pair {
	return left(new(big.Int).Sub(a[0], b[0]), new(big.Int).Sub(a[1], b[1]))
}

func (a pair) times(b pair) pair {
	first := new(big.Int).Mul(a[0], b[0])
	first.Sub(first, new(big.Int).Mul(a[1], b[1]))
	second := new(big.Int).Mul(a[0], b[1])
	second.Add(second, new(big.Int).Mul(a[1], b[0]))
	return left(first, second)
}

func (a pair) over(b pair) pair {
	conjugate := left(b[0], new(big.Int).Neg(b[1]))
	norm := b.times(conjugate)[0]
	norm.ModInverse(norm, prime)
	return a.times(conjugate).times(pair{norm, new(big.Int)})
}

// spot is a point; nil is the zero.
type spot struct {
	x, y pair
}

func plus(p, q *spot) *spot {
	if p == nil || q == nil {
		if p == nil {
			return q
		}
		return p
	}
	if p.x.same(q.x) && p.y.same(of(0, 0).less(q.y)) {
		return nil
	}
	m := q.y.less(p.y)
	if p.x.same(q.x) {
		m = of(3, 0).times(p.x).times(p.x).over(p.y.plus(p.y))
	} else {
		m = m.over(q.x.less(p.x))
	}
	x := m.times(m).less(p.x).less(q.x)
	return &spot{x, m.times(p.x.less(x)).less(p.y)}
}

func negated(p *spot) *spot {
	if p == nil {
		return nil
	}
	return &spot{p.x, of(0, 0).less(p.y)}
}

func times(p *spot, n *big.Int) *spot {
	var all *spot
	for i := n.BitLen() - 1; i >= 0; i-- {
		all = plus(all, all)
		if n.Bit(i) == 1 {
			all = plus(all, p)
		}
	}
	return all
}

// side is one of the two groups: its calls, and its points as spots.
type side[P comparable] struct {
	which     int
	gen       func() P
	check, in func(P) bool
	neg       func(P) (P, api.Errno)
	add       func(p, q P) (P, api.Errno)
	mul       func(P, api.Num) (P, api.Errno)
	sum       func([]P, []api.Num) (P, api.Errno)
	zero      P
	point     func(x, y api.E2) P
	beside    pair
}

func sideOne() side[api.P1] {
	return side[api.P1]{
		0, Gen1, Check1, In1, Neg1, Add1, Mul1, Sum1, api.P1{Zero: true},
		func(x, y api.E2) api.P1 { return api.P1{X: x[0], Y: y[0]} }, of(4, 0),
	}
}

func sideTwo() side[api.P2] {
	return side[api.P2]{
		1, Gen2, Check2, In2, Neg2, Add2, Mul2, Sum2, api.P2{Zero: true},
		func(x, y api.E2) api.P2 { return api.P2{X: x, Y: y} }, of(4, 4),
	}
}

// of tells a spot as the package has it.
func (s side[P]) of(t *testing.T, p *spot) P {
	t.Helper()
	if p == nil {
		return s.zero
	}
	return s.point(api.E2{num(t, p.x[0]), num(t, p.x[1])}, api.E2{num(t, p.y[0]), num(t, p.y[1])})
}

// near tells a point of the curve with X n, if there is one.
func (s side[P]) near(t *testing.T, n int64) *spot {
	t.Helper()
	x := of(n, 0)
	yy := x.times(x).times(x).plus(s.beside)
	y, e := tower.Root2(api.E2{num(t, yy[0]), num(t, yy[1])})
	if e != api.OK || s.which == 0 && y[1] != (api.Num{}) {
		return nil
	}
	return &spot{x, pair{bigOf(y[0]), bigOf(y[1])}}
}

func (s side[P]) generator() *spot {
	if s.which == 0 {
		return &spot{pair{hex(firstX), new(big.Int)}, pair{hex(firstY), new(big.Int)}}
	}
	return &spot{pair{hex(secondX), hex(secondXi)}, pair{hex(secondY), hex(secondYi)}}
}

// outside tells points of the curve that are none of the group: with small X, of
// each small order, and these with the generator added.
func (s side[P]) outside(t *testing.T) []*spot {
	t.Helper()
	var l []*spot
	for n := int64(0); len(l) < 6; n++ {
		if p := s.near(t, n); p != nil {
			l = append(l, p, negated(p))
		}
	}
	for _, q := range smallFactors[s.which] {
		p := s.ofOrder(t, big.NewInt(q))
		l = append(l, p, plus(p, s.generator()))
	}
	return l
}

// ofOrder tells a point of a small prime order.
func (s side[P]) ofOrder(t *testing.T, q *big.Int) *spot {
	t.Helper()
	rest := new(big.Int).Mul(cofactors[s.which], order)
	for new(big.Int).Mod(rest, q).Sign() == 0 {
		rest.Div(rest, q)
	}
	var p *spot
	for n := int64(1); p == nil; n++ {
		p = times(s.near(t, n), rest)
	}
	for more := times(p, q); more != nil; more = times(p, q) {
		p = more
	}
	return p
}
