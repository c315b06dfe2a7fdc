package little

import (
	"math/big"

	"reliquary/api"
)

// The chapter's own words, done by math/big: points by slopes that are divided out,
// numbers of two parts as pairs, the last power as one power.

type table struct {
	p, r, c *big.Int
	gen     api.L1
}

func tables() map[api.Suite]table {
	return map[api.Suite]table{
		api.Little: {big.NewInt(786251), big.NewInt(65521), big.NewInt(12), api.L1{X: 9723, Y: 164643}},
		api.Middle: {big.NewInt(1152921504606846223), big.NewInt(72057594037927889), big.NewInt(16),
			api.L1{X: 613740293506734924, Y: 666621259561003659}},
	}
}

// spot is a point: nil is the zero.
type spot struct{ x, y *big.Int }

// two is a number of two parts.
type two struct{ a, b *big.Int }

func whole(n uint64) *big.Int { return new(big.Int).SetUint64(n) }

func spotOf(p api.L1) *spot {
	if p.Zero {
		return nil
	}
	return &spot{whole(p.X), whole(p.Y)}
}

func (s *spot) point() api.L1 {
	if s == nil {
		return api.L1{Zero: true}
	}
	return api.L1{X: s.x.Uint64(), Y: s.y.Uint64()}
}

func (n two) parts() api.L2 { return api.L2{n.a.Uint64(), n.b.Uint64()} }

func (t table) mod(a *big.Int) *big.Int { return new(big.Int).Mod(a, t.p) }

func (t table) mul(a, b *big.Int) *big.Int { return t.mod(new(big.Int).Mul(a, b)) }

func (t table) sub(a, b *big.Int) *big.Int { return t.mod(new(big.Int).Sub(a, b)) }

func (t table) add(a, b *big.Int) *big.Int { return t.mod(new(big.Int).Add(a, b)) }

func (t table) div(a, b *big.Int) *big.Int { return t.mul(a, new(big.Int).ModInverse(b, t.p)) }

// right tells x x x + x.
func (t table) right(x *big.Int) *big.Int { return t.add(t.mul(x, t.mul(x, x)), x) }

func (t table) onCurve(p api.L1) bool {
	if p.Zero {
		return p.X == 0 && p.Y == 0
	}
	s := spotOf(p)
	return s.x.Cmp(t.p) < 0 && s.y.Cmp(t.p) < 0 && t.mul(s.y, s.y).Cmp(t.right(s.x)) == 0
}

func (t table) slope(p, q *spot) *big.Int {
	if p.x.Cmp(q.x) == 0 {
		return t.div(t.add(t.mul(big.NewInt(3), t.mul(p.x, p.x)), big.NewInt(1)), t.add(p.y, p.y))
	}
	return t.div(t.sub(q.y, p.y), t.sub(q.x, p.x))
}

func (t table) sum(p, q *spot) *spot {
	if p == nil {
		return q
	}
	if q == nil {
		return p
	}
	if p.x.Cmp(q.x) == 0 && t.add(p.y, q.y).Sign() == 0 {
		return nil
	}
	m := t.slope(p, q)
	x := t.sub(t.sub(t.mul(m, m), p.x), q.x)
	return &spot{x, t.sub(t.mul(m, t.sub(p.x, x)), p.y)}
}

func (t table) multiple(p *spot, n *big.Int) *spot {
	var all *spot
	for i := n.BitLen() - 1; i >= 0; i-- {
		all = t.sum(all, all)
		if n.Bit(i) == 1 {
			all = t.sum(all, p)
		}
	}
	return all
}

func (t table) product(m, n two) two {
	return two{
		t.sub(t.mul(m.a, n.a), t.mul(m.b, n.b)),
		t.add(t.mul(m.a, n.b), t.mul(m.b, n.a)),
	}
}

func (t table) power(m two, n *big.Int) two {
	all := two{big.NewInt(1), new(big.Int)}
	for i := n.BitLen() - 1; i >= 0; i-- {
		all = t.product(all, all)
		if n.Bit(i) == 1 {
			all = t.product(all, m)
		}
	}
	return all
}

// line tells m (x + x1) - y1, and y i.
func (t table) line(p *spot, m *big.Int, at *spot) two {
	return two{t.sub(t.mul(m, t.add(at.x, p.x)), p.y), at.y}
}

func (t table) pair(p, q *spot) two {
	one := two{big.NewInt(1), new(big.Int)}
	if p == nil || q == nil {
		return one
	}
	f, walker := one, p
	for i := t.r.BitLen() - 2; i >= 0; i-- {
		f = t.product(t.product(f, f), t.line(walker, t.slope(walker, walker), q))
		walker = t.sum(walker, walker)
		if t.r.Bit(i) == 1 && walker.x.Cmp(p.x) != 0 {
			f = t.product(f, t.line(walker, t.slope(walker, p), q))
			walker = t.sum(walker, p)
		}
	}
	n := new(big.Int).Mul(t.p, t.p)
	n.Sub(n, big.NewInt(1)).Div(n, t.r)
	return t.power(f, n)
}

func (t table) near(x uint64) (api.L1, int) {
	for k := 0; ; k++ {
		at := t.mod(new(big.Int).Add(whole(x), big.NewInt(int64(k))))
		y := new(big.Int).ModSqrt(t.right(at), t.p)
		if y == nil {
			continue
		}
		if other := t.sub(new(big.Int), y); other.Cmp(y) < 0 {
			y = other
		}
		return api.L1{X: at.Uint64(), Y: y.Uint64()}, k
	}
}
