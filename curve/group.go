package curve

import "reliquary/api"

// field is what is done with a curve's numbers.
type field[E comparable] struct {
	add, sub, mul func(a, b E) E
	inv           func(a E) (E, api.Errno)
	below         func(a E) bool
	one           E
}

// group is a curve, and the group of its points that r makes the zero.
type group[E comparable] struct {
	field[E]
	beside E // what stands beside X X X
	turn   func(x, y E) (E, E)
	steps  int // how often seed multiplies a point of the group till it is the turned one, negated
}

// seed is the number s of which the great curve is made: r is s s s s - s s + 1, and
// p is r (s + 1) (s + 1) / 3 - s. It has few bits that are 1.
const seed = 0xd201000000010000

// point is api.P1 or api.P2.
type point[E comparable] struct {
	X, Y E
	Zero bool
}

func (g group[E]) check(p point[E]) bool {
	if p.Zero {
		return p == point[E]{Zero: true}
	}
	return g.below(p.X) && g.below(p.Y) && g.mul(p.Y, p.Y) == g.add(g.mul(p.X, g.mul(p.X, p.X)), g.beside)
}

// in goes by turning a point, which takes fewer steps than to multiply it by r.
func (g group[E]) in(p point[E]) bool {
	if p.Zero || !g.check(p) {
		return g.check(p)
	}
	all := g.lift(p)
	for range g.steps {
		all = g.byWord(all, seed)
	}
	x, y := g.turn(p.X, p.Y)
	return all.x == g.mul(x, all.z) && all.y == g.mul(g.minus(y), all.z)
}

func (g group[E]) neg(p point[E]) (point[E], api.Errno) {
	if !g.check(p) {
		return point[E]{}, api.ErrPoint
	}
	p.Y = g.minus(p.Y)
	return p, api.OK
}

func (g group[E]) join(p, q point[E]) (point[E], api.Errno) {
	if !g.check(p) || !g.check(q) {
		return point[E]{}, api.ErrPoint
	}
	return g.lower(g.together(g.lift(p), g.lift(q))), api.OK
}

func (g group[E]) sum(l []point[E], n []api.Num) (point[E], api.Errno) {
	if len(l) != len(n) {
		return point[E]{}, api.ErrArg
	}
	for _, p := range l {
		if !g.check(p) {
			return point[E]{}, api.ErrPoint
		}
	}
	all := g.zero()
	for i := 0; i < len(l); i += most {
		end := min(i+most, len(l))
		all = g.together(all, g.some(l[i:end], n[i:end]))
	}
	return g.lower(all), api.OK
}

func (g group[E]) minus(a E) E {
	var none E
	return g.sub(none, a)
}
