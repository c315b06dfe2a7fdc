package curve

// triple is a point by three numbers, so that none is divided: x and y are z times
// those of the point; the zero has z 0, and x 0.
type triple[E comparable] struct {
	x, y, z E
}

func (g group[E]) zero() triple[E] { return triple[E]{y: g.one} }

func (g group[E]) lift(p point[E]) triple[E] {
	if p.Zero {
		return g.zero()
	}
	return triple[E]{p.X, p.Y, g.one}
}

func (a triple[E]) isZero() bool {
	var none E
	return a.z == none
}

func (g group[E]) lower(a triple[E]) point[E] {
	if a.isZero() {
		return point[E]{Zero: true}
	}
	over, _ := g.inv(a.z)
	return point[E]{X: g.mul(a.x, over), Y: g.mul(a.y, over)}
}

// together adds any two points, be they the same, each other's negated ones or the
// zero: that one rule does for all of them because no point but the zero is its own
// negated one, both curves having an odd number of points. (The rule is that of
// Renes, Costello and Batina, of 2015.)
func (g group[E]) together(a, b triple[E]) triple[E] {
	xx, yy, zz := g.mul(a.x, b.x), g.mul(a.y, b.y), g.mul(a.z, b.z)
	// A product of sums, less two products that are there, is the other two.
	xy := g.sub(g.mul(g.add(a.x, a.y), g.add(b.x, b.y)), g.add(xx, yy))
	yz := g.sub(g.mul(g.add(a.y, a.z), g.add(b.y, b.z)), g.add(yy, zz))
	xz := g.sub(g.mul(g.add(a.x, a.z), g.add(b.x, b.z)), g.add(xx, zz))
	xx3, xz3, zz3 := g.thrice(xx), g.thrice(g.mul(g.beside, xz)), g.thrice(g.mul(g.beside, zz))
	less, more := g.sub(yy, zz3), g.add(yy, zz3)
	return triple[E]{
		x: g.sub(g.mul(less, xy), g.mul(yz, xz3)),
		y: g.add(g.mul(less, more), g.mul(xx3, xz3)),
		z: g.add(g.mul(more, yz), g.mul(xx3, xy)),
	}
}

// twice adds a point to itself, by the same rule with fewer products.
func (g group[E]) twice(a triple[E]) triple[E] {
	if a.isZero() {
		return a
	}
	yy, yz := g.mul(a.y, a.y), g.mul(a.y, a.z)
	zz3 := g.thrice(g.mul(g.beside, g.mul(a.z, a.z)))
	yy8 := g.double(g.double(g.double(yy)))
	less, more := g.sub(yy, g.thrice(zz3)), g.add(yy, zz3)
	return triple[E]{
		x: g.double(g.mul(less, g.mul(a.x, a.y))),
		y: g.add(g.mul(less, more), g.mul(yy8, zz3)),
		z: g.mul(yy8, yz),
	}
}

func (g group[E]) double(a E) E { return g.add(a, a) }

func (g group[E]) thrice(a E) E { return g.add(g.double(a), a) }
