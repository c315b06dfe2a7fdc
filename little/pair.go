package little

import (
	"math/bits"

	"reliquary/api"
)

// The last power makes 1 of all numbers without an i part. So lines may be told times
// such a number, other than 0, and need no dividing: each is told times what its slope
// lacks.

// walked tells f of two points of the group, neither of them the zero, ahead of the
// last power.
func (k kind) walked(p, q api.L1) api.L2 {
	f, t := api.L2{1}, tripleOf(p)
	for i := bits.Len64(k.order) - 2; i >= 0; i-- {
		next, rise := k.twice(t)
		f = k.product(k.product(f, f), k.lineOfTwice(t, next, rise, q))
		t = next
		if k.order>>i&1 == 0 || k.sameX(t, p) {
			continue
		}
		t, rise = k.joined(t, p)
		f = k.product(f, k.lineOfJoined(t, p, rise, q))
	}
	return f
}

func (k kind) sameX(t triple, p api.L1) bool {
	return k.times(p.X, k.times(t.z, t.z)) == t.x
}

// lineOfTwice tells the line of t and the slope of t and itself at q, times the z of
// t twice and the z of t squared.
func (k kind) lineOfTwice(t, next triple, rise uint64, q api.L1) api.L2 {
	zz := k.times(t.z, t.z)
	at := k.plus(k.times(q.X, zz), t.x)
	down := k.minus(0, 2*k.times(t.y, t.y)%k.prime)
	return api.L2{
		k.twoTimes(rise, at, 1, down),
		k.times(q.Y, k.times(next.z, zz)),
	}
}

// lineOfJoined tells the line of p and the slope of a point and p at q, times the z of
// both added: the line of that point is the same one.
func (k kind) lineOfJoined(sum triple, p api.L1, rise uint64, q api.L1) api.L2 {
	return api.L2{
		k.twoTimes(rise, k.plus(q.X, p.X), k.minus(0, p.Y), sum.z),
		k.times(q.Y, sum.z),
	}
}

// last tells f to the power (p p - 1) / r, which is p - 1 times c. To the power p a
// number is the turned one, a - b i of a + b i; that over the number itself is the
// turned one's square over a a + b b.
func (k kind) last(f api.L2) api.L2 {
	turned := api.L2{f[0], k.minus(0, f[1])}
	over := k.inverse(k.twoTimes(f[0], f[0], f[1], f[1]))
	return k.raised(k.product(k.product(turned, turned), api.L2{over}), k.rest)
}
