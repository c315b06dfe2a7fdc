package little

import (
	"math/bits"

	"reliquary/api"
)

// cube tells x x x + x, which of the points with that X is Y Y.
func (k kind) cube(x uint64) uint64 {
	return k.times(x, k.plus(k.times(x, x), 1))
}

func (k kind) onCurve(p api.L1) bool {
	if p.Zero {
		return p == api.L1{Zero: true}
	}
	return p.X < k.prime && p.Y < k.prime && k.times(p.Y, p.Y) == k.cube(p.X)
}

func (k kind) inGroup(p api.L1) bool {
	return k.onCurve(p) && k.multiple(p, k.order).z == 0
}

// allInGroup multiplies no point twice: those of a pair are often the same one.
func (k kind) allInGroup(points ...api.L1) bool {
	met := map[api.L1]int{}
	for _, p := range points {
		if met[p] == 0 && !k.inGroup(p) {
			return false
		}
		met[p]++
	}
	return true
}

// near ends at 0 at the latest, which is the X of a point.
func (k kind) near(x uint64) (api.L1, int) {
	x %= k.prime
	for far := 0; ; far++ {
		if y, ok := k.root(k.cube(x)); ok {
			return api.L1{X: x, Y: y}, far
		}
		x = k.plus(x, 1)
	}
}

// triple is the point (x / z z, y / z z z), of z 0 the zero: so points are added
// without dividing.
type triple struct{ x, y, z uint64 }

func tripleOf(p api.L1) triple {
	if p.Zero {
		return triple{}
	}
	return triple{p.X, p.Y, 1}
}

func (k kind) point(t triple) api.L1 {
	if t.z == 0 {
		return api.L1{Zero: true}
	}
	over := k.inverse(t.z)
	square := k.times(over, over)
	return api.L1{X: k.times(t.x, square), Y: k.times(t.y, k.times(square, over))}
}

// twice tells t and itself added, and the slope of both, times the z of what it tells.
// With y 0, or z 0, z becomes 0, as it must.
func (k kind) twice(t triple) (triple, uint64) {
	xx, yy, zz := k.times(t.x, t.x), k.times(t.y, t.y), k.times(t.z, t.z)
	rise := k.plus(3*xx%k.prime, k.times(zz, zz))
	middle := 4 * k.times(t.x, yy) % k.prime
	x := k.minus(k.times(rise, rise), k.plus(middle, middle))
	return triple{
		x: x,
		y: k.minus(k.times(rise, k.minus(middle, x)), 8*k.times(yy, yy)%k.prime),
		z: 2 * k.times(t.y, t.z) % k.prime,
	}, rise
}

// joined tells t and p added, and the slope of both, times the z of what it tells (if
// neither is the zero).
func (k kind) joined(t triple, p api.L1) (triple, uint64) {
	if p.Zero {
		return t, 0
	}
	if t.z == 0 {
		return tripleOf(p), 0
	}
	zz := k.times(t.z, t.z)
	run := k.minus(k.times(p.X, zz), t.x)
	rise := k.minus(k.times(p.Y, k.times(t.z, zz)), t.y)
	if run == 0 && rise == 0 {
		return k.twice(t)
	}
	square := k.times(run, run)
	cubed := k.times(square, run)
	middle := k.times(t.x, square)
	x := k.minus(k.minus(k.times(rise, rise), cubed), k.plus(middle, middle))
	return triple{
		x: x,
		y: k.minus(k.times(rise, k.minus(middle, x)), k.times(t.y, cubed)),
		z: k.times(t.z, run),
	}, rise
}

func (k kind) multiple(p api.L1, n uint64) triple {
	var t triple
	for i := bits.Len64(n) - 1; i >= 0; i-- {
		t, _ = k.twice(t)
		if n>>i&1 == 1 {
			t, _ = k.joined(t, p)
		}
	}
	return t
}
