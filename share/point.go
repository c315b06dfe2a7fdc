package share

import "reliquary/api"

// group is what is done with points of one kind: keys, or sigs.
type group[P any] struct {
	check   func(p P) bool
	suiteOf func(p P) api.Suite
	add     func(a, b P) (P, api.Errno)
	mul     func(a P, n api.Num) (P, api.Errno)
}

// joinPoints tells the value at a place of points.
func joinPoints[P any](g group[P], ids []int, points []P, at int) (P, api.Errno) {
	var none P
	if tooMany(len(ids)) {
		return none, api.ErrLong
	}
	if e := checkIDs(ids, len(points), at); e != api.OK {
		return none, e
	}
	s, e := commonSuite(g, points)
	if e != api.OK {
		return none, e
	}
	factors, e := Lagrange(s, ids, at)
	if e != api.OK {
		return none, e
	}
	return sumOf(g, points, factors)
}

// commonSuite tells the suite of which all points are.
func commonSuite[P any](g group[P], points []P) (api.Suite, api.Errno) {
	for _, p := range points {
		if !g.check(p) {
			return 0, api.ErrPoint
		}
	}
	if len(points) == 0 {
		return 0, api.ErrArg
	}
	s := g.suiteOf(points[0])
	for _, p := range points[1:] {
		if g.suiteOf(p) != s {
			return 0, api.ErrArg
		}
	}
	return s, api.OK
}

// sumOf tells the sum of points, each times its factor; there is at least one.
func sumOf[P any](g group[P], points []P, factors []api.Num) (P, api.Errno) {
	var none P
	sum, e := g.mul(points[0], factors[0])
	for i := 1; i < len(points) && e == api.OK; i++ {
		var part P
		if part, e = g.mul(points[i], factors[i]); e == api.OK {
			sum, e = g.add(sum, part)
		}
	}
	if e != api.OK {
		return none, e
	}
	return sum, api.OK
}
