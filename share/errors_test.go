package share

import (
	"math"
	"slices"
	"testing"

	"reliquary/api"
	"reliquary/suite"
)

// P19.1: the errors, in their order

// fault is a reason for which a call is refused; the lower come ahead of the higher.
type fault int

const (
	noSuite fault = iota
	tooLong
	badArg
	twice
	badDegree
)

func errnoOf(f fault) api.Errno {
	return []api.Errno{api.ErrArg, api.ErrLong, api.ErrArg, api.ErrThere, api.ErrArg}[f]
}

// handed is what calls of scalars are handed.
type handed struct {
	s      api.Suite
	coefs  []api.Num
	ids    []int
	shares []api.Num
	at     int
	n      int
	degree int
}

func fine(s api.Suite) handed {
	return handed{s: s, coefs: small(5, 3), ids: []int{1, 2, 3}, shares: small(8, 11, 14), at: 7, n: 4, degree: 1}
}

// refuses looks whether a call answers zero values and an error.
func refuses[T any](t *testing.T, what string, none func(T) bool, want api.Errno) func(x T, e api.Errno) {
	return func(x T, e api.Errno) {
		t.Helper()
		if !none(x) || e != want {
			t.Error(what, x, e, want)
		}
	}
}

func noNum(x api.Num) bool    { return x == api.Num{} }
func noNums(l []api.Num) bool { return l == nil }
func noFit(fits bool) bool    { return !fits }
func noKey(k api.Key) bool    { return k == api.Key{} }
func noSig(k api.Sig) bool    { return k == api.Sig{} }

func callValue(t *testing.T, h handed, want api.Errno) {
	t.Helper()
	refuses(t, "Value", noNum, want)(Value(h.s, h.coefs, h.at))
}

func callSplit(t *testing.T, h handed, want api.Errno) {
	t.Helper()
	refuses(t, "Split", noNums, want)(Split(h.s, h.coefs, h.n))
}

func callLagrange(t *testing.T, h handed, want api.Errno) {
	t.Helper()
	refuses(t, "Lagrange", noNums, want)(Lagrange(h.s, h.ids, h.at))
}

func callJoin(t *testing.T, h handed, want api.Errno) {
	t.Helper()
	refuses(t, "Join", noNum, want)(Join(h.s, h.ids, h.shares, h.at))
}

func callFit(t *testing.T, h handed, want api.Errno) {
	t.Helper()
	refuses(t, "Fit", noFit, want)(Fit(h.s, h.ids, h.shares, h.degree))
}

// spoil is one way to make what is handed in wrong.
type spoil struct {
	why   fault
	touch func(h *handed)
}

func wrongSuites() []spoil {
	var l []spoil
	for _, s := range notSuites() {
		l = append(l, spoil{noSuite, func(h *handed) { h.s = s }})
	}
	return l
}

// notScalars are numbers that are not below a suite's order.
func notScalars(s api.Suite) []api.Num {
	r := orderOf(s)
	top := api.Num{math.MaxUint64, math.MaxUint64, math.MaxUint64, math.MaxUint64, math.MaxUint64, math.MaxUint64}
	over := numOf(r)
	over[0]++
	l := []api.Num{numOf(r), over, top, {5: 1}, {0, 0, 0, 0, 1}}
	if s != api.Great {
		l = append(l, api.Num{0, 1}, api.Num{3, 0, 1}, api.Num{math.MaxUint64})
	}
	return l
}

// wrongNums spoils the first, the middle, the last of a list.
func wrongNums(s api.Suite, list func(h *handed) *[]api.Num) []spoil {
	var l []spoil
	for _, n := range notScalars(s) {
		for i := range 3 {
			l = append(l, spoil{badArg, func(h *handed) {
				p := list(h)
				if len(*p) == 0 {
					*p = append(*p, n)
				}
				*p = slices.Clone(*p)
				(*p)[i*(len(*p)-1)/2] = n
			}})
		}
	}
	return l
}

func wrongPlaces() []spoil {
	var l []spoil
	for _, at := range []int{-1, 1001, math.MinInt, math.MaxInt, 65521, 1 << 32, -1000} {
		l = append(l, spoil{badArg, func(h *handed) { h.at = at }})
	}
	return l
}

func wrongIDs() []spoil {
	var l []spoil
	for _, id := range []int{0, -1, 1001, math.MinInt, math.MaxInt, 1<<32 + 1} {
		for i := range 3 {
			l = append(l, spoil{badArg, func(h *handed) {
				h.ids = slices.Clone(h.ids)
				h.ids[i*(len(h.ids)-1)/2] = id
			}})
		}
	}
	return l
}

func sameIDs() []spoil {
	var l []spoil
	for _, pair := range [][2]int{{0, 1}, {1, 2}, {0, 2}} {
		l = append(l, spoil{twice, func(h *handed) {
			h.ids = slices.Clone(h.ids)
			last := len(h.ids) - 1
			h.ids[pair[0]*last/2] = h.ids[pair[1]*last/2]
		}})
	}
	return l
}

func longIDs() []spoil {
	var l []spoil
	for _, n := range []int{65, 66, 1000, 5000} {
		l = append(l, spoil{tooLong, func(h *handed) {
			h.ids = nil
			for i := range n {
				h.ids = append(h.ids, i%1000+1)
			}
		}})
	}
	return l
}

func longNums(list func(h *handed) *[]api.Num) []spoil {
	var l []spoil
	for _, n := range []int{65, 66, 5000} {
		l = append(l, spoil{tooLong, func(h *handed) { *list(h) = make([]api.Num, n) }})
	}
	return l
}

func coefsOf(h *handed) *[]api.Num  { return &h.coefs }
func sharesOf(h *handed) *[]api.Num { return &h.shares }

// shortOf makes lists of unlike length: too many, too few, or none.
func shortOf() []spoil {
	return []spoil{
		{badArg, func(h *handed) { h.shares = h.shares[:2] }},
		{badArg, func(h *handed) { h.shares = nil }},
		{badArg, func(h *handed) { h.shares = slices.Concat(h.shares, small(1)) }},
		{badArg, func(h *handed) { h.ids = h.ids[:len(h.ids)-1] }},
		{badArg, func(h *handed) { h.ids = nil }},
	}
}

// refusedInOrder tries each fault alone, and each with each later one: the first is told.
func refusedInOrder(t *testing.T, h handed, call func(t *testing.T, h handed, want api.Errno), spoils ...[]spoil) {
	t.Helper()
	all := slices.Concat(spoils...)
	for _, one := range all {
		alone := h
		one.touch(&alone)
		call(t, alone, errnoOf(one.why))
		for _, other := range all {
			if other.why <= one.why {
				continue
			}
			// The graver one comes last, so that it stands whatever the other one did.
			both := h
			other.touch(&both)
			one.touch(&both)
			call(t, both, errnoOf(one.why))
		}
	}
}

func TestValueErrors(t *testing.T) {
	eachSuite(t, func(t *testing.T, s api.Suite) {
		refusedInOrder(t, fine(s), callValue, wrongSuites(), longNums(coefsOf), wrongNums(s, coefsOf), wrongPlaces())
	})
}

func TestSplitErrors(t *testing.T) {
	eachSuite(t, func(t *testing.T, s api.Suite) {
		var counts []spoil
		for _, n := range []int{0, -1, 65, 66, 1000, math.MinInt, math.MaxInt} {
			counts = append(counts, spoil{badArg, func(h *handed) { h.n = n }})
		}
		refusedInOrder(t, fine(s), callSplit, wrongSuites(), longNums(coefsOf), wrongNums(s, coefsOf), counts)
	})
}

func TestLagrangeErrors(t *testing.T) {
	eachSuite(t, func(t *testing.T, s api.Suite) {
		refusedInOrder(t, fine(s), callLagrange, wrongSuites(), longIDs(), wrongPlaces(), wrongIDs(), sameIDs())
	})
}

func TestJoinErrors(t *testing.T) {
	eachSuite(t, func(t *testing.T, s api.Suite) {
		refusedInOrder(t, fine(s), callJoin, wrongSuites(), longIDs(), longNums(sharesOf),
			wrongNums(s, sharesOf), wrongPlaces(), wrongIDs(), shortOf(), sameIDs())
	})
}

func TestFitErrors(t *testing.T) {
	eachSuite(t, func(t *testing.T, s api.Suite) {
		var degrees []spoil
		for _, d := range []int{-1, 1001, math.MinInt, math.MaxInt} {
			degrees = append(degrees, spoil{badDegree, func(h *handed) { h.degree = d }})
		}
		refusedInOrder(t, fine(s), callFit, wrongSuites(), longIDs(), longNums(sharesOf),
			wrongNums(s, sharesOf), wrongIDs(), shortOf(), sameIDs(), degrees)
	})
}

// The ends of each bound are within it.
func TestEdgesAreTaken(t *testing.T) {
	eachSuite(t, func(t *testing.T, s api.Suite) {
		for _, at := range []int{0, 1, 999, 1000} {
			good[api.Num](t)(Value(s, small(5), at))
			good[[]api.Num](t)(Lagrange(s, []int{1, 1000}, at))
			good[api.Num](t)(Join(s, []int{1, 1000}, []api.Num{below(s, -1), below(s, 0)}, at))
			good[bool](t)(Fit(s, []int{1, 1000}, small(1, 2), at))
		}
		good[[]api.Num](t)(Split(s, small(5), 64))
		good[[]api.Num](t)(Split(s, make([]api.Num, 64), 1))
	})
}

// points is what is handed to JoinKeys or JoinSigs.
type points[P any] struct {
	ids []int
	l   []P
	at  int
}

// pointErrors looks whether points are refused as they should be. good are three points
// of one suite, other one of another suite, bad those that may not be.
func pointErrors[P any](t *testing.T, join func([]int, []P, int) (P, api.Errno), none func(P) bool, good []P, other P, bad []P) {
	t.Helper()
	ids := []int{1, 2, 3}
	tries := func(p points[P], want api.Errno) {
		t.Helper()
		if x, e := join(p.ids, p.l, p.at); !none(x) || e != want {
			t.Error(p, x, e, want)
		}
	}
	with := func(i int, p P) []P {
		l := slices.Clone(good)
		l[i] = p
		return l
	}
	long := func(n int) (ids []int) {
		for i := range n {
			ids = append(ids, i+1)
		}
		return ids
	}
	for _, n := range []int{65, 66, 2000} {
		tries(points[P]{long(n), slices.Repeat(good[:1], n), 0}, api.ErrLong)
		tries(points[P]{long(n), slices.Repeat(bad[:1], n), -1}, api.ErrLong)
		tries(points[P]{long(n), good, 0}, api.ErrLong)
	}
	for _, at := range []int{-1, 1001, math.MinInt, math.MaxInt} {
		tries(points[P]{ids, good, at}, api.ErrArg)
		tries(points[P]{[]int{1, 1, 2}, with(0, bad[0]), at}, api.ErrArg)
	}
	for _, id := range []int{0, -1, 1001, math.MinInt, math.MaxInt} {
		tries(points[P]{[]int{1, 1, id}, with(0, bad[0]), 0}, api.ErrArg)
		tries(points[P]{[]int{id, 2, 3}, good, 0}, api.ErrArg)
	}
	for _, n := range []int{0, 1, 2, 4, 64} {
		tries(points[P]{long(n), good, 0}, api.ErrArg)
		tries(points[P]{long(n), with(0, bad[0]), 0}, api.ErrArg)
	}
	for _, n := range []int{0, 1, 2, 4, 64, 65, 2000} {
		tries(points[P]{ids, slices.Repeat(good[:1], n), 0}, api.ErrArg)
	}
	for _, l := range [][]int{{1, 1, 2}, {2, 1, 1}, {1, 2, 1}, {1000, 1000, 1000}} {
		tries(points[P]{l, good, 0}, api.ErrThere)
		tries(points[P]{l, with(2, bad[0]), 0}, api.ErrThere)
		tries(points[P]{l, with(2, other), 0}, api.ErrThere)
	}
	for _, p := range bad {
		for i := range good {
			tries(points[P]{ids, with(i, p), 0}, api.ErrPoint)
			l := with(i, p)
			l[(i+1)%3] = other
			tries(points[P]{ids, l, 0}, api.ErrPoint)
		}
		tries(points[P]{ids[:1], []P{p}, 0}, api.ErrPoint)
	}
	for i := range good {
		tries(points[P]{ids, with(i, other), 0}, api.ErrArg)
	}
	tries(points[P]{nil, nil, 0}, api.ErrArg)
	tries(points[P]{[]int{}, []P{}, 0}, api.ErrArg)
	tries(points[P]{nil, nil, -1}, api.ErrArg)
	tries(points[P]{nil, good[:1], 0}, api.ErrArg)
	tries(points[P]{ids[:1], nil, 0}, api.ErrArg)
}

// otherSuite tells another suite.
func otherSuite(s api.Suite) api.Suite {
	if s == api.Little {
		return api.Middle
	}
	return api.Little
}

func TestJoinKeysErrors(t *testing.T) {
	eachSuite(t, func(t *testing.T, s api.Suite) {
		keys := keysOf(t, gen(t, s), small(8, 11, 14))
		moved, named := keys[0], keys[0]
		moved.P.Y[0]++
		moved.L.Y++
		named.S = otherSuite(s)
		bad := []api.Key{{S: s}, moved, named, {S: 3}, {S: -1}, {S: api.Little}}
		pointErrors(t, JoinKeys, noKey, keys, gen(t, otherSuite(s)), bad)
	})
}

func TestJoinSigsErrors(t *testing.T) {
	eachSuite(t, func(t *testing.T, s api.Suite) {
		sigs := sigsOf(t, hash(t, s), small(8, 11, 14))
		moved, named := sigs[0], sigs[0]
		moved.P.Y[0][0]++
		moved.L.Y++
		named.S = otherSuite(s)
		bad := []api.Sig{{S: s}, moved, named, {S: 3}, {S: -1}, {S: api.Little}}
		pointErrors(t, JoinSigs, noSig, sigs, hash(t, otherSuite(s)), bad)
	})
}

// A point of the curve that is none of the group may not be either.
func TestJoinStrays(t *testing.T) {
	if k, e := JoinKeys([]int{1}, []api.Key{{P: api.P1{Y: api.Num{2}}}}, 0); !noKey(k) || e != api.ErrPoint {
		t.Error(k, e)
	}
	zeros := []api.Key{{S: api.Little, L: api.L1{Zero: true}}, {S: api.Middle, L: api.L1{Zero: true}}}
	if k, e := JoinKeys([]int{1, 2}, zeros, 0); !noKey(k) || e != api.ErrArg {
		t.Error(k, e)
	}
	if !suite.KeyCheck(zeros[0]) {
		t.Error("the zero is a key")
	}
}
