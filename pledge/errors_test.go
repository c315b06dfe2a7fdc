package pledge

import (
	"math"
	"math/big"
	"slices"
	"testing"

	"reliquary/api"
)

// The errors, in their order

func refusesKey(t *testing.T, want api.Errno) func(k api.Key, e api.Errno) {
	return func(k api.Key, e api.Errno) {
		t.Helper()
		if k != (api.Key{}) || e != want {
			t.Error(k, e, want)
		}
	}
}

func refusesKeys(t *testing.T, want api.Errno) func(l []api.Key, e api.Errno) {
	return func(l []api.Key, e api.Errno) {
		t.Helper()
		if len(l) != 0 || e != want {
			t.Error(l, e, want)
		}
	}
}

func refusesBool(t *testing.T, want api.Errno) func(ok bool, e api.Errno) {
	return func(ok bool, e api.Errno) {
		t.Helper()
		if ok || e != want {
			t.Error(ok, e, want)
		}
	}
}

// with tells a list with another item at a place.
func with[T any](l []T, i int, x T) []T {
	l = slices.Clone(l)
	l[i] = x
	return l
}

func badPlaces() []int { return []int{-1, 1001, math.MinInt, math.MaxInt, 65521, 1 << 32, -1000} }

func TestOneErrors(t *testing.T) {
	for _, s := range notSuites() {
		refusesKey(t, api.ErrArg)(One(s, api.Num{1}, api.Num{1}))
	}
	eachSuite(t, func(t *testing.T, s api.Suite) {
		for _, n := range notScalars(s) {
			refusesKey(t, api.ErrArg)(One(s, n, api.Num{1}))
			refusesKey(t, api.ErrArg)(One(s, api.Num{1}, n))
			refusesKey(t, api.ErrArg)(One(s, n, n))
		}
	})
}

func TestCommitErrors(t *testing.T) {
	long := [][]api.Num{make([]api.Num, 65), make([]api.Num, 66), make([]api.Num, 5000)}
	for _, s := range notSuites() {
		refusesKeys(t, api.ErrArg)(Commit(s, small(5, 3), small(1, 1)))
		for _, l := range long {
			refusesKeys(t, api.ErrArg)(Commit(s, l, l))
		}
	}
	eachSuite(t, func(t *testing.T, s api.Suite) {
		for _, l := range long {
			broken := with(l, 0, notScalars(s)[0])
			for _, other := range [][]api.Num{nil, small(1), small(1, 2, 3), make([]api.Num, 64), l, broken} {
				refusesKeys(t, api.ErrLong)(Commit(s, l, other))
				refusesKeys(t, api.ErrLong)(Commit(s, other, l))
				refusesKeys(t, api.ErrLong)(Commit(s, broken, other))
				refusesKeys(t, api.ErrLong)(Commit(s, other, broken))
			}
		}
		fine := small(5, 3, 2)
		for _, other := range [][]api.Num{nil, small(1), small(1, 2), small(1, 2, 3, 4), make([]api.Num, 64)} {
			refusesKeys(t, api.ErrArg)(Commit(s, fine, other))
			refusesKeys(t, api.ErrArg)(Commit(s, other, fine))
		}
		refusesKeys(t, api.ErrArg)(Commit(s, nil, nil))
		refusesKeys(t, api.ErrArg)(Commit(s, []api.Num{}, nil))
		for _, n := range notScalars(s) {
			for i := range fine {
				refusesKeys(t, api.ErrArg)(Commit(s, with(fine, i, n), fine))
				refusesKeys(t, api.ErrArg)(Commit(s, fine, with(fine, i, n)))
			}
		}
	})
}

// wrong is a pledge that may not be, and the error of it.
type wrong struct {
	c []api.Key
	e api.Errno
}

// wrongs tells pledges that may not be: each fault alone, and with the later ones.
func wrongs(t *testing.T, s api.Suite) []wrong {
	t.Helper()
	g, h, other, bad := gen(t, s), base(t, s), gen(t, otherSuite(s)), badKeys(t, s)
	fine := []api.Key{g, h, zero(t, s)}
	l := []wrong{{nil, api.ErrArg}, {[]api.Key{}, api.ErrArg}, {fine[:0], api.ErrArg}}
	for _, n := range []int{65, 66, 2000} {
		many := slices.Repeat([]api.Key{zero(t, s)}, n)
		l = append(l, wrong{many, api.ErrLong}, wrong{make([]api.Key, n), api.ErrLong})
		l = append(l, wrong{with(many, 0, bad[0]), api.ErrLong}, wrong{with(many, n-1, other), api.ErrLong})
	}
	for i := range fine {
		for _, k := range bad {
			l = append(l, wrong{with(fine, i, k), api.ErrPoint})
			for j := range fine {
				if j != i {
					l = append(l, wrong{with(with(fine, i, k), j, other), api.ErrPoint})
				}
			}
		}
		l = append(l, wrong{with(fine, i, other), api.ErrArg})
		l = append(l, wrong{with(fine, i, zero(t, otherSuite(s))), api.ErrArg})
	}
	return append(l, wrong{bad[:1], api.ErrPoint}, wrong{[]api.Key{g, other, g}, api.ErrArg})
}

func TestCheckErrors(t *testing.T) {
	eachSuite(t, func(t *testing.T, s api.Suite) {
		for _, w := range wrongs(t, s) {
			if e := Check(w.c); e != w.e {
				t.Error(w, e)
			}
		}
	})
}

func TestAtErrors(t *testing.T) {
	eachSuite(t, func(t *testing.T, s api.Suite) {
		for _, w := range wrongs(t, s) {
			for _, at := range []int{0, 7, -1, 1001} {
				refusesKey(t, w.e)(At(w.c, at))
			}
		}
		for _, at := range badPlaces() {
			refusesKey(t, api.ErrArg)(At([]api.Key{gen(t, s)}, at))
			refusesKey(t, api.ErrArg)(At([]api.Key{gen(t, s), base(t, s)}, at))
		}
	})
}

func TestHoldsErrors(t *testing.T) {
	eachSuite(t, func(t *testing.T, s api.Suite) {
		over := notScalars(s)[0]
		for _, w := range wrongs(t, s) {
			refusesBool(t, w.e)(Holds(w.c, 2, api.Num{1}, api.Num{1}))
			refusesBool(t, w.e)(Holds(w.c, -1, api.Num{1}, api.Num{1}))
			refusesBool(t, w.e)(Holds(w.c, 2, over, over))
			refusesBool(t, w.e)(Holds(w.c, 1001, over, over))
		}
		fine := pledgeOf(t, s, small(5, 3), small(1, 1))
		for _, at := range badPlaces() {
			refusesBool(t, api.ErrArg)(Holds(fine, at, api.Num{5}, api.Num{1}))
			refusesBool(t, api.ErrArg)(Holds(fine, at, over, over))
		}
		for _, n := range notScalars(s) {
			refusesBool(t, api.ErrArg)(Holds(fine, 2, n, api.Num{3}))
			refusesBool(t, api.ErrArg)(Holds(fine, 2, api.Num{11}, n))
		}
		// Numbers of which what holds is left by the order are not it.
		a := numOf(new(big.Int).Add(orderOf(s), big.NewInt(11)))
		b := numOf(new(big.Int).Add(orderOf(s), big.NewInt(3)))
		refusesBool(t, api.ErrArg)(Holds(fine, 2, a, api.Num{3}))
		refusesBool(t, api.ErrArg)(Holds(fine, 2, api.Num{11}, b))
	})
}

func TestSumErrors(t *testing.T) {
	eachSuite(t, func(t *testing.T, s api.Suite) {
		fine := pledgeOf(t, s, small(5, 3, 2), small(1, 1, 1))
		all := wrongs(t, s)
		for _, n := range []int{65, 66, 5000} {
			refusesKeys(t, api.ErrLong)(Sum(slices.Repeat([][]api.Key{fine}, n)))
			refusesKeys(t, api.ErrLong)(Sum(make([][]api.Key, n)))
		}
		refusesKeys(t, api.ErrArg)(Sum(nil))
		refusesKeys(t, api.ErrArg)(Sum([][]api.Key{}))
		for _, w := range all {
			refusesKeys(t, w.e)(Sum([][]api.Key{w.c}))
			refusesKeys(t, w.e)(Sum([][]api.Key{fine, w.c}))
			refusesKeys(t, w.e)(Sum([][]api.Key{w.c, fine}))
			// That two are unlike is told after the error of each one.
			refusesKeys(t, w.e)(Sum([][]api.Key{fine, fine[:2], w.c}))
			refusesKeys(t, w.e)(Sum([][]api.Key{{gen(t, otherSuite(s))}, w.c, fine}))
		}
	})
}

// Of several pledges that may not be the first one's error is told, whatever the others'.
func TestSumTellsTheFirst(t *testing.T) {
	s := api.Little
	some := []wrong{
		{nil, api.ErrArg},
		{make([]api.Key, 65), api.ErrLong},
		{[]api.Key{{}}, api.ErrPoint},
		{[]api.Key{gen(t, s), gen(t, api.Middle)}, api.ErrArg},
	}
	for _, first := range some {
		for _, second := range some {
			refusesKeys(t, first.e)(Sum([][]api.Key{first.c, second.c}))
			refusesKeys(t, first.e)(Sum([][]api.Key{{gen(t, s)}, first.c, second.c}))
		}
	}
}

func TestSumOfUnlike(t *testing.T) {
	eachSuite(t, func(t *testing.T, s api.Suite) {
		g, other := gen(t, s), gen(t, otherSuite(s))
		one, two, strange := []api.Key{g}, []api.Key{g, g}, []api.Key{other}
		for _, l := range [][][]api.Key{
			{one, two}, {two, one}, {one, one, two}, {two, two, one}, {one, two, one},
			{one, strange}, {strange, one}, {one, one, strange}, {one, strange, one},
			{two, {other, other}}, {one, {other, other}},
		} {
			refusesKeys(t, api.ErrArg)(Sum(l))
		}
	})
}

// The ends of each bound are within it.
func TestEdgesAreTaken(t *testing.T) {
	eachSuite(t, func(t *testing.T, s api.Suite) {
		none, last := zero(t, s), below(s, -1)
		many := slices.Repeat([]api.Key{none}, 64)
		for _, at := range []int{0, 1000} {
			if k, e := At(many, at); k != none || e != api.OK {
				t.Error(at, k, e)
			}
			if ok, e := Holds(many[:1], at, api.Num{}, api.Num{}); !ok || e != api.OK {
				t.Error(at, ok, e)
			}
			if ok, e := Holds(many[:1], at, last, last); ok || e != api.OK {
				t.Error(at, ok, e)
			}
		}
		good[[]api.Key](t)(Commit(s, []api.Num{last}, []api.Num{last}))
		good[api.Key](t)(One(s, last, last))
	})
	pledges := slices.Repeat([][]api.Key{slices.Repeat([]api.Key{gen(t, api.Little)}, 64)}, 64)
	if l, e := Sum(pledges); len(l) != 64 || e != api.OK {
		t.Error(l, e)
	}
}
