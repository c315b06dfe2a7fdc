package share

import (
	"math"
	"math/rand/v2"
	"slices"
	"testing"

	"reliquary/api"
	"reliquary/suite"
)

// The chapter's examples

func TestExamples(t *testing.T) {
	if x, e := Value(api.Little, small(5, 3, 2), 2); x != (api.Num{19}) || e != api.OK {
		t.Error(x, e)
	}
	if l, e := Split(api.Little, small(5, 3), 3); !slices.Equal(l, small(8, 11, 14)) || e != api.OK {
		t.Error(l, e)
	}
	if l, e := Lagrange(api.Little, []int{1, 2}, 0); !slices.Equal(l, small(2, 65520)) || e != api.OK {
		t.Error(l, e)
	}
	for at, want := range map[int]uint64{0: 5, 2: 11} {
		if x, e := Join(api.Little, []int{1, 3}, small(8, 14), at); x != (api.Num{want}) || e != api.OK {
			t.Error(at, x, e)
		}
	}
	for last, want := range map[uint64]bool{14: true, 15: false} {
		if fits, e := Fit(api.Little, []int{1, 2, 3}, small(8, 11, last), 1); fits != want || e != api.OK {
			t.Error(last, fits, e)
		}
	}
	if l, e := Lagrange(api.Little, []int{1, 1}, 0); l != nil || e != api.ErrThere {
		t.Error(l, e)
	}
	if l, e := Lagrange(api.Little, []int{0, 1}, 0); l != nil || e != api.ErrArg {
		t.Error(l, e)
	}
}

// The document's first example: of the shares 8, 11, 14, 17 the first and the third say
// the secret, and the second one again.
func TestExampleOfTheWhole(t *testing.T) {
	eachSuite(t, func(t *testing.T, s api.Suite) {
		l := good[[]api.Num](t)(Split(s, small(5, 3), 4))
		if !slices.Equal(l, small(8, 11, 14, 17)) {
			t.Fatal(l)
		}
		ids, two := []int{1, 3}, []api.Num{l[0], l[2]}
		if x := good[api.Num](t)(Join(s, ids, two, 0)); x != (api.Num{5}) {
			t.Error(x)
		}
		if x := good[api.Num](t)(Join(s, ids, two, 2)); x != l[1] {
			t.Error(x)
		}
	})
}

// P19.2: Value, Split, Lagrange

func TestValue(t *testing.T) {
	eachSuite(t, func(t *testing.T, s api.Suite) {
		chance := rand.New(rand.NewPCG(19, 2))
		for n := 0; n <= 64; n++ {
			coefs := drawMany(chance, s, n)
			for _, at := range []int{0, 1, 2, 1000, chance.IntN(1001)} {
				if x, e := Value(s, coefs, at); x != valueOf(s, coefs, at) || e != api.OK {
					t.Fatal(coefs, at, x, e)
				}
			}
		}
		for _, none := range [][]api.Num{nil, {}} {
			if x, e := Value(s, none, 7); x != (api.Num{}) || e != api.OK {
				t.Error(x, e)
			}
		}
	})
}

// At 0 a polynomial's value is its first coefficient, that of the power 0.
func TestValueAtZero(t *testing.T) {
	eachSuite(t, func(t *testing.T, s api.Suite) {
		for _, first := range []int64{0, 1, 5, -1} {
			coefs := []api.Num{below(s, first), below(s, -1), below(s, 3)}
			if x, e := Value(s, coefs, 0); x != coefs[0] || e != api.OK {
				t.Error(x, e)
			}
		}
	})
}

func TestSplit(t *testing.T) {
	eachSuite(t, func(t *testing.T, s api.Suite) {
		chance := rand.New(rand.NewPCG(19, 3))
		for n := 1; n <= 64; n++ {
			coefs := drawMany(chance, s, []int{0, 1, 2, 5, 64}[n%5])
			l, e := Split(s, coefs, n)
			if len(l) != n || e != api.OK {
				t.Fatal(n, l, e)
			}
			for i, x := range l {
				if x != valueOf(s, coefs, i+1) {
					t.Fatal(n, i, x)
				}
			}
		}
	})
}

func TestLagrange(t *testing.T) {
	eachSuite(t, func(t *testing.T, s api.Suite) {
		chance := rand.New(rand.NewPCG(19, 4))
		for n := 0; n <= 64; n++ {
			ids := drawIDs(chance, n)
			for range 2 {
				at := drawPlace(chance, ids)
				if l, e := Lagrange(s, ids, at); !slices.Equal(l, lagrangeBy(s, ids, at)) || e != api.OK {
					t.Fatal(ids, at, l, e)
				}
			}
		}
	})
}

// Of one id the number is 1, at each place; at an id all are 0 but its own, which is 1.
func TestLagrangeOfFew(t *testing.T) {
	eachSuite(t, func(t *testing.T, s api.Suite) {
		for _, id := range []int{1, 2, 999, 1000} {
			for _, at := range []int{0, 1, id, 1000} {
				if l, e := Lagrange(s, []int{id}, at); !slices.Equal(l, small(1)) || e != api.OK {
					t.Error(id, at, l, e)
				}
			}
		}
		ids := []int{1000, 3, 1, 500}
		for i, id := range ids {
			want := make([]api.Num, len(ids))
			want[i] = api.Num{1}
			if l, e := Lagrange(s, ids, id); !slices.Equal(l, want) || e != api.OK {
				t.Error(id, l, e)
			}
		}
		for _, none := range [][]int{nil, {}} {
			if l, e := Lagrange(s, none, 3); len(l) != 0 || e != api.OK {
				t.Error(l, e)
			}
		}
	})
}

// P19.3: Join, JoinKeys, JoinSigs, Fit, Faults

func TestJoin(t *testing.T) {
	eachSuite(t, func(t *testing.T, s api.Suite) {
		chance := rand.New(rand.NewPCG(19, 5))
		for n := 0; n <= 64; n++ {
			ids, shares := drawIDs(chance, n), drawMany(chance, s, n)
			for range 2 {
				at := drawPlace(chance, ids)
				if x, e := Join(s, ids, shares, at); x != joinBy(s, ids, shares, at) || e != api.OK {
					t.Fatal(ids, shares, at, x, e)
				}
			}
			for i := 0; i < n; i += 16 {
				if x, e := Join(s, ids, shares, ids[i]); x != shares[i] || e != api.OK {
					t.Fatal(ids, ids[i], x, e)
				}
			}
		}
		if x, e := Join(s, nil, nil, 1000); x != (api.Num{}) || e != api.OK {
			t.Error(x, e)
		}
	})
}

// pointsOf tells how many points of a suite are tried: the great one's sums are slow.
func pointsOf(s api.Suite) []int {
	if s == api.Great {
		return []int{1, 2, 5}
	}
	return []int{1, 2, 3, 5, 13, 64}
}

func TestJoinKeys(t *testing.T) {
	eachSuite(t, func(t *testing.T, s api.Suite) {
		chance, g := rand.New(rand.NewPCG(19, 6)), gen(t, s)
		for _, n := range pointsOf(s) {
			ids, shares := drawIDs(chance, n), drawMany(chance, s, n)
			keys := keysOf(t, g, shares)
			for _, at := range []int{0, ids[0], drawPlace(chance, ids)} {
				want := keysOf(t, g, []api.Num{joinBy(s, ids, shares, at)})[0]
				if k, e := JoinKeys(ids, keys, at); k != want || e != api.OK {
					t.Fatal(ids, at, k, e)
				}
			}
		}
	})
}

func TestJoinSigs(t *testing.T) {
	eachSuite(t, func(t *testing.T, s api.Suite) {
		chance, h := rand.New(rand.NewPCG(19, 7)), hash(t, s)
		for _, n := range pointsOf(s) {
			ids, shares := drawIDs(chance, n), drawMany(chance, s, n)
			sigs := sigsOf(t, h, shares)
			for _, at := range []int{0, ids[0], drawPlace(chance, ids)} {
				want := sigsOf(t, h, []api.Num{joinBy(s, ids, shares, at)})[0]
				if k, e := JoinSigs(ids, sigs, at); k != want || e != api.OK {
					t.Fatal(ids, at, k, e)
				}
			}
		}
	})
}

// The greatest number of points that may be joined: zeros, or all the same.
func TestJoinManyPoints(t *testing.T) {
	eachSuite(t, func(t *testing.T, s api.Suite) {
		ids := make([]int, 64)
		for i := range ids {
			ids[i] = i + 1
		}
		zero := keysOf(t, gen(t, s), small(0))[0]
		keys := slices.Repeat([]api.Key{zero}, 64)
		if k, e := JoinKeys(ids, keys, 1000); k != zero || e != api.OK {
			t.Error(k, e)
		}
		if s == api.Great {
			return
		}
		sigs := slices.Repeat(sigsOf(t, hash(t, s), small(9)), 64)
		if k, e := JoinSigs(ids, sigs, 1000); k != sigs[0] || e != api.OK {
			t.Error(k, e)
		}
	})
}

func TestFit(t *testing.T) {
	eachSuite(t, func(t *testing.T, s api.Suite) {
		chance := rand.New(rand.NewPCG(19, 8))
		for _, n := range []int{0, 1, 2, 3, 4, 5, 7, 13, 30, 64} {
			for _, k := range []int{0, 1, 2, n / 2, n, n + 2} {
				ids, coefs := drawIDs(chance, n), drawMany(chance, s, min(k, 64))
				shares := make([]api.Num, n)
				for i, id := range ids {
					shares[i] = valueOf(s, coefs, id)
				}
				if n > 0 && chance.IntN(2) == 0 {
					shares[chance.IntN(n)] = draw(chance, s)
				}
				fitsFrom(t, s, ids, shares, degreeOf(s, ids, shares))
			}
		}
	})
}

// fitsFrom looks whether shares fit just what is not below their degree.
func fitsFrom(t *testing.T, s api.Suite, ids []int, shares []api.Num, degree int) {
	t.Helper()
	for _, d := range []int{0, degree - 1, degree, degree + 1, len(ids) - 1, 1000} {
		if d < 0 {
			continue
		}
		if fits, e := Fit(s, ids, shares, d); fits != (degree <= d) || e != api.OK {
			t.Fatal(ids, shares, degree, d, fits, e)
		}
	}
}

// Of no shares, of values that are all 0, and of values that are all the same, the
// degree is 0; one that is not the same makes it the greatest that there may be.
func TestFitOfFew(t *testing.T) {
	eachSuite(t, func(t *testing.T, s api.Suite) {
		fitsFrom(t, s, nil, nil, 0)
		fitsFrom(t, s, []int{}, []api.Num{}, 0)
		fitsFrom(t, s, []int{7}, small(0), 0)
		fitsFrom(t, s, []int{7}, small(9), 0)
		ids := []int{1000, 1, 7, 64, 65, 2}
		for _, n := range []int64{0, 1, -1} {
			same := slices.Repeat([]api.Num{below(s, n)}, len(ids))
			fitsFrom(t, s, ids, same, 0)
			for i := range ids {
				other := slices.Clone(same)
				other[i] = below(s, n+2)
				fitsFrom(t, s, ids, other, len(ids)-1)
			}
		}
		// x - 1 times x - 2: two of its values are 0, and the last one tells its power.
		fitsFrom(t, s, []int{1, 2, 3}, small(0, 0, 2), 2)
		fitsFrom(t, s, []int{1, 2, 3, 4}, small(0, 0, 2, 6), 2)
		// A coefficient between others may be 0.
		fitsFrom(t, s, []int{1, 2, 3, 4}, small(1, 8, 27, 64), 3)
		fitsFrom(t, s, []int{1, 2, 3, 4, 5}, small(1, 8, 27, 64, 125), 3)
	})
}

func TestFaults(t *testing.T) {
	want := map[int]int{
		math.MinInt: 0, math.MinInt + 1: 0, -4: 0, -3: 0, -2: 0, -1: 0, 0: 0, 1: 0, 2: 0, 3: 0,
		4: 1, 5: 1, 6: 1, 7: 2, 8: 2, 9: 2, 10: 3, 11: 3, 12: 3, 13: 4, 14: 4, 15: 4, 16: 5, 1000: 333,
		math.MaxInt: (math.MaxInt - 1) / 3,
	}
	for n, faults := range want {
		if f := Faults(n); f != faults {
			t.Error(n, f)
		}
	}
}

// What is handed in stays as it is, its spare room, too; what is answered is new.
func TestMemory(t *testing.T) {
	chance := rand.New(rand.NewPCG(19, 9))
	s := api.Middle
	ids, shares := drawIDs(chance, 7), drawMany(chance, s, 7)
	keys, sigs := keysOf(t, gen(t, s), shares), sigsOf(t, hash(t, s), shares)
	ids0, shares0, keys0, sigs0 := slices.Clone(ids), slices.Clone(shares), slices.Clone(keys), slices.Clone(sigs)
	split := good[[]api.Num](t)(Split(s, shares[:5], 5))
	factors := good[[]api.Num](t)(Lagrange(s, ids[:5], 3))
	good[api.Num](t)(Value(s, shares[:5], 3))
	good[api.Num](t)(Join(s, ids[:5], shares[:5], 3))
	good[api.Key](t)(JoinKeys(ids[:5], keys[:5], 3))
	good[api.Sig](t)(JoinSigs(ids[:5], sigs[:5], 3))
	good[bool](t)(Fit(s, ids[:5], shares[:5], 3))
	if !slices.Equal(ids, ids0) || !slices.Equal(shares, shares0) || !slices.Equal(keys, keys0) || !slices.Equal(sigs, sigs0) {
		t.Error("what was handed in was changed")
	}
	for _, answer := range []*[]api.Num{&split, &factors} {
		for i := range *answer {
			(*answer)[i] = api.Num{1, 2, 3}
		}
		*answer = append(*answer, api.Num{4})
	}
	if l := good[[]api.Num](t)(Split(s, shares[:5], 5)); l[4] != valueOf(s, shares[:5], 5) {
		t.Error("an answer was kept", l)
	}
	if l := good[[]api.Num](t)(Lagrange(s, ids[:5], 3)); !slices.Equal(l, lagrangeBy(s, ids[:5], 3)) {
		t.Error("an answer was kept", l)
	}
}

// The ids' order is that of the answers alone: joined in any order shares say the same.
func TestAnyOrder(t *testing.T) {
	eachSuite(t, func(t *testing.T, s api.Suite) {
		chance := rand.New(rand.NewPCG(19, 10))
		ids, shares := drawIDs(chance, 6), drawMany(chance, s, 6)
		want := good[api.Num](t)(Join(s, ids, shares, 77))
		for range 20 {
			chance.Shuffle(len(ids), func(i, j int) {
				ids[i], ids[j] = ids[j], ids[i]
				shares[i], shares[j] = shares[j], shares[i]
			})
			if x, e := Join(s, ids, shares, 77); x != want || e != api.OK {
				t.Error(ids, x, e)
			}
		}
	})
}

// Keys need not be multiples that anybody knows.
func TestJoinOtherKeys(t *testing.T) {
	eachSuite(t, func(t *testing.T, s api.Suite) {
		g, h := gen(t, s), good[api.Key](t)(suite.Base(s))
		// Half way between the places 1 and 3 is the place 2: twice what is there is both together.
		both := good[api.Key](t)(suite.KeyAdd(g, h))
		half := good[api.Key](t)(JoinKeys([]int{1, 3}, []api.Key{g, h}, 2))
		if k := good[api.Key](t)(suite.KeyAdd(half, half)); k != both {
			t.Error(k)
		}
	})
}
