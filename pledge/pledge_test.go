package pledge

import (
	"math/rand/v2"
	"slices"
	"testing"

	"reliquary/api"
	"reliquary/suite"
)

// The chapter's examples

func TestExamples(t *testing.T) {
	s := api.Little
	c, e := Commit(s, small(5, 3), small(1, 1))
	if want := pledgeOf(t, s, small(5, 3), small(1, 1)); !slices.Equal(c, want) || e != api.OK {
		t.Fatal(c, e)
	}
	for at, want := range map[int]api.Key{0: c[0], 2: oneOf(t, s, api.Num{11}, api.Num{3})} {
		if k, e := At(c, at); k != want || e != api.OK {
			t.Error(at, k, e)
		}
	}
	for blind, want := range map[uint64]bool{3: true, 4: false} {
		if ok, e := Holds(c, 2, api.Num{11}, api.Num{blind}); ok != want || e != api.OK {
			t.Error(blind, ok, e)
		}
	}
	if l, e := Sum([][]api.Key{c, c}); !slices.Equal(l, pledgeOf(t, s, small(10, 6), small(2, 2))) || e != api.OK {
		t.Error(l, e)
	}
	if l, e := Commit(s, small(5), small(1, 1)); l != nil || e != api.ErrArg {
		t.Error(l, e)
	}
	if l, e := Commit(s, nil, nil); l != nil || e != api.ErrArg {
		t.Error(l, e)
	}
	if e := Check(nil); e != api.ErrArg {
		t.Error(e)
	}
	if k, e := At(c, -1); k != (api.Key{}) || e != api.ErrArg {
		t.Error(k, e)
	}
	if ok, e := Holds(c, 2, api.Num{65521}, api.Num{}); ok || e != api.ErrArg {
		t.Error(ok, e)
	}
}

// P20.1: One, Commit

func TestOne(t *testing.T) {
	eachSuite(t, func(t *testing.T, s api.Suite) {
		chance := rand.New(rand.NewPCG(20, 1))
		for range 10 {
			share, blind := draw(chance, s), draw(chance, s)
			if k, e := One(s, share, blind); k != oneOf(t, s, share, blind) || e != api.OK {
				t.Error(share, blind, k, e)
			}
		}
	})
}

func TestOneOfEnds(t *testing.T) {
	eachSuite(t, func(t *testing.T, s api.Suite) {
		none, one, last := api.Num{}, api.Num{1}, below(s, -1)
		g, h := gen(t, s), base(t, s)
		for _, x := range []struct {
			share, blind api.Num
			want         api.Key
		}{
			{none, none, zero(t, s)},
			{one, none, g},
			{none, one, h},
			{one, one, good[api.Key](t)(suite.KeyAdd(g, h))},
			{last, none, good[api.Key](t)(suite.KeyNeg(g))},
			{none, last, good[api.Key](t)(suite.KeyNeg(h))},
		} {
			if k, e := One(s, x.share, x.blind); k != x.want || e != api.OK {
				t.Error(x, k, e)
			}
		}
	})
}

func TestCommit(t *testing.T) {
	eachSuite(t, func(t *testing.T, s api.Suite) {
		chance := rand.New(rand.NewPCG(20, 2))
		for _, n := range sizes(s) {
			a, b := drawMany(chance, s, n), drawMany(chance, s, n)
			if c, e := Commit(s, a, b); !slices.Equal(c, pledgeOf(t, s, a, b)) || e != api.OK {
				t.Fatal(a, b, c, e)
			}
		}
	})
}

func TestCommitOfTheGreatestLength(t *testing.T) {
	c, e := Commit(api.Great, make([]api.Num, 64), make([]api.Num, 64))
	if !slices.Equal(c, slices.Repeat([]api.Key{zero(t, api.Great)}, 64)) || e != api.OK {
		t.Error(c, e)
	}
}

// P20.2: Check, At, Holds

func TestCheck(t *testing.T) {
	eachSuite(t, func(t *testing.T, s api.Suite) {
		chance := rand.New(rand.NewPCG(20, 3))
		for _, n := range sizes(s) {
			c := pledgeOf(t, s, drawMany(chance, s, n), drawMany(chance, s, n))
			if e := Check(c); e != api.OK {
				t.Error(n, e)
			}
		}
		if e := Check(slices.Repeat([]api.Key{zero(t, s)}, 64)); e != api.OK {
			t.Error(e)
		}
	})
}

func TestAt(t *testing.T) {
	eachSuite(t, func(t *testing.T, s api.Suite) {
		chance := rand.New(rand.NewPCG(20, 4))
		for _, n := range sizes(s) {
			a, b := drawMany(chance, s, n), drawMany(chance, s, n)
			c := pledgeOf(t, s, a, b)
			for _, at := range []int{0, 1, 2, 999, 1000, chance.IntN(1001)} {
				k, e := At(c, at)
				if k != oneOf(t, s, valueOf(s, a, at), valueOf(s, b, at)) || k != saysOf(t, c, at) || e != api.OK {
					t.Fatal(a, b, at, k, e)
				}
			}
		}
	})
}

// The powers of a place are by the order: those of 1,000 pass it.
func TestAtOfGreatPowers(t *testing.T) {
	c := slices.Repeat([]api.Key{zero(t, api.Great)}, 63)
	c = append(c, gen(t, api.Great))
	for _, at := range []int{0, 1, 2, 1000} {
		coefs := append(make([]api.Num, 63), api.Num{1})
		want := good[api.Key](t)(suite.KeyMul(gen(t, api.Great), valueOf(api.Great, coefs, at)))
		if k, e := At(c, at); k != want || e != api.OK {
			t.Error(at, k, e)
		}
	}
}

// Whatever keys there are, at 0 their first one is said, and at 1 their sum; of one key
// the same is said everywhere.
func TestAtOfFew(t *testing.T) {
	eachSuite(t, func(t *testing.T, s api.Suite) {
		g, h, none := gen(t, s), base(t, s), zero(t, s)
		for _, c := range [][]api.Key{{g, h}, {h, g}, {none, g}, {g, none}, {none, none}, {g, g}} {
			if k, e := At(c, 0); k != c[0] || e != api.OK {
				t.Error(c, k, e)
			}
			if k, e := At(c, 1); k != good[api.Key](t)(suite.KeyAdd(c[0], c[1])) || e != api.OK {
				t.Error(c, k, e)
			}
		}
		back := good[api.Key](t)(suite.KeyNeg(g))
		if k, e := At([]api.Key{g, back}, 1); k != none || e != api.OK {
			t.Error(k, e)
		}
		for _, one := range []api.Key{g, h, none} {
			for _, at := range []int{0, 1, 7, 1000} {
				if k, e := At([]api.Key{one}, at); k != one || e != api.OK {
					t.Error(at, k, e)
				}
			}
		}
	})
}

func TestHolds(t *testing.T) {
	eachSuite(t, func(t *testing.T, s api.Suite) {
		chance := rand.New(rand.NewPCG(20, 5))
		for _, n := range sizes(s) {
			a, b := drawMany(chance, s, n), drawMany(chance, s, n)
			c := pledgeOf(t, s, a, b)
			for _, at := range []int{0, 1, 1000, chance.IntN(1001)} {
				holdsAlone(t, s, c, at, valueOf(s, a, at), valueOf(s, b, at))
			}
		}
	})
}

// holdsAlone looks whether a pair holds, and those beside it do not.
func holdsAlone(t *testing.T, s api.Suite, c []api.Key, at int, share, blind api.Num) {
	t.Helper()
	up, down := plus(s, share, api.Num{1}), plus(s, share, below(s, -1))
	higher, lower := plus(s, blind, api.Num{1}), plus(s, blind, below(s, -1))
	for _, x := range []struct {
		share, blind api.Num
		want         bool
	}{
		{share, blind, true},
		{up, blind, false}, {down, blind, false}, {share, higher, false}, {share, lower, false},
		{up, lower, false}, {down, higher, false},
		{blind, share, share == blind},
	} {
		if ok, e := Holds(c, at, x.share, x.blind); ok != x.want || e != api.OK {
			t.Fatal(at, x, ok, e)
		}
	}
}

// What holds at one place does not at another one.
func TestHoldsAtItsPlace(t *testing.T) {
	eachSuite(t, func(t *testing.T, s api.Suite) {
		c := pledgeOf(t, s, small(5, 3), small(1, 1))
		for at := range 6 {
			if ok, e := Holds(c, at, api.Num{11}, api.Num{3}); ok != (at == 2) || e != api.OK {
				t.Error(at, ok, e)
			}
		}
	})
}

// P20.3: Sum

func TestSum(t *testing.T) {
	eachSuite(t, func(t *testing.T, s api.Suite) {
		chance := rand.New(rand.NewPCG(20, 6))
		most := 64
		if s == api.Great {
			most = 4
		}
		for _, keys := range []int{1, 3, most} {
			for _, many := range []int{1, 2, most} {
				a, b := make([]api.Num, keys), make([]api.Num, keys)
				var l [][]api.Key
				for range many {
					a1, b1 := drawMany(chance, s, keys), drawMany(chance, s, keys)
					for power := range keys {
						a[power], b[power] = plus(s, a[power], a1[power]), plus(s, b[power], b1[power])
					}
					l = append(l, good[[]api.Key](t)(Commit(s, a1, b1)))
				}
				if sum, e := Sum(l); !slices.Equal(sum, pledgeOf(t, s, a, b)) || e != api.OK {
					t.Fatal(keys, many, sum, e)
				}
			}
		}
	})
}

func TestSumOfFew(t *testing.T) {
	eachSuite(t, func(t *testing.T, s api.Suite) {
		g, h, none := gen(t, s), base(t, s), zero(t, s)
		back := good[api.Key](t)(suite.KeyNeg(g))
		one := []api.Key{g, none, h}
		if sum, e := Sum([][]api.Key{one}); !slices.Equal(sum, one) || e != api.OK {
			t.Error(sum, e)
		}
		sum, e := Sum([][]api.Key{one, {back, h, none}})
		if !slices.Equal(sum, []api.Key{none, h, h}) || e != api.OK {
			t.Error(sum, e)
		}
		zeros := slices.Repeat([][]api.Key{{none}}, 64)
		if sum, e := Sum(zeros); !slices.Equal(sum, []api.Key{none}) || e != api.OK {
			t.Error(sum, e)
		}
	})
}

// What is handed in stays as it is, its spare room, too; what is answered is new.
func TestMemory(t *testing.T) {
	s, chance := api.Middle, rand.New(rand.NewPCG(20, 7))
	a, b := drawMany(chance, s, 5), drawMany(chance, s, 5)
	c, d := pledgeOf(t, s, a, b), pledgeOf(t, s, b, a)
	l := [][]api.Key{c[:3], d[:3], c[:3]}
	a0, b0, c0, d0 := slices.Clone(a), slices.Clone(b), slices.Clone(c), slices.Clone(d)
	made := good[[]api.Key](t)(Commit(s, a[:3], b[:3]))
	good[api.Key](t)(At(c[:3], 9))
	good[bool](t)(Holds(c[:3], 9, a[0], b[0]))
	if e := Check(c[:3]); e != api.OK {
		t.Error(e)
	}
	two := good[[]api.Key](t)(Sum(l[:2]))
	one := good[[]api.Key](t)(Sum(l[:1]))
	for _, answer := range []*[]api.Key{&made, &two, &one} {
		if len(*answer) != 3 {
			t.Error(*answer)
		}
		for i := range *answer {
			(*answer)[i] = api.Key{S: 9}
		}
		*answer = append(*answer, api.Key{S: 8})
	}
	if !slices.Equal(a, a0) || !slices.Equal(b, b0) || !slices.Equal(c, c0) || !slices.Equal(d, d0) {
		t.Error("what was handed in was changed")
	}
	if len(l) != 3 || !slices.Equal(l[0], c0[:3]) || !slices.Equal(l[1], d0[:3]) || !slices.Equal(l[2], c0[:3]) {
		t.Error("the list of pledges was changed")
	}
	if again := good[[]api.Key](t)(Commit(s, a[:3], b[:3])); !slices.Equal(again, c[:3]) {
		t.Error("an answer was kept", again)
	}
}

// A sum that met an error stays at the first one, whatever comes then.
func TestAddingStays(t *testing.T) {
	g := gen(t, api.Little)
	add := adding()
	if k, e := add(g, api.OK); k != g || e != api.OK {
		t.Error(k, e)
	}
	if k, e := add(g, api.ErrLong); k != (api.Key{}) || e != api.ErrLong {
		t.Error(k, e)
	}
	if k, e := add(g, api.OK); k != (api.Key{}) || e != api.ErrLong {
		t.Error(k, e)
	}
	if k, e := add(g, api.ErrArg); k != (api.Key{}) || e != api.ErrLong {
		t.Error(k, e)
	}
	add = adding()
	add(g, api.OK)
	if k, e := add(api.Key{}, api.OK); k != (api.Key{}) || e != api.ErrPoint {
		t.Error(k, e)
	}
	if k, e := add(g, api.OK); k != (api.Key{}) || e != api.ErrPoint {
		t.Error(k, e)
	}
}
