package pledge

import (
	"math/big"
	"math/rand/v2"
	"testing"

	"reliquary/api"
	"reliquary/share"
	"reliquary/suite"
)

// P20.4: what follows

func TestSharesHoldAtEachPlace(t *testing.T) {
	eachSuite(t, func(t *testing.T, s api.Suite) {
		chance := rand.New(rand.NewPCG(20, 20))
		a, b := drawMany(chance, s, 3), drawMany(chance, s, 3)
		c := good[[]api.Key](t)(Commit(s, a, b))
		step := 1
		if s == api.Great {
			step = 125
		}
		for at := 0; at <= 1000; at += step {
			x := good[api.Num](t)(share.Value(s, a, at))
			y := good[api.Num](t)(share.Value(s, b, at))
			if ok, e := Holds(c, at, x, y); !ok || e != api.OK {
				t.Fatal(at, ok, e)
			}
			if k := good[api.Key](t)(At(c, at)); k != good[api.Key](t)(One(s, x, y)) {
				t.Fatal(at, k)
			}
		}
	})
}

func TestSumsOfSharesHoldBySum(t *testing.T) {
	eachSuite(t, func(t *testing.T, s api.Suite) {
		chance := rand.New(rand.NewPCG(20, 21))
		var l [][]api.Key
		shares, blinds := make([]api.Num, 4), make([]api.Num, 4)
		for range 3 {
			a, b := drawMany(chance, s, 2), drawMany(chance, s, 2)
			l = append(l, good[[]api.Key](t)(Commit(s, a, b)))
			x, y := good[[]api.Num](t)(share.Split(s, a, 4)), good[[]api.Num](t)(share.Split(s, b, 4))
			for i := range 4 {
				shares[i] = good[api.Num](t)(suite.Add(s, shares[i], x[i]))
				blinds[i] = good[api.Num](t)(suite.Add(s, blinds[i], y[i]))
			}
		}
		sum := good[[]api.Key](t)(Sum(l))
		for i := range 4 {
			if ok, e := Holds(sum, i+1, shares[i], blinds[i]); !ok || e != api.OK {
				t.Error(i, ok, e)
			}
			if ok, e := Holds(l[0], i+1, shares[i], blinds[i]); ok || e != api.OK {
				t.Error(i, ok, e)
			}
		}
	})
}

// The keys that a pledge says at the nodes' places lie on its polynomial: as many as it
// has keys, joined, are what it says elsewhere.
func TestWhatIsSaidIsJoined(t *testing.T) {
	eachSuite(t, func(t *testing.T, s api.Suite) {
		chance := rand.New(rand.NewPCG(20, 22))
		c := good[[]api.Key](t)(Commit(s, drawMany(chance, s, 3), drawMany(chance, s, 3)))
		ids, keys := []int{2, 1000, 7}, []api.Key{}
		for _, id := range ids {
			keys = append(keys, good[api.Key](t)(At(c, id)))
		}
		for _, at := range []int{0, 1, 999} {
			want := good[api.Key](t)(At(c, at))
			if k := good[api.Key](t)(share.JoinKeys(ids, keys, at)); k != want {
				t.Error(at, k)
			}
		}
		if k := good[api.Key](t)(share.JoinKeys(ids, keys, 0)); k != c[0] {
			t.Error(k)
		}
	})
}

// often tells how often g h is, of the little curve: it is found by going on step by step.
func often(t *testing.T) api.Num {
	t.Helper()
	g, h := gen(t, api.Little), base(t, api.Little)
	k := g
	for n := uint64(1); n < 65521; n++ {
		if k == h {
			return api.Num{n}
		}
		k = good[api.Key](t)(suite.KeyAdd(k, g))
	}
	t.Fatal("h is no multiple of g")
	return api.Num{}
}

// Two unlike pairs that hold at one place tell how often g h is; and who knows that can
// make a blind for each share, so that a pledge tells nothing of it.
func TestTwoPairsTellHowOften(t *testing.T) {
	s, x := api.Little, often(t)
	r := orderOf(s)
	c := good[[]api.Key](t)(Commit(s, small(5, 3), small(1, 1)))
	back := new(big.Int).ModInverse(bigOf(x), r)
	for _, other := range []uint64{0, 1, 10, 12, 500, 65520} {
		// share + x blind is 11 + 3 x at the place 2, whatever the share.
		blind := new(big.Int).Sub(big.NewInt(11), big.NewInt(int64(other)))
		blind.Mul(blind, back).Add(blind, big.NewInt(3)).Mod(blind, r)
		if ok, e := Holds(c, 2, api.Num{other}, numOf(blind)); !ok || e != api.OK {
			t.Fatal(other, blind, ok, e)
		}
		above := new(big.Int).Sub(big.NewInt(11), big.NewInt(int64(other)))
		below := new(big.Int).Sub(blind, big.NewInt(3))
		below.ModInverse(below.Mod(below, r), r)
		if told := numOf(above.Mul(above, below).Mod(above, r)); told != x {
			t.Error(other, told)
		}
	}
}
