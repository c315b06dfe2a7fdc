package share

import (
	"math/big"
	"math/rand/v2"
	"testing"

	"reliquary/api"
)

// P19.4: what follows

// subset tells the items of a list whose bits are set.
func subset[T any](l []T, bits int) []T {
	var out []T
	for i, x := range l {
		if bits>>i&1 == 1 {
			out = append(out, x)
		}
	}
	return out
}

// count tells how many of the lowest bits are set.
func count(bits int) int {
	n := 0
	for ; bits > 0; bits >>= 1 {
		n += bits & 1
	}
	return n
}

func TestAnyEnoughSharesSayAll(t *testing.T) {
	eachSuite(t, func(t *testing.T, s api.Suite) {
		chance := rand.New(rand.NewPCG(19, 20))
		for k := 1; k <= 5; k++ {
			coefs := drawMany(chance, s, k)
			all := good[[]api.Num](t)(Split(s, coefs, 7))
			ids := []int{1, 2, 3, 4, 5, 6, 7}
			for bits := range 1 << 7 {
				if count(bits) != k {
					continue
				}
				some, shares := subset(ids, bits), subset(all, bits)
				for _, at := range []int{0, 1, 5, 7, 8, 1000} {
					if x := good[api.Num](t)(Join(s, some, shares, at)); x != valueOf(s, coefs, at) {
						t.Fatal(k, some, at, x)
					}
				}
			}
		}
	})
}

// More shares than there are coefficients say the same; 64 of them, too.
func TestMoreSharesSayTheSame(t *testing.T) {
	eachSuite(t, func(t *testing.T, s api.Suite) {
		coefs := drawMany(rand.New(rand.NewPCG(19, 21)), s, 22)
		all, ids := good[[]api.Num](t)(Split(s, coefs, 64)), []int{}
		for i := range all {
			ids = append(ids, i+1)
		}
		for _, n := range []int{22, 23, 43, 64} {
			if x := good[api.Num](t)(Join(s, ids[64-n:], all[64-n:], 0)); x != coefs[0] {
				t.Error(n, x)
			}
			if fits := good[bool](t)(Fit(s, ids[64-n:], all[64-n:], 21)); !fits {
				t.Error(n)
			}
		}
	})
}

func TestJoinedKeysAreTheValuesMultiples(t *testing.T) {
	eachSuite(t, func(t *testing.T, s api.Suite) {
		chance := rand.New(rand.NewPCG(19, 22))
		base, text := keysOf(t, gen(t, s), []api.Num{draw(chance, s)})[0], hash(t, s)
		coefs, ids := drawMany(chance, s, 3), []int{9, 2, 1000}
		var shares []api.Num
		for _, id := range ids {
			shares = append(shares, good[api.Num](t)(Value(s, coefs, id)))
		}
		for _, at := range []int{0, 2, 500} {
			value := []api.Num{valueOf(s, coefs, at)}
			if k := good[api.Key](t)(JoinKeys(ids, keysOf(t, base, shares), at)); k != keysOf(t, base, value)[0] {
				t.Error(at, k)
			}
			if k := good[api.Sig](t)(JoinSigs(ids, sigsOf(t, text, shares), at)); k != sigsOf(t, text, value)[0] {
				t.Error(at, k)
			}
		}
	})
}

// Shares of k coefficients fit k - 1, and nothing less, if the last one is not 0; one
// share that is turned does not fit any more.
func TestSharesFit(t *testing.T) {
	eachSuite(t, func(t *testing.T, s api.Suite) {
		chance := rand.New(rand.NewPCG(19, 23))
		ids := []int{1, 2, 3, 4, 5, 6, 7, 8, 9, 10, 11, 12, 13}
		for k := 1; k <= 12; k++ {
			coefs := drawMany(chance, s, k)
			coefs[k-1] = api.Num{1}
			shares := good[[]api.Num](t)(Split(s, coefs, 13))
			fitsFrom(t, s, ids, shares, k-1)
			turned := chance.IntN(13)
			shares[turned] = numOf(new(big.Int).Mod(new(big.Int).Add(bigOf(shares[turned]), big.NewInt(1)), orderOf(s)))
			fitsFrom(t, s, ids, shares, 12)
		}
	})
}

// One share of two coefficients says nothing of the secret: each slope makes another
// secret, so that each secret has one slope.
func TestTooFewSharesSayNothing(t *testing.T) {
	const r, id, one = 65521, 3, 14
	var met [r]bool
	for slope := uint64(0); slope < r; slope++ {
		secret := (one + (r-slope)*id) % r
		if met[secret] {
			t.Fatal("twice", secret)
		}
		met[secret] = true
		coefs := small(secret, slope)
		if x, e := Value(api.Little, coefs, id); x != (api.Num{one}) || e != api.OK {
			t.Fatal(secret, slope, x, e)
		}
		if x, e := Value(api.Little, coefs, 0); x != coefs[0] || e != api.OK {
			t.Fatal(secret, slope, x, e)
		}
	}
}

// Of any k - 1 shares and any secret there is one polynomial of k coefficients: whatever
// the k-th share is made of them, it and the others say the secret.
func TestAnySecretIsPossible(t *testing.T) {
	eachSuite(t, func(t *testing.T, s api.Suite) {
		chance := rand.New(rand.NewPCG(19, 24))
		r := orderOf(s)
		for k := 2; k <= 6; k++ {
			ids, shares, secret := drawIDs(chance, k), drawMany(chance, s, k), draw(chance, s)
			// The last share turns the secret that is said into the one that is wanted.
			factors := good[[]api.Num](t)(Lagrange(s, ids, 0))
			said := good[api.Num](t)(Join(s, ids, shares, 0))
			step := new(big.Int).Sub(bigOf(secret), bigOf(said))
			step.Mul(step, new(big.Int).ModInverse(bigOf(factors[k-1]), r))
			shares[k-1] = numOf(step.Add(step, bigOf(shares[k-1])).Mod(step, r))
			if x := good[api.Num](t)(Join(s, ids, shares, 0)); x != secret {
				t.Fatal(k, ids, x)
			}
			if fits := good[bool](t)(Fit(s, ids, shares, k-1)); !fits {
				t.Fatal(k, ids)
			}
		}
	})
}
