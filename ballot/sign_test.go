package ballot

import (
	"math/big"
	"math/rand"
	"testing"

	"reliquary/api"
	"reliquary/words"
)

func TestSignaturesByTheWords(t *testing.T) {
	for _, s := range suites() {
		for _, secret := range []api.Num{words.Of(1), words.Of(2), words.Of(300), under(s, 1), under(s, 2), under(s, 60000)} {
			for _, v := range goodVotes() {
				if s == api.Great && v.View > 1 && secret != under(s, 2) {
					continue
				}
				got, e := Sign(s, secret, v)
				if want := signedOf(s, secret, v); e != api.OK || got != want {
					t.Fatal(s, secret, v, got, want, e)
				}
				if !Check(keyOf(s, secret), got) {
					t.Error("does not hold", s, secret, v)
				}
				// Whatever signature it has.
				odd := v
				odd.Begin, odd.Answer = api.Key{S: 9, L: api.L1{X: 1}}, words.Of(7)
				for _, v := range []api.Vote{odd, got} {
					if again, e := Sign(s, secret, v); e != api.OK || again != got {
						t.Error(s, secret, v, again, e)
					}
				}
			}
		}
	}
}

func TestSignaturesByChance(t *testing.T) {
	r := rand.New(rand.NewSource(17))
	for _, s := range suites() {
		rounds := 500
		if s == api.Great {
			rounds = 20
		}
		for range rounds {
			secret := numOf(new(big.Int).Rand(r, orderOf(s)))
			if secret == (api.Num{}) {
				continue
			}
			v := api.Vote{Phase: 1 + r.Intn(2), View: r.Intn(1<<30 + 1), Place: r.Intn(1<<30 + 1), From: 1 + r.Intn(255)}
			r.Read(v.Value[:])
			got, e := Sign(s, secret, v)
			if e != api.OK || got != signedOf(s, secret, v) || !Check(keyOf(s, secret), got) {
				t.Error(s, secret, v, got, e)
			}
		}
	}
}

func TestWhatIsNotSigned(t *testing.T) {
	refused := func(name string, s api.Suite, secret api.Num, v api.Vote) {
		t.Helper()
		if got, e := Sign(s, secret, v); e != api.ErrArg || got != (api.Vote{}) {
			t.Error(name, s, secret, got, e)
		}
	}
	for _, s := range notSuites() {
		refused("no suite", s, words.Of(2), abc(1))
		refused("no suite, and all else", s, api.Num{}, api.Vote{})
	}
	for _, s := range suites() {
		for _, secret := range []api.Num{{}, under(s, 0), under(s, -1), {0, 0, 0, 0, 0, 1}, {1, 0, 0, 0, 0, 1 << 63}, {^uint64(0), ^uint64(0), ^uint64(0), ^uint64(0), ^uint64(0), ^uint64(0)}} {
			refused("no secret", s, secret, abc(1))
		}
		for name, v := range badVotes() {
			refused(name, s, words.Of(2), v)
		}
		for _, from := range wrongFroms() {
			refused("From", s, words.Of(2), abc(from))
		}
		signed, e := Sign(s, words.Of(2), abc(255))
		fine(t, e)
		if signed.From != 255 {
			t.Error(signed)
		}
	}
}

// TestAnswersAndChallengesOfZero: votes of a little suite, by the secret 2, that were
// looked for by another program.
func TestAnswersAndChallengesOfZero(t *testing.T) {
	s, two := api.Little, words.Of(2)
	key := keyOf(s, two)
	at := func(place int) (api.Vote, api.Vote) {
		v := abc(1)
		v.Place = place
		got, e := Sign(s, two, v)
		if want := signedOf(s, two, v); e != api.OK || got != want || !Check(key, got) {
			t.Fatal(place, got, want, e)
		}
		return v, got
	}
	for _, place := range []int{95757, 122544, 163318} {
		v, got := at(place)
		if nonceOf(s, two, v).Sign() != 0 || got.Begin != keyOf(s, words.Of(1)) {
			t.Error("the nonce 0", got)
		}
	}
	for _, place := range []int{28484, 119088, 124719} {
		v, got := at(place)
		if challengeOf(key, got).Sign() != 0 || got.Answer != numOf(nonceOf(s, two, v)) {
			t.Error("the challenge 0", got)
		}
	}
	if _, got := at(203930); got.Answer != (api.Num{}) {
		t.Error("the answer 0", got)
	}
}

// TestSignaturesOfOtherNonces: whatever nonce was taken, what holds holds.
func TestSignaturesOfOtherNonces(t *testing.T) {
	for _, s := range suites() {
		for _, k := range []api.Num{{}, words.Of(1), words.Of(2), words.Of(65519), under(s, 1)} {
			v := by(s, words.Of(7), k, abc(9))
			if !Check(keyOf(s, words.Of(7)), v) {
				t.Error(s, k)
			}
			if Check(keyOf(s, words.Of(8)), v) {
				t.Error(s, k, "of another key")
			}
		}
		// The zero is a key that may be; what it signs anybody signs.
		v := by(s, api.Num{}, words.Of(9), abc(9))
		if !Check(zeroOf(s), v) || v.Answer != words.Of(9) {
			t.Error(s, v)
		}
		v.Answer = words.Of(10)
		if Check(zeroOf(s), v) {
			t.Error(s, v)
		}
	}
}

// TestWhatDoesNotHold: a vote of which one thing is another one.
func TestWhatDoesNotHold(t *testing.T) {
	for _, s := range suites() {
		key := keyOf(s, words.Of(2))
		good := sign(t, s, abc(1))
		not := func(name string, change func(v *api.Vote)) {
			t.Helper()
			v := good
			change(&v)
			if Check(key, v) {
				t.Error(s, name, v)
			}
		}
		not("Phase", func(v *api.Vote) { v.Phase = api.Precommit })
		not("Phase Timeout", func(v *api.Vote) { v.Phase, v.Value = api.Timeout, api.Digest{} })
		not("View", func(v *api.Vote) { v.View = 1 })
		not("Place", func(v *api.Vote) { v.Place = 0 })
		not("View and Place", func(v *api.Vote) { v.View, v.Place = 1, 0 })
		not("From", func(v *api.Vote) { v.From = 2 })
		for i := range 256 {
			if s == api.Great && i%37 != 0 {
				continue
			}
			not("Value", func(v *api.Vote) { v.Value[i/8] ^= 1 << (i % 8) })
		}
		not("Answer", func(v *api.Vote) { v.Answer[0]++ })
		not("Answer 0", func(v *api.Vote) { v.Answer = api.Num{} })
		not("Answer negated", func(v *api.Vote) { v.Answer = numOf(new(big.Int).Sub(orderOf(s), bigOf(v.Answer))) })
		not("Answer and the order", func(v *api.Vote) { v.Answer = numOf(new(big.Int).Add(orderOf(s), bigOf(v.Answer))) })
		not("Answer of a high word", func(v *api.Vote) { v.Answer[5] = 1 })
		not("Begin", func(v *api.Vote) { v.Begin = keyOf(s, words.Of(5)) })
		not("Begin the zero", func(v *api.Vote) { v.Begin = zeroOf(s) })
		not("Begin the key", func(v *api.Vote) { v.Begin = key })
		not("Begin negated", func(v *api.Vote) { v.Begin = times(under(s, 1), v.Begin) })
		for _, k := range notKeys(s) {
			not("Begin that may not be", func(v *api.Vote) { v.Begin = k })
			if Check(k, good) {
				t.Error(s, "key that may not be", k)
			}
		}
		for _, other := range suites() {
			if other == s {
				continue
			}
			not("Begin of another suite", func(v *api.Vote) { v.Begin = sign(t, other, abc(1)).Begin })
			if Check(keyOf(other, words.Of(2)), good) || Check(key, sign(t, other, abc(1))) {
				t.Error(s, other)
			}
		}
		for _, k := range []api.Key{keyOf(s, words.Of(1)), keyOf(s, words.Of(3)), keyOf(s, under(s, 2)), zeroOf(s)} {
			if Check(k, good) {
				t.Error(s, "another key", k)
			}
		}
		if !Check(key, good) {
			t.Error(s, "the vote itself")
		}
	}
}

// TestWhatMayNotBeSaid: no such vote holds, though its signature was made just so.
func TestWhatMayNotBeSaid(t *testing.T) {
	for _, s := range suites() {
		key := keyOf(s, words.Of(2))
		for name, v := range badVotes() {
			if Check(key, signedOf(s, words.Of(2), v)) {
				t.Error(s, name)
			}
		}
		for _, from := range wrongFroms() {
			if Check(key, signedOf(s, words.Of(2), abc(from))) {
				t.Error(s, from)
			}
		}
		if Check(key, api.Vote{}) || Check(api.Key{}, api.Vote{}) || Check(zeroOf(s), api.Vote{}) {
			t.Error(s, "nothing at all")
		}
	}
}

// TestNoncesAreUnlike: what is signed, and by which secret, makes another nonce.
func TestNoncesAreUnlike(t *testing.T) {
	seen := map[api.Key]api.Vote{}
	for _, secret := range []uint64{2, 3, 258} {
		for _, v := range goodVotes() {
			for _, from := range []int{v.From, v.From%13 + 1} {
				v.From = from
				got, e := Sign(api.Middle, words.Of(secret), v)
				fine(t, e)
				if old, there := seen[got.Begin]; there && old != got {
					t.Error(old, got)
				}
				seen[got.Begin] = got
			}
		}
	}
}
