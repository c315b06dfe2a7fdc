package pledge

import (
	"encoding/binary"
	"math"
	"math/big"
	"math/rand/v2"
	"testing"

	"reliquary/api"
	"reliquary/suite"
)

// The chapter's words once more: what scalars come to by math/big, points by suite.

func suites() []api.Suite { return []api.Suite{api.Little, api.Middle, api.Great} }

// notSuites are numbers that are no suite.
func notSuites() []api.Suite { return []api.Suite{-1, 3, 4, 255, 256, 257, 1 << 32, -1 << 63} }

// eachSuite does something with each suite.
func eachSuite(t *testing.T, do func(t *testing.T, s api.Suite)) {
	t.Helper()
	for i, s := range suites() {
		t.Run([]string{"Little", "Middle", "Great"}[i], func(t *testing.T) { do(t, s) })
	}
}

// otherSuite tells another suite.
func otherSuite(s api.Suite) api.Suite {
	if s == api.Little {
		return api.Middle
	}
	return api.Little
}

// good tells what a call answers that must not be refused.
func good[T any](t *testing.T) func(x T, e api.Errno) T {
	return func(x T, e api.Errno) T {
		t.Helper()
		if e != api.OK {
			t.Fatal(e)
		}
		return x
	}
}

// bigOf tells a number as Go's own.
func bigOf(n api.Num) *big.Int {
	b := make([]byte, 48)
	for i := range n {
		binary.BigEndian.PutUint64(b[40-8*i:], n[i])
	}
	return new(big.Int).SetBytes(b)
}

// numOf tells Go's own number as one of 384 bits.
func numOf(x *big.Int) api.Num {
	b := x.FillBytes(make([]byte, 48))
	var n api.Num
	for i := range n {
		n[i] = binary.BigEndian.Uint64(b[40-8*i:])
	}
	return n
}

// small tells a list of small numbers.
func small(l ...uint64) []api.Num {
	var out []api.Num
	for _, n := range l {
		out = append(out, api.Num{n})
	}
	return out
}

// orderOf tells a suite's order.
func orderOf(s api.Suite) *big.Int {
	switch s {
	case api.Little:
		return big.NewInt(65521)
	case api.Middle:
		return big.NewInt(72057594037927889)
	default:
		r, _ := new(big.Int).SetString("73eda753299d7d483339d80809a1d80553bda402fffe5bfeffffffff00000001", 16)
		return r
	}
}

// below tells a number by a suite's order, from the end or from the beginning on.
func below(s api.Suite, n int64) api.Num {
	return numOf(new(big.Int).Mod(big.NewInt(n), orderOf(s)))
}

// plus tells the sum of two scalars.
func plus(s api.Suite, a, b api.Num) api.Num {
	sum := new(big.Int).Add(bigOf(a), bigOf(b))
	return numOf(sum.Mod(sum, orderOf(s)))
}

// notScalars are numbers that are not below a suite's order.
func notScalars(s api.Suite) []api.Num {
	top := api.Num{math.MaxUint64, math.MaxUint64, math.MaxUint64, math.MaxUint64, math.MaxUint64, math.MaxUint64}
	over := numOf(orderOf(s))
	over[0]++
	l := []api.Num{numOf(orderOf(s)), over, top, {5: 1}, {0, 0, 0, 0, 1}}
	if s != api.Great {
		l = append(l, api.Num{0, 1}, api.Num{3, 0, 1}, api.Num{math.MaxUint64})
	}
	return l
}

// draw tells a scalar by chance; now and then one of the least or the greatest.
func draw(chance *rand.Rand, s api.Suite) api.Num {
	if chance.IntN(4) == 0 {
		return below(s, int64(chance.IntN(7)-3))
	}
	var n api.Num
	for i := range n {
		n[i] = chance.Uint64()
	}
	return numOf(new(big.Int).Mod(bigOf(n), orderOf(s)))
}

// drawMany tells so many scalars by chance.
func drawMany(chance *rand.Rand, s api.Suite, n int) []api.Num {
	var l []api.Num
	for range n {
		l = append(l, draw(chance, s))
	}
	return l
}

// valueOf tells a polynomial's value: coefficients times powers.
func valueOf(s api.Suite, coefs []api.Num, at int) api.Num {
	r, sum := orderOf(s), new(big.Int)
	for k, c := range coefs {
		power := new(big.Int).Exp(big.NewInt(int64(at)), big.NewInt(int64(k)), r)
		sum.Add(sum, power.Mul(power, bigOf(c)))
	}
	return numOf(sum.Mod(sum, r))
}

func gen(t *testing.T, s api.Suite) api.Key {
	t.Helper()
	return good[api.Key](t)(suite.Gen(s))
}

func base(t *testing.T, s api.Suite) api.Key {
	t.Helper()
	return good[api.Key](t)(suite.Base(s))
}

// zero tells a suite's zero.
func zero(t *testing.T, s api.Suite) api.Key {
	t.Helper()
	return good[api.Key](t)(suite.KeyMul(gen(t, s), api.Num{}))
}

// oneOf tells share g + blind h.
func oneOf(t *testing.T, s api.Suite, share, blind api.Num) api.Key {
	t.Helper()
	x := good[api.Key](t)(suite.KeyMul(gen(t, s), share))
	y := good[api.Key](t)(suite.KeyMul(base(t, s), blind))
	return good[api.Key](t)(suite.KeyAdd(x, y))
}

// pledgeOf tells the pledge of two polynomials.
func pledgeOf(t *testing.T, s api.Suite, a, b []api.Num) []api.Key {
	t.Helper()
	var l []api.Key
	for k := range a {
		l = append(l, oneOf(t, s, a[k], b[k]))
	}
	return l
}

// saysOf tells what a pledge says at a place, from its last key on.
func saysOf(t *testing.T, c []api.Key, at int) api.Key {
	t.Helper()
	sum := zero(t, c[0].S)
	for i := len(c) - 1; i >= 0; i-- {
		sum = good[api.Key](t)(suite.KeyMul(sum, api.Num{uint64(at)}))
		sum = good[api.Key](t)(suite.KeyAdd(sum, c[i]))
	}
	return sum
}

// sizes tells how many keys pledges that are tried have: the great ones are slow.
func sizes(s api.Suite) []int {
	if s == api.Great {
		return []int{1, 2, 5}
	}
	return []int{1, 2, 3, 4, 5, 13, 63, 64}
}

// badKeys are keys that may not be.
func badKeys(t *testing.T, s api.Suite) []api.Key {
	t.Helper()
	k := gen(t, s)
	moved, named, both := k, k, k
	moved.P.Y[0]++
	moved.L.Y++
	named.S = otherSuite(s)
	both.P.Zero, both.L.Zero = true, true
	strayed := api.Key{S: s, P: api.P1{Y: api.Num{2}}}
	return []api.Key{{S: s}, moved, named, both, strayed, {S: 3}, {S: -1}, {S: 3, L: api.L1{Zero: true}}}
}
