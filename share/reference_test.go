package share

import (
	"encoding/binary"
	"math/big"
	"math/rand/v2"
	"testing"

	"reliquary/api"
	"reliquary/suite"
)

// The chapter's words once more, with math/big.

func suites() []api.Suite { return []api.Suite{api.Little, api.Middle, api.Great} }

// notSuites are numbers that are no suite.
func notSuites() []api.Suite { return []api.Suite{-1, 3, 4, 255, 256, 257, 1 << 32, -1 << 63} }

// eachSuite does something with each suite.
func eachSuite(t *testing.T, do func(t *testing.T, s api.Suite)) {
	t.Helper()
	for i, s := range suites() {
		t.Run([]string{"Little", "Middle", "Great"}[i], func(t *testing.T) { do(t, s) })
	}
}

// good tells what a call answers that must not be refused.
func good[T any](t *testing.T) func(x T, e api.Errno) T {
	return func(x T, e api.Errno) T {
		t.Helper()
		if e != api.OK {
			t.Fatal(e)
		}
		return x
	}
}

// bigOf tells a number as Go's own.
func bigOf(n api.Num) *big.Int {
	x := new(big.Int)
	for i := range n {
		x.Add(x, new(big.Int).Lsh(new(big.Int).SetUint64(n[i]), uint(64*i)))
	}
	return x
}

// numOf tells Go's own number as one of 384 bits.
func numOf(x *big.Int) api.Num {
	b := x.FillBytes(make([]byte, 48))
	var n api.Num
	for i := range n {
		n[i] = binary.BigEndian.Uint64(b[40-8*i:])
	}
	return n
}

// small tells a list of small numbers.
func small(l ...uint64) []api.Num {
	var out []api.Num
	for _, n := range l {
		out = append(out, api.Num{n})
	}
	return out
}

// orderOf tells a suite's order.
func orderOf(s api.Suite) *big.Int {
	switch s {
	case api.Little:
		return big.NewInt(65521)
	case api.Middle:
		return big.NewInt(72057594037927889)
	default:
		r, _ := new(big.Int).SetString("73eda753299d7d483339d80809a1d80553bda402fffe5bfeffffffff00000001", 16)
		return r
	}
}

// below tells a number by a suite's order, from the end or from the beginning on.
func below(s api.Suite, n int64) api.Num {
	return numOf(new(big.Int).Mod(big.NewInt(n), orderOf(s)))
}

// draw tells a scalar by chance; now and then one of the least or the greatest.
func draw(chance *rand.Rand, s api.Suite) api.Num {
	if chance.IntN(4) == 0 {
		return below(s, int64(chance.IntN(7)-3))
	}
	var n api.Num
	for i := range n {
		n[i] = chance.Uint64()
	}
	return numOf(new(big.Int).Mod(bigOf(n), orderOf(s)))
}

// drawMany tells so many scalars by chance.
func drawMany(chance *rand.Rand, s api.Suite, n int) []api.Num {
	var l []api.Num
	for range n {
		l = append(l, draw(chance, s))
	}
	return l
}

// drawIDs tells so many ids by chance, the first and the last one among them at times.
func drawIDs(chance *rand.Rand, n int) []int {
	var l []int
	for _, i := range chance.Perm(1000)[:n] {
		l = append(l, i+1)
	}
	return l
}

// drawPlace tells a place by chance: often an id, or one of the ends.
func drawPlace(chance *rand.Rand, ids []int) int {
	switch n := chance.IntN(6); {
	case n == 0:
		return 0
	case n == 1:
		return 1000
	case n == 2 && len(ids) > 0:
		return ids[chance.IntN(len(ids))]
	default:
		return chance.IntN(1001)
	}
}

// valueOf tells a polynomial's value: coefficients times powers.
func valueOf(s api.Suite, coefs []api.Num, at int) api.Num {
	r, sum := orderOf(s), new(big.Int)
	for k, c := range coefs {
		power := new(big.Int).Exp(big.NewInt(int64(at)), big.NewInt(int64(k)), r)
		sum.Add(sum, power.Mul(power, bigOf(c)))
	}
	return numOf(sum.Mod(sum, r))
}

// lagrangeBy tells the Lagrange numbers, factor by factor.
func lagrangeBy(s api.Suite, ids []int, at int) []api.Num {
	r := orderOf(s)
	var l []api.Num
	for _, i := range ids {
		product := big.NewInt(1)
		for _, j := range ids {
			if i != j {
				product.Mul(product, big.NewInt(int64(at-j)))
				under := new(big.Int).Mod(big.NewInt(int64(i-j)), r)
				product.Mul(product, under.ModInverse(under, r)).Mod(product, r)
			}
		}
		l = append(l, numOf(product))
	}
	return l
}

// joinBy tells the sum of shares times their Lagrange numbers.
func joinBy(s api.Suite, ids []int, shares []api.Num, at int) api.Num {
	sum := new(big.Int)
	for i, l := range lagrangeBy(s, ids, at) {
		sum.Add(sum, new(big.Int).Mul(bigOf(l), bigOf(shares[i])))
	}
	return numOf(sum.Mod(sum, orderOf(s)))
}

// degreeOf tells the degree of shares: from all of them the polynomial is put together
// of its parts, coefficient by coefficient.
func degreeOf(s api.Suite, ids []int, shares []api.Num) int {
	r := orderOf(s)
	coefs := make([]*big.Int, len(ids))
	for k := range coefs {
		coefs[k] = new(big.Int)
	}
	for i, id := range ids {
		part, under := []*big.Int{bigOf(shares[i])}, big.NewInt(1)
		for _, j := range ids {
			if j != id {
				part = timesRoot(part, j, r)
				under.Mul(under, big.NewInt(int64(id-j))).Mod(under, r)
			}
		}
		under.ModInverse(under, r)
		for k, c := range part {
			coefs[k].Add(coefs[k], c.Mul(c, under)).Mod(coefs[k], r)
		}
	}
	degree := 0
	for k, c := range coefs {
		if c.Sign() != 0 {
			degree = k
		}
	}
	return degree
}

// timesRoot tells a polynomial times x - root.
func timesRoot(coefs []*big.Int, root int, r *big.Int) []*big.Int {
	out := make([]*big.Int, len(coefs)+1)
	for k := range out {
		out[k] = new(big.Int)
	}
	for k, c := range coefs {
		out[k+1].Add(out[k+1], c)
		out[k].Sub(out[k], new(big.Int).Mul(c, big.NewInt(int64(root))))
	}
	for _, c := range out {
		c.Mod(c, r)
	}
	return out
}

// The suite's points, as the layer below tells them.

func gen(t *testing.T, s api.Suite) api.Key {
	t.Helper()
	return good[api.Key](t)(suite.Gen(s))
}

func hash(t *testing.T, s api.Suite) api.Sig {
	t.Helper()
	return good[api.Sig](t)(suite.HashSig(s, [][]byte{[]byte("a text")}))
}

// keysOf tells a key times each of some scalars.
func keysOf(t *testing.T, k api.Key, scalars []api.Num) []api.Key {
	t.Helper()
	var l []api.Key
	for _, n := range scalars {
		l = append(l, good[api.Key](t)(suite.KeyMul(k, n)))
	}
	return l
}

// sigsOf tells a sig times each of some scalars.
func sigsOf(t *testing.T, k api.Sig, scalars []api.Num) []api.Sig {
	t.Helper()
	var l []api.Sig
	for _, n := range scalars {
		l = append(l, good[api.Sig](t)(suite.SigMul(k, n)))
	}
	return l
}
