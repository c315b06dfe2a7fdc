package pairing

import (
	"math/big"
	"testing"

	"reliquary/api"
	"reliquary/modulus"
	"reliquary/words"
)

// The tests hold the package against the document's own words, done by math/big:
// the walk with slopes that are divided, the last power as one great number.

var (
	prime = bigOf(modulus.Base())
	order = bigOf(modulus.Order())
	last  = lastPower()
)

func lastPower() *big.Int {
	n := new(big.Int).Exp(prime, big.NewInt(12), nil)
	n.Sub(n, big.NewInt(1))
	often, rest := new(big.Int).DivMod(n, order, new(big.Int))
	if rest.Sign() != 0 {
		panic("r does not go into p^12 - 1")
	}
	return often
}

func bigOf(a api.Num) *big.Int { return new(big.Int).SetBytes(words.Bytes(a)) }

func num(t *testing.T, n *big.Int) api.Num {
	t.Helper()
	a, e := words.Read(n.Bytes())
	if e != api.OK || n.Sign() < 0 {
		t.Fatal(n, e)
	}
	return a
}

// duo is a number of two parts, each from 0 to p - 1.
type duo [2]*big.Int

func left(a, b *big.Int) duo {
	return duo{new(big.Int).Mod(a, prime), new(big.Int).Mod(b, prime)}
}

func of(a, b int64) duo { return left(big.NewInt(a), big.NewInt(b)) }

func duoOf(a api.E2) duo { return left(bigOf(a[0]), bigOf(a[1])) }

func (a duo) plus(b duo) duo {
	return left(new(big.Int).Add(a[0], b[0]), new(big.Int).Add(a[1], b[1]))
}

func (a duo) minus(b duo) duo {
	return left(new(big.Int).Sub(a[0], b[0]), new(big.Int).Sub(a[1], b[1]))
}

func (a duo) times(b duo) duo { return left(parts(a, b)) }

// parts tells a product's parts as they come.
func parts(a, b duo) (*big.Int, *big.Int) {
	first := new(big.Int).Mul(a[0], b[0])
	first.Sub(first, new(big.Int).Mul(a[1], b[1]))
	second := new(big.Int).Mul(a[0], b[1])
	second.Add(second, new(big.Int).Mul(a[1], b[0]))
	return first, second
}

func (a duo) over(b duo) duo {
	norm := new(big.Int).Mul(b[0], b[0])
	norm.Add(norm, new(big.Int).Mul(b[1], b[1]))
	if norm.ModInverse(norm, prime) == nil {
		panic("divided by 0")
	}
	return a.times(left(new(big.Int).Mul(b[0], norm), new(big.Int).Neg(new(big.Int).Mul(b[1], norm))))
}

// dozen is a sum of powers of w, from 0 to 5, and w^6 is 1 + i.
type dozen [6]duo

func dozenOf(a api.E12) dozen {
	var d dozen
	for k := range d {
		d[k] = duoOf(a[k])
	}
	return d
}

func (a dozen) twelve(t *testing.T) api.E12 {
	t.Helper()
	var all api.E12
	for k := range a {
		all[k] = api.E2{num(t, a[k][0]), num(t, a[k][1])}
	}
	return all
}

func nought() dozen {
	var d dozen
	for k := range d {
		d[k] = of(0, 0)
	}
	return d
}

func one() dozen {
	d := nought()
	d[0] = of(1, 0)
	return d
}

// times brings the numbers below p once in the end, as it is asked for often.
func (a dozen) times(b dozen) dozen {
	all := nought()
	for i := range a {
		for j := range b {
			first, second := parts(a[i], b[j])
			if i+j >= 6 {
				first, second = new(big.Int).Sub(first, second), new(big.Int).Add(first, second)
			}
			sum := all[(i+j)%6]
			sum[0].Add(sum[0], first)
			sum[1].Add(sum[1], second)
		}
	}
	for k := range all {
		all[k] = left(all[k][0], all[k][1])
	}
	return all
}

func (a dozen) power(n *big.Int) dozen {
	all := one()
	for i := n.BitLen() - 1; i >= 0; i-- {
		all = all.times(all)
		if n.Bit(i) == 1 {
			all = all.times(a)
		}
	}
	return all
}

func (a dozen) conjugate() dozen {
	for k := 1; k < len(a); k += 2 {
		a[k] = of(0, 0).minus(a[k])
	}
	return a
}

// spot is a point of the second curve that is not the zero.
type spot struct {
	x, y duo
}

func slope(a, b spot) duo {
	if a.x[0].Cmp(b.x[0]) == 0 && a.x[1].Cmp(b.x[1]) == 0 {
		return of(3, 0).times(a.x).times(a.x).over(a.y.plus(a.y))
	}
	return b.y.minus(a.y).over(b.x.minus(a.x))
}

func added(a, b spot) spot {
	m := slope(a, b)
	x := m.times(m).minus(a.x).minus(b.x)
	return spot{x, m.times(a.x.minus(x)).minus(a.y)}
}

// line is the document's, with w^-1 and w^-3 as powers of w over w^6.
func line(a spot, m duo, p api.P1) dozen {
	x, y := duoOf(api.E2{p.X}), duoOf(api.E2{p.Y})
	d := nought()
	d[0] = y
	d[5] = of(0, 0).minus(m.times(x)).over(of(1, 1))
	d[3] = m.times(a.x).minus(a.y).over(of(1, 1))
	return d
}

func referenceWalk(p api.P1, q api.P2) dozen {
	by := spot{duoOf(q.X), duoOf(q.Y)}
	bits, _ := new(big.Int).SetString("d201000000010000", 16)
	at, f := by, one()
	for i := bits.BitLen() - 2; i >= 0; i-- {
		f = f.times(f).times(line(at, slope(at, at), p))
		at = added(at, at)
		if bits.Bit(i) == 1 {
			f = f.times(line(at, slope(at, by), p))
			at = added(at, by)
		}
	}
	return f.conjugate()
}

func referencePair(p api.P1, q api.P2) dozen {
	if p.Zero || q.Zero {
		return one()
	}
	return referenceWalk(p, q).power(last)
}
