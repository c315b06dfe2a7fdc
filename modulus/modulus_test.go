package modulus

import (
	"math"
	"math/big"
	"testing"

	"reliquary/api"
	"reliquary/words"
)

// The tests hold the package against math/big, by all moduli of moduli and at
// all pairs of the numbers of samples: edges by hand, and drawn by a fixed rule.

const full = math.MaxUint64

var top = api.Num{full, full, full, full, full, full}

// greatest is 2^382 - 1, the greatest modulus.
var greatest = api.Num{full, full, full, full, full, 1<<62 - 1}

func of(n uint64) api.Num { return words.Of(n) }

func less(a api.Num, n uint64) api.Num {
	rest, _ := words.Sub(a, of(n))
	return rest
}

func more(a api.Num, n uint64) api.Num {
	sum, _ := words.Add(a, of(n))
	return sum
}

func power(i int) api.Num { return words.Shift(of(1), i) }

// great tells a number as math/big has it.
func great(a api.Num) *big.Int { return new(big.Int).SetBytes(words.Bytes(a)) }

// small tells a number of math/big that is below 2^384.
func small(t *testing.T, n *big.Int) api.Num {
	t.Helper()
	a, e := words.Read(n.Bytes())
	if e != api.OK || n.Sign() < 0 {
		t.Fatal(n, e)
	}
	return a
}

// draw tells a word: half of them are edges, at which carries and borrows begin.
func draw(state *uint64) uint64 {
	*state ^= *state << 13
	*state ^= *state >> 7
	*state ^= *state << 17
	edges := []uint64{0, 1, 2, full, full - 1, 1 << 63, 1<<63 - 1, 1<<63 + 1, 1 << 32}
	n := *state * 0x9e3779b97f4a7c15 >> 8
	if n%2 == 0 {
		return edges[n/2%uint64(len(edges))]
	}
	return *state
}

func drawNum(state *uint64, size int) api.Num {
	var a api.Num
	for i := range size {
		a[i] = draw(state)
	}
	return a
}

// moduli tells small ones, primes and not, those at the edges of words and at
// the upper bound, the great primes, and drawn ones of all sizes.
func moduli() []api.Num {
	l := []api.Num{
		of(3), of(5), of(7), of(9), of(11), of(13), of(15), of(21), of(25), of(27), of(255), of(65537), of(1<<61 - 1),
		of(full), of(full - 58), of(1<<63 + 1), of(1<<63 - 1), more(power(64), 1), more(power(64), 13), less(power(128), 1),
		{1, 0, full}, {full, 0, 0, 1}, {1, full, full, full}, more(power(320), 1), less(power(320), 1),
		Base(), Order(), greatest, less(greatest, 2), more(power(381), 1), less(power(381), 1), {1, 0, 0, 0, 0, 1<<62 - 1},
		{full, 0, 0, 0, 0, 1<<62 - 1}, {1 << 63, 1, 1, 1, 1, 1 << 61},
	}
	state := uint64(3)
	for i := range 24 {
		n := drawNum(&state, 1+i%6)
		n[5] >>= 2
		l = append(l, n)
	}
	for i := range l {
		l[i][0] |= 1
		if l[i] == of(1) {
			l[i] = of(3)
		}
	}
	return l
}

// samples tells numbers below n, at its edges, at those of its multiples, and
// up to the greatest number there is.
func samples(n api.Num) []api.Num {
	l := []api.Num{
		{}, of(1), of(2), of(3), of(full), power(64), power(320), power(381), power(382), power(383),
		top, less(top, 1), greatest, more(greatest, 1),
		less(n, 2), less(n, 1), n, more(n, 1), words.Shift(n, -1), more(words.Shift(n, -1), 1),
		words.Shift(n, 1), less(words.Shift(n, 1), 1), more(words.Shift(n, 1), 1),
	}
	often, _, _ := words.Divide(top, n)
	last, _ := words.Mul(often, n)
	l = append(l, last, less(last, 1), more(last, 1))
	state := uint64(5)
	for i := range 18 {
		a := drawNum(&state, 1+i%6)
		_, left, _ := words.Divide(a, n)
		l = append(l, a, left)
	}
	return l
}

func made(t *testing.T, n api.Num) *Modulus {
	t.Helper()
	m, e := New(n)
	if m == nil || e != api.OK {
		t.Fatalf("New(%x): %d", n, e)
	}
	return m
}

func each(t *testing.T, do func(m *Modulus, n *big.Int, a api.Num)) {
	t.Helper()
	for _, n := range moduli() {
		m := made(t, n)
		for _, a := range samples(n) {
			do(m, great(n), a)
		}
	}
}

func pairs(t *testing.T, do func(m *Modulus, n *big.Int, a, b api.Num)) {
	t.Helper()
	for _, n := range moduli() {
		m, l, b := made(t, n), samples(n), great(n)
		for _, x := range l {
			for _, y := range l {
				do(m, b, x, y)
			}
		}
	}
}

// hold fails if a call did not answer what is left of a number (below 0 or not).
func hold(t *testing.T, call string, m *Modulus, got api.Num, want *big.Int, given ...api.Num) {
	t.Helper()
	if got != small(t, new(big.Int).Mod(want, great(m.N()))) {
		t.Errorf("by %x %s%x: %x", m.N(), call, given, got)
	}
}

// P2.1

func TestNew(t *testing.T) {
	for _, n := range moduli() {
		if m := made(t, n); m.N() != n {
			t.Errorf("New(%x): %x", n, m.N())
		}
	}
}

func TestNewRefuses(t *testing.T) {
	for _, n := range []api.Num{
		{}, of(1), of(2), of(4), of(8), of(full - 1), power(64), power(381), less(greatest, 1),
		power(382), more(power(382), 1), more(power(382), 3), power(383), more(power(383), 1), top, less(top, 1),
	} {
		if m, e := New(n); m != nil || e != api.ErrArg {
			t.Errorf("New(%x): %v %d", n, m, e)
		}
	}
}

func TestBaseAndOrder(t *testing.T) {
	const p = "1a0111ea397fe69a4b1ba7b6434bacd764774b84f38512bf6730d2a0f6b0f6241eabfffeb153ffffb9feffffffffaaab"
	const r = "73eda753299d7d483339d80809a1d80553bda402fffe5bfeffffffff00000001"
	if words.Text(Base()) != p || words.Text(Order()) != r {
		t.Error(words.Text(Base()), words.Text(Order()))
	}
}

// What New works out once is what the products are reduced by.
func TestWhatAModulusNeeds(t *testing.T) {
	for _, n := range moduli() {
		m := made(t, n)
		if m.wrap*n[0] != full {
			t.Errorf("by %x: wrap %x", n, m.wrap)
		}
		hold(t, "one", m, m.one, new(big.Int).Lsh(big.NewInt(1), 384))
		hold(t, "square", m, m.square, new(big.Int).Lsh(big.NewInt(1), 768))
	}
}

// P2.2

func TestReduce(t *testing.T) {
	each(t, func(m *Modulus, n *big.Int, a api.Num) {
		hold(t, "Reduce", m, m.Reduce(a), great(a), a)
	})
}

func TestWide(t *testing.T) {
	pairs(t, func(m *Modulus, n *big.Int, low, high api.Num) {
		want := new(big.Int).Lsh(great(high), 384)
		hold(t, "Wide", m, m.Wide(low, high), want.Add(want, great(low)), low, high)
	})
}

func TestAdd(t *testing.T) {
	pairs(t, func(m *Modulus, n *big.Int, a, b api.Num) {
		hold(t, "Add", m, m.Add(a, b), new(big.Int).Add(great(a), great(b)), a, b)
	})
}

func TestSub(t *testing.T) {
	pairs(t, func(m *Modulus, n *big.Int, a, b api.Num) {
		hold(t, "Sub", m, m.Sub(a, b), new(big.Int).Sub(great(a), great(b)), a, b)
	})
}

func TestNeg(t *testing.T) {
	each(t, func(m *Modulus, n *big.Int, a api.Num) {
		hold(t, "Neg", m, m.Neg(a), new(big.Int).Neg(great(a)), a)
	})
}

func TestMul(t *testing.T) {
	pairs(t, func(m *Modulus, n *big.Int, a, b api.Num) {
		hold(t, "Mul", m, m.Mul(a, b), new(big.Int).Mul(great(a), great(b)), a, b)
	})
}

func TestPow(t *testing.T) {
	for _, n := range moduli() {
		m := made(t, n)
		exponents := []api.Num{{}, of(1), of(2), of(3), of(full), power(64), power(383), top, n, less(n, 1), {1, 0, 1, 0, 1 << 63, 5}}
		for _, a := range samples(n) {
			for _, e := range exponents {
				hold(t, "Pow", m, m.Pow(a, e), new(big.Int).Exp(great(a), great(e), great(n)), a, e)
			}
		}
	}
}

func TestPowOfNoughtAndToThePowerNought(t *testing.T) {
	each(t, func(m *Modulus, n *big.Int, a api.Num) {
		if got := m.Pow(a, api.Num{}); got != of(1) {
			t.Errorf("by %x Pow(%x, 0): %x", n, a, got)
		}
	})
	m := made(t, of(7))
	if m.Pow(of(0), of(5)) != of(0) || m.Pow(of(7), top) != of(0) || m.Pow(of(7), of(0)) != of(1) {
		t.Error("powers of 0 by 7")
	}
}

// By a small modulus all of its numbers are told, with some above it.
func TestAllNumbersBySmallModuli(t *testing.T) {
	for n := uint64(3); n < 32; n += 2 {
		m := made(t, of(n))
		for a := range 3 * n {
			for b := range 3 * n {
				if m.Add(of(a), of(b)) != of((a+b)%n) || m.Mul(of(a), of(b)) != of(a*b%n) || m.Sub(of(a), of(b)) != of((a+3*n-b)%n) {
					t.Error(n, a, b)
				}
			}
		}
	}
}

// P2.3

func TestInv(t *testing.T) {
	each(t, func(m *Modulus, n *big.Int, a api.Num) {
		got, e := m.Inv(a)
		want := new(big.Int).ModInverse(great(a), n)
		if want == nil {
			if got != (api.Num{}) || e != api.ErrMissing {
				t.Errorf("by %x Inv(%x): %x %d", n, a, got, e)
			}
			return
		}
		if got != small(t, want) || e != api.OK {
			t.Errorf("by %x Inv(%x): %x %d", n, a, got, e)
		}
	})
}

func TestInvOfAllNumbersBySmallModuli(t *testing.T) {
	for n := uint64(3); n < 200; n += 2 {
		m := made(t, of(n))
		for a := range 2*n + 1 {
			want := new(big.Int).ModInverse(new(big.Int).SetUint64(a), new(big.Int).SetUint64(n))
			got, e := m.Inv(of(a))
			if want == nil && (got != of(0) || e != api.ErrMissing) || want != nil && (got != of(want.Uint64()) || e != api.OK) {
				t.Errorf("by %d Inv(%d): %x %d", n, a, got, e)
			}
		}
	}
}

// Divisors in common: small ones, great ones, and n itself.
func TestInvIsMissing(t *testing.T) {
	great := more(power(190), 1)
	n, _ := words.Mul(great, more(power(191), 3))
	m := made(t, n)
	twice := words.Shift(n, 1)
	for _, a := range []api.Num{{}, n, twice, great, words.Shift(great, 7), more(power(191), 3), m.Neg(great)} {
		if got, e := m.Inv(a); got != (api.Num{}) || e != api.ErrMissing {
			t.Errorf("Inv(%x): %x %d", a, got, e)
		}
	}
}

// Powers of 2 are halved all at once, and most of them more than 384 times.
func TestInvOfPowersOfTwo(t *testing.T) {
	for _, n := range []api.Num{of(3), of(full), Base(), Order(), greatest, more(power(381), 1)} {
		m := made(t, n)
		for i := range 384 {
			got, e := m.Inv(power(i))
			if want := new(big.Int).ModInverse(great(power(i)), great(n)); e != api.OK || got != small(t, want) {
				t.Errorf("by %x Inv(2^%d): %x %d", n, i, got, e)
			}
		}
	}
}

func TestRoot(t *testing.T) {
	each(t, func(m *Modulus, n *big.Int, a api.Num) {
		got, e := m.Root(a)
		want, f := rootBy(t, n, a)
		if got != want || e != f {
			t.Errorf("by %x Root(%x): %x %d, not %x %d", n, a, got, e, want, f)
		}
	})
}

// rootBy tells a root as the chapter says it, by math/big.
func rootBy(t *testing.T, n *big.Int, a api.Num) (api.Num, api.Errno) {
	t.Helper()
	if n.Bit(1) == 0 {
		return api.Num{}, api.ErrArg
	}
	e := new(big.Int).Add(n, big.NewInt(1))
	c := new(big.Int).Exp(great(a), e.Rsh(e, 2), n)
	square := new(big.Int).Mul(c, c)
	if square.Mod(square, n).Cmp(new(big.Int).Mod(great(a), n)) != 0 {
		return api.Num{}, api.ErrMissing
	}
	other := new(big.Int).Neg(c)
	if other.Mod(other, n).Cmp(c) < 0 {
		c = other
	}
	return small(t, c), api.OK
}

func TestRootOfSquares(t *testing.T) {
	for _, n := range []api.Num{of(3), of(7), of(11), of(1<<61 - 1), Base()} {
		m := made(t, n)
		for _, a := range samples(n) {
			want := m.Reduce(a)
			if other := m.Neg(a); words.Compare(other, want) < 0 {
				want = other
			}
			if got, e := m.Root(m.Mul(a, a)); got != want || e != api.OK {
				t.Errorf("by %x the root of %x squared: %x %d", n, a, got, e)
			}
		}
	}
}

func TestRootOfNoughtAndOfMultiples(t *testing.T) {
	for _, n := range []api.Num{of(7), of(15), Base(), greatest} {
		m := made(t, n)
		for _, a := range []api.Num{{}, n, words.Shift(n, 1)} {
			if got, e := m.Root(a); got != (api.Num{}) || e != api.OK {
				t.Errorf("by %x Root(%x): %x %d", n, a, got, e)
			}
		}
	}
}

// ErrArg comes of the modulus alone: it is told whatever the number is.
func TestRootRefuses(t *testing.T) {
	for _, n := range []api.Num{of(5), of(9), of(13), of(21), of(65537), Order(), more(power(64), 1)} {
		m := made(t, n)
		for _, a := range []api.Num{{}, of(1), of(4), less(n, 1), n, top} {
			if got, e := m.Root(a); got != (api.Num{}) || e != api.ErrArg {
				t.Errorf("by %x Root(%x): %x %d", n, a, got, e)
			}
		}
	}
}

// DOC.md, rule 5

func TestNoModulus(t *testing.T) {
	for _, m := range []*Modulus{nil, {}, new(Modulus)} {
		for _, a := range []api.Num{{}, of(1), of(7), top} {
			for _, got := range []api.Num{m.N(), m.Reduce(a), m.Wide(a, a), m.Add(a, a), m.Sub(a, of(2)), m.Neg(a), m.Mul(a, a), m.Pow(a, a), m.Pow(a, api.Num{})} {
				if got != (api.Num{}) {
					t.Errorf("of no modulus: %x", got)
				}
			}
			if got, e := m.Inv(a); got != (api.Num{}) || e != api.ErrNil {
				t.Error("Inv", got, e)
			}
			if got, e := m.Root(a); got != (api.Num{}) || e != api.ErrNil {
				t.Error("Root", got, e)
			}
		}
	}
}

func TestModuliNeverChange(t *testing.T) {
	m := made(t, Base())
	ahead := *m
	for _, a := range samples(Base()) {
		m.Reduce(a)
		m.Wide(a, a)
		m.Pow(m.Mul(a, m.Add(a, a)), m.Neg(m.Sub(a, top)))
		m.Inv(a)
		m.Root(a)
	}
	if *m != ahead {
		t.Error("a modulus changed")
	}
	// A caller's own number, and another modulus, are apart from it.
	n := of(7)
	seven := made(t, n)
	n[0] = 9
	nine := made(t, n)
	if seven.N() != of(7) || nine.N() != of(9) || seven.Mul(of(4), of(5)) != of(6) || nine.Mul(of(4), of(5)) != of(2) {
		t.Error("two moduli share something")
	}
}

// P2.4

func TestRing(t *testing.T) {
	for _, n := range moduli() {
		m, l := made(t, n), samples(n)
		for i, a := range l {
			b, c := l[(i*7+3)%len(l)], l[(i*11+5)%len(l)]
			if m.Add(a, b) != m.Add(b, a) || m.Mul(a, b) != m.Mul(b, a) {
				t.Errorf("by %x: %x and %x turned about", n, a, b)
			}
			if m.Add(m.Add(a, b), c) != m.Add(a, m.Add(b, c)) || m.Mul(m.Mul(a, b), c) != m.Mul(a, m.Mul(b, c)) {
				t.Errorf("by %x: %x, %x, %x in brackets", n, a, b, c)
			}
			if m.Mul(a, m.Add(b, c)) != m.Add(m.Mul(a, b), m.Mul(a, c)) {
				t.Errorf("by %x: %x over %x and %x", n, a, b, c)
			}
			if m.Add(a, m.Neg(a)) != (api.Num{}) || m.Sub(m.Add(a, b), b) != m.Reduce(a) || m.Mul(a, of(1)) != m.Reduce(a) {
				t.Errorf("by %x: %x and %x back", n, a, b)
			}
		}
	}
}

func TestPrimes(t *testing.T) {
	for _, n := range []api.Num{of(3), of(5), of(7), of(13), of(65537), of(1<<61 - 1), Base(), Order()} {
		m := made(t, n)
		for _, a := range samples(n) {
			if m.Reduce(a) == (api.Num{}) {
				continue
			}
			if x, e := m.Inv(a); e != api.OK || m.Mul(x, a) != of(1) {
				t.Errorf("by %x Inv(%x): %x %d", n, a, x, e)
			}
			if m.Pow(a, less(n, 1)) != of(1) {
				t.Errorf("by %x: %x to the power n - 1", n, a)
			}
			_, e := m.Root(a)
			_, f := m.Root(m.Neg(a))
			one := e == api.OK && f == api.ErrMissing || e == api.ErrMissing && f == api.OK
			if n[0]%4 == 3 && !one {
				t.Errorf("by %x the roots of %x and of its negative: %d %d", n, a, e, f)
			}
		}
	}
}

// The chapter's examples

func TestExamples(t *testing.T) {
	m := made(t, of(7))
	if m.Add(of(5), of(6)) != of(4) || m.Sub(of(2), of(5)) != of(4) || m.Mul(of(4), of(5)) != of(6) || m.Pow(of(3), of(6)) != of(1) || m.Neg(of(0)) != of(0) {
		t.Error("by 7")
	}
	if m.Wide(of(0), of(1)) != of(1) {
		t.Error("New(7): Wide(0, 1)")
	}
	nine, thirteen := made(t, of(9)), made(t, of(13))
	for i, x := range []struct {
		call func(api.Num) (api.Num, api.Errno)
		a    uint64
		want uint64
		e    api.Errno
	}{
		{m.Inv, 3, 5, api.OK}, {m.Inv, 7, 0, api.ErrMissing}, {m.Root, 2, 3, api.OK}, {m.Root, 3, 0, api.ErrMissing},
		{nine.Inv, 3, 0, api.ErrMissing}, {nine.Inv, 2, 5, api.OK}, {thirteen.Root, 4, 0, api.ErrArg},
	} {
		if got, e := x.call(of(x.a)); got != of(x.want) || e != x.e {
			t.Error(i, got, e)
		}
	}
	for _, n := range []api.Num{of(8), of(1), more(power(382), 1)} {
		if m, e := New(n); m != nil || e != api.ErrArg {
			t.Errorf("New(%x): %v %d", n, m, e)
		}
	}
}
