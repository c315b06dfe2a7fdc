package tower

import (
	"math"
	"math/big"
	"testing"

	"reliquary/api"
	"reliquary/modulus"
	"reliquary/words"
)

// The tests hold the package against polynomials of math/big, which know of no
// two parts: i is w^6 - 1, so that w^12 is 2 w^6 - 2, and an element of twelve
// parts is a sum of twelve powers of w, each times a number.

var base = great().by.N()

var prime = bigOf(base)

const full = math.MaxUint64

var top = api.Num{full, full, full, full, full, full}

func bigOf(a api.Num) *big.Int { return new(big.Int).SetBytes(words.Bytes(a)) }

func num(t *testing.T, n *big.Int) api.Num {
	t.Helper()
	a, e := words.Read(new(big.Int).Mod(n, prime).Bytes())
	if e != api.OK {
		t.Fatal(n, e)
	}
	return a
}

func of(n uint64) api.Num { return words.Of(n) }

func two(a, b uint64) api.E2 { return api.E2{of(a), of(b)} }

// up tells p, n times, with a small number added or (below 0) taken.
func up(n uint64, more int) api.Num {
	a, _ := words.Mul(base, of(n))
	if more < 0 {
		a, _ = words.Sub(a, of(uint64(-more)))
		return a
	}
	a, _ = words.Add(a, of(uint64(more)))
	return a
}

// random draws numbers by a fixed rule; half of them are edges.
type random uint64

func (r *random) word() uint64 {
	*r ^= *r << 13
	*r ^= *r >> 7
	*r ^= *r << 17
	return uint64(*r) * 0x9e3779b97f4a7c15
}

func (r *random) num() api.Num {
	edges := []api.Num{{}, of(1), of(2), up(1, -1), up(1, -2), up(1, 0), up(1, 1), up(2, -1), up(2, 0), up(9, -1), up(9, 0), up(9, 1), top, {full}, {0, 0, 0, 0, 0, 1 << 63}}
	n := r.word() >> 8
	if n%2 == 0 {
		return edges[n/2%uint64(len(edges))]
	}
	var a api.Num
	for i := range a {
		a[i] = r.word()
	}
	return a
}

func (r *random) two() api.E2 { return api.E2{r.num(), r.num()} }

func (r *random) twelve() api.E12 {
	var a api.E12
	for k := range a {
		a[k] = r.two()
	}
	return a
}

// sparse draws an element of which most parts are 0 or p - 1, at which the sums
// of products come to their bounds.
func (r *random) sparse() api.E12 {
	var a api.E12
	for k := range a {
		for j := range a[k] {
			if r.word()>>40%3 > 0 {
				a[k][j] = up(1, -1)
			}
		}
	}
	return a
}

// poly is a sum of powers of w.
type poly [12]*big.Int

func polyOf(a api.E12) poly {
	p := zeroPoly()
	for k := range a {
		x, y := bigOf(a[k][0]), bigOf(a[k][1])
		p[k].Add(p[k], x).Sub(p[k], y)
		p[k+6].Add(p[k+6], y)
	}
	return p
}

func zeroPoly() poly {
	var p poly
	for i := range p {
		p[i] = new(big.Int)
	}
	return p
}

func (p poly) twelve(t *testing.T) api.E12 {
	t.Helper()
	var a api.E12
	for k := range a {
		a[k] = api.E2{num(t, new(big.Int).Add(p[k], p[k+6])), num(t, p[k+6])}
	}
	return a
}

func (p poly) plus(q poly, sign int64) poly {
	s := zeroPoly()
	for i := range s {
		s[i].Mul(q[i], big.NewInt(sign)).Add(s[i], p[i])
	}
	return s
}

func (p poly) times(q poly) poly {
	var long [24]*big.Int
	for i := range long {
		long[i] = new(big.Int)
	}
	for i := range p {
		for j := range q {
			long[i+j].Add(long[i+j], new(big.Int).Mul(p[i], q[j]))
		}
	}
	for i := 23; i >= 12; i-- {
		twice := new(big.Int).Lsh(long[i], 1)
		long[i-6].Add(long[i-6], twice)
		long[i-12].Sub(long[i-12], twice)
	}
	s := zeroPoly()
	for i := range s {
		s[i].Mod(long[i], prime)
	}
	return s
}

func (p poly) power(e *big.Int) poly {
	s := polyOf(api.E12{two(1, 0)})
	for i := e.BitLen() - 1; i >= 0; i-- {
		s = s.times(s)
		if e.Bit(i) == 1 {
			s = s.times(p)
		}
	}
	return s
}

// lift tells two parts as twelve.
func lift(a api.E2) api.E12 { return api.E12{a} }

func each2(do func(a api.E2)) {
	r := random(3)
	for range 400 {
		do(r.two())
	}
}

func pairs2(do func(a, b api.E2)) {
	r := random(5)
	for range 1500 {
		do(r.two(), r.two())
	}
}

func pairs12(do func(a, b api.E12)) {
	r := random(7)
	for range 150 {
		do(r.twelve(), r.twelve())
		do(r.sparse(), r.sparse())
	}
	do(api.E12{}, r.twelve())
	do(One(), r.twelve())
}

func hold2(t *testing.T, call string, got api.E2, want poly, given ...api.E2) {
	t.Helper()
	if lift(got) != want.twelve(t) {
		t.Errorf("%s%x: %x", call, given, got)
	}
}

func hold(t *testing.T, call string, got api.E12, want poly, given ...api.E12) {
	t.Helper()
	if got != want.twelve(t) {
		t.Errorf("%s%x: %x", call, given, got)
	}
}

// P3.1

func TestSumsOfTwo(t *testing.T) {
	pairs2(func(a, b api.E2) {
		x, y := polyOf(lift(a)), polyOf(lift(b))
		hold2(t, "Add2", Add2(a, b), x.plus(y, 1), a, b)
		hold2(t, "Sub2", Sub2(a, b), x.plus(y, -1), a, b)
		hold2(t, "Neg2", Neg2(a), zeroPoly().plus(x, -1), a)
		hold2(t, "Sub2", Sub2(a, a), zeroPoly(), a)
	})
}

func TestProductsOfTwo(t *testing.T) {
	pairs2(func(a, b api.E2) {
		hold2(t, "Mul2", Mul2(a, b), polyOf(lift(a)).times(polyOf(lift(b))), a, b)
		hold2(t, "Mul2", Mul2(a, a), polyOf(lift(a)).times(polyOf(lift(a))), a)
	})
}

func TestConj2(t *testing.T) {
	each2(func(a api.E2) {
		got := Conj2(a)
		if got[0] != num(t, bigOf(a[0])) || got[1] != num(t, new(big.Int).Neg(bigOf(a[1]))) {
			t.Errorf("Conj2(%x): %x", a, got)
		}
	})
}

// noughts tells elements that are 0, as p goes into their numbers.
func noughts() []api.E2 {
	return []api.E2{{}, {up(1, 0)}, {{}, up(1, 0)}, {up(9, 0), up(1, 0)}, {up(2, 0), up(9, 0)}}
}

func isNought(a api.E2) bool { return Add2(a, api.E2{}) == api.E2{} }

func TestInv2(t *testing.T) {
	each2(func(a api.E2) {
		got, e := Inv2(a)
		if isNought(a) {
			if got != (api.E2{}) || e != api.ErrMissing {
				t.Errorf("Inv2(%x): %x %d", a, got, e)
			}
			return
		}
		if e != api.OK || Mul2(a, got) != two(1, 0) || !Whole(lift(got)) {
			t.Errorf("Inv2(%x): %x %d", a, got, e)
		}
	})
	for _, a := range noughts() {
		if got, e := Inv2(a); got != (api.E2{}) || e != api.ErrMissing {
			t.Errorf("Inv2(%x): %x %d", a, got, e)
		}
	}
}

// isSquare asks by the power (p^2 - 1) / 2, which is 1 of squares alone.
func isSquare(t *testing.T, a api.E2) bool {
	t.Helper()
	e := new(big.Int).Mul(prime, prime)
	e.Sub(e, big.NewInt(1)).Rsh(e, 1)
	return polyOf(lift(a)).power(e).twelve(t) == One()
}

// holdRoot fails if a root is not one, or not the one that is asked for.
func holdRoot(t *testing.T, a, root api.E2, e api.Errno) {
	t.Helper()
	other := Neg2(root)
	order := words.Compare(root[1], other[1])
	if order == 0 {
		order = words.Compare(root[0], other[0])
	}
	if e != api.OK || order > 0 || Mul2(root, root) != Add2(a, api.E2{}) || !Whole(lift(root)) {
		t.Errorf("Root2(%x): %x %d", a, root, e)
	}
}

func TestRoot2OfSquares(t *testing.T) {
	each2(func(a api.E2) {
		square := Mul2(a, a)
		root, e := Root2(square)
		holdRoot(t, square, root, e)
		if root != Add2(a, api.E2{}) && root != Neg2(a) {
			t.Errorf("Root2 of %x squared: %x", a, root)
		}
	})
}

// A number has a root, if not in the great field then i times one of it; so has
// i times a number, if its half has.
func TestRoot2OfOnePart(t *testing.T) {
	r := random(11)
	for range 60 {
		n := r.num()
		root, e := Root2(api.E2{n})
		holdRoot(t, api.E2{n}, root, e)
		if root[0] != (api.Num{}) && root[1] != (api.Num{}) {
			t.Errorf("Root2(%x): %x", n, root)
		}
		square := Mul2(api.E2{n, n}, api.E2{n, n})
		root, e = Root2(square)
		holdRoot(t, square, root, e)
	}
}

func TestRoot2IsMissing(t *testing.T) {
	r := random(13)
	squares := 0
	for range 40 {
		a := r.two()
		root, e := Root2(a)
		if isNought(a) || isSquare(t, a) {
			squares++
			holdRoot(t, a, root, e)
		} else if root != (api.E2{}) || e != api.ErrMissing {
			t.Errorf("Root2(%x): %x %d", a, root, e)
		}
		// 1 + i is none, so that of an element and it times 1 + i just one is.
		_, f := Root2(Mul2(a, two(1, 1)))
		if !isNought(a) && (e == api.OK) == (f == api.OK) {
			t.Errorf("Root2(%x) and of it times 1 + i: %d %d", a, e, f)
		}
	}
	if squares == 0 || squares == 40 {
		t.Error(squares)
	}
}

func TestRoot2OfNought(t *testing.T) {
	for _, a := range noughts() {
		if root, e := Root2(a); root != (api.E2{}) || e != api.OK {
			t.Errorf("Root2(%x): %x %d", a, root, e)
		}
	}
}

// P3.2

func TestOne(t *testing.T) {
	if One() != (api.E12{{{1}}}) {
		t.Error(One())
	}
}

func TestSumsOfTwelve(t *testing.T) {
	pairs12(func(a, b api.E12) {
		x, y := polyOf(a), polyOf(b)
		hold(t, "Add", Add(a, b), x.plus(y, 1), a, b)
		hold(t, "Sub", Sub(a, b), x.plus(y, -1), a, b)
	})
}

func TestProductsOfTwelve(t *testing.T) {
	pairs12(func(a, b api.E12) {
		hold(t, "Mul", Mul(a, b), polyOf(a).times(polyOf(b)), a, b)
	})
}

// Of these the sums of products are the least and the greatest that there are.
func TestProductsOfTwelveAtTheirBounds(t *testing.T) {
	m := up(1, -1)
	all, first, second := api.E2{m, m}, api.E2{m}, api.E2{{}, m}
	parts := []api.E2{all, first, second}
	for _, x := range parts {
		for _, y := range parts {
			for _, z := range parts {
				a, b := api.E12{second, x, x, x, x, x}, api.E12{second, y, y, y, y, y}
				hold(t, "Mul", Mul(a, b), polyOf(a).times(polyOf(b)), a, b)
				a[0], b[0] = z, y
				hold(t, "Mul", Mul(a, b), polyOf(a).times(polyOf(b)), a, b)
			}
		}
	}
}

func TestProductsOfPowers(t *testing.T) {
	for i := range 6 {
		for j := range 6 {
			var a, b api.E12
			a[i], b[j] = two(3, 5), two(7, 11)
			hold(t, "Mul", Mul(a, b), polyOf(a).times(polyOf(b)), a, b)
		}
	}
}

func TestConj(t *testing.T) {
	pairs12(func(a, _ api.E12) {
		got := Conj(a)
		for k := range a {
			want := Add2(a[k], api.E2{})
			if k%2 == 1 {
				want = Neg2(a[k])
			}
			if got[k] != want {
				t.Errorf("Conj(%x): %x", a, got)
			}
		}
	})
}

func TestInv(t *testing.T) {
	r := random(17)
	elements := []api.E12{One(), Sub(api.E12{}, One())}
	for range 60 {
		elements = append(elements, r.twelve(), r.sparse())
	}
	for k := range 6 {
		var a api.E12
		a[k] = r.two()
		elements = append(elements, a)
		a[k] = two(0, 1)
		elements = append(elements, a)
	}
	for _, a := range elements {
		got, e := Inv(a)
		if leftAll(a) == (api.E12{}) {
			if got != (api.E12{}) || e != api.ErrMissing {
				t.Errorf("Inv(%x): %x %d", a, got, e)
			}
		} else if e != api.OK || Mul(a, got) != One() || Mul(got, a) != One() || !Whole(got) {
			t.Errorf("Inv(%x): %x %d", a, got, e)
		}
	}
}

func TestInvIsMissing(t *testing.T) {
	for _, x := range noughts() {
		for _, y := range noughts() {
			if got, e := Inv(api.E12{x, y, x, y, y, x}); got != (api.E12{}) || e != api.ErrMissing {
				t.Errorf("Inv of noughts: %x %d", got, e)
			}
		}
	}
}

func TestPow(t *testing.T) {
	r := random(19)
	exponents := []api.Num{{}, of(1), of(2), of(3), of(6), of(12), of(full), {0, 1}, {1, 0, 0, 5}}
	for range 6 {
		a := r.twelve()
		for _, e := range exponents {
			hold(t, "Pow", Pow(a, e), polyOf(a).power(bigOf(e)), a)
		}
	}
	a := r.twelve()
	for _, e := range []api.Num{top, base, modulus.Order(), {0, 0, 0, 0, 0, 1 << 63}} {
		hold(t, "Pow", Pow(a, e), polyOf(a).power(bigOf(e)), a)
	}
}

func TestPowOfNoughtAndToThePowerNought(t *testing.T) {
	nought := api.E12{noughts()[3]}
	for _, a := range []api.E12{{}, nought} {
		if Pow(a, api.Num{}) != One() || Pow(a, of(1)) != (api.E12{}) || Pow(a, top) != (api.E12{}) {
			t.Errorf("powers of %x", a)
		}
	}
}

func TestFrobIsThePowerOfP(t *testing.T) {
	r := random(23)
	for n := range 4 {
		a := r.twelve()
		e := new(big.Int).Exp(prime, big.NewInt(int64(n)), nil)
		hold(t, "Frob", Frob(a, n), polyOf(a).power(e), a)
	}
	a := r.sparse()
	hold(t, "Frob", Frob(a, 1), polyOf(a).power(prime), a)
}

func TestFrobManyTimes(t *testing.T) {
	r := random(29)
	for range 5 {
		a := r.twelve()
		turned := leftAll(a)
		for n := range 30 {
			if got := Frob(a, n); got != turned {
				t.Errorf("Frob(%x, %d): %x", a, n, got)
			}
			for _, m := range []int{n - 12, n - 24, n - 48, n + 12<<40, n - 12<<40} {
				if Frob(a, m) != turned {
					t.Errorf("Frob(%x, %d) is not Frob by %d", a, m, n)
				}
			}
			turned = Frob(turned, 1)
		}
	}
}

// By 12 the least int, -2^63, leaves 4, and the greatest one 7.
func TestFrobAtTheBoundsOfAnInt(t *testing.T) {
	r := random(31)
	a := r.twelve()
	if Frob(a, math.MinInt64) != Frob(a, 4) || Frob(a, math.MaxInt64) != Frob(a, 7) {
		t.Error("Frob by the least and the greatest int")
	}
}

func TestWhole(t *testing.T) {
	m := api.E2{up(1, -1), up(1, -1)}
	most := api.E12{m, m, m, m, m, m}
	if !Whole(most) || !Whole(api.E12{}) || !Whole(One()) {
		t.Error("Whole of numbers below p")
	}
	for k := range most {
		for j := range most[k] {
			for _, n := range []api.Num{up(1, 0), up(1, 1), up(9, 0), top} {
				a, b := most, api.E12{}
				a[k][j], b[k][j] = n, n
				if Whole(a) || Whole(b) {
					t.Errorf("Whole with %x at %d %d", n, k, j)
				}
			}
		}
	}
}

// P3.3

func TestFieldOfTwo(t *testing.T) {
	r := random(37)
	for range 300 {
		a, b, c := r.two(), r.two(), r.two()
		if Add2(a, b) != Add2(b, a) || Mul2(a, b) != Mul2(b, a) {
			t.Errorf("turned about: %x %x", a, b)
		}
		if Add2(a, Add2(b, c)) != Add2(Add2(a, b), c) || Mul2(a, Mul2(b, c)) != Mul2(Mul2(a, b), c) {
			t.Errorf("other brackets: %x %x %x", a, b, c)
		}
		if Mul2(a, Add2(b, c)) != Add2(Mul2(a, b), Mul2(a, c)) {
			t.Errorf("sums times: %x %x %x", a, b, c)
		}
		if Conj2(Add2(a, b)) != Add2(Conj2(a), Conj2(b)) || Conj2(Mul2(a, b)) != Mul2(Conj2(a), Conj2(b)) {
			t.Errorf("conjugates: %x %x", a, b)
		}
	}
}

func TestFieldOfTwelve(t *testing.T) {
	r := random(41)
	for i := range 60 {
		a, b, c := r.twelve(), r.twelve(), r.sparse()
		if Add(a, b) != Add(b, a) || Mul(a, b) != Mul(b, a) {
			t.Errorf("turned about: %x %x", a, b)
		}
		if Add(a, Add(b, c)) != Add(Add(a, b), c) || Mul(a, Mul(b, c)) != Mul(Mul(a, b), c) {
			t.Errorf("other brackets: %x %x %x", a, b, c)
		}
		if Mul(a, Add(b, c)) != Add(Mul(a, b), Mul(a, c)) {
			t.Errorf("sums times: %x %x %x", a, b, c)
		}
		n := i - 30
		if Frob(Add(a, b), n) != Add(Frob(a, n), Frob(b, n)) || Frob(Mul(a, b), n) != Mul(Frob(a, n), Frob(b, n)) {
			t.Errorf("turned %d times: %x %x", n, a, b)
		}
		if Conj(a) != Frob(a, 6) {
			t.Errorf("Conj and Frob by 6: %x", a)
		}
	}
}

func TestExamples(t *testing.T) {
	i, one := two(0, 1), two(1, 0)
	if Mul2(i, i) != Neg2(one) {
		t.Error("Mul2(i, i)")
	}
	if got, e := Inv2(i); got != Neg2(i) || e != api.OK {
		t.Error("Inv2(i)", got, e)
	}
	if got, e := Inv2(api.E2{}); got != (api.E2{}) || e != api.ErrMissing {
		t.Error("Inv2(0)", got, e)
	}
	if Mul2(two(1, 1), Sub2(one, i)) != two(2, 0) || Conj2(two(1, 1)) != Sub2(one, i) {
		t.Error("1 + i and 1 - i")
	}
	for _, x := range []struct {
		a, root api.E2
		e       api.Errno
	}{{Neg2(one), i, api.OK}, {two(4, 0), two(2, 0), api.OK}, {two(1, 1), api.E2{}, api.ErrMissing}} {
		if root, e := Root2(x.a); root != x.root || e != x.e {
			t.Errorf("Root2(%x): %x %d", x.a, root, e)
		}
	}
	w := api.E12{{}, one}
	if Pow(w, of(6)) != lift(two(1, 1)) {
		t.Error("w to the power 6")
	}
	if Frob(One(), 5) != One() || Frob(w, 12) != w || Conj(w) != Sub(api.E12{}, w) {
		t.Error("turned")
	}
}
