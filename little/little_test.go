package little

import (
	"bytes"
	"math"
	"math/big"
	"slices"
	"testing"

	"reliquary/api"
)

const full = math.MaxUint64

var zero = api.L1{Zero: true}

var one = api.L2{1}

func draw(state *uint64) uint64 {
	*state ^= *state << 13
	*state ^= *state >> 7
	*state ^= *state << 17
	return *state * 0x9e3779b97f4a7c15
}

func drawTwo(state *uint64) api.L2 { return api.L2{draw(state), draw(state)} }

// good tells what a call answers that must not be refused.
func good[T any](t *testing.T) func(x T, e api.Errno) T {
	return func(x T, e api.Errno) T {
		t.Helper()
		if e != api.OK {
			t.Fatal(e)
		}
		return x
	}
}

func eachSuite(t *testing.T, do func(t *testing.T, s api.Suite, by table)) {
	t.Helper()
	for name, s := range map[string]api.Suite{"Little": api.Little, "Middle": api.Middle} {
		t.Run(name, func(t *testing.T) { do(t, s, tables()[s]) })
	}
}

// samples tells points of the curve: of the group, of small orders, of neither.
func samples(t *testing.T, s api.Suite) []api.L1 {
	t.Helper()
	by, state := tables()[s], uint64(3)
	l := []api.L1{zero, {}, by.gen}
	for _, n := range []uint64{2, 3, by.r.Uint64() - 1, draw(&state)} {
		l = append(l, by.multiple(spotOf(by.gen), whole(n)).point())
	}
	for range 4 {
		p, _ := by.near(draw(&state))
		l = append(l, p, by.multiple(spotOf(p), by.r).point(), by.multiple(spotOf(p), by.c).point())
	}
	for _, p := range l {
		if !by.onCurve(p) {
			t.Fatal(p)
		}
	}
	return l
}

// insiders tells those of the samples that are of the group.
func insiders(t *testing.T, s api.Suite) []api.L1 {
	t.Helper()
	by := tables()[s]
	return slices.DeleteFunc(samples(t, s), func(p api.L1) bool {
		return by.multiple(spotOf(p), by.r) != nil
	})
}

// outsiders tells what is no point of the curve.
func outsiders(s api.Suite) []api.L1 {
	by := tables()[s]
	p, g := by.p.Uint64(), by.gen
	return []api.L1{
		{X: 1, Y: 1}, {X: g.Y, Y: g.X}, {X: g.X, Y: g.Y + 1}, {X: g.X ^ 1, Y: g.Y},
		{X: g.X + p, Y: g.Y}, {X: g.X, Y: g.Y + p}, {X: p}, {Y: p}, {X: p, Y: p}, {X: full, Y: full}, {Y: 1},
		{X: g.X, Y: g.Y, Zero: true}, {X: 1, Zero: true}, {Y: 1, Zero: true}, {X: p, Y: p, Zero: true},
	}
}

func strangeSuites() []api.Suite {
	return []api.Suite{api.Great, 3, -1, math.MaxInt, math.MinInt, 257}
}

// P7.1

func TestWhatASuiteIs(t *testing.T) {
	eachSuite(t, func(t *testing.T, s api.Suite, by table) {
		if p, e := Prime(s); p != by.p.Uint64() || e != api.OK {
			t.Error(p, e)
		}
		if r, e := Order(s); r != by.r.Uint64() || e != api.OK {
			t.Error(r, e)
		}
		if g, e := Gen(s); g != by.gen || e != api.OK {
			t.Error(g, e)
		}
		k, _ := kindOf(s)
		if k.rest != by.c.Uint64() || k.rest*k.order != k.prime+1 {
			t.Error(k.rest)
		}
	})
}

func TestStrangeSuites(t *testing.T) {
	g := tables()[api.Little].gen
	for _, s := range strangeSuites() {
		// The suite comes ahead of the points, and of the bytes.
		for _, p := range []api.L1{g, zero, {X: 1, Y: 1}} {
			for name, call := range map[string]func() (api.L1, api.Errno){
				"Gen":   func() (api.L1, api.Errno) { return Gen(s) },
				"Neg":   func() (api.L1, api.Errno) { return Neg(s, p) },
				"Add":   func() (api.L1, api.Errno) { return Add(s, p, p) },
				"Mul":   func() (api.L1, api.Errno) { return Mul(s, p, 2) },
				"Clear": func() (api.L1, api.Errno) { return Clear(s, p) },
				"Read":  func() (api.L1, api.Errno) { return Read(s, []byte{1}) },
				"Near": func() (api.L1, api.Errno) {
					q, k, e := Near(s, p.X)
					if k != 0 {
						t.Error("Near", s, k)
					}
					return q, e
				},
			} {
				if q, e := call(); q != (api.L1{}) || e != api.ErrArg {
					t.Error(name, s, q, e)
				}
			}
			if x, e := Pair(s, p, p); x != (api.L2{}) || e != api.ErrArg {
				t.Error("Pair", s, x, e)
			}
			if b, e := Bytes(s, p); b != nil || e != api.ErrArg {
				t.Error("Bytes", s, b, e)
			}
			if Check(s, p) || In(s, p) {
				t.Error("Check", s, p)
			}
		}
		if n, e := Prime(s); n != 0 || e != api.ErrArg {
			t.Error("Prime", s, n, e)
		}
		if n, e := Order(s); n != 0 || e != api.ErrArg {
			t.Error("Order", s, n, e)
		}
		if x, e := Times(s, api.L2{2, 3}, one); x != (api.L2{}) || e != api.ErrArg {
			t.Error("Times", s, x, e)
		}
		if x, e := Power(s, api.L2{2, 3}, 0); x != (api.L2{}) || e != api.ErrArg {
			t.Error("Power", s, x, e)
		}
	}
}

func TestOutsiders(t *testing.T) {
	eachSuite(t, func(t *testing.T, s api.Suite, by table) {
		for _, p := range outsiders(s) {
			for name, call := range map[string]func() (api.L1, api.Errno){
				"Neg":       func() (api.L1, api.Errno) { return Neg(s, p) },
				"Add, left": func() (api.L1, api.Errno) { return Add(s, p, zero) },
				"Add":       func() (api.L1, api.Errno) { return Add(s, by.gen, p) },
				"Add, both": func() (api.L1, api.Errno) { return Add(s, p, p) },
				"Mul":       func() (api.L1, api.Errno) { return Mul(s, p, 3) },
				"Mul by 0":  func() (api.L1, api.Errno) { return Mul(s, p, 0) },
				"Clear":     func() (api.L1, api.Errno) { return Clear(s, p) },
			} {
				if q, e := call(); q != (api.L1{}) || e != api.ErrPoint {
					t.Error(name, p, q, e)
				}
			}
			if Check(s, p) || In(s, p) {
				t.Error("Check", p)
			}
			if b, e := Bytes(s, p); b != nil || e != api.ErrPoint {
				t.Error("Bytes", p, b, e)
			}
			pairRefused(t, s, p, by.gen)
			pairRefused(t, s, zero, p)
			pairRefused(t, s, p, p)
		}
	})
}

func pairRefused(t *testing.T, s api.Suite, p, q api.L1) {
	t.Helper()
	for _, l := range [][2]api.L1{{p, q}, {q, p}} {
		if x, e := Pair(s, l[0], l[1]); x != (api.L2{}) || e != api.ErrPoint {
			t.Error("Pair", l, x, e)
		}
	}
}

func TestPairWantsTheGroup(t *testing.T) {
	eachSuite(t, func(t *testing.T, s api.Suite, by table) {
		inside, some := insiders(t, s), 0
		for _, p := range samples(t, s) {
			if slices.Contains(inside, p) {
				continue
			}
			some++
			pairRefused(t, s, p, by.gen)
			pairRefused(t, s, p, zero)
			pairRefused(t, s, p, p)
		}
		if some < 4 {
			t.Error("few points beside the group", some)
		}
	})
}

func TestCheckAndIn(t *testing.T) {
	eachSuite(t, func(t *testing.T, s api.Suite, by table) {
		inside := insiders(t, s)
		for _, p := range samples(t, s) {
			if !Check(s, p) || In(s, p) != slices.Contains(inside, p) {
				t.Error(p, Check(s, p), In(s, p))
			}
		}
		for _, other := range []api.Suite{api.Little, api.Middle} {
			if Check(other, by.gen) != (other == s) {
				t.Error(other)
			}
		}
	})
}

// All points of the little curve: which they are, and how many are of the group.
func TestAllPointsOfTheLittleCurve(t *testing.T) {
	k, _ := kindOf(api.Little)
	roots := make(map[uint64][]uint64, k.prime)
	for y := range k.prime {
		square := y * y % k.prime
		roots[square] = append(roots[square], y)
	}
	all, inside := uint64(1), uint64(1)
	for x := range k.prime {
		right := (x*x%k.prime*x + x) % k.prime
		for _, y := range roots[right] {
			p := api.L1{X: x, Y: y}
			if !Check(api.Little, p) || Check(api.Little, api.L1{X: x, Y: y ^ 1<<19}) {
				t.Fatal(p)
			}
			all++
			if In(api.Little, p) {
				inside++
			}
		}
	}
	if all != k.prime+1 || inside != k.order {
		t.Error(all, inside)
	}
}

// P7.2

func TestNeg(t *testing.T) {
	eachSuite(t, func(t *testing.T, s api.Suite, by table) {
		for _, p := range samples(t, s) {
			q, e := Neg(s, p)
			want := p
			if p.Y != 0 {
				want.Y = by.p.Uint64() - p.Y
			}
			if q != want || e != api.OK {
				t.Error(p, q, e)
			}
		}
	})
}

func TestAddIsBySlopes(t *testing.T) {
	eachSuite(t, func(t *testing.T, s api.Suite, by table) {
		l := samples(t, s)
		for _, p := range samples(t, s) {
			l = append(l, good[api.L1](t)(Neg(s, p)))
		}
		for _, p := range l {
			for _, q := range l {
				if got, e := Add(s, p, q); got != by.sum(spotOf(p), spotOf(q)).point() || e != api.OK {
					t.Error(p, q, got, e)
				}
			}
		}
	})
}

func TestMulIsAddingOften(t *testing.T) {
	eachSuite(t, func(t *testing.T, s api.Suite, by table) {
		state, r, c := uint64(5), by.r.Uint64(), by.c.Uint64()
		numbers := []uint64{
			0, 1, 2, 3, 4, 5, 6, 7, c, r - 2, r - 1, r, r + 1, c*r - 1, c * r, c*r + 1, 1 << 63, full - 1, full, draw(&state), draw(&state),
		}
		for _, p := range samples(t, s) {
			for _, n := range numbers {
				if got, e := Mul(s, p, n); got != by.multiple(spotOf(p), whole(n)).point() || e != api.OK {
					t.Error(p, n, got, e)
				}
			}
			sum := zero
			for n := range uint64(20) {
				if good[api.L1](t)(Mul(s, p, n)) != sum {
					t.Error(p, n)
				}
				sum = good[api.L1](t)(Add(s, sum, p))
			}
		}
	})
}

func TestNear(t *testing.T) {
	eachSuite(t, func(t *testing.T, s api.Suite, by table) {
		state, p := uint64(7), by.p.Uint64()
		numbers := []uint64{p - 3, p - 2, p - 1, p, p + 1, p + 2, 2*p - 1, 2 * p, 7*p - 1, full}
		for n := range uint64(300) {
			numbers = append(numbers, n, full-n, draw(&state), p-n)
		}
		for _, x := range numbers {
			want, far := by.near(x)
			if got, k, e := Near(s, x); got != want || k != far || e != api.OK {
				t.Error(x, got, k, e)
			}
		}
	})
}

// Past 2^64 the number goes on: it does not begin at 0 again.
func TestNearPastTheWord(t *testing.T) {
	past, p := 0, tables()[api.Middle].p
	for n := range uint64(40) {
		q, k, e := Near(api.Middle, full-n)
		if e != api.OK {
			t.Fatal(e)
		}
		on := new(big.Int).Add(whole(full-n), big.NewInt(int64(k)))
		if q.X != new(big.Int).Mod(on, p).Uint64() {
			t.Error(n, q, k)
		}
		if on.BitLen() > 64 {
			past++
		}
	}
	if past == 0 {
		t.Error("none of these goes past the word")
	}
}

func TestClear(t *testing.T) {
	eachSuite(t, func(t *testing.T, s api.Suite, by table) {
		for _, p := range samples(t, s) {
			if q, e := Clear(s, p); q != by.multiple(spotOf(p), by.c).point() || e != api.OK {
				t.Error(p, q, e)
			}
		}
	})
}

func twoParts(by table) []api.L2 {
	state, p := uint64(9), by.p.Uint64()
	return []api.L2{
		{}, one, {0, 1}, {p - 1, 0}, {p - 1, p - 1}, {1, p - 1}, {p, p}, {p, 0}, {p + 1, p}, {full, full}, {2*p + 3, full},
		drawTwo(&state), drawTwo(&state), drawTwo(&state),
	}
}

func (t table) two(a api.L2) two { return two{t.mod(whole(a[0])), t.mod(whole(a[1]))} }

func TestTimes(t *testing.T) {
	eachSuite(t, func(t *testing.T, s api.Suite, by table) {
		for _, a := range twoParts(by) {
			for _, b := range twoParts(by) {
				if got, e := Times(s, a, b); got != by.product(by.two(a), by.two(b)).parts() || e != api.OK {
					t.Error(a, b, got, e)
				}
			}
		}
	})
}

func TestPower(t *testing.T) {
	eachSuite(t, func(t *testing.T, s api.Suite, by table) {
		state, p := uint64(11), by.p.Uint64()
		for _, a := range twoParts(by) {
			for _, n := range []uint64{0, 1, 2, 3, 4, 7, p - 1, p, p + 1, 1 << 63, full, draw(&state)} {
				if got, e := Power(s, a, n); got != by.power(by.two(a), whole(n)).parts() || e != api.OK {
					t.Error(a, n, got, e)
				}
			}
		}
	})
}

func TestPairIsTheNumberOfTwoPoints(t *testing.T) {
	eachSuite(t, func(t *testing.T, s api.Suite, by table) {
		for _, p := range insiders(t, s) {
			for _, q := range insiders(t, s) {
				if got, e := Pair(s, p, q); got != by.pair(spotOf(p), spotOf(q)).parts() || e != api.OK {
					t.Error(p, q, got, e)
				}
			}
		}
	})
}

func TestPairWithTheZero(t *testing.T) {
	eachSuite(t, func(t *testing.T, s api.Suite, by table) {
		for _, l := range [][2]api.L1{{zero, by.gen}, {by.gen, zero}, {zero, zero}} {
			if got, e := Pair(s, l[0], l[1]); got != one || e != api.OK {
				t.Error(l, got, e)
			}
		}
	})
}

// P7.3

func TestBytes(t *testing.T) {
	for _, x := range []struct {
		s    api.Suite
		p    api.L1
		want []byte
	}{
		{api.Little, zero, []byte{0: 1, 16: 0}},
		{api.Middle, zero, []byte{0: 1, 16: 0}},
		{api.Little, api.L1{}, make([]byte, 17)},
		{api.Little, api.L1{X: 9723, Y: 164643}, []byte{7: 0x25, 8: 0xfb, 14: 2, 15: 0x83, 16: 0x23}},
		{api.Little, api.L1{X: 4, Y: 204503}, []byte{8: 4, 14: 3, 15: 0x1e, 16: 0xd7}},
	} {
		if b, e := Bytes(x.s, x.p); !bytes.Equal(b, x.want) || e != api.OK {
			t.Error(x.p, b, e)
		}
	}
	eachSuite(t, func(t *testing.T, s api.Suite, by table) {
		for _, p := range samples(t, s) {
			b := good[[]byte](t)(Bytes(s, p))
			var first byte
			if p.Zero {
				first = 1
			}
			x, y := new(big.Int).SetBytes(b[1:9]), new(big.Int).SetBytes(b[9:])
			if len(b) != 17 || b[0] != first || x.Uint64() != p.X || y.Uint64() != p.Y {
				t.Error(p, b)
			}
			clear(b[:cap(b)])
			if again := good[[]byte](t)(Bytes(s, p)); again[0] != first {
				t.Error("not new memory")
			}
		}
	})
}

func TestRead(t *testing.T) {
	eachSuite(t, func(t *testing.T, s api.Suite, by table) {
		inside := insiders(t, s)
		for _, p := range samples(t, s) {
			b := good[[]byte](t)(Bytes(s, p))
			kept := slices.Clone(b)
			want, error := p, api.OK
			if !slices.Contains(inside, p) {
				want, error = api.L1{}, api.ErrPoint
			}
			if got, e := Read(s, b); got != want || e != error {
				t.Error(p, got, e)
			}
			if !bytes.Equal(b, kept) {
				t.Error("changed")
			}
			readBroken(t, s, by, b)
		}
		for _, p := range outsiders(s) {
			notRead(t, s, rawBytes(p))
		}
	})
}

func rawBytes(p api.L1) []byte {
	b := make([]byte, 17)
	if p.Zero {
		b[0] = 1
	}
	whole(p.X).FillBytes(b[1:9])
	whole(p.Y).FillBytes(b[9:])
	return b
}

func notRead(t *testing.T, s api.Suite, b []byte) {
	t.Helper()
	if p, e := Read(s, b); p != (api.L1{}) || e != api.ErrBytes {
		t.Error(b, p, e)
	}
}

// readBroken reads bytes of other lengths, with another first byte, with a bit turned.
func readBroken(t *testing.T, s api.Suite, by table, b []byte) {
	t.Helper()
	notRead(t, s, nil)
	for n := range b {
		notRead(t, s, b[:n])
	}
	notRead(t, s, append(slices.Clone(b), 0))
	notRead(t, s, append([]byte{0}, b...))
	for first := 2; first < 256; first++ {
		other := slices.Clone(b)
		other[0] = byte(first)
		notRead(t, s, other)
	}
	for bit := range 8 * len(b) {
		other := slices.Clone(b)
		other[bit/8] ^= 1 << (bit % 8)
		p := api.L1{X: takeNumber(other[1:]), Y: takeNumber(other[9:]), Zero: other[0] == 1}
		if other[0] > 1 || !by.onCurve(p) {
			notRead(t, s, other)
		}
	}
}

// P7.4

func TestPointsAreAGroup(t *testing.T) {
	eachSuite(t, func(t *testing.T, s api.Suite, _ table) {
		add := func(p, q api.L1) api.L1 { return good[api.L1](t)(Add(s, p, q)) }
		l := samples(t, s)
		for _, p := range l {
			if add(p, zero) != p || add(p, good[api.L1](t)(Neg(s, p))) != zero {
				t.Error(p)
			}
			for _, q := range l {
				if sum := add(p, q); sum != add(q, p) || !Check(s, sum) {
					t.Error(p, q)
				}
				for _, other := range l {
					if add(add(p, q), other) != add(p, add(q, other)) {
						t.Error(p, q, other)
					}
				}
			}
		}
	})
}

// The generator comes to all points of its group, each of them met once.
func TestGeneratorOfTheLittleGroup(t *testing.T) {
	g, met, p := tables()[api.Little].gen, map[api.L1]int{}, zero
	for n := range 65521 {
		if before, ok := met[p]; ok {
			t.Fatal(p, before, n)
		}
		met[p] = n
		p = good[api.L1](t)(Add(api.Little, p, g))
	}
	if p != zero {
		t.Error(p)
	}
}

func TestPairOfSums(t *testing.T) {
	eachSuite(t, func(t *testing.T, s api.Suite, _ table) {
		pair := func(p, q api.L1) api.L2 { return good[api.L2](t)(Pair(s, p, q)) }
		l := insiders(t, s)
		for _, p := range l {
			for _, other := range l {
				if pair(p, other) != pair(other, p) {
					t.Error("turned about", p, other)
				}
				both := good[api.L1](t)(Add(s, p, other))
				for _, q := range l {
					if pair(both, q) != good[api.L2](t)(Times(s, pair(p, q), pair(other, q))) {
						t.Error(p, other, q)
					}
				}
			}
		}
	})
}

func TestPairOfMultiples(t *testing.T) {
	eachSuite(t, func(t *testing.T, s api.Suite, by table) {
		state := uint64(13)
		x := good[api.L2](t)(Pair(s, by.gen, by.gen))
		if x == one || good[api.L2](t)(Power(s, x, by.r.Uint64())) != one {
			t.Error(x)
		}
		for range 20 {
			a, b := draw(&state), draw(&state)
			n := new(big.Int).Mul(whole(a), whole(b))
			p, q := good[api.L1](t)(Mul(s, by.gen, a)), good[api.L1](t)(Mul(s, by.gen, b))
			if got := good[api.L2](t)(Pair(s, p, q)); got != good[api.L2](t)(Power(s, x, n.Mod(n, by.r).Uint64())) {
				t.Error(a, b, got)
			}
		}
	})
}

func TestClearedAndReadAgain(t *testing.T) {
	eachSuite(t, func(t *testing.T, s api.Suite, _ table) {
		state := uint64(17)
		for range 50 {
			found, _, e := Near(s, draw(&state))
			p := good[api.L1](t)(Clear(s, found))
			if e != api.OK || !In(s, p) {
				t.Error(found, p, e)
			}
			if again := good[api.L1](t)(Read(s, good[[]byte](t)(Bytes(s, p)))); again != p {
				t.Error(p, again)
			}
		}
	})
}

func TestExamples(t *testing.T) {
	g := good[api.L1](t)(Gen(api.Little))
	if x := good[api.L2](t)(Pair(api.Little, g, g)); x != (api.L2{414096, 460347}) {
		t.Error(x)
	}
	middle := good[api.L1](t)(Gen(api.Middle))
	if x := good[api.L2](t)(Pair(api.Middle, middle, middle)); x != (api.L2{1031928651028551423, 152963554084142207}) {
		t.Error(x)
	}
	if p, k, e := Near(api.Little, 1); p != (api.L1{X: 4, Y: 204503}) || k != 3 || e != api.OK {
		t.Error(p, k, e)
	}
	if p := good[api.L1](t)(Mul(api.Little, g, 65521)); p != zero {
		t.Error(p)
	}
	if p := good[api.L1](t)(Add(api.Little, g, good[api.L1](t)(Neg(api.Little, g)))); p != zero {
		t.Error(p)
	}
	if !Check(api.Little, api.L1{}) || In(api.Little, api.L1{}) {
		t.Error("(0, 0)")
	}
	if n, e := Prime(api.Great); n != 0 || e != api.ErrArg {
		t.Error(n, e)
	}
	if p, e := Add(api.Little, g, api.L1{X: 1, Y: 1}); p != (api.L1{}) || e != api.ErrPoint {
		t.Error(p, e)
	}
	if b := good[[]byte](t)(Bytes(api.Little, zero)); !bytes.Equal(b, append([]byte{1}, make([]byte, 16)...)) {
		t.Error(b)
	}
}
