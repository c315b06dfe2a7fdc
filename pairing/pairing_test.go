package pairing

import (
	"math"
	"math/big"
	"slices"
	"strings"
	"testing"

	"reliquary/api"
	"reliquary/curve"
	"reliquary/modulus"
	"reliquary/tower"
	"reliquary/words"
)

const full = math.MaxUint64

var top = api.Num{full, full, full, full, full, full}

var (
	zero1 = api.P1{Zero: true}
	zero2 = api.P2{Zero: true}
)

func small(n uint64) api.Num { return words.Of(n) }

// near tells a number and more, added or (below 0) taken.
func near(a api.Num, more int) api.Num {
	if more < 0 {
		a, _ = words.Sub(a, small(uint64(-more)))
		return a
	}
	a, _ = words.Add(a, small(uint64(more)))
	return a
}

// draw tells a number by a fixed rule.
func draw(state *uint64) api.Num {
	var a api.Num
	for i := range a {
		*state ^= *state << 13
		*state ^= *state >> 7
		*state ^= *state << 17
		a[i] = *state * 0x9e3779b97f4a7c15
	}
	return a
}

func drawTwelve(state *uint64) api.E12 {
	var a api.E12
	for k := range a {
		a[k] = api.E2{draw(state), draw(state)}
	}
	return a
}

func first(t *testing.T, n api.Num) api.P1 {
	t.Helper()
	p, e := curve.Mul1(curve.Gen1(), n)
	if e != api.OK {
		t.Fatal(e)
	}
	return p
}

func second(t *testing.T, n api.Num) api.P2 {
	t.Helper()
	q, e := curve.Mul2(curve.Gen2(), n)
	if e != api.OK {
		t.Fatal(e)
	}
	return q
}

func pairOf(t *testing.T, p api.P1, q api.P2) api.E12 {
	t.Helper()
	x, e := Pair(p, q)
	if e != api.OK || !tower.Whole(x) {
		t.Fatalf("Pair(%v, %v): %x %d", p, q, x, e)
	}
	return x
}

func pairsOf(t *testing.T, p []api.P1, q []api.P2) api.E12 {
	t.Helper()
	x, e := Pairs(p, q)
	if e != api.OK || !tower.Whole(x) {
		t.Fatalf("Pairs(%v, %v): %x %d", p, q, x, e)
	}
	return x
}

func lastOf(t *testing.T, a api.E12) api.E12 {
	t.Helper()
	x, e := Last(a)
	if e != api.OK || !tower.Whole(x) {
		t.Fatalf("Last(%x): %x %d", a, x, e)
	}
	return x
}

// P6.1

func TestPairIsTheWalkToTheLastPower(t *testing.T) {
	state := uint64(3)
	numbers := [][2]api.Num{
		{small(1), small(1)}, {small(2), small(1)}, {small(1), small(2)},
		{near(modulus.Order(), -1), small(1)}, {small(7), near(modulus.Order(), -1)},
		{draw(&state), draw(&state)}, {draw(&state), draw(&state)},
	}
	for _, n := range numbers {
		p, q := first(t, n[0]), second(t, n[1])
		if got := pairOf(t, p, q); got != referencePair(p, q).twelve(t) {
			t.Errorf("%v %v: %x", n[0], n[1], got)
		}
	}
}

func TestPairWithTheZero(t *testing.T) {
	for _, got := range []api.E12{
		pairOf(t, zero1, curve.Gen2()), pairOf(t, curve.Gen1(), zero2), pairOf(t, zero1, zero2),
	} {
		if got != tower.One() {
			t.Errorf("%x", got)
		}
	}
}

// wrong1 and wrong2 tell what is of no group: off the curve, of the curve alone, not
// below p, the zero with something beside it.

func wrong1() []api.P1 {
	g, p := curve.Gen1(), modulus.Base()
	more, _ := words.Add(g.X, p)
	bit := g
	bit.Y[5] ^= 1
	return []api.P1{
		{}, {Y: small(2)}, {X: small(1), Y: small(1)}, {X: more, Y: g.Y}, {X: top, Y: top}, bit,
		{X: g.X, Y: g.Y, Zero: true}, {X: small(1), Zero: true}, {Y: p, Zero: true},
	}
}

func wrong2(t *testing.T) []api.P2 {
	t.Helper()
	g, p := curve.Gen2(), modulus.Base()
	more, bit := g, g
	more.X[1], _ = words.Add(g.X[1], p)
	bit.X[0][0] ^= 1
	return []api.P2{
		{}, beside2(t), {X: g.Y, Y: g.X}, more, bit, {X: api.E2{top, top}, Y: api.E2{top, top}},
		{X: g.X, Y: g.Y, Zero: true}, {Y: api.E2{{}, small(1)}, Zero: true}, {X: api.E2{p}, Zero: true},
	}
}

// beside2 tells a point of the second curve that is none of the group.
func beside2(t *testing.T) api.P2 {
	t.Helper()
	for n := uint64(0); n < 100; n++ {
		x := api.E2{small(n)}
		y, e := tower.Root2(tower.Add2(tower.Mul2(x, tower.Mul2(x, x)), api.E2{small(4), small(4)}))
		q := api.P2{X: x, Y: y}
		if e == api.OK && curve.Check2(q) && !curve.In2(q) {
			return q
		}
	}
	t.Fatal("no point beside the group")
	return api.P2{}
}

func refused(t *testing.T, p []api.P1, q []api.P2, want api.Errno) {
	t.Helper()
	if x, e := Pairs(p, q); x != (api.E12{}) || e != want {
		t.Errorf("Pairs(%v, %v): %x %d", p, q, x, e)
	}
	if len(p) != 1 || len(q) != 1 {
		return
	}
	if x, e := Pair(p[0], q[0]); x != (api.E12{}) || e != want {
		t.Errorf("Pair(%v, %v): %x %d", p[0], q[0], x, e)
	}
}

func TestWrongPoints(t *testing.T) {
	g1, g2 := curve.Gen1(), curve.Gen2()
	for _, p := range wrong1() {
		refused(t, []api.P1{p}, []api.P2{g2}, api.ErrPoint)
		refused(t, []api.P1{p}, []api.P2{zero2}, api.ErrPoint)
		refused(t, []api.P1{g1, zero1, p}, []api.P2{g2, g2, g2}, api.ErrPoint)
		refused(t, []api.P1{p, g1}, []api.P2{g2, g2}, api.ErrPoint)
	}
	for _, q := range wrong2(t) {
		refused(t, []api.P1{g1}, []api.P2{q}, api.ErrPoint)
		refused(t, []api.P1{zero1}, []api.P2{q}, api.ErrPoint)
		refused(t, []api.P1{g1, g1, zero1}, []api.P2{g2, zero2, q}, api.ErrPoint)
		refused(t, []api.P1{g1, g1}, []api.P2{q, g2}, api.ErrPoint)
	}
	refused(t, []api.P1{wrong1()[1]}, []api.P2{wrong2(t)[1]}, api.ErrPoint)
}

func TestPairsOfUnlikeLengths(t *testing.T) {
	g1, g2 := curve.Gen1(), curve.Gen2()
	refused(t, []api.P1{g1}, nil, api.ErrArg)
	refused(t, nil, []api.P2{g2}, api.ErrArg)
	refused(t, []api.P1{g1, g1}, []api.P2{g2}, api.ErrArg)
	refused(t, []api.P1{zero1}, []api.P2{zero2, zero2}, api.ErrArg)
	// The lengths come ahead of the points.
	refused(t, wrong1()[:1], nil, api.ErrArg)
	refused(t, wrong1()[:2], wrong2(t)[:3], api.ErrArg)
}

func TestPairsIsTheProduct(t *testing.T) {
	state := uint64(5)
	p := []api.P1{first(t, draw(&state)), zero1, first(t, small(3)), curve.Gen1(), first(t, small(3)), curve.Gen1()}
	q := []api.P2{curve.Gen2(), second(t, small(2)), second(t, draw(&state)), zero2, curve.Gen2(), curve.Gen2()}
	product := tower.One()
	for many := range len(p) + 1 {
		if got := pairsOf(t, p[:many], q[:many]); got != product {
			t.Errorf("of %d: %x", many, got)
		}
		if many < len(p) {
			product = tower.Mul(product, pairOf(t, p[many], q[many]))
		}
	}
}

func TestPairsOfNone(t *testing.T) {
	if pairsOf(t, nil, nil) != tower.One() || pairsOf(t, []api.P1{}, nil) != tower.One() || pairsOf(t, nil, []api.P2{}) != tower.One() {
		t.Error("of none")
	}
}

func TestPairsThatMakeOne(t *testing.T) {
	g1, g2 := curve.Gen1(), curve.Gen2()
	minus1, _ := curve.Neg1(g1)
	minus2, _ := curve.Neg2(g2)
	for _, got := range []api.E12{
		pairsOf(t, []api.P1{g1, minus1}, []api.P2{g2, g2}),
		pairsOf(t, []api.P1{g1, g1}, []api.P2{minus2, g2}),
		pairsOf(t, []api.P1{first(t, small(5)), minus1}, []api.P2{g2, second(t, small(5))}),
		pairsOf(t, []api.P1{zero1, g1, zero1}, []api.P2{g2, zero2, zero2}),
	} {
		if got != tower.One() {
			t.Errorf("%x", got)
		}
	}
	if pairsOf(t, []api.P1{g1, g1}, []api.P2{g2, g2}) == tower.One() {
		t.Error("of the same twice")
	}
}

// What is handed in stays as it is, its spare room too.
func TestPairsLeavesListsAlone(t *testing.T) {
	p := []api.P1{first(t, small(2)), zero1, curve.Gen1(), first(t, small(9))}
	q := []api.P2{curve.Gen2(), second(t, small(4)), second(t, small(6)), zero2}
	p2, q2 := slices.Clone(p), slices.Clone(q)
	want := pairsOf(t, p[:2:2], q[:2:2])
	if pairsOf(t, p[:2], q[:2]) != want || !slices.Equal(p, p2) || !slices.Equal(q, q2) {
		t.Error("lists")
	}
}

// P6.2

func lastSamples() []api.E12 {
	state := uint64(7)
	p := modulus.Base()
	l := []api.E12{
		drawTwelve(&state), drawTwelve(&state), drawTwelve(&state),
		{{}, {small(1)}}, {{}, {}, {{}, small(1)}}, {{small(1)}, {small(1)}}, {{}, {}, {}, {}, {}, {top, near(p, 1)}},
		{{near(p, -1)}}, {{near(p, 1)}, {p, p}, {{}, near(p, 2)}},
	}
	m := api.E2{near(p, -1), near(p, -1)}
	return append(l, api.E12{m, m, m, m, m, m})
}

func TestLastIsThePower(t *testing.T) {
	for _, a := range lastSamples() {
		if got := lastOf(t, a); got != dozenOf(a).power(last).twelve(t) {
			t.Errorf("Last(%x): %x", a, got)
		}
	}
}

func TestLastOfNought(t *testing.T) {
	p := modulus.Base()
	twice, _ := words.Add(p, p)
	for _, a := range []api.E12{
		{}, {{p}}, {{p, p}, {twice, {}}, {{}, p}, {twice, twice}, {p, twice}, {p, p}}, {5: {{}, p}},
	} {
		if got, e := Last(a); got != (api.E12{}) || e != api.ErrMissing {
			t.Errorf("Last(%x): %x %d", a, got, e)
		}
	}
}

// The last power makes 1 of all that is of a part of the field, so that a walk may
// be told times any of them.
func TestLastOfPartsOfTheField(t *testing.T) {
	state := uint64(9)
	for range 3 {
		a := drawTwelve(&state)
		for _, part := range []api.E12{
			{a[0]}, {{a[0][0]}}, {{{}, a[0][1]}}, {0: a[0], 2: a[2], 4: a[4]}, {0: a[0], 3: a[3]},
		} {
			if got := lastOf(t, part); got != tower.One() {
				t.Errorf("Last(%x): %x", part, got)
			}
		}
	}
}

func TestLastKeepsProducts(t *testing.T) {
	state := uint64(11)
	a, b := drawTwelve(&state), drawTwelve(&state)
	if lastOf(t, tower.Mul(a, b)) != tower.Mul(lastOf(t, a), lastOf(t, b)) {
		t.Error("products")
	}
	if tower.Pow(lastOf(t, a), modulus.Order()) != tower.One() {
		t.Error("to the power r")
	}
}

// What Last leans on: the great number falls into the parts that its remark names.
func TestPartsOfTheLastPower(t *testing.T) {
	s := new(big.Int).SetUint64(seed)
	n := func(a int64) *big.Int { return big.NewInt(a) }
	up := func(k int64) *big.Int { return new(big.Int).Exp(prime, n(k), nil) }
	sum := func(a, b *big.Int) *big.Int { return new(big.Int).Add(a, b) }
	less := func(a, b *big.Int) *big.Int { return new(big.Int).Sub(a, b) }
	product := func(l ...*big.Int) *big.Int {
		all := n(1)
		for _, a := range l {
			all.Mul(all, a)
		}
		return all
	}
	parts := new(big.Int).SetUint64(third)
	if product(parts, n(3)).Cmp(sum(s, n(1))) != 0 {
		t.Error("third")
	}
	hard := sum(product(n(3), parts, parts, less(prime, s), less(sum(product(s, s), up(2)), n(1))), n(1))
	if product(less(up(6), n(1)), sum(up(2), n(1)), hard).Cmp(last) != 0 {
		t.Error("parts")
	}
}

// P6.3

func TestPairOfSums(t *testing.T) {
	state := uint64(13)
	for range 3 {
		p, other := first(t, draw(&state)), first(t, draw(&state))
		q, beside := second(t, draw(&state)), second(t, draw(&state))
		both1, _ := curve.Add1(p, other)
		both2, _ := curve.Add2(q, beside)
		if pairOf(t, both1, q) != tower.Mul(pairOf(t, p, q), pairOf(t, other, q)) {
			t.Error("of the first one")
		}
		if pairOf(t, p, both2) != tower.Mul(pairOf(t, p, q), pairOf(t, p, beside)) {
			t.Error("of the second one")
		}
	}
}

func TestPairOfMultiples(t *testing.T) {
	by, e := modulus.New(modulus.Order())
	if e != api.OK {
		t.Fatal(e)
	}
	state := uint64(17)
	p, q := first(t, draw(&state)), second(t, draw(&state))
	x := pairOf(t, p, q)
	for _, n := range [][2]api.Num{
		{small(0), small(1)}, {small(1), modulus.Order()}, {small(3), small(5)}, {small(1), near(modulus.Order(), -1)},
		{near(modulus.Order(), 1), near(modulus.Order(), -1)}, {draw(&state), draw(&state)}, {top, small(full)},
	} {
		a, _ := curve.Mul1(p, n[0])
		b, _ := curve.Mul2(q, n[1])
		if pairOf(t, a, b) != tower.Pow(x, by.Mul(n[0], n[1])) {
			t.Errorf("%v %v", n[0], n[1])
		}
	}
}

func TestPairOfTheGeneratorsIsOfTheOrder(t *testing.T) {
	x := pairOf(t, curve.Gen1(), curve.Gen2())
	if x == tower.One() || tower.Pow(x, modulus.Order()) != tower.One() {
		t.Errorf("%x", x)
	}
}

func TestExamples(t *testing.T) {
	g1, g2 := curve.Gen1(), curve.Gen2()
	want := [6][2]string{
		{"11619b45f61edfe3", "153ce14a76a53e20"},
		{"1ecfcf31c86257ab", "8890726743a1f94a"},
		{"95668fb4a02fe930", "16deedaa683124fe"},
		{"e61c752414ca5dfd", "fe63f185f56dd291"},
		{"9c92cf02f3cd3d2f", "111061f398efc2a9"},
		{"10900338a92ed0b4", "1454814f3085f0e6"},
	}
	x := pairOf(t, g1, g2)
	for k := range want {
		for j := range want[k] {
			if got := words.Text(x[k][j]); !strings.HasPrefix(got, want[k][j]) {
				t.Error(k, j, got)
			}
		}
	}
	if pairOf(t, zero1, g2) != tower.One() || pairsOf(t, nil, nil) != tower.One() {
		t.Error("the zero, none")
	}
	minus, _ := curve.Neg1(g1)
	if pairsOf(t, []api.P1{g1, minus}, []api.P2{g2, g2}) != tower.One() {
		t.Error("g1 and the negated g1")
	}
	refused(t, []api.P1{{Y: small(2)}}, []api.P2{g2}, api.ErrPoint)
	refused(t, []api.P1{g1}, nil, api.ErrArg)
	if x, e := Last(api.E12{}); x != (api.E12{}) || e != api.ErrMissing {
		t.Error(x, e)
	}
	if lastOf(t, api.E12{{small(2)}}) != tower.One() {
		t.Error("Last(2)")
	}
}
