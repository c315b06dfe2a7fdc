package curve

import (
	"math"
	"math/big"
	"slices"
	"testing"

	"reliquary/api"
	"reliquary/modulus"
	"reliquary/tower"
	"reliquary/words"
)

const full = math.MaxUint64

var top = api.Num{full, full, full, full, full, full}

func small(n uint64) api.Num { return words.Of(n) }

func orderAnd(n uint64) api.Num {
	a, _ := words.Add(modulus.Order(), small(n))
	return a
}

func orderLess(n uint64) api.Num {
	a, _ := words.Sub(modulus.Order(), small(n))
	return a
}

// draw tells a number by a fixed rule.
func draw(state *uint64) api.Num {
	var a api.Num
	for i := range a {
		*state ^= *state << 13
		*state ^= *state >> 7
		*state ^= *state << 17
		a[i] = *state * 0x9e3779b97f4a7c15
	}
	return a
}

// both runs a test for each group.
func both(t *testing.T, one func(*testing.T, side[api.P1]), two func(*testing.T, side[api.P2])) {
	t.Run("first", func(t *testing.T) { one(t, sideOne()) })
	t.Run("second", func(t *testing.T) { two(t, sideTwo()) })
}

// samples tells the zero, points of the group and points beside it; of many the
// negated one is there, too.
func (s side[P]) samples(t *testing.T) []*spot {
	t.Helper()
	g := s.generator()
	l := []*spot{nil, g, negated(g), plus(g, g), times(g, big.NewInt(3)), negated(times(g, big.NewInt(3)))}
	state := uint64(11)
	l = append(l, times(g, bigOf(draw(&state))), times(g, bigOf(draw(&state))))
	return append(l, s.outside(t)...)
}

// wrong tells what is no point: off the curve by each of its numbers, not below p,
// and the zero with something beside it.
func wrong1() []api.P1 {
	g, p := Gen1(), modulus.Base()
	more, _ := words.Add(g.X, p)
	odd := api.P1{Y: small(2)}
	moreY, _ := words.Add(odd.Y, p)
	l := []api.P1{
		{}, {X: small(1), Y: small(1)}, {X: g.X}, {Y: g.Y}, {X: g.Y, Y: g.X}, {Y: small(1)}, {X: top, Y: top},
		{X: more, Y: g.Y}, {X: p, Y: small(2)}, {Y: moreY}, {X: g.X, Y: p},
		{X: small(1), Zero: true}, {Y: small(1), Zero: true}, {X: g.X, Y: g.Y, Zero: true}, {X: p, Zero: true}, {Y: p, Zero: true},
	}
	for i := range g.X {
		x, y := g, g
		x.X[i] ^= 1
		y.Y[i] ^= 1
		l = append(l, x, y)
	}
	return l
}

func wrong2() []api.P2 {
	g, p := Gen2(), modulus.Base()
	l := []api.P2{
		{}, {X: g.X}, {Y: g.Y}, {X: g.Y, Y: g.X}, {X: tower.Conj2(g.X), Y: tower.Conj2(g.Y)},
		{X: api.E2{small(0)}, Y: api.E2{small(2)}}, {X: Gen2().X, Y: Gen2().Y, Zero: true},
		{X: api.E2{Gen1().X}, Y: api.E2{Gen1().Y}},
	}
	for i := range 2 {
		x, y, zeroX, zeroY := g, g, api.P2{Zero: true}, api.P2{Zero: true}
		x.X[i], _ = words.Add(g.X[i], p)
		y.Y[i], _ = words.Add(g.Y[i], p)
		zeroX.X[i], zeroY.Y[i] = small(1), p
		l = append(l, x, y, zeroX, zeroY)
		for j := range g.X[i] {
			x, y := g, g
			x.X[i][j] ^= 1
			y.Y[i][j] ^= 1
			l = append(l, x, y)
		}
	}
	return l
}

// P4.1

func TestGenerators(t *testing.T) {
	both(t, generators[api.P1], generators[api.P2])
}

func generators[P comparable](t *testing.T, s side[P]) {
	if s.gen() != s.of(t, s.generator()) || s.gen() == s.zero {
		t.Errorf("%v", s.gen())
	}
	if times(s.generator(), order) != nil {
		t.Error("not of the group")
	}
}

func TestGeneratorsDigits(t *testing.T) {
	g1, g2 := Gen1(), Gen2()
	for _, c := range []struct {
		got  api.Num
		want string
	}{
		{g1.X, "17f1d3a73197d7942695638c4fa9ac0fc3688c4f9774b905a14e3a3f171bac586c55e83ff97a1aeffb3af00adb22c6bb"},
		{g1.Y, "8b3f481e3aaa0f1a09e30ed741d8ae4fcf5e095d5d00af600db18cb2c04b3edd03cc744a2888ae40caa232946c5e7e1"},
		{g2.X[0], "24aa2b2f08f0a91260805272dc51051c6e47ad4fa403b02b4510b647ae3d1770bac0326a805bbefd48056c8c121bdb8"},
		{g2.X[1], "13e02b6052719f607dacd3a088274f65596bd0d09920b61ab5da61bbdc7f5049334cf11213945d57e5ac7d055d042b7e"},
		{g2.Y[0], "ce5d527727d6e118cc9cdc6da2e351aadfd9baa8cbdd3a76d429a695160d12c923ac9cc3baca289e193548608b82801"},
		{g2.Y[1], "606c4a02ea734cc32acd2b02bc28b99cb3e287e85a763af267492ab572e99ab3f370d275cec1da1aaa9075ff05f79be"},
	} {
		if words.Text(c.got) != c.want {
			t.Error(words.Text(c.got), c.want)
		}
	}
}

func TestPoints(t *testing.T) {
	both(t, points[api.P1], points[api.P2])
	for _, p := range wrong1() {
		if Check1(p) || In1(p) {
			t.Errorf("%v", p)
		}
	}
	for _, p := range wrong2() {
		if Check2(p) || In2(p) {
			t.Errorf("%v", p)
		}
	}
}

func points[P comparable](t *testing.T, s side[P]) {
	for _, p := range s.samples(t) {
		if !s.check(s.of(t, p)) {
			t.Errorf("%v", s.of(t, p))
		}
	}
}

// Of points of small orders, too, those are of the group, and just those, that r
// makes the zero.
func TestGroups(t *testing.T) {
	both(t, groups[api.P1], groups[api.P2])
}

func groups[P comparable](t *testing.T, s side[P]) {
	among := 0
	for _, p := range s.samples(t) {
		want := times(p, order) == nil
		if s.in(s.of(t, p)) != want {
			t.Errorf("%v: %t", s.of(t, p), want)
		}
		if want {
			among++
		}
		cleared := times(p, cofactors[s.which])
		if !s.in(s.of(t, cleared)) {
			t.Errorf("%v", s.of(t, cleared))
		}
	}
	if among != 8 {
		t.Error(among)
	}
}

// Of all sums of points of one small order: the group has none of them but the zero.
func TestGroupsOfSmallOrders(t *testing.T) {
	one, two := sideOne(), sideTwo()
	for _, q := range []int64{3, 11} {
		p := one.ofOrder(t, big.NewInt(q))
		for n := range q {
			if at := times(p, big.NewInt(n)); In1(one.of(t, at)) != (at == nil) {
				t.Error(q, n)
			}
		}
	}
	for _, q := range []int64{13, 23} {
		p := two.ofOrder(t, big.NewInt(q))
		for n := range q {
			if at := times(p, big.NewInt(n)); In2(two.of(t, at)) != (at == nil) {
				t.Error(q, n)
			}
		}
	}
}

// That one rule adds all points leans on there being none with Y 0.
func TestNoPointIsItsOwnNegated(t *testing.T) {
	for _, n := range cofactors {
		if n.Bit(0) != 1 {
			t.Error(n)
		}
	}
	third := new(big.Int).Div(new(big.Int).Sub(prime, big.NewInt(1)), big.NewInt(3))
	if new(big.Int).Exp(new(big.Int).Sub(prime, big.NewInt(4)), third, prime).Cmp(big.NewInt(1)) == 0 {
		t.Error("-4 is a third power")
	}
}

// P4.2

func TestNeg(t *testing.T) {
	both(t, negs[api.P1], negs[api.P2])
}

func negs[P comparable](t *testing.T, s side[P]) {
	for _, p := range s.samples(t) {
		got, e := s.neg(s.of(t, p))
		if e != api.OK || got != s.of(t, negated(p)) {
			t.Errorf("%v: %v %d", s.of(t, p), got, e)
		}
	}
}

func TestAdd(t *testing.T) {
	both(t, adds[api.P1], adds[api.P2])
}

func adds[P comparable](t *testing.T, s side[P]) {
	l := s.samples(t)
	for _, p := range l {
		for _, q := range l {
			got, e := s.add(s.of(t, p), s.of(t, q))
			if e != api.OK || got != s.of(t, plus(p, q)) {
				t.Errorf("%v %v: %v %d", s.of(t, p), s.of(t, q), got, e)
			}
		}
	}
}

func numbers() []api.Num {
	l := []api.Num{
		{}, small(1), small(2), small(3), small(15), small(16), small(17), small(255), small(full), {0, 1}, {1, 1},
		small(1 << 63), {0, 0, 0, 0, 0, 1}, {0, 0, 0, 0, 0, 1 << 63}, {full, 0, full, 0, full, 0}, top,
		orderLess(1), orderAnd(0), orderAnd(1), modulus.Base(),
		{0x0123456789abcdef, 0xfedcba9876543210, 0x0f1e2d3c4b5a6978, 0, 0x8000000000000001, 0x1000000000000000},
	}
	state := uint64(17)
	for range 3 {
		l = append(l, draw(&state))
	}
	return l
}

func TestMul(t *testing.T) {
	both(t, muls[api.P1], muls[api.P2])
}

func muls[P comparable](t *testing.T, s side[P]) {
	l := s.samples(t)
	l = append([]*spot{nil, s.generator()}, l[len(l)-6:]...)
	for _, p := range l {
		for _, n := range numbers() {
			got, e := s.mul(s.of(t, p), n)
			if e != api.OK || got != s.of(t, times(p, bigOf(n))) {
				t.Errorf("%v %v: %v %d", s.of(t, p), n, got, e)
			}
		}
	}
}

func TestWrongPoints(t *testing.T) {
	for _, p := range wrong1() {
		refuse(t, sideOne(), p)
	}
	for _, p := range wrong2() {
		refuse(t, sideTwo(), p)
	}
}

// refuse fails if a call takes what is no point.
func refuse[P comparable](t *testing.T, s side[P], p P) {
	t.Helper()
	var none P
	refused := func(got P, e api.Errno) {
		t.Helper()
		if got != none || e != api.ErrPoint {
			t.Errorf("%v: %v %d", p, got, e)
		}
	}
	refused(s.neg(p))
	refused(s.add(p, s.gen()))
	refused(s.add(s.gen(), p))
	refused(s.add(p, p))
	refused(s.add(p, s.zero))
	refused(s.add(s.zero, p))
	refused(s.mul(p, small(2)))
	refused(s.mul(p, api.Num{}))
	refused(s.sum([]P{p}, []api.Num{{}}))
	refused(s.sum([]P{s.gen(), p}, []api.Num{small(1), small(1)}))
	refused(s.sum([]P{s.zero, s.gen(), p, s.gen()}, make([]api.Num, 4)))
	if got, e := s.sum([]P{p}, nil); got != none || e != api.ErrArg {
		t.Errorf("%v: %v %d", p, got, e)
	}
}

// P4.3

func TestSum(t *testing.T) {
	both(t, sums[api.P1], sums[api.P2])
}

func sums[P comparable](t *testing.T, s side[P]) {
	l := s.samples(t)
	for _, many := range []int{0, 1, 2, 3, 7, 31, 32, 33, 65} {
		var points []P
		var n []api.Num
		var want *spot
		state := uint64(many + 1)
		for i := range many {
			p := l[i%len(l)]
			number := draw(&state)
			if i%3 == 0 {
				number = api.Num{number[0] % 40}
			}
			points, n = append(points, s.of(t, p)), append(n, number)
			want = plus(want, times(p, bigOf(number)))
		}
		got, e := s.sum(points, n)
		if e != api.OK || got != s.of(t, want) {
			t.Errorf("%d: %v %d", many, got, e)
		}
	}
}

// Sums that come to the zero, within and in the end.
func TestSumToZero(t *testing.T) {
	both(t, sumsToZero[api.P1], sumsToZero[api.P2])
}

func sumsToZero[P comparable](t *testing.T, s side[P]) {
	g, minus := s.gen(), s.of(t, negated(s.generator()))
	for _, c := range []struct {
		points []P
		n      []api.Num
		want   P
	}{
		{nil, nil, s.zero},
		{[]P{}, []api.Num{}, s.zero},
		{[]P{s.zero}, []api.Num{top}, s.zero},
		{[]P{g}, []api.Num{{}}, s.zero},
		{[]P{g, minus}, []api.Num{top, top}, s.zero},
		{[]P{g, g}, []api.Num{orderLess(5), small(5)}, s.zero},
		{[]P{g, g}, []api.Num{orderLess(5), small(6)}, g},
		{[]P{g, minus, g}, []api.Num{{7, 7}, {7, 7}, small(1)}, g},
		{[]P{g, s.zero, minus}, []api.Num{{0, 0, 1}, top, {1, 0, 1}}, minus},
	} {
		if got, e := s.sum(c.points, c.n); got != c.want || e != api.OK {
			t.Errorf("%v: %v %d", c.n, got, e)
		}
	}
}

func TestSumRefused(t *testing.T) {
	both(t, sumsRefused[api.P1], sumsRefused[api.P2])
}

func sumsRefused[P comparable](t *testing.T, s side[P]) {
	var none P
	g := s.gen()
	for _, c := range []struct {
		points []P
		n      []api.Num
	}{
		{[]P{g}, nil}, {nil, []api.Num{small(1)}}, {[]P{g, g}, []api.Num{small(1)}}, {[]P{g}, []api.Num{{}, {}}}, {[]P{none}, nil},
	} {
		if got, e := s.sum(c.points, c.n); got != none || e != api.ErrArg {
			t.Errorf("%d %d: %v %d", len(c.points), len(c.n), got, e)
		}
	}
}

// Rule 4: what is handed in stays as it is, its spare room too.
func TestSumChangesNothing(t *testing.T) {
	both(t, sumsChangeNothing[api.P1], sumsChangeNothing[api.P2])
}

func sumsChangeNothing[P comparable](t *testing.T, s side[P]) {
	var none P
	points := []P{s.gen(), s.zero, s.gen(), none, none}
	n := []api.Num{top, small(5), modulus.Order(), top, small(9)}
	oldPoints, oldN := slices.Clone(points), slices.Clone(n)
	if _, e := s.sum(points[:3], n[:3]); e != api.OK {
		t.Error(e)
	}
	if !slices.Equal(points, oldPoints) || !slices.Equal(n, oldN) {
		t.Error("changed")
	}
}

// P4.4

func TestLaws(t *testing.T) {
	both(t, laws[api.P1], laws[api.P2])
}

func laws[P comparable](t *testing.T, s side[P]) {
	sure := func(p P, e api.Errno) P {
		t.Helper()
		if e != api.OK {
			t.Error(e)
		}
		return p
	}
	l := s.samples(t)
	if !s.in(s.gen()) || s.gen() == s.zero {
		t.Error("generator")
	}
	state := uint64(23)
	for i := range l {
		p, q, r := s.of(t, l[i]), s.of(t, l[(i+5)%len(l)]), s.of(t, l[(i+9)%len(l)])
		if sure(s.add(p, q)) != sure(s.add(q, p)) {
			t.Errorf("turned about: %v %v", p, q)
		}
		if sure(s.add(sure(s.add(p, q)), r)) != sure(s.add(p, sure(s.add(q, r)))) {
			t.Errorf("brackets: %v %v %v", p, q, r)
		}
		if sure(s.add(p, s.zero)) != p || sure(s.add(p, sure(s.neg(p)))) != s.zero {
			t.Errorf("zero, negated: %v", p)
		}
		a, b := draw(&state), draw(&state)
		a, b = api.Num{a[0], a[1], a[2]}, api.Num{b[0], b[1], b[2]}
		sum, _ := words.Add(a, b)
		product, _ := words.Mul(a, b)
		if sure(s.mul(p, sum)) != sure(s.add(sure(s.mul(p, a)), sure(s.mul(p, b)))) {
			t.Errorf("sum: %v", p)
		}
		if sure(s.mul(p, product)) != sure(s.mul(sure(s.mul(p, a)), b)) {
			t.Errorf("product: %v", p)
		}
	}
}

func TestExamples(t *testing.T) {
	g1, g2, zero, odd := Gen1(), Gen2(), api.P1{Zero: true}, api.P1{Y: small(2)}
	if !Check1(g1) || !In1(g1) || !Check1(zero) || !Check1(odd) || In1(odd) {
		t.Error("points")
	}
	minus, _ := Neg1(g1)
	if p, e := Add1(g1, minus); p != zero || e != api.OK {
		t.Error(p, e)
	}
	for _, n := range []api.Num{{}, modulus.Order()} {
		if p, e := Mul1(g1, n); p != zero || e != api.OK {
			t.Error(n, p, e)
		}
	}
	twice, _ := Mul1(g1, small(2))
	if p, e := Add1(g1, g1); p != twice || e != api.OK {
		t.Error(p, e)
	}
	if p, e := Mul2(g2, orderAnd(1)); p != g2 || e != api.OK {
		t.Error(p, e)
	}
	if p, e := Add1(g1, api.P1{X: small(1), Y: small(1)}); p != (api.P1{}) || e != api.ErrPoint {
		t.Error(p, e)
	}
	if p, e := Sum1([]api.P1{g1}, nil); p != (api.P1{}) || e != api.ErrArg {
		t.Error(p, e)
	}
	if Check1(api.P1{X: small(1), Zero: true}) {
		t.Error("zero with X 1")
	}
}
