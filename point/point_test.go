package point

import (
	"bytes"
	"math"
	"math/big"
	"slices"
	"testing"

	"reliquary/api"
	"reliquary/curve"
	"reliquary/modulus"
	"reliquary/tower"
	"reliquary/words"
)

const full = math.MaxUint64

var top = api.Num{full, full, full, full, full, full}

func small(n uint64) api.Num { return words.Of(n) }

// down and up tell a number near another one.
func down(a api.Num, n uint64) api.Num {
	b, _ := words.Sub(a, small(n))
	return b
}

func up(a api.Num, n uint64) api.Num {
	b, _ := words.Add(a, small(n))
	return b
}

// draw tells a number by a fixed rule.
func draw(state *uint64) api.Num {
	var a api.Num
	for i := range a {
		*state ^= *state << 13
		*state ^= *state >> 7
		*state ^= *state << 17
		a[i] = *state * 0x9e3779b97f4a7c15
	}
	return a
}

// starts tells numbers to be near to: small ones, those about p and its multiples, the
// greatest ones, from which x + k is above 2^384, and any.
func starts() []api.E2 {
	p := modulus.Base()
	twice, _ := words.Add(p, p)
	var l []api.E2
	for n := range uint64(6) {
		l = append(l,
			api.E2{small(n)}, api.E2{small(0), small(n)}, api.E2{small(n), small(7 * n)},
			api.E2{down(p, n), small(n)}, api.E2{up(p, n), down(p, n)}, api.E2{down(twice, n), up(p, n)},
			api.E2{down(top, n), small(n)}, api.E2{down(top, n), down(top, n)})
	}
	state := uint64(5)
	for range 12 {
		l = append(l, api.E2{draw(&state), draw(&state)})
	}
	return append(l, api.E2{curve.Gen1().X}, curve.Gen2().X)
}

// inside tells points of the group, with their negated ones, and the zero.
func (s side[P]) inside() []P {
	l, p := []P{s.zero}, s.gen
	for range 8 {
		q, _ := s.neg(p)
		l = append(l, p, q)
		p, _ = s.add(p, s.gen)
	}
	return l
}

// outside tells points of the curve that are none of the group, with their negated
// ones.
func (s side[P]) outside() []P {
	var l []P
	for _, x := range starts()[:24] {
		p, _ := s.near(x)
		if q, _ := s.neg(p); !s.in(p) {
			l = append(l, p, q)
		}
	}
	return l
}

// flat tells points of the second curve whose Y has but one part: the second one is 0,
// or the first one.
func flat(t *testing.T) []api.P2 {
	t.Helper()
	var l []api.P2
	for n := int64(1); len(l) < 16; n++ {
		for _, y := range []pair{of(n, 0), of(0, n)} {
			x, ok := y.times(y).plus(of(-4, -4)).cubeRoot()
			if ok {
				l = append(l, api.P2{X: x.e2(t), Y: y.e2(t)}, api.P2{X: x.e2(t), Y: y.negated().e2(t)})
			}
		}
	}
	return l
}

// The chapter's examples

func TestExamples(t *testing.T) {
	zero1, _ := Bytes1(api.P1{Zero: true})
	zero2, _ := Bytes2(api.P2{Zero: true})
	for _, b := range [][]byte{zero1, zero2} {
		if b[0] != 192 || slices.Max(b[1:]) != 0 {
			t.Error(b)
		}
	}
	if len(zero1) != 48 || len(zero2) != 96 {
		t.Error(len(zero1), len(zero2))
	}
	g1, _ := Bytes1(curve.Gen1())
	g2, _ := Bytes2(curve.Gen2())
	if g1[0] != 151 || g1[1] != 241 || g2[0] != 147 || g2[1] != 224 {
		t.Error(g1, g2)
	}
	if p, e := Read1(zero1); p != (api.P1{Zero: true}) || e != api.OK {
		t.Errorf("%v %v", p, e)
	}
	if p, e := Read1(g1); p != curve.Gen1() || e != api.OK {
		t.Errorf("%v %v", p, e)
	}
	for _, b := range [][]byte{make([]byte, 48), with(0, 192, 47, 1), with(0, 224)} {
		if p, e := Read1(b); p != (api.P1{}) || e != api.ErrBytes {
			t.Errorf("%v %v %v", b, p, e)
		}
	}
	p, k := Near1(small(0))
	if p != (api.P1{Y: small(2)}) || k != 0 {
		t.Errorf("%v %v", p, k)
	}
	b, _ := Bytes1(p)
	if q, e := Read1(b); q != (api.P1{}) || e != api.ErrPoint {
		t.Errorf("%v %v", q, e)
	}
	if q, e := Clear1(p); !curve.In1(q) || e != api.OK {
		t.Errorf("%v %v", q, e)
	}
}

// with tells 48 bytes, 0 but for those that are named, each after its place.
func with(placed ...byte) []byte {
	b := make([]byte, 48)
	for i := 0; i < len(placed); i += 2 {
		b[placed[i]] = placed[i+1]
	}
	return b
}

// P5.1

func TestBytesWhole(t *testing.T) {
	g1, e1 := Bytes1(curve.Gen1())
	g2, e2 := Bytes2(curve.Gen2())
	want1 := hex("97f1d3a73197d7942695638c4fa9ac0fc3688c4f9774b905a14e3a3f171bac586c55e83ff97a1aeffb3af00adb22c6bb")
	want2 := hex("93e02b6052719f607dacd3a088274f65596bd0d09920b61ab5da61bbdc7f5049334cf11213945d57e5ac7d055d042b7e" +
		"024aa2b2f08f0a91260805272dc51051c6e47ad4fa403b02b4510b647ae3d1770bac0326a805bbefd48056c8c121bdb8")
	if !bytes.Equal(g1, want1.Bytes()) || e1 != api.OK {
		t.Error(g1, e1)
	}
	if !bytes.Equal(g2, want2.Bytes()) || e2 != api.OK {
		t.Error(g2, e2)
	}
}

func TestBytes(t *testing.T) { both(t, bytesOf[api.P1], bytesOf[api.P2]) }

func bytesOf[P comparable](t *testing.T, s side[P]) {
	for _, p := range slices.Concat(s.inside(), s.outside()) {
		if b, e := s.bytes(p); !bytes.Equal(b, s.written(p)) || e != api.OK {
			t.Errorf("%v: %v %v", p, b, e)
		}
	}
}

// Of Y whose second part is 0 the first one tells which root it is; of others it tells
// nothing.
func TestBytesFlat(t *testing.T) {
	s := sideTwo()
	seen := map[bool]int{}
	for _, p := range flat(t) {
		b, e := Bytes2(p)
		if !bytes.Equal(b, s.written(p)) || e != api.OK {
			t.Errorf("%v: %v %v", p, b, e)
		}
		seen[p.Y[1] == api.Num{}]++
		q, _ := curve.Neg2(p)
		c, _ := Bytes2(q)
		if b[0]^c[0] != 32 || !bytes.Equal(b[1:], c[1:]) {
			t.Errorf("%v: %v %v", p, b, c)
		}
	}
	if seen[true] == 0 || seen[false] == 0 {
		t.Error(seen)
	}
}

func TestBytesGreaterEdge(t *testing.T) {
	middle := num(t, half)
	for _, c := range []struct {
		y    api.E2
		want bool
	}{
		{api.E2{}, false},
		{api.E2{small(1)}, false}, {api.E2{middle}, false},
		{api.E2{up(middle, 1)}, true}, {api.E2{down(modulus.Base(), 1)}, true},
		{api.E2{down(modulus.Base(), 1), small(1)}, false}, {api.E2{small(1), middle}, false},
		{api.E2{up(middle, 1), middle}, false}, {api.E2{small(1), up(middle, 1)}, true},
		{api.E2{small(0), up(middle, 1)}, true}, {api.E2{small(0), down(modulus.Base(), 1)}, true},
	} {
		if greater2(c.y) != c.want {
			t.Error(c.y)
		}
		if c.y[1] == (api.Num{}) && greater1(c.y[0]) != c.want {
			t.Error(c.y)
		}
	}
}

func TestBytesWrong(t *testing.T) {
	for _, p := range wrong1() {
		if b, e := Bytes1(p); b != nil || e != api.ErrPoint {
			t.Errorf("%v: %v %v", p, b, e)
		}
	}
	for _, p := range wrong2() {
		if b, e := Bytes2(p); b != nil || e != api.ErrPoint {
			t.Errorf("%v: %v %v", p, b, e)
		}
	}
}

// wrong1 and wrong2 tell what is no point: off the curve, not below p, and the zero
// with something beside it.
func wrong1() []api.P1 {
	g, p := curve.Gen1(), modulus.Base()
	more, _ := words.Add(g.X, p)
	return []api.P1{
		{}, {X: small(1), Y: small(1)}, {X: g.X}, {X: g.Y, Y: g.X}, {X: top, Y: top},
		{X: more, Y: g.Y}, {X: p, Y: small(2)}, {Y: up(p, 2)},
		{X: small(1), Zero: true}, {Y: small(1), Zero: true}, {X: g.X, Y: g.Y, Zero: true}, {X: p, Zero: true},
	}
}

func wrong2() []api.P2 {
	g, p := curve.Gen2(), modulus.Base()
	l := []api.P2{
		{}, {X: g.X}, {X: g.Y, Y: g.X}, {X: tower.Conj2(g.X), Y: tower.Conj2(g.Y)},
		{X: g.X, Y: g.Y, Zero: true}, {X: api.E2{curve.Gen1().X}, Y: api.E2{curve.Gen1().Y}},
	}
	for i := range 2 {
		x, y, zeroX, zeroY := g, g, api.P2{Zero: true}, api.P2{Zero: true}
		x.X[i], _ = words.Add(g.X[i], p)
		y.Y[i], _ = words.Add(g.Y[i], p)
		zeroX.X[i], zeroY.Y[i] = small(1), p
		l = append(l, x, y, zeroX, zeroY)
	}
	return l
}

// P5.2

func TestRead(t *testing.T) { both(t, read[api.P1], read[api.P2]) }

func read[P comparable](t *testing.T, s side[P]) {
	for _, p := range s.inside() {
		if q, e := s.read(s.written(p)); q != p || e != api.OK {
			t.Errorf("%v: %v %v", p, q, e)
		}
	}
}

func TestReadOutside(t *testing.T) { both(t, readOutside[api.P1], readOutside[api.P2]) }

func readOutside[P comparable](t *testing.T, s side[P]) {
	l := s.outside()
	if len(l) < 10 {
		t.Fatal(len(l))
	}
	for _, p := range l {
		s.refuses(t, s.written(p), api.ErrPoint)
	}
}

func (s side[P]) refuses(t *testing.T, b []byte, want api.Errno) {
	t.Helper()
	var none P
	if p, e := s.read(b); p != none || e != want {
		t.Errorf("%x: %v %v", b, p, e)
	}
}

func TestReadFlat(t *testing.T) {
	s := sideTwo()
	for _, p := range flat(t) {
		s.refuses(t, s.written(p), api.ErrPoint)
	}
}

func TestReadLength(t *testing.T) { both(t, readLength[api.P1], readLength[api.P2]) }

func readLength[P comparable](t *testing.T, s side[P]) {
	s.refuses(t, nil, api.ErrBytes)
	for _, p := range []P{s.zero, s.gen} {
		b := s.written(p)
		for n := range 200 {
			if n != s.length {
				s.refuses(t, slices.Concat(b, b, b, b, b)[:n], api.ErrBytes)
			}
		}
		s.refuses(t, append([]byte{0}, b...), api.ErrBytes)
		s.refuses(t, append(slices.Clone(b), 0), api.ErrBytes)
	}
}

// All that the three bits may be, with an X of a point and with the zero's.
func TestReadFlags(t *testing.T) { both(t, readFlags[api.P1], readFlags[api.P2]) }

func readFlags[P comparable](t *testing.T, s side[P]) {
	minus, _ := s.neg(s.gen)
	for bits := 0; bits < 256; bits += 32 {
		b, c := s.written(s.gen), s.written(s.zero)
		b[0], c[0] = b[0]&31|byte(bits), byte(bits)
		switch bits {
		case 128, 160:
			p, e := s.read(b)
			if p != s.gen && p != minus || e != api.OK || !bytes.Equal(s.written(p), b) {
				t.Errorf("%x: %v %v", b, p, e)
			}
		default:
			s.refuses(t, b, api.ErrBytes)
		}
		if bits == 192 {
			if p, e := s.read(c); p != s.zero || e != api.OK {
				t.Errorf("%v %v", p, e)
			}
		} else if bits != 128 && bits != 160 {
			s.refuses(t, c, api.ErrBytes)
		}
	}
}

// A zero beside which anything stands, whichever the bit.
func TestReadZero(t *testing.T) { both(t, readZero[api.P1], readZero[api.P2]) }

func readZero[P comparable](t *testing.T, s side[P]) {
	for i := range s.length {
		for bit := byte(1); bit != 0; bit <<= 1 {
			b := s.written(s.zero)
			b[i] |= bit
			if !bytes.Equal(b, s.written(s.zero)) {
				s.refuses(t, b, api.ErrBytes)
			}
		}
	}
}

// Numbers that are not below p, though what is left of them is a point's X.
func TestReadAbove(t *testing.T) { both(t, readAbove[api.P1], readAbove[api.P2]) }

func readAbove[P comparable](t *testing.T, s side[P]) {
	above := 0
	for n := range uint64(12) {
		p, _ := s.near(api.E2{small(n), small(n)})
		for from := 0; from < s.length; from += 48 {
			b := s.written(p)
			bits := b[0] & 0xe0
			b[0] &= 0x1f
			x := new(big.Int).SetBytes(b[from : from+48])
			for x.Add(x, prime); x.BitLen() <= 381 || from > 0 && x.BitLen() <= 384; x.Add(x, prime) {
				x.FillBytes(b[from : from+48])
				b[0] |= bits
				s.refuses(t, b, api.ErrBytes)
				b[0] &= 0x1f
				above++
			}
		}
	}
	if above < 12 {
		t.Error(above)
	}
	for from := 0; from < s.length; from += 48 {
		b := s.written(s.gen)
		for i := from; i < from+48; i++ {
			b[i] = 255
		}
		s.refuses(t, b, api.ErrBytes)
		b[0] &^= 64
		s.refuses(t, b, api.ErrBytes)
	}
}

// An X of which the curve has no point.
func TestReadNoPoint(t *testing.T) { both(t, readNoPoint[api.P1], readNoPoint[api.P2]) }

func readNoPoint[P comparable](t *testing.T, s side[P]) {
	seen := 0
	for _, start := range starts() {
		x := pairOf(start)
		if s.length == 48 {
			x[1].SetInt64(0)
		}
		if x.cubed(s.beside).isSquare(s.field) {
			continue
		}
		b := s.written(s.point(x.e2(t), api.E2{}))
		s.refuses(t, b, api.ErrBytes)
		b[0] |= 32
		s.refuses(t, b, api.ErrBytes)
		seen++
	}
	if seen < 10 {
		t.Error(seen)
	}
}

// The second part of X comes first.
func TestReadTurnedAbout(t *testing.T) {
	b := sideTwo().written(curve.Gen2())
	bits := b[0] & 0xe0
	b[0] &= 0x1f
	c := slices.Concat(b[48:], b[:48])
	c[0] |= bits
	if p, e := Read2(c); p == curve.Gen2() || e == api.OK {
		t.Errorf("%v %v", p, e)
	}
}

// P5.3

func TestNear(t *testing.T) { both(t, near[api.P1], near[api.P2]) }

func near[P comparable](t *testing.T, s side[P]) {
	seen := map[int]int{}
	for _, start := range starts() {
		x := pairOf(start)
		if s.length == 48 {
			x[1].SetInt64(0)
		}
		k := 0
		for !x.cubed(s.beside).isSquare(s.field) {
			x = x.plus(of(1, 0))
			k++
		}
		p, found := s.near(start)
		gotX, y, zero := s.parts(p)
		if found != k || zero || !gotX.same(x) || y.greater() || !s.check(p) {
			t.Errorf("%v: %v %v, not %v %v", start, p, found, x, k)
		}
		seen[k]++
	}
	if seen[0] == 0 || seen[1] == 0 || seen[2] == 0 {
		t.Error(seen)
	}
}

// From what is below p, and from the greatest number on, the numbers go on at what is
// left of them.
func TestNearWraps(t *testing.T) {
	if p, k := Near1(down(modulus.Base(), 1)); p != (api.P1{Y: small(2)}) || k != 1 {
		t.Errorf("%v %v", p, k)
	}
	m, _ := modulus.New(modulus.Base())
	if p, k := Near1(top); k != 2 || p.X != m.Add(top, small(2)) {
		t.Errorf("%v %v", p, k)
	}
	if p, k := Near2(api.E2{top}); k != 3 || p.X != tower.Add2(api.E2{top}, api.E2{small(3)}) {
		t.Errorf("%v %v", p, k)
	}
}

func TestNearFlat(t *testing.T) {
	for _, p := range flat(t) {
		minus, _ := curve.Neg2(p)
		q, k := Near2(p.X)
		if q != p && q != minus || k != 0 || pairOf(q.Y).greater() {
			t.Errorf("%v: %v %v", p, q, k)
		}
	}
}

func TestClear(t *testing.T) { both(t, cleared[api.P1], cleared[api.P2]) }

func cleared[P comparable](t *testing.T, s side[P]) {
	for _, p := range slices.Concat(s.inside()[:5], s.outside()[:10]) {
		q, e := s.clear(p)
		if e != api.OK || q != s.times(p, cofactors[s.which]) || !s.in(q) {
			t.Errorf("%v: %v %v", p, q, e)
		}
	}
	if q, e := s.clear(s.zero); q != s.zero || e != api.OK {
		t.Errorf("%v %v", q, e)
	}
}

// What is beside the group is the zero, when it is cleared.
func TestClearBeside(t *testing.T) { both(t, clearedBeside[api.P1], clearedBeside[api.P2]) }

func clearedBeside[P comparable](t *testing.T, s side[P]) {
	for _, p := range s.outside()[:4] {
		beside := s.times(p, bigOf(modulus.Order()))
		if q, e := s.clear(beside); q != s.zero || e != api.OK || beside == s.zero {
			t.Errorf("%v: %v %v", beside, q, e)
		}
	}
}

func TestClearWrong(t *testing.T) {
	for _, p := range wrong1() {
		if q, e := Clear1(p); q != (api.P1{}) || e != api.ErrPoint {
			t.Errorf("%v: %v %v", p, q, e)
		}
	}
	for _, p := range wrong2() {
		if q, e := Clear2(p); q != (api.P2{}) || e != api.ErrPoint {
			t.Errorf("%v: %v %v", p, q, e)
		}
	}
}

func TestCofactorWords(t *testing.T) {
	for i, digits := range []string{firstCofactor, secondCofactor} {
		all := new(big.Int)
		for _, word := range slices.Backward(wordsOf(digits)) {
			all.Lsh(all, 64).Add(all, new(big.Int).SetUint64(word))
		}
		if all.Cmp(cofactors[i]) != 0 {
			t.Errorf("%x", all)
		}
	}
}

// P5.4

func TestThereAndBack(t *testing.T) { both(t, thereAndBack[api.P1], thereAndBack[api.P2]) }

func thereAndBack[P comparable](t *testing.T, s side[P]) {
	for _, x := range starts()[20:40] {
		near, _ := s.near(x)
		p, _ := s.clear(near)
		minus, _ := s.neg(p)
		for _, q := range []P{p, minus} {
			b, e := s.bytes(q)
			if e != api.OK {
				t.Fatal(e)
			}
			if got, e := s.read(b); got != q || e != api.OK {
				t.Errorf("%v: %v %v", q, got, e)
			}
		}
	}
}

// Each element has one text: whatever bit of it is turned, what is read then, if
// anything is, has just these bytes.
func TestOneText(t *testing.T) { both(t, oneText[api.P1], oneText[api.P2]) }

func oneText[P comparable](t *testing.T, s side[P]) {
	seen := map[api.Errno]int{}
	for i := range 8 * s.length {
		b := s.written(s.gen)
		b[i/8] ^= 1 << (i % 8)
		p, e := s.read(b)
		seen[e]++
		if e == api.OK && !bytes.Equal(s.written(p), b) {
			t.Errorf("%x: %v", b, p)
		}
	}
	if seen[api.OK] != 1 || seen[api.ErrBytes] < s.length || seen[api.ErrPoint] < s.length {
		t.Error(seen)
	}
}

// DOC.md, rule 4

func TestOwnMemory(t *testing.T) { both(t, ownMemory[api.P1], ownMemory[api.P2]) }

func ownMemory[P comparable](t *testing.T, s side[P]) {
	for _, p := range []P{s.gen, s.zero} {
		room := append(s.written(p), 1, 2, 3)
		before := slices.Clone(room)
		if q, e := s.read(room[:s.length]); q != p || e != api.OK || !bytes.Equal(room, before) {
			t.Errorf("%v %v %v", q, e, room)
		}
		a, _ := s.bytes(p)
		b, _ := s.bytes(p)
		clear(a[:cap(a)])
		if !bytes.Equal(b, s.written(p)) {
			t.Error(b)
		}
	}
}
