package suite

import (
	"bytes"
	"math"
	"math/big"
	"slices"
	"testing"

	"reliquary/api"
	"reliquary/curve"
	"reliquary/little"
	"reliquary/pairing"
	"reliquary/words"
)

const full = math.MaxUint64

// zeroText is a text whose sig of the little suite is the zero.
const zeroText = "3046"

var top = api.Num{full, full, full, full, full, full}

func small(n uint64) api.Num { return words.Of(n) }

func texts(l ...string) [][]byte {
	var parts [][]byte
	for _, s := range l {
		parts = append(parts, []byte(s))
	}
	return parts
}

// good tells what a call answers that must not be refused.
func good[T any](t *testing.T) func(x T, e api.Errno) T {
	return func(x T, e api.Errno) T {
		t.Helper()
		if e != api.OK {
			t.Fatal(e)
		}
		return x
	}
}

func suites() []api.Suite { return []api.Suite{api.Great, api.Little, api.Middle} }

func strangeSuites() []api.Suite {
	return []api.Suite{3, -1, math.MaxInt, math.MinInt, 256, 257}
}

func eachSuite(t *testing.T, do func(t *testing.T, s api.Suite)) {
	t.Helper()
	for name, s := range map[string]api.Suite{"Great": api.Great, "Little": api.Little, "Middle": api.Middle} {
		t.Run(name, func(t *testing.T) { do(t, s) })
	}
}

// draw tells a number by a fixed rule.
func draw(state *uint64) api.Num {
	var a api.Num
	for i := range a {
		*state ^= *state << 13
		*state ^= *state >> 7
		*state ^= *state << 17
		a[i] = *state * 0x9e3779b97f4a7c15
	}
	return a
}

// scalarsOf tells scalars of a suite: the least ones, the greatest ones, and any.
func scalarsOf(t *testing.T, s api.Suite) []api.Num {
	t.Helper()
	r, state := tables()[s].r, uint64(3)
	l := []api.Num{small(0), small(1), small(2), small(3), mod(t, new(big.Int).Rsh(r, 1), r)}
	for n := int64(1); n < 4; n++ {
		l = append(l, mod(t, big.NewInt(-n), r), mod(t, bigOf(draw(&state)), r))
	}
	return l
}

// tooGreat tells numbers that are no scalars of a suite.
func tooGreat(t *testing.T, s api.Suite) []api.Num {
	t.Helper()
	r := tables()[s].r
	l := []api.Num{num(t, r), num(t, new(big.Int).Add(r, big.NewInt(1))), top, {5: 1}, num(t, tables()[s].p)}
	if s != api.Great {
		l = append(l, api.Num{1: 1}, api.Num{5, 0, 1}, small(full))
	}
	return l
}

// The chapter's examples

func TestExamples(t *testing.T) {
	if r, e := Order(api.Little); r != small(65521) || e != api.OK {
		t.Error(r, e)
	}
	if x, e := Add(api.Little, small(65520), small(2)); x != small(1) || e != api.OK {
		t.Error(x, e)
	}
	if x, e := Inv(api.Little, small(2)); x != small(32761) || e != api.OK {
		t.Error(x, e)
	}
	if x, e := Neg(api.Little, small(0)); x != small(0) || e != api.OK {
		t.Error(x, e)
	}
	if _, e := Add(api.Little, small(65521), small(0)); e != api.ErrArg {
		t.Error(e)
	}
	if _, e := Order(3); e != api.ErrArg {
		t.Error(e)
	}
	if _, e := Inv(api.Great, small(0)); e != api.ErrMissing {
		t.Error(e)
	}
	g := good[api.Key](t)(Gen(api.Great))
	if k, e := KeyMul(g, small(0)); k != (api.Key{P: api.P1{Zero: true}}) || e != api.OK {
		t.Error(k, e)
	}
	if KeyCheck(api.Key{}) || !SigCheck(api.Sig{S: api.Little, L: api.L1{Zero: true}}) {
		t.Error("checks")
	}
	if k, e := KeyAdd(good[api.Key](t)(Gen(api.Little)), good[api.Key](t)(Gen(api.Middle))); k != (api.Key{}) || e != api.ErrArg {
		t.Error(k, e)
	}
}

// P11.1

func TestOrder(t *testing.T) {
	eachSuite(t, func(t *testing.T, s api.Suite) {
		if r, e := Order(s); r != num(t, tables()[s].r) || e != api.OK {
			t.Error(r, e)
		}
	})
	for _, s := range strangeSuites() {
		if r, e := Order(s); r != (api.Num{}) || e != api.ErrArg {
			t.Error(s, r, e)
		}
	}
}

func TestScalars(t *testing.T) {
	eachSuite(t, func(t *testing.T, s api.Suite) {
		r := tables()[s].r
		check := func(name string, a, b api.Num, got api.Num, e api.Errno, want *big.Int) {
			t.Helper()
			if got != mod(t, want, r) || e != api.OK {
				t.Error(name, a, b, got, e)
			}
		}
		for _, a := range scalarsOf(t, s) {
			x, e := Neg(s, a)
			check("Neg", a, a, x, e, new(big.Int).Neg(bigOf(a)))
			for _, b := range scalarsOf(t, s) {
				x, e = Add(s, a, b)
				check("Add", a, b, x, e, new(big.Int).Add(bigOf(a), bigOf(b)))
				x, e = Sub(s, a, b)
				check("Sub", a, b, x, e, new(big.Int).Sub(bigOf(a), bigOf(b)))
				x, e = Mul(s, a, b)
				check("Mul", a, b, x, e, new(big.Int).Mul(bigOf(a), bigOf(b)))
			}
			if a == (api.Num{}) {
				continue
			}
			x, e = Inv(s, a)
			check("Inv", a, a, x, e, new(big.Int).ModInverse(bigOf(a), r))
		}
		if x, e := Inv(s, small(0)); x != (api.Num{}) || e != api.ErrMissing {
			t.Error("Inv of 0", x, e)
		}
	})
}

// scalarCalls tells the calls of two scalars, or of the first one.
func scalarCalls() map[string]func(s api.Suite, a, b api.Num) (api.Num, api.Errno) {
	return map[string]func(s api.Suite, a, b api.Num) (api.Num, api.Errno){
		"Add": Add, "Sub": Sub, "Mul": Mul,
		"Neg": func(s api.Suite, a, _ api.Num) (api.Num, api.Errno) { return Neg(s, a) },
		"Inv": func(s api.Suite, a, _ api.Num) (api.Num, api.Errno) { return Inv(s, a) },
	}
}

func TestNoScalars(t *testing.T) {
	for name, call := range scalarCalls() {
		for _, s := range suites() {
			for _, n := range tooGreat(t, s) {
				if x, e := call(s, n, small(1)); x != (api.Num{}) || e != api.ErrArg {
					t.Error(name, s, n, x, e)
				}
				if x, e := call(s, n, n); x != (api.Num{}) || e != api.ErrArg {
					t.Error(name, s, n, x, e)
				}
				if name == "Neg" || name == "Inv" {
					continue
				}
				for _, a := range []api.Num{small(0), small(1)} {
					if x, e := call(s, a, n); x != (api.Num{}) || e != api.ErrArg {
						t.Error(name, s, a, n, x, e)
					}
				}
			}
		}
		for _, s := range strangeSuites() {
			for _, n := range []api.Num{small(0), small(1), top} {
				if x, e := call(s, n, n); x != (api.Num{}) || e != api.ErrArg {
					t.Error(name, s, n, x, e)
				}
			}
		}
	}
}

// P11.2

func TestGenAndBase(t *testing.T) {
	eachSuite(t, func(t *testing.T, s api.Suite) {
		want := api.Key{S: s}
		if s == api.Great {
			want.P = curve.Gen1()
		} else {
			want.L = good[api.L1](t)(little.Gen(s))
		}
		g, e := Gen(s)
		if g != want || e != api.OK {
			t.Error(g, e)
		}
		h, e := Base(s)
		if h != baseOf(t, s, "reliquary") || e != api.OK {
			t.Error(h, e)
		}
		if !KeyCheck(g) || !KeyCheck(h) || h == g || h == keys().zero(s) {
			t.Error(g, h)
		}
	})
	for _, s := range strangeSuites() {
		if g, e := Gen(s); g != (api.Key{}) || e != api.ErrArg {
			t.Error(s, g, e)
		}
		if h, e := Base(s); h != (api.Key{}) || e != api.ErrArg {
			t.Error(s, h, e)
		}
	}
}

// As long as the zero is found, a byte 0 comes to the part.
func TestBasePassesTheZero(t *testing.T) {
	eachSuite(t, func(t *testing.T, s api.Suite) {
		zero, g := keys().zero(s), good[api.Key](t)(Gen(s))
		if zeroKey(s) != zero {
			t.Error(zeroKey(s))
		}
		for often := range 4 {
			var asked []string
			h, e := firstBeside(zero, func(part []byte) (api.Key, api.Errno) {
				asked = append(asked, string(part))
				if len(asked) <= often {
					return zero, api.OK
				}
				return g, api.OK
			})
			want := []string{"reliquary", "reliquary\x00", "reliquary\x00\x00", "reliquary\x00\x00\x00"}[:often+1]
			if h != g || e != api.OK || !slices.Equal(asked, want) {
				t.Error(often, h, e, asked)
			}
		}
	})
	if h, e := firstBeside(api.Key{}, func([]byte) (api.Key, api.Errno) { return api.Key{}, api.ErrPoint }); h != (api.Key{}) || e != api.ErrPoint {
		t.Error(h, e)
	}
}

func TestKeysAndSigs(t *testing.T) {
	t.Run("keys", func(t *testing.T) { testSide(t, keys()) })
	t.Run("sigs", func(t *testing.T) { testSide(t, sigs()) })
}

func testSide[P comparable](t *testing.T, d side[P]) {
	t.Run("check", func(t *testing.T) { testCheck(t, d) })
	t.Run("add", func(t *testing.T) { testAdd(t, d) })
	t.Run("mul", func(t *testing.T) { testMul(t, d) })
	t.Run("bytes", func(t *testing.T) { testBytes(t, d) })
	t.Run("read", func(t *testing.T) { testRead(t, d) })
	t.Run("refused", func(t *testing.T) { testRefused(t, d) })
	t.Run("group", func(t *testing.T) { testGroup(t, d) })
}

// all tells points that may be, of one suite.
func (d side[P]) all(t *testing.T, s api.Suite) []P {
	t.Helper()
	return append(d.samples(t, s), d.zero(s))
}

// bad tells what may not be.
func (d side[P]) bad(t *testing.T) []P {
	t.Helper()
	l := d.others(t)
	for _, s := range suites() {
		l = append(l, d.strays(t, s)...)
	}
	return l
}

func testCheck[P comparable](t *testing.T, d side[P]) {
	for _, s := range suites() {
		for _, p := range d.all(t, s) {
			if !d.check(p) || d.suiteOf(p) != s {
				t.Error(s, p)
			}
		}
	}
	for _, p := range d.bad(t) {
		if d.check(p) {
			t.Error(p)
		}
	}
}

func testAdd[P comparable](t *testing.T, d side[P]) {
	for _, s := range suites() {
		for _, a := range d.all(t, s) {
			for _, b := range d.all(t, s) {
				if got, e := d.add(a, b); got != good[P](t)(d.lowAdd(a, b)) || e != api.OK {
					t.Error(a, b, got, e)
				}
			}
		}
	}
}

func testMul[P comparable](t *testing.T, d side[P]) {
	var none P
	for _, s := range suites() {
		for _, a := range d.all(t, s) {
			for _, n := range scalarsOf(t, s) {
				if got, e := d.mul(a, n); got != good[P](t)(d.lowMul(a, n)) || e != api.OK {
					t.Error(a, n, got, e)
				}
			}
			for _, n := range tooGreat(t, s) {
				if got, e := d.mul(a, n); got != none || e != api.ErrArg {
					t.Error(a, n, got, e)
				}
			}
			if got, e := d.mul(a, small(0)); got != d.zero(s) || e != api.OK {
				t.Error(a, got, e)
			}
		}
	}
}

func testBytes[P comparable](t *testing.T, d side[P]) {
	for _, s := range suites() {
		for _, a := range d.all(t, s) {
			b, e := d.bytes(a)
			if !bytes.Equal(b, good[[]byte](t)(d.lowBytes(a))) || len(b) != d.size(s) || e != api.OK {
				t.Error(a, b, e)
			}
			if got, e := d.read(s, b); got != a || e != api.OK {
				t.Error(a, got, e)
			}
			// An answer is new memory.
			kept := bytes.Clone(b)
			clear(b[:cap(b)])
			if !bytes.Equal(good[[]byte](t)(d.bytes(a)), kept) {
				t.Error(a)
			}
		}
	}
}

func testRead[P comparable](t *testing.T, d side[P]) {
	var none P
	refused := func(s api.Suite, b []byte, want api.Errno) {
		t.Helper()
		if got, e := d.read(s, b); got != none || e != want {
			t.Error(s, b, got, e)
		}
	}
	for _, s := range suites() {
		whole := good[[]byte](t)(d.bytes(d.samples(t, s)[0]))
		refused(s, nil, api.ErrBytes)
		refused(s, whole[:len(whole)-1], api.ErrBytes)
		refused(s, append(bytes.Clone(whole), 0), api.ErrBytes)
		refused(s, bytes.Repeat([]byte{255}, len(whole)), api.ErrBytes)
		for _, other := range suites() {
			if other != s && d.size(other) != d.size(s) {
				refused(other, whole, api.ErrBytes)
			}
		}
		for _, p := range d.strays(t, s) {
			refused(s, good[[]byte](t)(d.lowBytes(p)), api.ErrPoint)
		}
		// The suite comes ahead of the bytes.
		for _, strange := range strangeSuites() {
			refused(strange, whole, api.ErrArg)
			refused(strange, nil, api.ErrArg)
		}
		// Nothing is read behind the end.
		wide := append(bytes.Clone(whole), 1, 2, 3)
		if got, e := d.read(s, wide[:len(whole)]); got != d.samples(t, s)[0] || e != api.OK {
			t.Error(s, got, e)
		}
	}
	little, middle := d.samples(t, api.Little)[0], d.samples(t, api.Middle)[0]
	refused(api.Middle, good[[]byte](t)(d.bytes(little)), api.ErrBytes)
	refused(api.Little, good[[]byte](t)(d.bytes(middle)), api.ErrBytes)
}

func testRefused[P comparable](t *testing.T, d side[P]) {
	var none P
	for _, p := range d.bad(t) {
		for _, s := range suites() {
			// Of another suite, too, the point comes ahead.
			a := d.samples(t, s)[0]
			for _, l := range [][2]P{{p, a}, {a, p}, {p, d.zero(s)}, {d.zero(s), p}, {p, p}} {
				if got, e := d.add(l[0], l[1]); got != none || e != api.ErrPoint {
					t.Error(l, got, e)
				}
			}
		}
		for _, n := range []api.Num{small(0), small(1), top} {
			if got, e := d.mul(p, n); got != none || e != api.ErrPoint {
				t.Error(p, n, got, e)
			}
		}
		if b, e := d.bytes(p); b != nil || e != api.ErrPoint {
			t.Error(p, b, e)
		}
	}
	for _, s := range suites() {
		for _, other := range suites() {
			for _, l := range [][2]P{{d.samples(t, s)[0], d.samples(t, other)[0]}, {d.zero(s), d.zero(other)}} {
				if got, e := d.add(l[0], l[1]); s != other && (got != none || e != api.ErrArg) {
					t.Error(l, got, e)
				}
			}
		}
	}
}

// P11.5, of groups

func testGroup[P comparable](t *testing.T, d side[P]) {
	for _, s := range suites() {
		zero, minus := d.zero(s), good[api.Num](t)(Neg(s, small(1)))
		add := func(a, b P) P { return good[P](t)(d.add(a, b)) }
		mul := func(a P, n api.Num) P { return good[P](t)(d.mul(a, n)) }
		l := d.samples(t, s)
		for i, a := range l {
			b, c := l[(i+1)%len(l)], l[(i+2)%len(l)]
			if add(a, b) != add(b, a) || add(add(a, b), c) != add(a, add(b, c)) || add(a, zero) != a {
				t.Error(s, a, b, c)
			}
			// r times a point is the zero, and no less than that is.
			if add(mul(a, minus), a) != zero || mul(a, small(1)) != a || mul(a, minus) == zero {
				t.Error(s, a)
			}
			for _, m := range scalarsOf(t, s)[4:8] {
				for _, n := range scalarsOf(t, s)[6:9] {
					sum, product := good[api.Num](t)(Add(s, m, n)), good[api.Num](t)(Mul(s, m, n))
					if mul(a, sum) != add(mul(a, m), mul(a, n)) || mul(a, product) != mul(mul(a, m), n) {
						t.Error(s, a, m, n)
					}
				}
			}
		}
	}
}

func TestKeyNeg(t *testing.T) {
	d := keys()
	for _, s := range suites() {
		for _, a := range d.all(t, s) {
			want := a
			if s == api.Great {
				want.P = good[api.P1](t)(curve.Neg1(a.P))
			} else {
				want.L = good[api.L1](t)(little.Neg(s, a.L))
			}
			got, e := KeyNeg(a)
			if got != want || e != api.OK {
				t.Error(a, got, e)
			}
			if good[api.Key](t)(KeyAdd(a, got)) != d.zero(s) {
				t.Error(a)
			}
		}
	}
	for _, p := range d.bad(t) {
		if got, e := KeyNeg(p); got != (api.Key{}) || e != api.ErrPoint {
			t.Error(p, got, e)
		}
	}
}

// P11.3

// partLists tells lists of parts, of which no two are the same.
func partLists() [][][]byte {
	l := [][][]byte{
		nil, texts(""), texts("", ""), texts("\x00"), texts("\x00\x00\x00\x00"), texts("a"), texts("ab"), texts("a", "b"),
		texts("a", "b", ""), texts("", "a", "b"), texts("b", "a"), texts("reliquary"), texts("reliquary\x00"),
		texts("a\x00\x00\x00\x01b"), texts(zeroText),
	}
	for _, n := range []int{50, 55, 56, 57, 58, 63, 64, 65, 255, 256, 257, 65535 - 4, 65536 - 4} {
		l = append(l, [][]byte{bytes.Repeat([]byte{7}, n)})
	}
	return append(l, make([][]byte, 65536/4), [][]byte{make([]byte, 32768-4), make([]byte, 32768-4)})
}

func TestHashes(t *testing.T) {
	eachSuite(t, func(t *testing.T, s api.Suite) {
		nums, points := map[api.Num]int{}, map[api.Sig]int{}
		for i, parts := range partLists() {
			n, e := HashNum(s, parts)
			if n != mod(t, wideOf(2, parts), tables()[s].r) || e != api.OK {
				t.Error(i, n, e)
			}
			sig, e := HashSig(s, parts)
			if sig != sigOf(t, s, parts) || !SigCheck(sig) || e != api.OK {
				t.Error(i, sig, e)
			}
			nums[n]++
			points[sig]++
		}
		if s != api.Little && (len(nums) != len(partLists()) || len(points) != len(partLists())) {
			t.Error(len(nums), len(points))
		}
	})
}

func TestHashMayBeTheZero(t *testing.T) {
	if sig, e := HashSig(api.Little, texts(zeroText)); sig != sigs().zero(api.Little) || e != api.OK {
		t.Error(sig, e)
	}
}

// The empty list and the nil one are the same, and so are such parts.
func TestNilParts(t *testing.T) {
	for _, s := range suites() {
		for _, l := range [][2][][]byte{{nil, {}}, {{nil}, {{}}}} {
			if good[api.Num](t)(HashNum(s, l[0])) != good[api.Num](t)(HashNum(s, l[1])) {
				t.Error(s, l)
			}
			if good[api.Sig](t)(HashSig(s, l[0])) != good[api.Sig](t)(HashSig(s, l[1])) {
				t.Error(s, l)
			}
		}
	}
}

// longLists tells lists that are too long, by one byte or by much.
func longLists() [][][]byte {
	return [][][]byte{
		{make([]byte, 65533)}, {make([]byte, 65536)}, {make([]byte, 1<<20)}, {make([]byte, 1<<24), nil},
		make([][]byte, 65536/4+1), make([][]byte, 1<<20), {make([]byte, 32768-4), make([]byte, 32768-3)},
		append(make([][]byte, 65536/4-1), []byte{1}),
	}
}

func TestTooLong(t *testing.T) {
	for i, parts := range longLists() {
		for _, s := range suites() {
			if n, e := HashNum(s, parts); n != (api.Num{}) || e != api.ErrLong {
				t.Error(i, s, n, e)
			}
			if sig, e := HashSig(s, parts); sig != (api.Sig{}) || e != api.ErrLong {
				t.Error(i, s, sig, e)
			}
		}
		// The suite comes ahead of the length.
		for _, s := range strangeSuites() {
			hashRefused(t, s, parts)
		}
	}
	for _, s := range strangeSuites() {
		hashRefused(t, s, nil)
		hashRefused(t, s, texts("a text"))
	}
}

func hashRefused(t *testing.T, s api.Suite, parts [][]byte) {
	t.Helper()
	if n, e := HashNum(s, parts); n != (api.Num{}) || e != api.ErrArg {
		t.Error(s, n, e)
	}
	if sig, e := HashSig(s, parts); sig != (api.Sig{}) || e != api.ErrArg {
		t.Error(s, sig, e)
	}
}

// What is handed in stays as it is, its spare room too, and that is not looked at.
func TestPartsAreLeftAlone(t *testing.T) {
	for _, s := range suites() {
		var nums []api.Num
		var points []api.Sig
		for _, spare := range []byte{1, 2} {
			room := bytes.Repeat([]byte{spare}, 64)
			part := append(room[:0], "a text"...)
			parts := append(make([][]byte, 0, 4), part, part[:1])
			before, behind := bytes.Clone(room), slices.Clone(parts[:cap(parts)])
			nums = append(nums, good[api.Num](t)(HashNum(s, parts)))
			points = append(points, good[api.Sig](t)(HashSig(s, parts)))
			if !bytes.Equal(room, before) || !slices.EqualFunc(parts[:cap(parts)], behind, bytes.Equal) {
				t.Error(s, room)
			}
		}
		if nums[0] != nums[1] || points[0] != points[1] || points[0] != sigOf(t, s, texts("a text", "a")) {
			t.Error(s, nums, points)
		}
	}
}

// P11.4

// sameByNumbers tells what Verify must, by both numbers.
func sameByNumbers(t *testing.T, key api.Key, hash, sig api.Sig) bool {
	t.Helper()
	if key.S == api.Great {
		pair := func(p api.P1, q api.P2) api.E12 { return good[api.E12](t)(pairing.Pair(p, q)) }
		return pair(curve.Gen1(), sig.P) == pair(key.P, hash.P)
	}
	pair := func(p, q api.L1) api.L2 { return good[api.L2](t)(little.Pair(key.S, p, q)) }
	return pair(good[api.L1](t)(little.Gen(key.S)), sig.L) == pair(key.L, hash.L)
}

func TestVerifyIsByNumbers(t *testing.T) {
	eachSuite(t, func(t *testing.T, s api.Suite) {
		some := map[bool]int{}
		for _, key := range keys().all(t, s)[1:] {
			for _, hash := range sigs().all(t, s)[2:] {
				for _, sig := range sigs().all(t, s)[2:] {
					want := sameByNumbers(t, key, hash, sig)
					if got, e := Verify(key, hash, sig); got != want || e != api.OK {
						t.Error(key, hash, sig, got, e)
					}
					some[want]++
				}
			}
		}
		if some[true] == 0 || some[false] == 0 {
			t.Error(some)
		}
	})
}

// P11.5, of signatures

func TestVerify(t *testing.T) {
	eachSuite(t, func(t *testing.T, s api.Suite) {
		g, minus := good[api.Key](t)(Gen(s)), good[api.Num](t)(Neg(s, small(1)))
		for i, x := range scalarsOf(t, s) {
			text := good[api.Sig](t)(HashSig(s, [][]byte{{byte(i)}}))
			key, sig := good[api.Key](t)(KeyMul(g, x)), good[api.Sig](t)(SigMul(text, x))
			if ok, e := Verify(key, text, sig); !ok || e != api.OK {
				t.Error(x, ok, e)
			}
			for _, off := range []api.Num{small(1), minus} {
				y := good[api.Num](t)(Add(s, x, off))
				if ok, e := Verify(key, text, good[api.Sig](t)(SigMul(text, y))); ok || e != api.OK {
					t.Error(x, y, ok, e)
				}
				if ok, e := Verify(good[api.Key](t)(KeyMul(g, y)), text, sig); ok || e != api.OK {
					t.Error(x, y, ok, e)
				}
			}
			// The sig of one text is not that of another.
			other := good[api.Sig](t)(HashSig(s, texts("another")))
			if ok, e := Verify(key, other, sig); ok != (x == small(0)) || e != api.OK {
				t.Error(x, ok, e)
			}
		}
	})
}

// Of the zero's hash the zero is the sig, whatever the key; and of the zero's key.
func TestVerifyOfTheZero(t *testing.T) {
	eachSuite(t, func(t *testing.T, s api.Suite) {
		noKey, none := keys().zero(s), sigs().zero(s)
		h, text := good[api.Key](t)(Base(s)), good[api.Sig](t)(HashSig(s, texts("a text")))
		for _, l := range []struct {
			key       api.Key
			hash, sig api.Sig
			want      bool
		}{
			{h, none, none, true}, {noKey, text, none, true}, {noKey, none, none, true},
			{h, none, text, false}, {noKey, text, text, false}, {h, text, none, false},
		} {
			if ok, e := Verify(l.key, l.hash, l.sig); ok != l.want || e != api.OK {
				t.Error(l, ok, e)
			}
		}
	})
}

func TestVerifyRefuses(t *testing.T) {
	refused := func(key api.Key, hash, sig api.Sig, want api.Errno) {
		t.Helper()
		if ok, e := Verify(key, hash, sig); ok || e != want {
			t.Error(key, hash, sig, ok, e)
		}
	}
	for _, s := range suites() {
		key, sig := keys().samples(t, s)[0], sigs().samples(t, s)[0]
		for _, other := range suites() {
			if other == s {
				continue
			}
			beside, foreign := keys().samples(t, other)[0], sigs().samples(t, other)[0]
			refused(beside, sig, sig, api.ErrArg)
			refused(key, foreign, sig, api.ErrArg)
			refused(key, sig, foreign, api.ErrArg)
			refused(keys().zero(other), sigs().zero(s), sigs().zero(s), api.ErrArg)
			// What may not be comes ahead of unlike suites.
			refused(keys().strays(t, other)[0], sig, sig, api.ErrPoint)
			refused(key, foreign, sigs().strays(t, s)[0], api.ErrPoint)
			refused(key, sigs().strays(t, s)[0], foreign, api.ErrPoint)
		}
	}
	for _, bad := range keys().bad(t) {
		sig := sigs().zero(api.Little)
		refused(bad, sig, sig, api.ErrPoint)
		sig.S = bad.S
		refused(bad, sig, sig, api.ErrPoint)
	}
	for _, bad := range sigs().bad(t) {
		key, sig := keys().zero(api.Middle), sigs().zero(api.Middle)
		refused(key, bad, sig, api.ErrPoint)
		refused(key, sig, bad, api.ErrPoint)
		refused(key, bad, bad, api.ErrPoint)
	}
}

// The zero's hash that a text has.
func TestVerifyOfATextWithoutASig(t *testing.T) {
	text := good[api.Sig](t)(HashSig(api.Little, texts(zeroText)))
	key := good[api.Key](t)(Base(api.Little))
	if ok, e := Verify(key, text, good[api.Sig](t)(SigMul(text, small(7)))); !ok || e != api.OK {
		t.Error(ok, e)
	}
}
