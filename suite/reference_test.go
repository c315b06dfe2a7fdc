package suite

import (
	"crypto/sha256"
	"encoding/binary"
	"math/big"
	"testing"

	"reliquary/api"
	"reliquary/curve"
	"reliquary/little"
	"reliquary/point"
	"reliquary/words"
)

// The tests hold the package against the chapter's words: numbers by math/big, digests
// by crypto/sha256, points by the layers below.

// table is what a suite is: its field's prime and its order.
type table struct{ p, r *big.Int }

func tables() map[api.Suite]table {
	return map[api.Suite]table{
		api.Great: {
			numberOf("1a0111ea397fe69a4b1ba7b6434bacd764774b84f38512bf6730d2a0f6b0f6241eabfffeb153ffffb9feffffffffaaab"),
			numberOf("73eda753299d7d483339d80809a1d80553bda402fffe5bfeffffffff00000001"),
		},
		api.Little: {big.NewInt(786251), big.NewInt(65521)},
		api.Middle: {big.NewInt(1152921504606846223), big.NewInt(72057594037927889)},
	}
}

func numberOf(digits string) *big.Int {
	n, _ := new(big.Int).SetString(digits, 16)
	return n
}

func bigOf(a api.Num) *big.Int { return new(big.Int).SetBytes(words.Bytes(a)) }

func num(t *testing.T, n *big.Int) api.Num {
	t.Helper()
	a, e := words.Read(n.Bytes())
	if e != api.OK || n.Sign() < 0 {
		t.Fatal(n, e)
	}
	return a
}

// mod tells what is left of a number by another one.
func mod(t *testing.T, n, by *big.Int) api.Num {
	t.Helper()
	return num(t, new(big.Int).Mod(n, by))
}

// wideOf tells the wide number of a tag and parts.
func wideOf(tag byte, parts [][]byte) *big.Int {
	var text []byte
	for _, part := range parts {
		text = append(binary.BigEndian.AppendUint32(text, uint32(len(part))), part...)
	}
	var all []byte
	for _, half := range []byte{0, 1} {
		d := sha256.Sum256(append([]byte{tag, half}, text...))
		all = append(all, d[:]...)
	}
	return new(big.Int).SetBytes(all)
}

func littlePoint(t *testing.T, s api.Suite, x *big.Int) api.L1 {
	t.Helper()
	near, _, e := little.Near(s, mod(t, x, tables()[s].p)[0])
	if e != api.OK {
		t.Fatal(e)
	}
	return good[api.L1](t)(little.Clear(s, near))
}

// baseOf tells h of one part.
func baseOf(t *testing.T, s api.Suite, part string) api.Key {
	t.Helper()
	x := wideOf(1, [][]byte{[]byte(part)})
	if s != api.Great {
		return api.Key{S: s, L: littlePoint(t, s, x)}
	}
	near, _ := point.Near1(mod(t, x, tables()[s].p))
	return api.Key{P: good[api.P1](t)(point.Clear1(near))}
}

// sigOf tells the sig of parts.
func sigOf(t *testing.T, s api.Suite, parts [][]byte) api.Sig {
	t.Helper()
	if s != api.Great {
		return api.Sig{S: s, L: littlePoint(t, s, wideOf(3, parts))}
	}
	p := tables()[s].p
	near, _ := point.Near2(api.E2{mod(t, wideOf(3, parts), p), mod(t, wideOf(4, parts), p)})
	return api.Sig{P: good[api.P2](t)(point.Clear2(near))}
}

// side is one of the two kinds of points: the package's calls, and what the layers below
// tell of the same.
type side[P comparable] struct {
	check func(p P) bool
	add   func(a, b P) (P, api.Errno)
	mul   func(a P, n api.Num) (P, api.Errno)
	bytes func(a P) ([]byte, api.Errno)
	read  func(s api.Suite, b []byte) (P, api.Errno)

	suiteOf  func(a P) api.Suite
	zero     func(s api.Suite) P
	samples  func(t *testing.T, s api.Suite) []P // points of the group, none of them the zero
	strays   func(t *testing.T, s api.Suite) []P // points of the curve that are none of the group
	others   func(t *testing.T) []P              // what may not be, whatever the suite
	size     func(s api.Suite) int
	lowAdd   func(a, b P) (P, api.Errno)
	lowMul   func(a P, n api.Num) (P, api.Errno)
	lowBytes func(a P) ([]byte, api.Errno)
}

func keys() side[api.Key] {
	return side[api.Key]{
		check: KeyCheck, add: KeyAdd, mul: KeyMul, bytes: KeyBytes, read: ReadKey,
		suiteOf: func(a api.Key) api.Suite { return a.S },
		zero: func(s api.Suite) api.Key {
			return api.Key{S: s, P: api.P1{Zero: s == api.Great}, L: api.L1{Zero: s != api.Great}}
		},
		samples: sampleKeys,
		strays: func(t *testing.T, s api.Suite) []api.Key {
			if s == api.Great {
				return []api.Key{{P: api.P1{Y: words.Of(2)}}, {P: strayPoint1(t)}}
			}
			return []api.Key{{S: s}, {S: s, L: strayPoint(t, s)}}
		},
		others: otherKeys,
		size: func(s api.Suite) int {
			return map[api.Suite]int{api.Great: 48, api.Little: 17, api.Middle: 17}[s]
		},
		lowAdd: func(a, b api.Key) (api.Key, api.Errno) {
			if a.S == api.Great {
				p, e := curve.Add1(a.P, b.P)
				return api.Key{P: p}, e
			}
			p, e := little.Add(a.S, a.L, b.L)
			return api.Key{S: a.S, L: p}, e
		},
		lowMul: func(a api.Key, n api.Num) (api.Key, api.Errno) {
			if a.S == api.Great {
				p, e := curve.Mul1(a.P, n)
				return api.Key{P: p}, e
			}
			p, e := little.Mul(a.S, a.L, n[0])
			return api.Key{S: a.S, L: p}, e
		},
		lowBytes: func(a api.Key) ([]byte, api.Errno) {
			if a.S == api.Great {
				return point.Bytes1(a.P)
			}
			return little.Bytes(a.S, a.L)
		},
	}
}

func sigs() side[api.Sig] {
	return side[api.Sig]{
		check: SigCheck, add: SigAdd, mul: SigMul, bytes: SigBytes, read: ReadSig,
		suiteOf: func(a api.Sig) api.Suite { return a.S },
		zero: func(s api.Suite) api.Sig {
			return api.Sig{S: s, P: api.P2{Zero: s == api.Great}, L: api.L1{Zero: s != api.Great}}
		},
		samples: sampleSigs,
		strays: func(t *testing.T, s api.Suite) []api.Sig {
			if s == api.Great {
				return []api.Sig{{P: strayPoint2(t)}}
			}
			return []api.Sig{{S: s}, {S: s, L: strayPoint(t, s)}}
		},
		others: otherSigs,
		size: func(s api.Suite) int {
			return map[api.Suite]int{api.Great: 96, api.Little: 17, api.Middle: 17}[s]
		},
		lowAdd: func(a, b api.Sig) (api.Sig, api.Errno) {
			if a.S == api.Great {
				p, e := curve.Add2(a.P, b.P)
				return api.Sig{P: p}, e
			}
			p, e := little.Add(a.S, a.L, b.L)
			return api.Sig{S: a.S, L: p}, e
		},
		lowMul: func(a api.Sig, n api.Num) (api.Sig, api.Errno) {
			if a.S == api.Great {
				p, e := curve.Mul2(a.P, n)
				return api.Sig{P: p}, e
			}
			p, e := little.Mul(a.S, a.L, n[0])
			return api.Sig{S: a.S, L: p}, e
		},
		lowBytes: func(a api.Sig) ([]byte, api.Errno) {
			if a.S == api.Great {
				return point.Bytes2(a.P)
			}
			return little.Bytes(a.S, a.L)
		},
	}
}

func sampleKeys(t *testing.T, s api.Suite) []api.Key {
	t.Helper()
	if s == api.Great {
		g := curve.Gen1()
		return []api.Key{
			{P: g}, {P: good[api.P1](t)(curve.Neg1(g))}, {P: good[api.P1](t)(curve.Mul1(g, words.Of(77)))},
			baseOf(t, s, "another"),
		}
	}
	var l []api.Key
	for _, p := range samplePoints(t, s) {
		l = append(l, api.Key{S: s, L: p})
	}
	return l
}

func sampleSigs(t *testing.T, s api.Suite) []api.Sig {
	t.Helper()
	if s == api.Great {
		g := curve.Gen2()
		return []api.Sig{
			{P: g}, {P: good[api.P2](t)(curve.Neg2(g))}, {P: good[api.P2](t)(curve.Mul2(g, words.Of(77)))},
			sigOf(t, s, [][]byte{[]byte("another")}),
		}
	}
	var l []api.Sig
	for _, p := range samplePoints(t, s) {
		l = append(l, api.Sig{S: s, L: p})
	}
	return l
}

func samplePoints(t *testing.T, s api.Suite) []api.L1 {
	t.Helper()
	g := good[api.L1](t)(little.Gen(s))
	return []api.L1{
		g, good[api.L1](t)(little.Neg(s, g)), good[api.L1](t)(little.Mul(s, g, 77)),
		littlePoint(t, s, big.NewInt(1000)),
	}
}

// strayPoint1, strayPoint2, strayPoint tell points of the curves beside the groups.

func strayPoint1(t *testing.T) api.P1 {
	t.Helper()
	for n := uint64(1); ; n++ {
		if p, _ := point.Near1(words.Of(n)); !curve.In1(p) {
			return p
		}
	}
}

func strayPoint2(t *testing.T) api.P2 {
	t.Helper()
	for n := uint64(1); ; n++ {
		if p, _ := point.Near2(api.E2{words.Of(n)}); !curve.In2(p) {
			return p
		}
	}
}

func strayPoint(t *testing.T, s api.Suite) api.L1 {
	t.Helper()
	for n := uint64(1); ; n++ {
		p, _, e := little.Near(s, n)
		if e != api.OK {
			t.Fatal(e)
		}
		if !little.In(s, p) {
			return p
		}
	}
}

// otherKeys tells what may not be a key: what is no point, what has both parts, what has
// the part of another suite, and what has no suite.
func otherKeys(t *testing.T) []api.Key {
	t.Helper()
	great, p := curve.Gen1(), num(t, tables()[api.Great].p)
	up, _ := words.Add(great.X, p)
	l := []api.Key{
		{}, {P: api.P1{X: words.Of(1), Y: words.Of(1)}}, {P: api.P1{X: up, Y: great.Y}},
		{P: api.P1{X: great.X, Y: great.Y, Zero: true}}, {P: api.P1{X: words.Of(1), Zero: true}},
		{L: api.L1{Zero: true}},
	}
	for _, strange := range strangeSuites() {
		l = append(l, api.Key{S: strange}, api.Key{S: strange, P: great}, api.Key{S: strange, P: api.P1{Zero: true}},
			api.Key{S: strange, L: api.L1{Zero: true}}, api.Key{S: strange, L: api.L1{X: 9723, Y: 164643}})
	}
	for _, extra := range []api.L1{{Zero: true}, {X: 1}, {Y: 1}, {X: 9723, Y: 164643}} {
		l = append(l, api.Key{P: great, L: extra}, api.Key{P: api.P1{Zero: true}, L: extra})
	}
	for _, s := range []api.Suite{api.Little, api.Middle} {
		for _, bad := range badPoints(t, s) {
			l = append(l, api.Key{S: s, L: bad})
		}
		for _, extra := range []api.P1{{Zero: true}, {X: words.Of(1)}, {Y: api.Num{5: 1}}, great} {
			l = append(l, api.Key{S: s, P: extra, L: good[api.L1](t)(little.Gen(s))},
				api.Key{S: s, P: extra, L: api.L1{Zero: true}}, api.Key{S: s, P: extra})
		}
	}
	return l
}

// otherSigs tells likewise what may not be a sig.
func otherSigs(t *testing.T) []api.Sig {
	t.Helper()
	great, p := curve.Gen2(), num(t, tables()[api.Great].p)
	up, _ := words.Add(great.X[1], p)
	l := []api.Sig{
		{}, {P: api.P2{X: api.E2{words.Of(1)}, Y: api.E2{words.Of(1)}}},
		{P: api.P2{X: api.E2{great.X[0], up}, Y: great.Y}},
		{P: api.P2{X: great.X, Y: great.Y, Zero: true}}, {P: api.P2{X: api.E2{1: words.Of(1)}, Zero: true}},
		{L: api.L1{Zero: true}},
	}
	for _, strange := range strangeSuites() {
		l = append(l, api.Sig{S: strange}, api.Sig{S: strange, P: great}, api.Sig{S: strange, P: api.P2{Zero: true}},
			api.Sig{S: strange, L: api.L1{Zero: true}}, api.Sig{S: strange, L: api.L1{X: 9723, Y: 164643}})
	}
	for _, extra := range []api.L1{{Zero: true}, {X: 1}, {Y: 1}, {X: 9723, Y: 164643}} {
		l = append(l, api.Sig{P: great, L: extra}, api.Sig{P: api.P2{Zero: true}, L: extra})
	}
	for _, s := range []api.Suite{api.Little, api.Middle} {
		for _, bad := range badPoints(t, s) {
			l = append(l, api.Sig{S: s, L: bad})
		}
		for _, extra := range []api.P2{{Zero: true}, {X: api.E2{1: words.Of(1)}}, {Y: api.E2{1: api.Num{5: 1}}}, great} {
			l = append(l, api.Sig{S: s, P: extra, L: good[api.L1](t)(little.Gen(s))},
				api.Sig{S: s, P: extra, L: api.L1{Zero: true}}, api.Sig{S: s, P: extra})
		}
	}
	return l
}

// badPoints tells what is no point of a little curve, that of another one among it.
func badPoints(t *testing.T, s api.Suite) []api.L1 {
	t.Helper()
	g, p := good[api.L1](t)(little.Gen(s)), tables()[s].p.Uint64()
	return []api.L1{
		{X: 1, Y: 1}, {X: g.X, Y: g.Y + 1}, {X: g.X + p, Y: g.Y}, {X: g.X, Y: g.Y, Zero: true}, {X: 1, Zero: true},
		good[api.L1](t)(little.Gen(api.Little + api.Middle - s)),
	}
}
