package ballot

import (
	"bytes"
	"crypto/sha256"
	"encoding/binary"
	"math/big"
	"slices"
	"testing"

	"reliquary/api"
	"reliquary/suite"
	"reliquary/words"
)

// The chapter's words once more, with math/big and Go's own digest and bytes.

// suites are all of them.
func suites() []api.Suite { return []api.Suite{api.Little, api.Middle, api.Great} }

// notSuites are numbers that are no suite.
func notSuites() []api.Suite { return []api.Suite{-1, 3, 4, 255, 256, 1 << 32, -1 << 63} }

// fine looks whether nothing was refused.
func fine(t *testing.T, all ...api.Errno) {
	t.Helper()
	for _, e := range all {
		if e != api.OK {
			t.Fatal(e)
		}
	}
}

// bigOf tells a number as Go's own.
func bigOf(n api.Num) *big.Int {
	x := new(big.Int)
	for i := range n {
		x.Add(x, new(big.Int).Lsh(new(big.Int).SetUint64(n[i]), uint(64*i)))
	}
	return x
}

// numOf tells Go's own number as one of 384 bits.
func numOf(x *big.Int) api.Num {
	b := x.FillBytes(make([]byte, 48))
	var n api.Num
	for i := range n {
		n[i] = binary.BigEndian.Uint64(b[40-8*i:])
	}
	return n
}

// orderOf tells a suite's order.
func orderOf(s api.Suite) *big.Int {
	r, e := suite.Order(s)
	if e != api.OK {
		panic(e)
	}
	return bigOf(r)
}

// under tells a suite's order less k.
func under(s api.Suite, k int64) api.Num {
	return numOf(new(big.Int).Sub(orderOf(s), big.NewInt(k)))
}

// times tells a key times a number.
func times(n api.Num, k api.Key) api.Key {
	p, e := suite.KeyMul(k, n)
	if e != api.OK {
		panic(e)
	}
	return p
}

// keyOf tells the key of a secret.
func keyOf(s api.Suite, n api.Num) api.Key {
	g, _ := suite.Gen(s)
	return times(n, g)
}

// keysOf tells the keys of nodes with the secrets 2, 3, 4, ..
func keysOf(s api.Suite, n int) []api.Key {
	var l []api.Key
	for i := range n {
		l = append(l, keyOf(s, words.Of(uint64(2+i))))
	}
	return l
}

// zeroOf tells a suite's zero.
func zeroOf(s api.Suite) api.Key {
	if s == api.Great {
		return api.Key{P: api.P1{Zero: true}}
	}
	return api.Key{S: s, L: api.L1{Zero: true}}
}

// notKeys are keys that may not be.
func notKeys(s api.Suite) []api.Key {
	g := keyOf(s, words.Of(5))
	off, spare, zero := g, g, zeroOf(s)
	if s == api.Great {
		off.P.Y[0]++
		spare.L.X = 1
		zero.P.X[0] = 1
		return []api.Key{{}, {S: 3}, {S: -1, P: g.P}, {S: api.Little, P: g.P}, off, spare, zero, {P: api.P1{Y: words.Of(2)}}}
	}
	off.L.Y++
	spare.P.X[0] = 1
	zero.L.X = 1
	return []api.Key{{S: s}, {S: 3, L: g.L}, {S: -1, L: g.L}, {L: g.L}, off, spare, zero, {S: s, P: g.P, L: api.L1{}}, {}}
}

// bytesOf tells a key's bytes.
func bytesOf(k api.Key) []byte {
	b, e := suite.KeyBytes(k)
	if e != api.OK {
		panic(e)
	}
	return b
}

// eightOf tells a number's eight bytes.
func eightOf(n int) []byte { return binary.BigEndian.AppendUint64(nil, uint64(n)) }

// lengths tells parts, each with its length ahead.
func lengths(parts ...[]byte) []byte {
	var b []byte
	for _, p := range parts {
		b = append(binary.BigEndian.AppendUint32(b, uint32(len(p))), p...)
	}
	return b
}

// text tells fields as one text.
func text(fields ...[]byte) []byte {
	return append(binary.BigEndian.AppendUint32(nil, uint32(len(fields))), lengths(fields...)...)
}

// saidOf tells what a vote's words are.
func saidOf(v api.Vote) []byte {
	return text(eightOf(v.Phase), eightOf(v.View), eightOf(v.Place), v.Value[:], eightOf(v.From))
}

// scalarOf tells the scalar of parts.
func scalarOf(s api.Suite, parts ...[]byte) *big.Int {
	b := lengths(parts...)
	first := sha256.Sum256(append([]byte{2, 0}, b...))
	second := sha256.Sum256(append([]byte{2, 1}, b...))
	wide := new(big.Int).SetBytes(append(first[:], second[:]...))
	return wide.Mod(wide, orderOf(s))
}

// nonceOf tells the nonce, before 0 becomes 1.
func nonceOf(s api.Suite, secret api.Num, v api.Vote) *big.Int {
	return scalarOf(s, []byte("reliquary nonce"), bigOf(secret).FillBytes(make([]byte, 48)), saidOf(v))
}

// challengeOf tells the challenge of a vote that has its Begin.
func challengeOf(key api.Key, v api.Vote) *big.Int {
	return scalarOf(key.S, bytesOf(key), bytesOf(v.Begin), saidOf(v))
}

// by tells a vote with the signature that this nonce makes.
func by(s api.Suite, secret, k api.Num, v api.Vote) api.Vote {
	v.Begin = keyOf(s, k)
	c := challengeOf(keyOf(s, secret), v)
	c.Mul(c, bigOf(secret)).Add(c, bigOf(k)).Mod(c, orderOf(s))
	v.Answer = numOf(c)
	return v
}

// signedOf tells a vote with the signature of its words.
func signedOf(s api.Suite, secret api.Num, v api.Vote) api.Vote {
	k := nonceOf(s, secret, v)
	if k.Sign() == 0 {
		k.SetInt64(1)
	}
	return by(s, secret, numOf(k), v)
}

// voteBytes tells a vote's bytes.
func voteBytes(v api.Vote) []byte {
	return text(saidOf(v), bytesOf(v.Begin), bigOf(v.Answer).FillBytes(make([]byte, 48)))
}

// certFields tells a certificate's fields.
func certFields(c api.Cert) [][]byte {
	l := [][]byte{eightOf(c.Phase), eightOf(c.View), eightOf(c.Place), c.Value[:]}
	for _, x := range c.Signs {
		l = append(l, eightOf(x.From), bytesOf(x.Begin), bigOf(x.Answer).FillBytes(make([]byte, 48)))
	}
	return l
}

// certOf tells the certificate of votes for one value.
func certOf(votes ...api.Vote) api.Cert {
	v := votes[0]
	c := api.Cert{Phase: v.Phase, View: v.View, Place: v.Place, Value: v.Value}
	for _, v := range votes {
		c.Signs = append(c.Signs, api.Signed{From: v.From, Begin: v.Begin, Answer: v.Answer})
	}
	return c
}

// same tells whether two certificates are the same.
func same(a, b api.Cert) bool {
	return a.Phase == b.Phase && a.View == b.View && a.Place == b.Place && a.Value == b.Value && slices.Equal(a.Signs, b.Signs)
}

// valueOf tells the digest of a text.
func valueOf(s string) api.Digest { return sha256.Sum256([]byte(s)) }

// abc is the vote of the chapter's example, from this node.
func abc(from int) api.Vote {
	return api.Vote{Phase: api.Prevote, Place: 1, Value: valueOf("abc"), From: from}
}

// secretOf tells the secret of a node: 2, 3, 4, ..
func secretOf(from int) api.Num { return words.Of(uint64(1 + from)) }

// sign signs a vote by its node's secret.
func sign(t testing.TB, s api.Suite, v api.Vote) api.Vote {
	t.Helper()
	got, e := Sign(s, secretOf(v.From), v)
	if e != api.OK {
		t.Fatal(e)
	}
	return got
}

// goodVotes are votes that say what may be, at the bounds too.
func goodVotes() []api.Vote {
	l := []api.Vote{abc(1), abc(2), abc(255)}
	for phase := 1; phase <= 3; phase++ {
		for _, view := range []int{0, 1, 255, 256, 1<<30 - 1, 1 << 30} {
			v := api.Vote{Phase: phase, View: view, Place: 1<<30 - view, From: 1 + view%13}
			l = append(l, v)
			if phase != api.Timeout {
				v.Value = valueOf("value")
				l = append(l, v)
			}
		}
	}
	return l
}

// badVotes are votes that say what may not be, by the one thing that is wrong. From is
// wrong where the name says so.
func badVotes() map[string]api.Vote {
	m := map[string]api.Vote{}
	put := func(name string, change func(v *api.Vote)) {
		v := abc(1)
		change(&v)
		m[name] = v
	}
	put("Phase 0", func(v *api.Vote) { v.Phase = 0 })
	put("Phase 4", func(v *api.Vote) { v.Phase = 4 })
	put("Phase -1", func(v *api.Vote) { v.Phase = -1 })
	put("Phase 257", func(v *api.Vote) { v.Phase = 257 })
	put("Phase 2^32 + 1", func(v *api.Vote) { v.Phase = 1<<32 + 1 })
	put("View -1", func(v *api.Vote) { v.View = -1 })
	put("View above", func(v *api.Vote) { v.View = 1<<30 + 1 })
	put("View far above", func(v *api.Vote) { v.View = 1<<63 - 1 })
	put("View far below", func(v *api.Vote) { v.View = -1 << 63 })
	put("Place -1", func(v *api.Vote) { v.Place = -1 })
	put("Place above", func(v *api.Vote) { v.Place = 1<<30 + 1 })
	put("Place far above", func(v *api.Vote) { v.Place = 1<<62 + 1 })
	put("Place far below", func(v *api.Vote) { v.Place = -1 << 63 })
	put("Timeout of a value", func(v *api.Vote) { v.Phase = api.Timeout })
	put("Timeout of a last byte", func(v *api.Vote) { v.Phase, v.Value = api.Timeout, api.Digest{31: 1} })
	put("Timeout of a first byte", func(v *api.Vote) { v.Phase, v.Value = api.Timeout, api.Digest{128} })
	return m
}

// wrongFroms are numbers from which no vote is.
func wrongFroms() []int { return []int{0, -1, 256, 257, 1 << 32, 1<<32 + 1, 1<<63 - 1, -1 << 63} }

// turned tells bytes of which one bit is turned.
func turned(b []byte, i int) []byte {
	b = bytes.Clone(b)
	b[i/8] ^= 1 << (i % 8)
	return b
}
