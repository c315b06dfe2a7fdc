package ballot

import (
	"cmp"
	"slices"

	"reliquary/api"
	"reliquary/suite"
	"reliquary/words"
)

// nonceTag is what is hashed ahead of a secret, so that a nonce is no other number.
const nonceTag = "reliquary nonce"

// isSuite tells whether there is such a suite.
func isSuite(s api.Suite) bool {
	_, e := suite.Order(s)
	return e == api.OK
}

// isScalar tells whether a number is below the order of a suite.
func isScalar(s api.Suite, n api.Num) bool {
	r, e := suite.Order(s)
	return e == api.OK && words.Compare(n, r) < 0
}

// isSecret tells whether a number is a scalar from 1 on.
func isSecret(s api.Suite, n api.Num) bool { return isScalar(s, n) && n != api.Num{} }

// areNodes tells whether these are nodes' keys, and a quorum of so many.
func areNodes(keys []api.Key, quorum int) bool {
	if len(keys) > api.MaxNodes || quorum < 1 || quorum > len(keys) {
		return false
	}
	return !slices.ContainsFunc(keys, func(k api.Key) bool {
		return k.S != keys[0].S || !suite.KeyCheck(k)
	})
}

// signOf tells a vote's signature.
func signOf(v api.Vote) api.Signed {
	return api.Signed{From: v.From, Begin: v.Begin, Answer: v.Answer}
}

// signed tells the signature of a matter by the node with this number.
func signed(s api.Suite, secret api.Num, m matter, from int) (api.Signed, api.Errno) {
	said := m.words(from)
	k, e1 := nonce(s, secret, said)
	g, e2 := suite.Gen(s)
	key, e3 := suite.KeyMul(g, secret)
	begin, e4 := suite.KeyMul(g, k)
	c, e5 := challenge(key, begin, said)
	part, e6 := suite.Mul(s, c, secret)
	answer, e7 := suite.Add(s, k, part)
	if e := cmp.Or(e1, e2, e3, e4, e5, e6, e7); e != api.OK {
		return api.Signed{}, e
	}
	return api.Signed{From: from, Begin: begin, Answer: answer}, api.OK
}

// nonce tells the nonce of a secret for these words. It hangs on them, so that no nonce
// answers two challenges.
func nonce(s api.Suite, secret api.Num, said []byte) (api.Num, api.Errno) {
	k, e := suite.HashNum(s, [][]byte{[]byte(nonceTag), words.Bytes(secret), said})
	return noZero(k), e
}

// noZero tells 1 of 0, and any other number as it is.
func noZero(k api.Num) api.Num {
	if k == (api.Num{}) {
		return words.Of(1)
	}
	return k
}

// challenge tells the challenge to which a signature of these words answers.
func challenge(key, begin api.Key, said []byte) (api.Num, api.Errno) {
	a, e1 := suite.KeyBytes(key)
	b, e2 := suite.KeyBytes(begin)
	if e := cmp.Or(e1, e2); e != api.OK {
		return api.Num{}, e
	}
	return suite.HashNum(key.S, [][]byte{a, b, said})
}

// holds tells whether a signature of a matter that may be holds for a key. Whatever may
// not be of the key, or of the signature, is refused by suite.
func holds(key api.Key, m matter, x api.Signed) bool {
	c, e := challenge(key, x.Begin, m.words(x.From))
	if e != api.OK {
		return false
	}
	g, e1 := suite.Gen(key.S)
	left, e2 := suite.KeyMul(g, x.Answer)
	part, e3 := suite.KeyMul(key, c)
	right, e4 := suite.KeyAdd(x.Begin, part)
	return cmp.Or(e1, e2, e3, e4) == api.OK && left == right
}
