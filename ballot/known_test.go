package ballot

import (
	"bytes"
	"encoding/hex"
	"math/big"
	"testing"

	"reliquary/api"
)

// knownVote is a vote, and what another program made of the chapter's words: by which
// secret; Begin's bytes and Answer.
type knownVote struct {
	s             api.Suite
	secret        string
	v             api.Vote
	begin, answer string
}

func knownVotes() []knownVote {
	first := abc(1)
	last := api.Vote{Phase: api.Precommit, View: 1 << 30, Place: 1 << 30, Value: valueOf("abc"), From: 255}
	over := api.Vote{Phase: api.Timeout, View: 258, Place: 65536, From: 13}
	return []knownVote{
		{api.Little, "2", first, "00000000000005fa8a000000000001eff1", "b047"},
		{api.Little, "fff0", last, "000000000000020b5b00000000000b494f", "e657"},
		{api.Little, "dfd4", over, "0000000000000b79e90000000000078915", "f2eb"},
		{api.Middle, "2", first, "000d155838a3d8d0e5012a9f9b2828abe6", "435d24a2c21bec"},
		{api.Middle, "ffffffffffffd0", last, "000228c24bfc9674870147f194b187d084", "7e1d1ccd38be0c"},
		{api.Middle, "23456789abce1e", over, "000f54c1d4c5388442026c0b6e902887f1", "bbffdb440353c"},
		{
			api.Great, "2", first,
			"8536686df58678aa479413edacc40266b21ff0cf4b721ccfc7790b5978ada4fc467224f754b5df4b0e3c6c71037928cd",
			"39953af957929688544d0e9bd314a286d9aa584457c3b2ee7f03e5c278c5af73",
		},
		{
			api.Great, "73eda753299d7d483339d80809a1d80553bda402fffe5bfeffffffff00000000", last,
			"80024ac3252a01583c2b7046f992a6c33332235b63d9bc389c922ed94204d2b835d8afaf0f9a136f15af8bbb91a92a8b",
			"4fad6029c05b67cd8729be4a848ff2234d92f9f7dbd0015c7bc7bc719f51cbac",
		},
		{
			api.Great, "123456789abcdef", over,
			"977f19cf8baf69313c618519aa4a9144f5c750061814b482c4079007c9a28d9001a303df62885cc172a5d849b6b7d6d5",
			"414c4fb92586a13c470b116b7a97152a6f3d2e7eba238ebefb7d8545100cbeba",
		},
	}
}

// parsed tells the number of some digits.
func parsed(digits string) api.Num {
	x, ok := new(big.Int).SetString(digits, 16)
	if !ok {
		panic(digits)
	}
	return numOf(x)
}

// unhex tells bytes that stand as digits.
func unhex(digits string) []byte {
	b, err := hex.DecodeString(digits)
	if err != nil {
		panic(err)
	}
	return b
}

func TestKnownVotes(t *testing.T) {
	for _, k := range knownVotes() {
		got, e := Sign(k.s, parsed(k.secret), k.v)
		fine(t, e)
		if begin := bytesOf(got.Begin); !bytes.Equal(begin, unhex(k.begin)) || got.Answer != parsed(k.answer) {
			t.Errorf("%v: %x %x", k.v, begin, got.Answer)
		}
		got.Begin, got.Answer = api.Key{}, api.Num{}
		if got != k.v {
			t.Error(got, k.v)
		}
	}
}

// TestKnownBytes: of the vote of node 1, and of the certificate of the nodes 1 to 3.
func TestKnownBytes(t *testing.T) {
	for _, k := range []struct {
		s          api.Suite
		vote, cert string
	}{
		{
			api.Little,
			"00000003000000580000000500000008000000000000000100000008000000000000000000000008000000000000000100000020ba7816bf8f01cfea" +
				"414140de5dae2223b00361a396177a9cb410ff61f20015ad0000000800000000000000010000001100000000000005fa8a000000000001eff1000000" +
				"3000000000000000000000000000000000000000000000000000000000000000000000000000000000000000000000b047",
			"0000000d00000008000000000000000100000008000000000000000000000008000000000000000100000020ba7816bf8f01cfea414140de5dae2223" +
				"b00361a396177a9cb410ff61f20015ad0000000800000000000000010000001100000000000005fa8a000000000001eff10000003000000000000000" +
				"000000000000000000000000000000000000000000000000000000000000000000000000000000b047000000080000000000000002000000110000000" +
				"000000bd32500000000000443fa0000003000000000000000000000000000000000000000000000000000000000000000000000000000000000000000" +
				"0000005ec80000000800000000000000030000001100000000000003450b0000000000007590000000300000000000000000000000000000000000000" +
				"0000000000000000000000000000000000000000000000000000000748b",
		},
		{
			api.Great,
			"00000003000000580000000500000008000000000000000100000008000000000000000000000008000000000000000100000020ba7816bf8f01cfea" +
				"414140de5dae2223b00361a396177a9cb410ff61f20015ad000000080000000000000001000000308536686df58678aa479413edacc40266b21ff0cf" +
				"4b721ccfc7790b5978ada4fc467224f754b5df4b0e3c6c71037928cd000000300000000000000000000000000000000039953af957929688544d0e9b" +
				"d314a286d9aa584457c3b2ee7f03e5c278c5af73",
			"0000000d00000008000000000000000100000008000000000000000000000008000000000000000100000020ba7816bf8f01cfea414140de5dae2223" +
				"b00361a396177a9cb410ff61f20015ad000000080000000000000001000000308536686df58678aa479413edacc40266b21ff0cf4b721ccfc7790b59" +
				"78ada4fc467224f754b5df4b0e3c6c71037928cd000000300000000000000000000000000000000039953af957929688544d0e9bd314a286d9aa5844" +
				"57c3b2ee7f03e5c278c5af7300000008000000000000000200000030a342ed66285e3c4d32dfbe24ff7f8a0f2f2ff0e2e349df31608c7cde4f77d2bd" +
				"0d68b836e084b0f75df21b534917ee84000000300000000000000000000000000000000059f3282d3f0a982d8d91a8af984a759abf6703b3bd669999" +
				"4b63eaf0725e35f200000008000000000000000300000030b232a251547d1c40e8d56d566c9871be6d4851b670a1e8ea93fc38d7a98d5c26467b84a5" +
				"d34ecca96e2cc6448e02880b0000003000000000000000000000000000000000234eeba87c311f39f19184e3ccf95f2f87688f3c07591c16f4e59593" +
				"faeb933c",
		},
	} {
		one := sign(t, k.s, abc(1))
		b, e := Bytes(k.s, one)
		if e != api.OK || !bytes.Equal(b, unhex(k.vote)) {
			t.Errorf("%v: %x %v", k.s, b, e)
		}
		if back, e := Read(k.s, unhex(k.vote)); e != api.OK || back != one {
			t.Error(k.s, back, e)
		}
		c := certOf(one, sign(t, k.s, abc(2)), sign(t, k.s, abc(3)))
		b, e = CertBytes(k.s, c)
		if e != api.OK || !bytes.Equal(b, unhex(k.cert)) {
			t.Errorf("%v: %x %v", k.s, b, e)
		}
		if back, e := CertRead(k.s, unhex(k.cert)); e != api.OK || !same(back, c) {
			t.Error(k.s, back, e)
		}
	}
}
