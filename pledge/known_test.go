package pledge

import (
	"encoding/hex"
	"math/big"
	"strings"
	"testing"

	"reliquary/api"
	"reliquary/suite"
)

// What another program worked out from the chapter's words.

// known is what is known of one suite: two pairs of polynomials, the first one's pledge,
// what it says, the shares and the blinds at 1, 13 and 1,000, and the sum of both
// pledges. Keys are told by their bytes.
type known struct {
	s                    api.Suite
	a, b, pledge         string
	said, shares, blinds string
	a2, b2, sum          string
}

func allKnown() []known {
	return []known{
		{
			s: api.Little,
			a: "e7d8 b909 afae c963",
			b: "c439 e145 e794 26b5",
			pledge: "00000000000001561400000000000be8ba " +
				"000000000000097d25000000000008ed83 " +
				"00000000000006add900000000000b7ed2 " +
				"00000000000009dfe9000000000004f09d",
			said: "00000000000008e4390000000000092f1d " +
				"00000000000009be9f000000000002709d " +
				"000000000000048eb60000000000025257",
			shares: "1a1f 27b d852",
			blinds: "b3e5 61e6 9914",
			a2:     "4284 ac8b a2be d96e",
			b2:     "e7aa 19fc df43 53d2",
			sum: "0000000000000721860000000000051355 " +
				"00000000000006a50e0000000000044190 " +
				"0000000000000850bd00000000000b2eed " +
				"00000000000000bfc5000000000001a25b",
		},
		{
			s: api.Middle,
			a: "e7ca4392ac3d42 6e82a2b5c5cd1 68202169599354 1333bcfe6c2b03",
			b: "20050e1a6e72b9 7972a351b31a6c 94a67ff335c357 6977a4730bed9c",
			pledge: "000b1932e95834dd440222f569858c620c " +
				"000c99b43995358ea80d6d2ff2e9b7f52c " +
				"0001bd95de87f1962504c234ca8a1cb818 " +
				"00010da12f21999bf9049e474d1bf501fd",
			said: "0000bd122d40f1a1e10d9f04ece7b63335 " +
				"0009fa281f55a428290dbe791a90f941bc " +
				"00067c971292691d3c03db83f8dde50d04",
			shares: "6a064c25ce5899 c9cf69c8cc8208 4f9c7dc1c67fd5",
			blinds: "9795d5d2633e47 8c88202463a3af f667982b0bf63e",
			a2:     "332726356a4152 a0187b51209e8f ae6ac4e89c5bc7 54286155e7d67e",
			b2:     "17bcc76d683cf8 8491caa0afe356 d775f5ce3ad2b2 67a9b07dfb27e8",
			sum: "000a57b45fef8fd1380eeb5bd1273b10ff " +
				"0007408d9adb089aa30c9eaf01a96d499a " +
				"0002edbaa85b19c4070c67dd2c875f0e83 " +
				"000c1edbb3fba2d07c0edcb4568caac640",
		},
		{
			s: api.Great,
			a: "ab85e311832c9e233aa391808fc20813e1dcfb592bde31c34d2ea1614daf467 " +
				"20de42c7b0b4362e4e18a3634891a61bc3b1b366b1852ac840e0529930b9f609 " +
				"1df263c5b4ae3dd3447e604605f9eb87e7db270d1e2162169fbba63829d144e4 " +
				"6647e2930352a9bf0e56d5813cd158af92ed2607383c017bd756a407dbeece42",
			b: "2afd63c1a5998165b1dd1b80230a102c4786a2284cfdb1e79e1fcc46a5157170 " +
				"230bf6d5a37feba2ec246343272be0eae810b08a72880e4ab8a6acd699882356 " +
				"5a760329edc8144167e0e2a62a27ead5281f772f6ed299e4d532b79f8e41a78f " +
				"36dab72d94929216c79f25eefefa0243200c54e9b096ebf51efc20c9dcf8bef6",
			pledge: "a1b913f0bcdb43a36166db3df9d6c071e3d5b4638c083123a5176776f0dd5086e214a1732ebdd80c2d7b3dc892dfbed5 " +
				"90ff8af2ddf73f77af6e97cf9d3703847977d3791bf8d16269480285ee9a6d951a924d08af4fe53e6212af75170c68c5 " +
				"a48f04f5e682698f158e1f65760c5941ccf02148767b137c036f27072a891efff38082a43f14076854f886ba9059f1c7 " +
				"a8f5c38acb6cb31a0907abaf47354bbb47a5d28877c5999d24042fa8e88e64c606af7dd2173d5b56b97db044e65b89c8",
			said: "961f86b296246199ceabb6b1e705b9b6a6e5da082b360e95f94bcbfbb0030675d2406183301c0f0853ec1e1199d06974 " +
				"94ae5c152b3b81cdbb387f1c9bf62be8249df338c32100361e69960988715840254137926508d13486a3f353b1a64502 " +
				"87a4bb58e799ba3e1d2b683e7eb144b44e7e4405eceae591f542239e1a3899e987a0cb2c15436143003984ae69183c89",
			shares: "3be33ffe574a6a5aa15e3a3a8ab732cf28da2c2d9aa21577ecc586f04b54fd95 " +
				"5c32abaf2ea2b2853e0a4b28eb10261bd9935448223c37c6fda59624a1e30209 " +
				"57943392c0264e886de463a643be9cc0cabf672d377ceb49bc970091608db34b",
			blinds: "6b6c6d9ba1d696189a47af5069b6062a24057ac8def0ea0d4af55187a9d7fb4a " +
				"55bc0ec0f8338ef54d7dc4c8f65d6c703b8e3743cdacc2fda6d7347dbd15aacc " +
				"1d1e743df5cee050a58eec3c2ec5a727fa55266850c3e1ab590cd9096c475b10",
			a2: "18c1370584fd2ec50d44edc59b914a48e82458191dc903573959999c584355b8 " +
				"645828121d6597e214bc028ad6e8541a2c1d8f47fe1d515b2c1d87286fba579b " +
				"560ce07450b94098cc61175da6c67d82cf5d777f00830f1b4b216f91e25bd3ab " +
				"5cdc518ac34e9d45c1aa598c87c4ebf175187d21f3d9680166efbf7cbad32fc0",
			b2: "4754cae6748989b0f025f1e11e177c0b2a0227c8aad71c97d5f8822f0dea8095 " +
				"2a988e9217e00e581bcd4b53bf4b099c92e62e7212b6d519033e86fd556205aa " +
				"54f249f84d0eec27c7f99687a98b1a93f4c926dd15febbe2a487c24241df2a81 " +
				"59b3219381b32c2b835c8065383a102d31c43b4006f2f0d0c9a20e340b589fd6",
			sum: "8b4a7685d1cc0e53593bef09d8bbfd04ed97c233e2da1b957c01cb35f1c587a6a77ead896cafcda77cef7e97af9e944d " +
				"89cbcd94d06a114bb4dd0af30303a84400d4c6cb75169c7da2520b77182aa5e7770352263943d52697b3816976066ce2 " +
				"b4e16df3131e0764b81e397674b27e5cad6406d77210aa949443359a2231aa2413a47eef322faf04c7db3fab276bed0e " +
				"82e71896caa239f85958ebb75cb0299a6083c3af4a8f76337377afb5af3b076d5c3e870033763ce41f6fa3320e066d0f",
		},
	}
}

// read tells the numbers of a text of digits.
func read(t *testing.T, text string) []api.Num {
	t.Helper()
	var l []api.Num
	for _, word := range strings.Fields(text) {
		n, ok := new(big.Int).SetString(word, 16)
		if !ok {
			t.Fatal(word)
		}
		l = append(l, numOf(n))
	}
	return l
}

// texts tells keys by their bytes.
func texts(t *testing.T, keys ...api.Key) string {
	t.Helper()
	var l []string
	for _, k := range keys {
		l = append(l, hex.EncodeToString(good[[]byte](t)(suite.KeyBytes(k))))
	}
	return strings.Join(l, " ")
}

func TestKnown(t *testing.T) {
	for _, k := range allKnown() {
		a, b, shares, blinds := read(t, k.a), read(t, k.b), read(t, k.shares), read(t, k.blinds)
		c := good[[]api.Key](t)(Commit(k.s, a, b))
		if said := texts(t, c...); said != k.pledge {
			t.Error(k.s, said)
		}
		for i, at := range []int{1, 13, 1000} {
			want := strings.Fields(k.said)[i]
			if said := texts(t, good[api.Key](t)(At(c, at))); said != want {
				t.Error(k.s, at, said)
			}
			if said := texts(t, good[api.Key](t)(One(k.s, shares[i], blinds[i]))); said != want {
				t.Error(k.s, at, said)
			}
			if ok, e := Holds(c, at, shares[i], blinds[i]); !ok || e != api.OK {
				t.Error(k.s, at, ok, e)
			}
		}
		c2 := good[[]api.Key](t)(Commit(k.s, read(t, k.a2), read(t, k.b2)))
		if said := texts(t, good[[]api.Key](t)(Sum([][]api.Key{c, c2}))...); said != k.sum {
			t.Error(k.s, said)
		}
	}
}
