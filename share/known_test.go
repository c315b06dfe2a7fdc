package share

import (
	"encoding/hex"
	"math/big"
	"slices"
	"strings"
	"testing"

	"reliquary/api"
	"reliquary/curve"
	"reliquary/little"
	"reliquary/suite"
)

// What another program worked out from the chapter's words.

// known is what is known of one suite: of the ids 2, 999, 7, 1000, 31.
type known struct {
	s         api.Suite
	atZero    string // the Lagrange numbers at the place 0
	atFive    string
	coefs     string
	values    string // at 0, 1, 13, 1000
	shares    string // of no polynomial of fewer coefficients
	joined    string // at 0, 2, 6
	key, sig  string // the bytes of g, and of a sig, times the shares, joined at 0
	key6      string // and at 6
	sig6      string
	littleKey [2]api.L1 // the same of the little suites
}

func knownIDs() []int { return []int{2, 999, 7, 1000, 31} }

func allKnown() []known {
	return []known{
		{
			s:         api.Little,
			atZero:    "f9dc 42ea 1093 d6f2 db89",
			atFive:    "d0c2 d57e 5053 4a6a bed7",
			coefs:     "eef6 4b6e b080 11cf",
			values:    "eef6 fcc2 2d95 b79b",
			shares:    "ad11 a12 7ff7 16fe 54b5",
			joined:    "3077 ad11 912c",
			littleKey: [2]api.L1{{X: 601545, Y: 609332}, {X: 605488, Y: 256164}},
		},
		{
			s:      api.Middle,
			atZero: "412b53e5161797 9def2e342c5575 f89aaecaa26a8d c3e59550c12568 646539cb5a0273",
			atFive: "a895d3b38594c4 fff6f04a0afe60 87d8d8d26f634b 453584050b18b0 8a64df2af4f055",
			coefs:  "15a2d86abf6f3d fab36c67e55ccb bc1df1ef456583 3d7afc310b81ab",
			values: "15a2d86abf6f3d 9ef32f2f5b394 a0fa618df57376 5d8a0f0beb0844",
			shares: "b580a4f11e9ed c277adf716395b df66fe89d7415d ad6778d7ae1abb 25345515437379",
			joined: "8dde31f278cc84 b580a4f11e9ed faa6976aef19da",
			littleKey: [2]api.L1{
				{X: 132699661445283347, Y: 1042141436750226371}, {X: 643068158626721223, Y: 989598561298404268},
			},
		},
		{
			s: api.Great,
			atZero: "26f18888b2d2446699d395a044899268eaef3f01d59223eab7a70cc1e343e7a8 " +
				"145923e1411f5ae543870ff4a76b3fc467fd5ee01d1243e90c80ff0e1412c480 " +
				"7147986eb358e044c31217e191eb706d3ac52698c7c6b606f349796c12ff3a02 " +
				"18adf36445a2e65b1ea60888d7ebe9a8f9f40293fa72e6cc665449d051cca7f0 " +
				"229b1669664d94a4a760ea10bd7783c71fd580f74b1eb356e23a30f1a3dd71e9",
			atFive: "5da61cee430c3da2a20be6d913a2bd0eb0c8a16e3c636ae4fe1760aa8107d0fa " +
				"3f8fc6c90555dbe24335eb6a097a460a515d52767b0079a8225a49a7c8f29643 " +
				"2dabdd21f79078a1923a502eb381999209295b46c77cfcd7e177dccdd104c3e7 " +
				"54b85d27d99b657665400c35dd04eefecb5a6231bbf2a56e9e8547a0bfe6ea4e " +
				"3c2ed7f8634a803bbcf159706f41fc66248f3aabc5278d295f91313c2519ea92",
			coefs: "4ffcd9a5a520e741edaa2dc46330909576f22f33613dbc6118a8e598cf6afabc " +
				"64211e6ab407628b530f1dc670f0a93dd9668aa2035d22cdaa5e078e00e27385 " +
				"591ca189d14a312ef1c2a77f296fb941faad5e1518b05a8fc72d62557a61dd22 " +
				"6eaf0bf5adfe57b6b4945c3fbcf190a5dc2dbfbd27b547d164b90798a44daa32",
			values: "4ffcd9a5a520e741edaa2dc46330909576f22f33613dbc6118a8e598cf6afabc " +
				"2020af965b985ada4d62c7319d9cfbab2bfaeb9ea5056d92eeed5717eefcf592 " +
				"32493c2132d768d67542847ec0c87e1b2a9b6173ae7f0681a4536bf5b40b6a4a " +
				"709cc27536163c67ae467708c142b704f881818fe0e1f8ddd24e9c2903e18026",
			shares: "4dcf70a56a91ac0aa1142757dc3390dd2cc44ccfc428ca4bb571097c12996ced " +
				"6875f0b96e6d34b9e00eb26abde8b98f7ffee030cad0ac5e4362b850e7837f42 " +
				"1d31f8b7dfc1495d5d270dad30fd6deac2663c3454c8bc2ec4b8d9a2fb6331c4 " +
				"65e8890560fa28c51db1747919b1eb174532f0a459fefa6727771c0ddcd67f6 " +
				"36aa027e5469bcf0ea50205fd49c9ffba49c62c0275002d4e8156be1549dfe28",
			joined: "ddabb38622f12d8b257d79e9317cebc57972e74ba5d582b899dd1b4d85db18a " +
				"4dcf70a56a91ac0aa1142757dc3390dd2cc44ccfc428ca4bb571097c12996ced " +
				"3e54e0b28ec89899c8f0bd990b15a78ea5af3c6278cc1474123dcf4874edf88a",
			key:  "ad5c70f7bbbe729896d957e96231cfd055e17621bf194dec10a5910e57ec0366774002c7fe18a97a8890caf427a97420",
			key6: "b855e95d708c9f304cb3bfd5fc76303334a46e0755286cc392d4b60653c0df3abf1b5eac6626afad12bc61ac399fb34e",
			sig: "a43e1152b59d9795c11e78cfced54f7fa45bf1c8b8b962d286637ae914c7e48989e95421a0f10d51f18848a5baf81fdb" +
				"141c263e54dc28dc30ee304e1e0f567d5d481fc477001bd02825e440da02a44086351955fdadb53f8d9cb1492e9edee5",
			sig6: "b288e5538a7b680097f777e655df8fe0815f7d4ac59f3f418028af4b4a1765db1561519292524d76794d7c7b7b7cfef4" +
				"08e9179b074ffcab9208c9e733b2d78aa2cb0b72ec67e64147719add12a29de68b6dde55c3936a6cfb4445cf7c761e23",
		},
	}
}

// read tells the numbers of a text of digits.
func read(t *testing.T, text string) []api.Num {
	t.Helper()
	var l []api.Num
	for _, word := range strings.Fields(text) {
		n, ok := new(big.Int).SetString(word, 16)
		if !ok {
			t.Fatal(word)
		}
		l = append(l, numOf(n))
	}
	return l
}

func TestKnownNumbers(t *testing.T) {
	for _, k := range allKnown() {
		for at, want := range map[int]string{0: k.atZero, 5: k.atFive} {
			if l := good[[]api.Num](t)(Lagrange(k.s, knownIDs(), at)); !slices.Equal(l, read(t, want)) {
				t.Error(k.s, at, l)
			}
		}
		for i, at := range []int{0, 1, 13, 1000} {
			if x := good[api.Num](t)(Value(k.s, read(t, k.coefs), at)); x != read(t, k.values)[i] {
				t.Error(k.s, at, x)
			}
		}
		if l := good[[]api.Num](t)(Split(k.s, read(t, k.coefs), 13)); l[0] != read(t, k.values)[1] || l[12] != read(t, k.values)[2] {
			t.Error(k.s, l)
		}
		for i, at := range []int{0, 2, 6} {
			if x := good[api.Num](t)(Join(k.s, knownIDs(), read(t, k.shares), at)); x != read(t, k.joined)[i] {
				t.Error(k.s, at, x)
			}
		}
	}
}

func TestKnownPoints(t *testing.T) {
	for _, k := range allKnown() {
		shares := read(t, k.shares)
		keys := keysOf(t, gen(t, k.s), shares)
		for i, at := range []int{0, 6} {
			key := good[api.Key](t)(JoinKeys(knownIDs(), keys, at))
			if k.s != api.Great {
				sigs := littleSigs(t, k.s, shares)
				if sig := good[api.Sig](t)(JoinSigs(knownIDs(), sigs, at)); sig != (api.Sig{S: k.s, L: k.littleKey[i]}) {
					t.Error(k.s, at, sig)
				}
				if key != (api.Key{S: k.s, L: k.littleKey[i]}) {
					t.Error(k.s, at, key)
				}
				continue
			}
			sigs := sigsOf(t, api.Sig{P: curve.Gen2()}, shares)
			sig := good[api.Sig](t)(JoinSigs(knownIDs(), sigs, at))
			if b := good[[]byte](t)(suite.KeyBytes(key)); hex.EncodeToString(b) != []string{k.key, k.key6}[i] {
				t.Error(at, hex.EncodeToString(b))
			}
			if b := good[[]byte](t)(suite.SigBytes(sig)); hex.EncodeToString(b) != []string{k.sig, k.sig6}[i] {
				t.Error(at, hex.EncodeToString(b))
			}
		}
	}
}

// littleSigs tells a little suite's generator, as a sig, times each of some scalars.
func littleSigs(t *testing.T, s api.Suite, scalars []api.Num) []api.Sig {
	t.Helper()
	return sigsOf(t, api.Sig{S: s, L: good[api.L1](t)(little.Gen(s))}, scalars)
}
