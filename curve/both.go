package curve

import (
	"reliquary/api"
	"reliquary/modulus"
	"reliquary/tower"
	"reliquary/words"
)

// The generators' numbers; those with i at the end are the second parts.
const (
	firstX   = "17f1d3a73197d7942695638c4fa9ac0fc3688c4f9774b905a14e3a3f171bac586c55e83ff97a1aeffb3af00adb22c6bb"
	firstY   = "8b3f481e3aaa0f1a09e30ed741d8ae4fcf5e095d5d00af600db18cb2c04b3edd03cc744a2888ae40caa232946c5e7e1"
	secondX  = "24aa2b2f08f0a91260805272dc51051c6e47ad4fa403b02b4510b647ae3d1770bac0326a805bbefd48056c8c121bdb8"
	secondXi = "13e02b6052719f607dacd3a088274f65596bd0d09920b61ab5da61bbdc7f5049334cf11213945d57e5ac7d055d042b7e"
	secondY  = "ce5d527727d6e118cc9cdc6da2e351aadfd9baa8cbdd3a76d429a695160d12c923ac9cc3baca289e193548608b82801"
	secondYi = "606c4a02ea734cc32acd2b02bc28b99cb3e287e85a763af267492ab572e99ab3f370d275cec1da1aaa9075ff05f79be"
)

// What points are turned by: thirdRoot to the power 3 is 1; turnedXi i and turnedY
// are 1 over 1 + i to the powers (p - 1) / 3 and (p - 1) / 2.
const (
	thirdRoot = "5f19672fdf76ce51ba69c6076a0f77eaddb3a93be6f89688de17d813620a00022e01fffffffefffe"
	turnedXi  = "1a0111ea397fe699ec02408663d4de85aa0d857d89759ad4897d29650fb85f9b409427eb4f49fffd8bfd00000000aaad"
	turnedY   = "135203e60180a68ee2e9c448d77a2cd91c3dedd930b1cf60ef396489f61eb45e304466cf3e67fa0af1ee7b04121bdea2"
	turnedYi  = "6af0e0437ff400b6831e36d6bd17ffe48395dabc2d3435e77f76e17009241c5ee67992f72ec05f4c81084fbede3cc09"
)

func number(digits string) api.Num {
	n, _ := words.Parse(digits)
	return n
}

// first makes the first group. Each point of its curve, it turned once and it turned
// twice are the zero together. So, if it turned once is -s s times it (s being seed),
// then 1 - s s + s s s s times it is the zero, and that number is r. And within the
// group to turn is to multiply by -s s.
func first() group[api.Num] {
	m, _ := modulus.New(modulus.Base())
	third := number(thirdRoot)
	return group[api.Num]{
		field: field[api.Num]{
			add: m.Add, sub: m.Sub, mul: m.Mul, inv: m.Inv,
			below: below, one: words.Of(1),
		},
		beside: words.Of(4),
		turn:   func(x, y api.Num) (api.Num, api.Num) { return m.Mul(x, third), y },
		steps:  2,
	}
}

// second makes the second group. To turn is to take numbers to the power p, with its
// points seen as those of the first curve whose numbers have twelve parts. Each point
// turned twice, s - 1 times it turned once, and p times it are the zero together. So,
// if it turned once is -s times it, then p + s times it is the zero, and that number
// has nothing but r in common with how many points the curve has. And within the group
// to turn is to multiply by p, which leaves by r what -s does.
func second() group[api.E2] {
	overX, overY := api.E2{{}, number(turnedXi)}, api.E2{number(turnedY), number(turnedYi)}
	return group[api.E2]{
		field: field[api.E2]{
			add: tower.Add2, sub: tower.Sub2, mul: tower.Mul2, inv: tower.Inv2,
			below: below2, one: api.E2{words.Of(1)},
		},
		beside: api.E2{words.Of(4), words.Of(4)},
		turn: func(x, y api.E2) (api.E2, api.E2) {
			return tower.Mul2(tower.Conj2(x), overX), tower.Mul2(tower.Conj2(y), overY)
		},
		steps: 1,
	}
}

func below(a api.Num) bool { return words.Compare(a, modulus.Base()) < 0 }

func below2(a api.E2) bool { return below(a[0]) && below(a[1]) }
