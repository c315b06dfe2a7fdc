package point

import (
	"reliquary/api"
	"reliquary/modulus"
	"reliquary/tower"
	"reliquary/words"
)

func great() *modulus.Modulus {
	m, _ := modulus.New(modulus.Base())
	return m
}

// root1 tells the Y that is not the greater root, if a point of the first curve has
// this X: of both roots that is the one modulus.Root takes.
func root1(m *modulus.Modulus, x api.Num) (api.Num, bool) {
	y, e := m.Root(m.Add(m.Mul(x, m.Mul(x, x)), words.Of(4)))
	return y, e == api.OK
}

// root2 tells the Y that is not the greater root, if a point of the second curve has
// this X: of both roots that is the one tower.Root2 takes.
func root2(x api.E2) (api.E2, bool) {
	beside := api.E2{words.Of(4), words.Of(4)}
	y, e := tower.Root2(tower.Add2(tower.Mul2(x, tower.Mul2(x, x)), beside))
	return y, e == api.OK
}

func greater1(y api.Num) bool {
	half := words.Shift(modulus.Base(), -1)
	return words.Compare(y, half) > 0
}

func greater2(y api.E2) bool {
	if y[1] == (api.Num{}) {
		return greater1(y[0])
	}
	return greater1(y[1])
}
