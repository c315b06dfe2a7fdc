package pairing

import (
	"reliquary/api"
	"reliquary/tower"
)

// third is a third of s + 1, s being seed.
const third = (seed + 1) / 3

// Last raises a number to the last power, (p^12 - 1) / r: that is
//
//	(p^6 - 1) (p^2 + 1)
//
// times (p^4 - p^2 + 1) / r, which, as s is what p and r are made of, is
//
//	(s + 1) (s + 1) / 3 (p - s) (s s + p^2 - 1) + 1.
//
// Powers by p are turned numbers, and all others go by third.
func Last(a api.E12) (api.E12, api.Errno) {
	over, e := tower.Inv(a)
	if e != api.OK {
		return api.E12{}, e
	}
	a = tower.Mul(tower.Conj(a), over)
	a = tower.Mul(tower.Frob(a, 2), a)
	// From here on the conjugate of a number is 1 over it.
	b := cubed(byThird(byThird(a)))
	c := tower.Mul(tower.Frob(b, 1), tower.Conj(bySeed(b)))
	d := tower.Mul(bySeed(bySeed(c)), tower.Mul(tower.Frob(c, 2), tower.Conj(c)))
	return tower.Mul(d, a), api.OK
}

func byThird(a api.E12) api.E12 { return tower.Pow(a, api.Num{third}) }

// bySeed raises to the power 3 third - 1 a number of which the conjugate is 1 over it.
func bySeed(a api.E12) api.E12 { return tower.Mul(cubed(byThird(a)), tower.Conj(a)) }

func cubed(a api.E12) api.E12 { return tower.Mul(a, tower.Mul(a, a)) }
