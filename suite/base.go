package suite

import (
	"reliquary/api"
	"reliquary/point"
)

// basePart is the first part of which h may be made.
const basePart = "reliquary"

// Base tells the first group's other generator.
func Base(s api.Suite) (api.Key, api.Errno) {
	p, e := prime(s)
	if e != api.OK {
		return api.Key{}, e
	}
	return firstBeside(zeroKey(s), func(part []byte) (api.Key, api.Errno) {
		text, e := joined([][]byte{part})
		if e != api.OK {
			return api.Key{}, e
		}
		return keyNear(s, left(p, baseTag, text))
	})
}

// firstBeside tells the first key beside the zero that is found of a part. Each that is
// found is kept with how long its part was; the zero is kept ahead of all, so that
// finding it again leaves the map as great as it was.
func firstBeside(zero api.Key, found func(part []byte) (api.Key, api.Errno)) (api.Key, api.Errno) {
	kept := map[api.Key]int{zero: 0}
	part := []byte(basePart)
	for {
		h, e := found(part)
		if e != api.OK {
			return api.Key{}, e
		}
		if kept[h] = len(part); len(kept) > 1 {
			return h, api.OK
		}
		part = append(part, 0)
	}
}

func zeroKey(s api.Suite) api.Key {
	switch s {
	case api.Great:
		return api.Key{P: api.P1{Zero: true}}
	default:
		return api.Key{S: s, L: api.L1{Zero: true}}
	}
}

// keyNear tells the point near a number, cleared.
func keyNear(s api.Suite, x api.Num) (api.Key, api.Errno) {
	switch s {
	case api.Great:
		near, _ := point.Near1(x)
		inside, e := point.Clear1(near)
		return api.Key{P: inside}, e
	default:
		inside, e := littleFound(s, x)
		return littleKey(s, inside, e)
	}
}
