package pledge

import (
	"reliquary/api"
	"reliquary/suite"
)

// adding tells a function that keeps a sum of keys: it adds one more, and tells the sum.
// It is handed an error, too, so that what a call of suite answers is added as it is;
// the first error stays.
func adding() func(k api.Key, e api.Errno) (api.Key, api.Errno) {
	var sum api.Key
	first, bad := true, api.OK
	return func(k api.Key, e api.Errno) (api.Key, api.Errno) {
		switch {
		case bad != api.OK:
			return api.Key{}, bad
		case e != api.OK:
			sum, bad = api.Key{}, e
		case first:
			// The zero struct is not the zero of every suite: no sum can begin with it.
			sum, first = k, false
		default:
			sum, bad = suite.KeyAdd(sum, k)
		}
		return sum, bad
	}
}

// sumOf tells the sum of the keys that pledges have for one power; there is at least one.
func sumOf(pledges []checked, power int) (api.Key, api.Errno) {
	var sum api.Key
	var e api.Errno
	add := adding()
	for _, p := range pledges {
		sum, e = add(p[power], api.OK)
	}
	return sum, e
}

// two are both generators of a suite: nobody knows how often the one is the other.
type two struct{ g, h api.Key }

func twoOf(s api.Suite) (two, api.Errno) {
	g, e := suite.Gen(s)
	if e != api.OK {
		return two{}, e
	}
	h, e := suite.Base(s)
	return two{g, h}, e
}

// hide tells the key of a number and its blind.
func (t two) hide(number, blind api.Num) (api.Key, api.Errno) {
	add := adding()
	add(suite.KeyMul(t.g, number))
	return add(suite.KeyMul(t.h, blind))
}
