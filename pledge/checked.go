package pledge

import (
	"reliquary/api"
	"reliquary/suite"
)

const (
	maxMany  = 64   // keys of a pledge, pledges of a sum
	maxPlace = 1000 // a place
)

func tooMany(n int) bool { return n > maxMany }

// checked is a pledge that may be: it has a key, and all are of one suite. Only check
// makes one.
type checked []api.Key

func check(c []api.Key) (checked, api.Errno) {
	switch {
	case len(c) == 0:
		return nil, api.ErrArg
	case tooMany(len(c)):
		return nil, api.ErrLong
	}
	for _, k := range c {
		if !suite.KeyCheck(k) {
			return nil, api.ErrPoint
		}
	}
	for _, k := range c {
		if k.S != c[0].S {
			return nil, api.ErrArg
		}
	}
	return checked(c), api.OK
}

func (c checked) suite() api.Suite { return c[0].S }

// like tells whether a sum of both can be.
func (c checked) like(d checked) bool {
	return len(c) == len(d) && c.suite() == d.suite()
}

// says tells what a pledge says at a place. Each suite's order is above all places, so
// that a place's powers are scalars.
func (c checked) says(at int) (api.Key, api.Errno) {
	if at < 0 || at > maxPlace {
		return api.Key{}, api.ErrArg
	}
	var sum api.Key
	var e api.Errno
	x, power := api.Num{uint64(at)}, api.Num{1}
	add := adding()
	for _, k := range c {
		sum, e = add(suite.KeyMul(k, power))
		power, _ = suite.Mul(c.suite(), power, x)
	}
	return sum, e
}

// checkAll tells pledges of which a sum can be: there is at least one.
func checkAll(l [][]api.Key) ([]checked, api.Errno) {
	switch {
	case tooMany(len(l)):
		return nil, api.ErrLong
	case len(l) == 0:
		return nil, api.ErrArg
	}
	pledges := make([]checked, len(l))
	for i, c := range l {
		p, e := check(c)
		if e != api.OK {
			return nil, e
		}
		pledges[i] = p
	}
	for _, p := range pledges {
		if !p.like(pledges[0]) {
			return nil, api.ErrArg
		}
	}
	return pledges, api.OK
}
