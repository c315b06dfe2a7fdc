package share

import "reliquary/api"

const (
	maxMany   = 64   // coefficients, ids, shares of one list
	maxPlace  = 1000 // a place, an id
	maxDegree = 1000
)

func isPlace(at int) bool { return at >= 0 && at <= maxPlace }

func tooMany(n int) bool { return n > maxMany }

// checkIDs tells what is wrong with the ids of so many shares, and with a place.
func checkIDs(ids []int, shares, at int) api.Errno {
	if len(ids) != shares || !isPlace(at) {
		return api.ErrArg
	}
	for _, id := range ids {
		if id < 1 || id > maxPlace {
			return api.ErrArg
		}
	}
	if haveTwice(ids) {
		return api.ErrThere
	}
	return api.OK
}

// haveTwice tells whether two of some ids are the same.
func haveTwice(ids []int) bool {
	var met [maxPlace + 1]bool
	for _, id := range ids {
		if met[id] {
			return true
		}
		met[id] = true
	}
	return false
}
