package wire

import (
	"slices"

	"reliquary/api"
	"reliquary/suite"
	"reliquary/words"
)

// The greatest numbers that an entry may have, beside api.MaxKind.
const (
	maxNode  = 255
	maxSmall = 1<<31 - 1
)

// bounds tells the first fault of an entry, its points not being looked at.
func bounds(e api.Entry) api.Errno {
	order, fault := suite.Order(e.Suite)
	switch {
	case fault != api.OK || outside(e):
		return api.ErrArg
	case long(e):
		return api.ErrLong
	case slices.ContainsFunc(e.Nums, func(n api.Num) bool { return words.Compare(n, order) >= 0 }):
		return api.ErrArg
	}
	return api.OK
}

// outside tells whether a number of an entry is not within its bounds.
func outside(e api.Entry) bool {
	return e.Kind < 0 || e.Kind > api.MaxKind || e.Node < 0 || e.Node > maxNode ||
		slices.ContainsFunc(e.Ints, func(n int) bool { return n < 0 || n > maxSmall })
}

// long tells whether a text or a list of an entry is too long.
func long(e api.Entry) bool {
	return max(len(e.Who), len(e.Tenant), len(e.Name)) > api.MaxName ||
		len(e.Text) > api.MaxBody || len(e.Ints) > api.MaxInts ||
		max(len(e.Nums), len(e.Keys), len(e.Sigs)) > api.MaxMany
}
