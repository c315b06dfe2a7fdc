package wire

import (
	"bytes"
	"slices"

	"reliquary/api"
)

// Same tells whether two entries are the same.
func Same(a, b api.Entry) bool {
	return a.Kind == b.Kind && a.Node == b.Node && a.Suite == b.Suite &&
		a.Who == b.Who && a.Tenant == b.Tenant && a.Name == b.Name &&
		bytes.Equal(a.Text, b.Text) && slices.Equal(a.Ints, b.Ints) &&
		slices.Equal(a.Nums, b.Nums) && slices.Equal(a.Keys, b.Keys) && slices.Equal(a.Sigs, b.Sigs)
}

// Copy tells an entry.
func Copy(e api.Entry) api.Entry {
	e.Text = fresh(e.Text)
	e.Ints = fresh(e.Ints)
	e.Nums = fresh(e.Nums)
	e.Keys = fresh(e.Keys)
	e.Sigs = fresh(e.Sigs)
	return e
}

// fresh tells a list in memory of its own. (A copy by slices.Clone would have an empty
// list begin where the other one does.)
func fresh[T any](l []T) []T {
	if len(l) == 0 {
		return nil
	}
	out := make([]T, len(l))
	copy(out, l)
	return out
}
