package wire

import (
	"math"
	"reflect"
	"slices"
	"testing"

	"reliquary/api"
	"reliquary/words"
)

// strange tells an entry that may not be written, with something in each field.
func strange() api.Entry {
	return api.Entry{
		Kind: -5, Node: math.MaxInt, Who: "w", Tenant: "t", Name: "n", Text: make([]byte, 5000), Ints: []int{-1, math.MinInt}, Suite: 99,
		Nums: []api.Num{{math.MaxUint64, 1, 2, 3, 4, math.MaxUint64}}, Keys: make([]api.Key, 70),
		Sigs: []api.Sig{{S: -1, P: api.P2{Zero: true}, L: api.L1{X: 1, Y: 2, Zero: true}}},
	}
}

// apart tells an entry in other memory, without the calls that are tested.
func apart(e api.Entry) api.Entry {
	e.Text, e.Ints, e.Nums = slices.Clone(e.Text), slices.Clone(e.Ints), slices.Clone(e.Nums)
	e.Keys, e.Sigs = slices.Clone(e.Keys), slices.Clone(e.Sigs)
	return e
}

// changes tells, field by field, entries that differ from another in this field alone.
func changes(e api.Entry) map[string]api.Entry {
	l := map[string]api.Entry{}
	change := func(name string, do func(e *api.Entry)) {
		c := apart(e)
		do(&c)
		l[name] = c
	}
	change("Kind", func(e *api.Entry) { e.Kind++ })
	change("Node", func(e *api.Entry) { e.Node-- })
	change("Who", func(e *api.Entry) { e.Who += "x" })
	change("Tenant", func(e *api.Entry) { e.Tenant = "" })
	change("Name", func(e *api.Entry) { e.Name = "N" })
	change("Suite", func(e *api.Entry) { e.Suite++ })
	change("Text", func(e *api.Entry) { e.Text[len(e.Text)-1]++ })
	change("Text less", func(e *api.Entry) { e.Text = e.Text[1:] })
	change("Text none", func(e *api.Entry) { e.Text = nil })
	change("Ints", func(e *api.Entry) { e.Ints[0]-- })
	change("Ints turned", func(e *api.Entry) { slices.Reverse(e.Ints) })
	change("Ints more", func(e *api.Entry) { e.Ints = append(e.Ints, 0) })
	change("Nums", func(e *api.Entry) { e.Nums[0][5]++ })
	change("Nums less", func(e *api.Entry) { e.Nums = e.Nums[1:] })
	change("Keys S", func(e *api.Entry) { e.Keys[len(e.Keys)-1].S++ })
	change("Keys P", func(e *api.Entry) { e.Keys[0].P.Zero = !e.Keys[0].P.Zero })
	change("Keys L", func(e *api.Entry) { e.Keys[0].L.Y++ })
	change("Keys more", func(e *api.Entry) { e.Keys = append(e.Keys, api.Key{}) })
	change("Sigs P", func(e *api.Entry) { e.Sigs[0].P.Y[1][5]++ })
	change("Sigs L", func(e *api.Entry) { e.Sigs[0].L.X++ })
	change("Sigs none", func(e *api.Entry) { e.Sigs = nil })
	return l
}

func TestSame(t *testing.T) {
	for _, e := range []api.Entry{entryOf(t, api.Great), entryOf(t, api.Little), strange()} {
		if !Same(e, e) || !Same(e, Copy(e)) {
			t.Error("not the same as itself")
		}
		for name, c := range changes(e) {
			if Same(e, c) || Same(c, e) {
				t.Error(name, "is not looked at")
			}
		}
	}
}

func TestNilAndEmptyAreTheSame(t *testing.T) {
	empty := api.Entry{Text: []byte{}, Ints: []int{}, Nums: []api.Num{}, Keys: []api.Key{}, Sigs: []api.Sig{}}
	if !Same(api.Entry{}, empty) || !Same(empty, api.Entry{}) || !Same(Copy(empty), empty) {
		t.Error("nil and empty differ")
	}
	a, b := good[[]byte](t)(Entry(empty)), good[[]byte](t)(Entry(api.Entry{}))
	if !reflect.DeepEqual(a, b) {
		t.Error(a, b)
	}
}

func TestCopyIsMemoryOfItsOwn(t *testing.T) {
	for _, e := range []api.Entry{entryOf(t, api.Middle), strange(), {}} {
		was, c := apart(e), Copy(e)
		if !reflect.DeepEqual(c, e) {
			t.Fatal(c)
		}
		for i := range c.Text {
			c.Text[i]++
		}
		for i := range c.Ints {
			c.Ints[i]++
		}
		for i := range c.Nums {
			c.Nums[i][0]++
		}
		for i := range c.Keys {
			c.Keys[i].L.X++
		}
		for i := range c.Sigs {
			c.Sigs[i].L.X++
		}
		if !reflect.DeepEqual(e, was) {
			t.Error("the copy and the entry share memory")
		}
	}
}

func TestCopyHasNoOthersSpareRoom(t *testing.T) {
	text := []byte{1, 2, 3}
	ints := []int{1, 2, 3}
	nums := []api.Num{words.Of(1), words.Of(2)}
	for n := range 2 {
		c := Copy(api.Entry{Text: text[:n], Ints: ints[:n], Nums: nums[:n]})
		_, _, _ = append(c.Text, 9), append(c.Ints, 9), append(c.Nums, words.Of(9))
	}
	if text[0] != 1 || text[1] != 2 || ints[0] != 1 || ints[1] != 2 || nums[0] != words.Of(1) || nums[1] != words.Of(2) {
		t.Error(text, ints, nums)
	}
}

func TestCallsLeaveEntriesAlone(t *testing.T) {
	for _, e := range []api.Entry{entryOf(t, api.Little), strange()} {
		room := append(slices.Clone(e.Text), 5, 6, 7)
		e.Text = room[:len(room)-3]
		was := apart(e)
		b, f := Entry(e)
		Check(e)
		Same(e, was)
		if !reflect.DeepEqual(e, was) || !slices.Equal(room[len(room)-3:], []byte{5, 6, 7}) {
			t.Error("the entry was changed")
		}
		if f == api.OK {
			keep := slices.Clone(b)
			for i := range e.Text {
				e.Text[i] = 99
			}
			if !slices.Equal(b, keep) {
				t.Error("the bytes share memory with the entry")
			}
		}
	}
}
