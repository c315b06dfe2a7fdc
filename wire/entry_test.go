package wire

import (
	"bytes"
	"math"
	"reflect"
	"slices"
	"strings"
	"testing"

	"reliquary/api"
	"reliquary/suite"
	"reliquary/words"
)

// refused looks whether neither call takes an entry, and by which error.
func refused(t *testing.T, name string, e api.Entry, want api.Errno) {
	t.Helper()
	if got := Check(e); got != want {
		t.Error(name, got, "of Check, not", want)
	}
	if b, got := Entry(e); got != want || b != nil {
		t.Error(name, len(b), got, "of Entry, not", want)
	}
}

// taken looks whether both calls take an entry, and whether it comes back.
func taken(t *testing.T, name string, e api.Entry) []byte {
	t.Helper()
	if got := Check(e); got != api.OK {
		t.Error(name, got)
	}
	b, got := Entry(e)
	if got != api.OK || !bytes.Equal(b, entryByWords(t, e)) {
		t.Error(name, b, got)
	}
	back, got := ReadEntry(b)
	if got != api.OK || !Same(back, e) || !reflect.DeepEqual(back, e) {
		t.Error(name, back, got)
	}
	return b
}

func TestEntryOfTheExample(t *testing.T) {
	e := api.Entry{Kind: 3, Node: 1, Who: "a"}
	want := []byte{3, 1, 1, 97, 0, 0, 0, 0, 0, 0, 0, 0, 0}
	if b := taken(t, "example", e); !bytes.Equal(b, want) {
		t.Error(b)
	}
	if _, f := ReadEntry(append(want, 0)); f != api.ErrBytes {
		t.Error(f)
	}
}

// TestEntryOfAllFields: by bytes that are written out, of the one suite whose points'
// bytes are short.
func TestEntryOfAllFields(t *testing.T) {
	g := good[api.Key](t)(suite.Gen(api.Little))
	key := good[[]byte](t)(suite.KeyBytes(g))
	e := api.Entry{Kind: 255, Node: 9, Who: "w", Tenant: "ts", Name: "nme", Text: []byte{5, 6},
		Ints: []int{258, 1<<31 - 1}, Suite: api.Little, Nums: []api.Num{words.Of(65520), words.Of(1)},
		Keys: []api.Key{g}, Sigs: []api.Sig{{S: api.Little, L: g.L}, {S: api.Little, L: api.L1{Zero: true}}}}
	want := []byte{255, 9, 1, 'w', 2, 't', 's', 3, 'n', 'm', 'e', 0, 2, 5, 6, 2, 0, 0, 1, 2, 127, 255, 255, 255, 1,
		2, 0, 0, 0, 0, 0, 0, 255, 240, 0, 0, 0, 0, 0, 0, 0, 1, 1}
	want = append(append(append(want, key...), 2), key...)
	want = append(want, good[[]byte](t)(suite.KeyBytes(api.Key{S: api.Little, L: api.L1{Zero: true}}))...)
	if b := taken(t, "all fields", e); !bytes.Equal(b, want) {
		t.Error(b)
	}
}

func TestEntriesThatMayBe(t *testing.T) {
	name := strings.Repeat("\xff", api.MaxName)
	for i, e := range []api.Entry{
		{}, {Kind: 255}, {Node: 255}, {Kind: 255, Node: 255, Suite: api.Middle}, {Who: name}, {Tenant: name}, {Name: name},
		{Who: name, Tenant: name[:63], Name: name[:62]}, {Text: make([]byte, 4096)}, {Text: bytes.Repeat([]byte{7}, 255)},
		{Text: make([]byte, 256)}, {Text: make([]byte, 257)}, {Ints: make([]int, 16)}, {Ints: []int{1<<31 - 1, 0, 1 << 24, 65535, 65536}},
		{Suite: api.Little, Nums: make([]api.Num, 64)}, {Suite: api.Middle, Nums: make([]api.Num, 64)}, {Nums: make([]api.Num, 64)},
	} {
		taken(t, "entry "+string(rune('a'+i)), e)
	}
	for _, s := range suites() {
		e := entryOf(t, s)
		taken(t, "of a suite", e)
		e.Text, e.Ints = bytes.Repeat([]byte("text"), 1024), slices.Repeat([]int{1<<31 - 1}, 16)
		taken(t, "of a suite, longer", e)
	}
	for _, s := range []api.Suite{api.Little, api.Middle} {
		full := entryOf(t, s)
		full.Nums = slices.Repeat([]api.Num{last(t, s)}, 64)
		full.Keys = slices.Repeat([]api.Key{keyOf(t, s, 5)}, 64)
		full.Sigs = slices.Repeat([]api.Sig{sigOf(t, s, 5)}, 64)
		taken(t, "full", full)
	}
}

func TestNumbersOutOfBounds(t *testing.T) {
	for name, e := range map[string]api.Entry{
		"Kind 256": {Kind: 256}, "Kind -1": {Kind: -1}, "Kind most": {Kind: math.MaxInt}, "Kind least": {Kind: math.MinInt},
		"Node 256": {Node: 256}, "Node -1": {Node: -1}, "Node least": {Node: math.MinInt}, "Node of a byte": {Node: 257},
		"Ints -1": {Ints: []int{-1}}, "Ints 2^31": {Ints: []int{0, 1 << 31}}, "Ints 2^32": {Ints: []int{1 << 32}},
		"Ints most": {Ints: []int{1, 2, math.MaxInt}}, "Ints least": {Ints: []int{math.MinInt}},
		"Suite 3": {Suite: 3}, "Suite -1": {Suite: -1}, "Suite 256": {Suite: 256}, "Suite 258": {Suite: 258},
		"Suite most": {Suite: math.MaxInt}, "Suite least": {Suite: math.MinInt},
		"Nums Little": {Suite: api.Little, Nums: []api.Num{words.Of(65521)}},
	} {
		refused(t, name, e, api.ErrArg)
	}
	for _, s := range suites() {
		order := good[api.Num](t)(suite.Order(s))
		for _, n := range []api.Num{order, {math.MaxUint64, math.MaxUint64, math.MaxUint64, math.MaxUint64, math.MaxUint64, math.MaxUint64}, {0, 0, 0, 0, 0, 1}, {5, 0, 0, 0, 1}} {
			refused(t, "Nums", api.Entry{Suite: s, Nums: []api.Num{words.Of(1), n}}, api.ErrArg)
		}
		taken(t, "Nums", api.Entry{Suite: s, Nums: []api.Num{last(t, s)}})
	}
	// What is a scalar of one suite is none of a lesser one.
	refused(t, "Nums", api.Entry{Suite: api.Little, Nums: []api.Num{last(t, api.Middle)}}, api.ErrArg)
	refused(t, "Nums", api.Entry{Suite: api.Middle, Nums: []api.Num{{0, 1}}}, api.ErrArg)
}

func TestTooLong(t *testing.T) {
	name := strings.Repeat("n", api.MaxName+1)
	key, sig := keyOf(t, api.Little, 1), sigOf(t, api.Little, 1)
	for i, e := range []api.Entry{
		{Who: name}, {Tenant: name}, {Name: name}, {Who: strings.Repeat("é", 33)}, {Who: strings.Repeat("n", 256)},
		{Text: make([]byte, 4097)}, {Text: make([]byte, 65536)}, {Ints: make([]int, 17)}, {Ints: make([]int, 256)},
		{Nums: make([]api.Num, 65)}, {Nums: make([]api.Num, 256)}, {Suite: api.Little, Nums: make([]api.Num, 65)},
		{Suite: api.Little, Keys: slices.Repeat([]api.Key{key}, 65)}, {Suite: api.Little, Sigs: slices.Repeat([]api.Sig{sig}, 65)},
		{Keys: make([]api.Key, 65)}, {Sigs: make([]api.Sig, 65)}, {Keys: make([]api.Key, 300)},
	} {
		refused(t, "long "+string(rune('a'+i)), e, api.ErrLong)
	}
}

func TestPointsThatMayNotBe(t *testing.T) {
	refused(t, "none of a curve", api.Entry{Keys: []api.Key{{}}}, api.ErrPoint)
	refused(t, "none of a curve", api.Entry{Sigs: []api.Sig{{}}}, api.ErrPoint)
	for _, s := range suites() {
		g, h := keyOf(t, s, 1), sigOf(t, s, 1)
		off, away := g, h
		off.P.X[0], off.L.X = off.P.X[0]^1, off.L.X^1
		away.P.Y[0][0], away.L.Y = away.P.Y[0][0]^1, away.L.Y^1
		for _, k := range []api.Key{off, {S: s}, {S: 3, P: g.P, L: g.L}, {S: -1, P: g.P, L: g.L}} {
			refused(t, "key", api.Entry{Suite: s, Keys: []api.Key{g, g, k}}, api.ErrPoint)
		}
		for _, k := range []api.Sig{away, {S: s}, {S: 3, P: h.P, L: h.L}, {S: -1, P: h.P, L: h.L}} {
			refused(t, "sig", api.Entry{Suite: s, Keys: []api.Key{g}, Sigs: []api.Sig{h, k}}, api.ErrPoint)
		}
	}
	// A point of the great curve that is not of the group.
	refused(t, "no group", api.Entry{Keys: []api.Key{{P: api.P1{Y: words.Of(2)}}}}, api.ErrPoint)
}

func TestPointsOfAnotherSuite(t *testing.T) {
	for _, s := range suites() {
		for _, other := range suites() {
			if s == other {
				continue
			}
			key := api.Entry{Suite: s, Keys: []api.Key{keyOf(t, s, 1), keyOf(t, other, 0)}}
			sig := api.Entry{Suite: s, Sigs: []api.Sig{sigOf(t, s, 1), sigOf(t, other, 1)}}
			refused(t, "key", key, api.ErrArg)
			refused(t, "sig", sig, api.ErrArg)
		}
	}
}

// TestOrderOfErrors lays each fault of an entry beside each later one.
func TestOrderOfErrors(t *testing.T) {
	good, other := keyOf(t, api.Little, 1), keyOf(t, api.Middle, 1)
	bad := api.Key{S: api.Little}
	sig, unlike := sigOf(t, api.Little, 1), sigOf(t, api.Middle, 1)
	groups := []struct {
		want api.Errno
		do   []func(e *api.Entry)
	}{
		{api.ErrArg, []func(e *api.Entry){
			func(e *api.Entry) { e.Kind = 256 }, func(e *api.Entry) { e.Node = -1 },
			func(e *api.Entry) { e.Ints = append(e.Ints, -1) }, func(e *api.Entry) { e.Suite = 3 }}},
		{api.ErrLong, []func(e *api.Entry){
			func(e *api.Entry) { e.Who = strings.Repeat("w", 65) }, func(e *api.Entry) { e.Tenant = strings.Repeat("w", 65) },
			func(e *api.Entry) { e.Name = strings.Repeat("w", 65) }, func(e *api.Entry) { e.Text = make([]byte, 4097) },
			func(e *api.Entry) { e.Ints = append(e.Ints, make([]int, 17)...) }, func(e *api.Entry) { e.Nums = append(e.Nums, make([]api.Num, 65)...) },
			func(e *api.Entry) { e.Keys = append(e.Keys, slices.Repeat([]api.Key{good}, 65)...) },
			func(e *api.Entry) { e.Sigs = append(e.Sigs, slices.Repeat([]api.Sig{sig}, 65)...) }}},
		{api.ErrArg, []func(e *api.Entry){func(e *api.Entry) { e.Nums = append(e.Nums, words.Of(65521)) }}},
		{api.ErrPoint, []func(e *api.Entry){func(e *api.Entry) { e.Keys = append(e.Keys, bad) }}},
		{api.ErrArg, []func(e *api.Entry){func(e *api.Entry) { e.Keys = append(e.Keys, other) }}},
		{api.ErrPoint, []func(e *api.Entry){func(e *api.Entry) { e.Sigs = append(e.Sigs, api.Sig{}) }}},
		{api.ErrArg, []func(e *api.Entry){func(e *api.Entry) { e.Sigs = append(e.Sigs, unlike) }}},
	}
	for i, first := range groups {
		for _, a := range first.do {
			e := api.Entry{Suite: api.Little}
			a(&e)
			refused(t, "one fault", e, first.want)
			for _, later := range groups[i+1:] {
				for _, b := range later.do {
					e := api.Entry{Suite: api.Little}
					a(&e)
					b(&e)
					refused(t, "two faults", e, first.want)
				}
			}
		}
	}
}

// TestPointsOneByOne: it is the place in the list that says which fault is told.
func TestPointsOneByOne(t *testing.T) {
	unlike, none := keyOf(t, api.Middle, 1), api.Key{S: api.Little}
	refused(t, "keys", api.Entry{Suite: api.Little, Keys: []api.Key{unlike, none}}, api.ErrArg)
	refused(t, "keys", api.Entry{Suite: api.Little, Keys: []api.Key{none, unlike}}, api.ErrPoint)
	// Of another suite, and no point of it: that it may not be comes ahead.
	refused(t, "keys", api.Entry{Suite: api.Little, Keys: []api.Key{{S: api.Middle}}}, api.ErrPoint)
	refused(t, "keys", api.Entry{Suite: api.Little, Keys: []api.Key{{S: 3}}}, api.ErrPoint)
	far, no := sigOf(t, api.Middle, 1), api.Sig{S: api.Little}
	refused(t, "sigs", api.Entry{Suite: api.Little, Sigs: []api.Sig{far, no}}, api.ErrArg)
	refused(t, "sigs", api.Entry{Suite: api.Little, Sigs: []api.Sig{no, far}}, api.ErrPoint)
	refused(t, "sigs", api.Entry{Suite: api.Little, Sigs: []api.Sig{{S: api.Middle}}}, api.ErrPoint)
	refused(t, "both", api.Entry{Suite: api.Little, Keys: []api.Key{unlike}, Sigs: []api.Sig{no}}, api.ErrArg)
}
