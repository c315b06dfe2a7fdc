package ballot

import (
	"slices"
	"testing"

	"reliquary/api"
	"reliquary/words"
)

// box makes a box of nodes with the secrets 2, 3, 4, ..
func box(t testing.TB, s api.Suite, n, quorum int) *Box {
	t.Helper()
	b, e := New(keysOf(s, n), quorum)
	if e != api.OK || b == nil {
		t.Fatal(e)
	}
	return b
}

// adds looks what a box says of a vote.
func adds(t testing.TB, b *Box, v api.Vote, want api.Errno) {
	t.Helper()
	if e := b.Add(v); e != want {
		t.Errorf("%v of %v from %d: %v, not %v", v.Phase, v.Place, v.From, e, want)
	}
}

// of tells a vote of another value.
func of(v api.Vote, text string) api.Vote {
	v.Value = valueOf(text)
	return v
}

// lacks looks whether a box has no certificate.
func lacks(t testing.TB, b *Box, phase, view, place int) {
	t.Helper()
	if c, e := b.Cert(phase, view, place); e != api.ErrMissing || !same(c, api.Cert{}) || c.Signs != nil {
		t.Error(phase, view, place, c, e)
	}
}

// proves looks whether a box has just this certificate, and whether it holds.
func proves(t testing.TB, b *Box, keys []api.Key, quorum int, want api.Cert) {
	t.Helper()
	c, e := b.Cert(want.Phase, want.View, want.Place)
	if e != api.OK || !same(c, want) || !CertCheck(keys, quorum, c) {
		t.Error(c, want, e)
	}
}

// TestExample: the chapter's.
func TestExample(t *testing.T) {
	keys := keysOf(api.Little, 4)
	first := sign(t, api.Little, abc(1))
	if !Check(keys[0], first) || Check(keys[1], first) {
		t.Error("Check")
	}
	b := box(t, api.Little, 4, 3)
	for from := 1; from <= 3; from++ {
		adds(t, b, sign(t, api.Little, abc(from)), api.OK)
	}
	if n := b.Count(api.Prevote, 0, 1, valueOf("abc")); n != 3 {
		t.Error(n)
	}
	c, e := b.Cert(api.Prevote, 0, 1)
	if e != api.OK || len(c.Signs) != 3 {
		t.Error(c, e)
	}
	adds(t, b, first, api.ErrThere)
	adds(t, b, sign(t, api.Little, of(abc(1), "x")), api.ErrState)
	if l := b.Doubles(); !slices.Equal(l, []int{1}) {
		t.Error(l)
	}
	if !CertCheck(keys, 3, c) || CertCheck(keys, 4, c) {
		t.Error("CertCheck")
	}
	lacks(t, b, api.Prevote, 1, 1)
	if n := b.Drop(2); n != 3 || b.Len() != 0 {
		t.Error(n, b.Len())
	}
	if _, e := Sign(api.Little, words.Of(0), abc(1)); e != api.ErrArg {
		t.Error(e)
	}
	v := abc(1)
	v.Phase = 4
	if _, e := Sign(api.Little, words.Of(2), v); e != api.ErrArg {
		t.Error(e)
	}
}

func TestWhatIsNoBox(t *testing.T) {
	refused := func(name string, keys []api.Key, quorum int) {
		t.Helper()
		if b, e := New(keys, quorum); e != api.ErrArg || b != nil {
			t.Error(name, b, e)
		}
	}
	for _, s := range suites() {
		for n := 0; n <= 14; n++ {
			if s == api.Great && n > 2 && n < 13 {
				continue
			}
			keys := keysOf(s, n)
			for _, quorum := range []int{-1 << 63, -1, 0, n + 1, n + 2, 1<<63 - 1} {
				refused("quorum", keys, quorum)
			}
			for quorum := 1; quorum <= n; quorum++ {
				if n == 14 {
					refused("14 nodes", keys, quorum)
					continue
				}
				if b, e := New(keys, quorum); e != api.OK || b.Len() != 0 || len(b.Doubles()) != 0 {
					t.Error(n, quorum, e)
				}
			}
		}
		refused("no nodes", nil, 0)
		refused("no nodes", nil, 1)
		for i := range 3 {
			for _, bad := range notKeys(s) {
				keys := keysOf(s, 3)
				keys[i] = bad
				refused("a key", keys, 2)
			}
			for _, other := range suites() {
				if other != s {
					keys := keysOf(s, 3)
					keys[i] = keyOf(other, words.Of(2))
					refused("two suites", keys, 2)
				}
			}
			keys := keysOf(s, 3)
			keys[i] = zeroOf(s)
			if _, e := New(keys, 2); e != api.OK {
				t.Error("the zero", e)
			}
		}
	}
}

func TestBoxesThatNobodyMade(t *testing.T) {
	v := sign(t, api.Little, abc(1))
	for _, b := range []*Box{nil, {}, new(Box)} {
		for _, v := range []api.Vote{v, {}, of(v, "x")} {
			adds(t, b, v, api.ErrNil)
		}
		for _, place := range []int{-1, 0, 1, 1 << 40} {
			if c, e := b.Cert(api.Prevote, 0, place); e != api.ErrNil || !same(c, api.Cert{}) || c.Signs != nil {
				t.Error(c, e)
			}
			if n := b.Count(api.Prevote, 0, place, v.Value); n != 0 {
				t.Error(n)
			}
			if n := b.Drop(place); n != 0 {
				t.Error(n)
			}
		}
		if b.Len() != 0 || b.Doubles() != nil {
			t.Error(b.Len(), b.Doubles())
		}
	}
}

// unchanged looks whether what is done changes nothing that a box of one round shows.
func unchanged(t *testing.T, b *Box, v api.Vote, do func()) {
	t.Helper()
	state := func() (int, int, []int, api.Cert, api.Errno) {
		c, e := b.Cert(v.Phase, v.View, v.Place)
		return b.Len(), b.Count(v.Phase, v.View, v.Place, v.Value), b.Doubles(), c, e
	}
	n, m, d, c, e := state()
	do()
	n2, m2, d2, c2, e2 := state()
	if n != n2 || m != m2 || !slices.Equal(d, d2) || !same(c, c2) || e != e2 {
		t.Error(n, n2, m, m2, d, d2, c, c2, e, e2)
	}
}

func TestVotesThatAreNotCounted(t *testing.T) {
	for _, s := range suites() {
		b := box(t, s, 4, 2)
		good := sign(t, s, abc(1))
		adds(t, b, good, api.OK)
		unchanged(t, b, good, func() {
			for _, v := range badVotes() {
				adds(t, b, signedOf(s, words.Of(2), v), api.ErrArg)
				adds(t, b, v, api.ErrArg)
			}
			for _, from := range append(wrongFroms(), 5, 6, 13, 14, 255) {
				adds(t, b, signedOf(s, words.Of(2), abc(from)), api.ErrArg)
				adds(t, b, abc(from), api.ErrArg)
			}
			for name, change := range map[string]func(v *api.Vote){
				"Phase":       func(v *api.Vote) { v.Phase = api.Precommit },
				"View":        func(v *api.Vote) { v.View = 1 },
				"Place":       func(v *api.Vote) { v.Place = 2 },
				"Value":       func(v *api.Vote) { v.Value[0] ^= 128 },
				"From":        func(v *api.Vote) { v.From = 2 },
				"Answer":      func(v *api.Vote) { v.Answer[0] ^= 1 },
				"Begin":       func(v *api.Vote) { v.Begin = keyOf(s, words.Of(5)) },
				"no Begin":    func(v *api.Vote) { v.Begin = api.Key{} },
				"no sign":     func(v *api.Vote) { v.Begin, v.Answer = api.Key{S: s}, api.Num{} },
				"high Answer": func(v *api.Vote) { v.Answer[5] = 1 << 63 },
			} {
				v := good
				change(&v)
				if e := b.Add(v); e != api.ErrProof {
					t.Error(s, name, e)
				}
			}
			adds(t, b, signedOf(s, words.Of(3), abc(1)), api.ErrProof) // node 2 signs for node 1
			adds(t, b, good, api.ErrThere)
			// Another signature of the same vote.
			adds(t, b, by(s, words.Of(2), words.Of(77), abc(1)), api.ErrThere)
		})
		if b.Len() != 1 || len(b.Doubles()) != 0 {
			t.Error(b.Len(), b.Doubles())
		}
	}
}

// TestOneVoteEach: of each node, phase, view and place the first one.
func TestOneVoteEach(t *testing.T) {
	b := box(t, api.Little, 4, 2)
	counted := 0
	for phase := 1; phase <= 3; phase++ {
		for _, view := range []int{0, 1, 1 << 30} {
			for _, place := range []int{0, 1, 1 << 30} {
				for from := 1; from <= 4; from++ {
					v := api.Vote{Phase: phase, View: view, Place: place, From: from}
					adds(t, b, sign(t, api.Little, v), api.OK)
					counted++
					adds(t, b, sign(t, api.Little, v), api.ErrThere)
					if b.Len() != counted || b.Count(phase, view, place, api.Digest{}) != from {
						t.Error(b.Len(), counted, b.Count(phase, view, place, api.Digest{}), from)
					}
				}
			}
		}
	}
	if len(b.Doubles()) != 0 {
		t.Error(b.Doubles())
	}
}

func TestDoubles(t *testing.T) {
	b := box(t, api.Little, 13, 9)
	for from := 13; from >= 1; from-- {
		adds(t, b, sign(t, api.Little, abc(from)), api.OK)
	}
	if l := b.Doubles(); len(l) != 0 {
		t.Error(l)
	}
	var want []int
	for _, from := range []int{7, 13, 1, 7, 2} {
		adds(t, b, sign(t, api.Little, of(abc(from), "other")), api.ErrState)
		if !slices.Contains(want, from) {
			want = append(want, from)
		}
		slices.Sort(want)
		if l := b.Doubles(); !slices.Equal(l, want) {
			t.Error(l, want)
		}
		// The first one stays.
		adds(t, b, sign(t, api.Little, abc(from)), api.ErrThere)
		if b.Len() != 13 || b.Count(1, 0, 1, valueOf("abc")) != 13 || b.Count(1, 0, 1, valueOf("other")) != 0 {
			t.Error(b.Len())
		}
	}
	// Who votes for two values in two rounds does not vote double; who says so and does
	// not sign it does not, either.
	v := of(abc(3), "other")
	v.View = 1
	adds(t, b, sign(t, api.Little, v), api.OK)
	adds(t, b, of(abc(3), "third"), api.ErrProof)
	if l := b.Doubles(); !slices.Equal(l, want) {
		t.Error(l, want)
	}
	// What is told is its own list, and what is dropped was double still.
	l := b.Doubles()
	l[0] = 99
	if n := b.Drop(1 << 30); n != 14 || !slices.Equal(b.Doubles(), want) {
		t.Error(n, b.Doubles())
	}
}

func TestCounts(t *testing.T) {
	b := box(t, api.Little, 5, 3)
	for from, text := range []string{"a", "b", "a", "c", "a"} {
		adds(t, b, sign(t, api.Little, of(abc(from+1), text)), api.OK)
	}
	for text, want := range map[string]int{"a": 3, "b": 1, "c": 1, "d": 0, "": 0} {
		if n := b.Count(api.Prevote, 0, 1, valueOf(text)); n != want {
			t.Error(text, n)
		}
	}
	a := valueOf("a")
	for _, r := range [][3]int{{2, 0, 1}, {1, 1, 1}, {1, 0, 0}, {1, 0, 2}, {0, 0, 1}, {4, 0, 1}, {1, -1, 1}, {1, 0, -1}, {257, 0, 1}, {1, 1 << 32, 1}, {1, 0, 1<<32 + 1}, {-1 << 63, 1<<63 - 1, -1 << 63}} {
		if n := b.Count(r[0], r[1], r[2], a); n != 0 {
			t.Error(r, n)
		}
		lacks(t, b, r[0], r[1], r[2])
	}
	if n := b.Count(1, 0, 1, api.Digest{}); n != 0 || b.Len() != 5 {
		t.Error(n, b.Len())
	}
}

// TestCertificatesOfABox: as soon as there are as many votes as the quorum, for all that
// are counted, whatever their order.
func TestCertificatesOfABox(t *testing.T) {
	for _, s := range suites() {
		keys := keysOf(s, 5)
		for _, order := range [][]int{{1, 2, 3, 4, 5}, {5, 4, 3, 2, 1}, {3, 5, 1, 2, 4}} {
			if s == api.Great && order[0] != 3 {
				continue
			}
			for quorum := 1; quorum <= 5; quorum++ {
				b := box(t, s, 5, quorum)
				for i, from := range order {
					lacks(t, b, api.Precommit, 3, 7)
					v := api.Vote{Phase: api.Prevote, View: 3, Place: 7, Value: valueOf("abc"), From: from}
					adds(t, b, sign(t, s, v), api.OK)
					nodes := slices.Sorted(slices.Values(order[:i+1]))
					if i+1 < quorum {
						lacks(t, b, api.Prevote, 3, 7)
						continue
					}
					proves(t, b, keys, quorum, certBy(t, s, v, nodes...))
				}
			}
		}
	}
}

// TestTheFirstValue: of two that have as many votes as the quorum that which first had.
func TestTheFirstValue(t *testing.T) {
	s := api.Little
	keys := keysOf(s, 6)
	b := box(t, s, 6, 2)
	adds(t, b, sign(t, s, of(abc(6), "late")), api.OK)
	adds(t, b, sign(t, s, of(abc(1), "early")), api.OK)
	lacks(t, b, 1, 0, 1)
	adds(t, b, sign(t, s, of(abc(5), "early")), api.OK)
	proves(t, b, keys, 2, certBy(t, s, of(abc(1), "early"), 1, 5))
	// The other one has more in the end.
	for _, from := range []int{4, 2, 3} {
		adds(t, b, sign(t, s, of(abc(from), "late")), api.OK)
		proves(t, b, keys, 2, certBy(t, s, of(abc(1), "early"), 1, 5))
	}
	if b.Count(1, 0, 1, valueOf("late")) != 4 || b.Count(1, 0, 1, valueOf("early")) != 2 {
		t.Error("counts")
	}
	// Gone with the place, and begun anew.
	if n := b.Drop(2); n != 6 {
		t.Error(n)
	}
	lacks(t, b, 1, 0, 1)
	adds(t, b, sign(t, s, of(abc(1), "late")), api.OK)
	lacks(t, b, 1, 0, 1)
	adds(t, b, sign(t, s, of(abc(6), "late")), api.OK)
	proves(t, b, keys, 2, certBy(t, s, of(abc(1), "late"), 1, 6))

	// A quorum of one: the very first vote.
	b = box(t, s, 6, 1)
	adds(t, b, sign(t, s, of(abc(4), "x")), api.OK)
	adds(t, b, sign(t, s, of(abc(1), "y")), api.OK)
	proves(t, b, keys, 1, certBy(t, s, of(abc(1), "x"), 4))
	// Each round by itself.
	v := of(abc(1), "y")
	v.View = 1
	adds(t, b, sign(t, s, v), api.OK)
	proves(t, b, keys, 1, certBy(t, s, v, 1))
	proves(t, b, keys, 1, certBy(t, s, of(abc(1), "x"), 4))
}

// TestTimeouts: of no value, so that nobody votes double.
func TestTimeouts(t *testing.T) {
	s := api.Little
	b := box(t, s, 4, 3)
	v := api.Vote{Phase: api.Timeout, View: 5, Place: 2}
	for from := 1; from <= 4; from++ {
		v.From = from
		adds(t, b, sign(t, s, v), api.OK)
		adds(t, b, signedOf(s, secretOf(from), of(v, "x")), api.ErrArg)
	}
	proves(t, b, keysOf(s, 4), 3, certBy(t, s, v, 1, 2, 3, 4))
	if len(b.Doubles()) != 0 {
		t.Error(b.Doubles())
	}
}

func TestDrop(t *testing.T) {
	s := api.Little
	keys := keysOf(s, 4)
	fill := func() *Box {
		b := box(t, s, 4, 2)
		for place := range 5 {
			for view := range 2 {
				for from := 1; from <= 3; from++ {
					v := abc(from)
					v.Place, v.View, v.Phase = place, view, 1+view
					adds(t, b, sign(t, s, v), api.OK)
				}
			}
		}
		return b
	}
	for place := -2; place <= 7; place++ {
		b := fill()
		gone := min(max(place, 0), 5)
		if n := b.Drop(place); n != 6*gone || b.Len() != 30-6*gone {
			t.Error(place, n, b.Len())
		}
		if n := b.Drop(place); n != 0 {
			t.Error(place, n)
		}
		for p := range 5 {
			v := abc(1)
			v.Place = p
			if p < place {
				lacks(t, b, 1, 0, p)
				if n := b.Count(1, 0, p, v.Value); n != 0 {
					t.Error(place, p, n)
				}
				// It may be counted anew.
				adds(t, b, sign(t, s, v), api.OK)
				if n := b.Count(1, 0, p, v.Value); n != 1 {
					t.Error(place, p, n)
				}
				// No longer held against what was dropped.
				other := of(v, "other")
				other.From = 2
				adds(t, b, sign(t, s, other), api.OK)
				continue
			}
			proves(t, b, keys, 2, certBy(t, s, v, 1, 2, 3))
			adds(t, b, sign(t, s, v), api.ErrThere)
		}
		if len(b.Doubles()) != 0 {
			t.Error(b.Doubles())
		}
	}
	b := fill()
	if b.Drop(-1<<63) != 0 || b.Drop(1<<63-1) != 30 || b.Len() != 0 || b.Drop(1<<63-1) != 0 {
		t.Error("ends")
	}
	// Only what is counted no more is gone.
	if len(b.votes) != 0 || len(b.rounds) != 0 {
		t.Error(b.votes, b.rounds)
	}
}

// TestTheFullBox: 8,192 votes, and not one more.
func TestTheFullBox(t *testing.T) {
	s := api.Little
	b := box(t, s, 2, 2)
	at := func(i int) api.Vote {
		return api.Vote{Phase: 1, View: i % 7, Place: i / 7, Value: valueOf("v"), From: 1}
	}
	for i := range 8192 {
		if b.Len() != i {
			t.Fatal(i, b.Len())
		}
		adds(t, b, sign(t, s, at(i)), api.OK)
	}
	// What is wrong beside is told ahead.
	adds(t, b, sign(t, s, at(8192)), api.ErrFull)
	second := at(0)
	second.From = 2
	adds(t, b, sign(t, s, second), api.ErrFull)
	lacks(t, b, 1, 0, 0)
	if b.Count(1, 0, 0, valueOf("v")) != 1 || b.Count(1, 8192%7, 8192/7, valueOf("v")) != 0 {
		t.Error("counted")
	}
	adds(t, b, sign(t, s, at(8191)), api.ErrThere)
	if len(b.Doubles()) != 0 {
		t.Error(b.Doubles())
	}
	adds(t, b, sign(t, s, of(at(0), "x")), api.ErrState)
	if !slices.Equal(b.Doubles(), []int{1}) || b.Len() != 8192 {
		t.Error(b.Doubles(), b.Len())
	}
	adds(t, b, at(9000), api.ErrProof)
	far := at(9000)
	far.From = 3
	adds(t, b, far, api.ErrArg)
	// There is room again.
	if n := b.Drop(1); n != 7 || b.Len() != 8185 {
		t.Error(n, b.Len())
	}
	for i := range 7 {
		adds(t, b, sign(t, s, at(8192+i)), api.OK)
	}
	adds(t, b, sign(t, s, at(8199)), api.ErrFull)
	if n := b.Drop(1 << 30); n != 8192 || b.Len() != 0 {
		t.Error(n)
	}
}

// TestABoxIsItsOwn: what was handed in may change, and what was told.
func TestABoxIsItsOwn(t *testing.T) {
	s := api.Little
	keys := keysOf(s, 4)
	room := append(slices.Clone(keys), keyOf(s, words.Of(99)))[:4]
	b, e := New(room, 3)
	fine(t, e)
	if !slices.Equal(room[:5][:4], keys) || room[:5][4] != keyOf(s, words.Of(99)) {
		t.Error("keys were changed")
	}
	for i := range room {
		room[i] = keyOf(s, words.Of(50))
	}
	for from := 1; from <= 4; from++ {
		adds(t, b, sign(t, s, abc(from)), api.OK)
	}
	adds(t, b, signedOf(s, words.Of(99), abc(5)), api.ErrArg)
	c, e := b.Cert(1, 0, 1)
	fine(t, e)
	for i := range c.Signs {
		c.Signs[i] = api.Signed{}
	}
	proves(t, b, keys, 3, certBy(t, s, abc(1), 1, 2, 3, 4))
	// Two boxes have nothing together.
	other, e := New(keys, 3)
	fine(t, e)
	adds(t, other, sign(t, s, of(abc(1), "x")), api.OK)
	if b.Len() != 4 || other.Len() != 1 || len(b.Doubles()) != 0 || len(other.Doubles()) != 0 {
		t.Error(b.Len(), other.Len())
	}
	// Two nodes of one key are two nodes.
	twins, e := New([]api.Key{keys[0], keys[0]}, 2)
	fine(t, e)
	adds(t, twins, sign(t, s, abc(1)), api.OK)
	adds(t, twins, signedOf(s, words.Of(2), abc(2)), api.OK)
	if _, e := twins.Cert(1, 0, 1); e != api.OK {
		t.Error(e)
	}
}
