package order

import (
	"bytes"
	"slices"
	"testing"

	"reliquary/api"
)

// loads makes node 4 of four of what was saved.
func loads(s api.Suite, saved []byte, decides [][]byte, now int) (*Node, api.Errno) {
	return Load(s, keysOf(s, 4), 4, secretOf(4), 100, saved, decides, now)
}

// loaded is such a node and the chapter's words.
func loaded(t *testing.T, me int, saved []byte, decides [][]byte, now int) *pair {
	t.Helper()
	p := four(t, me)
	p.m.decides = decides
	p.load(saved, now)
	return p
}

// refuses looks whether nothing is made of it.
func refuses(t *testing.T, s api.Suite, name string, saved []byte, decides [][]byte, now int, want api.Errno) {
	t.Helper()
	if n, e := loads(s, saved, decides, now); e != want || n != nil {
		t.Error(s, name, e)
	}
}

// three tells the Decides of the first three places.
func three(s api.Suite) [][]byte {
	return [][]byte{
		decided(s, 0, 0, []byte("a"), 1, 2, 3),
		decided(s, 7, 1, nil, 1, 3, 4),
		decided(s, 1<<30, 2, []byte("c"), 1, 2, 3, 4),
	}
}

func TestLoadNeedsWhatNewDoes(t *testing.T) {
	for _, s := range suites() {
		for _, x := range makings(s) {
			n, e := Load(x.s, x.keys, x.me, x.secret, x.base, nil, nil, 3)
			if (e == api.OK) != x.want || (n != nil) != x.want || e != api.OK && e != api.ErrArg {
				t.Error(s, x.name, e)
			}
			if x.want {
				continue
			}
			if n, e := Load(x.s, x.keys, x.me, x.secret, x.base, []byte("bad"), [][]byte{nil}, -1); e != api.ErrArg || n != nil {
				t.Error(s, x.name, e)
			}
		}
	}
}

func TestLoadedMoments(t *testing.T) {
	s := api.Little
	for _, now := range []int{-1 << 63, -1, 1<<40 + 1, 1<<63 - 1} {
		refuses(t, s, "no moment", nil, nil, now, api.ErrArg)
		refuses(t, s, "no moment", []byte("bad"), [][]byte{nil}, now, api.ErrArg)
	}
	for _, now := range []int{0, 1 << 40} {
		n, e := loads(s, savedText(0, 1, -1, -1, -1, api.Digest{}, nil, nil), nil, now)
		fine(t, e)
		if due, is := n.Next(); due != now || !is {
			t.Error(now, due, is)
		}
	}
}

func TestLoadedDecides(t *testing.T) {
	for _, s := range suites() {
		all := three(s)
		for many := range 4 {
			l := all[:many]
			n, e := loads(s, nil, l, 5)
			fine(t, e)
			if n.Place() != many {
				t.Fatal(n.Place())
			}
			for i, b := range l {
				if text, e := n.Decided(i); e != api.OK || !bytes.Equal(text, b) {
					t.Error(i, e)
				}
				if value, e := n.Ordered(i); e != api.OK || string(value) != []string{"a", "", "c"}[i] {
					t.Error(i, value, e)
				}
			}
			if at, is := n.Next(); at != 0 || is || n.Waiting() != 0 || n.View() != 0 {
				t.Error(at, is, n.Waiting(), n.View())
			}
			if want := savedText(many, 0, -1, -1, -1, api.Digest{}, nil, nil); !bytes.Equal(n.Save(), want) {
				t.Error(n.Save())
			}
		}
		x := []byte("x")
		bad := map[string][]byte{
			"no bytes":            nil,
			"text":                []byte("abc"),
			"a Request":           requestText(x),
			"a Status":            statusText(1, 0, nil, nil),
			"a Propose":           proposeText(1, 0, x, nil),
			"a Vote":              voteText(s, voteOf(s, 1, api.Precommit, 0, 1, sumOf(x))),
			"of the place 0":      decided(s, 0, 0, x, 1, 2, 3),
			"of the place 2":      decided(s, 0, 2, x, 1, 2, 3),
			"of another value":    decideText([]byte("y"), certText(s, certOf(s, api.Precommit, 0, 1, sumOf(x), 1, 2, 3))),
			"of a longer value":   decided(s, 0, 1, make([]byte, 16385), 1, 2, 3),
			"too few":             decided(s, 0, 1, x, 1, 2),
			"a field more":        textOf([]byte{5}, x, certText(s, certOf(s, api.Precommit, 0, 1, sumOf(x), 1, 2, 3)), nil),
			"a byte more":         append(decided(s, 0, 1, x, 1, 2, 3), 0),
			"without a kind":      decided(s, 0, 1, x, 1, 2, 3)[1:],
			"of another suite":    decided(otherThan(s), 0, 1, x, 1, 2, 3),
			"of Prevotes":         decideText(x, proofText(s, 0, 1, x, 1, 2, 3)),
			"no certificate":      decideText(x, nil),
			"half a certificate ": decideText(x, certText(s, certOf(s, api.Precommit, 0, 1, sumOf(x), 1, 2, 3))[:99]),
		}
		for name, b := range badProofs(s, api.Precommit, 2, 1, x) {
			bad[name] = decideText(x, b)
		}
		for name, b := range bad {
			refuses(t, s, name, nil, [][]byte{all[0], b, all[2]}, 5, api.ErrBroken)
			refuses(t, s, name, nil, [][]byte{all[0], b}, 5, api.ErrBroken)
		}
		refuses(t, s, "another order", nil, [][]byte{all[1], all[0], all[2]}, 5, api.ErrBroken)
		refuses(t, s, "one left out", nil, [][]byte{all[0], all[2]}, 5, api.ErrBroken)
		refuses(t, s, "one twice", nil, [][]byte{all[0], all[0]}, 5, api.ErrBroken)
		refuses(t, s, "not from 0 on", nil, all[1:], 5, api.ErrBroken)
	}
}

// badSaved are texts that Save tells of no node at the place 1, and a good one.
func badSaved(s api.Suite) (map[string][]byte, []byte) {
	x := []byte("x")
	sum := sumOf(x)
	proof := proofText(s, 2, 1, x, 1, 2, 3)
	good := savedText(1, 3, 3, 2, 5, sum, x, proof)
	fields, _ := fieldsOf(good)
	with := func(i int, b []byte) []byte {
		l := slices.Clone(fields)
		l[i] = b
		return textOf(l...)
	}
	bad := map[string][]byte{
		"text":                      []byte("abc"),
		"one byte":                  {0},
		"no fields":                 textOf(),
		"a field less":              textOf(fields[:7]...),
		"a field more":              textOf(append(slices.Clone(fields), nil)...),
		"a byte more":               append(bytes.Clone(good), 0),
		"a byte less":               good[:len(good)-1],
		"a place above":             with(0, eightOf(2)),
		"a place below 0":           with(0, eightOf(-1)),
		"a view above":              with(1, eightOf(1<<30+1)),
		"a view below 0":            with(1, eightOf(-1)),
		"a digest without Prevote":  savedText(1, 3, -1, 2, 5, sum, x, proof),
		"a digest of 31 bytes":      with(5, sum[1:]),
		"a digest of 33 bytes":      with(5, append([]byte{0}, sum[:]...)),
		"no digest":                 with(5, nil),
		"a value alone":             with(7, nil),
		"a proof alone":             with(6, nil),
		"another value":             with(6, []byte("y")),
		"a lock of the view 2^30+1": with(7, []byte("proof")),
		"a longer value":            savedText(1, 3, 3, 2, 5, sum, make([]byte, 16385), proofText(s, 2, 1, make([]byte, 16385), 1, 2, 3)),
		"a message":                 statusText(1, 3, x, proof),
	}
	for i, name := range []string{"place", "view", "Prevote", "Precommit", "Timeout"} {
		bad["seven bytes: "+name] = with(i, fields[i][1:])
		bad["nine bytes: "+name] = with(i, append([]byte{0}, fields[i]...))
		bad["no bytes: "+name] = with(i, nil)
		if i >= 2 {
			bad["above: "+name] = with(i, eightOf(1<<30+2))
			bad["below 0: "+name] = with(i, eightOf(-1))
		}
	}
	for name, b := range badProofs(s, api.Prevote, 2, 1, x) {
		bad["proof: "+name] = with(7, b)
	}
	return bad, good
}

func TestBrokenSaved(t *testing.T) {
	for _, s := range suites() {
		bad, good := badSaved(s)
		all := three(s)
		for name, b := range bad {
			refuses(t, s, name, b, all[:1], 5, api.ErrBroken)
			// Though it is of a place that is over.
			if s != api.Great && name != "a place above" {
				refuses(t, s, name, b, all, 5, api.ErrBroken)
			}
		}
		refuses(t, s, "a place above", good, nil, 5, api.ErrBroken)
		refuses(t, s, "two above", savedText(2, 0, -1, -1, -1, api.Digest{}, nil, nil), all[:1], 5, api.ErrBroken)
		refuses(t, s, "broken Decides, too", good, [][]byte{{}}, 5, api.ErrBroken)
		n, e := loads(s, good, all[:1], 5)
		fine(t, e)
		if !bytes.Equal(n.Save(), good) || n.Place() != 1 || n.View() != 3 {
			t.Error(s, n.Save())
		}
		// Of a place that is over: the node is at the beginning of its own one.
		n, e = loads(s, good, all, 5)
		fine(t, e)
		if at, is := n.Next(); !bytes.Equal(n.Save(), savedText(3, 0, -1, -1, -1, api.Digest{}, nil, nil)) || n.Place() != 3 || at != 0 || is {
			t.Error(s, n.Save(), at, is)
		}
		// Nothing was saved.
		for _, none := range [][]byte{nil, {}} {
			n, e := loads(s, none, all[:2], 5)
			fine(t, e)
			if at, is := n.Next(); n.Place() != 2 || at != 0 || is {
				t.Error(s, at, is)
			}
		}
	}
}

// TestGoodSaved: the edges of what may be saved, and who is awake.
func TestGoodSaved(t *testing.T) {
	s := api.Little
	x := []byte("x")
	const top = 1 << 30
	none, sum := api.Digest{}, sumOf(x)
	low, high := proofText(s, 0, 0, x, 1, 2, 3), proofText(s, top, 0, x, 1, 2, 3, 4)
	for _, c := range []struct {
		saved []byte
		awake bool
	}{
		{savedText(0, 0, -1, -1, -1, none, nil, nil), false},
		{savedText(0, 1, -1, -1, -1, none, nil, nil), true},
		{savedText(0, top, -1, -1, -1, none, nil, nil), true},
		{savedText(0, 0, 0, -1, -1, sum, nil, nil), true},
		{savedText(0, 0, 0, -1, -1, none, nil, nil), true},
		{savedText(0, 0, top, -1, -1, sum, nil, nil), true},
		{savedText(0, 0, -1, 0, -1, none, nil, nil), true},
		{savedText(0, 0, -1, top, -1, none, nil, nil), true},
		{savedText(0, 0, -1, -1, 0, none, nil, nil), true},
		{savedText(0, 0, -1, -1, top, none, nil, nil), true},
		{savedText(0, 0, -1, -1, -1, none, x, low), true},
		{savedText(0, 0, -1, -1, -1, none, x, high), true},
		{savedText(0, 0, -1, -1, -1, none, nil, proofText(s, 5, 0, nil, 2, 3, 4)), true},
		{savedText(0, top, top, top, top, sum, x, high), true},
	} {
		n, e := loads(s, c.saved, nil, 17)
		fine(t, e)
		if !bytes.Equal(n.Save(), c.saved) {
			t.Error(n.Save(), c.saved)
		}
		if at, is := n.Next(); is != c.awake || is && at != 17 {
			t.Error(c.saved, at, is)
		}
		p := loaded(t, 4, c.saved, nil, 17)
		p.submit([]byte("later"), 18)
		p.tick(19)
		p.take(2, bare(0, 1<<30), 20)
	}
}

// TestGoingOn: what a loaded node does next.
func TestGoingOn(t *testing.T) {
	s := api.Little
	x, y := []byte("x"), []byte("y")
	proof := proofText(s, 1, 0, x, 1, 2, 4)
	// It does not vote again where it did, for another value or the same one.
	saved := savedText(0, 2, 2, 1, -1, sumOf(x), x, proof)
	p := loaded(t, 4, saved, nil, 50)
	p.due(50)
	p.takes(3, backed(0, 2, "y", 1), 50, "")
	p.takes(3, backed(0, 2, "x", 1), 50, "")
	// Its Status tells the lock; its due moment is now.
	out := p.tick(50)
	sends(t, out, "3s 1v3 2v3 3v3")
	sent(t, out[:1], statusText(0, 2, x, proof), 3)
	p.due(50 + 300)
	p.hears(1, api.Timeout, 2, "", 60, "")
	p.hears(2, api.Timeout, 2, "", 60, "") // it leads the view 3
	p.due(60 + 400)
	// As the leader it has its own Status, with the lock, and proposes what that says.
	p = loaded(t, 3, saved, nil, 50)
	p.due(50)
	p.submit(y, 50)
	p.takes(1, bare(0, 2), 50, "")
	p.takes(2, bare(0, 2), 50, "")
	p.due(50)
	out = p.takes(4, bare(0, 2), 50, "1p 2p 4p")
	sent(t, out, proposeText(0, 2, x, proof), 1, 2, 4)
	// It waits for the fourth from the moment on at which it was loaded.
	p = loaded(t, 3, saved, nil, 50)
	p.tick(50)
	p.takes(1, bare(0, 2), 50, "")
	p.takes(2, bare(0, 2), 51, "")
	p.due(50 + 75)
	sends(t, p.tick(124), "")
	sends(t, p.tick(125), "1p 2p 4p")
	// A Precommit that it cast is not cast again, and what it put into its box is gone.
	p = loaded(t, 4, savedText(0, 0, 0, 0, -1, sumOf(x), x, proofText(s, 0, 0, x, 1, 2, 3)), nil, 50)
	p.takes(1, idea(0, 0, "x"), 50, "")
	for from := 1; from <= 3; from++ {
		p.hears(from, api.Prevote, 0, "x", 50, "")
	}
	p.hears(1, api.Precommit, 0, "x", 50, "")
	p.hears(2, api.Precommit, 0, "x", 50, "")
	p.hears(3, api.Precommit, 0, "x", 50, "1d 2d 3d")
	p.orders("x")
	// What a lock is about is not known by that alone.
	p = loaded(t, 4, savedText(0, 0, 0, 0, -1, sumOf(x), x, proofText(s, 0, 0, x, 1, 2, 3)), nil, 50)
	for from := 1; from <= 3; from++ {
		p.hears(from, api.Precommit, 0, "x", 50, "")
	}
	p.takes(1, idea(0, 0, "x"), 50, "1d 2d 3d")
}

// TestLoadedTimeouts: its last one is noted as its own.
func TestLoadedTimeouts(t *testing.T) {
	p := loaded(t, 4, savedText(0, 1, -1, -1, 6, api.Digest{}, nil, nil), nil, 50)
	p.hears(1, api.Timeout, 9, "", 50, "")
	p.hears(2, api.Timeout, 6, "", 50, "") // of three: it leads the view 7
	p.due(50 + 800)
	if p.n.View() != 7 {
		t.Error(p.n.View())
	}
	p = loaded(t, 4, savedText(0, 1, -1, -1, 6, api.Digest{}, nil, nil), nil, 50)
	out := p.tick(50)
	sends(t, out, "2s 1v3 2v3 3v3")
	sent(t, out[1:], voteText(api.Little, voteOf(api.Little, 4, api.Timeout, 6, 0, api.Digest{})), 1, 2, 3)
	// Without one nothing is noted.
	p = loaded(t, 4, savedText(0, 1, -1, -1, -1, api.Digest{}, nil, nil), nil, 50)
	p.hears(1, api.Timeout, 9, "", 50, "")
	p.hears(2, api.Timeout, 6, "", 50, "1v3 2v3 3v3")
	// Nor of a place that is over.
	p = loaded(t, 4, savedText(0, 1, -1, -1, 6, api.Digest{}, nil, nil), [][]byte{decided(api.Little, 0, 0, nil, 1, 2, 3)}, 50)
	p.due(-1)
	p.hears(1, api.Timeout, 9, "", 50, "2s")
	p.hears(2, api.Timeout, 6, "", 50, "1v3 2v3 3v3 1s")
}

// TestLoadedAlone: one node that voted for a value which it does not know any more leaves
// the view by its own Timeout.
func TestLoadedAlone(t *testing.T) {
	p := pairOf(t, api.Little, 1, 1, 4)
	p.load(savedText(0, 0, 0, -1, -1, sumOf([]byte("gone")), nil, nil), 7)
	p.submit([]byte("x"), 7)
	p.due(7)
	p.orders()
	sends(t, p.tick(7), "")
	p.orders("x")
	p.due(-1)
	text, e := p.n.Decided(0)
	if e != api.OK || !bytes.Equal(text, decided(api.Little, 1, 0, []byte("x"), 1)) {
		t.Error(text, e)
	}
}

// TestCrashesAnywhere: nodes that are loaded anew behind each call, or each so many, sign
// no two votes that are unlike at one place, view and phase, and all order the same.
func TestCrashesAnywhere(t *testing.T) {
	for _, often := range []int{1, 2, 3, 5, 8, 11, 16, 23, 31, 47} {
		l := []*pair{nil}
		for i := range 4 {
			l = append(l, pairOf(t, api.Little, 4, i+1, 8))
		}
		c := crashes{t: t, nodes: l, often: often, cast: map[[4]int]api.Digest{}}
		c.post(1, l[1].submit([]byte("a"), 0))
		c.post(2, l[2].submit([]byte("b"), 0))
		for now := range 300 {
			c.calm(now)
		}
		// Of those that are loaded most often the boxes are always empty: they order nothing.
		for i := 1; i <= 4; i++ {
			a, e := l[i].n.Ordered(0)
			b, f := l[1].n.Ordered(0)
			if (e == api.OK) != (often > 4) || e != f || !bytes.Equal(a, b) {
				t.Error(often, i, a, b, e, f)
			}
		}
	}
}

// crashes is nodes that are loaded anew behind each so many calls, and what they signed.
type crashes struct {
	t            *testing.T
	nodes        []*pair
	often, calls int
	cast         map[[4]int]api.Digest // by node, phase, view and place
	under        []mail
}

// post notes what a node signed and sends.
func (c *crashes) post(i int, out []api.Out) {
	c.t.Helper()
	p := c.nodes[i]
	for _, m := range mails(i, out) {
		if x, ok := p.m.read(m.data); ok && x.kind == 4 && x.vote.From == i {
			at := [4]int{i, x.vote.Phase, x.vote.View, x.vote.Place}
			if old, is := c.cast[at]; is && old != x.vote.Value {
				c.t.Fatal("voted double", at)
			}
			c.cast[at] = x.vote.Value
		}
		c.under = append(c.under, m)
	}
	c.calls++
	if c.calls%c.often == 0 {
		p.load(p.n.Save(), p.m.told)
	}
}

// calm lets all that is under way come, then time.
func (c *crashes) calm(now int) {
	c.t.Helper()
	for len(c.under) > 0 {
		m := c.under[0]
		c.under = c.under[1:]
		c.post(m.to, c.nodes[m.to].take(m.from, m.data, now))
	}
	for i := 1; i <= 4; i++ {
		if at, is := c.nodes[i].n.Next(); is && at <= now {
			c.post(i, c.nodes[i].tick(now))
		}
	}
}
