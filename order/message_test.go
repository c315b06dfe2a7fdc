package order

import (
	"bytes"
	"slices"
	"strconv"
	"testing"

	"reliquary/api"
	"reliquary/words"
)

// does tells whether a message does something to node 4 of four at the place 1, to which
// the value of the place 0 was told.
func does(t *testing.T, s api.Suite, from int, b []byte) bool {
	t.Helper()
	n, e := New(s, keysOf(s, 4), 4, secretOf(4), 100)
	fine(t, e)
	return doesTo(t, n, from, b)
}

// doesTo tells whether a message does something to a node.
func doesTo(t *testing.T, n *Node, from int, b []byte) bool {
	t.Helper()
	place, view, waiting, saved := n.Place(), n.View(), n.Waiting(), n.Save()
	at, is := n.Next()
	kept := bytes.Clone(b)
	out, e := n.Take(from, b, 7)
	fine(t, e)
	if !bytes.Equal(b, kept) {
		t.Error("a message is changed")
	}
	due, has := n.Next()
	return len(out) > 0 || place != n.Place() || view != n.View() || waiting != n.Waiting() ||
		at != due || is != has || !bytes.Equal(saved, n.Save())
}

// good are messages to a node of no places that may be, one of each kind and form at least.
func good(s api.Suite) map[string][]byte {
	x := []byte("x")
	long := bytes.Repeat([]byte("l"), 16384)
	return map[string][]byte{
		"Request":              requestText(x),
		"Request, long":        requestText(long),
		"Status":               statusText(0, 0, nil, nil),
		"Status, high":         statusText(1<<30, 1<<30, nil, nil),
		"Status, lock":         statusText(0, 1, x, proofText(s, 0, 0, x, 1, 2, 3)),
		"Status, high lock":    statusText(1<<30, 1<<30, x, proofText(s, 1<<30-1, 1<<30, x, 1, 2, 3, 4)),
		"Status, empty lock":   statusText(0, 5, nil, proofText(s, 4, 0, nil, 1, 2, 4)),
		"Status, long lock":    statusText(0, 5, long, proofText(s, 4, 0, long, 1, 2, 4)),
		"Propose":              proposeText(0, 0, x, nil),
		"Propose, empty":       proposeText(0, 0, nil, nil),
		"Propose, high":        proposeText(1<<30, 1<<30, x, nil),
		"Propose, long":        proposeText(0, 0, long, nil),
		"Propose, proof":       proposeText(0, 1, x, proofText(s, 0, 0, x, 1, 2, 3)),
		"Propose, all":         proposeText(0, 7, x, proofText(s, 6, 0, x, 1, 2, 3, 4)),
		"Propose, empty proof": proposeText(0, 7, nil, proofText(s, 6, 0, nil, 2, 3, 4)),
		"Vote, 1":              voteText(s, voteOf(s, 1, api.Prevote, 0, 0, sumOf(x))),
		"Vote, 2":              voteText(s, voteOf(s, 2, api.Precommit, 1<<30, 1<<30, sumOf(x))),
		"Vote, 3":              voteText(s, voteOf(s, 3, api.Timeout, 1<<30, 0, api.Digest{})),
		"Vote, its own":        voteText(s, voteOf(s, 4, api.Precommit, 3, 0, api.Digest{})),
		"Decide":               decided(s, 0, 0, x, 1, 2, 3),
		"Decide, high":         decided(s, 1<<30, 1<<30, x, 1, 3, 4),
		"Decide, empty":        decided(s, 1<<30, 0, nil, 1, 2, 3, 4),
		"Decide, long":         decided(s, 1, 0, long, 1, 2, 4),
	}
}

func TestMessagesThatMayBe(t *testing.T) {
	for _, s := range suites() {
		for name, b := range good(s) {
			if !does(t, s, 3, b) {
				t.Error(s, name)
			}
		}
	}
}

// others are texts that are almost the message.
func others(b []byte) map[string][]byte {
	m := map[string][]byte{
		"one byte less": b[:len(b)-1],
		"one byte more": append(bytes.Clone(b), 0),
		"a zero ahead":  append([]byte{0}, b...),
	}
	l, _ := fieldsOf(b)
	change := func(name string, do func(l [][]byte) [][]byte) {
		m[name] = textOf(do(slices.Clone(l))...)
	}
	change("a field more", func(l [][]byte) [][]byte { return append(l, nil) })
	change("a field less", func(l [][]byte) [][]byte { return l[:len(l)-1] })
	change("a field twice", func(l [][]byte) [][]byte { return slices.Insert(l, 1, l[1]) })
	for _, kind := range [][]byte{{}, {0}, {6}, {255}, {l[0][0], 0}, {0, l[0][0]}, {l[0][0] + 128}} {
		change("kind "+string(append([]byte{'0' + byte(len(kind))}, kind...)), func(l [][]byte) [][]byte {
			l[0] = kind
			return l
		})
	}
	for kind := byte(1); kind <= 5; kind++ {
		// A Status is a Propose, and the other way round, and each text a Request's value.
		if kind == l[0][0] || kind+l[0][0] == 5 && kind != 4 {
			continue
		}
		change("kind "+string(rune('0'+kind)), func(l [][]byte) [][]byte {
			l[0] = []byte{kind}
			return l
		})
	}
	return m
}

// TestTextsThatAreNone: almost messages.
func TestTextsThatAreNone(t *testing.T) {
	for _, s := range []api.Suite{api.Little, api.Middle} {
		for name, b := range good(s) {
			for what, b := range others(b) {
				if does(t, s, 3, b) {
					t.Error(s, name, what)
				}
			}
		}
		for _, b := range [][]byte{nil, {}, {0}, {1}, textOf(), textOf(nil), textOf([]byte{1}), textOf([]byte{4}), []byte("abc")} {
			if does(t, s, 3, b) {
				t.Error(s, b)
			}
		}
	}
}

// TestTurnedBits: no bit of a message but those of its numbers and its value, where no
// signature binds them, may be turned.
func TestTurnedBits(t *testing.T) {
	s := api.Little
	for _, name := range []string{"Vote, 1", "Vote, 3", "Decide", "Status, lock", "Propose, proof", "Status"} {
		b := good(s)[name]
		for i := range 8 * len(b) {
			c := bytes.Clone(b)
			c[i/8] ^= 1 << (i % 8)
			m, ok := modelOf(s, 4, 4, 100).read(c)
			if does(t, s, 3, c) != ok {
				t.Error(name, i, ok)
			}
			// The kind, and the place and the view of what has no proof.
			free := i/8 == 8 || name == "Status" && i/8 > 12 && i/8 < 33
			if name == "Status, lock" || name == "Propose, proof" {
				free = free || i/8 >= 25 && i/8 < 33 && m.view > 0 // the view is another one
			}
			if ok && !free {
				t.Error(name, i)
			}
		}
	}
}

// badProofs are certificates that are no proof for x of a place below a view.
func badProofs(s api.Suite, phase, view, place int, x []byte) map[string][]byte {
	cert := func(change func(c *api.Cert)) []byte {
		c := certOf(s, phase, view, place, sumOf(x), 1, 2, 3)
		change(&c)
		return certText(s, c)
	}
	fresh := func(phase, view, place int, value string, from ...int) []byte {
		return certText(s, certOf(s, phase, view, place, sumOf([]byte(value)), from...))
	}
	return map[string][]byte{
		"of another value":   fresh(phase, view, place, "y", 1, 2, 3),
		"of the other phase": fresh(3-phase, view, place, string(x), 1, 2, 3),
		"too few":            fresh(phase, view, place, string(x), 1, 2),
		"none":               fresh(phase, view, place, string(x)),
		"one twice":          fresh(phase, view, place, string(x), 1, 2, 2),
		"falling":            fresh(phase, view, place, string(x), 1, 3, 2),
		"a fifth":            fresh(phase, view, place, string(x), 1, 2, 3, 5),
		"of Timeouts":        certText(s, certOf(s, api.Timeout, view, place, api.Digest{}, 1, 2, 3)),
		"a signature":        cert(func(c *api.Cert) { c.Signs[1].Answer[0] ^= 1 }),
		"another one's":      cert(func(c *api.Cert) { c.Signs[2].From = 4 }),
		"another view's":     cert(func(c *api.Cert) { c.View ^= 1 }),
		"another place's":    cert(func(c *api.Cert) { c.Place ^= 1 }),
		"a byte more":        append(certText(s, certOf(s, phase, view, place, sumOf(x), 1, 2, 3)), 0),
		"no certificate":     []byte("abc"),
		"no bytes but one":   {0},
	}
}

func TestMessagesThatMayNotBe(t *testing.T) {
	for _, s := range suites() {
		x := []byte("x")
		longer := bytes.Repeat([]byte("l"), 16385)
		proof := proofText(s, 2, 0, x, 1, 2, 3)
		bad := map[string][]byte{
			"Request, empty":           requestText(nil),
			"Request, longer":          requestText(longer),
			"Status, a value alone":    statusText(0, 1, x, nil),
			"Status, place":            statusText(1<<30+1, 0, nil, nil),
			"Status, view":             statusText(0, 1<<30+1, nil, nil),
			"Status, below 0":          statusText(-1, 0, nil, nil),
			"Status, view below 0":     statusText(0, -1, nil, nil),
			"Status, its own view":     statusText(0, 2, x, proof),
			"Status, a higher view":    statusText(0, 1, x, proof),
			"Status, another place":    statusText(1, 3, x, proof),
			"Status, another value":    statusText(0, 3, []byte("y"), proof),
			"Status, no value":         statusText(0, 3, nil, proof),
			"Status, longer":           statusText(0, 3, longer, proofText(s, 2, 0, longer, 1, 2, 3)),
			"Status, seven bytes":      textOf([]byte{2}, eightOf(0)[1:], eightOf(0), nil, nil),
			"Status, nine bytes":       textOf([]byte{2}, eightOf(0), append(eightOf(0), 0), nil, nil),
			"Propose, place":           proposeText(1<<30+1, 0, x, nil),
			"Propose, view":            proposeText(0, 1<<30+1, x, nil),
			"Propose, below 0":         proposeText(-1, 0, x, nil),
			"Propose, view below 0":    proposeText(0, -1, x, nil),
			"Propose, its own view":    proposeText(0, 2, x, proof),
			"Propose, a higher view":   proposeText(0, 0, x, proof),
			"Propose, another place":   proposeText(1, 3, x, proof),
			"Propose, another value":   proposeText(0, 3, []byte("y"), proof),
			"Propose, longer":          proposeText(0, 0, longer, nil),
			"Propose, longer, a proof": proposeText(0, 3, longer, proofText(s, 2, 0, longer, 1, 2, 3)),
			"Propose, no bytes":        textOf([]byte{3}, nil, nil, x, nil),
			"Decide, another value":    decideText([]byte("y"), certText(s, certOf(s, api.Precommit, 0, 0, sumOf(x), 1, 2, 3))),
			"Decide, no proof":         decideText(x, nil),
			"Decide, longer":           decided(s, 0, 0, longer, 1, 2, 3),
		}
		for name, b := range badProofs(s, api.Prevote, 2, 0, x) {
			bad["Status, "+name] = statusText(0, 9, x, b)
			bad["Propose, "+name] = proposeText(0, 9, x, b)
		}
		for name, b := range badProofs(s, api.Precommit, 2, 0, x) {
			bad["Decide, "+name] = decideText(x, b)
		}
		for name, v := range badVotes(s) {
			bad["Vote, "+name] = textOf([]byte{4}, v)
		}
		for name, b := range bad {
			if does(t, s, 3, b) {
				t.Error(s, name)
			}
		}
	}
}

// badVotes are bytes that are no vote of one of four nodes.
func badVotes(s api.Suite) map[string][]byte {
	vote := func(change func(v *api.Vote)) []byte {
		v := voteOf(s, 2, api.Prevote, 0, 0, sumOf([]byte("x")))
		change(&v)
		l, _ := fieldsOf(voteText(s, v))
		return l[1]
	}
	plain := vote(func(*api.Vote) {})
	// What no vote may say is written into its bytes: the phase's last one stands behind
	// two counts, two lengths and seven bytes.
	const phaseAt = 4*4 + 7
	said := func(at int, value byte) []byte {
		b := bytes.Clone(plain)
		b[at] = value
		return b
	}
	other := otherThan(s)
	foreign, _ := fieldsOf(voteText(other, voteOf(other, 2, api.Prevote, 0, 0, sumOf([]byte("x")))))
	return map[string][]byte{
		"the phase":     vote(func(v *api.Vote) { v.Phase = 2 }),
		"the view":      vote(func(v *api.Vote) { v.View = 1 }),
		"the place":     vote(func(v *api.Vote) { v.Place = 1 }),
		"the value":     vote(func(v *api.Vote) { v.Value[31] ^= 1 }),
		"who":           vote(func(v *api.Vote) { v.From = 1 }),
		"the answer":    vote(func(v *api.Vote) { v.Answer = words.Of(3) }),
		"the beginning": vote(func(v *api.Vote) { v.Begin = keyOf(s, words.Of(77)) }),
		"of a fifth":    vote(func(v *api.Vote) { *v = voteOf(s, 5, api.Prevote, 0, 0, v.Value) }),
		"of a fifth, in its place elsewhere": vote(func(v *api.Vote) {
			*v = voteOf(s, 5, api.Timeout, 0, 3, api.Digest{})
		}),
		"a late signature": vote(func(v *api.Vote) {
			*v = voteOf(s, 1, api.Timeout, 0, 3, api.Digest{})
			v.From = 2
		}),
		"a byte more":      append(bytes.Clone(plain), 0),
		"a byte less":      plain[:len(plain)-1],
		"nothing":          nil,
		"a phase 4":        said(phaseAt, 4),
		"a phase 0":        said(phaseAt, 0),
		"of another suite": foreign[1],
	}
}

// TestOtherNumbersOfNodes: how many signatures a proof needs.
func TestOtherNumbersOfNodes(t *testing.T) {
	s := api.Little
	x := []byte("x")
	for n := 2; n <= 13; n++ {
		quorum := n - (n-1)/3
		for count := range n + 2 {
			node := func() *Node {
				b, e := New(s, keysOf(s, n), n, secretOf(n), 4)
				fine(t, e)
				return b
			}
			want := count >= quorum && count <= n
			for name, b := range map[string][]byte{
				"Decide":  decided(s, 0, 0, x, first(count)...),
				"Propose": proposeText(0, 4, x, proofText(s, 3, 0, x, first(count)...)),
				"Status":  statusText(0, 4, x, proofText(s, 3, 0, x, first(count)...)),
			} {
				if got := doesTo(t, node(), 1, b); got != want {
					t.Error(n, count, name, got)
				}
			}
		}
		for from := 1; from <= 14; from++ {
			b, e := New(s, keysOf(s, n), n, secretOf(n), 4)
			fine(t, e)
			v := voteText(s, voteOf(s, from, api.Timeout, 4, 0, api.Digest{}))
			if got := doesTo(t, b, 1, v); got != (from <= n) {
				t.Error(n, from, got)
			}
		}
	}
}

// TestWhatDoesNothing: messages that may be, and do nothing all the same; and those that
// may not, of a node that is elsewhere.
func TestWhatDoesNothing(t *testing.T) {
	s := api.Little
	n, e := New(s, keysOf(s, 4), 4, secretOf(4), 100)
	fine(t, e)
	_, e = n.Take(1, decided(s, 0, 0, []byte("x"), 1, 2, 3), 0)
	fine(t, e)
	if doesTo(t, n, 1, decided(s, 0, 0, []byte("x"), 1, 2, 3)) {
		t.Error("an old Decide")
	}
	for name, b := range badVotes(s) {
		if doesTo(t, n, 3, textOf([]byte{4}, b)) {
			t.Error(name)
		}
	}
	for _, place := range []int{0, 2} {
		x := []byte("x")
		for name, b := range badProofs(s, api.Prevote, 2, place, x) {
			if doesTo(t, n, 3, statusText(place, 9, x, b)) || doesTo(t, n, 3, proposeText(place, 9, x, b)) {
				t.Error(place, name)
			}
		}
		for name, b := range badProofs(s, api.Precommit, 2, place, x) {
			if doesTo(t, n, 3, decideText(x, b)) {
				t.Error(place, name)
			}
		}
	}
	for i := range 256 {
		out, e := n.Take(1, requestText([]byte(strconv.Itoa(i))), 7)
		fine(t, e)
		if (len(out) > 0) != (i == 0) || n.Waiting() != i+1 {
			t.Error(i, out, n.Waiting())
		}
	}
	for _, value := range []string{"7", "256", "other"} {
		if doesTo(t, n, 2, requestText([]byte(value))) {
			t.Error(value)
		}
	}
}
