package ballot

import (
	"slices"
	"testing"

	"reliquary/api"
	"reliquary/words"
)

// certBy tells the certificate of these nodes for what v says.
func certBy(t testing.TB, s api.Suite, v api.Vote, nodes ...int) api.Cert {
	t.Helper()
	var votes []api.Vote
	for _, from := range nodes {
		v.From = from
		votes = append(votes, sign(t, s, v))
	}
	return certOf(votes...)
}

// with tells a certificate with one thing changed; its list is its own.
func with(c api.Cert, change func(c *api.Cert)) api.Cert {
	c.Signs = slices.Clone(c.Signs)
	change(&c)
	return c
}

func TestCertificatesThatHold(t *testing.T) {
	for _, s := range suites() {
		keys := keysOf(s, 4)
		for _, v := range []api.Vote{abc(1), {Phase: api.Timeout}, {Phase: api.Precommit, View: 1 << 30, Place: 1 << 30, Value: valueOf("x")}} {
			for _, nodes := range [][]int{{1}, {4}, {1, 2}, {2, 4}, {1, 2, 3}, {2, 3, 4}, {1, 2, 3, 4}} {
				c := certBy(t, s, v, nodes...)
				for quorum := -1; quorum <= 5; quorum++ {
					want := quorum >= 1 && quorum <= len(nodes)
					if got := CertCheck(keys, quorum, c); got != want {
						t.Error(s, nodes, quorum, got)
					}
				}
				if CertCheck(keys, 1<<63-1, c) || CertCheck(keys, -1<<63, c) {
					t.Error(s, nodes, "quorums at the ends")
				}
			}
		}
	}
}

// TestNodesOfACertificate: from one node to thirteen.
func TestNodesOfACertificate(t *testing.T) {
	var all []int
	for n := 1; n <= 13; n++ {
		all = append(all, n)
		c := certBy(t, api.Little, abc(1), all...)
		keys := keysOf(api.Little, n)
		if !CertCheck(keys, n, c) || !CertCheck(keys, 1, c) || CertCheck(keys, n+1, c) || CertCheck(keys, 0, c) {
			t.Error(n)
		}
		// More signatures than nodes, and fewer.
		if CertCheck(keys[:n-1], 1, c) || n < 13 && !CertCheck(keysOf(api.Little, 13), n, c) {
			t.Error(n)
		}
	}
	// Fourteen nodes are none.
	if CertCheck(keysOf(api.Little, 14), 1, certBy(t, api.Little, abc(1), 1)) || CertCheck(keysOf(api.Little, 14), 13, certBy(t, api.Little, abc(1), all...)) {
		t.Error("fourteen")
	}
	if CertCheck(nil, 0, api.Cert{}) || CertCheck(nil, 1, api.Cert{}) || CertCheck([]api.Key{}, 0, certOf(abc(1))) {
		t.Error("no nodes")
	}
	// Nodes may have the same key.
	k := keyOf(api.Little, words.Of(2))
	v := signedOf(api.Little, words.Of(2), abc(2))
	if !CertCheck([]api.Key{k, k}, 2, certOf(sign(t, api.Little, abc(1)), v)) {
		t.Error("two nodes of one key")
	}
}

func TestCertificatesThatDoNotHold(t *testing.T) {
	for _, s := range suites() {
		keys := keysOf(s, 4)
		good := certBy(t, s, abc(1), 1, 2, 4)
		not := func(name string, change func(c *api.Cert)) {
			t.Helper()
			for quorum := 1; quorum <= 3; quorum++ {
				if CertCheck(keys, quorum, with(good, change)) {
					t.Error(s, quorum, name)
				}
			}
		}
		not("Phase", func(c *api.Cert) { c.Phase = api.Precommit })
		not("View", func(c *api.Cert) { c.View = 1 })
		not("Place", func(c *api.Cert) { c.Place = 2 })
		not("Value", func(c *api.Cert) { c.Value[31] ^= 1 })
		not("no Signs", func(c *api.Cert) { c.Signs = nil })
		not("changed about", func(c *api.Cert) { slices.Reverse(c.Signs) })
		not("the last two changed about", func(c *api.Cert) { c.Signs[1], c.Signs[2] = c.Signs[2], c.Signs[1] })
		not("one twice", func(c *api.Cert) { c.Signs[1] = c.Signs[0] })
		not("one twice more", func(c *api.Cert) { c.Signs = append(c.Signs, c.Signs[2]) })
		not("the first twice", func(c *api.Cert) { c.Signs = slices.Insert(c.Signs, 0, c.Signs[0]) })
		not("many times one", func(c *api.Cert) { c.Signs = slices.Repeat(c.Signs[:1], 1000) })
		not("another's", func(c *api.Cert) { c.Signs[1].From = 3 })
		not("From 0", func(c *api.Cert) { c.Signs[0].From = 0 })
		not("From -1", func(c *api.Cert) { c.Signs[0].From = -1 })
		not("From far below", func(c *api.Cert) { c.Signs[0].From = -1 << 63 })
		not("From 5", func(c *api.Cert) { c.Signs[2].From = 5 })
		not("From far above", func(c *api.Cert) { c.Signs[2].From = 1<<63 - 1 })
		for i := range 3 {
			not("Answer", func(c *api.Cert) { c.Signs[i].Answer[0] ^= 1 })
			not("Begin", func(c *api.Cert) { c.Signs[i].Begin = keyOf(s, words.Of(5)) })
			not("Begin that may not be", func(c *api.Cert) { c.Signs[i].Begin = api.Key{S: s} })
			not("of another phase", func(c *api.Cert) {
				v := abc(c.Signs[i].From)
				v.Phase = api.Precommit
				v = sign(t, s, v)
				c.Signs[i] = api.Signed{From: v.From, Begin: v.Begin, Answer: v.Answer}
			})
		}
		if !CertCheck(keys, 3, good) {
			t.Error(s, "the certificate itself")
		}
	}
}

// TestKeysThatAreNoNodes: one key that may not be is enough, though it signed nothing.
func TestKeysThatAreNoNodes(t *testing.T) {
	for _, s := range suites() {
		good := certBy(t, s, abc(1), 1, 2)
		for i := range 4 {
			for _, bad := range notKeys(s) {
				keys := keysOf(s, 4)
				keys[i] = bad
				if CertCheck(keys, 2, good) {
					t.Error(s, i, bad)
				}
			}
			for _, other := range suites() {
				keys := keysOf(s, 4)
				keys[i] = keyOf(other, secretOf(i+1))
				if got := CertCheck(keys, 2, good); got != (other == s) {
					t.Error(s, i, other, got)
				}
			}
		}
		keys := keysOf(s, 4)
		keys[3] = zeroOf(s) // a key that may be
		if !CertCheck(keys, 2, good) {
			t.Error(s, "the zero")
		}
	}
}

// TestCertificatesOfWhatMayNotBeSaid: though all signatures were made just so.
func TestCertificatesOfWhatMayNotBeSaid(t *testing.T) {
	for _, s := range suites() {
		keys := keysOf(s, 2)
		for name, v := range badVotes() {
			second := v
			second.From = 2
			c := certOf(signedOf(s, words.Of(2), v), signedOf(s, words.Of(3), second))
			if CertCheck(keys, 1, c) || CertCheck(keys, 2, c) {
				t.Error(s, name)
			}
		}
	}
	// A node's number that is none, signed by its key.
	for _, from := range []int{0, 5, 255} {
		v := signedOf(api.Little, words.Of(2), abc(from))
		if CertCheck(keysOf(api.Little, 4), 1, certOf(v)) {
			t.Error(from)
		}
	}
}

// TestWhatIsHeldIsNotChanged: neither the keys nor a certificate.
func TestWhatIsHeldIsNotChanged(t *testing.T) {
	keys := keysOf(api.Little, 4)
	c := certBy(t, api.Little, abc(1), 1, 2, 3)
	before, signs := slices.Clone(keys), slices.Clone(c.Signs)
	if !CertCheck(keys, 3, c) || !slices.Equal(keys, before) || !slices.Equal(c.Signs, signs) {
		t.Error(keys, c)
	}
	// Spare room counts for nothing.
	if CertCheck(keys[:2], 1, c) || !CertCheck(keys[:3], 3, c) || CertCheck(keys, 3, with(c, func(c *api.Cert) { c.Signs = c.Signs[:2] })) {
		t.Error("spare room")
	}
}
