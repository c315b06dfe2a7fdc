package ballot

import (
	"math/rand"
	"slices"
	"testing"

	"reliquary/api"
)

// plain is a box by the chapter's words: all votes in a list, looked through each time.
type plain struct {
	keys    []api.Key
	quorum  int
	votes   []api.Vote
	doubles []int
}

// add counts a vote.
func (p *plain) add(v api.Vote) api.Errno {
	if v.Phase < 1 || v.Phase > 3 || v.View < 0 || v.View > 1<<30 || v.Place < 0 || v.Place > 1<<30 ||
		v.Phase == 3 && v.Value != (api.Digest{}) || v.From < 1 || v.From > len(p.keys) {
		return api.ErrArg
	}
	if !Check(p.keys[v.From-1], v) {
		return api.ErrProof
	}
	for _, o := range p.votes {
		if o.From == v.From && o.Phase == v.Phase && o.View == v.View && o.Place == v.Place {
			if o.Value == v.Value {
				return api.ErrThere
			}
			if !slices.Contains(p.doubles, v.From) {
				p.doubles = append(p.doubles, v.From)
				slices.Sort(p.doubles)
			}
			return api.ErrState
		}
	}
	p.votes = append(p.votes, v)
	return api.OK
}

// those tells the votes of a round for a value.
func (p *plain) those(phase, view, place int, value api.Digest) []api.Vote {
	var l []api.Vote
	for _, v := range p.votes {
		if v.Phase == phase && v.View == view && v.Place == place && v.Value == value {
			l = append(l, v)
		}
	}
	slices.SortFunc(l, func(a, b api.Vote) int { return a.From - b.From })
	return l
}

// cert tells the certificate of a round: the votes are gone through in their order.
func (p *plain) cert(phase, view, place int) (api.Cert, api.Errno) {
	counts := map[api.Digest]int{}
	for _, v := range p.votes {
		if v.Phase != phase || v.View != view || v.Place != place {
			continue
		}
		counts[v.Value]++
		if counts[v.Value] == p.quorum {
			return certOf(p.those(phase, view, place, v.Value)...), api.OK
		}
	}
	return api.Cert{}, api.ErrMissing
}

// drop drops votes.
func (p *plain) drop(place int) int {
	before := len(p.votes)
	p.votes = slices.DeleteFunc(p.votes, func(v api.Vote) bool { return v.Place < place })
	return before - len(p.votes)
}

// TestScriptsByChance: a box and the chapter's words go on together.
func TestScriptsByChance(t *testing.T) {
	r := rand.New(rand.NewSource(19))
	for range 150 {
		n := 1 + r.Intn(13)
		quorum := 1 + r.Intn(n)
		keys := keysOf(api.Little, n)
		b, e := New(keys, quorum)
		fine(t, e)
		p := &plain{keys: keys, quorum: quorum}
		for range 80 {
			v := api.Vote{Phase: 1 + r.Intn(3), View: r.Intn(2), Place: r.Intn(2), From: 1 + r.Intn(n)}
			if v.Phase != api.Timeout {
				v.Value = valueOf([]string{"a", "b"}[r.Intn(2)])
			}
			v = sign(t, api.Little, v)
			switch r.Intn(20) {
			case 0:
				v.Answer[0] ^= 1
			case 1:
				v.From = r.Intn(16)
			case 2:
				v.Phase = r.Intn(5)
			case 3:
				place := r.Intn(3) - r.Intn(2)
				if got, want := b.Drop(place), p.drop(place); got != want {
					t.Error(got, want)
				}
			}
			if got, want := b.Add(v), p.add(v); got != want {
				t.Error(v, got, want)
			}
			likeness(t, b, p)
		}
	}
}

// likeness looks whether a box tells what the chapter's words do.
func likeness(t *testing.T, b *Box, p *plain) {
	t.Helper()
	if b.Len() != len(p.votes) || !slices.Equal(b.Doubles(), p.doubles) {
		t.Error(b.Len(), len(p.votes), b.Doubles(), p.doubles)
	}
	for phase := 0; phase <= 4; phase++ {
		for view := range 2 {
			for place := range 2 {
				c, e := b.Cert(phase, view, place)
				want, f := p.cert(phase, view, place)
				if e != f || !same(c, want) {
					t.Error(phase, view, place, c, e, want, f)
				}
				for _, value := range []api.Digest{{}, valueOf("a"), valueOf("b"), valueOf("c")} {
					if n := b.Count(phase, view, place, value); n != len(p.those(phase, view, place, value)) {
						t.Error(phase, view, place, n)
					}
				}
			}
		}
	}
}

// TestCertificatesHold: whatever votes a box counts, what it proves holds, for its quorum
// and for each lesser one, and is read again.
func TestCertificatesHold(t *testing.T) {
	r := rand.New(rand.NewSource(20))
	for _, s := range suites() {
		for n := 1; n <= 13; n += 3 {
			if s == api.Great && n != 4 {
				continue
			}
			keys := keysOf(s, n)
			for quorum := 1; quorum <= n; quorum++ {
				b, e := New(keys, quorum)
				fine(t, e)
				for _, i := range r.Perm(n) {
					adds(t, b, sign(t, s, abc(i+1)), api.OK)
					c, e := b.Cert(1, 0, 1)
					if e != api.OK {
						continue
					}
					if !CertCheck(keys, quorum, c) || CertCheck(keys, len(c.Signs)+1, c) {
						t.Error(s, n, quorum, c)
					}
					text, e := CertBytes(s, c)
					fine(t, e)
					back, e := CertRead(s, text)
					if e != api.OK || !same(back, c) || !CertCheck(keys, quorum, back) {
						t.Error(s, n, quorum, back, e)
					}
					for _, x := range c.Signs {
						v := matterOfCert(c).vote(x)
						text, e := Bytes(s, v)
						fine(t, e)
						if back, e := Read(s, text); e != api.OK || back != v || !Check(keys[x.From-1], back) {
							t.Error(s, v, back, e)
						}
					}
				}
			}
		}
	}
}

// TestTwoCertificates: of unlike values, of one round: who is in both voted double, and
// there are as many of them as the chapter says.
func TestTwoCertificates(t *testing.T) {
	r := rand.New(rand.NewSource(21))
	s := api.Little
	for n := 1; n <= 13; n++ {
		liars := (n - 1) / 3
		keys := keysOf(s, n)
		for quorum := n/2 + 1; quorum <= n; quorum++ {
			// Each value is voted for by just so many nodes, by chance; who is in both says
			// one thing to one box and another to the other.
			some := func(text string) api.Cert {
				b, e := New(keys, quorum)
				fine(t, e)
				for _, i := range r.Perm(n)[:quorum] {
					adds(t, b, sign(t, s, of(abc(i+1), text)), api.OK)
				}
				c, e := b.Cert(1, 0, 1)
				fine(t, e)
				return c
			}
			one, two := some("one"), some("two")
			all, e := New(keys, quorum)
			fine(t, e)
			var both []int
			for _, c := range []api.Cert{one, two} {
				if !CertCheck(keys, quorum, c) {
					t.Error(n, quorum, c)
				}
				for _, x := range c.Signs {
					if e := all.Add(matterOfCert(c).vote(x)); e == api.ErrState {
						both = append(both, x.From)
					} else if e != api.OK {
						t.Error(n, quorum, e)
					}
				}
			}
			if !slices.Equal(all.Doubles(), both) || len(both) < 2*quorum-n {
				t.Error(n, quorum, both, all.Doubles())
			}
			if 2*quorum > n+2*liars && len(both) <= liars {
				t.Error(n, quorum, "no more than the false ones", both)
			}
		}
	}
}

// TestBoxesOfOneScript: two boxes to which the same was done tell the same.
func TestBoxesOfOneScript(t *testing.T) {
	r := rand.New(rand.NewSource(22))
	a, b := box(t, api.Little, 7, 2), box(t, api.Little, 7, 2)
	for range 200 {
		v := api.Vote{Phase: 1, Place: r.Intn(2), Value: valueOf([]string{"a", "b", "c"}[r.Intn(3)]), From: 1 + r.Intn(7)}
		v = sign(t, api.Little, v)
		if e, f := a.Add(v), b.Add(v); e != f {
			t.Error(e, f)
		}
		for place := range 2 {
			c, e := a.Cert(1, 0, place)
			for range 3 {
				if d, f := b.Cert(1, 0, place); e != f || !same(c, d) {
					t.Error(c, d, e, f)
				}
			}
		}
		if !slices.Equal(a.Doubles(), b.Doubles()) {
			t.Error(a.Doubles(), b.Doubles())
		}
	}
}
