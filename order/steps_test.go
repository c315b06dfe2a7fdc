package order

import (
	"bytes"
	"testing"

	"reliquary/api"
)

// sends looks what is sent, in short.
func sends(t *testing.T, out []api.Out, want string) {
	t.Helper()
	if got := kinds(t, out); got != want {
		t.Errorf("sent %q, not %q", got, want)
	}
}

// sent looks whether just this is sent, to these nodes.
func sent(t *testing.T, out []api.Out, data []byte, to ...int) {
	t.Helper()
	var want []api.Out
	for _, i := range to {
		want = append(want, api.Out{To: i, Data: data})
	}
	if !sameOut(out, want) {
		t.Errorf("sent %s: %v, not %v", kinds(t, out), out, want)
	}
}

// takes looks what a message makes a node send, in short.
func (p *pair) takes(from int, b []byte, now int, want string) []api.Out {
	p.t.Helper()
	out := p.take(from, b, now)
	if got := kinds(p.t, out); got != want {
		p.t.Errorf("sent %q, not %q", got, want)
	}
	return out
}

// hears looks what a node's vote makes another node send.
func (p *pair) hears(from, phase, view int, value string, now int, want string) []api.Out {
	p.t.Helper()
	var sum api.Digest
	if phase != api.Timeout {
		sum = sumOf([]byte(value))
	}
	v := voteOf(p.m.s, from, phase, view, p.m.place(), sum)
	return p.takes(from, voteText(p.m.s, v), now, want)
}

// due looks when something is to be done; -1: never.
func (p *pair) due(want int) {
	p.t.Helper()
	at, is := p.n.Next()
	if !is {
		at = -1
	}
	if at != want {
		p.t.Errorf("due at %d, not %d", at, want)
	}
}

// saves looks what is saved.
func (p *pair) saves(want []byte) {
	p.t.Helper()
	if got := p.n.Save(); !bytes.Equal(got, want) {
		p.t.Errorf("saved %v, not %v", got, want)
	}
}

// orders looks whether just these values are ordered.
func (p *pair) orders(want ...string) {
	p.t.Helper()
	if p.n.Place() != len(want) {
		p.t.Fatal(p.n.Place(), want)
	}
	for i, w := range want {
		if b, e := p.n.Ordered(i); e != api.OK || string(b) != w {
			p.t.Error(i, b, e)
		}
	}
}

// four makes one of four nodes with the base 100.
func four(t *testing.T, me int) *pair { return pairOf(t, api.Little, 4, me, 100) }

// bare is a Status without a lock.
func bare(place, view int) []byte { return statusText(place, view, nil, nil) }

// idea is a Propose without a proof.
func idea(place, view int, value string) []byte {
	return proposeText(place, view, []byte(value), nil)
}

// backed is a Propose with a proof of the nodes 1 to 3.
func backed(place, view int, value string, below int) []byte {
	return proposeText(place, view, []byte(value), proofText(api.Little, below, place, []byte(value), 1, 2, 3))
}

// locked is a Status with a lock, proved by the nodes 1 to 3.
func locked(place, view int, value string, below int) []byte {
	return statusText(place, view, []byte(value), proofText(api.Little, below, place, []byte(value), 1, 2, 3))
}

func TestWaking(t *testing.T) {
	// Who does not lead tells the leader that it is there.
	p := four(t, 2)
	p.due(-1)
	out := p.submit([]byte("abc"), 5)
	sends(t, out, "1r 3r 4r 1s")
	sent(t, out[:3], requestText([]byte("abc")), 1, 3, 4)
	sent(t, out[3:], bare(0, 0), 1)
	p.due(105)
	sends(t, p.submit([]byte("d"), 6), "1r 3r 4r") // awake already
	p.due(105)
	// Who leads has its own Status.
	p = four(t, 1)
	sends(t, p.submit([]byte("abc"), 5), "2r 3r 4r")
	p.due(105)
	p.takes(2, bare(0, 0), 6, "")
	p.takes(3, bare(0, 0), 7, "")
	p.due(30) // as many as the quorum: it waits for the fourth a while
	p.takes(4, bare(0, 0), 8, "2p 3p 4p 2v1 3v1 4v1")
	p.due(105)
	// All messages of its place wake a node, whatever else they do; a Decide does not.
	for _, b := range [][]byte{
		requestText([]byte("x")), bare(0, 0), bare(0, 1<<30), idea(0, 7, ""),
		voteText(api.Little, voteOf(api.Little, 1, api.Timeout, 3, 0, api.Digest{})),
		voteText(api.Little, voteOf(api.Little, 2, api.Precommit, 1<<30, 0, api.Digest{})),
	} {
		p := four(t, 3)
		p.takes(2, b, 9, "1s")
		p.due(109)
	}
	p = four(t, 3)
	p.takes(2, decided(api.Little, 0, 0, []byte("x"), 1, 2, 3), 9, "1d 2d 4d")
	p.due(-1)
	p.orders("x")
}

func TestLeading(t *testing.T) {
	votes := "2p 3p 4p 2v1 3v1 4v1"
	begin := func() *pair {
		p := four(t, 1)
		p.submit([]byte("abc"), 0)
		p.submit([]byte("later"), 0)
		return p
	}
	// At the moment at which the wait is over, not ahead of it.
	p := begin()
	p.takes(2, bare(0, 0), 0, "")
	sends(t, p.tick(25), "")
	p.takes(3, bare(0, 0), 25, votes)
	p = begin()
	p.takes(2, bare(0, 0), 0, "")
	p.takes(3, bare(0, 0), 24, "")
	p.due(25)
	sends(t, p.tick(24), "")
	out := p.tick(25)
	sends(t, out, votes)
	sent(t, out[:3], idea(0, 0, "abc"), 2, 3, 4)
	sent(t, out[3:], voteText(api.Little, voteOf(api.Little, 1, api.Prevote, 0, 0, sumOf([]byte("abc")))), 2, 3, 4)
	p.due(100)
	p.takes(4, bare(0, 0), 26, "") // once in a view
	sends(t, p.tick(30), "")
	// A Status that is not noted leads, too.
	p = begin()
	p.takes(2, bare(0, 0), 0, "")
	p.takes(3, bare(0, 0), 0, "")
	p.takes(3, bare(0, 0), 26, votes)
	// Statuses of other views do not count, and the one of the highest view stays.
	p = begin()
	p.takes(2, bare(0, 1), 0, "")
	p.takes(3, bare(0, 0), 0, "")
	p.takes(4, bare(0, 0), 0, "")
	p.takes(2, bare(0, 0), 0, "")
	p.due(25)
	p.takes(2, bare(0, 0), 25, votes)
	// The wait grows with the view, and is rounded down.
	for view, want := range []int{1, 3, 5, 7, 8} {
		p := pairOf(t, api.Little, 4, 1+view%4, 7)
		p.submit([]byte("abc"), 0)
		now := 0
		for v := range view {
			now += 7 * (v + 1)
			for i := 1; i <= 4; i++ {
				if i != p.m.me {
					p.take(i, voteText(api.Little, voteOf(api.Little, i, api.Timeout, v, 0, api.Digest{})), now)
				}
			}
		}
		if p.n.View() != view {
			t.Fatal(p.n.View())
		}
		p.due(now + 7*(view+1))
		for i := 1; i <= 4; i++ {
			if i != p.m.me && i != 4-view%2 {
				p.takes(i, bare(0, view), now, "")
			}
		}
		p.due(now + want)
	}
}

func TestWhatIsProposed(t *testing.T) {
	begin := func() *pair {
		p := four(t, 3)
		p.submit([]byte("abc"), 0)
		for _, view := range []int{0, 1} {
			for i := range 3 {
				p.take([]int{1, 2, 4}[i], voteText(api.Little, voteOf(api.Little, []int{1, 2, 4}[i], api.Timeout, view, 0, api.Digest{})), 0)
			}
		}
		return p
	}
	proposes := func(want []byte, statuses ...[]byte) {
		t.Helper()
		p := begin()
		if p.n.View() != 2 {
			t.Fatal(p.n.View())
		}
		var out []api.Out
		for i, b := range statuses {
			out = p.take([]int{1, 2, 4}[i], b, 0)
		}
		if len(out) < 3 {
			t.Fatal(kinds(t, out))
		}
		sent(t, out[:3], want, 1, 2, 4)
	}
	proposes(idea(0, 2, "abc"), bare(0, 2), bare(0, 2), bare(0, 2))
	proposes(backed(0, 2, "x", 0), bare(0, 2), locked(0, 2, "x", 0), bare(0, 2))
	proposes(backed(0, 2, "", 0), bare(0, 2), locked(0, 2, "", 0), bare(0, 2))
	proposes(backed(0, 2, "y", 1), locked(0, 2, "x", 0), locked(0, 2, "y", 1), bare(0, 2))
	proposes(backed(0, 2, "y", 1), bare(0, 2), locked(0, 2, "y", 1), locked(0, 2, "x", 0))
	// Of two of one view the first by the nodes' numbers, whose proof is another one here.
	other := statusText(0, 2, []byte("x"), proofText(api.Little, 1, 0, []byte("x"), 2, 3, 4))
	proposes(backed(0, 2, "x", 1), bare(0, 2), locked(0, 2, "x", 1), other)
	proposes(proposeText(0, 2, []byte("x"), proofText(api.Little, 1, 0, []byte("x"), 2, 3, 4)), bare(0, 2), other, locked(0, 2, "x", 1))
	// Of two Statuses of one node and one view the first.
	p := begin()
	p.takes(1, bare(0, 2), 0, "")
	p.takes(1, locked(0, 2, "x", 1), 0, "")
	p.takes(2, locked(0, 2, "y", 0), 0, "")
	p.takes(2, locked(0, 2, "x", 1), 0, "")
	out := p.takes(4, bare(0, 2), 0, "1p 2p 4p 1v1 2v1 4v1")
	sent(t, out[:3], backed(0, 2, "y", 0), 1, 2, 4)
	// If nothing waits, the empty value.
	p = four(t, 1)
	p.takes(2, bare(0, 0), 0, "")
	p.takes(3, bare(0, 0), 0, "")
	out = p.takes(4, bare(0, 0), 0, "2p 3p 4p 2v1 3v1 4v1")
	sent(t, out[:3], idea(0, 0, ""), 2, 3, 4)
	for from := 2; from <= 3; from++ {
		p.hears(from, api.Prevote, 0, "", 0, []string{"", "", "", "2v2 3v2 4v2"}[from])
	}
	p.hears(3, api.Precommit, 0, "", 0, "")
	p.hears(2, api.Precommit, 0, "", 0, "2d 3d 4d")
	p.orders("")
}

// TestProposes: whose count, and which one is noted.
func TestProposes(t *testing.T) {
	begin := func() *pair {
		p := four(t, 4)
		p.submit([]byte("abc"), 0)
		return p
	}
	p := begin()
	p.takes(2, idea(0, 0, "x"), 0, "") // node 1 leads
	p.takes(3, idea(0, 0, "x"), 0, "")
	p.takes(2, idea(0, 1, "two"), 0, "") // ahead of its time
	p.takes(1, idea(0, 0, "x"), 0, "")   // lower than the one that is noted
	p.takes(2, idea(0, 1, "other"), 0, "")
	p.hears(1, api.Timeout, 0, "", 1, "")
	p.hears(2, api.Timeout, 0, "", 1, "1v3 2v3 3v3 2s 1v1 2v1 3v1")
	p.saves(savedText(0, 1, 1, -1, 0, sumOf([]byte("two")), nil, nil))
	// The first one of a view; the one of the highest view.
	p = begin()
	out := p.takes(1, idea(0, 0, "x"), 0, "1v1 2v1 3v1")
	sent(t, out, voteText(api.Little, voteOf(api.Little, 4, api.Prevote, 0, 0, sumOf([]byte("x")))), 1, 2, 3)
	p.takes(1, idea(0, 0, "y"), 0, "")
	p.takes(2, idea(0, 1, "two"), 0, "")
	p.takes(3, idea(0, 2, "three"), 0, "")
	p.takes(2, idea(0, 1, "other"), 0, "")
	for _, view := range []int{0, 2} { // a view is left out
		for from := 1; from <= 2; from++ {
			p.hears(from, api.Timeout, 1, "", 1, []string{"", "", "1v3 2v3 3v3 3s 1v1 2v1 3v1"}[from*(1-view/2)])
		}
	}
	p.saves(savedText(0, 2, 2, -1, 1, sumOf([]byte("three")), nil, nil))
	p.takes(1, idea(0, 0, "late"), 1, "") // of a view that is over
	p.takes(2, idea(0, 1, "late"), 1, "")
	p.saves(savedText(0, 2, 2, -1, 1, sumOf([]byte("three")), nil, nil))
	// Of the next place's leader in this place: node 2 leads the view 0 of the place 1.
	p = begin()
	p.takes(2, idea(1, 0, "x"), 0, "2s")
	p.take(1, decided(api.Little, 0, 0, []byte("abc"), 1, 2, 3), 0)
	p.takes(1, idea(1, 0, "x"), 0, "2s")
	p.takes(2, idea(1, 0, "x"), 0, "1v1 2v1 3v1")
}

// TestOwnProposeBesideAHigherOne: the own one is noted and taken up, and the higher one
// stays.
func TestOwnProposeBesideAHigherOne(t *testing.T) {
	p := four(t, 1)
	p.submit([]byte("abc"), 0)
	p.takes(3, idea(0, 2, "three"), 0, "")
	for from := 2; from <= 4; from++ {
		p.takes(from, bare(0, 0), 0, []string{"", "", "2p 3p 4p 2v1 3v1 4v1"}[from-2])
	}
	p.saves(savedText(0, 0, 0, -1, -1, sumOf([]byte("abc")), nil, nil))
	p.takes(2, idea(0, 1, "two"), 0, "") // lower than the one that is noted
	for from := 3; from <= 4; from++ {
		p.hears(from, api.Timeout, 0, "", 0, []string{"", "2v3 3v3 4v3 2s"}[from-3])
	}
	p.saves(savedText(0, 1, 0, -1, 0, sumOf([]byte("abc")), nil, nil))
	for from := 3; from <= 4; from++ {
		p.hears(from, api.Timeout, 1, "", 0, []string{"", "2v3 3v3 4v3 3s 2v1 3v1 4v1"}[from-3])
	}
	p.saves(savedText(0, 2, 2, -1, 1, sumOf([]byte("three")), nil, nil))
}

// TestLocks: what locks a node, and what it votes for then.
func TestLocks(t *testing.T) {
	x := []byte("x")
	begin := func() *pair {
		p := four(t, 4)
		p.submit([]byte("abc"), 0)
		p.takes(1, idea(0, 0, "x"), 0, "1v1 2v1 3v1")
		p.hears(2, api.Prevote, 0, "x", 0, "")
		p.hears(2, api.Prevote, 0, "x", 0, "") // counted once
		out := p.hears(1, api.Prevote, 0, "x", 0, "1v2 2v2 3v2")
		sent(t, out, voteText(api.Little, voteOf(api.Little, 4, api.Precommit, 0, 0, sumOf(x))), 1, 2, 3)
		p.hears(3, api.Prevote, 0, "x", 0, "") // once in a view; the proof stays that of three
		return p
	}
	// leave makes it enter the next view.
	leave := func(p *pair, view int, want string) []api.Out {
		t.Helper()
		p.hears(1, api.Timeout, view, "", 0, "")
		return p.hears(2, api.Timeout, view, "", 0, want)
	}
	proof := proofText(api.Little, 0, 0, x, 1, 2, 4)
	p := begin()
	p.saves(savedText(0, 0, 0, 0, -1, sumOf(x), x, proof))
	out := leave(p, 0, "1v3 2v3 3v3 2s")
	sent(t, out[3:], statusText(0, 1, x, proof), 2)
	p.takes(2, idea(0, 1, "y"), 0, "") // it is bound
	p.saves(savedText(0, 1, 0, 0, 0, sumOf(x), x, proof))
	// The same value, with a proof and without one.
	for _, b := range [][]byte{idea(0, 1, "x"), backed(0, 1, "x", 0)} {
		p = begin()
		leave(p, 0, "1v3 2v3 3v3 2s")
		p.takes(2, b, 0, "1v1 2v1 3v1")
	}
	// Another one: with a proof of a higher view.
	p = begin()
	leave(p, 0, "1v3 2v3 3v3 2s")
	leave(p, 1, "1v3 2v3 3v3 3s")
	p.takes(3, backed(0, 2, "y", 0), 0, "") // as high as the lock
	p = begin()
	leave(p, 0, "1v3 2v3 3v3 2s")
	leave(p, 1, "1v3 2v3 3v3 3s")
	p.takes(3, backed(0, 2, "y", 1), 0, "1v1 2v1 3v1")
	p.saves(savedText(0, 2, 2, 0, 1, sumOf([]byte("y")), x, proof)) // locked till others vote, too
	p.hears(1, api.Prevote, 2, "y", 0, "")
	p.hears(3, api.Prevote, 2, "y", 0, "1v2 2v2 3v2")
	p.saves(savedText(0, 2, 2, 2, 1, sumOf([]byte("y")), []byte("y"), proofText(api.Little, 2, 0, []byte("y"), 1, 3, 4)))
	// Who did not vote for it is locked by others' votes, if it knows the value.
	p = begin()
	leave(p, 0, "1v3 2v3 3v3 2s")
	for from := 1; from <= 3; from++ {
		p.hears(from, api.Prevote, 1, "y", 0, "")
	}
	p.takes(2, idea(0, 1, "y"), 0, "1v2 2v2 3v2")
	p.saves(savedText(0, 1, 0, 1, 0, sumOf(x), []byte("y"), proofText(api.Little, 1, 0, []byte("y"), 1, 2, 3)))
}

// TestVotesOfOtherViews: Prevotes lock in their view alone, Precommits decide in each one.
func TestVotesOfOtherViews(t *testing.T) {
	p := four(t, 4)
	p.submit([]byte("x"), 0)
	p.takes(1, idea(0, 0, "x"), 0, "1v1 2v1 3v1")
	for from := 1; from <= 3; from++ {
		p.hears(from, api.Prevote, 1, "x", 0, "")
	}
	for from := 1; from <= 2; from++ {
		p.hears(from, api.Timeout, 0, "", 0, []string{"", "1v3 2v3 3v3 2s 1v2 2v2 3v2"}[from-1])
	}
	p.hears(1, api.Prevote, 0, "x", 0, "")
	p.hears(2, api.Prevote, 0, "x", 0, "") // too late
	p.saves(savedText(0, 1, 0, 1, 0, sumOf([]byte("x")), []byte("x"), proofText(api.Little, 1, 0, []byte("x"), 1, 2, 3)))
	for _, view := range []int{0, 3} {
		q := four(t, 4)
		q.takes(1, idea(0, 0, "x"), 0, "1s 1v1 2v1 3v1")
		for from := 1; from <= 2; from++ {
			q.hears(from, api.Timeout, 0, "", 0, []string{"", "1v3 2v3 3v3 2s"}[from-1])
		}
		q.hears(1, api.Precommit, view, "x", 0, "")
		q.hears(2, api.Precommit, view, "x", 0, "")
		out := q.hears(3, api.Precommit, view, "x", 0, "1d 2d 3d")
		sent(t, out, decided(api.Little, view, 0, []byte("x"), 1, 2, 3), 1, 2, 3)
		q.orders("x")
	}
	// Of a value that is not known: not till it is, and then by a vote of that view.
	q := four(t, 4)
	for from := 1; from <= 3; from++ {
		q.hears(from, api.Precommit, 1, "x", 0, []string{"1s", "", ""}[from-1])
	}
	q.takes(1, idea(0, 0, "x"), 0, "1v1 2v1 3v1")
	q.hears(3, api.Precommit, 2, "x", 0, "")
	q.hears(3, api.Prevote, 1, "x", 0, "")
	q.hears(1, api.Precommit, 1, "y", 0, "1d 2d 3d")
	q.orders("x")
	// Of this view: as soon as the value is known. Who knows it votes ahead.
	q = four(t, 4)
	for from := 1; from <= 3; from++ {
		q.hears(from, api.Precommit, 0, "x", 0, []string{"1s", "", ""}[from-1])
	}
	q.takes(1, idea(0, 0, "x"), 0, "1v1 2v1 3v1 1d 2d 3d")
}

func TestDeciding(t *testing.T) {
	x := []byte("x")
	p := four(t, 4)
	p.submit(x, 0)
	p.submit([]byte("y"), 0)
	p.submit([]byte("z"), 0)
	p.takes(1, idea(0, 0, "y"), 3, "1v1 2v1 3v1")
	p.hears(1, api.Prevote, 0, "y", 3, "")
	p.hears(1, api.Precommit, 0, "y", 3, "")
	p.hears(3, api.Timeout, 0, "", 3, "")
	p.takes(2, locked(0, 3, "x", 2), 3, "")
	p.hears(2, api.Precommit, 0, "y", 3, "")
	out := p.hears(3, api.Precommit, 0, "y", 3, "1d 2d 3d 2s") // node 2 leads the next place
	sent(t, out[3:], bare(1, 0), 2)
	p.orders("y")
	p.due(103)
	if p.n.Waiting() != 2 {
		t.Error(p.n.Waiting())
	}
	text, e := p.n.Decided(0)
	fine(t, e)
	if !bytes.Equal(text, out[0].Data) || !bytes.Equal(text, decided(api.Little, 0, 0, []byte("y"), 1, 2, 3)) {
		t.Error(text)
	}
	// Of the old place nothing is left.
	p.saves(savedText(1, 0, -1, -1, -1, api.Digest{}, nil, nil))
	p.hears(2, api.Timeout, 0, "", 3, "")
	p.hears(1, api.Timeout, 0, "", 3, "1v3 2v3 3v3 3s")
	// What is decided need not wait, and of what waits it is the one that goes.
	p.takes(3, decided(api.Little, 9, 1, []byte("other"), 2, 3, 4), 4, "1d 2d 3d 3s")
	p.takes(3, decided(api.Little, 0, 2, []byte("z"), 2, 3, 4), 4, "1d 2d 3d")
	p.orders("y", "other", "z")
	if p.n.Waiting() != 1 {
		t.Error(p.n.Waiting())
	}
	// It leads now: the first value that waits is x.
	for from := 1; from <= 3; from++ {
		out = p.takes(from, bare(3, 0), 4, []string{"", "", "1p 2p 3p 1v1 2v1 3v1"}[from-1])
	}
	sent(t, out[:3], idea(3, 0, "x"), 1, 2, 3)
	p.takes(3, decided(api.Little, 0, 3, []byte("x"), 2, 3, 4), 4, "1d 2d 3d")
	p.due(-1)
}

func TestOtherPlaces(t *testing.T) {
	p := four(t, 4)
	first := decided(api.Little, 0, 0, []byte("a"), 1, 2, 3)
	p.take(1, first, 0)
	second := decided(api.Little, 5, 1, []byte("b"), 1, 3, 4)
	p.take(1, second, 0)
	prevote := func(place int) []byte {
		return voteText(api.Little, voteOf(api.Little, 2, api.Prevote, 0, place, api.Digest{}))
	}
	timeout := func(place int) []byte {
		return voteText(api.Little, voteOf(api.Little, 2, api.Timeout, 0, place, api.Digest{}))
	}
	for i, d := range [][]byte{first, second} {
		for _, b := range [][]byte{bare(i, 0), locked(i, 3, "x", 2), idea(i, 9, "x"), prevote(i), timeout(i)} {
			sent(t, p.take(3, b, 1), d, 3)
		}
	}
	p.takes(3, first, 1, "")
	p.takes(3, second, 1, "")
	p.takes(3, decided(api.Little, 0, 0, []byte("unlike"), 1, 2, 3), 1, "")
	p.due(-1)
	for _, place := range []int{3, 4, 1 << 30} {
		for _, b := range [][]byte{bare(place, 0), idea(place, 9, "x"), prevote(place), timeout(place), decided(api.Little, 0, place, []byte("x"), 1, 2, 3)} {
			sent(t, p.take(2, b, 1), bare(2, 0), 2)
			p.due(-1)
		}
	}
	// The Status is that of its view, and of its lock. (Node 3 leads.)
	p.takes(3, idea(2, 0, "x"), 2, "3s 1v1 2v1 3v1")
	p.hears(1, api.Prevote, 0, "x", 2, "")
	p.hears(2, api.Prevote, 0, "x", 2, "1v2 2v2 3v2")
	p.hears(1, api.Timeout, 4, "", 2, "")
	p.hears(2, api.Timeout, 4, "", 2, "1v3 2v3 3v3") // it leads the view 5 itself
	p.due(2 + 600)
	sent(t, p.take(1, timeout(7), 2), statusText(2, 5, []byte("x"), proofText(api.Little, 0, 2, []byte("x"), 1, 2, 4)), 1)
}

func TestTimeouts(t *testing.T) {
	// t + 1 make it join, as many as the quorum make it go on.
	p := pairOf(t, api.Little, 7, 7, 10)
	p.hears(1, api.Timeout, 5, "", 0, "1s")
	p.hears(2, api.Timeout, 3, "", 0, "")
	out := p.hears(3, api.Timeout, 2, "", 0, "1v3 2v3 3v3 4v3 5v3 6v3")
	sent(t, out, voteText(api.Little, voteOf(api.Little, 7, api.Timeout, 2, 0, api.Digest{})), first(6)...)
	p.hears(4, api.Timeout, 2, "", 0, "4s") // five: the view 3, of which node 4 is the leader
	if p.n.View() != 3 {
		t.Fatal(p.n.View())
	}
	p.saves(savedText(0, 3, -1, -1, 2, api.Digest{}, nil, nil))
	p.due(40)
	p.hears(1, api.Timeout, 4, "", 1, "") // lower than what is noted
	p.hears(5, api.Timeout, 1, "", 1, "")
	p.hears(5, api.Timeout, 3, "", 1, "1v3 2v3 3v3 4v3 5v3 6v3")
	p.hears(4, api.Timeout, 4, "", 1, "5s") // 5 4 3 3 of the others, and its own 3
	p.due(51)
	// Those of views that are over do nothing.
	p.hears(6, api.Timeout, 1, "", 2, "")
	p.hears(6, api.Timeout, 3, "", 2, "")
	p.hears(6, api.Timeout, 4, "", 2, "1v3 2v3 3v3 4v3 5v3 6v3")
	p.saves(savedText(0, 4, -1, -1, 4, api.Digest{}, nil, nil))
	// Its own one counts among the t + 1: it voted for the view 4, when its moment was over.
	p = pairOf(t, api.Little, 7, 7, 10)
	p.submit([]byte("a"), 0)
	sends(t, p.tick(10), "1r 2r 3r 4r 5r 6r 1s 1v3 2v3 3v3 4v3 5v3 6v3")
	p.hears(1, api.Timeout, 9, "", 10, "")
	p.hears(2, api.Timeout, 8, "", 10, "") // of these three the view 0 is the highest
	p.hears(3, api.Timeout, 7, "", 10, "1v3 2v3 3v3 4v3 5v3 6v3")
	p.saves(savedText(0, 0, -1, -1, 7, api.Digest{}, nil, nil))
	// Whose vote it is says the vote, not who hands it on.
	p = pairOf(t, api.Little, 4, 4, 10)
	v := voteText(api.Little, voteOf(api.Little, 2, api.Timeout, 0, 0, api.Digest{}))
	p.takes(1, v, 0, "1s")
	p.takes(2, v, 0, "")
	p.takes(3, v, 0, "")
	p.takes(3, voteText(api.Little, voteOf(api.Little, 3, api.Timeout, 0, 0, api.Digest{})), 0, "1v3 2v3 3v3 2s")
	// Its own vote, handed back: as such it is no vote that it cast.
	p = pairOf(t, api.Little, 4, 4, 10)
	own := voteText(api.Little, voteOf(api.Little, 4, api.Timeout, 0, 0, api.Digest{}))
	p.takes(1, own, 0, "1s")
	p.takes(2, v, 0, "1v3 2v3 3v3")
	// The last view.
	p = four(t, 3)
	p.hears(1, api.Timeout, 1<<30, "", 0, "1s")
	p.hears(2, api.Timeout, 1<<30-1, "", 0, "1v3 2v3 4v3 1s") // (0 + 2^30) modulo 4 is 0
	if p.n.View() != 1<<30 {
		t.Fatal(p.n.View())
	}
	p.due(100 * (1<<30 + 1))
	p.hears(4, api.Timeout, 1<<30-1, "", 0, "")
	p.hears(2, api.Timeout, 1<<30, "", 0, "1v3 2v3 4v3")
	p.hears(4, api.Timeout, 1<<30, "", 0, "")
	if p.n.View() != 1<<30 {
		t.Error(p.n.View())
	}
	p.takes(1, idea(0, 1<<30, "x"), 0, "1v1 2v1 4v1")
}

func TestTicks(t *testing.T) {
	p := four(t, 4)
	sends(t, p.tick(3), "")
	p.due(-1)
	p.submit([]byte("a"), 4)
	p.submit([]byte("b"), 4)
	p.due(104)
	sends(t, p.tick(103), "")
	p.due(104)
	out := p.tick(104)
	sends(t, out, "1r 2r 3r 1s 1v3 2v3 3v3")
	sent(t, out[:3], requestText([]byte("a")), 1, 2, 3)
	sent(t, out[3:4], bare(0, 0), 1)
	sent(t, out[4:], voteText(api.Little, voteOf(api.Little, 4, api.Timeout, 0, 0, api.Digest{})), 1, 2, 3)
	p.due(204)
	again := p.tick(210) // the same once more
	if !sameOut(out, again) {
		t.Error(kinds(t, again))
	}
	p.due(310)
	// Its last Timeout, if that is of a higher view.
	p.hears(1, api.Timeout, 8, "", 310, "")
	p.hears(2, api.Timeout, 7, "", 310, "1v3 2v3 3v3 1s") // of 8, 7 and its own 7 the least
	if p.n.View() != 8 {
		t.Fatal(p.n.View())
	}
	p.due(310 + 900)
}

// TestTicksWithALaterTimeout: the Timeout that is sent once more is the last one.
func TestTicksWithALaterTimeout(t *testing.T) {
	p := pairOf(t, api.Little, 7, 7, 10)
	for from := 1; from <= 3; from++ {
		p.hears(from, api.Timeout, 9, "", 0, []string{"1s", "", "1v3 2v3 3v3 4v3 5v3 6v3"}[from-1])
	}
	p.due(10)
	out := p.tick(10)
	sends(t, out, "1s 1v3 2v3 3v3 4v3 5v3 6v3")
	sent(t, out[1:], voteText(api.Little, voteOf(api.Little, 7, api.Timeout, 9, 0, api.Digest{})), first(6)...)
	p.due(20)
	// The leader tells nobody its Status; a Tick makes it lead first.
	p = four(t, 1)
	p.takes(2, bare(0, 0), 0, "")
	p.takes(3, bare(0, 0), 0, "")
	sends(t, p.tick(100), "2p 3p 4p 2v1 3v1 4v1 2v3 3v3 4v3")
	p.due(200)
	sends(t, p.tick(200), "2v3 3v3 4v3")
	// A Tick that makes it go on.
	p = four(t, 4)
	p.hears(1, api.Timeout, 0, "", 0, "1s")
	p.takes(2, requestText([]byte("a")), 0, "")
	p.hears(1, api.Timeout, 4, "", 99, "")
	sends(t, p.tick(100), "1r 2r 3r 1s 1v3 2v3 3v3")
	p.hears(2, api.Timeout, 0, "", 101, "2s")
	p.due(301)
}

// TestAlone: one node is its own quorum.
func TestAlone(t *testing.T) {
	p := pairOf(t, api.Little, 1, 1, 4)
	for i, value := range []string{"a", "b", "a"} {
		sends(t, p.submit([]byte(value), i), "")
		p.due(-1)
	}
	p.orders("a", "b", "a")
	for from := -1; from <= 2; from++ {
		if out, e := p.n.Take(from, bare(0, 0), 9); e != api.ErrArg || out != nil {
			t.Error(from, out, e)
		}
	}
	for i, value := range []string{"a", "b", "a"} {
		text, e := p.n.Decided(i)
		if e != api.OK || !bytes.Equal(text, decided(api.Little, 0, i, []byte(value), 1)) {
			t.Error(i, text, e)
		}
	}
}

// TestDoubles: who votes for two values in one view.
func TestDoubles(t *testing.T) {
	p := four(t, 4)
	p.hears(2, api.Prevote, 0, "a", 0, "1s")
	p.hears(2, api.Prevote, 1, "b", 0, "")
	p.hears(2, api.Precommit, 0, "c", 0, "")
	p.hears(2, api.Prevote, 0, "a", 0, "")
	if l := p.n.Doubles(); len(l) != 0 {
		t.Error(l)
	}
	p.hears(2, api.Prevote, 1, "a", 0, "")
	p.hears(1, api.Prevote, 1, "a", 0, "")
	p.hears(1, api.Prevote, 1, "c", 0, "")
	l := p.n.Doubles()
	if len(l) != 2 || l[0] != 1 || l[1] != 2 {
		t.Error(l)
	}
	l[0] = 3
	p.take(1, decided(api.Little, 0, 0, nil, 1, 2, 3), 0)
	if l := p.n.Doubles(); len(l) != 2 || l[0] != 1 || l[1] != 2 {
		t.Error(l)
	}
}

// TestAFullBox: votes that the box does not count do nothing else.
func TestAFullBox(t *testing.T) {
	p := four(t, 4)
	x, e := New(api.Little, keysOf(api.Little, 4), 4, secretOf(4), 100)
	fine(t, e)
	p.n = x
	take := func(from, phase, view int, value string) []api.Out {
		t.Helper()
		out, e := x.Take(from, voteText(api.Little, voteOf(api.Little, from, phase, view, 0, sumOf([]byte(value)))), 0)
		fine(t, e)
		return out
	}
	for i := range api.MaxVotes {
		take(2, api.Prevote+i%2, 1+i/2, "a")
	}
	out, e := x.Take(1, idea(0, 0, "x"), 0)
	fine(t, e)
	sends(t, out, "1v1 2v1 3v1")
	for from := 1; from <= 3; from++ {
		sends(t, take(from, api.Prevote, 0, "x"), "")
		sends(t, take(from, api.Precommit, 0, "x"), "")
	}
	if x.Place() != 0 {
		t.Error(x.Place())
	}
	out, e = x.Take(1, decided(api.Little, 0, 0, []byte("x"), 1, 2, 3), 0)
	fine(t, e)
	sends(t, out, "1d 2d 3d")
	// In the next place there is room again.
	out, e = x.Take(2, idea(1, 0, "y"), 0)
	fine(t, e)
	sends(t, out, "2s 1v1 2v1 3v1")
	for from := 1; from <= 2; from++ {
		out, e = x.Take(from, voteText(api.Little, voteOf(api.Little, from, api.Prevote, 0, 1, sumOf([]byte("y")))), 0)
		fine(t, e)
	}
	sends(t, out, "1v2 2v2 3v2")
}
