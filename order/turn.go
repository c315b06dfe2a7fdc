package order

import (
	"bytes"
	"slices"

	"reliquary/api"
	"reliquary/ballot"
)

// turn is what a node does in one call: its steps follow one another, at one moment, and
// gather what is sent.
type turn struct {
	*Node
	now int
	out []api.Out
}

// begin begins a call at a moment that may be.
func (n *Node) begin(now int) *turn {
	n.latest = now
	return &turn{Node: n, now: now}
}

// send sends a message to a node.
func (t *turn) send(to int, m message) {
	t.out = append(t.out, api.Out{To: to, Data: m.bytes(t.suite)})
}

// sendAll sends a message to each other node.
func (t *turn) sendAll(m message) {
	data := m.bytes(t.suite)
	for i := range t.keys {
		if i+1 != t.me {
			t.out = append(t.out, api.Out{To: i + 1, Data: bytes.Clone(data)})
		}
	}
}

// cast signs a vote of the place, notes it as others' are, and sends it to all.
func (t *turn) cast(phase, view int, value api.Digest) {
	v := api.Vote{Phase: phase, View: view, Place: t.place(), Value: value, From: t.me}
	v, e := ballot.Sign(t.suite, t.secret, v)
	if e != api.OK {
		return // no node comes to a place of which no vote may be
	}
	if phase == api.Timeout {
		t.noteTimeout(t.me, view)
	} else {
		t.box.Add(v)
	}
	t.sendAll(vote{v})
}

// wake begins with the place.
func (t *turn) wake() {
	if !t.awake {
		t.awake = true
		t.enter(0)
	}
}

// enter begins with a view.
func (t *turn) enter(view int) {
	t.view, t.entered, t.due = view, t.now, t.now+t.length(view)
	if t.leads() {
		t.statuses[t.me] = t.ownStatus()
	} else {
		t.send(t.leader(t.place(), view), t.ownStatus())
	}
	t.lead()
	t.takeUp()
	t.look()
}

// lead proposes a value, if the node is to, and knows of enough nodes to which value they
// are bound.
func (t *turn) lead() {
	if !t.awake || !t.isToPropose() {
		return
	}
	l := t.gathered()
	if len(l) < t.quorum || len(l) < len(t.keys) && t.now < t.entered+t.wait() {
		return
	}
	c := best(l)
	if c.view == none {
		c = unproved(t.first())
	}
	t.own = proposal{place: t.place(), view: t.view, choice: c}
	t.sendAll(t.own)
	t.takeUp()
}

// takeUp votes for what is proposed in the view, if the node may.
func (t *turn) takeUp() {
	if p, ok := t.noted(); ok {
		t.known[p.name] = p.value
		if t.prevoted < t.view && t.may(p.choice) {
			t.prevoted, t.prevote = t.view, p.name
			t.cast(api.Prevote, t.view, p.name)
		}
	}
	t.look()
}

// look looks what the votes of the view prove.
func (t *turn) look() {
	if c, value, ok := t.proof(api.Prevote, t.view); ok && t.precommitted < t.view {
		t.lock = t.proved(value, c)
		t.precommitted = t.view
		t.cast(api.Precommit, t.view, c.Value)
	}
	t.close(t.view)
}

// close decides, if the Precommits of a view prove a value.
func (t *turn) close(view int) {
	if c, value, ok := t.proof(api.Precommit, view); ok {
		t.decide(settled{value: value, proof: t.certBytes(c)})
	}
}

// proof tells the certificate of a view's votes, and its value, if the node knows that.
func (t *turn) proof(phase, view int) (api.Cert, []byte, bool) {
	c, e := t.box.Cert(phase, view, t.place())
	if e != api.OK {
		return api.Cert{}, nil, false
	}
	value, known := t.known[c.Value]
	return c, value, known
}

// decide orders a value, and begins with the next place, if a value waits.
func (t *turn) decide(d settled) {
	t.ordered = append(t.ordered, d)
	t.sendAll(d)
	t.waiting = slices.DeleteFunc(t.waiting, func(w []byte) bool { return bytes.Equal(w, d.value) })
	t.stand = beginning()
	t.box.Drop(t.place())
	if len(t.waiting) > 0 {
		t.wake()
	}
}

// countTimeouts says that a view is over, if one honest node at least says so, and leaves
// it, if as many as the quorum do.
func (t *turn) countTimeouts() {
	if w := t.shared(t.liars + 1); w >= t.view && t.timedOut < w {
		t.timeOut(w)
	}
	if u := t.shared(t.quorum); u >= t.view && u < api.MaxView {
		t.enter(u + 1)
	}
}

// timeOut says that a view is over.
func (t *turn) timeOut(view int) {
	t.timedOut = view
	t.cast(api.Timeout, view, api.Digest{})
}

// tick does what the moment asks for.
func (t *turn) tick() {
	if !t.awake {
		return
	}
	place := t.place()
	t.lead()
	if t.place() != place || t.now < t.due {
		return
	}
	t.due = t.now + t.length(t.view)
	if len(t.waiting) > 0 {
		t.sendAll(request{t.first()})
	}
	if !t.leads() {
		t.send(t.leader(place, t.view), t.ownStatus())
	}
	t.timeOut(max(t.view, t.timedOut))
	t.countTimeouts()
}
