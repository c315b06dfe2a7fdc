package order

import (
	"reliquary/api"
	"reliquary/ballot"
)

// submit takes a value that does not wait yet.
func (t *turn) submit(value []byte) {
	t.waiting = append(t.waiting, value)
	t.sendAll(request{value})
	t.wake()
}

// take does what a message does.
func (t *turn) take(from int, m message) {
	switch m := m.(type) {
	case request:
		t.takeRequest(m)
	case status:
		if t.meets(from, m.place) {
			t.takeStatus(from, m)
		}
	case proposal:
		if t.meets(from, m.place) {
			t.takeProposal(from, m)
		}
	case vote:
		t.takeVote(from, m)
	case decision:
		t.takeDecision(from, m)
	}
}

// meets tells whether a message is of the node's place; then the node wakes. Else who sent
// it is told what he lacks, or what this node does.
func (t *turn) meets(from, place int) bool {
	switch {
	case place < t.place():
		t.send(from, t.ordered[place])
	case place > t.place():
		t.send(from, t.ownStatus())
	default:
		t.wake()
		return true
	}
	return false
}

func (t *turn) takeRequest(m request) {
	if t.waits(m.value) || len(t.waiting) >= api.MaxPending {
		return
	}
	t.waiting = append(t.waiting, m.value)
	t.wake()
}

func (t *turn) takeStatus(from int, m status) {
	if m.view >= t.view && m.view > t.statuses[from].view {
		t.statuses[from] = m
	}
	t.lead()
}

func (t *turn) takeProposal(from int, m proposal) {
	if from == t.leader(m.place, m.view) && m.view >= t.view && m.view > t.heard.view {
		t.heard = m
	}
	t.takeUp()
}

func (t *turn) takeVote(from int, m vote) {
	if !t.counts(m) || !t.meets(from, m.Place) {
		return
	}
	switch m.Phase {
	case api.Timeout:
		t.noteTimeout(m.From, m.View)
		t.countTimeouts()
	case api.Prevote:
		t.look()
	case api.Precommit:
		t.look()
		t.close(m.View)
	}
}

// counts tells whether a vote's signature holds. What is to be in the box is there then,
// since the box looks at the signature, too. (That the node does not wake till behind that
// comes to the same: its box is empty, and one vote proves nothing to several nodes.)
func (t *turn) counts(m vote) bool {
	if m.Place == t.place() && m.Phase != api.Timeout {
		return t.box.Add(m.Vote) != api.ErrProof
	}
	return ballot.Check(t.keys[m.From-1], m.Vote)
}

func (t *turn) takeDecision(from int, m decision) {
	// A late one, of which one comes from each node, does nothing, whether it may be or not.
	if m.cert.Place < t.place() || !t.decides(m) {
		return
	}
	if m.cert.Place > t.place() {
		t.send(from, t.ownStatus())
		return
	}
	t.decide(m.settled)
}
