package order

import (
	"reliquary/api"
	"reliquary/wire"
)

// savedSize is how many fields Save tells.
const savedSize = 8

// saved tells what binds the node: its place and view, its votes, its lock. Views of votes
// are told as one more, so that 0 is none.
func (n *Node) saved() []byte {
	b, _ := wire.Fields([][]byte{
		eight(n.place()),
		eight(n.view),
		eight(n.prevoted + 1),
		eight(n.precommitted + 1),
		eight(n.timedOut + 1),
		n.prevote[:],
		n.lock.value,
		n.lock.proof,
	}) // far below wire's bounds
	return b
}

// readSaved reads it, of one of the places up to most: which place, and how the node stands.
func (g group) readSaved(b []byte, most int) (int, stand, bool) {
	s := beginning()
	l, e := wire.ReadFields(b)
	if e != api.OK || len(l) != savedSize || len(l[5]) != len(s.prevote) {
		return 0, stand{}, false
	}
	at, ok := numbers(l, most, api.MaxView, api.MaxView+1, api.MaxView+1, api.MaxView+1)
	if !ok {
		return 0, stand{}, false
	}
	place := at[0]
	s.view, s.prevoted, s.precommitted, s.timedOut = at[1], at[2]-1, at[3]-1, at[4]-1
	s.prevote = api.Digest(l[5])
	if s.prevoted == none && s.prevote != (api.Digest{}) {
		return 0, stand{}, false
	}
	s.lock, ok = g.readLock(place, api.MaxView+1, l[6], l[7])
	return place, s, ok
}

// takeSaved makes a node that has its decisions what it was when it saved this.
func (n *Node) takeSaved(b []byte, now int) bool {
	if len(b) == 0 {
		return true
	}
	place, s, ok := n.readSaved(b, n.place())
	if !ok {
		return false
	}
	if place == n.place() {
		n.stand = s
		n.resume(now)
	}
	return true
}

// resume lets a node go on that was told how it stands.
func (n *Node) resume(now int) {
	n.timeouts[n.me] = n.timedOut
	if n.untouched() {
		return
	}
	n.awake, n.entered, n.due = true, now, now
	if n.leads() {
		n.statuses[n.me] = n.ownStatus()
	}
}

// takeDecided makes a new node one that decided this.
func (n *Node) takeDecided(l [][]byte) bool {
	for _, b := range l {
		m, ok := n.read(b)
		if !ok {
			return false
		}
		d, ok := m.(decision)
		if !ok || d.cert.Place != n.place() || !n.decides(d) {
			return false
		}
		n.ordered = append(n.ordered, d.settled)
	}
	return true
}
