package order

import (
	"bytes"
	"slices"

	"reliquary/api"
)

// working tells whether New or Load made the node.
func (n *Node) working() bool { return n != nil && n.box != nil }

// isMoment tells whether it may be now: no moment that was told is later.
func (n *Node) isMoment(now int) bool {
	return now >= n.latest && now <= api.MaxTime
}

// place tells how many values are ordered.
func (n *Node) place() int { return len(n.ordered) }

// decided tells what was decided at a place.
func (n *Node) decided(i int) (settled, api.Errno) {
	if !n.working() {
		return settled{}, api.ErrNil
	}
	if i < 0 || i >= n.place() {
		return settled{}, api.ErrArg
	}
	return n.ordered[i], api.OK
}

// length tells how long a view is.
func (n *Node) length(view int) int { return n.base * (view + 1) }

// wait tells how long the view's leader waits for Statuses of all nodes.
func (n *Node) wait() int { return n.length(n.view) / 4 }

// leads tells whether the node is the view's leader.
func (n *Node) leads() bool { return n.leader(n.place(), n.view) == n.me }

// isToPropose tells whether the node is the view's leader and has proposed nothing in it.
func (n *Node) isToPropose() bool { return n.leads() && n.own.view != n.view }

// ownStatus tells the node's own Status.
func (n *Node) ownStatus() status {
	return status{place: n.place(), view: n.view, lock: n.lock}
}

// waits tells whether a value waits.
func (n *Node) waits(value []byte) bool {
	return slices.ContainsFunc(n.waiting, func(w []byte) bool { return bytes.Equal(w, value) })
}

// first tells the first value that waits, or the empty one.
func (n *Node) first() []byte {
	if len(n.waiting) == 0 {
		return nil
	}
	return n.waiting[0]
}
