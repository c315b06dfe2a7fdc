package order

import (
	"slices"

	"reliquary/api"
)

// stand is what a node has in its place, and what is gone with it. Views of what there is
// not are none.
type stand struct {
	awake        bool
	view         int
	entered, due int // moments
	lock         choice
	prevoted     int // the view of its last Prevote, and the digest for which it was
	prevote      api.Digest
	precommitted int // the views of its last Precommit and Timeout
	timedOut     int
	timeouts     [api.MaxNodes + 1]int    // the highest views, by the nodes' numbers
	statuses     [api.MaxNodes + 1]status // those of the highest views, likewise
	own          proposal                 // the last one that it sent
	heard        proposal                 // that of the highest view which another one sent
	known        map[api.Digest][]byte
}

// beginning tells how a node stands at the beginning of a place.
func beginning() stand {
	s := stand{
		lock:         nothing(),
		prevoted:     none,
		precommitted: none,
		timedOut:     none,
		own:          proposal{view: none},
		heard:        proposal{view: none},
		known:        map[api.Digest][]byte{},
	}
	for i := range s.statuses {
		s.timeouts[i] = none
		s.statuses[i].view = none
	}
	return s
}

// untouched tells whether view, votes and lock are as at the beginning.
func (s *stand) untouched() bool {
	return s.view == 0 && s.prevoted == none && s.precommitted == none && s.timedOut == none && s.lock.view == none
}

// noted tells the Propose of the view, if one is noted. The own one and another one's are
// never of one view, since a view has one leader.
func (s *stand) noted() (proposal, bool) {
	switch s.view {
	case s.own.view:
		return s.own, true
	case s.heard.view:
		return s.heard, true
	}
	return proposal{}, false
}

// gathered tells the Statuses of the view, by rising numbers.
func (s *stand) gathered() []status {
	var l []status
	for _, x := range s.statuses {
		if x.view == s.view {
			l = append(l, x)
		}
	}
	return l
}

// may tells whether what the node is locked on lets it vote for a choice.
func (s *stand) may(c choice) bool {
	return s.lock.view == none || s.lock.name == c.name || c.view > s.lock.view
}

// noteTimeout notes that a node has a Timeout of a view.
func (s *stand) noteTimeout(from, view int) {
	s.timeouts[from] = max(s.timeouts[from], view)
}

// shared tells the highest view of which or above so many nodes have a Timeout.
func (s *stand) shared(nodes int) int {
	l := slices.Sorted(slices.Values(s.timeouts[1:]))
	return l[len(l)-nodes]
}

// best tells the lock of the highest view among Statuses, the first of as good ones.
func best(l []status) choice {
	c := nothing()
	for _, x := range l {
		if x.lock.view > c.view {
			c = x.lock
		}
	}
	return c
}
