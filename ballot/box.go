package ballot

import "reliquary/api"

// round is where values stand against each other: a phase of a view of a place.
type round struct {
	phase, view, place int
}

// slot is where a node has one vote.
type slot struct {
	phase, view, place, from int
}

// cast is a vote that is counted: for which value, and its signature.
type cast struct {
	value api.Digest
	sign  api.Signed
}

// tally is how many votes the values of a round have. Of a value that has as many as the
// quorum is kept that it was the first.
type tally struct {
	counts  map[api.Digest]int
	first   api.Digest
	reached bool
}

// round tells where a matter's value stands against others.
func (m matter) round() round { return round{m.phase, m.view, m.place} }

// slot tells where a node has its vote of a round.
func (r round) slot(from int) slot { return slot{r.phase, r.view, r.place, from} }

// working tells whether New made the box.
func (b *Box) working() bool { return b != nil && len(b.keys) > 0 }

// count counts a vote that may be counted.
func (b *Box) count(m matter, x api.Signed) {
	r := m.round()
	b.votes[r.slot(x.From)] = cast{value: m.value, sign: x}
	t, there := b.rounds[r]
	if !there {
		t = &tally{counts: map[api.Digest]int{}}
		b.rounds[r] = t
	}
	t.counts[m.value]++
	// Values may have as many one after the other, if the quorum is no more than half of
	// the nodes.
	if !t.reached && t.counts[m.value] >= b.quorum {
		t.first, t.reached = m.value, true
	}
}

// signs tells the signatures of a round that are counted for a value, by rising nodes.
func (b *Box) signs(r round, value api.Digest) []api.Signed {
	var l []api.Signed
	for i := range b.keys {
		if v, there := b.votes[r.slot(i+1)]; there && v.value == value {
			l = append(l, v.sign)
		}
	}
	return l
}
