package order

import (
	"reliquary/api"
	"reliquary/ballot"
	"reliquary/wire"
)

// read reads a message. What it tells shares no memory with its bytes, and may be, but for
// the signatures of votes and decisions: these are held against the keys where it is known
// that they matter, since they come often, and late.
func (g group) read(b []byte) (message, bool) {
	l, e := wire.ReadFields(b)
	if e != api.OK || len(l) == 0 || len(l[0]) != 1 {
		return nil, false
	}
	kind, rest := l[0][0], l[1:]
	switch {
	case kind == kindRequest && len(rest) == 1:
		return readRequest(rest)
	case kind == kindStatus && len(rest) == 4:
		return g.readStatus(rest)
	case kind == kindProposal && len(rest) == 4:
		return g.readProposal(rest)
	case kind == kindVote && len(rest) == 1:
		return g.readVote(rest)
	case kind == kindDecision && len(rest) == 2:
		return g.readDecision(rest)
	}
	return nil, false
}

// numbers reads numbers, each from 0 to its bound.
func numbers(l [][]byte, most ...int) ([]int, bool) {
	out := make([]int, len(most))
	for i, bound := range most {
		n, e := wire.ReadInt(l[i])
		if e != api.OK || n > bound {
			return nil, false
		}
		out[i] = n
	}
	return out, true
}

func readRequest(l [][]byte) (message, bool) {
	m := request{value: l[0]}
	return m, len(m.value) >= 1 && len(m.value) <= api.MaxPayload
}

func (g group) readStatus(l [][]byte) (message, bool) {
	at, ok := numbers(l, api.MaxPlace, api.MaxView)
	if !ok {
		return nil, false
	}
	lock, ok := g.readLock(at[0], at[1], l[2], l[3])
	return status{place: at[0], view: at[1], lock: lock}, ok
}

func (g group) readProposal(l [][]byte) (message, bool) {
	at, ok := numbers(l, api.MaxPlace, api.MaxView)
	if !ok {
		return nil, false
	}
	c, ok := g.readChoice(at[0], at[1], l[2], l[3])
	return proposal{place: at[0], view: at[1], choice: c}, ok
}

func (g group) readVote(l [][]byte) (message, bool) {
	v, e := ballot.Read(g.suite, l[0])
	if e != api.OK || v.From < 1 || v.From > len(g.keys) {
		return nil, false
	}
	return vote{v}, true
}

func (g group) readDecision(l [][]byte) (message, bool) {
	value, proof := l[0], l[1]
	if len(value) > api.MaxPayload {
		return nil, false
	}
	c, e := ballot.CertRead(g.suite, proof)
	return decision{settled: settled{value: value, proof: proof}, cert: c}, e == api.OK
}

// readChoice reads a value and no bytes, or a proof of a place and of a view below.
func (g group) readChoice(place, below int, value, proof []byte) (choice, bool) {
	if len(value) > api.MaxPayload {
		return choice{}, false
	}
	c := unproved(value)
	if len(proof) == 0 {
		return c, true
	}
	cert, e := ballot.CertRead(g.suite, proof)
	if e != api.OK || cert.View >= below || !g.proves(cert, api.Prevote, place, c.name) {
		return choice{}, false
	}
	c.view, c.proof = cert.View, proof
	return c, true
}

// readLock reads a lock, or that there is none.
func (g group) readLock(place, below int, value, proof []byte) (choice, bool) {
	if len(proof) == 0 {
		return nothing(), len(value) == 0
	}
	return g.readChoice(place, below, value, proof)
}
