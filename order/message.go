package order

import (
	"slices"

	"reliquary/api"
	"reliquary/ballot"
	"reliquary/wire"
)

// The bytes that tell what a message is.
const (
	kindRequest  = 1
	kindStatus   = 2
	kindProposal = 3
	kindVote     = 4
	kindDecision = 5
)

// message is what one node says to another one: a request, a status, a proposal, a vote or
// a decision.
type message interface {
	bytes(s api.Suite) []byte
}

// request says that a value is to be ordered.
type request struct {
	value []byte
}

// status says how far a node is, and to which value it is bound.
type status struct {
	place, view int
	lock        choice
}

// proposal says which value is to be voted for.
type proposal struct {
	place, view int
	choice
}

// vote is a vote as a message.
type vote struct {
	api.Vote
}

// settled is a value that has its place, and the bytes of the certificate of its
// Precommits. To others it is told as a decision.
type settled struct {
	value []byte
	proof []byte
}

// decision says which value has a place, with the certificate that its bytes tell.
type decision struct {
	settled
	cert api.Cert
}

// text tells the fields of a message.
func text(kind byte, fields ...[]byte) []byte {
	b, _ := wire.Fields(slices.Concat([][]byte{{kind}}, fields))
	return b
}

// eight tells a number's bytes.
func eight(n int) []byte {
	b, _ := wire.Int(n)
	return b
}

// bytes of a message are its only text. None is long enough to be refused.

func (m request) bytes(api.Suite) []byte { return text(kindRequest, m.value) }

func (m status) bytes(api.Suite) []byte {
	return text(kindStatus, eight(m.place), eight(m.view), m.lock.value, m.lock.proof)
}

func (m proposal) bytes(api.Suite) []byte {
	return text(kindProposal, eight(m.place), eight(m.view), m.value, m.proof)
}

func (m vote) bytes(s api.Suite) []byte {
	b, _ := ballot.Bytes(s, m.Vote)
	return text(kindVote, b)
}

func (m settled) bytes(api.Suite) []byte { return text(kindDecision, m.value, m.proof) }
