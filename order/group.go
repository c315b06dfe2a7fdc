package order

import (
	"reliquary/api"
	"reliquary/ballot"
	"reliquary/digest"
	"reliquary/suite"
)

// none is the view of what there is not.
const none = -1

// group is who the nodes are, and how many of them prove something.
type group struct {
	suite  api.Suite
	keys   []api.Key
	liars  int // as many may be false
	quorum int
}

// groupOf tells the group of nodes with these keys.
func groupOf(s api.Suite, keys []api.Key) group {
	liars := (len(keys) - 1) / 3
	return group{suite: s, keys: keys, liars: liars, quorum: len(keys) - liars}
}

// has tells whether a node's key is that of a secret.
func (g group) has(me int, secret api.Num) bool {
	if me < 1 || me > len(g.keys) || secret == (api.Num{}) {
		return false
	}
	gen, e := suite.Gen(g.suite)
	if e != api.OK {
		return false
	}
	key, e := suite.KeyMul(gen, secret)
	return e == api.OK && key == g.keys[me-1]
}

// leader tells who leads a view of a place.
func (g group) leader(place, view int) int {
	return 1 + (place+view)%len(g.keys)
}

// proves tells whether a certificate of such votes of a place is of a value and holds.
func (g group) proves(c api.Cert, phase, place int, value api.Digest) bool {
	return c.Phase == phase && c.Place == place && c.Value == value &&
		ballot.CertCheck(g.keys, g.quorum, c)
}

// decides tells whether a decision may be.
func (g group) decides(m decision) bool {
	return g.proves(m.cert, api.Precommit, m.cert.Place, digest.Sum(m.value))
}

// choice is a value, and the proof that it may be, if it has one: so a Propose has it, and
// a lock, which has a proof always.
type choice struct {
	value []byte
	name  api.Digest // the value's
	view  int        // the proof's
	proof []byte     // a certificate's bytes
}

// nothing is the lock of a node that has none.
func nothing() choice { return choice{view: none} }

// unproved tells a value without a proof.
func unproved(value []byte) choice {
	return choice{value: value, name: digest.Sum(value), view: none}
}

// proved tells a value and the certificate of its Prevotes.
func (g group) proved(value []byte, c api.Cert) choice {
	return choice{value: value, name: c.Value, view: c.View, proof: g.certBytes(c)}
}

// certBytes tells the bytes of a certificate that a box told: these are never refused.
func (g group) certBytes(c api.Cert) []byte {
	b, _ := ballot.CertBytes(g.suite, c)
	return b
}
