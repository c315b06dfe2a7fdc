package ballot

import (
	"reliquary/api"
	"reliquary/wire"
)

// maxFrom is the greatest number from which a vote may be, and how many signatures a
// certificate may have that is written.
const maxFrom = 255

// matter is what a vote is about: what all votes of a certificate say.
type matter struct {
	phase, view, place int
	value              api.Digest
}

// matterOf tells what a vote is about.
func matterOf(v api.Vote) matter {
	return matter{phase: v.Phase, view: v.View, place: v.Place, value: v.Value}
}

// matterOfCert tells what the votes of a certificate are about.
func matterOfCert(c api.Cert) matter {
	return matter{phase: c.Phase, view: c.View, place: c.Place, value: c.Value}
}

// vote tells a matter as the vote with this signature.
func (m matter) vote(x api.Signed) api.Vote {
	return api.Vote{
		Phase: m.phase, View: m.view, Place: m.place, Value: m.value,
		From: x.From, Begin: x.Begin, Answer: x.Answer,
	}
}

// cert tells a matter as the certificate with these signatures.
func (m matter) cert(signs []api.Signed) api.Cert {
	return api.Cert{Phase: m.phase, View: m.view, Place: m.place, Value: m.value, Signs: signs}
}

// may tells whether a vote may say it.
func (m matter) may() bool {
	if m.view < 0 || m.view > api.MaxView || m.place < 0 || m.place > api.MaxPlace {
		return false
	}
	switch m.phase {
	case api.Prevote, api.Precommit:
		return true
	case api.Timeout:
		return m.value == api.Digest{}
	default:
		return false
	}
}

// isFrom tells whether a vote may be from this number.
func isFrom(from int) bool { return from >= 1 && from <= maxFrom }

// words tells what the node with this number signs.
func (m matter) words(from int) []byte {
	b, _ := wire.Fields(append(m.fields(), eight(from))) // far below wire's bounds
	return b
}

// fields tells a matter as fields: with these the words of a vote begin, and the bytes
// of a certificate.
func (m matter) fields() [][]byte {
	return [][]byte{eight(m.phase), eight(m.view), eight(m.place), m.value[:]}
}
