package ballot

import (
	"cmp"
	"slices"

	"reliquary/api"
	"reliquary/suite"
	"reliquary/wire"
	"reliquary/words"
)

// How many fields tell a matter, and how many a signature, beside whose it is.
const (
	matterSize = 4
	signSize   = 2
)

// eight tells the eight bytes of a number that a vote may have.
func eight(n int) []byte {
	b, _ := wire.Int(n) // a vote's numbers are well within wire's
	return b
}

// readMatter reads a matter that may be from its fields, as many as there must be.
func readMatter(l [][]byte) (matter, bool) {
	phase, e1 := wire.ReadInt(l[0])
	view, e2 := wire.ReadInt(l[1])
	place, e3 := wire.ReadInt(l[2])
	m := matter{phase: phase, view: view, place: place}
	if cmp.Or(e1, e2, e3) != api.OK || len(l[3]) != len(m.value) {
		return matter{}, false
	}
	copy(m.value[:], l[3])
	return m, m.may()
}

// fieldsOf reads fields.
func fieldsOf(b []byte) ([][]byte, bool) {
	l, e := wire.ReadFields(b)
	return l, e == api.OK
}

// signFields tells a signature of a suite as fields, whose it is left out. ok is false,
// if it may not be.
func signFields(s api.Suite, x api.Signed) (l [][]byte, ok bool) {
	if x.Begin.S != s || !isScalar(s, x.Answer) {
		return nil, false
	}
	begin, e := suite.KeyBytes(x.Begin)
	if e != api.OK {
		return nil, false
	}
	return [][]byte{begin, words.Bytes(x.Answer)}, true
}

// readSign reads a signature of a suite from whose it is and its fields, as many as
// there must be.
func readSign(s api.Suite, whose []byte, l [][]byte) (api.Signed, bool) {
	from, e1 := wire.ReadInt(whose)
	begin, e2 := suite.ReadKey(s, l[0])
	answer, e3 := words.Read(l[1])
	// words reads less bytes, too.
	if cmp.Or(e1, e2, e3) != api.OK || len(l[1]) != len(words.Bytes(answer)) {
		return api.Signed{}, false
	}
	if !isFrom(from) || !isScalar(s, answer) {
		return api.Signed{}, false
	}
	return api.Signed{From: from, Begin: begin, Answer: answer}, true
}

// readSigns reads signatures of a suite, one behind the other, each with whose it is.
func readSigns(s api.Suite, l [][]byte) ([]api.Signed, bool) {
	var signs []api.Signed
	for one := range slices.Chunk(l, 1+signSize) {
		if len(one) < 1+signSize {
			return nil, false
		}
		x, ok := readSign(s, one[0], one[1:])
		if !ok {
			return nil, false
		}
		signs = append(signs, x)
	}
	return signs, true
}
