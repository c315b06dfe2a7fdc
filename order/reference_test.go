package order

import (
	"bytes"
	"crypto/sha256"
	"encoding/binary"
	"slices"
	"testing"

	"reliquary/api"
	"reliquary/ballot"
	"reliquary/suite"
	"reliquary/words"
)

// The chapter's words once more: messages with Go's own bytes and digest here, nodes in
// model_test.go.

// suites are all of them.
func suites() []api.Suite { return []api.Suite{api.Little, api.Middle, api.Great} }

// otherThan tells a suite that is another one, and not the great one.
func otherThan(s api.Suite) api.Suite {
	if s == api.Middle {
		return api.Little
	}
	return api.Middle
}

// fine looks whether nothing was refused.
func fine(t testing.TB, all ...api.Errno) {
	t.Helper()
	for _, e := range all {
		if e != api.OK {
			t.Fatal(e)
		}
	}
}

// secretOf tells a node's secret: those of the nodes 1, 2, 3, .. are 2, 3, 4, ..
func secretOf(node int) api.Num { return words.Of(uint64(1 + node)) }

// keyOf tells the key of a secret.
func keyOf(s api.Suite, secret api.Num) api.Key {
	g, e := suite.Gen(s)
	if e != api.OK {
		panic(e)
	}
	k, e := suite.KeyMul(g, secret)
	if e != api.OK {
		panic(e)
	}
	return k
}

// keysOf tells the keys of n nodes.
func keysOf(s api.Suite, n int) []api.Key {
	var l []api.Key
	for i := range n {
		l = append(l, keyOf(s, secretOf(i+1)))
	}
	return l
}

// sumOf tells a value's digest.
func sumOf(value []byte) api.Digest { return sha256.Sum256(value) }

// eightOf tells a number's eight bytes.
func eightOf(n int) []byte { return binary.BigEndian.AppendUint64(nil, uint64(n)) }

// textOf tells fields as one text.
func textOf(fields ...[]byte) []byte {
	b := binary.BigEndian.AppendUint32(nil, uint32(len(fields)))
	for _, f := range fields {
		b = append(binary.BigEndian.AppendUint32(b, uint32(len(f))), f...)
	}
	return b
}

// fieldsOf tells the fields of a text, which may have anything behind it.
func fieldsOf(b []byte) ([][]byte, bool) {
	if len(b) < 4 {
		return nil, false
	}
	count := binary.BigEndian.Uint32(b)
	b = b[4:]
	var l [][]byte
	for range count {
		if len(b) < 4 || uint64(len(b)-4) < uint64(binary.BigEndian.Uint32(b)) {
			return nil, false
		}
		size := int(binary.BigEndian.Uint32(b))
		l = append(l, b[4:4+size])
		b = b[4+size:]
	}
	return l, true
}

// The texts of messages.

func requestText(value []byte) []byte { return textOf([]byte{1}, value) }

func statusText(place, view int, value, proof []byte) []byte {
	return textOf([]byte{2}, eightOf(place), eightOf(view), value, proof)
}

func proposeText(place, view int, value, proof []byte) []byte {
	return textOf([]byte{3}, eightOf(place), eightOf(view), value, proof)
}

func voteText(s api.Suite, v api.Vote) []byte {
	b, e := ballot.Bytes(s, v)
	if e != api.OK {
		panic(e)
	}
	return textOf([]byte{4}, b)
}

func decideText(value, proof []byte) []byte { return textOf([]byte{5}, value, proof) }

// voteOf tells a node's signed vote.
func voteOf(s api.Suite, from, phase, view, place int, value api.Digest) api.Vote {
	v := api.Vote{Phase: phase, View: view, Place: place, Value: value, From: from}
	v, e := ballot.Sign(s, secretOf(from), v)
	if e != api.OK {
		panic(e)
	}
	return v
}

// certOf tells the certificate of these nodes.
func certOf(s api.Suite, phase, view, place int, value api.Digest, from ...int) api.Cert {
	c := api.Cert{Phase: phase, View: view, Place: place, Value: value}
	for _, i := range from {
		v := voteOf(s, i, phase, view, place, value)
		c.Signs = append(c.Signs, api.Signed{From: i, Begin: v.Begin, Answer: v.Answer})
	}
	return c
}

// certText tells a certificate's bytes.
func certText(s api.Suite, c api.Cert) []byte {
	b, e := ballot.CertBytes(s, c)
	if e != api.OK {
		panic(e)
	}
	return b
}

// first tells the nodes from 1 on.
func first(n int) []int {
	var l []int
	for i := range n {
		l = append(l, i+1)
	}
	return l
}

// proofText tells a proof of these nodes' Prevotes for a value.
func proofText(s api.Suite, view, place int, value []byte, from ...int) []byte {
	return certText(s, certOf(s, api.Prevote, view, place, sumOf(value), from...))
}

// decided tells a Decide of these nodes' Precommits for a value.
func decided(s api.Suite, view, place int, value []byte, from ...int) []byte {
	return decideText(value, certText(s, certOf(s, api.Precommit, view, place, sumOf(value), from...)))
}

// savedText tells what Save does of views of votes (-1: none).
func savedText(place, view, prevote, precommit, timeout int, digest api.Digest, value, proof []byte) []byte {
	return textOf(eightOf(place), eightOf(view), eightOf(prevote+1), eightOf(precommit+1), eightOf(timeout+1), digest[:], value, proof)
}

// mail is a message under way.
type mail struct {
	from, to int
	data     []byte
}

// mails tells what a node sends.
func mails(from int, out []api.Out) []mail {
	var l []mail
	for _, o := range out {
		l = append(l, mail{from, o.To, o.Data})
	}
	return l
}

// sameOut tells whether the same is sent.
func sameOut(a, b []api.Out) bool {
	return slices.EqualFunc(a, b, func(x, y api.Out) bool { return x.To == y.To && bytes.Equal(x.Data, y.Data) })
}

// kinds tells what is sent in short: to whom, and which kind of message; of votes the
// phase, too.
func kinds(t testing.TB, out []api.Out) string {
	t.Helper()
	var b []byte
	for _, o := range out {
		l, ok := fieldsOf(o.Data)
		if !ok {
			t.Fatal("no fields")
		}
		if len(b) > 0 {
			b = append(b, ' ')
		}
		b = append(b, byte('0'+o.To), "?rspvd"[l[0][0]])
		if l[0][0] == 4 {
			said, _ := fieldsOf(l[1])
			what, _ := fieldsOf(said[0])
			b = append(b, "?123"[what[0][7]])
		}
	}
	return string(b)
}
