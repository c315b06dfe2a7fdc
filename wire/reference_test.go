package wire

import (
	"encoding/binary"
	"math/big"
	"testing"

	"reliquary/api"
	"reliquary/suite"
	"reliquary/words"
)

// good tells what a call answers that must not be refused.
func good[T any](t *testing.T) func(x T, e api.Errno) T {
	return func(x T, e api.Errno) T {
		t.Helper()
		if e != api.OK {
			t.Fatal(e)
		}
		return x
	}
}

func suites() []api.Suite { return []api.Suite{api.Great, api.Little, api.Middle} }

// fieldsByWords puts fields together as the chapter says it, by the library's means.
func fieldsByWords(l [][]byte) []byte {
	b := binary.BigEndian.AppendUint32(nil, uint32(len(l)))
	for _, f := range l {
		b = binary.BigEndian.AppendUint32(b, uint32(len(f)))
		b = append(b, f...)
	}
	return b
}

// scalarByWords tells a scalar's bytes by math/big.
func scalarByWords(s api.Suite, n api.Num) []byte {
	x := new(big.Int)
	for i := len(n) - 1; i >= 0; i-- {
		x.Lsh(x, 64).Or(x, new(big.Int).SetUint64(n[i]))
	}
	if s == api.Great {
		return x.FillBytes(make([]byte, 32))
	}
	return x.FillBytes(make([]byte, 8))
}

// entryByWords puts an entry together as the chapter says it.
func entryByWords(t *testing.T, e api.Entry) []byte {
	t.Helper()
	b := []byte{byte(e.Kind), byte(e.Node)}
	for _, s := range []string{e.Who, e.Tenant, e.Name} {
		b = append(append(b, byte(len(s))), s...)
	}
	b = append(binary.BigEndian.AppendUint16(b, uint16(len(e.Text))), e.Text...)
	b = append(b, byte(len(e.Ints)))
	for _, n := range e.Ints {
		b = binary.BigEndian.AppendUint32(b, uint32(n))
	}
	b = append(b, map[api.Suite]byte{api.Great: 0, api.Little: 1, api.Middle: 2}[e.Suite])
	b = append(b, byte(len(e.Nums)))
	for _, n := range e.Nums {
		b = append(b, scalarByWords(e.Suite, n)...)
	}
	b = append(b, byte(len(e.Keys)))
	for _, k := range e.Keys {
		b = append(b, good[[]byte](t)(suite.KeyBytes(k))...)
	}
	b = append(b, byte(len(e.Sigs)))
	for _, k := range e.Sigs {
		b = append(b, good[[]byte](t)(suite.SigBytes(k))...)
	}
	return b
}

// last tells the greatest scalar of a suite.
func last(t *testing.T, s api.Suite) api.Num {
	t.Helper()
	n, _ := words.Sub(good[api.Num](t)(suite.Order(s)), words.Of(1))
	return n
}

// keyOf tells n times the generator of a suite's keys.
func keyOf(t *testing.T, s api.Suite, n uint64) api.Key {
	t.Helper()
	return good[api.Key](t)(suite.KeyMul(good[api.Key](t)(suite.Gen(s)), words.Of(n)))
}

// sigOf tells n times the sig of a text.
func sigOf(t *testing.T, s api.Suite, n uint64) api.Sig {
	t.Helper()
	return good[api.Sig](t)(suite.SigMul(good[api.Sig](t)(suite.HashSig(s, nil)), words.Of(n)))
}

// entryOf tells an entry of a suite that has something, and no two things alike, in each
// field.
func entryOf(t *testing.T, s api.Suite) api.Entry {
	t.Helper()
	return api.Entry{
		Kind: 3, Node: 4, Who: "who", Tenant: "tenant\x00\xff", Name: "é", Text: []byte("text"),
		Ints: []int{0, 258, 1<<31 - 1}, Suite: s,
		Nums: []api.Num{words.Of(0), words.Of(513), last(t, s)},
		Keys: []api.Key{keyOf(t, s, 1), keyOf(t, s, 0), keyOf(t, s, 7)},
		Sigs: []api.Sig{sigOf(t, s, 1), sigOf(t, s, 0)},
	}
}
