package channel

import (
	"bytes"
	"crypto/hkdf"
	"crypto/sha256"
	"encoding/binary"
	"fmt"
	"math/rand"
	"slices"
	"testing"

	"reliquary/api"
	"reliquary/cipher"
	"reliquary/suite"
	"reliquary/words"
)

// The chapter's words once more, each text put together whole, with Go's own HKDF.

// suites are all of them.
func suites() []api.Suite { return []api.Suite{api.Little, api.Middle, api.Great} }

// fine looks whether nothing was refused.
func fine(t *testing.T, all ...api.Errno) {
	t.Helper()
	for _, e := range all {
		if e != api.OK {
			t.Fatal(e)
		}
	}
}

// is looks whether an answer is this one: its bytes, and its error.
func is(t *testing.T, got []byte, e api.Errno, want []byte, fault api.Errno) {
	t.Helper()
	if e != fault || !bytes.Equal(got, want) {
		t.Errorf("%.40x (%d), %v: not %.40x (%d), %v", got, len(got), e, want, len(want), fault)
	}
}

// refuses looks whether an answer is just this error.
func refuses(t *testing.T, got []byte, e, fault api.Errno) {
	t.Helper()
	is(t, got, e, nil, fault)
}

// under tells the order less k.
func under(s api.Suite, k uint64) api.Num {
	r, _ := suite.Order(s)
	n, _ := words.Sub(r, words.Of(k))
	return n
}

// times tells a key times a number.
func times(n api.Num, k api.Key) api.Key {
	p, e := suite.KeyMul(k, n)
	if e != api.OK {
		panic(e)
	}
	return p
}

// keyOf tells the key of a secret.
func keyOf(s api.Suite, n api.Num) api.Key {
	g, _ := suite.Gen(s)
	return times(n, g)
}

// zeroOf tells a suite's zero.
func zeroOf(s api.Suite) api.Key {
	if s == api.Great {
		return api.Key{P: api.P1{Zero: true}}
	}
	return api.Key{S: s, L: api.L1{Zero: true}}
}

// bytesOf tells a key's bytes.
func bytesOf(k api.Key) []byte {
	b, e := suite.KeyBytes(k)
	if e != api.OK {
		panic(e)
	}
	return b
}

// eight tells a number's eight bytes.
func eight(n uint64) []byte { return binary.BigEndian.AppendUint64(nil, n) }

// fieldsOf tells the fields of keys as one text.
func fieldsOf(keys ...api.Key) []byte {
	b := binary.BigEndian.AppendUint32(nil, uint32(len(keys)))
	for _, k := range keys {
		one := bytesOf(k)
		b = append(binary.BigEndian.AppendUint32(b, uint32(len(one))), one...)
	}
	return b
}

// derived tells what Go's HKDF makes of a salt, a material and an info.
func derived(salt string, material, info []byte, n int) []byte {
	b, err := hkdf.Key(sha256.New, material, []byte(salt), string(info), n)
	if err != nil {
		panic(err)
	}
	return b
}

// sealed tells what the cipher makes of a text.
func sealed(key, nonce, text, more []byte) []byte {
	b, e := cipher.Seal(key, nonce, text, more)
	if e != api.OK {
		panic(e)
	}
	return b
}

// four are the four secrets of a channel, in the chapter's letters.
type four struct {
	s          api.Suite
	x, y, e, f api.Num
}

// fourOf tells small secrets.
func fourOf(s api.Suite, x, y, e, f uint64) four {
	return four{s, words.Of(x), words.Of(y), words.Of(e), words.Of(f)}
}

// example tells the secrets of the chapter's examples, of any suite.
func example(s api.Suite) four { return fourOf(s, 5, 7, 9, 11) }

// key tells the key of one of the four.
func (w four) key(n api.Num) api.Key { return keyOf(w.s, n) }

// keys tells the two keys, that of who begins ahead.
func (w four) keys() ([]byte, []byte) {
	x, y, e, f := w.key(w.x), w.key(w.y), w.key(w.e), w.key(w.f)
	material := fieldsOf(times(w.f, e), times(w.y, e), times(w.f, x))
	b := derived("reliquary channel", material, fieldsOf(x, y, e, f), 64)
	return b[:32], b[32:]
}

// hello and reply tell what is said ahead of all.
func (w four) hello() []byte { return bytesOf(w.key(w.e)) }

func (w four) reply() []byte {
	_, answers := w.keys()
	return slices.Concat(bytesOf(w.key(w.f)), message(answers, 1, nil, w.hello()))
}

// begin and answer begin and answer the channel, and look at what is said.
func (w four) begin(t *testing.T) *Opening {
	t.Helper()
	o, hello, e := Begin(w.s, w.x, w.key(w.y), w.e)
	fine(t, e)
	is(t, hello, e, w.hello(), api.OK)
	return o
}

func (w four) answer(t *testing.T) *Channel {
	t.Helper()
	c, reply, e := Answer(w.s, w.y, w.key(w.x), w.f, w.hello())
	fine(t, e)
	is(t, reply, e, w.reply(), api.OK)
	return c
}

// both tells the channel of who begins, and of who answers.
func (w four) both(t *testing.T) (*Channel, *Channel) {
	t.Helper()
	a, e := w.begin(t).Finish(w.reply())
	fine(t, e)
	return a, w.answer(t)
}

// message tells a side's message of a number.
func message(key []byte, n uint64, text, more []byte) []byte {
	return inEpoch(key, (n-1)/256, n, text, more)
}

// inEpoch tells what is sealed under the key of an epoch, be it the number's or not.
func inEpoch(key []byte, epoch, n uint64, text, more []byte) []byte {
	k, err := hkdf.Expand(sha256.New, key, "epoch"+string(eight(epoch)), 32)
	if err != nil {
		panic(err)
	}
	nonce := append([]byte{0, 0, 0, 0}, eight(n)...)
	return append(eight(n), sealed(k, nonce, text, more)...)
}

// box tells the box of a point.
func box(point api.Key, text, more []byte) []byte {
	key := derived("reliquary box", bytesOf(point), nil, 32)
	return sealed(key, make([]byte, 12), text, more)
}

// has looks how far a channel has come.
func has(t *testing.T, c *Channel, sent, highest int) {
	t.Helper()
	if c.Sent() != sent || c.Highest() != highest {
		t.Error(c.Sent(), c.Highest(), "are not", sent, highest)
	}
}

// turned tells a text with one bit turned.
func turned(b []byte, bit int) []byte {
	b = bytes.Clone(b)
	b[bit/8] ^= 1 << (bit % 8)
	return b
}

// text tells so many bytes.
func text(n int) []byte {
	b := make([]byte, n)
	rand.New(rand.NewSource(int64(n))).Read(b)
	return b
}

// notSuites are numbers that are no suite.
func notSuites() []api.Suite { return []api.Suite{-1, 3, 4, 1 << 40, -1 << 63} }

// notSecrets are numbers that are no secret of a suite.
func notSecrets(s api.Suite) []api.Num {
	r, _ := suite.Order(s)
	above, _ := words.Add(r, words.Of(1))
	all := ^uint64(0)
	return []api.Num{
		{}, r, above, {5, 0, 0, 0, 1}, {0, 0, 0, 0, 0, 1 << 63}, {all, all, all, all, all, all},
	}
}

// notKeys are keys that may not be, whatever the suite.
func notKeys() map[string]api.Key {
	great, low := keyOf(api.Great, words.Of(5)), keyOf(api.Little, words.Of(5))
	return map[string]api.Key{
		"no key":               {},
		"no suite":             {S: 3, L: low.L},
		"less than a suite":    {S: -1, L: low.L},
		"off the great curve":  {P: api.P1{X: words.Of(1), Y: words.Of(1)}},
		"not of its group":     {P: api.P1{Y: words.Of(2)}},
		"great, with a little": {P: great.P, L: low.L},
		"great, with a zero":   {P: great.P, L: api.L1{Zero: true}},
		"great, as zero":       {P: api.P1{X: great.P.X, Y: great.P.Y, Zero: true}},
		"great, both zero":     {P: api.P1{Zero: true}, L: api.L1{Zero: true}},
		"off a little curve":   {S: api.Little, L: api.L1{X: 1, Y: 1}},
		"not of a little one":  {S: api.Little, L: api.L1{}},
		"of another curve":     {S: api.Middle, L: low.L},
		"little, with a great": {S: api.Little, L: low.L, P: great.P},
		"little, with a zero":  {S: api.Little, L: low.L, P: api.P1{Zero: true}},
		"little, as zero":      {S: api.Little, L: api.L1{X: low.L.X, Y: low.L.Y, Zero: true}},
		"little, above p":      {S: api.Little, L: api.L1{X: low.L.X + 786251, Y: low.L.Y}},
	}
}

// notAnothers are keys that are none of another of a suite.
func notAnothers(s api.Suite) map[string]api.Key {
	l := notKeys()
	l["the zero"] = zeroOf(s)
	for _, o := range suites() {
		if o != s {
			l[fmt.Sprint("of the suite ", o)] = keyOf(o, words.Of(5))
			l[fmt.Sprint("the zero of ", o)] = zeroOf(o)
		}
	}
	return l
}

// notHellos are bytes that are not those of a key of another of a suite.
func notHellos(s api.Suite) map[string][]byte {
	good := bytesOf(keyOf(s, words.Of(9)))
	// All 0 are a point of a little curve, and none of its group.
	l := map[string][]byte{
		"nothing":    nil,
		"one less":   good[:len(good)-1],
		"one more":   append(bytes.Clone(good), 0),
		"one ahead":  append([]byte{0}, good...),
		"all 0":      make([]byte, len(good)),
		"all 255":    bytes.Repeat([]byte{255}, len(good)),
		"the zero":   bytesOf(zeroOf(s)),
		"as zero":    append([]byte{1}, good[1:]...),
		"with a 2":   append([]byte{2}, good[1:]...),
		"above p":    append([]byte{0}, bytes.Repeat([]byte{255}, 16)...),
		"much":       text(300),
		"all of one": bytes.Repeat(good, 2),
	}
	for _, o := range suites() {
		if o != s {
			l[fmt.Sprint("of the suite ", o)] = bytesOf(keyOf(o, words.Of(9)))
		}
	}
	if s == api.Great {
		// X 0: a point of the curve, and none of the group.
		l["not of the group"] = append([]byte{128}, make([]byte, 47)...)
		l["zero, and more"] = append([]byte{192}, append(make([]byte, 46), 1)...)
	}
	return l
}
