package ballot

import (
	"bytes"
	"math/rand"
	"slices"
	"testing"

	"reliquary/api"
	"reliquary/words"
)

func TestBytesOfVotes(t *testing.T) {
	for _, s := range suites() {
		for _, v := range goodVotes() {
			if s == api.Great && v.View > 1 {
				continue
			}
			v = signedOf(s, words.Of(2), v)
			for _, k := range []api.Key{v.Begin, zeroOf(s), keyOf(s, under(s, 1))} {
				for _, answer := range []api.Num{v.Answer, {}, words.Of(256), under(s, 1)} {
					// Whether the signature holds is not asked.
					v.Begin, v.Answer = k, answer
					b, e := Bytes(s, v)
					if e != api.OK || !bytes.Equal(b, voteBytes(v)) {
						t.Error(s, v, b, e)
					}
					if back, e := Read(s, b); e != api.OK || back != v {
						t.Error(s, v, back, e)
					}
				}
			}
		}
	}
}

func TestBytesOfNoVotes(t *testing.T) {
	refused := func(name string, s api.Suite, v api.Vote) {
		t.Helper()
		if b, e := Bytes(s, v); e != api.ErrArg || b != nil {
			t.Error(name, s, v, b, e)
		}
	}
	for _, s := range suites() {
		good := sign(t, s, abc(1))
		for name, v := range badVotes() {
			refused(name, s, signedOf(s, words.Of(2), v))
		}
		change := func(name string, f func(v *api.Vote)) {
			t.Helper()
			v := good
			f(&v)
			refused(name, s, v)
		}
		for _, from := range wrongFroms() {
			change("From", func(v *api.Vote) { v.From = from })
		}
		for _, k := range notKeys(s) {
			change("Begin", func(v *api.Vote) { v.Begin = k })
		}
		for _, n := range []api.Num{under(s, 0), under(s, -1), {5: 1}, {0, 1 << 63, 0, 0, 1}} {
			change("Answer", func(v *api.Vote) { v.Answer = n })
		}
		for _, other := range append(notSuites(), suites()...) {
			if other != s {
				refused("another suite", other, good)
			}
		}
		for _, other := range notSuites() {
			v := good
			v.Begin.S = other
			refused("no suite", other, v)
		}
	}
}

// readRefuses looks whether bytes are no vote, and no certificate, by this error.
func readRefuses(t *testing.T, name string, s api.Suite, b []byte, want api.Errno) {
	t.Helper()
	if v, e := Read(s, b); e != want || v != (api.Vote{}) {
		t.Error(name, s, v, e)
	}
	if c, e := CertRead(s, b); e != want || !same(c, api.Cert{}) || c.Signs != nil {
		t.Error(name, s, c, e)
	}
}

func TestReadOfNoSuite(t *testing.T) {
	for _, s := range notSuites() {
		for _, b := range [][]byte{nil, {}, voteBytes(sign(t, api.Little, abc(1))), voteBytes(sign(t, api.Great, abc(1))), make([]byte, 1<<20+1)} {
			readRefuses(t, "no suite", s, b, api.ErrArg)
		}
	}
}

// TestCutBytes: no byte less, and none more.
func TestCutBytes(t *testing.T) {
	for _, s := range suites() {
		vote := voteBytes(sign(t, s, abc(1)))
		cert := text(certFields(certBy(t, s, abc(1), 1, 3))...)
		for _, b := range [][]byte{vote, cert} {
			for n := range b {
				readRefuses(t, "cut", s, b[:n:n], api.ErrBytes)
				readRefuses(t, "cut, the rest in spare room", s, b[:n], api.ErrBytes)
			}
			for _, more := range []int{1, 8, 100, 1 << 20} {
				readRefuses(t, "more", s, append(bytes.Clone(b), make([]byte, more)...), api.ErrBytes)
			}
			readRefuses(t, "ahead", s, append([]byte{0}, b...), api.ErrBytes)
		}
		if _, e := CertRead(s, vote); e != api.ErrBytes {
			t.Error(s, "a vote is no certificate", e)
		}
		if _, e := Read(s, cert); e != api.ErrBytes {
			t.Error(s, "a certificate is no vote", e)
		}
		for _, other := range suites() {
			if other != s {
				readRefuses(t, "of another suite", other, vote, api.ErrBytes)
				readRefuses(t, "of another suite", other, cert, api.ErrBytes)
			}
		}
	}
}

// TestTurnedBits: what is still read is written as the same bytes.
func TestTurnedBits(t *testing.T) {
	for _, s := range []api.Suite{api.Little, api.Great} {
		vote := voteBytes(sign(t, s, abc(1)))
		cert := text(certFields(certBy(t, s, abc(1), 1, 3))...)
		step := 1
		if s == api.Great {
			step = 5
		}
		for i := 0; i < 8*len(vote); i += step {
			b := turned(vote, i)
			v, e := Read(s, b)
			if e == api.OK {
				again, e := Bytes(s, v)
				if e != api.OK || !bytes.Equal(again, b) {
					t.Error(s, i, again, e)
				}
			} else if e != api.ErrBytes || v != (api.Vote{}) {
				t.Error(s, i, v, e)
			}
		}
		for i := 0; i < 8*len(cert); i += step {
			b := turned(cert, i)
			c, e := CertRead(s, b)
			if e == api.OK {
				again, e := CertBytes(s, c)
				if e != api.OK || !bytes.Equal(again, b) {
					t.Error(s, i, again, e)
				}
			} else if e != api.ErrBytes || c.Signs != nil || !same(c, api.Cert{}) {
				t.Error(s, i, c, e)
			}
		}
	}
}

// oddNumbers are fields that are no number's eight bytes, or those of a great one.
func oddNumbers() [][]byte {
	return [][]byte{
		nil, {1}, {0, 0, 0, 0, 0, 0, 1}, {0, 0, 0, 0, 0, 0, 0, 0, 1}, {1, 0, 0, 0, 0, 0, 0, 0}, {0x40, 0, 0, 0, 0, 0, 0, 1},
		{0x80, 0, 0, 0, 0, 0, 0, 1}, bytes.Repeat([]byte{255}, 8), {0, 0, 0, 1, 0, 0, 0, 1}, {0, 0, 0, 0, 0x40, 0, 0, 1},
	}
}

// matterFaults are the ways in which the first four fields of a vote's words, or of a
// certificate, may be wrong: at which place which field.
func matterFaults() map[int][][]byte {
	return map[int][][]byte{
		0: append(oddNumbers(), eightOf(0), eightOf(4), eightOf(257), eightOf(api.Timeout)),
		1: append(oddNumbers(), eightOf(1<<30+1), eightOf(1<<62-1)),
		2: append(oddNumbers(), eightOf(1<<30+1), eightOf(1<<62-1)),
		3: {nil, make([]byte, 31), make([]byte, 33), make([]byte, 64), {1}},
	}
}

// signFaults are the ways in which a signature's fields may be wrong, with whose it is.
func signFaults(s api.Suite) map[int][][]byte {
	key := bytesOf(keyOf(s, words.Of(5)))
	scalar := func(n api.Num) []byte { return words.Bytes(n) }
	faults := map[int][][]byte{
		0: append(oddNumbers(), eightOf(0), eightOf(256), eightOf(257)),
		1: {nil, {0}, key[1:], append([]byte{0}, key...), append(bytes.Clone(key), 0), make([]byte, len(key)), bytes.Repeat([]byte{255}, len(key))},
		2: {
			nil, {0}, {5}, make([]byte, 47), make([]byte, 49), make([]byte, 96), scalar(words.Of(5))[40:], scalar(words.Of(5))[16:],
			scalar(under(s, 0)), scalar(under(s, -1)), scalar(api.Num{5: 1}), bytes.Repeat([]byte{255}, 48),
		},
	}
	for _, other := range suites() {
		if other != s {
			faults[1] = append(faults[1], bytesOf(keyOf(other, words.Of(5))))
		}
	}
	switch s {
	case api.Great:
		out := make([]byte, 48) // X 0, Y 2: a point of the curve, not of the group
		out[0] = 0x80
		faults[1] = append(faults[1], out)
	default:
		faults[1] = append(faults[1], append([]byte{1}, key[1:]...), append([]byte{2}, key[1:]...), append([]byte{1}, append(make([]byte, 15), 1)...))
	}
	return faults
}

func TestFieldsOfNoVote(t *testing.T) {
	for _, s := range suites() {
		v := sign(t, s, abc(1))
		said := [][]byte{eightOf(v.Phase), eightOf(v.View), eightOf(v.Place), v.Value[:], eightOf(v.From)}
		sign := [][]byte{bytesOf(v.Begin), words.Bytes(v.Answer)}
		put := func(said, sign [][]byte) []byte { return text(append([][]byte{text(said...)}, sign...)...) }
		if got, e := Read(s, put(said, sign)); e != api.OK || got != v {
			t.Fatal(s, got, e)
		}
		for at, faults := range matterFaults() {
			for _, f := range faults {
				bad := slices.Clone(said)
				bad[at] = f
				readRefuses(t, "what it is about", s, put(bad, sign), api.ErrBytes)
			}
		}
		for at, faults := range signFaults(s) {
			for _, f := range faults {
				bad, worse := slices.Clone(said), slices.Clone(sign)
				if at == 0 {
					bad[4] = f
				} else {
					worse[at-1] = f
				}
				readRefuses(t, "its signature", s, put(bad, worse), api.ErrBytes)
			}
		}
		timeout := slices.Clone(said)
		timeout[0], timeout[3] = eightOf(3), append(make([]byte, 31), 1)
		readRefuses(t, "a Timeout of a value", s, put(timeout, sign), api.ErrBytes)
		for n := range said {
			readRefuses(t, "fewer fields", s, put(said[:n], sign), api.ErrBytes)
		}
		readRefuses(t, "one word more", s, put(append(slices.Clone(said), nil), sign), api.ErrBytes)
		readRefuses(t, "one field less", s, put(said, sign[:1]), api.ErrBytes)
		readRefuses(t, "no signature", s, put(said, nil), api.ErrBytes)
		readRefuses(t, "one field more", s, put(said, append(slices.Clone(sign), nil)), api.ErrBytes)
		readRefuses(t, "the fields changed about", s, put(said, [][]byte{sign[1], sign[0]}), api.ErrBytes)
		// All fields in one are a certificate of one signature, but no vote.
		if got, e := Read(s, text(append(slices.Clone(said), sign...)...)); e != api.ErrBytes || got != (api.Vote{}) {
			t.Error(s, got, e)
		}
		readRefuses(t, "words that are no fields", s, text(nil, sign[0], sign[1]), api.ErrBytes)
		readRefuses(t, "words and a byte", s, text(append(text(said...), 0), sign[0], sign[1]), api.ErrBytes)
		readRefuses(t, "no fields", s, text(), api.ErrBytes)
	}
}

func TestBytesOfCertificates(t *testing.T) {
	for _, s := range suites() {
		full := make([]int, 255)
		for i := range full {
			full[i] = 255 - i // whatever their order
		}
		if s == api.Great {
			full = full[:20]
		}
		for _, nodes := range [][]int{{1}, {1, 2, 3}, {3, 2, 2}, {255}, full} {
			c := certBy(t, s, abc(1), nodes...)
			c.Signs[0].Begin, c.Signs[len(nodes)-1].Answer = zeroOf(s), under(s, 1)
			b, e := CertBytes(s, c)
			if e != api.OK || !bytes.Equal(b, text(certFields(c)...)) {
				t.Error(s, len(nodes), b, e)
			}
			if back, e := CertRead(s, b); e != api.OK || !same(back, c) {
				t.Error(s, len(nodes), back, e)
			}
		}
		for _, c := range []api.Cert{{Phase: 3}, {Phase: 1, View: 1 << 30, Place: 1 << 30, Value: valueOf("x")}, {Phase: 2, Signs: []api.Signed{}}} {
			b, e := CertBytes(s, c)
			if e != api.OK || !bytes.Equal(b, text(certFields(c)...)) {
				t.Error(s, c, b, e)
			}
			if back, e := CertRead(s, b); e != api.OK || !same(back, c) {
				t.Error(s, c, back, e)
			}
		}
	}
}

func TestBytesOfNoCertificates(t *testing.T) {
	refused := func(name string, s api.Suite, c api.Cert) {
		t.Helper()
		if b, e := CertBytes(s, c); e != api.ErrArg || b != nil {
			t.Error(name, s, b, e)
		}
	}
	for _, s := range suites() {
		good := certBy(t, s, abc(1), 1, 2, 3)
		for name, v := range badVotes() {
			refused(name, s, with(good, func(c *api.Cert) { c.Phase, c.View, c.Place, c.Value = v.Phase, v.View, v.Place, v.Value }))
			refused(name, s, api.Cert{Phase: v.Phase, View: v.View, Place: v.Place, Value: v.Value})
		}
		for i := range 3 {
			for _, from := range wrongFroms() {
				refused("From", s, with(good, func(c *api.Cert) { c.Signs[i].From = from }))
			}
			for _, k := range notKeys(s) {
				refused("Begin", s, with(good, func(c *api.Cert) { c.Signs[i].Begin = k }))
			}
			for _, n := range []api.Num{under(s, 0), under(s, -1), {5: 1}} {
				refused("Answer", s, with(good, func(c *api.Cert) { c.Signs[i].Answer = n }))
			}
			for _, other := range suites() {
				if other != s {
					refused("Begin of another suite", s, with(good, func(c *api.Cert) { c.Signs[i].Begin = keyOf(other, words.Of(5)) }))
				}
			}
		}
		for _, other := range append(notSuites(), suites()...) {
			if other != s {
				refused("another suite", other, good)
			}
		}
		for _, other := range notSuites() {
			refused("no suite", other, api.Cert{Phase: 1})
		}
		refused("nothing", s, api.Cert{})
	}
	signs := certBy(t, api.Little, abc(1), 7).Signs
	refused("256 Signs", api.Little, api.Cert{Phase: 1, Signs: slices.Repeat(signs, 256)})
	refused("many Signs", api.Little, api.Cert{Phase: 1, Signs: slices.Repeat(signs, 5000)})
	if _, e := CertBytes(api.Little, api.Cert{Phase: 1, Signs: slices.Repeat(signs, 255)}); e != api.OK {
		t.Error("255 Signs", e)
	}
}

func TestFieldsOfNoCertificate(t *testing.T) {
	for _, s := range suites() {
		good := certFields(certBy(t, s, abc(1), 1, 2, 3))
		if _, e := CertRead(s, text(good...)); e != api.OK {
			t.Fatal(s, e)
		}
		bad := func(name string, at int, f []byte) {
			t.Helper()
			l := slices.Clone(good)
			l[at] = f
			readRefuses(t, name, s, text(l...), api.ErrBytes)
		}
		for at, faults := range matterFaults() {
			for _, f := range faults {
				bad("what it is about", at, f)
			}
		}
		for at, faults := range signFaults(s) {
			for _, f := range faults {
				for i := range 3 {
					bad("a signature", 4+3*i+at, f)
				}
			}
		}
		for n := range good {
			if n >= 4 && n%3 == 1 {
				if c, e := CertRead(s, text(good[:n]...)); e != api.OK || len(c.Signs) != n/3-1 {
					t.Error(s, n, c, e)
				}
				continue
			}
			readRefuses(t, "fewer fields", s, text(good[:n]...), api.ErrBytes)
		}
		for n := 1; n <= 2; n++ {
			readRefuses(t, "more fields", s, text(slices.Concat(good, make([][]byte, n))...), api.ErrBytes)
			readRefuses(t, "more fields", s, text(slices.Concat(good, good[4:4+n])...), api.ErrBytes)
		}
		readRefuses(t, "a list in it", s, text(text(good[:4]...), good[4], good[5], good[6]), api.ErrBytes)
	}
	good := certFields(certBy(t, api.Little, abc(1), 9))
	many := func(n int) []byte { return text(slices.Concat(good[:4], slices.Repeat(good[4:], n))...) }
	if c, e := CertRead(api.Little, many(255)); e != api.OK || len(c.Signs) != 255 {
		t.Error(c, e)
	}
	for _, n := range []int{256, 257, 1000, 1364} {
		readRefuses(t, "too many Signs", api.Little, many(n), api.ErrBytes)
	}
}

// TestBytesAreNew: no text shares memory with what it was made of, or with another one.
func TestBytesAreNew(t *testing.T) {
	s := api.Little
	c := certBy(t, s, abc(1), 1, 2)
	b, e := CertBytes(s, c)
	fine(t, e)
	kept := bytes.Clone(b)
	back, e := CertRead(s, b)
	fine(t, e)
	for i := range b {
		b[i] = 255
	}
	for i := range b[len(b):cap(b)] {
		b[len(b):cap(b)][i] = 255
	}
	again, e := CertBytes(s, c)
	if e != api.OK || !bytes.Equal(again, kept) || !same(back, c) {
		t.Error(again, back, e)
	}
	other, e := CertRead(s, kept)
	fine(t, e)
	back.Signs[0].From = 77
	if !same(other, c) || c.Signs[0].From != 1 {
		t.Error(other, c)
	}
}

// TestReadOfWhatever: whatever comes is told by ErrBytes, or is written again.
func TestReadOfWhatever(t *testing.T) {
	r := rand.New(rand.NewSource(18))
	for _, s := range suites() {
		vote := voteBytes(sign(t, s, abc(1)))
		cert := text(certFields(certBy(t, s, abc(1), 1, 3))...)
		for range 300 {
			for _, b := range [][]byte{bytes.Clone(vote), bytes.Clone(cert)} {
				for range 1 + r.Intn(3) {
					b[r.Intn(len(b))] = byte(r.Intn(256))
				}
				if v, e := Read(s, b); e == api.OK {
					again, e := Bytes(s, v)
					if e != api.OK || !bytes.Equal(again, b) {
						t.Error(s, b, again, e)
					}
				} else if e != api.ErrBytes {
					t.Error(s, b, e)
				}
				if c, e := CertRead(s, b); e == api.OK {
					again, e := CertBytes(s, c)
					if e != api.OK || !bytes.Equal(again, b) {
						t.Error(s, b, again, e)
					}
				} else if e != api.ErrBytes {
					t.Error(s, b, e)
				}
			}
		}
	}
}
