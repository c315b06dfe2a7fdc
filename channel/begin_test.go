package channel

import (
	"bytes"
	"math/rand"
	"slices"
	"testing"

	"reliquary/api"
	"reliquary/suite"
	"reliquary/words"
)

// TestChannelsThatAreBegun: what is said, and what both sides have then.
func TestChannelsThatAreBegun(t *testing.T) {
	for _, s := range suites() {
		top := under(s, 1)
		for _, w := range []four{
			example(s),
			fourOf(s, 1, 1, 1, 1),
			fourOf(s, 5, 5, 9, 9),  // both are the same
			fourOf(s, 5, 7, 5, 7),  // the fresh ones are not fresh
			fourOf(s, 7, 5, 11, 9), // the sides changed about
			{s, top, top, top, top},
			{s, words.Of(5), top, under(s, 9), words.Of(1)},
		} {
			a, b := w.both(t)
			has(t, a, 0, 1)
			has(t, b, 1, 0)
			begins, answers := w.keys()
			m, e := a.Seal([]byte("there"), []byte("1"))
			is(t, m, e, message(begins, 1, []byte("there"), []byte("1")), api.OK)
			got, e := b.Open(m, []byte("1"))
			is(t, got, e, []byte("there"), api.OK)
			m, e = b.Seal([]byte("back"), nil)
			is(t, m, e, message(answers, 2, []byte("back"), nil), api.OK)
			got, e = a.Open(m, nil)
			is(t, got, e, []byte("back"), api.OK)
			has(t, a, 1, 2)
			has(t, b, 2, 1)
		}
	}
}

// beginRefuses looks whether neither Begin nor Answer takes what both are handed,
// whatever the hello.
func beginRefuses(t *testing.T, name string, s api.Suite, secret api.Num, theirs api.Key, fresh api.Num, want api.Errno) {
	t.Helper()
	if o, hello, e := Begin(s, secret, theirs, fresh); e != want || o != nil || hello != nil {
		t.Error(name, "Begin", o, hello, e, "not", want)
	}
	for _, hello := range [][]byte{nil, example(api.Little).hello(), example(api.Great).hello(), text(100)} {
		if c, reply, e := Answer(s, secret, theirs, fresh, hello); e != want || c != nil || reply != nil {
			t.Error(name, "Answer", c, reply, e, "not", want)
		}
	}
}

func TestWhatIsNotBegun(t *testing.T) {
	five, nine := words.Of(5), words.Of(9)
	for _, s := range notSuites() {
		for _, theirs := range []api.Key{{}, {S: s}, {S: s, L: api.L1{Zero: true}}, keyOf(api.Little, five)} {
			beginRefuses(t, "no suite", s, five, theirs, nine, api.ErrArg)
		}
	}
	for _, s := range suites() {
		good := keyOf(s, words.Of(7))
		for _, bad := range notSecrets(s) {
			for _, theirs := range []api.Key{good, zeroOf(s), {S: 3}} {
				beginRefuses(t, "no secret", s, bad, theirs, nine, api.ErrArg)
				beginRefuses(t, "no fresh one", s, five, theirs, bad, api.ErrArg)
				beginRefuses(t, "neither", s, bad, theirs, bad, api.ErrArg)
			}
		}
		for name, bad := range notAnothers(s) {
			beginRefuses(t, name, s, five, bad, nine, api.ErrPoint)
		}
	}
}

func TestHellosThatAreNone(t *testing.T) {
	for _, s := range suites() {
		w := example(s)
		for name, hello := range notHellos(s) {
			if c, reply, e := Answer(s, w.y, w.key(w.x), w.f, hello); e != api.ErrBytes || c != nil || reply != nil {
				t.Error(name, c, reply, e)
			}
		}
	}
}

// finishRefuses looks whether an opening does not take a reply, by this error.
func finishRefuses(t *testing.T, name string, o *Opening, reply []byte, want api.Errno) {
	t.Helper()
	if c, e := o.Finish(reply); e != want || c != nil {
		t.Error(name, c, e, "not", want)
	}
}

func TestRepliesThatAreNone(t *testing.T) {
	for _, s := range suites() {
		w := example(s)
		o := w.begin(t)
		good := w.reply()
		size := len(w.hello())
		for n := range good {
			finishRefuses(t, "cut", o, good[:n:n], api.ErrBytes)
			finishRefuses(t, "cut, the rest in spare room", o, good[:n], api.ErrBytes)
		}
		for name, b := range notHellos(s) {
			if len(b) == size {
				finishRefuses(t, name, o, slices.Concat(b, good[size:]), api.ErrBytes)
			}
		}
		_, answers := w.keys()
		f := bytesOf(w.key(w.f))
		for _, n := range []uint64{0, 2, 3, 255, 256, 257, 1 << 8, 1 << 30, 1<<30 + 1, 1 << 56, 1<<62 + 1, 1<<63 + 1, 1<<64 - 1} {
			finishRefuses(t, "another number", o, slices.Concat(f, message(answers, n, nil, w.hello())), api.ErrBytes)
			finishRefuses(t, "another number over it", o, slices.Concat(f, eight(n), good[size+8:]), api.ErrBytes)
		}
		// No key, and another number, and no tag: still no reply.
		finishRefuses(t, "all of it", o, make([]byte, len(good)), api.ErrBytes)
		c, e := o.Finish(good)
		fine(t, e)
		has(t, c, 0, 1)
	}
}

func TestRepliesThatAreNotOpened(t *testing.T) {
	for _, s := range suites() {
		w := example(s)
		o := w.begin(t)
		good, hello := w.reply(), w.hello()
		size := len(hello)
		for i := 8 * (size + 8); i < 8*len(good); i++ {
			finishRefuses(t, "a bit of the tag", o, turned(good, i), api.ErrTag)
		}
		begins, answers := w.keys()
		f := bytesOf(w.key(w.f))
		other := w
		other.f = words.Of(12)
		late := w
		late.e = words.Of(10)
		for name, b := range map[string][]byte{
			"one byte more":          append(bytes.Clone(good), 0),
			"much more":              append(bytes.Clone(good), make([]byte, 1<<18)...),
			"more than is opened":    append(bytes.Clone(good), make([]byte, 1<<21)...),
			"of a text":              slices.Concat(f, message(answers, 1, []byte{0}, hello)),
			"of a long text":         slices.Concat(f, message(answers, 1, text(131072), hello)),
			"of too long a text":     slices.Concat(f, message(answers, 1, text(1048576), hello)),
			"without the hello":      slices.Concat(f, message(answers, 1, nil, nil)),
			"with another hello":     slices.Concat(f, message(answers, 1, nil, late.hello())),
			"of who begins":          slices.Concat(f, message(begins, 1, nil, hello)),
			"of another epoch":       slices.Concat(f, inEpoch(answers, 1, 1, nil, hello)),
			"under the key itself":   slices.Concat(f, eight(1), sealed(answers, append(make([]byte, 4), eight(1)...), nil, hello)),
			"another's message":      slices.Concat(f, other.reply()[size:]),
			"another's key":          slices.Concat(other.reply()[:size], good[size:]),
			"to another hello":       late.reply(),
			"the hello, sent back":   slices.Concat(hello, good[size:]),
			"no tag":                 append(good[:len(good)-16:len(good)-16], make([]byte, 16)...),
			"of the negated secrets": slices.Concat(bytesOf(w.key(under(s, 11))), good[size:]),
		} {
			finishRefuses(t, name, o, b, api.ErrTag)
		}
		c, e := o.Finish(good)
		fine(t, e)
		has(t, c, 0, 1)
	}
}

// TestAReplyOfAnother: one whole fresh key serves as well as another.
func TestAReplyOfAnother(t *testing.T) {
	w, other := example(api.Little), fourOf(api.Little, 5, 7, 9, 12)
	o := w.begin(t)
	c, e := o.Finish(other.reply())
	fine(t, e)
	m, e := c.Seal([]byte("abc"), nil)
	fine(t, e)
	got, e := other.answer(t).Open(m, nil)
	is(t, got, e, []byte("abc"), api.OK)
	got, e = w.answer(t).Open(m, nil)
	refuses(t, got, e, api.ErrTag)
}

// TestBitsOfAReplysKey: no bit may be turned.
func TestBitsOfAReplysKey(t *testing.T) {
	for _, s := range []api.Suite{api.Little, api.Great} {
		w := example(s)
		o := w.begin(t)
		good := w.reply()
		for i := range 8 * (len(w.hello()) + 8) {
			if c, e := o.Finish(turned(good, i)); e != api.ErrBytes && e != api.ErrTag || c != nil {
				t.Error(s, i, c, e)
			}
		}
		_, e := o.Finish(good)
		fine(t, e)
	}
}

// TestSidesThatDoNotGoTogether: each side must have the other one's key, and its own
// secret.
func TestSidesThatDoNotGoTogether(t *testing.T) {
	for _, s := range suites() {
		w := example(s)
		three := words.Of(3)
		for name, c := range map[string]struct{ x, theirs, y, ours api.Num }{
			"who begins has another's key":     {w.x, three, w.y, w.x},
			"who answers has another's key":    {w.x, w.y, w.y, three},
			"who begins has another secret":    {three, w.y, w.y, w.x},
			"who answers has another secret":   {w.x, w.y, three, w.x},
			"who begins has the negated one":   {under(s, 5), w.y, w.y, w.x},
			"both changed about":               {w.y, w.x, w.x, w.x},
			"who begins has its own key":       {w.x, w.x, w.y, w.x},
			"who answers has its own key":      {w.x, w.y, w.y, w.y},
			"each has its own key":             {w.x, w.x, w.y, w.y},
			"each has a third one's, the same": {w.x, three, w.y, three},
		} {
			o, hello, e := Begin(s, c.x, w.key(c.theirs), w.e)
			fine(t, e)
			_, reply, e := Answer(s, c.y, w.key(c.ours), w.f, hello)
			fine(t, e)
			finishRefuses(t, name, o, reply, api.ErrTag)
		}
	}
}

func TestFinishTwice(t *testing.T) {
	for _, s := range suites() {
		w := example(s)
		o, p := w.begin(t), w.begin(t)
		finishRefuses(t, "not yet", o, nil, api.ErrBytes)
		finishRefuses(t, "not yet", o, turned(w.reply(), 8*len(w.reply())-1), api.ErrTag)
		a, e := o.Finish(w.reply())
		fine(t, e)
		_, e = a.Seal(nil, nil)
		fine(t, e)
		other := fourOf(s, 5, 7, 9, 12)
		for _, b := range [][]byte{w.reply(), nil, other.reply(), text(1 << 18), turned(w.reply(), 0)} {
			finishRefuses(t, "again", o, b, api.ErrState)
		}
		if *o != (Opening{stage: finished}) {
			t.Error("secrets are kept")
		}
		// The channel, and the other opening, are none of its.
		has(t, a, 1, 1)
		c, e := p.Finish(w.reply())
		fine(t, e)
		has(t, c, 0, 1)
	}
}

func TestOpeningsThatNobodyMade(t *testing.T) {
	for _, o := range []*Opening{nil, {}, new(Opening)} {
		for _, b := range [][]byte{nil, example(api.Little).reply(), example(api.Great).reply(), text(1 << 18)} {
			finishRefuses(t, "nobody's", o, b, api.ErrNil)
		}
	}
}

// TestAnsweredTwice: each channel goes on by itself.
func TestAnsweredTwice(t *testing.T) {
	w := example(api.Middle)
	a, b := w.both(t)
	c := w.answer(t)
	m, e := a.Seal([]byte("abc"), nil)
	fine(t, e)
	for _, o := range []*Channel{b, c} {
		got, e := o.Open(m, nil)
		is(t, got, e, []byte("abc"), api.OK)
		has(t, o, 1, 1)
	}
}

// TestNoReplyIsTooOdd: whatever comes is told by an error, and the opening goes on.
func TestNoReplyIsTooOdd(t *testing.T) {
	r := rand.New(rand.NewSource(16))
	for _, s := range suites() {
		w := example(s)
		o := w.begin(t)
		good := w.reply()
		for range 300 {
			b := make([]byte, r.Intn(100))
			r.Read(b)
			copy(b, good[:r.Intn(len(good))])
			if bytes.Equal(b, good) {
				continue
			}
			if c, e := o.Finish(b); e != api.ErrBytes && e != api.ErrTag || c != nil {
				t.Error(b, c, e)
			}
			// A hello may be any key's bytes: it holds just then.
			_, e := suite.ReadKey(s, b)
			_, _, fault := Answer(s, w.y, w.key(w.x), w.f, b)
			if (e == api.OK) != (fault == api.OK) || fault != api.OK && fault != api.ErrBytes {
				t.Error(b, e, fault)
			}
		}
		_, e := o.Finish(good)
		fine(t, e)
	}
}
