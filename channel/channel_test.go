package channel

import (
	"bytes"
	"math/rand"
	"testing"

	"reliquary/api"
)

// TestEachMessage: byte by byte as the chapter says it, past the ends of epochs.
func TestEachMessage(t *testing.T) {
	for _, s := range []api.Suite{api.Little, api.Great} {
		w := example(s)
		a, b := w.both(t)
		begins, answers := w.keys()
		for n := uint64(1); n <= 800; n++ {
			plain, more := text(int(n%70)), text(int(n%33))
			m, e := a.Seal(plain, more)
			is(t, m, e, message(begins, n, plain, more), api.OK)
			got, e := b.Open(m, more)
			is(t, got, e, plain, api.OK)
			m, e = b.Seal(plain, more)
			is(t, m, e, message(answers, n+1, plain, more), api.OK)
			got, e = a.Open(m, more)
			is(t, got, e, plain, api.OK)
			has(t, a, int(n), int(n)+1)
			has(t, b, int(n)+1, int(n))
		}
	}
}

// TestEpochs: a message under the key of the epoch beside its own is not opened.
func TestEpochs(t *testing.T) {
	w := example(api.Little)
	begins, _ := w.keys()
	for _, c := range []struct{ n, epoch uint64 }{
		{1, 0}, {255, 0}, {256, 0}, {257, 1}, {512, 1}, {513, 2}, {65536, 255}, {65537, 256},
		{1<<30 - 256, 1<<22 - 2}, {1<<30 - 255, 1<<22 - 1}, {1 << 30, 1<<22 - 1},
	} {
		b := w.answer(t)
		for _, other := range []uint64{c.epoch + 1, c.epoch - 1, c.n} {
			got, e := b.Open(inEpoch(begins, other, c.n, []byte("abc"), nil), nil)
			refuses(t, got, e, api.ErrTag)
		}
		has(t, b, 1, 0)
		got, e := b.Open(inEpoch(begins, c.epoch, c.n, []byte("abc"), nil), nil)
		is(t, got, e, []byte("abc"), api.OK)
		has(t, b, 1, int(c.n))
	}
}

// TestLongMessages: at the last byte that there may be, and one behind it.
func TestLongMessages(t *testing.T) {
	a, b := example(api.Little).both(t)
	full, long := text(131072), text(131073)
	for _, c := range []struct{ text, more []byte }{{long, nil}, {nil, long}, {long, long}, {full, long}, {long, full}, {text(1 << 21), nil}} {
		m, e := a.Seal(c.text, c.more)
		refuses(t, m, e, api.ErrLong)
	}
	has(t, a, 0, 1)
	for _, c := range []struct{ text, more []byte }{{full, nil}, {nil, full}, {full, full}, {text(131071), text(131071)}} {
		m, e := a.Seal(c.text, c.more)
		fine(t, e)
		got, e := b.Open(append(bytes.Clone(m), make([]byte, 131097-len(m))...), c.more)
		refuses(t, got, e, api.ErrLong)
		got, e = b.Open(m, long)
		refuses(t, got, e, api.ErrLong)
		got, e = b.Open(m, c.more)
		is(t, got, e, c.text, api.OK)
	}
	has(t, a, 4, 1)
	has(t, b, 1, 4)
	// Ahead of what else is wrong: no message, one that was there.
	for _, m := range [][]byte{nil, make([]byte, 23), eight(0), append(eight(1), make([]byte, 16)...)} {
		got, e := b.Open(m, long)
		refuses(t, got, e, api.ErrLong)
	}
	for _, n := range []uint64{0, 1, 4, 5, 1<<30 + 1} {
		got, e := b.Open(append(eight(n), make([]byte, 131089)...), nil)
		refuses(t, got, e, api.ErrLong)
	}
	got, e := b.Open(append(eight(5), make([]byte, 131088)...), full)
	refuses(t, got, e, api.ErrTag)
}

func TestWhatIsNoMessage(t *testing.T) {
	w := example(api.Little)
	a, b := w.both(t)
	begins, _ := w.keys()
	m, e := a.Seal(nil, nil)
	fine(t, e)
	if len(m) != 24 {
		t.Error(len(m))
	}
	for n := range 24 {
		got, e := b.Open(m[:n:n], nil)
		refuses(t, got, e, api.ErrBytes)
		got, e = b.Open(m[:n], nil) // the rest stands in spare room
		refuses(t, got, e, api.ErrBytes)
	}
	// Well sealed, but of numbers that are none.
	for _, n := range []uint64{0, 1<<30 + 1, 1<<30 + 2, 1 << 31, 1<<32 + 1, 1<<62 - 1, 1 << 62, 1<<62 + 1, 1 << 63, 1<<63 + 1, 1<<64 - 1} {
		got, e := b.Open(message(begins, n, []byte("abc"), nil), nil)
		refuses(t, got, e, api.ErrBytes)
	}
	has(t, b, 1, 0)
	got, e := b.Open(m, nil)
	is(t, got, e, nil, api.OK)
	// Told ahead of ErrThere.
	got, e = b.Open(m[:23], nil)
	refuses(t, got, e, api.ErrBytes)
}

// TestMessagesThatAreNotOpened: nothing of the channel is other than it was.
func TestMessagesThatAreNotOpened(t *testing.T) {
	w := example(api.Little)
	a, b := w.both(t)
	begins, answers := w.keys()
	m, e := a.Seal([]byte("abc"), []byte{1})
	fine(t, e)
	second, e := b.Seal([]byte("abc"), []byte{1})
	fine(t, e)
	for i := 64; i < 8*len(m); i++ {
		got, e := b.Open(turned(m, i), []byte{1})
		refuses(t, got, e, api.ErrTag)
	}
	for n := 24; n < len(m); n++ {
		got, e := b.Open(m[:n], []byte{1})
		refuses(t, got, e, api.ErrTag)
	}
	for _, bad := range [][]byte{
		append(bytes.Clone(m), 0),
		append(eight(2), m[8:]...), append(eight(1<<30), m[8:]...), // another number over it
		message(answers, 1, []byte("abc"), []byte{1}), message(answers, 5, []byte("abc"), []byte{1}),
		second, // its own
		append(eight(1), sealed(begins, append(make([]byte, 4), eight(1)...), []byte("abc"), []byte{1})...),
		append(eight(1), make([]byte, 16)...),
	} {
		got, e := b.Open(bad, []byte{1})
		refuses(t, got, e, api.ErrTag)
	}
	for _, more := range [][]byte{nil, {2}, {1, 0}, m} {
		got, e := b.Open(m, more)
		refuses(t, got, e, api.ErrTag)
	}
	has(t, b, 2, 0)
	got, e := b.Open(m, []byte{1})
	is(t, got, e, []byte("abc"), api.OK)
	// Who began does not open what it sealed, and has no message 1 to open any more.
	got, e = a.Open(m, []byte{1})
	refuses(t, got, e, api.ErrThere)
	m, e = a.Seal([]byte("abc"), nil)
	fine(t, e)
	got, e = a.Open(m, nil)
	refuses(t, got, e, api.ErrTag)
	has(t, a, 2, 1)
	got, e = a.Open(second, []byte{1})
	is(t, got, e, []byte("abc"), api.OK)
}

// TestTheReplyIsOpenedOnce: its message is the first one of who answers.
func TestTheReplyIsOpenedOnce(t *testing.T) {
	for _, s := range suites() {
		w := example(s)
		a, b := w.both(t)
		first := w.reply()[len(w.hello()):]
		got, e := a.Open(first, w.hello())
		refuses(t, got, e, api.ErrThere)
		has(t, a, 0, 1)
		// For as long as the window shows it.
		for n := 2; n <= 70; n++ {
			m, e := b.Seal(nil, nil)
			fine(t, e)
			got, e = a.Open(m, nil)
			is(t, got, e, nil, api.OK)
			got, e = a.Open(first, w.hello())
			refuses(t, got, e, api.ErrThere)
		}
	}
}

// TestThereAheadOfTheTag: what may not come is not looked at.
func TestThereAheadOfTheTag(t *testing.T) {
	w := example(api.Little)
	b := w.answer(t)
	begins, _ := w.keys()
	got, e := b.Open(message(begins, 100, nil, nil), nil)
	is(t, got, e, nil, api.OK)
	for n := uint64(1); n <= 101; n++ {
		want := api.ErrThere
		if n > 36 && n != 100 {
			want = api.ErrTag
		}
		got, e := b.Open(append(eight(n), make([]byte, 16)...), nil)
		refuses(t, got, e, want)
	}
	has(t, b, 1, 100)
}

// TestTheWindow: a far message, and behind it each one that may come, once, from both
// ends.
func TestTheWindow(t *testing.T) {
	w := example(api.Little)
	begins, _ := w.keys()
	for _, high := range []uint64{1, 2, 63, 64, 65, 66, 127, 128, 129, 256, 300, 1<<30 - 1, 1 << 30} {
		for _, rising := range []bool{true, false} {
			b := w.answer(t)
			open := func(n uint64, want api.Errno) {
				t.Helper()
				plain := eight(n)
				if want != api.OK {
					plain = nil
				}
				got, e := b.Open(message(begins, n, eight(n), nil), nil)
				is(t, got, e, plain, want)
				has(t, b, 1, int(high))
			}
			open(high, api.OK)
			low := uint64(1)
			if high > 64 {
				low = high - 63
			}
			for i := range high - low {
				n := low + i
				if !rising {
					n = high - 1 - i
				}
				open(n, api.OK)
				open(n, api.ErrThere)
			}
			for n := low; n <= high; n++ {
				open(n, api.ErrThere)
			}
			for n := low - 1; n > 0 && n+5 > low; n-- {
				open(n, api.ErrThere)
			}
			if high > 64 {
				open(1, api.ErrThere)
			}
		}
	}
}

// TestTheWindowMoves: by each step, with every third message opened ahead.
func TestTheWindowMoves(t *testing.T) {
	w := example(api.Little)
	begins, _ := w.keys()
	for step := uint64(1); step <= 140; step++ {
		b := w.answer(t)
		opened := map[uint64]bool{}
		open := func(n, highest uint64) {
			t.Helper()
			may := n > highest || n+64 > highest && !opened[n]
			want, plain := api.ErrThere, []byte(nil)
			if may {
				want, plain, opened[n] = api.OK, eight(n), true
			}
			got, e := b.Open(message(begins, n, eight(n), nil), nil)
			is(t, got, e, plain, want)
		}
		for n := uint64(1); n <= 100; n += 3 {
			open(n, max(n, 3)-3)
		}
		open(100+step, 100)
		for n := uint64(1); n <= 100+step; n++ {
			open(n, 100+step)
		}
		has(t, b, 1, 100+int(step))
	}
}

// TestTheLastMessage: as many as may be sealed, and one more.
func TestTheLastMessage(t *testing.T) {
	w := example(api.Little)
	a, b := w.both(t)
	begins, _ := w.keys()
	// Nobody seals so many ahead; the number is all that tells.
	a.out.highest = 1<<30 - 2
	for n := uint64(1<<30 - 1); n <= 1<<30; n++ {
		m, e := a.Seal([]byte("abc"), []byte{1})
		is(t, m, e, message(begins, n, []byte("abc"), []byte{1}), api.OK)
		got, e := b.Open(m, []byte{1})
		is(t, got, e, []byte("abc"), api.OK)
		has(t, a, int(n), 1)
		has(t, b, 1, int(n))
	}
	for _, c := range []struct {
		text, more []byte
		e          api.Errno
	}{{nil, nil, api.ErrFull}, {text(131072), text(131072), api.ErrFull}, {text(131073), nil, api.ErrLong}, {nil, text(131073), api.ErrLong}} {
		m, e := a.Seal(c.text, c.more)
		refuses(t, m, e, c.e)
		has(t, a, 1<<30, 1)
	}
	// The other way is as it was.
	m, e := b.Seal([]byte("back"), nil)
	fine(t, e)
	got, e := a.Open(m, nil)
	is(t, got, e, []byte("back"), api.OK)
}

func TestChannelsThatNobodyMade(t *testing.T) {
	m := example(api.Little).reply()[17:]
	for _, c := range []*Channel{nil, {}, new(Channel)} {
		for _, b := range [][]byte{nil, m, text(1 << 18)} {
			got, e := c.Seal(b, b)
			refuses(t, got, e, api.ErrNil)
			got, e = c.Open(b, b)
			refuses(t, got, e, api.ErrNil)
		}
		has(t, c, 0, 0)
	}
}

// TestNoMessageIsTooOdd: whatever comes, the channel is as it was.
func TestNoMessageIsTooOdd(t *testing.T) {
	w := example(api.Little)
	b := w.answer(t)
	begins, _ := w.keys()
	good := message(begins, 70, []byte("abc"), nil)
	got, e := b.Open(good, nil)
	is(t, got, e, []byte("abc"), api.OK)
	r := rand.New(rand.NewSource(17))
	for range 3000 {
		m := make([]byte, r.Intn(60))
		r.Read(m)
		copy(m, make([]byte, r.Intn(9)))
		got, e := b.Open(m, m)
		if e != api.ErrBytes && e != api.ErrThere && e != api.ErrTag || got != nil {
			t.Error(m, got, e)
		}
	}
	has(t, b, 1, 70)
	for n := uint64(7); n < 70; n++ {
		got, e := b.Open(message(begins, n, eight(n), nil), nil)
		is(t, got, e, eight(n), api.OK)
	}
}
