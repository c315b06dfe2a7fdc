package channel

import (
	"bytes"
	"testing"

	"reliquary/api"
	"reliquary/words"
)

// hasKey looks at a key and an error.
func hasKey(t *testing.T, name string, got api.Key, e api.Errno, want api.Key, fault api.Errno) {
	t.Helper()
	if got != want || e != fault {
		t.Error(name, got, e, "not", want, fault)
	}
}

// secrets are some of a suite, the least and the greatest among them.
func secrets(s api.Suite) []api.Num {
	return []api.Num{words.Of(1), words.Of(2), words.Of(5), under(s, 2), under(s, 1)}
}

func TestKey(t *testing.T) {
	for _, s := range suites() {
		for _, n := range secrets(s) {
			k, e := Key(s, n)
			hasKey(t, "", k, e, keyOf(s, n), api.OK)
		}
		for _, n := range notSecrets(s) {
			k, e := Key(s, n)
			hasKey(t, words.Text(n), k, e, api.Key{}, api.ErrArg)
		}
	}
	for _, s := range notSuites() {
		for _, n := range []api.Num{{}, words.Of(1), words.Of(5)} {
			k, e := Key(s, n)
			hasKey(t, "no suite", k, e, api.Key{}, api.ErrArg)
		}
	}
	// A secret of one suite, and none of another.
	k, e := Key(api.Middle, words.Of(65521))
	hasKey(t, "", k, e, keyOf(api.Middle, words.Of(65521)), api.OK)
}

func TestPoint(t *testing.T) {
	for _, s := range suites() {
		for _, n := range secrets(s) {
			for _, m := range secrets(s)[2:] {
				k, e := Point(n, keyOf(s, m))
				hasKey(t, "", k, e, times(n, keyOf(s, m)), api.OK)
				back, e := Point(m, keyOf(s, n))
				hasKey(t, "of the other side", back, e, k, api.OK)
			}
		}
		for _, n := range notSecrets(s) {
			k, e := Point(n, keyOf(s, words.Of(7)))
			hasKey(t, words.Text(n), k, e, api.Key{}, api.ErrArg)
		}
		// Whatever the secret: the point's error is ahead.
		for _, n := range append(notSecrets(s), words.Of(5)) {
			k, e := Point(n, zeroOf(s))
			hasKey(t, "the zero", k, e, api.Key{}, api.ErrPoint)
		}
	}
	for name, bad := range notKeys() {
		for _, n := range append(notSecrets(api.Great), words.Of(5)) {
			k, e := Point(n, bad)
			hasKey(t, name, k, e, api.Key{}, api.ErrPoint)
		}
	}
}

// TestBoxes: texts of all kinds of lengths, opened by who has the other secret.
func TestBoxes(t *testing.T) {
	for _, s := range suites() {
		x, y := words.Of(5), under(s, 7)
		ours, e := Point(x, keyOf(s, y))
		fine(t, e)
		theirs, e := Point(y, keyOf(s, x))
		fine(t, e)
		for _, n := range []int{0, 1, 15, 16, 17, 63, 64, 65, 1000, 131071, 131072} {
			for _, more := range [][]byte{nil, {1}, text(131072)} {
				b, e := SealPoint(ours, text(n), more)
				is(t, b, e, box(ours, text(n), more), api.OK)
				b, e = OpenPoint(theirs, b, more)
				is(t, b, e, text(n), api.OK)
			}
		}
	}
}

func TestBoxesThatAreNotOpened(t *testing.T) {
	p := keyOf(api.Little, words.Of(35))
	b, e := SealPoint(p, []byte("abc"), []byte{1})
	fine(t, e)
	for i := range 8 * len(b) {
		got, e := OpenPoint(p, turned(b, i), []byte{1})
		refuses(t, got, e, api.ErrTag)
	}
	for n := range len(b) {
		got, e := OpenPoint(p, b[:n], []byte{1})
		refuses(t, got, e, api.ErrTag)
	}
	for _, more := range [][]byte{nil, {2}, {1, 0}} {
		got, e := OpenPoint(p, b, more)
		refuses(t, got, e, api.ErrTag)
	}
	for _, other := range []api.Key{keyOf(api.Little, words.Of(34)), keyOf(api.Middle, words.Of(35)), zeroOf(api.Little)} {
		got, e := OpenPoint(other, b, []byte{1})
		refuses(t, got, e, api.ErrTag)
	}
	got, e := OpenPoint(p, append(bytes.Clone(b), 0), []byte{1})
	refuses(t, got, e, api.ErrTag)
	got, e = OpenPoint(p, text(131088), text(131072))
	refuses(t, got, e, api.ErrTag)
	// A message of a channel is no box, nor the other way about.
	_, answers := example(api.Little).keys()
	got, e = OpenPoint(p, message(answers, 1, nil, nil), nil)
	refuses(t, got, e, api.ErrTag)
}

func TestBoxesThatAreRefused(t *testing.T) {
	p := keyOf(api.Little, words.Of(35))
	long := text(131073)
	for _, c := range []struct{ text, more []byte }{{long, nil}, {nil, long}, {long, long}, {text(131072), long}, {text(1 << 21), nil}} {
		b, e := SealPoint(p, c.text, c.more)
		refuses(t, b, e, api.ErrLong)
	}
	for _, c := range []struct{ b, more []byte }{{text(131089), nil}, {nil, long}, {text(131088), long}, {text(1 << 21), nil}} {
		b, e := OpenPoint(p, c.b, c.more)
		refuses(t, b, e, api.ErrLong)
	}
	for name, bad := range notKeys() {
		for _, b := range [][]byte{nil, []byte("abc"), text(1 << 18)} {
			for _, more := range [][]byte{nil, long} {
				t.Run(name, func(t *testing.T) {
					got, e := SealPoint(bad, b, more)
					refuses(t, got, e, api.ErrPoint)
					got, e = OpenPoint(bad, b, more)
					refuses(t, got, e, api.ErrPoint)
				})
			}
		}
	}
}
