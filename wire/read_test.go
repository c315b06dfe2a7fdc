package wire

import (
	"bytes"
	"encoding/binary"
	"reflect"
	"slices"
	"testing"

	"reliquary/api"
	"reliquary/suite"
	"reliquary/words"
)

// notRead looks whether bytes are refused.
func notRead(t *testing.T, name string, b []byte) {
	t.Helper()
	if e, f := ReadEntry(b); f != api.ErrBytes || !reflect.DeepEqual(e, api.Entry{}) {
		t.Error(name, e, f)
	}
}

// parts tells an entry's bytes in pieces, of which a test may change one: the numbers
// and names, the text, the Ints, the suite, the Nums, the Keys, the Sigs.
func parts() [][]byte {
	return [][]byte{{1, 2}, {0}, {0}, {0}, {0, 0}, {0}, {0}, {0}, {0}, {0}}
}

const (
	atWho = iota + 1
	atTenant
	atName
	atText
	atInts
	atSuite
	atNums
	atKeys
	atSigs
)

// with tells the bytes with some pieces changed.
func with(change map[int][]byte) []byte {
	l := parts()
	for at, b := range change {
		l[at] = b
	}
	return slices.Concat(l...)
}

// listed tells a piece: a count of so many bytes ahead of bytes.
func listed(n int, size int, l ...[]byte) []byte {
	ahead := binary.BigEndian.AppendUint32(nil, uint32(n))[4-size:]
	return append(ahead, slices.Concat(l...)...)
}

func TestPiecesAreRead(t *testing.T) {
	for i, b := range [][]byte{
		with(nil), with(map[int][]byte{atWho: listed(64, 1, make([]byte, 64))}),
		with(map[int][]byte{atText: listed(4096, 2, make([]byte, 4096))}),
		with(map[int][]byte{atInts: listed(16, 1, make([]byte, 64))}),
		with(map[int][]byte{atInts: {1, 127, 255, 255, 255}}),
		with(map[int][]byte{atSuite: {2}, atNums: listed(64, 1, make([]byte, 512))}),
	} {
		e, f := ReadEntry(b)
		if f != api.OK {
			t.Error(i, f)
		}
		if again, f := Entry(e); f != api.OK || !bytes.Equal(again, b) {
			t.Error(i, again, f)
		}
	}
}

func TestBytesOfEntriesThatMayNotBe(t *testing.T) {
	for name, change := range map[string]map[int][]byte{
		"Who of 65":       {atWho: listed(65, 1, make([]byte, 65))},
		"Tenant of 65":    {atTenant: listed(65, 1, make([]byte, 65))},
		"Name of 65":      {atName: listed(65, 1, make([]byte, 65))},
		"Name of 255":     {atName: listed(255, 1, make([]byte, 255))},
		"Text of 4097":    {atText: listed(4097, 2, make([]byte, 4097))},
		"Text of 65535":   {atText: listed(65535, 2, make([]byte, 65535))},
		"17 Ints":         {atInts: listed(17, 1, make([]byte, 68))},
		"255 Ints":        {atInts: listed(255, 1, make([]byte, 1020))},
		"an Int of 2^31":  {atInts: {1, 128, 0, 0, 0}},
		"an Int of most":  {atInts: {2, 0, 0, 0, 0, 255, 255, 255, 255}},
		"Suite 3":         {atSuite: {3}},
		"Suite 255":       {atSuite: {255}},
		"65 Nums":         {atSuite: {1}, atNums: listed(65, 1, make([]byte, 520))},
		"65 great Nums":   {atNums: listed(65, 1, make([]byte, 65*32))},
		"Nums of 32":      {atSuite: {1}, atNums: listed(1, 1, make([]byte, 32))},
		"great Nums of 8": {atNums: listed(1, 1, make([]byte, 8))},
		"no key":          {atKeys: listed(1, 1, make([]byte, 48))},
		"no little key":   {atSuite: {1}, atKeys: listed(1, 1, make([]byte, 17))},
		"no sig":          {atSigs: listed(1, 1, make([]byte, 96))},
		"no middle sig":   {atSuite: {2}, atSigs: listed(1, 1, make([]byte, 17))},
		"a Text's length": {atText: {0, 1}},
		"a Who's length":  {atWho: {9}},
		"Sigs not there":  {atSigs: {1}},
		"Sigs not told":   {atSigs: nil},
	} {
		notRead(t, name, with(change))
	}
	notRead(t, "nil", nil)
	notRead(t, "nothing", []byte{})
	notRead(t, "noughts", make([]byte, 11))
}

func TestTooManyPointsAreNotRead(t *testing.T) {
	for _, s := range []api.Suite{api.Little, api.Middle} {
		b := good[[]byte](t)(suite.KeyBytes(keyOf(t, s, 3)))
		for n, want := range map[int]api.Errno{64: api.OK, 65: api.ErrBytes} {
			many := listed(n, 1, bytes.Repeat(b, n))
			for _, at := range []int{atKeys, atSigs} {
				if _, f := ReadEntry(with(map[int][]byte{atSuite: {byte(s)}, at: many})); f != want {
					t.Error(s, n, at, f)
				}
			}
		}
	}
}

func TestScalarsFromTheOrderOnAreNotRead(t *testing.T) {
	for _, s := range suites() {
		order := good[api.Num](t)(suite.Order(s))
		above, _ := words.Add(order, words.Of(1))
		for _, n := range []api.Num{order, above} {
			notRead(t, "above", with(map[int][]byte{atSuite: {byte(s)}, atNums: append([]byte{1}, scalarByWords(s, n)...)}))
		}
		top := append([]byte{1}, bytes.Repeat([]byte{255}, len(scalarByWords(s, order)))...)
		notRead(t, "top", with(map[int][]byte{atSuite: {byte(s)}, atNums: top}))
		e, f := ReadEntry(with(map[int][]byte{atSuite: {byte(s)}, atNums: append([]byte{1}, scalarByWords(s, last(t, s))...)}))
		if f != api.OK || len(e.Nums) != 1 || e.Nums[0] != last(t, s) {
			t.Error(s, e, f)
		}
	}
}

// TestPointsOutsideTheGroup: of the great curve, but not of the group.
func TestPointsOutsideTheGroup(t *testing.T) {
	b := make([]byte, 48)
	b[0] = 0x80
	notRead(t, "outside", with(map[int][]byte{atKeys: append([]byte{1}, b...)}))
}

func TestOneByteLessOrMore(t *testing.T) {
	for _, s := range suites() {
		b := good[[]byte](t)(Entry(entryOf(t, s)))
		step := 1
		if s == api.Great {
			step = 7 // points of the great suite take their time
		}
		for n := 0; n < len(b); n += step {
			notRead(t, "less", b[:n])
		}
		notRead(t, "one less", b[:len(b)-1])
		for _, x := range []byte{0, 1, 97, 255} {
			notRead(t, "one more", append(bytes.Clone(b), x))
		}
	}
}

// TestEachTextHasOneEntry turns the bytes of a text: what is read then is written as the
// same bytes.
func TestEachTextHasOneEntry(t *testing.T) {
	for _, s := range []api.Suite{api.Little, api.Middle} {
		whole := good[[]byte](t)(Entry(entryOf(t, s)))
		unlike := 0
		for at := range whole {
			for x := range 256 {
				b := bytes.Clone(whole)
				b[at] = byte(x)
				e, f := ReadEntry(b)
				if f != api.OK {
					if f != api.ErrBytes || !reflect.DeepEqual(e, api.Entry{}) {
						t.Fatal(at, x, e, f)
					}
					continue
				}
				unlike++
				again, f := Entry(e)
				if f != api.OK || !bytes.Equal(again, b) || Check(e) != api.OK {
					t.Fatal(at, x, e, f)
				}
			}
		}
		// Kind, Node, names, text: any byte there makes another entry.
		if unlike < 256*(2+3+8+2+4) {
			t.Error(s, unlike)
		}
	}
}

func TestGreatTextsTurned(t *testing.T) {
	whole := good[[]byte](t)(Entry(entryOf(t, api.Great)))
	for at := 0; at < len(whole); at += 3 {
		b := bytes.Clone(whole)
		b[at] ^= byte(1 << (at % 8))
		e, f := ReadEntry(b)
		if f != api.OK {
			notRead(t, "turned", b)
			continue
		}
		if again, f := Entry(e); f != api.OK || !bytes.Equal(again, b) {
			t.Error(at, again, f)
		}
	}
}

func TestReadEntryIsMemoryOfItsOwn(t *testing.T) {
	e := entryOf(t, api.Middle)
	b := append(make([]byte, 0, 1000), good[[]byte](t)(Entry(e))...)
	was := bytes.Clone(b[:cap(b)])
	back := good[api.Entry](t)(ReadEntry(b))
	if !bytes.Equal(was, b[:cap(b)]) {
		t.Error("the bytes were changed")
	}
	for i := range b[:cap(b)] {
		b[:cap(b)][i] = 77
	}
	if !Same(back, e) {
		t.Error(back)
	}
}

func TestReadEntryLooksAtNoSpareRoom(t *testing.T) {
	b := good[[]byte](t)(Entry(entryOf(t, api.Little)))
	notRead(t, "spare room", b[:len(b)-1])
	if _, f := ReadEntry(append(b, 1, 2, 3)[:len(b)]); f != api.OK {
		t.Error(f)
	}
}
