package wire

import (
	"bytes"
	"math"
	"reflect"
	"testing"

	"reliquary/api"
)

func TestIntIsEightBytes(t *testing.T) {
	for n, want := range map[int][]byte{
		0:                  {0, 0, 0, 0, 0, 0, 0, 0},
		1:                  {0, 0, 0, 0, 0, 0, 0, 1},
		258:                {0, 0, 0, 0, 0, 0, 1, 2},
		0x0102030405060708: {1, 2, 3, 4, 5, 6, 7, 8},
		1<<62 - 1:          {63, 255, 255, 255, 255, 255, 255, 255},
	} {
		b, e := Int(n)
		if e != api.OK || !bytes.Equal(b, want) {
			t.Error(n, b, e)
		}
		if back, e := ReadInt(want); e != api.OK || back != n {
			t.Error(want, back, e)
		}
	}
}

func TestIntOutOfBounds(t *testing.T) {
	for _, n := range []int{-1, 1 << 62, math.MaxInt, math.MinInt, -258} {
		if b, e := Int(n); e != api.ErrArg || b != nil {
			t.Error(n, b, e)
		}
	}
}

func TestReadIntOfOtherBytes(t *testing.T) {
	for _, b := range [][]byte{
		nil, {}, {1}, make([]byte, 7), make([]byte, 9), make([]byte, 16),
		{0, 0, 0, 0, 0, 0, 1}, {1, 2, 3, 4, 5, 6, 7}, {0, 0, 0, 0, 0, 0, 0, 1, 2},
		{64, 0, 0, 0, 0, 0, 0, 0}, {64, 0, 0, 0, 0, 0, 0, 5}, {128, 0, 0, 0, 0, 0, 0, 0},
		{128, 0, 0, 0, 0, 0, 0, 5}, {255, 255, 255, 255, 255, 255, 255, 255},
	} {
		if n, e := ReadInt(b); e != api.ErrBytes || n != 0 {
			t.Error(b, n, e)
		}
	}
}

func TestReadIntLooksAtNoSpareRoom(t *testing.T) {
	if _, e := ReadInt(make([]byte, 7, 8)); e != api.ErrBytes {
		t.Error(e)
	}
	if n, e := ReadInt([]byte{0, 0, 0, 0, 0, 0, 0, 5, 6}[:8]); n != 5 || e != api.OK {
		t.Error(n, e)
	}
}

func TestFieldsAsOneText(t *testing.T) {
	for _, l := range [][][]byte{
		nil, {}, {nil}, {{}}, {{7}, nil}, {nil, {7}}, {{0}, {0, 0}, {}}, {[]byte("abc"), []byte("d")},
		{make([]byte, 256)}, {make([]byte, 65536), {1}}, make([][]byte, 4096), make([][]byte, 300),
		{bytes.Repeat([]byte{9}, 1<<20-8)}, {make([]byte, 1<<19), make([]byte, 1<<19-12)},
	} {
		b, e := Fields(l)
		if e != api.OK || !bytes.Equal(b, fieldsByWords(l)) {
			t.Fatal(len(l), len(b), e)
		}
		back, e := ReadFields(b)
		if e != api.OK || len(back) != len(l) {
			t.Fatal(len(l), len(back), e)
		}
		for i := range l {
			if !bytes.Equal(back[i], l[i]) {
				t.Error(len(l), i, back[i])
			}
		}
	}
	if b, _ := Fields([][]byte{{7}, nil}); !bytes.Equal(b, []byte{0, 0, 0, 2, 0, 0, 0, 1, 7, 0, 0, 0, 0}) {
		t.Error(b)
	}
}

func TestFieldsTooManyOrTooLong(t *testing.T) {
	half := make([]byte, 1<<19)
	many := make([][]byte, 4096)
	for i := range many {
		many[i] = make([]byte, 252)
	}
	for i, l := range [][][]byte{
		make([][]byte, 4097), make([][]byte, 100000), {make([]byte, 1<<20-7)}, {make([]byte, 1<<20)},
		{half, half}, {half, half[:1<<19-11]}, {nil, make([]byte, 1<<20-11)}, many,
	} {
		if b, e := Fields(l); e != api.ErrLong || b != nil {
			t.Error(i, len(b), e)
		}
	}
	// Four bytes less of a field make room for the count.
	many[7] = many[7][4:]
	if b, e := Fields(many); len(b) != 1<<20 || e != api.OK {
		t.Error(len(b), e)
	}
}

func TestReadFieldsOfOtherBytes(t *testing.T) {
	of := func(n int, behind ...byte) []byte {
		return append([]byte{byte(n >> 24), byte(n >> 16), byte(n >> 8), byte(n)}, behind...)
	}
	many := make([]byte, 4*4098)
	copy(many, of(4097))
	long := append(append(of(1), of(1<<20-7)...), make([]byte, 1<<20-7)...)
	two := append(append(append(of(2), of(1<<20-8)...), make([]byte, 1<<20-8)...), of(0)...)
	for i, b := range [][]byte{
		nil, {}, {0}, {0, 0, 0}, {0, 0, 0, 0, 0}, of(1), of(1, 0, 0, 0), of(1, 0, 0, 0, 1), of(1, 0, 0, 0, 1, 7, 7),
		of(1, 0, 0, 0, 0, 0), of(2, 0, 0, 0, 0), of(-1), of(-1, 0, 0, 0, 0), of(1, 255, 255, 255, 255), of(1, 128, 0, 0, 0),
		of(1, 0, 16, 0, 0), of(math.MinInt32), many, many[:len(many)-4], long, two,
		of(2, 0, 0, 0, 1, 7, 0, 0, 0), of(2, 0, 0, 0, 2, 7, 0, 0, 0), of(4096),
	} {
		if l, e := ReadFields(b); e != api.ErrBytes || l != nil {
			t.Error(i, len(l), e)
		}
	}
}

// TestEachTextOfFieldsHasOneList: whatever is read is written as the same bytes.
func TestEachTextOfFieldsHasOneList(t *testing.T) {
	whole := fieldsByWords([][]byte{{7}, nil, {0, 0, 0, 1}, []byte("abc")})
	for n := range whole {
		if l, e := ReadFields(whole[:n]); e != api.ErrBytes || l != nil {
			t.Error(n, l, e)
		}
	}
	for x := range 256 {
		if l, e := ReadFields(append(bytes.Clone(whole), byte(x))); e != api.ErrBytes || l != nil {
			t.Error(x, l, e)
		}
	}
	read := 0
	for at := range whole {
		for x := range 256 {
			b := bytes.Clone(whole)
			b[at] = byte(x)
			l, e := ReadFields(b)
			switch e {
			case api.OK:
				read++
				if !bytes.Equal(fieldsByWords(l), b) {
					t.Error(at, x, l)
				}
			case api.ErrBytes:
			default:
				t.Error(at, x, e)
			}
		}
	}
	// The bytes of the fields may be any; some other lengths fit, too.
	if read < 8*256 {
		t.Error(read)
	}
}

func TestFieldsAreMemoryOfTheirOwn(t *testing.T) {
	room := []byte{1, 2, 3, 4}
	l := [][]byte{room[:2], room[1:3]}
	b := good[[]byte](t)(Fields(l))
	if !bytes.Equal(room, []byte{1, 2, 3, 4}) || len(l) != 2 {
		t.Error(room, l)
	}
	text := append(make([]byte, 0, 100), b...)
	back := good[[][]byte](t)(ReadFields(text))
	for i := range text[:cap(text)] {
		text[:cap(text)][i] = 99
	}
	if want := [][]byte{{1, 2}, {2, 3}}; !reflect.DeepEqual(back, want) {
		t.Error(back)
	}
	// What is put behind one field reaches no other one.
	_ = append(back[0], 77, 78, 79, 80, 81)
	if !bytes.Equal(back[1], []byte{2, 3}) {
		t.Error(back)
	}
	room[1] = 50
	if again := good[[][]byte](t)(ReadFields(b)); !bytes.Equal(again[0], []byte{1, 2}) {
		t.Error(again)
	}
}

func TestReadFieldsChangesNothing(t *testing.T) {
	room := append(fieldsByWords([][]byte{{7}, {8}}), 9, 9, 9, 9)
	was := bytes.Clone(room)
	l := good[[][]byte](t)(ReadFields(room[:len(room)-4]))
	l[1] = append(l[1], 5, 5, 5)
	l[0][0] = 3
	if !bytes.Equal(room, was) {
		t.Error(room)
	}
}
