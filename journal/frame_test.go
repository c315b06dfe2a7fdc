package journal

import (
	"bytes"
	"hash/crc32"
	"math/rand"
	"slices"
	"testing"

	"reliquary/api"
)

// reads looks whether bytes are read as these records, with a torn end behind them.
func reads(t *testing.T, b []byte, torn int, want ...[]byte) {
	t.Helper()
	l, n, e := Read(b)
	if e != api.OK || n != len(b)-torn || !sameLists(l, want) {
		t.Error(l, n, e, "not", want, len(b)-torn)
	}
}

// broken looks whether bytes are told to be broken, and nothing beside that.
func broken(t *testing.T, b []byte) {
	t.Helper()
	if l, n, e := Read(b); e != api.ErrBroken || l != nil || n != 0 {
		t.Error(l, n, e)
	}
}

func TestTheExamplesOfFrames(t *testing.T) {
	if Check([]byte("123456789")) != 0xCBF43926 || Check(nil) != 0 || Check([]byte{}) != 0 {
		t.Error(Check([]byte("123456789")), Check(nil))
	}
	f, e := Frame(nil)
	if e != api.OK || !bytes.Equal(f, []byte{0, 0, 0, 0, 33, 68, 223, 28, 0, 0, 0, 0}) {
		t.Error(f, e)
	}
	reads(t, append(f, 0, 0, 0), 3, nil)
	f[0] ^= 1
	broken(t, f)
	reads(t, nil, 0)
	reads(t, []byte{}, 0)
	reads(t, make([]byte, 7), 7)
	if f, e := Frame(make([]byte, 65537)); e != api.ErrLong || f != nil {
		t.Error(len(f), e)
	}
}

func TestCheckIsTheChapters(t *testing.T) {
	texts := [][]byte{message(65536), bytes.Repeat([]byte{255}, 100), make([]byte, 100)}
	for c := range 256 {
		texts = append(texts, []byte{byte(c)}, []byte{byte(c), 0}, []byte{0, byte(c)}, message(c))
	}
	for _, b := range texts {
		if got := Check(b); got != checkByWords(b) || got != crc32.ChecksumIEEE(b) {
			t.Errorf("%x %x", b[:min(len(b), 8)], got)
		}
	}
}

func TestTheTableIsGos(t *testing.T) {
	if newTable() != table(*crc32.IEEETable) {
		t.Error(newTable())
	}
}

func TestFrameOfAllLengths(t *testing.T) {
	for _, n := range []int{0, 1, 2, 3, 4, 7, 8, 12, 255, 256, 257, 4095, 4096, 65279, 65280, 65535, 65536} {
		b := message(n)
		f, e := Frame(b)
		if e != api.OK || !bytes.Equal(f, frameByWords(b)) {
			t.Error(n, e)
		}
		reads(t, f, 0, b)
	}
	for _, n := range []int{65537, 65538, 1 << 17, 1 << 20} {
		if f, e := Frame(make([]byte, n)); e != api.ErrLong || f != nil {
			t.Error(n, len(f), e)
		}
	}
}

func TestReadOfFramesOneBehindTheOther(t *testing.T) {
	long := message(65536)
	reads(t, logOf(nil, nil, nil), 0, nil, nil, nil)
	reads(t, logOf([]byte{1}, nil, []byte{2, 3}), 0, []byte{1}, nil, []byte{2, 3})
	reads(t, logOf(long, []byte{4}, long), 0, long, []byte{4}, long)
	// A record may have frames in it, and checks of its own.
	inner := logOf([]byte{1}, []byte{2})
	reads(t, logOf(inner, inner[:5]), 0, inner, inner[:5])
	var many [][]byte
	for i := range 5000 {
		many = append(many, four(uint32(i))[:i%5])
	}
	reads(t, logOf(many...), 0, many...)
}

// TestATornEnd: each beginning of one more frame, behind none, one and two.
func TestATornEnd(t *testing.T) {
	for _, records := range [][][]byte{nil, {{1, 2}}, {nil, message(300)}} {
		for _, more := range [][]byte{nil, {7}, message(20)} {
			f := frameByWords(more)
			for n := range len(f) {
				reads(t, append(logOf(records...), f[:n]...), n, records...)
			}
			reads(t, append(logOf(records...), f...), 0, append(slices.Clone(records), more)...)
		}
	}
	// The greatest record lacks its last byte, its check, all but its head.
	f := frameByWords(message(65536))
	for _, n := range []int{8, 9, 65543, 65544, 65545, 65547} {
		reads(t, f[:n], n)
	}
}

// TestATornEndOfAnything: fewer than eight bytes are not looked at, nor is a record
// that is not all there.
func TestATornEndOfAnything(t *testing.T) {
	for n := range 8 {
		for _, b := range [][]byte{make([]byte, n), bytes.Repeat([]byte{255}, n), message(n)} {
			reads(t, b, n)
			reads(t, append(logOf([]byte{5}), b...), n, []byte{5})
		}
	}
	f := frameByWords(message(20))
	for i := 8; i < len(f); i++ {
		f[i] ^= 255
	}
	for n := 8; n < len(f); n++ {
		reads(t, f[:n], n)
	}
	broken(t, f)
}

// TestALengthAboveTheBound is broken, though its check holds, and whether or not the
// frame is all there.
func TestALengthAboveTheBound(t *testing.T) {
	for _, n := range []uint32{65537, 65538, 1 << 17, 1<<31 - 1, 1 << 31, 1<<32 - 1, 1<<32 - 12, 1<<32 - 8} {
		head := append(four(n), four(checkByWords(four(n)))...)
		broken(t, head)
		broken(t, append(head, 1, 2, 3))
		broken(t, append(logOf([]byte{1}), head...))
	}
	broken(t, func() []byte {
		n, b := four(65537), message(65537)
		return slices.Concat(n, four(checkByWords(n)), b, four(checkByWords(b)))
	}())
	n := four(65536)
	reads(t, append(n, four(checkByWords(n))...), 8)
}

// TestAHeadIsBrokenAheadOfATornEnd: eight bytes are enough to tell.
func TestAHeadIsBrokenAheadOfATornEnd(t *testing.T) {
	f := frameByWords(message(20))
	for bit := range 64 {
		for n := 8; n <= len(f); n++ {
			b := bytes.Clone(f[:n])
			b[bit/8] ^= 1 << (bit % 8)
			broken(t, b)
		}
	}
	broken(t, make([]byte, 8))
	broken(t, bytes.Repeat([]byte{255}, 8))
}

// TestATurnedBitIsTold: each bit of each frame of a log, with and without a torn end.
func TestATurnedBitIsTold(t *testing.T) {
	whole := logOf(nil, []byte{1}, message(40), bytes.Repeat([]byte{0}, 9))
	for _, torn := range []int{0, 1, 5, 11} {
		b := append(bytes.Clone(whole), frameByWords(nil)[:torn]...)
		for bit := range 8 * len(whole) {
			b[bit/8] ^= 1 << (bit % 8)
			broken(t, b)
			b[bit/8] ^= 1 << (bit % 8)
		}
		reads(t, b, torn, nil, []byte{1}, message(40), make([]byte, 9))
	}
}

// TestATurnedBitOfAGreatFrame: at places all over it.
func TestATurnedBitOfAGreatFrame(t *testing.T) {
	f := frameByWords(message(65536))
	for bit := 0; bit < 8*len(f); bit += 4099 {
		f[bit/8] ^= 1 << (bit % 8)
		broken(t, f)
		f[bit/8] ^= 1 << (bit % 8)
	}
	reads(t, f, 0, message(65536))
}

// TestReadByChance holds Read against the chapter's words at logs of which bytes were
// changed, dropped or put in.
func TestReadByChance(t *testing.T) {
	seen := map[api.Errno]int{}
	for seed := range 20000 {
		r := rand.New(rand.NewSource(int64(seed)))
		var b []byte
		for range r.Intn(4) {
			b = append(b, frameByWords(message(r.Intn(12)))...)
		}
		for range r.Intn(3) {
			at := r.Intn(len(b) + 1)
			switch r.Intn(4) {
			case 0:
				b = b[:at]
			case 1:
				b = slices.Insert(b, at, byte(r.Intn(256)))
			case 2:
				b = append(b, message(r.Intn(20))...)
			case 3:
				b = slices.Delete(b, at, min(at+1, len(b)))
			}
		}
		l, n, e := Read(b)
		want, size, fault := readByWords(b)
		if e != fault || n != size || !sameLists(l, want) {
			t.Fatal(seed, b, l, n, e, "not", want, size, fault)
		}
		seen[e]++
	}
	if seen[api.OK] < 1000 || seen[api.ErrBroken] < 1000 {
		t.Error(seen)
	}
}

// TestFramesHaveMemoryOfTheirOwn: nothing that was handed in is changed or shared, its
// spare room neither read nor written, and no two records share any.
func TestFramesHaveMemoryOfTheirOwn(t *testing.T) {
	room := message(40)
	f, _ := Frame(room[:2])
	if !bytes.Equal(f, frameByWords(room[:2])) {
		t.Error(f)
	}
	for i := range f[:cap(f)] {
		f[:cap(f)][i] = 77
	}
	Check(room[:3])
	if !bytes.Equal(room, message(40)) {
		t.Error(room)
	}
	whole := logOf(nil, []byte{1, 2}, nil, []byte{3}, message(50))
	b := append(bytes.Clone(whole), 9, 9, 9, 9)
	l, _, _ := Read(b[:len(whole)])
	for i, one := range l {
		was := bytes.Clone(one)
		for k := range one[:cap(one)] {
			one[:cap(one)][k] = 77
		}
		if !bytes.Equal(b[:len(whole)], whole) {
			t.Fatal(i, "of the caller's memory")
		}
		copy(one, was)
	}
	clear(b)
	if !sameLists(l, [][]byte{nil, {1, 2}, nil, {3}, message(50)}) {
		t.Error(l)
	}
	// A frame that goes on in the spare room is not all there.
	reads(t, whole[:len(whole)-1], 61, nil, []byte{1, 2}, nil, []byte{3})
}
