package digest

import (
	"bytes"
	"crypto/sha256"
	"math/rand"
	"strings"
	"testing"

	"reliquary/api"
)

// message is n bytes that look like chance, the same ones each time.
func message(n int) []byte {
	b := make([]byte, n)
	rand.New(rand.NewSource(int64(n))).Read(b)
	return b
}

// written is a hash of those pieces.
func written(t *testing.T, pieces ...[]byte) *Hash {
	t.Helper()
	h := New()
	for _, p := range pieces {
		if e := h.Write(p); e != api.OK {
			t.Fatal("Write", e)
		}
	}
	return h
}

// strange are hashes that this package did not make.
func strange() map[string]*Hash {
	return map[string]*Hash{"nil": nil, "new(Hash)": new(Hash), "&Hash{}": {}}
}

// P8.1: Sum

func TestSumOfKnownMessages(t *testing.T) {
	for _, c := range []struct{ message, want string }{
		{"", "e3b0c44298fc1c149afbf4c8996fb92427ae41e4649b934ca495991b7852b855"},
		{"abc", "ba7816bf8f01cfea414140de5dae2223b00361a396177a9cb410ff61f20015ad"},
		{"abcdbcdecdefdefgefghfghighijhijkijkljklmklmnlmnomnopnopq", "248d6a61d20638b8e5c026930c3e6039a33ce45964ff2167f6ecedd419db06c1"},
		{"abcdefghbcdefghicdefghijdefghijkefghijklfghijklmghijklmnhijklmnoijklmnopjklmnopqklmnopqrlmnopqrsmnopqrstnopqrstu", "cf5b16a778af8380036ce59e7b0492370b249b11e8f07a51afac45037afee9d1"},
		{strings.Repeat("a", 1000000), "cdc76e5c9914fb9281a1c7e284d73e67f1809a48a497200e046d39ccc7112cd0"},
	} {
		if got := Text(Sum([]byte(c.message))); got != c.want {
			t.Errorf("Sum of %.20q is %s", c.message, got)
		}
	}
}

func TestSumIsThatOfTheStandard(t *testing.T) {
	for n := range 400 { // all the ways in which a last block may be filled, several times
		if b := message(n); Sum(b) != sha256.Sum256(b) {
			t.Errorf("Sum of %d bytes", n)
		}
	}
	for _, n := range []int{4095, 4096, 4097, 65536, 1<<20 + 55, 1<<20 + 56} {
		if b := message(n); Sum(b) != sha256.Sum256(b) {
			t.Errorf("Sum of %d bytes", n)
		}
	}
}

func TestSumIsThatOfTheChapter(t *testing.T) {
	for n := range 200 {
		if b := message(n); Sum(b) != slow(b) {
			t.Errorf("Sum of %d bytes", n)
		}
	}
}

func TestSumOfNilIsThatOfNothing(t *testing.T) {
	if Sum(nil) != Sum([]byte{}) || Sum(nil) != sha256.Sum256(nil) {
		t.Error("Sum(nil)")
	}
}

func TestSumTellsMessagesApart(t *testing.T) {
	b := message(130)
	whole := Sum(b)
	for i := range 8 * len(b) {
		b[i/8] ^= 1 << (i % 8)
		if Sum(b) == whole {
			t.Errorf("bit %d", i)
		}
		b[i/8] ^= 1 << (i % 8)
	}
}

// P8.1: New, Write, Sum of a hash, Len

func TestNewIsOfNoBytes(t *testing.T) {
	h := New()
	if h == nil || h.Len() != 0 || h.Sum() != Sum(nil) {
		t.Error("New")
	}
	if h.Write([]byte{1}); New().Len() != 0 || New().Sum() != Sum(nil) {
		t.Error("New after a Write to another one")
	}
}

func TestWriteOfTheExample(t *testing.T) {
	h := written(t, []byte("a"), []byte("bc"))
	if h.Sum() != Sum([]byte("abc")) || h.Len() != 3 {
		t.Error(Text(h.Sum()), h.Len())
	}
}

func TestWriteOfNothingChangesNothing(t *testing.T) {
	for _, n := range []int{0, 1, 55, 56, 63, 64, 65} {
		b := message(n)
		h := written(t, nil, b, nil, []byte{})
		if h.Sum() != Sum(b) || h.Len() != n {
			t.Errorf("%d bytes: %d", n, h.Len())
		}
	}
}

func TestSumOfAHashChangesNothing(t *testing.T) {
	b := message(260)
	h := New()
	for i := range b {
		if first, second := h.Sum(), h.Sum(); first != second || first != Sum(b[:i]) {
			t.Errorf("%d bytes", i)
		}
		if h.Len() != i {
			t.Errorf("Len is %d of %d", h.Len(), i)
		}
		if e := h.Write(b[i : i+1]); e != api.OK {
			t.Fatal(e)
		}
	}
	if h.Sum() != Sum(b) || h.Len() != len(b) {
		t.Error("at the end")
	}
}

func TestLengthIsTakenModulo(t *testing.T) {
	h := New()
	h.count = 1 << 61 // as many bytes: 2^64 bits
	if h.Sum() != Sum(nil) {
		t.Error("2^64 bits are not told as 0")
	}
}

// P8.1: Clone

func TestCloneGoesOnByItself(t *testing.T) {
	for _, n := range []int{0, 1, 55, 63, 64, 65, 130} {
		b := message(n)
		h := written(t, b)
		c := h.Clone()
		if c == nil || c == h || c.Sum() != Sum(b) || c.Len() != n {
			t.Fatalf("Clone of %d bytes", n)
		}
		one, two := message(77), message(78)
		h.Write(one)
		if c.Sum() != Sum(b) || c.Len() != n {
			t.Errorf("%d bytes: the clone has what the hash got", n)
		}
		c.Write(two)
		if h.Sum() != Sum(append(bytes.Clone(b), one...)) || h.Len() != n+len(one) {
			t.Errorf("%d bytes: the hash has what its clone got", n)
		}
		if c.Sum() != Sum(append(bytes.Clone(b), two...)) || c.Len() != n+len(two) {
			t.Errorf("%d bytes: the clone has not what it got", n)
		}
	}
}

func TestCloneOfAClone(t *testing.T) {
	c := written(t, []byte("ab")).Clone().Clone()
	if e := c.Write([]byte("c")); e != api.OK || c.Sum() != Sum([]byte("abc")) {
		t.Error(e)
	}
}

// Rule 5

func TestHashesThatNobodyMade(t *testing.T) {
	for name, h := range strange() {
		for _, b := range [][]byte{nil, {1}, message(100)} {
			if e := h.Write(b); e != api.ErrNil {
				t.Error(name, "Write", e)
			}
		}
		if h.Sum() != (api.Digest{}) || h.Len() != 0 || h.Clone() != nil {
			t.Error(name, "answers something")
		}
	}
}

// Rule 4

func TestWhatIsHandedInIsLeftAlone(t *testing.T) {
	room := message(200)
	before := bytes.Clone(room)
	b := room[20:100]
	h := written(t, b)
	d, parts := Sum(b), [][]byte{room[:10], b, nil, room[90:130]}
	j := Join(parts)
	if !bytes.Equal(room, before) {
		t.Fatal("what was handed in was changed")
	}
	if Join([][]byte{room[:10:10], bytes.Clone(b), {}, room[90:130:130]}) != j {
		t.Error("Join looks at spare room")
	}
	clear(room)
	if h.Sum() != d || d != sha256.Sum256(before[20:100]) {
		t.Error("what was handed in was kept")
	}
}

// P8.2: Join

func TestJoinOfTheExamples(t *testing.T) {
	for _, none := range [][][]byte{nil, {}} {
		if Join(none) != Sum(nil) {
			t.Error("Join of none")
		}
	}
	for _, empty := range [][][]byte{{nil}, {{}}} {
		if Join(empty) != Sum(make([]byte, 8)) {
			t.Error("Join of one empty part")
		}
	}
}

func TestJoinIsOfLengthsAndParts(t *testing.T) {
	for _, long := range [][]int{{1}, {0, 0}, {1, 2}, {255, 256, 257}, {56, 0, 64}, {65536, 65535}, {1 << 24}} {
		var parts [][]byte
		var whole []byte
		for _, n := range long {
			p := message(n)
			parts = append(parts, p)
			whole = append(whole, 0, 0, 0, 0, byte(n>>24), byte(n>>16), byte(n>>8), byte(n))
			whole = append(whole, p...)
		}
		if Join(parts) != sha256.Sum256(whole) {
			t.Error("Join of parts as long as", long)
		}
	}
}

// P8.2: Text, Parse

func TestTextHasTwoDigitsForEachByte(t *testing.T) {
	var d api.Digest
	if Text(d) != strings.Repeat("0", 64) {
		t.Error("Text of zeros")
	}
	for i := range d {
		d[i] = byte(17*i - 16)
	}
	want := "f00112233445566778899aabbccddeef00112233445566778899aabbccddeeff"
	if got := Text(d); got != want || got != textOf(d) {
		t.Error(got)
	}
}

func TestParseReadsWhatTextTells(t *testing.T) {
	for n := range 300 {
		d := Sum(message(n))
		d[n%32] = byte(n) // each byte at several places
		if back, e := Parse(Text(d)); back != d || e != api.OK {
			t.Error(d, back, e)
		}
	}
}

func TestParseRefusesOtherLengths(t *testing.T) {
	s := Text(Sum(nil))
	for _, s := range []string{"", "0", s[:32], s[:62], s[:63], s + "0", s + "00", s + s, " " + s, s + "\n", "0x" + s, s[:63] + "\u00e9"} {
		if d, e := Parse(s); d != (api.Digest{}) || e != api.ErrBytes {
			t.Errorf("%q: %v %v", s, d, e)
		}
	}
}

func TestParseReadsTheDigitsAlone(t *testing.T) {
	s := Text(Sum(nil))
	for at := range s {
		for c := range 256 {
			b := []byte(s)
			b[at] = byte(c)
			d, e := Parse(string(b))
			if strings.IndexByte("0123456789abcdef", byte(c)) < 0 {
				if d != (api.Digest{}) || e != api.ErrBytes {
					t.Errorf("%q at %d: %v %v", byte(c), at, d, e)
				}
			} else if e != api.OK || Text(d) != string(b) {
				t.Errorf("%q at %d: %v %v", byte(c), at, d, e)
			}
		}
	}
}

func TestParseRefusesGreatLetters(t *testing.T) {
	for _, s := range []string{strings.Repeat("A", 64), strings.Repeat("0", 63) + "A", "F" + strings.Repeat("0", 63), strings.ToUpper(Text(Sum(nil)))} {
		if d, e := Parse(s); d != (api.Digest{}) || e != api.ErrBytes {
			t.Error(s, d, e)
		}
	}
}

// P8.3

func TestHoweverAMessageIsCut(t *testing.T) {
	b := message(150)
	want := Sum(b)
	for i := range len(b) + 1 {
		for j := i; j <= len(b); j++ {
			if h := written(t, b[:i], b[i:j], b[j:]); h.Sum() != want || h.Len() != len(b) {
				t.Fatalf("cut at %d and %d", i, j)
			}
		}
	}
	b = message(5000)
	want = Sum(b)
	for n := 1; n < 300; n++ {
		h := New()
		for i := 0; i < len(b); i += n {
			h.Write(b[i:min(i+n, len(b))])
		}
		if h.Sum() != want || h.Len() != len(b) {
			t.Errorf("pieces of %d", n)
		}
	}
}

func TestUnlikeListsAreJoinedToUnlikeMessages(t *testing.T) {
	met := map[api.Digest]string{}
	var walk func(parts [][]byte)
	walk = func(parts [][]byte) {
		text := ""
		for _, p := range parts {
			text += "(" + string(p) + ")"
		}
		d := Join(parts)
		if was, ok := met[d]; ok {
			t.Errorf("%q and %q", was, text)
		}
		met[d] = text
		if len(parts) == 4 {
			return
		}
		for _, p := range []string{"", "\x00", "\x01", "\x00\x00\x00\x00\x00\x00\x00\x00", "\x00\x00\x00\x00\x00\x00\x00\x01", "\x00\x00\x00\x00\x00\x00\x00\x01\x00"} {
			walk(append(parts[:len(parts):len(parts)], []byte(p)))
		}
	}
	walk(nil)
	if len(met) != 1+6+36+216+1296 {
		t.Error(len(met), "lists")
	}
}

func BenchmarkSum(b *testing.B) {
	m := message(1 << 16)
	b.SetBytes(int64(len(m)))
	for b.Loop() {
		Sum(m)
	}
}
