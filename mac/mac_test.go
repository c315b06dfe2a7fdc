package mac

import (
	"bytes"
	"crypto/sha256"
	"math"
	"strings"
	"testing"

	"reliquary/api"
)

// lengths are those of keys and texts about which a block ends, and some others.
var lengths = []int{0, 1, 2, 20, 31, 32, 33, 54, 55, 56, 63, 64, 65, 66, 100, 119, 120, 127, 128, 129, 131, 1000}

// expanded is what a key is expanded to, which must not be refused.
func expanded(t *testing.T, key, info []byte, n int) []byte {
	t.Helper()
	b, e := Expand(key, info, n)
	if e != api.OK || len(b) != n {
		t.Fatalf("Expand to %d: %d bytes, %v", n, len(b), e)
	}
	return b
}

// derived is what is derived, which must not be refused.
func derived(t *testing.T, salt, material, info []byte, n int) []byte {
	t.Helper()
	b, e := Derive(salt, material, info, n)
	if e != api.OK || len(b) != n {
		t.Fatalf("Derive of %d: %d bytes, %v", n, len(b), e)
	}
	return b
}

// P9.1: Code

// The chapter's examples, and the others of RFC 4231.
func TestCodeOfKnownMessages(t *testing.T) {
	const much = "This is a test using a larger than block-size key and a larger than block-size data. " +
		"The key needs to be hashed before being used by the HMAC algorithm."
	for _, c := range []struct {
		key  []byte
		text string
		want string
	}{
		{bytes.Repeat([]byte{11}, 20), "Hi There", "b0344c61 d8db3853 5ca8afce af0bf12b 881dc200 c9833da7 26e9376c 2e32cff7"},
		{[]byte("Jefe"), "what do ya want for nothing?", "5bdcc146 bf60754e 6a042426 089575c7 5a003f08 9d273983 9dec58b9 64ec3843"},
		{bytes.Repeat([]byte{170}, 20), strings.Repeat("\xdd", 50), "773ea91e 36800e46 854db8eb d09181a7 2959098b 3ef8c122 d9635514 ced565fe"},
		{from(1, 25), strings.Repeat("\xcd", 50), "82558a38 9a443c0e a4cc8198 99f2083a 85f0faa3 e578f807 7a2e3ff4 6729665b"},
		{bytes.Repeat([]byte{170}, 131), "Test Using Larger Than Block-Size Key - Hash Key First", "60e43159 1ee0b67f 0d8a26aa cbf5b77f 8e0bc621 3728c514 0546040f 0ee37f54"},
		{bytes.Repeat([]byte{170}, 131), much, "9b09ffa7 1b942fcb 27635fbc d5b0e944 bfdc6364 4f071393 8a7f5153 5c3a35e2"},
		{nil, "", "b613679a 0814d9ec 772f95d7 78c35fc5 ff1697c4 93715653 c6c71214 4292c5ad"},
	} {
		d := Code(c.key, []byte(c.text))
		if !bytes.Equal(d[:], read(t, c.want)) {
			t.Errorf("Code of %.30q is %x", c.text, d)
		}
	}
	if d := Code(bytes.Repeat([]byte{12}, 20), []byte("Test With Truncation")); !bytes.Equal(d[:16], read(t, "a3b61674 73100ee0 6e0c796c 2955552b")) {
		t.Errorf("%x", d)
	}
}

func TestCodeIsThatOfTheChapterAndOfTheStandard(t *testing.T) {
	for k := range 200 { // keys shorter than a block, as long, and longer
		key := message(1, k)
		for _, n := range lengths {
			b := message(2, n)
			if d := Code(key, b); d != slowCode(key, b) || d != libraryCode(key, b) {
				t.Errorf("a key of %d bytes, a text of %d", k, n)
			}
		}
	}
	for _, n := range []int{4096, 1<<16 + 1, 1 << 20} {
		key, b := message(3, n), message(4, n)
		if Code(key, b) != libraryCode(key, b) {
			t.Errorf("a key and a text of %d bytes", n)
		}
	}
}

func TestCodeTakesNilForNothing(t *testing.T) {
	none, b := []byte{}, []byte("text")
	if Code(nil, b) != Code(none, b) || Code(b, nil) != Code(b, none) || Code(nil, nil) != Code(none, none) {
		t.Error("nil and empty are not the same")
	}
}

func TestCodeTellsKeysAndMessagesApart(t *testing.T) {
	key, b := message(5, 64), message(6, 70)
	whole := Code(key, b)
	if whole == Code(b, key) {
		t.Error("key and message are the same the other way round")
	}
	for _, text := range [][]byte{key, b} {
		for i := range 8 * len(text) {
			text[i/8] ^= 1 << (i % 8)
			if Code(key, b) == whole {
				t.Errorf("bit %d of %d", i, 8*len(text))
			}
			text[i/8] ^= 1 << (i % 8)
		}
	}
}

// P9.1: Same

func TestSameOfTheExamples(t *testing.T) {
	for _, c := range []struct {
		a, b []byte
		want bool
	}{
		{[]byte{1, 2}, []byte{1, 2}, true},
		{[]byte{1, 2}, []byte{1}, false},
		{nil, nil, true},
		{nil, []byte{}, true},
		{nil, []byte{0}, false},
		{[]byte{0}, []byte{0, 0}, false},
		{[]byte{1, 2}, []byte{2, 1}, false},
		{[]byte{3, 3}, []byte{5, 5}, false}, // what is unlike would vanish by xor
		{[]byte{128, 0}, []byte{0, 128}, false},
		{[]byte{0, 0}, []byte{128, 128}, false}, // .. and by adding
	} {
		if Same(c.a, c.b) != c.want || Same(c.b, c.a) != c.want {
			t.Error(c.a, c.b, "not", c.want)
		}
	}
}

func TestSameOfTextsWithOneBitTurned(t *testing.T) {
	for _, n := range []int{1, 2, 16, 32, 65, 300} {
		a := message(7, n)
		b := bytes.Clone(a)
		if !Same(a, b) || !Same(a, a) {
			t.Errorf("%d bytes are not the same", n)
		}
		for i := range 8 * n {
			b[i/8] ^= 1 << (i % 8)
			if Same(a, b) || Same(b, a) {
				t.Errorf("bit %d of %d bytes", i, n)
			}
			b[i/8] ^= 1 << (i % 8)
		}
	}
}

func TestSameOfOtherLengths(t *testing.T) {
	for _, b := range [][]byte{make([]byte, 40), message(8, 40)} {
		for i := range len(b) + 1 {
			for j := range len(b) + 1 {
				if Same(b[:i], b[:j]) != (i == j) { // all with the rest as spare room
					t.Errorf("%d and %d bytes", i, j)
				}
			}
		}
	}
}

// P9.1: Extract

func TestExtractOfKnownMaterial(t *testing.T) {
	for _, c := range []struct {
		salt, material []byte
		want           string
	}{
		{from(0, 13), bytes.Repeat([]byte{11}, 22), "07770936 2c2e32df 0ddc3f0d c47bba63 90b6c73b b50f9c31 22ec844a d7c2b3e5"},
		{from(96, 80), from(0, 80), "06a6b88c 5853361a 06104c9c eb35b45c ef760014 90467101 4a193f40 c15fc244"},
		{nil, bytes.Repeat([]byte{11}, 22), "19ef24a3 2c717b16 7f33a91d 6f648bdf 96596776 afdb6377 ac434c1c 293ccb04"},
	} {
		if d := Extract(c.salt, c.material); !bytes.Equal(d[:], read(t, c.want)) {
			t.Errorf("Extract of %d and %d bytes is %x", len(c.salt), len(c.material), d)
		}
	}
}

func TestExtractIsTheCodeUnderTheSalt(t *testing.T) {
	for _, k := range lengths {
		for _, n := range lengths {
			salt, material := message(9, k), message(10, n)
			if Extract(salt, material) != libraryCode(salt, material) {
				t.Errorf("a salt of %d bytes, a material of %d", k, n)
			}
		}
	}
	m := []byte("material")
	if d := Extract(nil, m); d != Extract([]byte{}, m) || d != libraryCode(nil, m) || d != Extract(make([]byte, 32), m) {
		t.Error("without a salt")
	}
}

// P9.2: Expand

func TestExpandIsThatOfTheChapter(t *testing.T) {
	for _, k := range []int{0, 1, 32, 63, 64, 65, 200} {
		for _, i := range []int{0, 1, 10, 31, 64, 500} {
			key, info := message(11, k), message(12, i)
			if !bytes.Equal(expanded(t, key, info, 8160), slowExpanded(key, info)) {
				t.Errorf("a key of %d bytes, an info of %d", k, i)
			}
		}
	}
}

func TestExpandIsThatOfTheStandard(t *testing.T) {
	key, info := message(13, 32), message(14, 9)
	for n := 1; n <= 8160; n += 1 + n/5 {
		if !bytes.Equal(expanded(t, key, info, n), libraryExpanded(t, key, info, n)) {
			t.Errorf("%d bytes", n)
		}
	}
}

func TestExpandedIsCodeByCode(t *testing.T) {
	key, info := []byte("key"), []byte("info")
	one := Code(key, []byte("info\x01"))
	two := Code(key, append(one[:], "info\x02"...))
	three := Code(key, append(two[:], "info\x03"...))
	want := append(append(bytes.Clone(one[:]), two[:]...), three[:]...)
	for _, n := range []int{1, 31, 32, 33, 63, 64, 65, 95, 96} {
		if !bytes.Equal(expanded(t, key, info, n), want[:n]) {
			t.Errorf("%d bytes", n)
		}
	}
}

func TestExpandToNothing(t *testing.T) {
	for _, key := range [][]byte{nil, {}, {1}, message(15, 100)} {
		if b, e := Expand(key, key, 0); len(b) != 0 || e != api.OK {
			t.Error(b, e)
		}
		if b, e := Derive(key, key, key, 0); len(b) != 0 || e != api.OK {
			t.Error(b, e)
		}
	}
}

func TestLengthsThatAreRefused(t *testing.T) {
	key := []byte{1}
	for _, n := range []int{-1, -32, math.MinInt, 8161, 8192, 1 << 16, 1 << 32, 1<<32 + 32, math.MaxInt} {
		if b, e := Expand(key, nil, n); len(b) != 0 || e != api.ErrLong {
			t.Errorf("Expand to %d: %d bytes, %v", n, len(b), e)
		}
		if b, e := Derive(key, key, key, n); len(b) != 0 || e != api.ErrLong {
			t.Errorf("Derive of %d: %d bytes, %v", n, len(b), e)
		}
	}
	for _, n := range []int{8129, 8159, 8160} {
		expanded(t, key, nil, n)
		derived(t, key, key, key, n)
	}
}

func TestExpandTellsKeysAndInfosApart(t *testing.T) {
	met := map[string]string{}
	for _, key := range []string{"", "a", "b", "ab"} {
		for _, info := range []string{"", "\x00", "\x01", "a", "b", "ab"} {
			b := string(expanded(t, []byte(key), []byte(info), 40))
			if was, ok := met[b]; ok {
				t.Errorf("%q and %q are expanded as %s", key, info, was)
			}
			met[b] = key + "/" + info
		}
	}
}

// P9.2: Derive

// The chapter's example, and the others of RFC 5869.
func TestDeriveOfKnownMaterial(t *testing.T) {
	elevens := bytes.Repeat([]byte{11}, 22)
	for _, c := range []struct {
		salt, material, info []byte
		want                 string
	}{
		{from(0, 13), elevens, from(240, 10), "3cb25f25 faacd57a 90434f64 d0362f2a 2d2d0a90 cf1a5a4c 5db02d56 ecc4c5bf 34007208 d5b88718 5865"},
		{from(96, 80), from(0, 80), from(176, 80), "b11e398d c80327a1 c8e7f78c 596a4934 4f012eda 2d4efad8 a050cc4c 19afa97c " +
			"59045a99 cac78272 71cb41c6 5e590e09 da327560 0c2f09b8 367793a9 aca3db71 cc30c581 79ec3e87 c14c01d5 c1f3434f 1d87"},
		{nil, elevens, nil, "8da4e775 a563c18f 715f802a 063c5a31 b8a11f5c 5ee1879e c3454e5f 3c738d2d 9d201395 faa4b61a 96c8"},
	} {
		want := read(t, c.want)
		if b := derived(t, c.salt, c.material, c.info, len(want)); !bytes.Equal(b, want) {
			t.Errorf("Derive of %d, %d and %d bytes is %x", len(c.salt), len(c.material), len(c.info), b)
		}
	}
}

func TestDeriveIsThatOfTheStandard(t *testing.T) {
	for i, k := range lengths {
		n := 1 + 371*i
		salt, material, info := message(16, k), message(17, n%150), message(18, n%70)
		b := derived(t, salt, material, info, n)
		if !bytes.Equal(b, libraryDerived(t, salt, material, info, n)) {
			t.Errorf("a salt of %d bytes, %d of what is expanded", k, n)
		}
		key := Extract(salt, material)
		if !bytes.Equal(b, expanded(t, key[:], info, n)) {
			t.Errorf("a salt of %d bytes: not Expand of Extract", k)
		}
	}
}

// P9.3

func TestFewerBytesAreTheBeginningOfMore(t *testing.T) {
	key, info := message(19, 40), message(20, 12)
	whole, other := expanded(t, key, info, 8160), derived(t, info, key, nil, 8160)
	for n := range 8161 {
		if n > 300 && n < 7900 && n%32 > 2 && n%97 > 0 {
			continue // about each code's end, and some of the others
		}
		if !bytes.Equal(expanded(t, key, info, n), whole[:n]) {
			t.Errorf("Expand to %d bytes", n)
		}
		if !bytes.Equal(derived(t, info, key, nil, n), other[:n]) {
			t.Errorf("Derive of %d bytes", n)
		}
	}
}

func TestZerosBehindAKeyAreTheSameKey(t *testing.T) {
	b := []byte("text")
	for k := range 65 {
		key := message(21, k)
		d, x, y := Code(key, b), expanded(t, key, b, 70), derived(t, key, b, nil, 70)
		for n := k; n <= 64; n++ {
			same := append(bytes.Clone(key), make([]byte, n-k)...)
			if Code(same, b) != d || Extract(same, b) != d {
				t.Errorf("a key of %d bytes, with zeros %d", k, n)
			}
			if !bytes.Equal(expanded(t, same, b, 70), x) || !bytes.Equal(derived(t, same, b, nil, 70), y) {
				t.Errorf("a key of %d bytes, with zeros %d, expanded", k, n)
			}
		}
		if past := append(bytes.Clone(key), make([]byte, 65-k)...); Code(past, b) == d {
			t.Errorf("a key of %d bytes, with zeros 65", k)
		}
	}
}

func TestLongKeysAreTheirDigest(t *testing.T) {
	b := []byte("text")
	for _, k := range []int{64, 65, 66, 96, 128, 131, 1000} {
		key := message(22, k)
		d := sha256.Sum256(key)
		if (Code(key, b) == Code(d[:], b)) != (k > 64) {
			t.Errorf("a key of %d bytes", k)
		}
		if bytes.Equal(expanded(t, key, b, 40), expanded(t, d[:], b, 40)) != (k > 64) {
			t.Errorf("a key of %d bytes, expanded", k)
		}
	}
}

// Rule 4

func TestWhatIsHandedInIsLeftAlone(t *testing.T) {
	room := message(23, 400)
	before := bytes.Clone(room)
	key, long, info := room[10:42], room[50:180], room[200:260]
	for _, k := range [][]byte{key, long, key[:0]} {
		own, text := bytes.Clone(k), bytes.Clone(info)
		if Code(k, info) != Code(own, text) || Extract(k, info) != Extract(own, text) {
			t.Errorf("Code looks at spare room of a key of %d bytes", len(k))
		}
		if !bytes.Equal(expanded(t, k, info, 200), expanded(t, own, text, 200)) {
			t.Errorf("Expand looks at spare room of a key of %d bytes", len(k))
		}
		if !bytes.Equal(derived(t, k, info, k, 200), derived(t, own, text, own, 200)) {
			t.Errorf("Derive looks at spare room of a key of %d bytes", len(k))
		}
		Same(k, info)
	}
	if !bytes.Equal(room, before) {
		t.Error("what was handed in was changed")
	}
}

func TestAnswersAreNewMemory(t *testing.T) {
	key, info := message(24, 32), message(25, 32)
	for _, n := range []int{0, 1, 32, 33, 8160} {
		a, b := expanded(t, key, info, n), expanded(t, key, info, n)
		was, k, i := bytes.Clone(b), bytes.Clone(key), bytes.Clone(info)
		spoil(a)
		if !bytes.Equal(b, was) || !bytes.Equal(key, k) || !bytes.Equal(info, i) {
			t.Errorf("%d bytes share memory", n)
		}
		if !bytes.Equal(expanded(t, key, info, n), was) {
			t.Errorf("%d bytes were kept", n)
		}
	}
}

// spoil writes to a list, its spare room too.
func spoil(b []byte) {
	b = b[:cap(b)]
	for i := range b {
		b[i] ^= 255
	}
}

func BenchmarkExpand(b *testing.B) {
	key := message(26, 32)
	b.SetBytes(8160)
	for b.Loop() {
		Expand(key, nil, 8160)
	}
}
