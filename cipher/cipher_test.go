package cipher

import (
	"bytes"
	"math"
	"math/big"
	"testing"

	"reliquary/api"
)

// most is how many bytes a text may have.
const most = 1048576

// lengths are those about which pieces and blocks end, and some others.
var lengths = []int{0, 1, 2, 14, 15, 16, 17, 31, 32, 33, 47, 48, 49, 63, 64, 65, 79, 80, 81, 127, 128, 129, 191, 192, 193, 300}

// counters are those at both ends, and some others.
var counters = []uint32{0, 1, 2, 255, 256, 65535, 65536, 1<<31 - 1, 1 << 31, 1<<32 - 2, 1<<32 - 1}

// P10.1: Block

func TestBlockIsThatOfTheChapter(t *testing.T) {
	texts := [][]byte{make([]byte, 32), bytes.Repeat([]byte{255}, 32), from(0, 32)}
	for i := range 20 {
		texts = append(texts, message(i, 32))
	}
	for _, key := range texts {
		for _, n := range texts {
			for _, c := range counters {
				if nonce := n[20:]; !bytes.Equal(block(t, key, nonce, c), slowBlock(key, nonce, c)) {
					t.Errorf("key %x, nonce %x, counter %d", key, nonce, c)
				}
			}
		}
	}
}

func TestBlockTellsKeysNoncesAndCountersApart(t *testing.T) {
	key, nonce := message(1, 32), message(1, 12)
	met := map[string]bool{string(block(t, key, nonce, 0)): true}
	for _, text := range [][]byte{key, nonce} {
		for i := range 8 * len(text) {
			text[i/8] ^= 1 << (i % 8)
			met[string(block(t, key, nonce, 0))] = true
			text[i/8] ^= 1 << (i % 8)
		}
	}
	for i := range 32 {
		met[string(block(t, key, nonce, 1<<i))] = true
	}
	if len(met) != 1+8*32+8*12+32 {
		t.Errorf("%d blocks", len(met))
	}
}

// P10.1: Stream

func TestStreamIsThatOfTheChapter(t *testing.T) {
	for n := range 300 {
		key, nonce, b := message(2, 32), message(3, 12), message(4, n)
		c := counters[n%len(counters)]
		if !bytes.Equal(streamed(t, key, nonce, c, b), slowStream(key, nonce, c, b)) {
			t.Errorf("%d bytes from the counter %d on", n, c)
		}
	}
	key, nonce, b := message(5, 32), message(6, 12), message(7, 1<<16+1)
	if !bytes.Equal(streamed(t, key, nonce, 7, b), slowStream(key, nonce, 7, b)) {
		t.Error("a long text")
	}
}

func TestStreamIsBlockByBlock(t *testing.T) {
	key, nonce := message(8, 32), message(9, 12)
	for _, c := range counters { // behind the greatest counter comes 0
		s := streamed(t, key, nonce, c, make([]byte, 4*64))
		for i := range 4 {
			if !bytes.Equal(s[64*i:64*i+64], block(t, key, nonce, c+uint32(i))) {
				t.Errorf("the block %d from the counter %d on", i, c)
			}
		}
	}
	s := streamed(t, key, nonce, math.MaxUint32, make([]byte, 128))
	if !bytes.Equal(s[64:], block(t, key, nonce, 0)) {
		t.Error("behind the greatest counter")
	}
}

func TestStreamOfALongTextIsThatOfItsParts(t *testing.T) {
	key, nonce, b := message(10, 32), message(11, 12), message(12, most)
	whole := streamed(t, key, nonce, 1<<32-5, b)
	for _, at := range []int{0, 1, 4, 5, 6, 1000, most/64 - 2} { // in blocks
		if !bytes.Equal(streamed(t, key, nonce, uint32(1<<32-5+at), b[64*at:64*at+100]), whole[64*at:64*at+100]) {
			t.Errorf("from the block %d on", at)
		}
	}
}

func TestStreamOfAStreamIsTheText(t *testing.T) {
	for _, n := range append(lengths, 5000, most) {
		key, nonce, b := message(13, 32), message(14, 12), message(15, n)
		s := streamed(t, key, nonce, 9, b)
		if n >= 16 && bytes.Equal(s, b) {
			t.Errorf("%d bytes stay as they were", n)
		}
		if !bytes.Equal(streamed(t, key, nonce, 9, s), b) {
			t.Errorf("%d bytes", n)
		}
	}
}

// P10.1: Tag

func TestTagIsThatOfTheChapter(t *testing.T) {
	for k := range 40 {
		key := message(16+k, 32)
		for n := range 100 {
			if b := message(60, n); !bytes.Equal(tag(t, key, b), slowTag(key, b)) {
				t.Errorf("%d bytes under the key %d", n, k)
			}
		}
	}
	key, b := message(61, 32), message(62, most)
	if !bytes.Equal(tag(t, key, b), slowTag(key, b)) {
		t.Error("a long text")
	}
}

// Texts and keys of great words, so that all that can be carried is carried.
func TestTagOfGreatNumbers(t *testing.T) {
	for _, k := range []byte{0, 1, 127, 128, 252, 254, 255} {
		for _, x := range []byte{0, 1, 127, 128, 250, 251, 252, 254, 255} {
			key := bytes.Repeat([]byte{k}, 32)
			for n := range 200 {
				if b := bytes.Repeat([]byte{x}, n); !bytes.Equal(tag(t, key, b), slowTag(key, b)) {
					t.Errorf("%d bytes %d under bytes %d", n, x, k)
				}
			}
		}
	}
	key := bytes.Repeat([]byte{255}, 32)
	if b := bytes.Repeat([]byte{255}, most); !bytes.Equal(tag(t, key, b), slowTag(key, b)) {
		t.Error("a long text")
	}
}

// With r being 1 a is the sum of the pieces: three of them come to any number
// about 2^130 - 5 and 2^130, two and a short one to any other.
func TestTagAboutTheModulus(t *testing.T) {
	for _, s := range [][]byte{make([]byte, 16), filled(16, 1), bytes.Repeat([]byte{255}, 16)} {
		key := append(filled(16, 1), s...)
		for d := int64(-20); d <= 20; d++ {
			rest := new(big.Int).Sub(power(128), big.NewInt(5-d)) // with three times 2^128 it is the modulus and d
			for _, first := range []int64{0, 1, 1 << 40} {
				b := append(sixteen(new(big.Int).Sub(rest, big.NewInt(first+30))), sixteen(big.NewInt(first))...)
				b = append(b, sixteen(big.NewInt(30))...)
				if !bytes.Equal(tag(t, key, b), slowTag(key, b)) {
					t.Errorf("the modulus and %d", d)
				}
			}
		}
	}
}

// Numbers just below and above the modulus, and those whose words are all ones,
// multiplied by small and great r.
func TestTagOfMultiplesAboutTheModulus(t *testing.T) {
	for shift := range uint(124) {
		key := append(sixteen(power(shift)), message(63, 16)...)
		for d := range int64(12) {
			for _, high := range []uint{64, 124, 126, 127, 128} {
				b := sixteen(new(big.Int).Sub(power(high), big.NewInt(d)))
				b = append(b, sixteen(new(big.Int).Sub(power(128), big.NewInt(d+1)))...)
				if !bytes.Equal(tag(t, key, b), slowTag(key, b)) {
					t.Errorf("2^%d and about 2^%d, less %d", shift, high, d)
				}
			}
		}
	}
}

func TestTagClearsBitsOfTheKey(t *testing.T) {
	cleared := map[int]byte{3: 240, 7: 240, 11: 240, 15: 240, 4: 3, 8: 3, 12: 3}
	key, b := message(64, 32), message(65, 40)
	whole := tag(t, key, b)
	for i := range 8 * len(key) {
		key[i/8] ^= 1 << (i % 8)
		if bytes.Equal(tag(t, key, b), whole) != (cleared[i/8]>>(i%8)&1 == 1) {
			t.Errorf("bit %d of the byte %d", i%8, i/8)
		}
		key[i/8] ^= 1 << (i % 8)
	}
}

func TestTagTellsTextsApart(t *testing.T) {
	key := message(66, 32)
	met := map[string]bool{}
	for n := range 70 { // bytes 0, and a byte 1, behind a piece make it another one
		for _, end := range [][]byte{{}, {1}, {1, 0}} {
			met[string(tag(t, key, append(make([]byte, n), end...)))] = true
		}
	}
	if len(met) != 3*70 {
		t.Errorf("%d tags", len(met))
	}
	b := message(67, 50)
	whole := tag(t, key, b)
	for i := range 8 * len(b) {
		b[i/8] ^= 1 << (i % 8)
		if bytes.Equal(tag(t, key, b), whole) {
			t.Errorf("bit %d", i)
		}
		b[i/8] ^= 1 << (i % 8)
	}
}

func TestTagOfNothingAndUnderNothing(t *testing.T) {
	key := message(68, 32)
	if !bytes.Equal(tag(t, key, nil), key[16:]) || !bytes.Equal(tag(t, key, []byte{}), key[16:]) {
		t.Error("the tag of nothing is not s")
	}
	clear(key[:16]) // with r being 0 the text makes no difference
	for _, n := range lengths {
		if !bytes.Equal(tag(t, key, message(69, n)), key[16:]) {
			t.Errorf("%d bytes", n)
		}
	}
}

// P10.1 and P10.2: errors

// all is what each call answers of these arguments; Tag has no nonce.
func all(key, nonce, b, more []byte) map[string]func() ([]byte, api.Errno) {
	return map[string]func() ([]byte, api.Errno){
		"Block":  func() ([]byte, api.Errno) { return Block(key, nonce, 1) },
		"Stream": func() ([]byte, api.Errno) { return Stream(key, nonce, 1, b) },
		"Tag":    func() ([]byte, api.Errno) { return Tag(key, b) },
		"Seal":   func() ([]byte, api.Errno) { return Seal(key, nonce, b, more) },
		"Open":   func() ([]byte, api.Errno) { return Open(key, nonce, b, more) },
	}
}

// refused says that a call must answer this error, and nothing beside it.
func refused(t *testing.T, name string, call func() ([]byte, api.Errno), want api.Errno) {
	t.Helper()
	if b, e := call(); e != want || len(b) != 0 || cap(b) != 0 {
		t.Errorf("%s: %d bytes, %v, not %v", name, len(b), e, want)
	}
}

func TestKeysAndNoncesOfOtherLengthsAreRefused(t *testing.T) {
	long := make([]byte, most+17)
	for _, b := range [][]byte{nil, make([]byte, 5), long} { // ahead of all else that is wrong
		for _, n := range []int{0, 1, 12, 16, 24, 31, 33, 64, 1000} {
			for name, call := range all(make([]byte, n), make([]byte, 12), b, b) {
				refused(t, name, call, api.ErrArg)
			}
		}
		for _, n := range []int{0, 1, 8, 11, 13, 16, 24, 32, 1000} {
			for name, call := range all(make([]byte, 32), make([]byte, n), b, b) {
				if name != "Tag" {
					refused(t, name, call, api.ErrArg)
				}
			}
		}
		for name, call := range all(nil, nil, b, b) {
			refused(t, name, call, api.ErrArg)
		}
		for name, call := range all(make([]byte, 33)[:31], make([]byte, 13)[:12], b, b) { // with spare room
			refused(t, name, call, api.ErrArg)
		}
	}
}

func TestTextsThatAreTooLongAreRefused(t *testing.T) {
	key, nonce, long := make([]byte, 32), make([]byte, 12), make([]byte, 2*most)
	for _, n := range []int{most + 1, most + 15, most + 16, most + 17, 2 * most} {
		for name, call := range all(key, nonce, long[:n], nil) {
			switch {
			case name == "Block":
			case name == "Open" && n <= most+16: // it is not too long, but has no tag that holds
				refused(t, name, call, api.ErrTag)
			default:
				refused(t, name, call, api.ErrLong)
			}
		}
		for _, b := range [][]byte{nil, long[:15], long[:16], long[:most]} { // ahead of a tag that does not hold
			calls := all(key, nonce, b, long[:n])
			refused(t, "Seal", calls["Seal"], api.ErrLong)
			refused(t, "Open", calls["Open"], api.ErrLong)
		}
	}
}

func TestTheLongestTexts(t *testing.T) {
	key, nonce, b, more := message(70, 32), message(71, 12), message(72, most), message(73, most)
	streamed(t, key, nonce, 0, b)
	tag(t, key, b)
	for _, m := range [][]byte{nil, more} {
		s := sealed(t, key, nonce, b, m)
		if !bytes.Equal(s, slowSealed(key, nonce, b, m)) {
			t.Errorf("sealed with %d bytes", len(m))
		}
		if !bytes.Equal(opened(t, key, nonce, s, m), b) {
			t.Errorf("opened with %d bytes", len(m))
		}
	}
}

// P10.2: Seal, Open

func TestSealIsThatOfTheChapter(t *testing.T) {
	for _, n := range lengths {
		for _, m := range lengths {
			key, nonce, b, more := message(74, 32), message(75, 12), message(76, n), message(77, m)
			s := sealed(t, key, nonce, b, more)
			if !bytes.Equal(s, slowSealed(key, nonce, b, more)) {
				t.Errorf("%d bytes with %d", n, m)
			}
			if !bytes.Equal(opened(t, key, nonce, s, more), b) {
				t.Errorf("%d bytes with %d, opened", n, m)
			}
		}
	}
}

// A sealed text is put together from what the other calls answer.
func TestSealIsMadeOfTheOtherCalls(t *testing.T) {
	key, nonce, b, more := message(78, 32), message(79, 12), message(80, 100), message(81, 21)
	want := streamed(t, key, nonce, 1, b)
	want = append(want, tag(t, block(t, key, nonce, 0)[:32], tagged(want, more))...)
	if !bytes.Equal(sealed(t, key, nonce, b, more), want) {
		t.Error("not the stream from 1 on and its tag")
	}
}

func TestNothingIsSealedAndOpened(t *testing.T) {
	key, nonce := from(0, 32), []byte{0, 0, 0, 9, 0, 0, 0, 74, 0, 0, 0, 0}
	s := sealed(t, key, nonce, nil, nil)
	if !bytes.Equal(s, sealed(t, key, nonce, []byte{}, []byte{})) {
		t.Error("nil and empty are not the same")
	}
	for _, more := range [][]byte{nil, {}} {
		if b := opened(t, key, nonce, s, more); len(b) != 0 {
			t.Error(b)
		}
	}
	if _, e := Open(from(1, 32), nonce, s, nil); e != api.ErrTag {
		t.Error("opened with another key:", e)
	}
}

func TestFewerBytesThanATagAreNotOpened(t *testing.T) {
	key, nonce := message(82, 32), message(83, 12)
	s := sealed(t, key, nonce, nil, []byte{1})
	for n := range 16 {
		for _, b := range [][]byte{s[:n], make([]byte, n)} { // the rest stands in spare room
			for name, call := range all(key, nonce, b, []byte{1}) {
				if name == "Open" {
					refused(t, name, call, api.ErrTag)
				}
			}
		}
	}
	opened(t, key, nonce, s, []byte{1})
}

func TestAnotherKeyNonceOrMoreDoesNotOpen(t *testing.T) {
	key, nonce, b, more := message(84, 32), message(85, 12), message(86, 45), message(87, 30)
	s := sealed(t, key, nonce, b, more)
	for _, text := range [][]byte{key, nonce, more} {
		for i := range 8 * len(text) {
			text[i/8] ^= 1 << (i % 8)
			refused(t, "Open", all(key, nonce, s, more)["Open"], api.ErrTag)
			text[i/8] ^= 1 << (i % 8)
		}
	}
	for n := range len(s) {
		refused(t, "Open of its beginning", all(key, nonce, s[:n], more)["Open"], api.ErrTag)
		refused(t, "Open of its end", all(key, nonce, s[n+1:], more)["Open"], api.ErrTag)
	}
	refused(t, "Open of more behind it", all(key, nonce, append(bytes.Clone(s), 0), more)["Open"], api.ErrTag)
	refused(t, "Open of its double", all(key, nonce, append(bytes.Clone(s), s...), more)["Open"], api.ErrTag)
}

// What is filled is filled alike, so that the lengths alone tell such texts apart.
func TestTextsThatAreFilledAlikeAreToldApart(t *testing.T) {
	key, nonce := message(88, 32), message(89, 12)
	for n := range 40 {
		s := sealed(t, key, nonce, nil, make([]byte, n))
		for m := range 40 {
			if m != n {
				refused(t, "Open", all(key, nonce, s, make([]byte, m))["Open"], api.ErrTag)
			}
		}
	}
	more, b := message(90, 32), message(91, 32)
	s := sealed(t, key, nonce, b, more)
	for i := range 64 { // bytes that go over from what comes with it to the sealed text
		together := append(bytes.Clone(more), s...)
		if i != 32 {
			refused(t, "Open", all(key, nonce, together[i:], together[:i])["Open"], api.ErrTag)
		}
	}
}

// P10.3

func TestOpenOfSealIsTheText(t *testing.T) {
	for i := range 400 {
		key, nonce, b, more := message(92, 32+i)[i:], message(93, 12+i)[i:], message(94, i*i%777), message(95, i*7%130)
		if !bytes.Equal(opened(t, key, nonce, sealed(t, key, nonce, b, more), more), b) {
			t.Errorf("%d bytes with %d", len(b), len(more))
		}
	}
}

func TestOneBitTurned(t *testing.T) {
	for _, n := range []int{0, 1, 16, 33} {
		for _, m := range []int{0, 5, 16} {
			key, nonce, b, more := message(96, 32), message(97, 12), message(98, n), message(99, m)
			once := block(t, key, nonce, 0)[:32]
			s := sealed(t, key, nonce, b, more)
			was := bytes.Clone(s[n:])
			for _, text := range [][]byte{s[n:], s[:n], more} {
				for i := range 8 * len(text) {
					text[i/8] ^= 1 << (i % 8)
					_, e := Open(key, nonce, s, more)
					if (e == api.OK) != bytes.Equal(slowTag(once, tagged(s[:n], more)), s[n:]) || e != api.OK && e != api.ErrTag {
						t.Errorf("bit %d: %v", i, e)
					}
					if !bytes.Equal(s[n:], was) && e != api.ErrTag {
						t.Errorf("bit %d of the tag: %v", i, e)
					}
					text[i/8] ^= 1 << (i % 8)
				}
			}
		}
	}
}

// Who has the key can find another text of the same tag: what is added to its
// first piece, times r, is taken away from its second one. That one is opened.
func TestAnotherTextOfTheSameTagIsOpened(t *testing.T) {
	key, nonce, b, more := message(100, 32), message(101, 12), message(102, 32), message(103, 9)
	r := slowR(block(t, key, nonce, 0))
	s := sealed(t, key, nonce, b, more)
	found := 0
	for d := int64(1); d < 200 && found < 5; d++ {
		one := new(big.Int).Add(low(s[:16]), big.NewInt(d))
		two := new(big.Int).Sub(low(s[16:32]), new(big.Int).Mul(r, big.NewInt(d)))
		two.Mod(two, prime())
		if one.Cmp(power(128)) >= 0 || two.Cmp(power(128)) >= 0 {
			continue
		}
		found++
		other := append(append(sixteen(one), sixteen(two)...), s[32:]...)
		if !bytes.Equal(opened(t, key, nonce, other, more), slowStream(key, nonce, 1, other[:32])) {
			t.Errorf("by %d", d)
		}
	}
	if found < 5 {
		t.Errorf("%d such texts were found", found)
	}
}

func TestTagsAreComparedAtEachByte(t *testing.T) {
	for i := range 16 {
		for j := range 16 { // what is unlike would vanish by xor, or by adding
			for _, x := range []byte{1, 128, 255} {
				var a, b piece
				b[i] ^= x
				if same(a, b) || same(b, a) || !same(b, b) {
					t.Errorf("byte %d", i)
				}
				b[j] ^= x
				if same(a, b) != (i == j) {
					t.Errorf("bytes %d and %d", i, j)
				}
			}
		}
	}
}

// Rules 4 and 8

func TestWhatIsHandedInIsLeftAlone(t *testing.T) {
	room := message(104, 600)
	key, nonce, b, more := room[10:42], room[60:72], room[100:200], room[300:333]
	s := sealed(t, key, nonce, b, more)
	copy(room[400:], s)
	s = room[400 : 400+len(s)]
	before := bytes.Clone(room)
	k, n, x, m := bytes.Clone(key), bytes.Clone(nonce), bytes.Clone(b), bytes.Clone(more)
	for range 2 { // nothing is kept from call to call
		if !bytes.Equal(block(t, key, nonce, 3), slowBlock(k, n, 3)) ||
			!bytes.Equal(streamed(t, key, nonce, 3, b), slowStream(k, n, 3, x)) ||
			!bytes.Equal(tag(t, key, b), slowTag(k, x)) ||
			!bytes.Equal(sealed(t, key, nonce, b, more), slowSealed(k, n, x, m)) ||
			!bytes.Equal(opened(t, key, nonce, s, more), x) {
			t.Error("spare room is looked at")
		}
		Open(key, nonce, b, more)
		if !bytes.Equal(room, before) {
			t.Error("what was handed in was changed")
		}
	}
}

func TestAnswersAreNewMemory(t *testing.T) {
	for _, n := range []int{0, 1, 16, 64, 65, 1000} {
		room := message(105, 2*n+100)
		key, nonce, b, more := room[:32], room[32:44], room[44:44+n], room[44+n:44+2*n]
		s := sealed(t, key, nonce, b, more)
		before, was := bytes.Clone(room), bytes.Clone(s)
		for name, call := range all(key, nonce, s, more) {
			one, _ := call()
			two, _ := call()
			keep := bytes.Clone(two)
			spoil(one)
			if !bytes.Equal(two, keep) || !bytes.Equal(room, before) || !bytes.Equal(s, was) {
				t.Errorf("%s of %d bytes shares memory", name, n)
			}
			if again, _ := call(); !bytes.Equal(again, keep) {
				t.Errorf("%s of %d bytes keeps its answer", name, n)
			}
		}
	}
}

// One list may be handed in for all that a call takes.
func TestOneListForAll(t *testing.T) {
	b := message(106, 32)
	own := bytes.Clone(b)
	if !bytes.Equal(sealed(t, b, b[:12], b, b), slowSealed(own, own[:12], own, own)) || !bytes.Equal(b, own) {
		t.Error("one list for key, nonce, text and more")
	}
}

// spoil writes to a list, its spare room too.
func spoil(b []byte) {
	b = b[:cap(b)]
	for i := range b {
		b[i] ^= 255
	}
}

func BenchmarkSeal(b *testing.B) {
	key, nonce, text := message(107, 32), message(108, 12), message(109, 1<<16)
	b.SetBytes(1 << 16)
	for b.Loop() {
		Seal(key, nonce, text, nil)
	}
}
