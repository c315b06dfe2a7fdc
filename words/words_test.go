package words

import (
	"bytes"
	"math"
	"math/big"
	"strings"
	"testing"

	"reliquary/api"
)

// The tests hold the package against math/big, at all pairs of the numbers of
// samples: edges by hand, and numbers whose words are drawn by a fixed rule.

const full = math.MaxUint64

var top = api.Num{full, full, full, full, full, full}

func power(i int) api.Num {
	var a api.Num
	a[i/64] = 1 << (i % 64)
	return a
}

// draw tells a word: half of them are edges, at which carries and borrows begin.
func draw(state *uint64) uint64 {
	*state ^= *state << 13
	*state ^= *state >> 7
	*state ^= *state << 17
	edges := []uint64{0, 1, 2, full, full - 1, 1 << 63, 1<<63 - 1, 1<<63 + 1, 1 << 32}
	n := *state * 0x9e3779b97f4a7c15 >> 8
	if n%2 == 0 {
		return edges[n/2%uint64(len(edges))]
	}
	return *state
}

func samples() []api.Num {
	l := []api.Num{
		{}, {1}, {2}, {3}, {7}, {255}, {256}, {full}, {full - 1}, {1 << 63}, {0, 1}, {full, 1},
		{0, 0, 0, 0, 0, 1}, {0, 0, 0, 0, 0, full}, {full, full, full}, {0, 0, 0, 1},
		top, {full - 1, full, full, full, full, full}, power(383), power(382), {1, 0, 0, 0, 0, 1 << 63},
		{full, full, full, full, full, 1<<63 - 1}, {0, full, 0, full, 0, full},
	}
	state := uint64(1)
	for i := range 120 {
		var a api.Num
		for j := range 1 + i%6 {
			a[j] = draw(&state)
		}
		l = append(l, a)
	}
	return l
}

// great tells a number as math/big has it.
func great(a api.Num) *big.Int {
	n := new(big.Int)
	for i := len(a) - 1; i >= 0; i-- {
		n.Lsh(n, 64).Or(n, new(big.Int).SetUint64(a[i]))
	}
	return n
}

// small tells a number of math/big, less what is 2^384 or above.
func small(n *big.Int) api.Num {
	var a api.Num
	word := new(big.Int).SetUint64(full)
	for i := range a {
		a[i] = new(big.Int).And(new(big.Int).Rsh(n, uint(64*i)), word).Uint64()
	}
	return a
}

func pairs(do func(a, b api.Num)) {
	l := samples()
	for _, a := range l {
		for _, b := range l {
			do(a, b)
		}
	}
}

// P1.1

func TestOf(t *testing.T) {
	for _, n := range []uint64{0, 1, 255, 1 << 63, full} {
		if a := Of(n); a != (api.Num{n}) {
			t.Error(n, a)
		}
	}
}

func TestCompare(t *testing.T) {
	pairs(func(a, b api.Num) {
		if got, want := Compare(a, b), great(a).Cmp(great(b)); got != want {
			t.Errorf("Compare(%x, %x): %d, not %d", a, b, got, want)
		}
	})
}

func TestCompareByEachWord(t *testing.T) {
	for i := range top {
		var less, more api.Num
		less[i], more[i] = 1<<63-1, 1<<63
		for j := range i {
			less[j] = full
		}
		if Compare(less, more) != -1 || Compare(more, less) != 1 || Compare(more, more) != 0 {
			t.Error(i)
		}
	}
}

func TestBit(t *testing.T) {
	for i := range 384 {
		for j := range 384 {
			want := 0
			if i == j {
				want = 1
			}
			if got := Bit(power(i), j); got != want {
				t.Fatalf("bit %d of 2^%d: %d", j, i, got)
			}
		}
	}
	for _, i := range []int{-1, -64, -384, 384, 385, 400, 448, math.MinInt, math.MaxInt} {
		if Bit(top, i) != 0 {
			t.Error(i)
		}
	}
	if Bit(top, 0) != 1 || Bit(top, 383) != 1 {
		t.Error("the outermost bits")
	}
}

func TestLen(t *testing.T) {
	for _, a := range samples() {
		if got, want := Len(a), great(a).BitLen(); got != want {
			t.Errorf("Len(%x): %d, not %d", a, got, want)
		}
	}
	for i := range 384 {
		if got := Len(power(i)); got != i+1 {
			t.Errorf("Len(2^%d): %d", i, got)
		}
	}
}

// P1.2

func TestAdd(t *testing.T) {
	pairs(func(a, b api.Num) {
		want := new(big.Int).Add(great(a), great(b))
		if s, carried := Add(a, b); s != small(want) || carried != (want.BitLen() > 384) {
			t.Errorf("Add(%x, %x): %x %v", a, b, s, carried)
		}
	})
}

func TestSub(t *testing.T) {
	pairs(func(a, b api.Num) {
		want := new(big.Int).Sub(great(a), great(b))
		below := want.Sign() < 0
		if below {
			want.Add(want, new(big.Int).Lsh(big.NewInt(1), 384))
		}
		if s, borrowed := Sub(a, b); s != small(want) || borrowed != below {
			t.Errorf("Sub(%x, %x): %x %v", a, b, s, borrowed)
		}
	})
}

func TestCarriesGoThroughAllWords(t *testing.T) {
	if s, carried := Add(top, Of(1)); s != (api.Num{}) || !carried {
		t.Error(s, carried)
	}
	if s, carried := Add(top, top); s != (api.Num{full - 1, full, full, full, full, full}) || !carried {
		t.Error(s, carried)
	}
	if s, carried := Add(api.Num{full, full, full, full, full}, Of(1)); s != power(320) || carried {
		t.Error(s, carried)
	}
	if s, borrowed := Sub(api.Num{}, Of(1)); s != top || !borrowed {
		t.Error(s, borrowed)
	}
	if s, borrowed := Sub(power(320), Of(1)); s != (api.Num{full, full, full, full, full}) || borrowed {
		t.Error(s, borrowed)
	}
	if s, borrowed := Sub(top, top); s != (api.Num{}) || borrowed {
		t.Error(s, borrowed)
	}
}

func TestMul(t *testing.T) {
	pairs(func(a, b api.Num) {
		want := new(big.Int).Mul(great(a), great(b))
		low, high := Mul(a, b)
		if low != small(want) || high != small(new(big.Int).Rsh(want, 384)) {
			t.Errorf("Mul(%x, %x): %x %x", a, b, low, high)
		}
	})
	if low, high := Mul(top, top); low != Of(1) || high != (api.Num{full - 1, full, full, full, full, full}) {
		t.Error(low, high)
	}
}

func TestDivide(t *testing.T) {
	pairs(func(a, b api.Num) {
		often, left, e := Divide(a, b)
		if b == (api.Num{}) {
			if often != b || left != b || e != api.ErrArg {
				t.Errorf("Divide(%x, 0): %x %x %d", a, often, left, e)
			}
			return
		}
		q, r := new(big.Int).QuoRem(great(a), great(b), new(big.Int))
		if often != small(q) || left != small(r) || e != api.OK {
			t.Errorf("Divide(%x, %x): %x %x %d", a, b, often, left, e)
		}
	})
}

func TestDivideByEachSize(t *testing.T) {
	state := uint64(7)
	for size := 1; size <= 6; size++ {
		for range 4000 {
			var a, b api.Num
			for i := range a {
				a[i] = draw(&state)
			}
			for i := range size {
				b[i] = draw(&state)
			}
			b[size-1] = max(1, b[size-1]>>(draw(&state)%64))
			q, r := new(big.Int).QuoRem(great(a), great(b), new(big.Int))
			if often, left, e := Divide(a, b); often != small(q) || left != small(r) || e != api.OK {
				t.Fatalf("Divide(%x, %x): %x %x %d", a, b, often, left, e)
			}
		}
	}
}

// Each of these has a word that is guessed too great by so many.
func TestDivideWhereAGuessIsTooGreat(t *testing.T) {
	for _, x := range []struct {
		high, low, next, b1, b0, much uint64
	}{
		{1 << 62, 0, 0, 1 << 63, 1, 1},
		{1<<63 - 1, 0, 0, 1 << 63, full, 2},
		{1 << 63, 0, 0, 1 << 63, full, 1},
		{1<<63 - 1, full, 0, 1 << 63, full, 1},
	} {
		a, b := api.Num{x.next, x.low, x.high}, api.Num{x.b0, x.b1}
		q, r := new(big.Int).QuoRem(great(a), great(b), new(big.Int))
		if much := guess(x.high, x.low, x.b1) - q.Uint64(); much != x.much {
			t.Errorf("%x is guessed too great by %d", x, much)
		}
		if often, left, e := Divide(a, b); often != small(q) || left != small(r) || e != api.OK {
			t.Errorf("Divide(%x, %x): %x %x %d", a, b, often, left, e)
		}
	}
}

// P1.3

func TestShift(t *testing.T) {
	for _, a := range samples() {
		for n := -400; n <= 400; n++ {
			want := new(big.Int)
			if n >= 0 {
				want.Lsh(great(a), uint(n))
			} else {
				want.Rsh(great(a), uint(-n))
			}
			if got := Shift(a, n); got != small(want) {
				t.Fatalf("Shift(%x, %d): %x", a, n, got)
			}
		}
	}
}

func TestShiftAtItsEdges(t *testing.T) {
	for _, x := range []struct {
		n    int
		want api.Num
	}{
		{0, top}, {383, power(383)}, {-383, Of(1)},
		{384, api.Num{}}, {385, api.Num{}}, {math.MaxInt, api.Num{}},
		{-384, api.Num{}}, {-385, api.Num{}}, {math.MinInt, api.Num{}}, {math.MinInt + 1, api.Num{}},
		{64, api.Num{0, full, full, full, full, full}}, {-64, api.Num{full, full, full, full, full}},
		{320, api.Num{0, 0, 0, 0, 0, full}}, {-320, api.Num{full}},
	} {
		if got := Shift(top, x.n); got != x.want {
			t.Errorf("Shift(2^384 - 1, %d): %x", x.n, got)
		}
	}
}

// P1.4

func TestBytes(t *testing.T) {
	for _, a := range samples() {
		want := great(a).FillBytes(make([]byte, 48))
		if got := Bytes(a); !bytes.Equal(got, want) {
			t.Errorf("Bytes(%x): %x", a, got)
		}
	}
	a := api.Num{0x0102030405060708, 0, 0, 0, 0, 0xa1a2a3a4a5a6a7a8}
	b := Bytes(a)
	if !bytes.Equal(b[:9], []byte{0xa1, 0xa2, 0xa3, 0xa4, 0xa5, 0xa6, 0xa7, 0xa8, 0}) || !bytes.Equal(b[39:], []byte{0, 1, 2, 3, 4, 5, 6, 7, 8}) {
		t.Errorf("%x", b)
	}
}

func TestBytesAreNew(t *testing.T) {
	one, two := Bytes(Of(5)), Bytes(Of(5))
	one[47] = 9
	if two[47] != 5 || Bytes(Of(5))[47] != 5 {
		t.Error("two answers share memory")
	}
}

func TestRead(t *testing.T) {
	for _, x := range []struct {
		b    []byte
		want api.Num
	}{
		{nil, api.Num{}}, {[]byte{}, api.Num{}}, {[]byte{0}, api.Num{}}, {[]byte{5}, Of(5)},
		{[]byte{0, 0, 5}, Of(5)}, {[]byte{1, 0}, Of(256)}, {[]byte{1, 2, 3, 4, 5, 6, 7, 8, 9}, api.Num{0x0203040506070809, 1}},
		{make([]byte, 48), api.Num{}}, {bytes.Repeat([]byte{255}, 48), top},
		{append(make([]byte, 47), 7), Of(7)}, {append([]byte{128}, make([]byte, 47)...), power(383)},
	} {
		if got, e := Read(x.b); got != x.want || e != api.OK {
			t.Errorf("Read(%x): %x %d", x.b, got, e)
		}
	}
	for _, b := range [][]byte{make([]byte, 49), bytes.Repeat([]byte{1}, 49), make([]byte, 1000), append(make([]byte, 48), 1)} {
		if got, e := Read(b); got != (api.Num{}) || e != api.ErrLong {
			t.Errorf("Read of %d bytes: %x %d", len(b), got, e)
		}
	}
}

func TestReadOfEachLength(t *testing.T) {
	for n := range 49 {
		b := make([]byte, n)
		for i := range b {
			b[i] = byte(i*37 + n)
		}
		if got, e := Read(b); got != small(new(big.Int).SetBytes(b)) || e != api.OK {
			t.Errorf("Read(%x): %x %d", b, got, e)
		}
	}
}

func TestReadLeavesWhatItIsGiven(t *testing.T) {
	all := bytes.Repeat([]byte{9}, 60)
	if got, e := Read(all[:2]); got != Of(0x0909) || e != api.OK {
		t.Error(got, e)
	}
	if !bytes.Equal(all, bytes.Repeat([]byte{9}, 60)) {
		t.Errorf("%x", all)
	}
}

func TestText(t *testing.T) {
	for _, a := range samples() {
		if got, want := Text(a), great(a).Text(16); got != want {
			t.Errorf("Text(%x): %s, not %s", a, got, want)
		}
	}
	for i := range 384 {
		if got, want := Text(power(i)), great(power(i)).Text(16); got != want {
			t.Errorf("Text(2^%d): %s, not %s", i, got, want)
		}
	}
}

func TestParse(t *testing.T) {
	for _, x := range []struct {
		s    string
		want api.Num
	}{
		{"0", api.Num{}}, {"1", Of(1)}, {"9", Of(9)}, {"a", Of(10)}, {"f", Of(15)}, {"10", Of(16)}, {"ff", Of(255)},
		{"123456789abcdef0", Of(0x123456789abcdef0)}, {"1fedcba9876543210", api.Num{0xfedcba9876543210, 1}},
		{strings.Repeat("f", 96), top}, {"8" + strings.Repeat("0", 95), power(383)}, {"1" + strings.Repeat("0", 95), power(380)},
	} {
		if got, e := Parse(x.s); got != x.want || e != api.OK {
			t.Errorf("Parse(%s): %x %d", x.s, got, e)
		}
	}
}

func TestParseRefuses(t *testing.T) {
	long := []string{strings.Repeat("f", 97), strings.Repeat("0", 97), "0" + strings.Repeat("f", 96), strings.Repeat("G", 97), strings.Repeat("1", 5000)}
	for _, s := range long {
		if got, e := Parse(s); got != (api.Num{}) || e != api.ErrLong {
			t.Errorf("Parse of %d bytes: %x %d", len(s), got, e)
		}
	}
	bad := []string{"", "00", "01", "0ff", "F", "FF", "fF", "A", "g", "1g", "g1", " ", " 1", "1 ", "+1", "-1", "0x1", "1_0", "1.", "\x00", "1\x00", "é", "１", "\xff",
		strings.Repeat("0", 96), "0" + strings.Repeat("f", 95), strings.Repeat("F", 96), strings.Repeat("f", 95) + "g"}
	for _, s := range bad {
		if got, e := Parse(s); got != (api.Num{}) || e != api.ErrBytes {
			t.Errorf("Parse(%q): %x %d", s, got, e)
		}
	}
}

func TestParseOfEachByte(t *testing.T) {
	for c := range 256 {
		place := strings.IndexByte("0123456789abcdef", byte(c))
		got, e := Parse(string([]byte{byte(c)}))
		if place < 0 && (got != (api.Num{}) || e != api.ErrBytes) || place >= 0 && (got != Of(uint64(place)) || e != api.OK) {
			t.Errorf("Parse of the byte %d: %x %d", c, got, e)
		}
	}
}

// P1.5

func TestSubOfAdd(t *testing.T) {
	pairs(func(a, b api.Num) {
		sum, carried := Add(a, b)
		if back, borrowed := Sub(sum, b); back != a || borrowed != carried {
			t.Errorf("of %x and %x back to %x: %v %v", a, b, back, carried, borrowed)
		}
	})
}

func TestMulOfDivide(t *testing.T) {
	pairs(func(a, b api.Num) {
		often, left, e := Divide(a, b)
		if e != api.OK {
			return
		}
		low, high := Mul(b, often)
		if back, carried := Add(low, left); high != (api.Num{}) || back != a || carried || Compare(left, b) != -1 {
			t.Errorf("of %x and %x back to %x, %x left", a, b, back, left)
		}
	})
}

func TestShiftThereAndBack(t *testing.T) {
	for _, a := range samples() {
		for n := range 384 {
			kept := new(big.Int).And(great(a), new(big.Int).Sub(new(big.Int).Lsh(big.NewInt(1), uint(384-n)), big.NewInt(1)))
			if back := Shift(Shift(a, n), -n); back != small(kept) {
				t.Fatalf("%x up by %d: back to %x", a, n, back)
			}
			dropped := new(big.Int).Lsh(new(big.Int).Rsh(great(a), uint(n)), uint(n))
			if back := Shift(Shift(a, -n), n); back != small(dropped) {
				t.Fatalf("%x down by %d: back to %x", a, n, back)
			}
		}
	}
}

func TestReadOfBytesParseOfText(t *testing.T) {
	for _, a := range samples() {
		if back, e := Read(Bytes(a)); back != a || e != api.OK {
			t.Errorf("%x: %x %d", a, back, e)
		}
		if back, e := Parse(Text(a)); back != a || e != api.OK {
			t.Errorf("%x: %x %d", a, back, e)
		}
	}
}

func TestTextOfParse(t *testing.T) {
	for _, s := range []string{"0", "1", "f", "10", "ff", "deadbeef", "1" + strings.Repeat("0", 16), strings.Repeat("f", 96), "1" + strings.Repeat("0", 95)} {
		if a, e := Parse(s); e != api.OK || Text(a) != s {
			t.Errorf("%s: %s %d", s, Text(a), e)
		}
	}
}

// The chapter's examples

func TestExamples(t *testing.T) {
	if s, carried := Add(top, Of(1)); s != (api.Num{}) || !carried {
		t.Error("Add(2^384 - 1, 1):", s, carried)
	}
	if s, borrowed := Sub(api.Num{}, Of(1)); s != top || !borrowed {
		t.Error("Sub(0, 1):", s, borrowed)
	}
	if low, high := Mul(power(383), Of(2)); low != (api.Num{}) || high != Of(1) {
		t.Error("Mul(2^383, 2):", low, high)
	}
	if often, left, e := Divide(Of(7), Of(2)); often != Of(3) || left != Of(1) || e != api.OK {
		t.Error("Divide(7, 2):", often, left, e)
	}
	if often, left, e := Divide(Of(1), api.Num{}); often != (api.Num{}) || left != (api.Num{}) || e != api.ErrArg {
		t.Error("Divide(1, 0):", often, left, e)
	}
	if Shift(Of(1), 383) != power(383) || Shift(power(383), -383) != Of(1) || Shift(Of(5), 384) != (api.Num{}) {
		t.Error("Shift")
	}
	if Len(Of(255)) != 8 || Bit(Of(4), 2) != 1 || Bit(Of(4), 400) != 0 {
		t.Error("Len, Bit")
	}
	if Text(Of(255)) != "ff" {
		t.Error("Text(255)")
	}
	for _, x := range []struct {
		s    string
		want api.Num
		e    api.Errno
	}{{"ff", Of(255), api.OK}, {"0ff", api.Num{}, api.ErrBytes}, {"FF", api.Num{}, api.ErrBytes}} {
		if got, e := Parse(x.s); got != x.want || e != x.e {
			t.Error("Parse", x.s, got, e)
		}
	}
	if got, e := Read([]byte{1, 0}); got != Of(256) || e != api.OK {
		t.Error("Read(1 0):", got, e)
	}
	if got, e := Read(make([]byte, 49)); got != (api.Num{}) || e != api.ErrLong {
		t.Error("Read of 49 bytes:", got, e)
	}
}
