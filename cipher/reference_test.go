package cipher

import (
	"bytes"
	"encoding/binary"
	"encoding/hex"
	"math/big"
	"math/rand"
	"slices"
	"strings"
	"testing"

	"reliquary/api"
)

// The chapter's words once more, with numbers of any length and each text put
// together whole.

// slowBlock is the block of a key, a nonce and a counter.
func slowBlock(key, nonce []byte, counter uint32) []byte {
	all := []byte("expand 32-byte k") // the bytes of the chapter's first four numbers
	all = append(append(all, key...), binary.LittleEndian.AppendUint32(nil, counter)...)
	all = append(all, nonce...)
	var first []uint64
	for i := 0; i < len(all); i += 4 {
		first = append(first, uint64(binary.LittleEndian.Uint32(all[i:])))
	}
	x := slices.Clone(first)
	for range 10 {
		for _, q := range [][4]int{
			{0, 4, 8, 12}, {1, 5, 9, 13}, {2, 6, 10, 14}, {3, 7, 11, 15},
			{0, 5, 10, 15}, {1, 6, 11, 12}, {2, 7, 8, 13}, {3, 4, 9, 14},
		} {
			slowQuarter(x, q)
		}
	}
	var out []byte
	for i := range x {
		out = binary.LittleEndian.AppendUint32(out, uint32((x[i]+first[i])%(1<<32)))
	}
	return out
}

// slowQuarter is a quarter round of numbers that do not wrap by themselves.
func slowQuarter(x []uint64, q [4]int) {
	a, b, c, d := q[0], q[1], q[2], q[3]
	for _, step := range []struct {
		sum, more, turned int
		by                uint
	}{{a, b, d, 16}, {c, d, b, 12}, {a, b, d, 8}, {c, d, b, 7}} {
		x[step.sum] = (x[step.sum] + x[step.more]) % (1 << 32)
		y := x[step.turned] ^ x[step.sum]
		x[step.turned] = (y<<step.by)%(1<<32) + y>>(32-step.by)
	}
}

// slowStream is the stream of a text.
func slowStream(key, nonce []byte, counter uint32, b []byte) []byte {
	var blocks, out []byte
	for len(blocks) < len(b) {
		blocks = append(blocks, slowBlock(key, nonce, counter)...)
		counter++
	}
	for i, x := range b {
		out = append(out, x^blocks[i])
	}
	return out
}

// low is the number of some bytes, the lowest first.
func low(b []byte) *big.Int {
	b = bytes.Clone(b)
	slices.Reverse(b)
	return new(big.Int).SetBytes(b)
}

// sixteen is a number's sixteen lowest bytes, the lowest first.
func sixteen(x *big.Int) []byte {
	x = new(big.Int).Mod(x, power(128))
	b := x.FillBytes(make([]byte, 16))
	slices.Reverse(b)
	return b
}

// power is a power of 2.
func power(n uint) *big.Int { return new(big.Int).Lsh(big.NewInt(1), n) }

// prime is 2^130 - 5.
func prime() *big.Int { return new(big.Int).Sub(power(130), big.NewInt(5)) }

// slowR is the number r of a one-time key.
func slowR(key []byte) *big.Int {
	r := bytes.Clone(key[:16])
	for _, i := range []int{3, 7, 11, 15} {
		r[i] &= 15
	}
	for _, i := range []int{4, 8, 12} {
		r[i] &= 252
	}
	return low(r)
}

// slowTag is the tag of a text under a one-time key.
func slowTag(key, b []byte) []byte {
	r, a := slowR(key), new(big.Int)
	for part := range slices.Chunk(b, 16) {
		a.Add(a, low(append(bytes.Clone(part), 1)))
		a.Mod(a.Mul(a, r), prime())
	}
	return sixteen(a.Add(a, low(key[16:32])))
}

// tagged is what the tag of a sealed text is made of.
func tagged(sealed, more []byte) []byte {
	var all []byte
	for _, b := range [][]byte{more, sealed} {
		all = append(all, b...)
		for len(all)%16 > 0 {
			all = append(all, 0)
		}
	}
	all = binary.LittleEndian.AppendUint64(all, uint64(len(more)))
	return binary.LittleEndian.AppendUint64(all, uint64(len(sealed)))
}

// slowSealed is a sealed text with its tag.
func slowSealed(key, nonce, b, more []byte) []byte {
	sealed := slowStream(key, nonce, 1, b)
	return append(sealed, slowTag(slowBlock(key, nonce, 0)[:32], tagged(sealed, more))...)
}

// What must not be refused.

func block(t *testing.T, key, nonce []byte, counter uint32) []byte {
	t.Helper()
	b, e := Block(key, nonce, counter)
	if e != api.OK || len(b) != 64 {
		t.Fatalf("Block of the counter %d: %d bytes, %v", counter, len(b), e)
	}
	return b
}

func streamed(t *testing.T, key, nonce []byte, counter uint32, b []byte) []byte {
	t.Helper()
	s, e := Stream(key, nonce, counter, b)
	if e != api.OK || len(s) != len(b) {
		t.Fatalf("Stream of %d bytes: %d bytes, %v", len(b), len(s), e)
	}
	return s
}

func tag(t *testing.T, key, b []byte) []byte {
	t.Helper()
	x, e := Tag(key, b)
	if e != api.OK || len(x) != 16 {
		t.Fatalf("Tag of %d bytes: %d bytes, %v", len(b), len(x), e)
	}
	return x
}

func sealed(t *testing.T, key, nonce, b, more []byte) []byte {
	t.Helper()
	s, e := Seal(key, nonce, b, more)
	if e != api.OK || len(s) != len(b)+16 {
		t.Fatalf("Seal of %d bytes: %d bytes, %v", len(b), len(s), e)
	}
	return s
}

func opened(t *testing.T, key, nonce, b, more []byte) []byte {
	t.Helper()
	s, e := Open(key, nonce, b, more)
	if e != api.OK || len(s) != len(b)-16 {
		t.Fatalf("Open of %d bytes: %d bytes, %v", len(b), len(s), e)
	}
	return s
}

// message is n bytes that look like chance, the same ones for one kind each time.
func message(kind, n int) []byte {
	b := make([]byte, n)
	rand.New(rand.NewSource(int64(kind)<<32 + int64(n))).Read(b)
	return b
}

// from is n bytes, each by one more than the one ahead of it.
func from(first, n int) []byte {
	b := make([]byte, n)
	for i := range b {
		b[i] = byte(first + i)
	}
	return b
}

// filled is a text with bytes 0 behind it.
func filled(n int, b ...byte) []byte { return append(b, make([]byte, n-len(b))...) }

// read16 is the bytes of a text of digits in base 16, with spaces between.
func read16(s string) []byte {
	b, err := hex.DecodeString(strings.ReplaceAll(s, " ", ""))
	if err != nil {
		panic(err)
	}
	return b
}
