package digest

import (
	"encoding/binary"
	"encoding/hex"
	"math/big"
	"testing"

	"reliquary/api"
)

// The chapter's words once more, with its numbers worked out of the primes: the
// whole message is put together, and all is counted in numbers of 64 bits.

func primes(n int) []int64 {
	var l []int64
	for x := int64(2); len(l) < n; x++ {
		if big.NewInt(x).ProbablyPrime(0) {
			l = append(l, x)
		}
	}
	return l
}

// rootBits tells the first 32 bits of a root's fraction: the root of p times
// 2^(32 k), rounded down, is the root of p times 2^32.
func rootBits(p int64, k int) uint64 {
	x := new(big.Int).Lsh(big.NewInt(p), uint(32*k))
	low, high := big.NewInt(0), new(big.Int).Lsh(big.NewInt(p), 32)
	for low.Cmp(high) < 0 {
		middle := new(big.Int).Add(low, high)
		middle.Add(middle, big.NewInt(1)).Rsh(middle, 1)
		if new(big.Int).Exp(middle, big.NewInt(int64(k)), nil).Cmp(x) <= 0 {
			low = middle
		} else {
			high = middle.Sub(middle, big.NewInt(1))
		}
	}
	return low.Uint64() & 0xffffffff
}

func TestTablesAreThePrimesRoots(t *testing.T) {
	for i, p := range primes(64) {
		if got := rootBits(p, 3); uint64(rounds[i]) != got {
			t.Errorf("rounds[%d] is %x, not %x", i, rounds[i], got)
		}
		if i < 8 && uint64(first[i]) != rootBits(p, 2) {
			t.Errorf("first[%d] is %x", i, first[i])
		}
	}
}

// around turns 32 bits to the right.
func around(x uint64, k int) uint64 { return (x>>k | x<<(32-k)) & 0xffffffff }

func slow(b []byte) api.Digest {
	m := append(append([]byte{}, b...), 128)
	for len(m)%64 != 56 {
		m = append(m, 0)
	}
	m = binary.BigEndian.AppendUint64(m, uint64(len(b))*8)
	var s [8]uint64
	var k [64]uint64
	for i, p := range primes(64) {
		k[i] = rootBits(p, 3)
		if i < 8 {
			s[i] = rootBits(p, 2)
		}
	}
	for ; len(m) > 0; m = m[64:] {
		slowBlock(&s, k, m)
	}
	var d api.Digest
	for i, x := range s {
		binary.BigEndian.PutUint32(d[4*i:], uint32(x))
	}
	return d
}

func slowBlock(s *[8]uint64, k [64]uint64, m []byte) {
	const low = 0xffffffff
	var w [64]uint64
	for t := range w {
		if t < 16 {
			w[t] = uint64(binary.BigEndian.Uint32(m[4*t:]))
			continue
		}
		x, y := w[t-15], w[t-2]
		s0 := around(x, 7) ^ around(x, 18) ^ x>>3
		s1 := around(y, 17) ^ around(y, 19) ^ y>>10
		w[t] = (s1 + w[t-7] + s0 + w[t-16]) & low
	}
	v := *s
	for t := range w {
		a, b, c, e, f, g, h := v[0], v[1], v[2], v[4], v[5], v[6], v[7]
		p := h + (around(e, 6) ^ around(e, 11) ^ around(e, 25)) + ((e & f) ^ (g &^ e)) + k[t] + w[t]
		q := (around(a, 2) ^ around(a, 13) ^ around(a, 22)) + ((a & b) ^ (a & c) ^ (b & c))
		v = [8]uint64{(p + q) & low, a, b, c, (v[3] + p) & low, e, f, g}
	}
	for i := range s {
		s[i] = (s[i] + v[i]) & low
	}
}

func textOf(d api.Digest) string { return hex.EncodeToString(d[:]) }
