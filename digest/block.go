package digest

import "math/bits"

// size is how many bytes a block has.
const size = 64

// state is the eight numbers that blocks are mixed into.
type state [8]uint32

// block is what is mixed in at once.
type block [size]byte

// first is what the eight numbers begin with.
var first = state{
	0x6a09e667, 0xbb67ae85, 0x3c6ef372, 0xa54ff53a,
	0x510e527f, 0x9b05688c, 0x1f83d9ab, 0x5be0cd19,
}

// rounds are the first 32 bits of the cube roots' fractions of the first 64 primes.
var rounds = [size]uint32{
	0x428a2f98, 0x71374491, 0xb5c0fbcf, 0xe9b5dba5, 0x3956c25b, 0x59f111f1, 0x923f82a4, 0xab1c5ed5,
	0xd807aa98, 0x12835b01, 0x243185be, 0x550c7dc3, 0x72be5d74, 0x80deb1fe, 0x9bdc06a7, 0xc19bf174,
	0xe49b69c1, 0xefbe4786, 0x0fc19dc6, 0x240ca1cc, 0x2de92c6f, 0x4a7484aa, 0x5cb0a9dc, 0x76f988da,
	0x983e5152, 0xa831c66d, 0xb00327c8, 0xbf597fc7, 0xc6e00bf3, 0xd5a79147, 0x06ca6351, 0x14292967,
	0x27b70a85, 0x2e1b2138, 0x4d2c6dfc, 0x53380d13, 0x650a7354, 0x766a0abb, 0x81c2c92e, 0x92722c85,
	0xa2bfe8a1, 0xa81a664b, 0xc24b8b70, 0xc76c51a3, 0xd192e819, 0xd6990624, 0xf40e3585, 0x106aa070,
	0x19a4c116, 0x1e376c08, 0x2748774c, 0x34b0bcb5, 0x391c0cb3, 0x4ed8aa4a, 0x5b9cca4f, 0x682e6ff3,
	0x748f82ee, 0x78a5636f, 0x84c87814, 0x8cc70208, 0x90befffa, 0xa4506ceb, 0xbef9a3f7, 0xc67178f2,
}

// mix tells what the eight numbers are with one more block.
func mix(s state, x block) state {
	w := spread(x)
	a, b, c, d, e, f, g, h := s[0], s[1], s[2], s[3], s[4], s[5], s[6], s[7]
	for t := range w {
		p := h + great1(e) + (e&f ^ ^e&g) + rounds[t] + w[t]
		q := great0(a) + (a&b ^ a&c ^ b&c)
		h, g, f, e, d, c, b, a = g, f, e, d+p, c, b, a, p+q
	}
	return state{s[0] + a, s[1] + b, s[2] + c, s[3] + d, s[4] + e, s[5] + f, s[6] + g, s[7] + h}
}

// spread makes a block's 16 numbers 64.
func spread(x block) [64]uint32 {
	var w [64]uint32
	for t := range 16 {
		w[t] = uint32(x[4*t])<<24 | uint32(x[4*t+1])<<16 | uint32(x[4*t+2])<<8 | uint32(x[4*t+3])
	}
	for t := 16; t < len(w); t++ {
		w[t] = small1(w[t-2]) + w[t-7] + small0(w[t-15]) + w[t-16]
	}
	return w
}

// turned tells a number whose bits are moved to the right, those that fall out put in front.
func turned(x uint32, k int) uint32 { return bits.RotateLeft32(x, -k) }

func small0(x uint32) uint32 { return turned(x, 7) ^ turned(x, 18) ^ x>>3 }

func small1(x uint32) uint32 { return turned(x, 17) ^ turned(x, 19) ^ x>>10 }

func great0(x uint32) uint32 { return turned(x, 2) ^ turned(x, 13) ^ turned(x, 22) }

func great1(x uint32) uint32 { return turned(x, 6) ^ turned(x, 11) ^ turned(x, 25) }
