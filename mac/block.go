package mac

import "reliquary/digest"

// size is how many bytes a block of the digest has: a key is filled up to it.
const size = 64

// What each byte of the key is changed by, ahead of the message and ahead of
// its digest.
const (
	inside  = 54
	outside = 92
)

// block is a key that was filled up. It is handed on by value, so that the
// caller's key is never written to.
type block [size]byte

// filled tells a key's block.
func filled(key []byte) block {
	var k block
	if len(key) > size {
		d := digest.Sum(key)
		copy(k[:], d[:])
	} else {
		copy(k[:], key)
	}
	return k
}

// masked tells a block with each byte xor x.
func masked(k block, x byte) block {
	for i := range k {
		k[i] ^= x
	}
	return k
}
