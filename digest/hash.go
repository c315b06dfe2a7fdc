package digest

import "reliquary/api"

// begun is a hash of no bytes.
func begun() Hash { return Hash{made: true, words: first} }

// known tells whether the hash is one that this package made.
func (h *Hash) known() bool { return h != nil && h.made }

// filled is how many bytes of the rest were written.
func (h *Hash) filled() int { return int(h.count % size) }

// add takes bytes in, a block at a time.
func (h *Hash) add(b []byte) {
	for len(b) > 0 {
		n := copy(h.rest[h.filled():], b)
		h.count += uint64(n)
		if h.filled() == 0 {
			h.words = mix(h.words, h.rest)
		}
		b = b[n:]
	}
}

// finish tells what a hash comes to with its ending. The hash is a copy, so
// that the caller's may be written to further.
func finish(h Hash) api.Digest {
	bits := eight(8 * h.count)
	n := h.filled()
	h.rest[n] = 128
	clear(h.rest[n+1:])
	if n+1 > size-len(bits) { // no room is left for the length
		h.words = mix(h.words, h.rest)
		h.rest = block{}
	}
	copy(h.rest[size-len(bits):], bits[:])
	return bytesOf(mix(h.words, h.rest))
}

// bytesOf tells the bytes of the eight numbers, the highest of each first.
func bytesOf(s state) api.Digest {
	var d api.Digest
	for i, x := range s {
		d[4*i], d[4*i+1], d[4*i+2], d[4*i+3] = byte(x>>24), byte(x>>16), byte(x>>8), byte(x)
	}
	return d
}

// eight tells a number as eight bytes, the highest first.
func eight(x uint64) [8]byte {
	var b [8]byte
	for i := range b {
		b[i] = byte(x >> (56 - 8*i))
	}
	return b
}
