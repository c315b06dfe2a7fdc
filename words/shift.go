package words

import "reliquary/api"

// Shift shifts a number to the left, or, below 0, to the right.
func Shift(a api.Num, n int) api.Num {
	// The bounds come first: the lowest int has no negative of its own.
	if n >= numBits || n <= -numBits {
		return api.Num{}
	}
	if n < 0 {
		return shiftDown(a, -n)
	}
	return shiftUp(a, n)
}

// shiftUp and shiftDown put each word together from two: where n is a whole
// number of words the second one is shifted by 64, and nothing is left of it.

func shiftUp(a api.Num, n int) api.Num {
	var up api.Num
	skip, turn := n/wordBits, n%wordBits
	for i := skip; i < len(a); i++ {
		up[i] = a[i-skip] << turn
		if i > skip {
			up[i] |= a[i-skip-1] >> (wordBits - turn)
		}
	}
	return up
}

func shiftDown(a api.Num, n int) api.Num {
	var down api.Num
	skip, turn := n/wordBits, n%wordBits
	for i := skip; i < len(a); i++ {
		down[i-skip] = a[i] >> turn
		if i+1 < len(a) {
			down[i-skip] |= a[i+1] << (wordBits - turn)
		}
	}
	return down
}
