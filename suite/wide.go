package suite

import (
	"reliquary/api"
	"reliquary/digest"
	"reliquary/modulus"
)

const (
	lengthSize = 4 // bytes of a part's length
	wordSize   = 8
	wideWords  = 8 // words of a wide number: those of two digests
)

// joined tells parts as one text.
func joined(parts [][]byte) ([]byte, api.Errno) {
	size := 0
	for _, part := range parts {
		size += lengthSize + len(part)
		if size > api.MaxText {
			return nil, api.ErrLong
		}
	}
	text := make([]byte, 0, size)
	for _, part := range parts {
		for i := lengthSize - 1; i >= 0; i-- {
			text = append(text, byte(len(part)>>(8*i)))
		}
		text = append(text, part...)
	}
	return text, api.OK
}

// wide tells the wide number of a tag and parts as one text, its words the lowest first.
func wide(tag byte, text []byte) [wideWords]uint64 {
	var number [wideWords]uint64
	said := append([]byte{tag, 0}, text...)
	place := wideWords * wordSize
	for half := range 2 {
		said[1] = byte(half)
		for _, b := range digest.Sum(said) {
			place--
			number[place/wordSize] = number[place/wordSize]<<8 | uint64(b)
		}
	}
	return number
}

// left tells what is left by a suite's prime of the wide number of a tag and parts as
// one text.
func left(prime api.Num, tag byte, text []byte) api.Num {
	m, _ := modulus.New(prime)
	number := wide(tag, text)
	var low, high api.Num
	copy(high[:], number[copy(low[:], number[:]):])
	return m.Wide(low, high)
}
