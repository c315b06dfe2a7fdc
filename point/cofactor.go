package point

import (
	"strconv"

	"reliquary/api"
)

// The cofactors: how many points the curves have, over r.
const (
	firstCofactor  = "396c8c005555e1568c00aaab0000aaab"
	secondCofactor = "5d543a95414e7f1091d50792876a202cd91de4547085abaa68a205b2e5a7ddfa628f1cb4d9e82ef21537e293a6691ae1616ec6e786f0c70cf1c38e31c7238e5"
)

// perWord is how many digits a word has.
const perWord = 16

// wordsOf reads the digits from their end on, so that the lowest word comes first.
func wordsOf(digits string) []uint64 {
	var list []uint64
	for end := len(digits); end > 0; end -= perWord {
		word, _ := strconv.ParseUint(digits[max(end-perWord, 0):end], 16, 64)
		list = append(list, word)
	}
	return list
}

// joined makes one number of at most six words.
func joined(list []uint64) api.Num {
	var n api.Num
	copy(n[:], list)
	return n
}
