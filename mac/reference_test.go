package mac

import (
	"crypto/hkdf"
	"crypto/hmac"
	"crypto/sha256"
	"encoding/hex"
	"math/rand"
	"strings"
	"testing"

	"reliquary/api"
)

// The chapter's words once more, each text put together whole.

// slowCode is the code by Go's own SHA-256.
func slowCode(key, b []byte) api.Digest {
	if len(key) > 64 {
		d := sha256.Sum256(key)
		key = d[:]
	}
	key = append(append([]byte{}, key...), make([]byte, 64-len(key))...)
	inner := sha256.Sum256(append(xored(key, 54), b...))
	return sha256.Sum256(append(xored(key, 92), inner[:]...))
}

func xored(b []byte, x byte) []byte {
	var out []byte
	for _, c := range b {
		out = append(out, c^x)
	}
	return out
}

// slowExpanded is all 8,160 bytes that a key can be expanded to.
func slowExpanded(key, info []byte) []byte {
	var all, last []byte
	for i := 1; i <= 255; i++ {
		text := append(append([]byte{}, last...), info...)
		t := slowCode(key, append(text, byte(i)))
		last = t[:]
		all = append(all, last...)
	}
	return all
}

// libraryCode is the code by Go's library.
func libraryCode(key, b []byte) api.Digest {
	h := hmac.New(sha256.New, key)
	h.Write(b)
	return api.Digest(h.Sum(nil))
}

// libraryExpanded is what Go's library expands a key to.
func libraryExpanded(t *testing.T, key, info []byte, n int) []byte {
	t.Helper()
	b, err := hkdf.Expand(sha256.New, key, string(info), n)
	if err != nil {
		t.Fatal(err)
	}
	return b
}

// libraryDerived is what Go's library derives.
func libraryDerived(t *testing.T, salt, material, info []byte, n int) []byte {
	t.Helper()
	b, err := hkdf.Key(sha256.New, material, salt, string(info), n)
	if err != nil {
		t.Fatal(err)
	}
	return b
}

// message is n bytes that look like chance, the same ones for one kind each time.
func message(kind, n int) []byte {
	b := make([]byte, n)
	rand.New(rand.NewSource(int64(kind)<<32 + int64(n))).Read(b)
	return b
}

// from is n bytes, each by one more than the one ahead of it.
func from(first, n int) []byte {
	b := make([]byte, n)
	for i := range b {
		b[i] = byte(first + i)
	}
	return b
}

// read is the bytes of a text of digits, with spaces between.
func read(t *testing.T, s string) []byte {
	t.Helper()
	b, err := hex.DecodeString(strings.ReplaceAll(s, " ", ""))
	if err != nil {
		t.Fatal(err)
	}
	return b
}
