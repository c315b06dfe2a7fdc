package journal

import (
	"bytes"
	"encoding/binary"
	"math/rand"
	"testing"

	"reliquary/api"
	"reliquary/disk"
)

// checkByWords is the check as the chapter says it, bit by bit.
func checkByWords(b []byte) uint32 {
	number := uint32(0xFFFFFFFF)
	for _, c := range b {
		number = number&0xFFFFFF00 | (number&0xFF ^ uint32(c))
		for range 8 {
			fell := number % 2
			number /= 2
			if fell == 1 {
				number ^= 0xEDB88320
			}
		}
	}
	return 0xFFFFFFFF - number
}

// four tells a number's four bytes.
func four(n uint32) []byte { return binary.BigEndian.AppendUint32(nil, n) }

// frameByWords puts a frame together from its four parts.
func frameByWords(b []byte) []byte {
	length := four(uint32(len(b)))
	return bytes.Join([][]byte{length, four(checkByWords(length)), b, four(checkByWords(b))}, nil)
}

// logOf tells frames one behind the other.
func logOf(records ...[]byte) []byte {
	var b []byte
	for _, r := range records {
		b = append(b, frameByWords(r)...)
	}
	return b
}

// readByWords reads a log as the chapter says it, by the place in all of the bytes.
func readByWords(b []byte) (records [][]byte, size int, e api.Errno) {
	for at := 0; ; {
		if len(b)-at < 8 {
			return records, at, api.OK
		}
		length := binary.BigEndian.Uint32(b[at:])
		if checkByWords(b[at:at+4]) != binary.BigEndian.Uint32(b[at+4:]) || length > 65536 {
			return nil, 0, api.ErrBroken
		}
		end := at + 8 + int(length)
		if len(b) < end+4 {
			return records, at, api.OK
		}
		if checkByWords(b[at+8:end]) != binary.BigEndian.Uint32(b[end:]) {
			return nil, 0, api.ErrBroken
		}
		records = append(records, b[at+8:end])
		at = end + 4
	}
}

// message tells n bytes that look like chance, the same ones each time.
func message(n int) []byte {
	b := make([]byte, n)
	rand.New(rand.NewSource(int64(n))).Read(b)
	return b
}

// sameLists tells whether two lists have the same records.
func sameLists(a, b [][]byte) bool {
	if len(a) != len(b) {
		return false
	}
	for i := range a {
		if !bytes.Equal(a[i], b[i]) {
			return false
		}
	}
	return true
}

// newDisk tells a disk.
func newDisk(t *testing.T, refused ...int) *disk.Disk {
	t.Helper()
	d, e := disk.New(refused)
	if e != api.OK {
		t.Fatal(e)
	}
	return d
}

// laid tells a disk on which a file has bytes, safe ones. That took two operations.
func laid(t *testing.T, name string, b []byte, refused ...int) *disk.Disk {
	t.Helper()
	d := newDisk(t, refused...)
	fine(t, d.Append(name, b), d.Sync(name))
	return d
}

// opened opens a log that must have these records.
func opened(t *testing.T, d *disk.Disk, name string, want ...[]byte) *Journal {
	t.Helper()
	j, l, e := Open(d, name)
	if e != api.OK || j == nil || !sameLists(l, want) {
		t.Fatal(name, l, e, "not", want)
	}
	counts(t, j, want...)
	return j
}

// shut looks whether a log is not opened, and nothing is answered beside the error.
func shut(t *testing.T, d *disk.Disk, name string, want api.Errno) {
	t.Helper()
	if j, l, e := Open(d, name); j != nil || l != nil || e != want {
		t.Errorf("%q: %t %d %v, not %v", name, j != nil, len(l), e, want)
	}
}

// counts looks whether a journal counts these records.
func counts(t *testing.T, j *Journal, want ...[]byte) {
	t.Helper()
	if size := len(logOf(want...)); j.Len() != len(want) || j.Size() != size {
		t.Error(j.Len(), j.Size(), "not", len(want), size)
	}
}

// has looks whether a file has these bytes, and so many operations under way.
func has(t *testing.T, d *disk.Disk, name string, pending int, want []byte) {
	t.Helper()
	if b, e := d.Read(name); e != api.OK || !bytes.Equal(b, want) || d.Pending(name) != pending {
		t.Error(name, b, e, d.Pending(name), "not", want, pending)
	}
}

// fine looks whether all of the answers are OK.
func fine(t *testing.T, l ...api.Errno) {
	t.Helper()
	for i, e := range l {
		if e != api.OK {
			t.Error(i, e)
		}
	}
}

// is looks whether an answer is the one that is wanted.
func is(t *testing.T, got, want api.Errno) {
	t.Helper()
	if got != want {
		t.Error(got, "not", want)
	}
}
