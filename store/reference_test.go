package store

import (
	"bytes"
	"encoding/binary"
	"hash/crc32"
	"maps"
	"math/rand"
	"slices"
	"testing"

	"reliquary/api"
	"reliquary/disk"
)

// four and eight tell a number's bytes.
func four(n uint32) []byte  { return binary.BigEndian.AppendUint32(nil, n) }
func eight(n uint64) []byte { return binary.BigEndian.AppendUint64(nil, n) }

// frameOf puts a frame together from its four parts.
func frameOf(b []byte) []byte {
	length := four(uint32(len(b)))
	return bytes.Join([][]byte{length, four(crc32.ChecksumIEEE(length)), b, four(crc32.ChecksumIEEE(b))}, nil)
}

// framesOf tells frames one behind the other.
func framesOf(records ...[]byte) []byte {
	var b []byte
	for _, r := range records {
		b = append(b, frameOf(r)...)
	}
	return b
}

// fieldsOf tells fields as one text.
func fieldsOf(l ...string) []byte {
	b := four(uint32(len(l)))
	for _, f := range l {
		b = append(append(b, four(uint32(len(f)))...), f...)
	}
	return b
}

// batchOf tells a batch's record.
func batchOf(l ...api.Change) []byte {
	var fields []string
	for _, c := range l {
		mark := "\x00"
		if c.Gone {
			mark = "\x01"
		}
		fields = append(fields, mark, c.Key, string(c.Value))
	}
	return fieldsOf(fields...)
}

// snapOf tells a checkpoint's bytes: of keys and values by turns.
func snapOf(generation uint64, l ...string) []byte {
	b := frameOf(eight(generation))
	for pair := range slices.Chunk(l, 2) {
		b = append(b, frameOf(fieldsOf(pair...))...)
	}
	return b
}

// put and drop tell a change.
func put(key, value string) api.Change { return api.Change{Key: key, Value: []byte(value)} }
func drop(key string) api.Change       { return api.Change{Key: key, Gone: true} }

// batch tells changes as a list.
func batch(l ...api.Change) []api.Change { return l }

// model is what a store must have.
type model map[string]string

// after tells what batches make of the model.
func (m model) after(batches ...[]api.Change) model {
	n := maps.Clone(m)
	if n == nil {
		n = model{}
	}
	for _, l := range batches {
		for _, c := range l {
			n[c.Key] = string(c.Value)
			if c.Gone {
				delete(n, c.Key)
			}
		}
	}
	return n
}

// modelOf tells the model of keys and values by turns.
func modelOf(l ...string) model {
	m := model{}
	for pair := range slices.Chunk(l, 2) {
		m[pair[0]] = pair[1]
	}
	return m
}

// snap tells the bytes of a checkpoint of the model.
func (m model) snap(generation int) []byte {
	var l []string
	for _, key := range slices.Sorted(maps.Keys(m)) {
		l = append(l, key, m[key])
	}
	return snapOf(uint64(generation), l...)
}

// text tells n bytes that look like chance, the same ones each time.
func text(n int) string {
	b := make([]byte, n)
	rand.New(rand.NewSource(int64(n))).Read(b)
	return string(b)
}

// newDisk tells a disk.
func newDisk(t *testing.T, refused ...int) *disk.Disk {
	t.Helper()
	d, e := disk.New(refused)
	if e != api.OK {
		t.Fatal(e)
	}
	return d
}

// lay lays a file down, safe. That takes two operations.
func lay(t *testing.T, d *disk.Disk, name string, b []byte) {
	t.Helper()
	fine(t, d.Append(name, b), d.Sync(name))
}

// opened opens a store that must be of this generation and have this.
func opened(t *testing.T, d *disk.Disk, base string, generation int, want model) *Store {
	t.Helper()
	s, e := Open(d, base)
	if e != api.OK || s == nil {
		t.Fatal(base, e)
	}
	has(t, s, generation, want)
	return s
}

// shut looks whether a store is not opened, and nothing is answered beside the error.
func shut(t *testing.T, d *disk.Disk, base string, want api.Errno) {
	t.Helper()
	if s, e := Open(d, base); s != nil || e != want {
		t.Errorf("%q: %t %v, not %v", base, s != nil, e, want)
	}
}

// has looks whether a store is of this generation and has this, by all that it tells.
func has(t *testing.T, s *Store, generation int, want model) {
	t.Helper()
	if s.Len() != len(want) || s.Generation() != generation {
		t.Error(s.Len(), s.Generation(), "not", len(want), generation)
	}
	l := s.Pairs()
	if len(l) != len(want) {
		t.Fatal(len(l), "not", len(want))
	}
	for i, key := range slices.Sorted(maps.Keys(want)) {
		if l[i].Key != key || string(l[i].Value) != want[key] {
			t.Fatalf("%d: %q %q, not %q %q", i, l[i].Key, l[i].Value, key, want[key])
		}
		if v, ok := s.Get(key); !ok || string(v) != want[key] {
			t.Fatalf("%q: %q %t, not %q", key, v, ok, want[key])
		}
	}
}

// hasFile looks whether a file has these bytes, and so many operations under way.
func hasFile(t *testing.T, d *disk.Disk, name string, pending int, want []byte) {
	t.Helper()
	if b, e := d.Read(name); e != api.OK || !bytes.Equal(b, want) || d.Pending(name) != pending {
		t.Error(name, len(b), e, d.Pending(name), "not", len(want), pending)
	}
}

// hasNames looks whether these are the files.
func hasNames(t *testing.T, d *disk.Disk, want ...string) {
	t.Helper()
	if l := d.Names(); !slices.Equal(l, want) {
		t.Error(l, "not", want)
	}
}

// hasOps looks whether there were so many operations.
func hasOps(t *testing.T, d *disk.Disk, want int) {
	t.Helper()
	if n := d.Ops(); n != want {
		t.Error("operations:", n, "not", want)
	}
}

// fine looks whether all of the answers are OK.
func fine(t *testing.T, l ...api.Errno) {
	t.Helper()
	for i, e := range l {
		if e != api.OK {
			t.Error(i, e)
		}
	}
}

// is looks whether an answer is the one that is wanted.
func is(t *testing.T, got, want api.Errno) {
	t.Helper()
	if got != want {
		t.Error(got, "not", want)
	}
}
