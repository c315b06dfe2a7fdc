package journal

import (
	"bytes"
	"math/rand"
	"slices"
	"strconv"
	"strings"
	"testing"

	"reliquary/api"
	"reliquary/disk"
)

func TestTheExamples(t *testing.T) {
	d := newDisk(t)
	j := opened(t, d, "a")
	fine(t, j.Append([]byte{1, 2}), j.Sync())
	if j.Len() != 1 || j.Size() != 14 {
		t.Error(j.Len(), j.Size())
	}
	has(t, d, "a", 0, logOf([]byte{1, 2}))
}

func TestOpenOfAFileThatIsNotThere(t *testing.T) {
	d := newDisk(t, 1)
	j := opened(t, d, "a")
	if len(d.Names()) != 0 || d.Ops() != 0 {
		t.Error(d.Names(), d.Ops())
	}
	// The file is made by the first record that the disk takes.
	is(t, j.Append([]byte{1}), api.ErrDisk)
	if len(d.Names()) != 0 {
		t.Error(d.Names())
	}
	fine(t, j.Append([]byte{2}))
	has(t, d, "a", 1, logOf([]byte{2}))
}

func TestOpenWithoutADisk(t *testing.T) {
	for _, d := range []*disk.Disk{nil, {}, new(disk.Disk)} {
		for _, name := range []string{"a", "A", ""} {
			shut(t, d, name, api.ErrNil)
		}
	}
}

func TestOpenOfWhatIsNoName(t *testing.T) {
	long := strings.Repeat("x", 64)
	names := []string{"", "A", "a b", "a_b", "a/b", "é", "\x00", "a\n", long + "x", strings.Repeat("x", 100000)}
	for c := range 256 {
		if name := string([]byte{byte(c)}); !strings.Contains("abcdefghijklmnopqrstuvwxyz0123456789.-", name) {
			names = append(names, name, "a"+name, name+"a")
		} else {
			opened(t, newDisk(t), name)
		}
	}
	// A disk that is full, and would refuse all that is done to it.
	d := laid(t, "a", []byte{1}, 66, 67, 68)
	for i := range 63 {
		fine(t, d.Append("f"+strconv.Itoa(i), nil))
	}
	for _, name := range names {
		shut(t, d, name, api.ErrArg)
	}
	opened(t, d, "b")
	opened(t, d, long)
	if len(d.Names()) != 64 || d.Ops() != 65 {
		t.Error(len(d.Names()), d.Ops())
	}
}

// TestOpenOfWhatIsWhole does nothing to the disk: what is under way still is.
func TestOpenOfWhatIsWhole(t *testing.T) {
	records := [][]byte{{1}, nil, message(65536), message(9)}
	d := laid(t, "a", logOf(records[:2]...), 5)
	fine(t, d.Append("a", logOf(records[2])), d.Append("a", logOf(records[3])))
	opened(t, d, "a", records...)
	has(t, d, "a", 2, logOf(records...))
	fine(t, d.Crash(nil))
	opened(t, d, "a", records[:2]...)
	if d.Ops() != 4 {
		t.Error(d.Ops())
	}
	// A file without bytes is a log without records.
	d = laid(t, "b", nil)
	opened(t, d, "b")
	has(t, d, "b", 0, nil)
}

func TestOpenOfWhatIsBroken(t *testing.T) {
	whole := logOf([]byte{1, 2}, message(30))
	for bit := range 8 * len(whole) {
		d := laid(t, "a", whole)
		fine(t, d.Append("b", logOf([]byte{5})), d.Spoil("a", bit))
		was, _ := d.Read("a")
		shut(t, d, "a", api.ErrBroken)
		has(t, d, "a", 0, was)
		if d.Ops() != 3 {
			t.Fatal(bit, d.Ops())
		}
		// Another log of the disk is none the worse, and neither is this one put right.
		opened(t, d, "b", []byte{5})
		fine(t, d.Spoil("a", bit))
		opened(t, d, "a", []byte{1, 2}, message(30))
	}
	// Broken ahead of a torn end: it is not cut.
	b := append(bytes.Clone(whole), 1, 2, 3)
	b[9] ^= 4
	d := laid(t, "a", b)
	shut(t, d, "a", api.ErrBroken)
	has(t, d, "a", 0, b)
	if d.Ops() != 2 {
		t.Error(d.Ops())
	}
}

func TestOpenCutsATornEnd(t *testing.T) {
	f := frameByWords(message(20))
	for _, records := range [][][]byte{nil, {{1, 2}}, {nil, message(30)}} {
		whole := logOf(records...)
		for n := 1; n < len(f); n++ {
			d := laid(t, "a", append(bytes.Clone(whole), f[:n]...))
			fine(t, d.Append("b", f[:n]))
			j := opened(t, d, "a", records...)
			has(t, d, "a", 0, whole)
			has(t, d, "b", 1, f[:n])
			if d.Ops() != 5 {
				t.Fatal(n, d.Ops())
			}
			// What is appended then stands where the torn end stood.
			fine(t, j.Append([]byte{6}), j.Sync(), d.Crash(nil))
			opened(t, d, "a", append(slices.Clone(records), []byte{6})...)
			if d.Ops() != 7 {
				t.Fatal(n, d.Ops())
			}
		}
	}
}

// TestOpenCutsWhatIsUnderWay: what was appended and not synced may be torn, too, and is
// safe behind the cut.
func TestOpenCutsWhatIsUnderWay(t *testing.T) {
	d := laid(t, "a", logOf([]byte{1}))
	fine(t, d.Append("a", logOf([]byte{2}, nil)), d.Append("a", []byte{0, 0}))
	opened(t, d, "a", []byte{1}, []byte{2}, nil)
	has(t, d, "a", 0, logOf([]byte{1}, []byte{2}, nil))
	fine(t, d.Crash(nil))
	opened(t, d, "a", []byte{1}, []byte{2}, nil)
}

func TestOpenOfADiskThatRefuses(t *testing.T) {
	whole := logOf([]byte{1, 2})
	torn := append(bytes.Clone(whole), 7)
	// The cut is refused: nothing was done, and no sync is tried.
	d := laid(t, "a", torn, 3)
	shut(t, d, "a", api.ErrDisk)
	has(t, d, "a", 0, torn)
	if d.Ops() != 3 {
		t.Error(d.Ops())
	}
	opened(t, d, "a", []byte{1, 2})
	has(t, d, "a", 0, whole)
	// The sync is refused: the cut is under way, and a crash may undo it.
	d = laid(t, "a", torn, 4)
	shut(t, d, "a", api.ErrDisk)
	has(t, d, "a", 1, whole)
	if d.Ops() != 4 {
		t.Error(d.Ops())
	}
	opened(t, d, "a", []byte{1, 2})
	has(t, d, "a", 1, whole)
	fine(t, d.Crash(nil))
	has(t, d, "a", 0, torn)
	opened(t, d, "a", []byte{1, 2})
	has(t, d, "a", 0, whole)
	// What is whole needs nothing of the disk.
	d = laid(t, "a", whole, 3)
	opened(t, d, "a", []byte{1, 2})
}

func TestAppend(t *testing.T) {
	d := newDisk(t)
	j := opened(t, d, "a")
	var records [][]byte
	for _, n := range []int{0, 1, 0, 7, 4096, 65535, 65536} {
		records = append(records, message(n))
		fine(t, j.Append(message(n)))
		counts(t, j, records...)
		has(t, d, "a", len(records), logOf(records...))
	}
	if d.Ops() != len(records) {
		t.Error(d.Ops())
	}
	// A journal that is opened goes on behind what it found.
	k := opened(t, d, "a", records...)
	fine(t, k.Append([]byte{8}))
	opened(t, d, "a", append(slices.Clone(records), []byte{8})...)
	counts(t, j, records...)
}

func TestAppendIsRefused(t *testing.T) {
	d := newDisk(t, 2)
	j := opened(t, d, "a")
	fine(t, j.Append([]byte{1}))
	// A record that is too long is no operation, and told ahead of the disk's error.
	for _, n := range []int{65537, 1 << 17, 1 << 20} {
		is(t, j.Append(make([]byte, n)), api.ErrLong)
	}
	counts(t, j, []byte{1})
	if d.Ops() != 1 {
		t.Error(d.Ops())
	}
	is(t, j.Append([]byte{2}), api.ErrDisk)
	counts(t, j, []byte{1})
	has(t, d, "a", 1, logOf([]byte{1}))
	fine(t, j.Append([]byte{3}))
	counts(t, j, []byte{1}, []byte{3})
	has(t, d, "a", 2, logOf([]byte{1}, []byte{3}))
}

func TestAppendToAFullDisk(t *testing.T) {
	d := newDisk(t)
	j := opened(t, d, "a")
	for i := range 64 {
		fine(t, d.Append("f"+strconv.Itoa(i), nil))
	}
	is(t, j.Append([]byte{1}), api.ErrFull)
	is(t, j.Append(make([]byte, 65537)), api.ErrLong)
	counts(t, j)
	fine(t, j.Sync(), d.Remove("f7"), j.Append([]byte{2}))
	counts(t, j, []byte{2})
}

// TestAppendToAFullFile: up to the last of its bytes.
func TestAppendToAFullFile(t *testing.T) {
	d := newDisk(t)
	j := opened(t, d, "a")
	var records [][]byte
	for range 15 {
		records = append(records, message(65536))
		fine(t, j.Append(message(65536)))
	}
	left := api.MaxFile - j.Size() - 12
	for _, n := range []int{left + 1, left + 2, 65536} {
		is(t, j.Append(make([]byte, n)), api.ErrLong)
	}
	counts(t, j, records...)
	records = append(records, message(left))
	fine(t, j.Append(message(left)))
	counts(t, j, records...)
	is(t, j.Append(nil), api.ErrLong)
	if j.Size() != api.MaxFile {
		t.Error(j.Size())
	}
	fine(t, j.Sync())
	opened(t, d, "a", records...)
}

func TestSync(t *testing.T) {
	d := newDisk(t, 3, 4)
	j := opened(t, d, "a")
	// Nothing is under way: that is no operation, and the file is not made by it.
	fine(t, j.Sync(), j.Sync())
	if d.Ops() != 0 || len(d.Names()) != 0 {
		t.Error(d.Ops(), d.Names())
	}
	fine(t, j.Append([]byte{1}), j.Sync())
	has(t, d, "a", 0, logOf([]byte{1}))
	fine(t, j.Sync(), j.Sync())
	if d.Ops() != 2 {
		t.Error(d.Ops())
	}
	is(t, j.Append([]byte{2}), api.ErrDisk)
	is(t, j.Append([]byte{3}), api.ErrDisk)
	fine(t, j.Sync(), j.Append([]byte{4}), d.Append("b", []byte{9}), j.Sync())
	// One file's sync is no other one's, nor does the other one's call for one.
	fine(t, j.Sync(), d.Crash(nil))
	has(t, d, "a", 0, logOf([]byte{1}, []byte{4}))
	if len(d.Names()) != 1 || d.Ops() != 7 {
		t.Error(d.Names(), d.Ops())
	}
}

func TestSyncIsRefused(t *testing.T) {
	d := newDisk(t, 2, 3)
	j := opened(t, d, "a")
	fine(t, j.Append([]byte{1}))
	is(t, j.Sync(), api.ErrDisk)
	has(t, d, "a", 1, logOf([]byte{1}))
	is(t, j.Sync(), api.ErrDisk)
	counts(t, j, []byte{1})
	fine(t, j.Sync(), d.Crash(nil))
	has(t, d, "a", 0, logOf([]byte{1}))
	if d.Ops() != 4 {
		t.Error(d.Ops())
	}
}

// TestSyncOfWhatOthersDid: what counts is the file, whoever is at work on it.
func TestSyncOfWhatOthersDid(t *testing.T) {
	d := newDisk(t)
	j := opened(t, d, "a")
	k := opened(t, d, "a")
	fine(t, j.Append([]byte{1}), k.Sync())
	has(t, d, "a", 0, logOf([]byte{1}))
	fine(t, j.Sync())
	if d.Ops() != 2 {
		t.Error(d.Ops())
	}
	// It was removed: nothing is under way of it, and it is made anew.
	fine(t, j.Append([]byte{2}), d.Remove("a"), j.Sync())
	fine(t, j.Append([]byte{3}))
	has(t, d, "a", 1, logOf([]byte{3}))
}

func TestNoJournal(t *testing.T) {
	for _, j := range []*Journal{nil, {}, new(Journal)} {
		for range 2 {
			is(t, j.Append(nil), api.ErrNil)
			is(t, j.Append([]byte{1}), api.ErrNil)
			is(t, j.Append(make([]byte, 65537)), api.ErrNil)
			is(t, j.Sync(), api.ErrNil)
			if j.Len() != 0 || j.Size() != 0 {
				t.Error(j.Len(), j.Size())
			}
		}
	}
}

// TestTheDisksOwnErrors: a disk that is one no more refuses what it is told.
func TestTheDisksOwnErrors(t *testing.T) {
	d := newDisk(t)
	j := opened(t, d, "a")
	fine(t, j.Append([]byte{1}))
	*d = disk.Disk{}
	is(t, j.Append([]byte{2}), api.ErrNil)
	is(t, j.Append(make([]byte, 65537)), api.ErrLong)
	counts(t, j, []byte{1})
}

func TestTwoJournalsAreApart(t *testing.T) {
	d, other := newDisk(t), newDisk(t)
	a, b, c := opened(t, d, "a"), opened(t, d, "b"), opened(t, other, "a")
	fine(t, a.Append([]byte{1}), b.Append([]byte{2, 3}), a.Append(nil), c.Append([]byte{4}), b.Sync())
	counts(t, a, []byte{1}, nil)
	counts(t, b, []byte{2, 3})
	counts(t, c, []byte{4})
	has(t, d, "a", 2, logOf([]byte{1}, nil))
	has(t, d, "b", 0, logOf([]byte{2, 3}))
	has(t, other, "a", 1, logOf([]byte{4}))
}

func TestJournalsHaveMemoryOfTheirOwn(t *testing.T) {
	d := newDisk(t)
	j := opened(t, d, "a")
	room := message(40)
	fine(t, j.Append(room[:2]), j.Append(room[2:3]))
	if !bytes.Equal(room, message(40)) {
		t.Error(room)
	}
	clear(room)
	_, l, _ := Open(d, "a")
	_, again, _ := Open(d, "a")
	for _, one := range l {
		for i := range one[:cap(one)] {
			one[:cap(one)][i] = 77
		}
	}
	want := [][]byte{message(40)[:2], message(40)[2:3]}
	if !sameLists(again, want) {
		t.Error(again)
	}
	opened(t, d, "a", want...)
}

// TestRefusedCallsChangeNothing: rule 3, by chance, at a disk of which many operations
// are refused: what a journal counts is always what the file has.
func TestRefusedCallsChangeNothing(t *testing.T) {
	refusals := 0
	for seed := range 500 {
		r := rand.New(rand.NewSource(int64(seed)))
		var refused []int
		for n := range 60 {
			if r.Intn(3) == 0 {
				refused = append(refused, n)
			}
		}
		d := newDisk(t, refused...)
		j := opened(t, d, "a")
		var records [][]byte
		safe := 0
		for range 40 {
			switch r.Intn(4) {
			case 0:
				if j.Sync() == api.OK {
					safe = len(records)
				} else {
					refusals++
				}
			case 1:
				is(t, j.Append(make([]byte, 65537+r.Intn(3))), api.ErrLong)
			default:
				if b := message(r.Intn(20)); j.Append(b) == api.OK {
					records = append(records, b)
				} else {
					refusals++
				}
			}
			counts(t, j, records...)
			opened(t, d, "a", records...)
		}
		fine(t, d.Crash(nil))
		opened(t, d, "a", records[:safe]...)
	}
	if refusals < 1000 {
		t.Error(refusals)
	}
}
