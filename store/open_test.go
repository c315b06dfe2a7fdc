package store

import (
	"bytes"
	"fmt"
	"slices"
	"strconv"
	"strings"
	"testing"

	"reliquary/api"
	"reliquary/disk"
)

func TestOpenOfADiskWithoutFiles(t *testing.T) {
	d := newDisk(t, 1)
	s := opened(t, d, "kv", 0, nil)
	fine(t, s.Sync())
	hasNames(t, d)
	hasOps(t, d, 0)
}

func TestOpenWithoutADisk(t *testing.T) {
	for _, d := range []*disk.Disk{nil, {}, new(disk.Disk)} {
		for _, base := range []string{"kv", "A", "", strings.Repeat("x", 41)} {
			shut(t, d, base, api.ErrNil)
		}
	}
}

func TestOpenOfWhatIsNoName(t *testing.T) {
	long := strings.Repeat("x", 40)
	names := []string{"", "A", "a b", "a_b", "a/b", "é", "\x00", "a\n", long + "x", strings.Repeat("x", 64), strings.Repeat("x", 100000)}
	d := newDisk(t, 1)
	for c := range 256 {
		if name := string([]byte{byte(c)}); !strings.Contains("abcdefghijklmnopqrstuvwxyz0123456789.-", name) {
			names = append(names, name, "a"+name, name+"a")
		} else {
			opened(t, d, name, 0, nil)
		}
	}
	for _, name := range names {
		shut(t, d, name, api.ErrArg)
	}
	opened(t, d, long, 0, nil)
	hasOps(t, d, 0)
	// A broken checkpoint, or one that is no such store's, is not looked at.
	d = newDisk(t)
	lay(t, d, long+"x.snap", []byte{1})
	shut(t, d, long+"x", api.ErrArg)
}

// TestNameOfAFullDisk: a name is one whether or not the disk has room for a file.
func TestNameOfAFullDisk(t *testing.T) {
	d := newDisk(t)
	for i := range 64 {
		fine(t, d.Append("f"+strconv.Itoa(i), nil))
	}
	s := opened(t, d, "kv", 0, nil)
	shut(t, d, "KV", api.ErrArg)
	is(t, s.Commit(batch(put("a", "1"))), api.ErrFull)
	is(t, s.Checkpoint(), api.ErrFull)
	has(t, s, 0, nil)
	fine(t, d.Remove("f7"), s.Commit(batch(put("a", "1"))))
	has(t, s, 0, modelOf("a", "1"))
	// One file is the log: there is none left for the checkpoint.
	is(t, s.Checkpoint(), api.ErrFull)
	has(t, s, 0, modelOf("a", "1"))
	fine(t, d.Remove("f8"), s.Checkpoint())
	has(t, s, 1, modelOf("a", "1"))
}

func TestOpenOfACheckpoint(t *testing.T) {
	long, wide := strings.Repeat("k", 128), text(8192)
	for _, c := range []struct {
		generation int
		b          []byte
		want       model
	}{
		{0, snapOf(0), nil},
		{1, snapOf(1), nil},
		{7, snapOf(7, "a", "1", "b", ""), modelOf("a", "1", "b", "")},
		{258, snapOf(258, "\x00", "0", "\x00\x00", "1", "A", "2", "a", "3", "a\x00", "4", "aa", "5", "\xff", "6"),
			modelOf("\x00", "0", "\x00\x00", "1", "A", "2", "a", "3", "a\x00", "4", "aa", "5", "\xff", "6")},
		{1 << 61, snapOf(1<<61, "a", wide, long, wide), modelOf("a", wide, long, wide)},
		{1<<62 - 1, snapOf(1<<62-1, "a", "1"), modelOf("a", "1")},
	} {
		d := newDisk(t, 3)
		lay(t, d, "kv.snap", c.b)
		opened(t, d, "kv", c.generation, c.want)
		opened(t, d, "kv", c.generation, c.want)
		hasOps(t, d, 2)
		hasNames(t, d, "kv.snap")
		hasFile(t, d, "kv.snap", 0, c.b)
		opened(t, d, "k", 0, nil)
	}
}

func TestOpenOfABrokenCheckpoint(t *testing.T) {
	fields := func(l ...string) []byte { return framesOf(eight(1), fieldsOf(l...)) }
	pairs := func(l ...string) []byte { return snapOf(1, l...) }
	for name, b := range map[string][]byte{
		"no frame":               {},
		"three bytes":            {0, 0, 0},
		"no number, no bytes":    framesOf(nil),
		"a number of seven":      framesOf(eight(1)[1:]),
		"a number of nine":       framesOf(append(eight(1), 0)),
		"2^62":                   framesOf(eight(1 << 62)),
		"2^63":                   framesOf(eight(1 << 63)),
		"a pair ahead":           framesOf(fieldsOf("a", "1")),
		"a pair ahead of it":     framesOf(fieldsOf("a", "1"), eight(1)),
		"two numbers":            framesOf(eight(1), eight(1)),
		"no fields":              framesOf(eight(1), nil),
		"fields with a tail":     framesOf(eight(1), append(fieldsOf("a", "1"), 0)),
		"fields cut short":       framesOf(eight(1), fieldsOf("a", "12")[:14]),
		"none":                   fields(),
		"a key alone":            fields("a"),
		"three fields":           fields("a", "1", ""),
		"a batch of one":         framesOf(eight(1), batchOf(put("a", "1"))),
		"a key without bytes":    pairs("", "1"),
		"... behind another":     pairs("a", "1", "", "2"),
		"a key of 129":           pairs(strings.Repeat("k", 129), "1"),
		"a value of 8193":        pairs("a", text(8193)),
		"falling":                pairs("b", "1", "a", "2"),
		"the same key":           pairs("a", "1", "a", "1"),
		"falling at last":        pairs("a", "1", "c", "2", "b", "3"),
		"falling as bytes":       pairs("a", "1", "\xff", "2", "b", "3"),
		"shorter, so lower":      pairs("aa", "1", "a", "2"),
		"a tail of one byte":     append(pairs("a", "1"), 0),
		"a tail of seven":        append(pairs("a", "1"), make([]byte, 7)...),
		"a tail of eight":        append(pairs("a", "1"), frameOf(fieldsOf("b", "2"))[:8]...),
		"a frame cut short":      pairs("a", "1", "b", "2")[:len(pairs("a", "1", "b", "2"))-1],
		"4097 pairs":             pairs(many(4097)...),
		"broken far behind 4096": append(pairs(many(4096)...), 1),
	} {
		t.Run(name, func(t *testing.T) {
			// The log is torn, and the disk would refuse to cut it: the checkpoint is told of first.
			d := newDisk(t, 5)
			lay(t, d, "kv.snap", b)
			lay(t, d, "kv.log.1", []byte{1})
			shut(t, d, "kv", api.ErrBroken)
			shut(t, d, "kv", api.ErrBroken)
			hasOps(t, d, 4)
			hasFile(t, d, "kv.snap", 0, b)
			opened(t, d, "kv2", 0, nil)
		})
	}
	d := newDisk(t)
	lay(t, d, "kv.snap", pairs(many(4096)...))
	opened(t, d, "kv", 1, modelOf(many(4096)...))
}

// many tells so many keys, rising, with their values, by turns.
func many(n int) []string {
	var l []string
	for i := range n {
		l = append(l, fmt.Sprintf("key%05d", i), strconv.Itoa(i))
	}
	return l
}

// TestACheckpointThatIsSpoilt: each bit that is turned is told, and so is each end that is
// cut off, but where a frame ends.
func TestACheckpointThatIsSpoilt(t *testing.T) {
	b := snapOf(3, "a", "1", "bc", "")
	d := newDisk(t)
	lay(t, d, "kv.snap", b)
	want := modelOf("a", "1", "bc", "")
	for bit := range 8 * len(b) {
		fine(t, d.Spoil("kv.snap", bit))
		shut(t, d, "kv", api.ErrBroken)
		fine(t, d.Spoil("kv.snap", bit))
	}
	opened(t, d, "kv", 3, want)
	ends := map[int]model{20: nil, len(snapOf(3, "a", "1")): modelOf("a", "1"), len(b): want}
	for n := range len(b) + 1 {
		d := newDisk(t)
		lay(t, d, "kv.snap", b[:n])
		if m, whole := ends[n]; whole {
			opened(t, d, "kv", 3, m)
		} else {
			shut(t, d, "kv", api.ErrBroken)
		}
	}
}

func TestOpenOfALog(t *testing.T) {
	var all []api.Change
	for i := range 64 {
		all = append(all, put("k"+strconv.Itoa(i), strconv.Itoa(i)))
	}
	long, wide := strings.Repeat("k", 128), text(8192)
	for _, batches := range [][][]api.Change{
		{},
		{nil},
		{batch(put("a", "1"), put("b", "2"))},
		{batch(put("a", "1")), nil, batch(put("a", "2"), drop("a"), put("b", ""))},
		{batch(put("a", "1"), drop("a"), put("a", "3")), batch(drop("z"))},
		{all, batch(drop("k7")), batch(put(long, wide), put("\x00", wide))},
	} {
		for _, base := range []model{nil, modelOf("a", "0", "z", "9")} {
			d := newDisk(t, 5)
			lay(t, d, "kv.snap", base.snap(2))
			b := []byte{}
			for _, l := range batches {
				b = append(b, frameOf(batchOf(l...))...)
			}
			lay(t, d, "kv.log.2", b)
			want := base.after(batches...)
			opened(t, d, "kv", 2, want)
			// Once more it has the same.
			opened(t, d, "kv", 2, want)
			hasOps(t, d, 4)
			hasFile(t, d, "kv.log.2", 0, b)
		}
	}
}

func TestOpenOfABrokenLog(t *testing.T) {
	good := batchOf(put("a", "1"))
	var all []api.Change
	for i := range 65 {
		all = append(all, put("k"+strconv.Itoa(i), ""))
	}
	for name, b := range map[string][]byte{
		"no bytes":            nil,
		"no fields":           {0, 0, 0},
		"a tail":              append(bytes.Clone(good), 0),
		"cut short":           good[:len(good)-1],
		"one field":           fieldsOf("\x00"),
		"two fields":          fieldsOf("\x00", "a"),
		"a pair":              fieldsOf("a", "1"),
		"four fields":         fieldsOf("\x00", "a", "1", "\x00"),
		"five fields":         fieldsOf("\x00", "a", "1", "\x00", "b"),
		"a mark of no byte":   fieldsOf("", "a", "1"),
		"a mark of two":       fieldsOf("\x00\x00", "a", "1"),
		"the mark 2":          fieldsOf("\x02", "a", "1"),
		"the mark 0 in words": fieldsOf("0", "a", "1"),
		"the mark 255":        fieldsOf("\xff", "a", ""),
		"gone with a value":   fieldsOf("\x01", "a", "1"),
		"no key":              batchOf(put("", "1")),
		"no key, gone":        batchOf(drop("")),
		"no key, the second":  batchOf(put("a", "1"), put("", "2")),
		"a key of 129":        batchOf(put(strings.Repeat("k", 129), "1")),
		"gone, a key of 129":  batchOf(drop(strings.Repeat("k", 129))),
		"a value of 8193":     batchOf(put("a", text(8193))),
		"65 changes":          batchOf(all...),
		"65 of one key":       batchOf(slices.Repeat(batch(put("a", "1")), 65)...),
		"a number":            eight(1),
	} {
		t.Run(name, func(t *testing.T) {
			for _, l := range [][]byte{framesOf(b), framesOf(good, b), framesOf(b, good), framesOf(good, b, good)} {
				d := newDisk(t)
				lay(t, d, "kv.log.0", l)
				shut(t, d, "kv", api.ErrBroken)
				hasOps(t, d, 2)
				hasFile(t, d, "kv.log.0", 0, l)
			}
		})
	}
	d := newDisk(t)
	lay(t, d, "kv.log.0", framesOf(batchOf(all[:64]...)))
	opened(t, d, "kv", 0, model{}.after(all[:64]))
}

// TestALogOfTooManyKeys: each batch must leave few enough, whatever the next one does.
func TestALogOfTooManyKeys(t *testing.T) {
	full := modelOf(many(4096)...)
	for _, c := range []struct {
		batches [][]api.Change
		e       api.Errno
	}{
		{[][]api.Change{batch(put("x", "1"))}, api.ErrBroken},
		{[][]api.Change{batch(put("x", "1")), batch(drop("x"))}, api.ErrBroken},
		{[][]api.Change{batch(put("x", "1"), drop("x"))}, api.OK},
		{[][]api.Change{batch(put("x", "1"), drop("key00000"))}, api.OK},
		{[][]api.Change{batch(put("key00000", "new")), batch(drop("key00001"), put("x", "1"))}, api.OK},
		{[][]api.Change{batch(drop("key00001"), put("x", "1"), put("y", "2"))}, api.ErrBroken},
	} {
		d := newDisk(t)
		lay(t, d, "kv.snap", full.snap(1))
		var b []byte
		for _, l := range c.batches {
			b = append(b, frameOf(batchOf(l...))...)
		}
		lay(t, d, "kv.log.1", b)
		if c.e == api.OK {
			opened(t, d, "kv", 1, full.after(c.batches...))
		} else {
			shut(t, d, "kv", c.e)
		}
	}
}

func TestALogThatIsSpoilt(t *testing.T) {
	batches := [][]api.Change{batch(put("a", "1")), nil, batch(drop("a"), put("b", ""))}
	d := newDisk(t)
	s := opened(t, d, "kv", 0, nil)
	for _, l := range batches {
		fine(t, s.Commit(l))
	}
	fine(t, s.Sync())
	b, _ := d.Read("kv.log.0")
	for bit := range 8 * len(b) {
		fine(t, d.Spoil("kv.log.0", bit))
		shut(t, d, "kv", api.ErrBroken)
		fine(t, d.Spoil("kv.log.0", bit))
	}
	opened(t, d, "kv", 0, modelOf("b", ""))
}

func TestOpenCutsATornLog(t *testing.T) {
	whole, next := framesOf(batchOf(put("a", "1"))), framesOf(batchOf(put("a", "2")))
	torn := append(bytes.Clone(whole), next[:9]...)
	d := newDisk(t)
	lay(t, d, "kv.log.0", torn)
	s := opened(t, d, "kv", 0, modelOf("a", "1"))
	hasOps(t, d, 4)
	hasFile(t, d, "kv.log.0", 0, whole)
	fine(t, s.Commit(batch(put("b", "3"))))
	hasFile(t, d, "kv.log.0", 1, append(bytes.Clone(whole), framesOf(batchOf(put("b", "3")))...))
	opened(t, d, "kv", 0, modelOf("a", "1", "b", "3"))
	// The cut is refused, or its sync.
	for _, refused := range []int{3, 4} {
		d := newDisk(t, refused)
		lay(t, d, "kv.log.0", torn)
		shut(t, d, "kv", api.ErrDisk)
		hasOps(t, d, refused)
		opened(t, d, "kv", 0, modelOf("a", "1"))
		fine(t, d.Crash(nil))
		opened(t, d, "kv", 0, modelOf("a", "1"))
	}
	// What journal.Open says of the log comes ahead of a record that is none.
	bad := append(framesOf([]byte{1}), 1, 2, 3)
	d = newDisk(t, 3)
	lay(t, d, "kv.log.0", bad)
	shut(t, d, "kv", api.ErrDisk)
	shut(t, d, "kv", api.ErrBroken)
	shut(t, d, "kv", api.ErrBroken)
}

// TestOpenReadsItsOwnFilesAlone: logs of other generations, a checkpoint that was not
// done, and other stores are left as they are.
func TestOpenReadsItsOwnFilesAlone(t *testing.T) {
	d := newDisk(t)
	files := map[string][]byte{
		"kv.log.1": framesOf([]byte{1}), "kv.log.3": {9}, "kv.log.02": {9}, "kv.log": {9}, "kv": {9}, "kv.log.": {9},
		"kv.tmp": snapOf(5, "z", "9"), "kv2.snap": {9}, "k.snap": snapOf(1, "k", "1"), "snap": {9}, ".snap": {9},
	}
	for name, b := range files {
		lay(t, d, name, b)
	}
	opened(t, d, "kv", 0, nil)
	lay(t, d, "kv.snap", snapOf(2, "a", "1"))
	opened(t, d, "kv", 2, modelOf("a", "1"))
	lay(t, d, "kv.log.2", framesOf(batchOf(put("b", "2"))))
	opened(t, d, "kv", 2, modelOf("a", "1", "b", "2"))
	opened(t, d, "k", 1, modelOf("k", "1"))
	for name, b := range files {
		hasFile(t, d, name, 0, b)
	}
	shut(t, d, "kv2", api.ErrBroken)
}

// TestOpenOfWhatIsUnderWay: nothing needs to be synced to be read.
func TestOpenOfWhatIsUnderWay(t *testing.T) {
	d := newDisk(t)
	fine(t, d.Append("kv.snap", snapOf(2, "a", "1")), d.Append("kv.log.2", framesOf(batchOf(put("b", "2")))))
	opened(t, d, "kv", 2, modelOf("a", "1", "b", "2"))
	hasOps(t, d, 2)
	fine(t, d.Crash([]api.Keep{{Name: "kv.log.2", Ops: 1}}))
	opened(t, d, "kv", 0, nil)
}
