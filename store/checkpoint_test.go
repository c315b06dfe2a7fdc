package store

import (
	"fmt"
	"slices"
	"strings"
	"testing"

	"reliquary/api"
)

// TestWhatCheckpointWrites: the keys rising, byte by byte as the chapter says it.
func TestWhatCheckpointWrites(t *testing.T) {
	d := newDisk(t)
	s := opened(t, d, "kv", 0, nil)
	// A store without keys, and without a log.
	fine(t, s.Checkpoint())
	hasFile(t, d, "kv.snap", 0, snapOf(1))
	hasNames(t, d, "kv.snap")
	hasOps(t, d, 3)
	has(t, s, 1, nil)
	l := batch(put("b", "2"), put("\xff", ""), put("a", "1"), put("aa", text(300)), put("\x00", "0"), drop("b"))
	fine(t, s.Commit(l), s.Checkpoint())
	want := model{}.after(l)
	hasFile(t, d, "kv.snap", 0, snapOf(2, "\x00", "0", "a", "1", "aa", text(300), "\xff", ""))
	hasNames(t, d, "kv.snap")
	hasOps(t, d, 8)
	has(t, s, 2, want)
	// The log is another one then, without records.
	fine(t, s.Commit(batch(put("c", "3"))))
	hasNames(t, d, "kv.log.2", "kv.snap")
	hasFile(t, d, "kv.log.2", 1, framesOf(batchOf(put("c", "3"))))
	want = want.after(batch(put("c", "3")))
	opened(t, d, "kv", 2, want)
	for n := 3; n < 12; n++ {
		fine(t, s.Checkpoint())
		has(t, s, n, want)
		hasFile(t, d, "kv.snap", 0, want.snap(n))
		hasNames(t, d, "kv.snap")
		opened(t, d, "kv", n, want)
	}
}

// TestCheckpointMakesAllSafe: synced or not, it is there behind a crash.
func TestCheckpointMakesAllSafe(t *testing.T) {
	d := newDisk(t)
	s := opened(t, d, "kv", 0, nil)
	fine(t, s.Commit(batch(put("a", "1"))), s.Sync(), s.Commit(batch(put("b", "2"))), s.Checkpoint(), d.Crash(nil))
	hasNames(t, d, "kv.snap")
	s = opened(t, d, "kv", 1, modelOf("a", "1", "b", "2"))
	fine(t, s.Commit(batch(put("c", "3"))), d.Crash(nil))
	opened(t, d, "kv", 1, modelOf("a", "1", "b", "2"))
}

// step is a state of the files that a checkpoint leaves where one operation is refused.
type step struct {
	op    int
	e     api.Errno
	names []string
}

// TestCheckpointOnADiskThatRefuses: each operation in turn, with all that may lie in the
// way there; the one that is refused is the last one.
func TestCheckpointOnADiskThatRefuses(t *testing.T) {
	before, pairs := modelOf("a", "0"), modelOf("a", "0", "b", "2")
	// Laid down ahead: four files, two operations each, and a commit that is synced: 10.
	for _, c := range []step{
		{11, api.ErrDisk, []string{"kv.log.7", "kv.log.8", "kv.snap", "kv.tmp"}}, // the old kv.tmp is not removed
		{12, api.ErrDisk, []string{"kv.log.7", "kv.log.8", "kv.snap"}},           // kv.log.8 is not
		{13, api.ErrDisk, []string{"kv.log.7", "kv.snap"}},                       // the bytes are not appended
		{14, api.ErrDisk, []string{"kv.log.7", "kv.snap", "kv.tmp"}},             // nor synced
		{15, api.ErrDisk, []string{"kv.log.7", "kv.snap", "kv.tmp"}},             // nor renamed
		{16, api.OK, []string{"kv.log.7", "kv.snap"}},                            // the old log is not removed
		{99, api.OK, []string{"kv.snap"}},
	} {
		t.Run(fmt.Sprint(c.op), func(t *testing.T) {
			d := newDisk(t, c.op)
			lay(t, d, "kv.snap", before.snap(7))
			lay(t, d, "kv.log.7", nil)
			lay(t, d, "kv.log.8", framesOf(batchOf(put("stale", "8"))))
			lay(t, d, "kv.tmp", []byte("stale"))
			s := opened(t, d, "kv", 7, before)
			fine(t, s.Commit(batch(put("b", "2"))), s.Sync())
			is(t, s.Checkpoint(), c.e)
			hasNames(t, d, c.names...)
			hasOps(t, d, min(c.op, 16))
			generation := 7
			if c.e == api.OK {
				generation = 8
				hasFile(t, d, "kv.snap", 0, pairs.snap(8))
			} else {
				hasFile(t, d, "kv.snap", 0, before.snap(7))
			}
			has(t, s, generation, pairs)
			opened(t, d, "kv", generation, pairs)
			// It goes on from there, with a crash or without one.
			fine(t, s.Commit(batch(put("c", "3"))), s.Sync(), d.Crash(nil))
			s = opened(t, d, "kv", generation, pairs.after(batch(put("c", "3"))))
			fine(t, s.Checkpoint())
			opened(t, d, "kv", generation+1, pairs.after(batch(put("c", "3"))))
			hasFile(t, d, "kv.snap", 0, pairs.after(batch(put("c", "3"))).snap(generation+1))
			if slices.Contains(d.Names(), "kv.tmp") {
				t.Error(d.Names())
			}
		})
	}
}

// TestCheckpointRemovesOnlyWhatIsThere: what is not there costs no operation.
func TestCheckpointRemovesOnlyWhatIsThere(t *testing.T) {
	for _, c := range []struct {
		names []string
		ops   int
	}{
		{nil, 3}, {[]string{"kv.tmp"}, 4}, {[]string{"kv.log.1"}, 4}, {[]string{"kv.log.0"}, 4},
		{[]string{"kv.tmp", "kv.log.1"}, 5}, {[]string{"kv.tmp", "kv.log.1", "kv.log.0"}, 6},
		{[]string{"kv.log.2", "kv.log", "kv.log.01", "kv2.tmp", "tmp"}, 3},
	} {
		d := newDisk(t)
		for _, name := range c.names {
			fine(t, d.Append(name, nil)) // under way
		}
		s := opened(t, d, "kv", 0, nil)
		at := d.Ops()
		fine(t, s.Checkpoint())
		hasOps(t, d, at+c.ops)
		for _, name := range []string{"kv.tmp", "kv.log.0", "kv.log.1"} {
			if slices.Contains(d.Names(), name) {
				t.Error(name, "is there")
			}
		}
		opened(t, d, "kv", 1, nil)
		hasFile(t, d, "kv.snap", 0, snapOf(1))
	}
}

// TestAStaleLogIsNotRead: that of the next generation is removed ahead of it.
func TestAStaleLogIsNotRead(t *testing.T) {
	d := newDisk(t)
	s := opened(t, d, "kv", 0, nil)
	lay(t, d, "kv.log.1", framesOf(batchOf(put("stale", "1"))))
	fine(t, s.Commit(batch(put("a", "1"))), s.Checkpoint())
	opened(t, d, "kv", 1, modelOf("a", "1"))
	fine(t, s.Commit(batch(put("b", "2"))))
	opened(t, d, "kv", 1, modelOf("a", "1", "b", "2"))
}

// TestACheckpointOfTooManyBytes: at the last byte that it may have, and one behind it.
func TestACheckpointOfTooManyBytes(t *testing.T) {
	want := model{}
	for i := range 127 {
		want[fmt.Sprintf("%03d", i)] = text(8192)
	}
	left := 1048576 - len(want.after(batch(put("z", ""))).snap(2))
	if left < 1 || left > 8192 {
		t.Fatal(left)
	}
	d := newDisk(t)
	lay(t, d, "kv.snap", want.snap(1))
	lay(t, d, "kv.tmp", []byte("stale"))
	s := opened(t, d, "kv", 1, want)
	// Not refused by the disk: nothing is done to it at all.
	for _, n := range []int{left + 1, left + 2, 8192} {
		fine(t, s.Commit(batch(put("z", text(n)))))
		at := d.Ops()
		is(t, s.Checkpoint(), api.ErrLong)
		hasOps(t, d, at)
		has(t, s, 1, want.after(batch(put("z", text(n)))))
		hasNames(t, d, "kv.log.1", "kv.snap", "kv.tmp")
	}
	fine(t, s.Commit(batch(put("z", text(left)))), s.Checkpoint())
	want["z"] = text(left)
	hasFile(t, d, "kv.snap", 0, want.snap(2))
	hasNames(t, d, "kv.snap")
	s = opened(t, d, "kv", 2, want)
	// One key more of few bytes, and far more keys.
	fine(t, s.Commit(batch(put("k", ""))))
	is(t, s.Checkpoint(), api.ErrLong)
	fine(t, s.Commit(batch(drop("k"))), s.Checkpoint())
	has(t, s, 3, want)
}

// TestACheckpointOfAllKeys: as many as there may be.
func TestACheckpointOfAllKeys(t *testing.T) {
	d := newDisk(t)
	s := opened(t, d, "kv", 0, nil)
	want := modelOf(many(4096)...)
	all := slices.Collect(slices.Chunk(many(4096), 2))
	for some := range slices.Chunk(all, 64) {
		var l []api.Change
		for _, p := range some {
			l = append(l, put(p[0], p[1]))
		}
		fine(t, s.Commit(l))
	}
	is(t, s.Commit(batch(put("x", "1"))), api.ErrFull)
	has(t, s, 0, want)
	fine(t, s.Checkpoint())
	has(t, s, 1, want)
	s = opened(t, d, "kv", 1, want)
	is(t, s.Commit(batch(put("x", "1"))), api.ErrFull)
	hasFile(t, d, "kv.snap", 0, want.snap(1))
}

// TestTheLastGeneration: behind it there is no number that could be written.
func TestTheLastGeneration(t *testing.T) {
	const last = 1<<62 - 1
	base := strings.Repeat("x", 40)
	d := newDisk(t)
	lay(t, d, base+".snap", snapOf(last-1, "a", "1"))
	s := opened(t, d, base, last-1, modelOf("a", "1"))
	fine(t, s.Commit(batch(put("b", "2"))), s.Checkpoint())
	has(t, s, last, modelOf("a", "1", "b", "2"))
	hasNames(t, d, base+".snap")
	fine(t, s.Commit(batch(put("c", "3"))), s.Sync())
	hasNames(t, d, base+".log.4611686018427387903", base+".snap")
	at := d.Ops()
	is(t, s.Checkpoint(), api.ErrArg)
	hasOps(t, d, at)
	has(t, s, last, modelOf("a", "1", "b", "2", "c", "3"))
	fine(t, d.Crash(nil))
	opened(t, d, base, last, modelOf("a", "1", "b", "2", "c", "3"))
}

// TestNobodyElsesFiles: a checkpoint leaves other files as they are.
func TestNobodyElsesFiles(t *testing.T) {
	d := newDisk(t)
	others := []string{"a", "kv", "kv.log", "kv.log.2", "kv.log.00", "kv1.log.0", "kv1.snap", "kv1.tmp", "v.tmp"}
	for _, name := range others {
		lay(t, d, name, []byte(name))
	}
	s := opened(t, d, "kv", 0, nil)
	fine(t, s.Commit(batch(put("a", "1"))), s.Checkpoint())
	for _, name := range others {
		hasFile(t, d, name, 0, []byte(name))
	}
	files := append([]string{"kv.snap"}, others...)
	slices.Sort(files)
	hasNames(t, d, files...)
}
