package journal

import (
	"math"
	"math/rand"
	"slices"
	"testing"

	"reliquary/api"
)

// TestWhatACrashLeaves: records that were synced, and others behind them, at each
// operation that a crash may interrupt, torn at each byte.
func TestWhatACrashLeaves(t *testing.T) {
	records := [][]byte{{1, 2}, nil, message(9), {3}}
	for synced := range len(records) + 1 {
		for ops := range len(records) - synced + 1 {
			most := 0
			if next := synced + ops; next < len(records) {
				most = len(frameByWords(records[next]))
			}
			for torn := range most + 1 {
				crashed(t, records, synced, ops, torn)
			}
		}
	}
}

// crashed appends records, of which so many are synced, keeps so much of the others, and
// holds what is opened then against what was whole.
func crashed(t *testing.T, records [][]byte, synced, ops, torn int) {
	t.Helper()
	d := newDisk(t)
	j := opened(t, d, "a")
	for i, b := range records {
		if i == synced {
			fine(t, j.Sync())
		}
		fine(t, j.Append(b))
	}
	if synced == len(records) {
		fine(t, j.Sync())
	}
	fine(t, d.Crash([]api.Keep{{Name: "a", Ops: ops, Bytes: torn}}))
	whole := synced + ops
	if whole < len(records) && torn == len(frameByWords(records[whole])) {
		whole++ // torn behind its last byte: all of it is there
	}
	k := opened(t, d, "a", records[:whole]...)
	if n := d.Pending("a"); n != 0 {
		t.Error(synced, ops, torn, n)
	}
	// What was opened is safe, and goes on.
	fine(t, d.Crash(nil), k.Append([]byte{9}), k.Sync(), d.Crash(nil))
	opened(t, d, "a", append(slices.Clone(records[:whole]), []byte{9})...)
}

// TestManyCrashes: one behind the other, by chance, with the journal opened anew each
// time; a disk that refuses now and then is among them.
func TestManyCrashes(t *testing.T) {
	for seed := range 1500 {
		r := rand.New(rand.NewSource(int64(seed)))
		var refused []int
		for range r.Intn(8) {
			refused = append(refused, r.Intn(80))
		}
		d := newDisk(t, refused...)
		j := opened(t, d, "log.1")
		var records [][]byte
		safe := 0
		for range 60 {
			switch r.Intn(6) {
			case 0:
				if j.Sync() == api.OK {
					safe = len(records)
				}
			case 1:
				k := api.Keep{Name: "log.1", Ops: r.Intn(6) - 1, Bytes: r.Intn(40) - 1}
				whole := left(records, safe, k)
				fine(t, d.Crash([]api.Keep{k}))
				// It may be refused: then it is opened once more.
				again, l, e := Open(d, "log.1")
				for e == api.ErrDisk {
					again, l, e = Open(d, "log.1")
				}
				if e != api.OK || !sameLists(l, records[:whole]) {
					t.Fatal(seed, l, e, records, safe, k)
				}
				counts(t, again, l...)
				j, records, safe = again, records[:whole:whole], whole
				// A cut whose sync was refused is under way still.
				for d.Pending("log.1") > 0 {
					j.Sync()
				}
			default:
				b := message(r.Intn(24))
				if j.Append(b) == api.OK {
					records = append(records, b)
				}
			}
		}
	}
}

// left tells how many records are whole behind a crash.
func left(records [][]byte, safe int, k api.Keep) int {
	for n := max(k.Ops, 0); n > 0 && safe < len(records); n-- {
		safe++
	}
	if safe < len(records) && k.Bytes >= len(frameByWords(records[safe])) {
		safe++
	}
	return safe
}

// TestACrashThatKeepsAllOrNothing: the outermost keeps.
func TestACrashThatKeepsAllOrNothing(t *testing.T) {
	for _, c := range []struct {
		ops, bytes, want int
	}{
		{math.MinInt, math.MinInt, 1}, {-1, -1, 1}, {0, 0, 1}, {0, math.MaxInt, 2}, {1, math.MaxInt, 3},
		{math.MaxInt, math.MinInt, 3}, {math.MaxInt, math.MaxInt, 3},
	} {
		d := newDisk(t)
		j := opened(t, d, "a")
		records := [][]byte{{1}, {2}, {3}}
		fine(t, j.Append(records[0]), j.Sync(), j.Append(records[1]), j.Append(records[2]))
		fine(t, d.Crash([]api.Keep{{Name: "a", Ops: c.ops, Bytes: c.bytes}}))
		opened(t, d, "a", records[:c.want]...)
	}
}

// TestALogThatWasNeverSynced is gone with a crash that keeps nothing of it.
func TestALogThatWasNeverSynced(t *testing.T) {
	d := newDisk(t)
	j := opened(t, d, "a")
	fine(t, j.Append([]byte{1}), d.Crash(nil))
	opened(t, d, "a")
	if l := d.Names(); len(l) != 0 {
		t.Error(l)
	}
	// One that is torn within its first frame is left without bytes.
	fine(t, j.Append([]byte{1}), d.Crash([]api.Keep{{Name: "a", Bytes: 10}}))
	opened(t, d, "a")
	has(t, d, "a", 0, nil)
}

// TestACrashAndATurnedBit: what is broken ahead of the log's end is told, torn or not.
func TestACrashAndATurnedBit(t *testing.T) {
	records := [][]byte{{1, 2}, message(9)}
	for bit := range 8 * len(logOf(records...)) {
		for _, torn := range []int{0, 7, 12} {
			d := newDisk(t)
			j := opened(t, d, "a")
			fine(t, j.Append(records[0]), j.Append(records[1]), j.Sync(), j.Append([]byte{3}))
			fine(t, d.Crash([]api.Keep{{Name: "a", Bytes: torn}}), d.Spoil("a", bit))
			shut(t, d, "a", api.ErrBroken)
		}
	}
}
