package store

import (
	"maps"
	"math"
	"math/rand"
	"testing"

	"reliquary/api"
	"reliquary/disk"
)

// history is what was done to a store: what it had behind each batch, and up to which of
// them all is safe.
type history struct {
	states []model // the first one: what it had when it was opened
	sizes  []int   // of each batch behind the safe ones, its frame's bytes
	safe   int
}

// newHistory tells that of a store that has this.
func newHistory(m model) *history { return &history{states: []model{m.after()}} }

// commit notes a batch that was done.
func (h *history) commit(l []api.Change) {
	h.states = append(h.states, h.states[len(h.states)-1].after(l))
	h.sizes = append(h.sizes, len(frameOf(batchOf(l...))))
}

// settle notes that all is safe.
func (h *history) settle() { h.safe, h.sizes = len(h.states)-1, nil }

// left tells what is there behind a crash that keeps so much of the log.
func (h *history) left(ops, bytes int) model {
	n := min(max(ops, 0), len(h.sizes))
	if n < len(h.sizes) && bytes >= h.sizes[n] {
		n++
	}
	return h.states[h.safe+n]
}

// TestWhatACrashLeaves: batches that were synced, and others behind them, at each
// operation that a crash may interrupt, torn at each byte.
func TestWhatACrashLeaves(t *testing.T) {
	batches := [][]api.Change{batch(put("a", "1")), batch(drop("a"), put("b", "2")), nil, batch(put("a", "3"), put("c", ""))}
	for synced := range len(batches) + 1 {
		for ops := range len(batches) - synced + 1 {
			for torn := range 70 {
				d := newDisk(t)
				s := opened(t, d, "kv", 0, nil)
				h := newHistory(nil)
				for i, l := range batches {
					if i == synced {
						fine(t, s.Sync())
						h.settle()
					}
					fine(t, s.Commit(l))
					h.commit(l)
				}
				if synced == len(batches) {
					fine(t, s.Sync())
					h.settle()
				}
				fine(t, d.Crash([]api.Keep{{Name: "kv.log.0", Ops: ops, Bytes: torn}}))
				again(t, d, 0, h.left(ops, torn))
			}
		}
	}
}

// again opens a store that must have this; it must have it once more behind a crash that
// keeps nothing, and go on from there.
func again(t *testing.T, d *disk.Disk, generation int, want model) {
	t.Helper()
	s := opened(t, d, "kv", generation, want)
	fine(t, d.Crash(nil))
	opened(t, d, "kv", generation, want)
	fine(t, s.Commit(batch(put("more", "1"))), s.Sync(), d.Crash(nil))
	want = want.after(batch(put("more", "1")))
	s = opened(t, d, "kv", generation, want)
	fine(t, s.Checkpoint(), d.Crash(nil))
	opened(t, d, "kv", generation+1, want)
}

// TestACrashWithinACheckpoint: whatever operation of it is the last one, and whatever is
// kept of each file: nothing that was safe is lost, and what was not is whole or not there.
func TestACrashWithinACheckpoint(t *testing.T) {
	first := modelOf("a", "0", "b", "0")
	whole := len(first.after(batch(put("c", "1"), put("d", "2"))).snap(6))
	for stop := 8; stop <= 13; stop++ {
		for torn := range whole + 2 {
			for logOps := range 2 {
				d := newDisk(t, stop)
				lay(t, d, "kv.snap", first.snap(5))
				lay(t, d, "kv.tmp", []byte("stale"))
				s := opened(t, d, "kv", 5, first)
				fine(t, s.Commit(batch(put("c", "1"))), s.Sync(), s.Commit(batch(put("d", "2"))))
				h := newHistory(first)
				h.commit(batch(put("c", "1")))
				h.settle()
				h.commit(batch(put("d", "2")))
				generation := 5
				if e := s.Checkpoint(); e == api.OK {
					generation = 6
					h.settle()
				} else {
					is(t, e, api.ErrDisk)
				}
				if done := stop > 11; done != (generation == 6) {
					t.Fatal(stop, generation)
				}
				fine(t, d.Crash([]api.Keep{{Name: "kv.tmp", Bytes: torn}, {Name: "kv.log.5", Ops: logOps}}))
				opened(t, d, "kv", generation, h.left(logOps, 0))
			}
		}
	}
}

// TestManyCrashes: one behind the other, by chance, on a disk that refuses now and then;
// what is opened is held against all that was done.
func TestManyCrashes(t *testing.T) {
	crashes, lost := 0, 0
	for seed := range 700 {
		r := rand.New(rand.NewSource(int64(seed)))
		var refused []int
		for range r.Intn(20) {
			refused = append(refused, r.Intn(120))
		}
		d := newDisk(t, refused...)
		s := opened(t, d, "kv", 0, nil)
		h, generation := newHistory(nil), 0
		for range 60 {
			switch r.Intn(7) {
			case 0:
				if s.Sync() == api.OK {
					h.settle()
				}
			case 1:
				if s.Checkpoint() == api.OK {
					generation++
					h.settle()
				}
			case 2:
				crashes++
				k := api.Keep{Name: s.logName(generation), Ops: r.Intn(5) - 1, Bytes: r.Intn(60) - 1}
				tmp := api.Keep{Name: "kv.tmp", Ops: r.Intn(2), Bytes: r.Intn(60)}
				fine(t, d.Crash([]api.Keep{tmp, k, {Name: k.Name, Ops: 9}}))
				want := h.left(k.Ops, k.Bytes)
				if !maps.Equal(want, h.states[len(h.states)-1]) {
					lost++
				}
				s = reopened(t, d, generation, want)
				h = newHistory(want)
			default:
				if l := someBatch(r); s.Commit(l) == api.OK {
					h.commit(l)
				}
			}
			has(t, s, generation, h.states[len(h.states)-1])
		}
	}
	if crashes < 5000 || lost < 1000 {
		t.Error(crashes, lost)
	}
}

// reopened opens a store, as often as the disk refuses it, and syncs what it cut then.
func reopened(t *testing.T, d *disk.Disk, generation int, want model) *Store {
	t.Helper()
	s, e := Open(d, "kv")
	for e == api.ErrDisk {
		s, e = Open(d, "kv")
	}
	if e != api.OK {
		t.Fatal(e)
	}
	has(t, s, generation, want)
	for s.Sync() != api.OK {
	}
	return s
}

// TestACrashThatKeepsAllOrNothing: the outermost keeps.
func TestACrashThatKeepsAllOrNothing(t *testing.T) {
	for _, c := range []struct {
		ops, bytes int
		want       string
	}{
		{math.MinInt, math.MinInt, "1"}, {-1, -1, "1"}, {0, 0, "1"}, {0, math.MaxInt, "2"}, {1, math.MaxInt, "3"},
		{math.MaxInt, math.MinInt, "3"}, {math.MaxInt, math.MaxInt, "3"},
	} {
		d := newDisk(t)
		s := opened(t, d, "kv", 0, nil)
		fine(t, s.Commit(batch(put("a", "1"))), s.Sync(), s.Commit(batch(put("a", "2"))), s.Commit(batch(put("a", "3"))))
		fine(t, d.Crash([]api.Keep{{Name: "kv.log.0", Ops: c.ops, Bytes: c.bytes}}))
		again(t, d, 0, modelOf("a", c.want))
	}
}

// TestACrashAndATurnedBit: what was safe and is broken is told, in the checkpoint and in
// the log, torn or not.
func TestACrashAndATurnedBit(t *testing.T) {
	for _, torn := range []int{0, 7, 20} {
		d := newDisk(t)
		s := opened(t, d, "kv", 0, nil)
		fine(t, s.Commit(batch(put("a", "1"))), s.Checkpoint(), s.Commit(batch(put("b", "2"))), s.Sync(), s.Commit(batch(drop("a"))))
		fine(t, d.Crash([]api.Keep{{Name: "kv.log.1", Bytes: torn}}))
		for _, name := range []string{"kv.snap", "kv.log.1"} {
			size := len(modelOf("a", "1").snap(1))
			if name == "kv.log.1" {
				size = len(framesOf(batchOf(put("b", "2"))))
			}
			for bit := range 8 * size {
				fine(t, d.Spoil(name, bit))
				shut(t, d, "kv", api.ErrBroken)
				fine(t, d.Spoil(name, bit))
			}
		}
		again(t, d, 1, modelOf("a", "1", "b", "2"))
	}
}
