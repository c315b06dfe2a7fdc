package disk

import (
	"bytes"
	"math"
	"math/rand"
	"slices"
	"testing"

	"reliquary/api"
)

func TestCrashKeepsSoManyOperations(t *testing.T) {
	for ops, want := range map[int][]byte{
		math.MinInt: {1, 2}, -1: {1, 2}, 0: {1, 2}, 1: {1, 2, 3, 4}, 2: {1}, 3: {1, 5, 6, 7}, 4: {1, 5, 6, 7, 8},
		5: {1, 5, 6, 7, 8}, math.MaxInt: {1, 5, 6, 7, 8},
	} {
		d := made(t)
		fine(t, d.Append("a", []byte{1, 2}), d.Sync("a"), d.Append("a", []byte{3, 4}), d.Cut("a", 1),
			d.Append("a", []byte{5, 6, 7}), d.Append("a", []byte{8}))
		fine(t, d.Crash([]api.Keep{{Name: "a", Ops: ops}}))
		has(t, d, "a", want...)
		if n := d.Pending("a"); n != 0 {
			t.Error(ops, n)
		}
		// It is safe then.
		fine(t, d.Crash(nil))
		has(t, d, "a", want...)
	}
}

func TestCrashKeepsBytesOfTheNextAppend(t *testing.T) {
	for _, c := range []struct {
		ops, bytes int
		want       []byte
	}{
		{0, 0, []byte{1}}, {0, 1, []byte{1, 2}}, {0, 2, []byte{1, 2, 3}}, {0, 3, []byte{1, 2, 3}}, {0, math.MaxInt, []byte{1, 2, 3}},
		{0, -1, []byte{1}}, {0, math.MinInt, []byte{1}}, {-5, 1, []byte{1, 2}}, {math.MinInt, math.MaxInt, []byte{1, 2, 3}},
		// The next one cuts: nothing of it is done, nor of the append behind it.
		{1, 0, []byte{1, 2, 3}}, {1, 1, []byte{1, 2, 3}}, {1, math.MaxInt, []byte{1, 2, 3}}, {1, -1, []byte{1, 2, 3}},
		{2, 0, nil}, {2, 1, []byte{4}}, {2, 2, []byte{4, 5}}, {2, 9, []byte{4, 5}},
		// There is no next one.
		{3, 0, []byte{4, 5}}, {3, 9, []byte{4, 5}}, {9, 9, []byte{4, 5}}, {math.MaxInt, math.MaxInt, []byte{4, 5}},
	} {
		d := made(t)
		fine(t, d.Append("a", []byte{1}), d.Sync("a"), d.Append("a", []byte{2, 3}), d.Cut("a", 0), d.Append("a", []byte{4, 5}))
		fine(t, d.Crash([]api.Keep{{Name: "a", Ops: c.ops, Bytes: c.bytes}}))
		has(t, d, "a", c.want...)
		fine(t, d.Append("a", []byte{6}))
		has(t, d, "a", append(slices.Clone(c.want), 6)...)
	}
}

func TestTheFirstKeepCounts(t *testing.T) {
	for _, l := range [][]api.Keep{
		{{Name: "a", Ops: 1}, {Name: "a", Ops: 2}},
		{{Name: "b", Ops: 2}, {Name: "a", Ops: 1}, {Name: "a", Bytes: 9}, {Name: "a", Ops: 1}},
		{{Name: "A", Ops: 2}, {Name: "", Ops: 2}, {Name: "a", Ops: 1}, {Name: "a"}},
	} {
		d := made(t)
		fine(t, d.Append("a", []byte{1}), d.Append("a", []byte{2}), d.Crash(l))
		has(t, d, "a", 1)
		hasNames(t, d, "a")
	}
	d := made(t)
	fine(t, d.Append("a", []byte{1}), d.Append("b", []byte{2, 3}), d.Append("c", []byte{4}))
	fine(t, d.Crash([]api.Keep{{Name: "a"}, {Name: "a", Ops: 1}, {Name: "b", Bytes: 1}, {Name: "b", Ops: 1}, {Name: "d", Ops: 1}}))
	hasNames(t, d, "b")
	has(t, d, "b", 2)
}

// TestManyKeeps: the one of a file may stand behind very many others.
func TestManyKeeps(t *testing.T) {
	d := made(t)
	fine(t, d.Append("a", []byte{1}), d.Append("b", []byte{2}))
	l := slices.Repeat([]api.Keep{{Name: "x"}, {Name: "b", Bytes: -1}}, 100000)
	fine(t, d.Crash(append(l, api.Keep{Name: "a", Ops: 1}, api.Keep{Name: "b", Ops: 1})))
	hasNames(t, d, "a")
}

// TestWhichFilesAreGone: those that were made by what was under way, and of which
// neither an operation nor a byte is kept.
func TestWhichFilesAreGone(t *testing.T) {
	type do func(d *Disk)
	put := func(b ...byte) do { return func(d *Disk) { fine(t, d.Append("a", b)) } }
	cut := func(n int) do { return func(d *Disk) { fine(t, d.Cut("a", n)) } }
	sync := func(d *Disk) { fine(t, d.Sync("a")) }
	crash := func(ops, n int) do {
		return func(d *Disk) { fine(t, d.Crash([]api.Keep{{Name: "a", Ops: ops, Bytes: n}})) }
	}
	for i, c := range []struct {
		there bool
		steps []do
	}{
		{false, []do{put(1), crash(0, 0)}},
		{false, []do{put(), crash(0, 0)}},
		{false, []do{put(1), crash(-1, -1)}},
		{false, []do{put(), crash(0, 5)}},
		{false, []do{put(), put(1), crash(0, 5)}},
		{false, []do{put(1), put(2), cut(0), crash(0, 0)}},
		{true, []do{put(1), crash(0, 1)}},
		{true, []do{put(1), crash(1, 0)}},
		{true, []do{put(), crash(1, 0)}},
		{true, []do{put(1), cut(0), crash(2, 0)}},
		{true, []do{put(1), sync, crash(0, 0)}},
		// Without bytes, but synced, or left there by a crash.
		{true, []do{put(), sync, crash(0, 0)}},
		{true, []do{put(), sync, put(1), crash(0, 0)}},
		{true, []do{put(1), cut(0), sync, crash(0, 0)}},
		{true, []do{put(1), cut(0), sync, put(2), cut(0), crash(0, 0)}},
		{true, []do{put(), crash(1, 0), crash(0, 0)}},
		{true, []do{put(), crash(1, 0), put(1), crash(0, 0)}},
		{true, []do{put(1), sync, cut(0), crash(1, 0), put(3), crash(0, 0)}},
	} {
		d := made(t)
		for _, s := range c.steps {
			s(d)
		}
		if there := slices.Contains(d.Names(), "a"); there != c.there {
			t.Error(i, there)
		}
		if _, e := d.Read("a"); e == api.OK != c.there || d.Pending("a") != 0 {
			t.Error(i, e)
		}
		// What is gone is made anew, and may be gone once more.
		fine(t, d.Append("a", []byte{9}), d.Crash(nil))
		if there := slices.Contains(d.Names(), "a"); there != c.there {
			t.Error(i, there, "once more")
		}
	}
}

func TestAFileThatWasRenamedIsThere(t *testing.T) {
	d := made(t)
	fine(t, d.Append("a", nil), d.Sync("a"), d.Append("b", []byte{1}), d.Rename("a", "b"), d.Append("b", []byte{2}), d.Crash(nil))
	hasNames(t, d, "b")
	has(t, d, "b")
	// One that is removed and made anew is another one.
	fine(t, d.Remove("b"), d.Append("b", []byte{2}), d.Crash(nil))
	hasNames(t, d)
}

// TestAllShortScripts does all scripts of so many steps of one file, and all crashes
// behind them, to both disks; a second file lies beside it.
func TestAllShortScripts(t *testing.T) {
	steps := []func(p *pair){
		func(p *pair) { p.appendTo("a") }, func(p *pair) { p.appendTo("a", 1, 2) }, func(p *pair) { p.cut("a", 0) },
		func(p *pair) { p.cut("a", 1) }, func(p *pair) { p.sync("a") }, func(p *pair) { p.rename("a", "b") },
		func(p *pair) { p.rename("b", "a") }, func(p *pair) { p.remove("a") }, func(p *pair) { p.spoil("a", 3) },
		func(p *pair) { p.crash() },
	}
	const long = 4
	all := 1
	for range long {
		all *= len(steps)
	}
	for n := range all {
		for _, k := range []api.Keep{{}, {Bytes: 1}, {Ops: 1}, {Ops: 1, Bytes: 1}, {Ops: 2, Bytes: 2}} {
			k.Name = "a"
			p := newPair(t)
			p.appendTo("b", 7)
			for i, rest := 0, n; i < long; i, rest = i+1, rest/len(steps) {
				steps[rest%len(steps)](p)
			}
			p.crash(k)
			p.appendTo("a", 8)
			p.crash()
		}
	}
}

// TestWhatWasSyncedIsThere: with appends alone, whatever else is done to other files.
func TestWhatWasSyncedIsThere(t *testing.T) {
	for seed := range 2000 {
		r := rand.New(rand.NewSource(int64(seed)))
		p := newPair(t)
		var synced, ahead []byte
		known := false
		for range 40 {
			switch r.Intn(8) {
			case 0:
				if p.sync("a") == api.OK {
					synced, known = bytes.Clone(ahead), true
				}
			case 1:
				keeps := keepsOf(r, []string{"a", "b", "c"})
				p.crash(keeps...)
				b, e := p.d.Read("a")
				if e != api.OK && known || !bytes.HasPrefix(b, synced) || !bytes.HasPrefix(ahead, b) {
					t.Fatal(seed, b, e, synced, ahead)
				}
				synced, ahead, known = b, bytes.Clone(b), e == api.OK
			case 2, 3, 4:
				b := some(r, 5)
				p.appendTo("a", b...)
				ahead = append(ahead, b...)
			default:
				beside(p, r)
			}
		}
	}
}

// beside does something to files other than a, but for a crash.
func beside(p *pair, r *rand.Rand) {
	name, other := "b", "c"
	if r.Intn(2) == 0 {
		name, other = other, name
	}
	switch r.Intn(5) {
	case 0:
		p.appendTo(name, some(r, 3)...)
	case 1:
		p.sync(name)
	case 2:
		p.rename(name, other)
	case 3:
		p.cut(name, 1)
	default:
		p.remove(name)
	}
}

// TestACrashOfAQuietDiskChangesNothing: whatever it is told to keep.
func TestACrashOfAQuietDiskChangesNothing(t *testing.T) {
	for seed := range 500 {
		r := rand.New(rand.NewSource(int64(seed)))
		names := []string{"a", "b", "c", "d"}
		p := newPair(t)
		for range 30 {
			p.one(r, names)
		}
		for _, n := range p.d.Names() {
			p.sync(n)
		}
		was := map[string][]byte{}
		for _, n := range p.d.Names() {
			was[n], _ = p.d.Read(n)
		}
		count := p.d.Ops()
		for range 3 {
			p.crash(keepsOf(r, names)...)
			if len(p.d.Names()) != len(was) || p.d.Ops() != count {
				t.Fatal(seed, p.d.Names())
			}
			for n, b := range was {
				has(t, p.d, n, b...)
			}
		}
	}
}

// TestACrashCountsNothing: the operations behind it are refused by their numbers still.
func TestACrashCountsNothing(t *testing.T) {
	d := made(t, 2)
	fine(t, d.Append("a", []byte{1}), d.Crash(nil), d.Crash(nil))
	is(t, d.Append("a", []byte{2}), api.ErrDisk)
	fine(t, d.Crash(nil), d.Append("a", []byte{3}))
	has(t, d, "a", 3)
	if d.Ops() != 3 {
		t.Error(d.Ops())
	}
}
