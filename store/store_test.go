package store

import (
	"bytes"
	"math/rand"
	"slices"
	"strconv"
	"strings"
	"testing"

	"reliquary/api"
	"reliquary/disk"
)

func TestTheExamples(t *testing.T) {
	d := newDisk(t)
	s := opened(t, d, "kv", 0, nil)
	fine(t, s.Commit(batch(put("a", "1"), put("b", "2"))))
	has(t, s, 0, modelOf("a", "1", "b", "2"))
	fine(t, s.Commit(batch(drop("a"), put("c", "3"))))
	has(t, s, 0, modelOf("b", "2", "c", "3"))
	fine(t, d.Crash(nil))
	s = opened(t, d, "kv", 0, nil)
	fine(t, s.Commit(batch(put("a", "1"))), s.Sync(), s.Commit(batch(put("a", "2"))), d.Crash(nil))
	s = opened(t, d, "kv", 0, modelOf("a", "1"))
	fine(t, s.Checkpoint())
	has(t, s, 1, modelOf("a", "1"))
	hasNames(t, d, "kv.snap")
	is(t, s.Commit(batch(put("", "1"))), api.ErrArg)
	is(t, s.Commit(make([]api.Change, 65)), api.ErrLong)
	shut(t, d, "A", api.ErrArg)
}

// TestWhatCommitWrites: one record a batch, byte by byte as the chapter says it.
func TestWhatCommitWrites(t *testing.T) {
	d := newDisk(t)
	s := opened(t, d, "kv", 0, nil)
	var b []byte
	var want model
	for i, l := range [][]api.Change{
		batch(put("b", "2"), put("a", "1")), nil, {}, batch(drop("a"), put("c", "")), batch(drop("none")),
		batch(put("a", "1"), put("a", "2"), drop("a")), batch(drop("b"), put("b", "3")),
		batch(put(strings.Repeat("k", 128), text(8192)), put("\x00\xff", "\x00")),
	} {
		fine(t, s.Commit(l))
		b = append(b, frameOf(batchOf(l...))...)
		want = want.after(l)
		has(t, s, 0, want)
		hasFile(t, d, "kv.log.0", i+1, b)
		hasOps(t, d, i+1)
		opened(t, d, "kv", 0, want)
	}
	if first := frameOf([]byte{
		0, 0, 0, 6, 0, 0, 0, 1, 0, 0, 0, 0, 1, 'b', 0, 0, 0, 1, '2', 0, 0, 0, 1, 0, 0, 0, 0, 1, 'a', 0, 0, 0, 1, '1',
	}); !bytes.HasPrefix(b, first) {
		t.Error(b[:len(first)])
	}
}

func TestCommitOfSixtyFour(t *testing.T) {
	d := newDisk(t)
	s := opened(t, d, "kv", 0, nil)
	var l []api.Change
	for i := range 64 {
		l = append(l, put("k"+strconv.Itoa(i), strconv.Itoa(i)))
	}
	fine(t, s.Commit(l))
	want := model{}.after(l)
	has(t, s, 0, want)
	for _, more := range []api.Change{put("x", "1"), drop("k1"), {}} {
		is(t, s.Commit(append(slices.Clone(l), more)), api.ErrLong)
	}
	has(t, s, 0, want)
	hasOps(t, d, 1)
}

// TestCommitIsRefused: the first change that may not be is told of, and of one change
// ErrArg ahead of ErrLong; nothing is written, and nothing is done.
func TestCommitIsRefused(t *testing.T) {
	longKey, longValue := strings.Repeat("k", 129), text(8193)
	noKey, noKeyGone := put("", "1"), drop("")
	goneWith := api.Change{Key: "a", Value: []byte{0}, Gone: true}
	for i, c := range []struct {
		l []api.Change
		e api.Errno
	}{
		{batch(noKey), api.ErrArg},
		{batch(put("", "")), api.ErrArg},
		{batch(noKeyGone), api.ErrArg},
		{batch(goneWith), api.ErrArg},
		{batch(put("", longValue)), api.ErrArg},
		{batch(api.Change{Key: longKey, Value: []byte(longValue), Gone: true}), api.ErrArg},
		{batch(put(longKey, "")), api.ErrLong},
		{batch(drop(longKey)), api.ErrLong},
		{batch(put("a", longValue)), api.ErrLong},
		{batch(put(longKey, longValue)), api.ErrLong},
		{batch(put("x", "1"), noKey), api.ErrArg},
		{batch(put("x", "1"), put(longKey, "")), api.ErrLong},
		{batch(noKey, put(longKey, "")), api.ErrArg},
		{batch(put(longKey, ""), noKey), api.ErrLong},
		{batch(put("a", longValue), goneWith), api.ErrLong},
		{batch(goneWith, put("a", longValue)), api.ErrArg},
		{batch(drop("a"), put("x", "1"), put("y", longValue)), api.ErrLong},
		{append(slices.Repeat(batch(put("x", "1")), 63), noKey), api.ErrArg},
		{append(batch(noKey), slices.Repeat(batch(put("x", "1")), 64)...), api.ErrLong},
		{make([]api.Change, 1000), api.ErrLong},
	} {
		d := newDisk(t, 2)
		s := opened(t, d, "kv", 0, nil)
		fine(t, s.Commit(batch(put("a", "0"))))
		is(t, s.Commit(c.l), c.e)
		has(t, s, 0, modelOf("a", "0"))
		hasFile(t, d, "kv.log.0", 1, framesOf(batchOf(put("a", "0"))))
		if d.Ops() != 1 {
			t.Error(i, d.Ops())
		}
	}
}

// TestARecordOfTooManyBytes: at the last byte that a record may have, and one behind it.
func TestARecordOfTooManyBytes(t *testing.T) {
	l := []api.Change{}
	for i := range 8 {
		l = append(l, put("k"+strconv.Itoa(i), text(8000)))
	}
	left := 65536 - len(batchOf(append(slices.Clone(l), put("rest", ""))...))
	d := newDisk(t)
	s := opened(t, d, "kv", 0, nil)
	for _, n := range []int{left + 1, left + 2, 8192} {
		is(t, s.Commit(append(slices.Clone(l), put("rest", text(n)))), api.ErrLong)
		has(t, s, 0, nil)
		hasOps(t, d, 0)
	}
	l = append(l, put("rest", text(left)))
	fine(t, s.Commit(l))
	has(t, s, 0, model{}.after(l))
	opened(t, d, "kv", 0, model{}.after(l))
	// All values as long as may be.
	l = nil
	for i := range 64 {
		l = append(l, put("k"+strconv.Itoa(i), text(8192)))
	}
	is(t, s.Commit(l), api.ErrLong)
	hasOps(t, d, 1)
}

func TestFull(t *testing.T) {
	full := modelOf(many(4096)...)
	d := newDisk(t, 8)
	lay(t, d, "kv.snap", full.snap(3))
	s := opened(t, d, "kv", 3, full)
	wide := func(c ...api.Change) []api.Change { // a record of too many bytes
		for i := range 8 {
			c = append(c, put("key0000"+strconv.Itoa(i), text(8192)))
		}
		return c
	}
	for _, c := range []struct {
		l []api.Change
		e api.Errno
	}{
		{batch(put("x", "1")), api.ErrFull},
		{batch(put("x", "1"), put("x", "2")), api.ErrFull},
		{batch(put("x", "1"), drop("y")), api.ErrFull},
		{batch(drop("key00000"), put("x", "1"), put("y", "1")), api.ErrFull},
		{batch(drop("key00000"), drop("key00000"), put("x", "1"), put("y", "1")), api.ErrFull},
		{batch(drop("key00000"), put("x", "1"), put("key00000", "2")), api.ErrFull},
		{batch(put("x", "1"), drop("x"), put("x", "1")), api.ErrFull},
		// What is said of a change comes ahead, what is said of the record behind.
		{batch(put("x", "1"), put("", "")), api.ErrArg},
		{batch(put("x", "1"), put("y", text(8193))), api.ErrLong},
		{wide(put("x", "1")), api.ErrFull},
		{wide(), api.ErrLong},
	} {
		is(t, s.Commit(c.l), c.e)
		has(t, s, 3, full)
		hasOps(t, d, 2)
	}
	want := full
	for _, l := range [][]api.Change{
		batch(put("x", "1"), drop("x")),
		batch(put("x", "1"), drop("key00000")),
		batch(drop("x"), put("key00000", "2"), put("key00001", "3")),
		batch(put("y", "1"), put("z", "1"), drop("key00000"), drop("key00001")),
		nil,
	} {
		fine(t, s.Commit(l))
		want = want.after(l)
		has(t, s, 3, want)
	}
	// That it is full is told ahead of what the disk says.
	is(t, s.Commit(batch(put("w", "1"))), api.ErrFull)
	is(t, s.Commit(batch(put("y", "2"))), api.ErrDisk)
	has(t, s, 3, want)
	opened(t, d, "kv", 3, want)
	fine(t, s.Commit(batch(drop("y"))), s.Commit(batch(put("w", "1"))))
	opened(t, d, "kv", 3, want.after(batch(drop("y"), put("w", "1"))))
}

func TestCommitToADiskThatRefuses(t *testing.T) {
	d := newDisk(t, 1, 3)
	s := opened(t, d, "kv", 0, nil)
	is(t, s.Commit(batch(put("a", "1"))), api.ErrDisk)
	has(t, s, 0, nil)
	hasNames(t, d)
	fine(t, s.Commit(batch(put("b", "2"))))
	is(t, s.Commit(batch(drop("b"), put("c", "3"))), api.ErrDisk)
	has(t, s, 0, modelOf("b", "2"))
	fine(t, s.Commit(batch(put("d", "4"))))
	has(t, s, 0, modelOf("b", "2", "d", "4"))
	opened(t, d, "kv", 0, modelOf("b", "2", "d", "4"))
}

// TestALogThatIsFull: it takes up to the last of a file's bytes; a checkpoint makes room.
func TestALogThatIsFull(t *testing.T) {
	d := newDisk(t)
	s := opened(t, d, "kv", 0, nil)
	wide := batch(put("a", text(8192)), put("b", text(8192)), put("c", text(8192)), put("d", text(8192)))
	size := len(frameOf(batchOf(wide...)))
	n := 0
	for ; (n+1)*size <= api.MaxFile; n++ {
		fine(t, s.Commit(wide))
	}
	left := api.MaxFile - n*size - len(frameOf(batchOf(put("a", ""))))
	rest := func(n int) []api.Change {
		var l []api.Change
		for n > 8192 {
			l = append(l, put("r", text(8192)))
			n -= 14 + 8192
		}
		return append(l, put("z", text(n)))
	}
	is(t, s.Commit(wide), api.ErrLong)
	is(t, s.Commit(rest(left+1)), api.ErrLong)
	has(t, s, 0, model{}.after(wide))
	fine(t, s.Commit(rest(left)))
	is(t, s.Commit(nil), api.ErrLong)
	want := model{}.after(wide, rest(left))
	has(t, s, 0, want)
	opened(t, d, "kv", 0, want)
	fine(t, s.Checkpoint(), s.Commit(wide))
	opened(t, d, "kv", 1, want)
}

func TestSync(t *testing.T) {
	d := newDisk(t, 3)
	s := opened(t, d, "kv", 0, nil)
	fine(t, s.Sync(), s.Sync())
	hasOps(t, d, 0)
	fine(t, s.Commit(batch(put("a", "1"))), s.Commit(batch(put("b", "2"))))
	is(t, s.Sync(), api.ErrDisk)
	has(t, s, 0, modelOf("a", "1", "b", "2"))
	hasFile(t, d, "kv.log.0", 2, framesOf(batchOf(put("a", "1")), batchOf(put("b", "2"))))
	fine(t, s.Sync())
	hasOps(t, d, 4)
	fine(t, s.Sync())
	hasOps(t, d, 4)
	fine(t, d.Crash(nil))
	s = opened(t, d, "kv", 0, modelOf("a", "1", "b", "2"))
	// Behind a checkpoint it is the new log that is synced.
	fine(t, s.Checkpoint(), s.Sync())
	hasOps(t, d, 8)
	fine(t, s.Commit(batch(drop("a"))), s.Sync(), s.Commit(batch(drop("b"))), d.Crash(nil))
	opened(t, d, "kv", 1, modelOf("b", "2"))
}

func TestGet(t *testing.T) {
	d := newDisk(t)
	s := opened(t, d, "kv", 0, nil)
	fine(t, s.Commit(batch(put("a", "1"), put("none", ""), put("A", "2"), drop("gone"))))
	for key, want := range map[string]string{"a": "1", "none": "", "A": "2"} {
		if v, ok := s.Get(key); string(v) != want || !ok {
			t.Error(key, v, ok)
		}
	}
	for _, key := range []string{"", "b", "gone", "aa", "a\x00", text(129), text(100000)} {
		if v, ok := s.Get(key); v != nil || ok {
			t.Error(key, v, ok)
		}
	}
}

// TestPairsRise: as bytes, whatever the order in which they came.
func TestPairsRise(t *testing.T) {
	d := newDisk(t)
	s := opened(t, d, "kv", 0, nil)
	for _, key := range []string{"b", "a", "\xff", "é", "aa", "\x00", "B", "10", "9", "a\x00", strings.Repeat("a", 128)} {
		fine(t, s.Commit(batch(put(key, "v"+key))))
	}
	var l []string
	for _, p := range s.Pairs() {
		l = append(l, p.Key)
		if string(p.Value) != "v"+p.Key {
			t.Error(p)
		}
	}
	if want := []string{"\x00", "10", "9", "B", "a", "a\x00", "aa", strings.Repeat("a", 128), "b", "é", "\xff"}; !slices.Equal(l, want) {
		t.Errorf("%q", l)
	}
}

func TestNoStore(t *testing.T) {
	for _, s := range []*Store{nil, {}, new(Store)} {
		for range 2 {
			is(t, s.Commit(nil), api.ErrNil)
			is(t, s.Commit(batch(put("a", "1"))), api.ErrNil)
			is(t, s.Commit(make([]api.Change, 65)), api.ErrNil)
			is(t, s.Sync(), api.ErrNil)
			is(t, s.Checkpoint(), api.ErrNil)
			if v, ok := s.Get("a"); v != nil || ok || len(s.Pairs()) != 0 || s.Len() != 0 || s.Generation() != 0 {
				t.Error(v, ok, s.Len(), s.Generation())
			}
		}
	}
}

func TestTwoStoresAreApart(t *testing.T) {
	d, other := newDisk(t), newDisk(t)
	a, b, c := opened(t, d, "a", 0, nil), opened(t, d, "b", 0, nil), opened(t, other, "a", 0, nil)
	fine(t, a.Commit(batch(put("x", "1"))), b.Commit(batch(put("x", "2"))), c.Commit(batch(put("y", "3"))))
	fine(t, b.Checkpoint(), b.Checkpoint(), a.Sync())
	has(t, a, 0, modelOf("x", "1"))
	has(t, b, 2, modelOf("x", "2"))
	has(t, c, 0, modelOf("y", "3"))
	hasNames(t, d, "a.log.0", "b.snap")
	hasNames(t, other, "a.log.0")
	fine(t, d.Crash(nil))
	opened(t, d, "a", 0, modelOf("x", "1"))
	opened(t, d, "b", 2, modelOf("x", "2"))
}

// TestStoresHaveMemoryOfTheirOwn: rule 4, of what is handed in and of what is answered,
// with its spare room.
func TestStoresHaveMemoryOfTheirOwn(t *testing.T) {
	d := newDisk(t)
	s := opened(t, d, "kv", 0, nil)
	room := []byte("0123456789")
	l := batch(api.Change{Key: "a", Value: room[2:4]}, api.Change{Key: "b", Value: room[4:4]}, put("c", "3"))
	fine(t, s.Commit(l))
	if string(room) != "0123456789" || l[0].Key != "a" || string(l[0].Value) != "23" {
		t.Error(string(room), l)
	}
	copy(room, "xxxxxxxxxx")
	clear(l)
	want := modelOf("a", "23", "b", "", "c", "3")
	has(t, s, 0, want)
	spoil := func(b []byte) {
		for i := range b[:cap(b)] {
			b[:cap(b)][i] = 77
		}
	}
	pairs, again := s.Pairs(), s.Pairs()
	got, _ := s.Get("a")
	for i := range pairs[:cap(pairs)] {
		spoil(pairs[:cap(pairs)][i].Value)
	}
	spoil(got)
	clear(pairs)
	has(t, s, 0, want)
	for _, p := range again {
		if string(p.Value) != want[p.Key] {
			t.Error(p)
		}
	}
	opened(t, d, "kv", 0, want)
	fine(t, s.Checkpoint())
	hasFile(t, d, "kv.snap", 0, want.snap(1))
}

// TestADiskThatIsOneNoMore refuses what it is told, and the store is as it was.
func TestADiskThatIsOneNoMore(t *testing.T) {
	d := newDisk(t)
	s := opened(t, d, "kv", 0, nil)
	fine(t, s.Commit(batch(put("a", "1"))))
	*d = disk.Disk{}
	is(t, s.Commit(batch(put("a", "2"))), api.ErrNil)
	is(t, s.Checkpoint(), api.ErrNil)
	has(t, s, 0, modelOf("a", "1"))
	shut(t, d, "kv", api.ErrNil)
}

// TestRefusedCallsChangeNothing: rule 3, by chance: what a store tells is always what one
// would tell that is opened of its files.
func TestRefusedCallsChangeNothing(t *testing.T) {
	refusals, laid := 0, 0
	for seed := range 400 {
		r := rand.New(rand.NewSource(int64(seed)))
		var refused []int
		for n := range 150 {
			if r.Intn(4) == 0 {
				refused = append(refused, n)
			}
		}
		d := newDisk(t, refused...)
		s := opened(t, d, "kv", 0, nil)
		want, generation := model{}, 0
		for range 50 {
			e := api.OK
			switch r.Intn(6) {
			case 0:
				e = s.Sync()
			case 1:
				if e = s.Checkpoint(); e == api.OK {
					generation++
					laid++
				}
			case 2:
				l := batch(put("a", "bad"), put("", ""))
				is(t, s.Commit(l), api.ErrArg)
			default:
				l := someBatch(r)
				if e = s.Commit(l); e == api.OK {
					want = want.after(l)
				}
			}
			if e != api.OK {
				is(t, e, api.ErrDisk)
				refusals++
			}
			has(t, s, generation, want)
			opened(t, d, "kv", generation, want)
		}
	}
	if refusals < 1000 || laid < 500 {
		t.Error(refusals, laid)
	}
}

// someBatch tells a batch by chance, of few keys.
func someBatch(r *rand.Rand) []api.Change {
	var l []api.Change
	for range r.Intn(5) {
		key := string(rune('a' + r.Intn(6)))
		if r.Intn(3) == 0 {
			l = append(l, drop(key))
		} else {
			l = append(l, put(key, text(r.Intn(12))))
		}
	}
	return l
}
