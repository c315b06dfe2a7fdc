package disk

import (
	"bytes"
	"math"
	"math/rand"
	"reflect"
	"slices"
	"strconv"
	"strings"
	"testing"

	"reliquary/api"
)

// made tells a new disk.
func made(t *testing.T, refused ...int) *Disk {
	t.Helper()
	d, e := New(refused)
	if e != api.OK || d == nil {
		t.Fatal(d, e)
	}
	return d
}

// fine looks whether all of the answers are OK.
func fine(t *testing.T, l ...api.Errno) {
	t.Helper()
	for i, e := range l {
		if e != api.OK {
			t.Error(i, e)
		}
	}
}

// is looks whether an answer is the one that is wanted.
func is(t *testing.T, got, want api.Errno) {
	t.Helper()
	if got != want {
		t.Error(got, "not", want)
	}
}

// has looks whether a file has these bytes.
func has(t *testing.T, d *Disk, name string, want ...byte) {
	t.Helper()
	if b, e := d.Read(name); e != api.OK || !bytes.Equal(b, want) {
		t.Error(name, b, e, "not", want)
	}
}

// hasNames looks whether these are the files.
func hasNames(t *testing.T, d *Disk, want ...string) {
	t.Helper()
	if l := d.Names(); !slices.Equal(l, want) {
		t.Error(l, "not", want)
	}
}

// hasNo looks whether there is no such file.
func hasNo(t *testing.T, d *Disk, name string) {
	t.Helper()
	if b, e := d.Read(name); e != api.ErrMissing || b != nil {
		t.Error(name, b, e)
	}
	if n := d.Pending(name); n != 0 {
		t.Error(name, n)
	}
}

func TestTheExamples(t *testing.T) {
	d := made(t)
	fine(t, d.Append("a", []byte{1, 2}), d.Sync("a"), d.Append("a", []byte{3}), d.Append("a", []byte{4, 5}))
	if n := d.Pending("a"); n != 2 {
		t.Error(n)
	}
	has(t, d, "a", 1, 2, 3, 4, 5)
	fine(t, d.Crash([]api.Keep{{Name: "a", Ops: 1, Bytes: 1}}))
	has(t, d, "a", 1, 2, 3, 4)
	fine(t, d.Append("b", []byte{7}), d.Crash(nil))
	hasNames(t, d, "a")
	is(t, d.Cut("a", 9), api.ErrArg)
	is(t, d.Cut("a", 1), api.OK)
	is(t, d.Rename("a", "c"), api.ErrState)
	fine(t, d.Sync("a"), d.Rename("a", "c"))
	has(t, d, "c", 1)
	hasNo(t, d, "a")

	d = made(t, 2)
	is(t, d.Append("a", []byte{1}), api.OK)
	is(t, d.Append("a", []byte{2}), api.ErrDisk)
	is(t, d.Append("a", []byte{3}), api.OK)
	has(t, d, "a", 1, 3)
	is(t, d.Append("A", []byte{1}), api.ErrArg)
	is(t, d.Append("a", make([]byte, 1048577)), api.ErrLong)
}

func TestNewRefusesTooMany(t *testing.T) {
	for _, n := range []int{4097, 4098, 100000} {
		if d, e := New(make([]int, n)); e != api.ErrLong || d != nil {
			t.Error(n, d, e)
		}
	}
	for _, l := range [][]int{nil, {}, make([]int, 4096)} {
		d, e := New(l)
		if e != api.OK || d.Ops() != 0 || len(d.Names()) != 0 || d.Pending("a") != 0 {
			t.Error(len(l), e)
		}
		hasNo(t, d, "a")
	}
}

// TestRefusedOperations: all 4,096 numbers may be said, in any order, with doubles and
// numbers that no operation has.
func TestRefusedOperations(t *testing.T) {
	var l []int
	for n := 2; len(l) < 4090; n += 2 {
		l = append(l, n)
	}
	slices.Reverse(l)
	l = append(l, 2, 0, -1, math.MinInt, math.MaxInt, 8)
	d := made(t, l...)
	for n := 1; n <= 8200; n++ {
		want := api.OK
		if slices.Contains(l, n) {
			want = api.ErrDisk
		}
		if e := d.Append("a", nil); e != want {
			t.Fatal(n, e)
		}
	}
	if d.Ops() != 8200 || d.Pending("a") != 8200-4090 {
		t.Error(d.Ops(), d.Pending("a"))
	}
}

// TestARefusedOperationDoesNothing: each of the five, at arguments at which it would do
// something, and ahead of each error of its own.
func TestARefusedOperationDoesNothing(t *testing.T) {
	long := make([]byte, api.MaxFile+1)
	for i, do := range []func(d *Disk) api.Errno{
		func(d *Disk) api.Errno { return d.Append("a", []byte{9}) },
		func(d *Disk) api.Errno { return d.Append("n", []byte{9}) },
		func(d *Disk) api.Errno { return d.Append("A", []byte{9}) },
		func(d *Disk) api.Errno { return d.Append("a", long) },
		func(d *Disk) api.Errno { return d.Cut("a", 0) },
		func(d *Disk) api.Errno { return d.Cut("a", -1) },
		func(d *Disk) api.Errno { return d.Cut("none", 0) },
		func(d *Disk) api.Errno { return d.Sync("a") },
		func(d *Disk) api.Errno { return d.Sync("none") },
		func(d *Disk) api.Errno { return d.Rename("b", "c") },
		func(d *Disk) api.Errno { return d.Rename("b", "C") },
		func(d *Disk) api.Errno { return d.Rename("a", "c") },
		func(d *Disk) api.Errno { return d.Rename("none", "c") },
		func(d *Disk) api.Errno { return d.Remove("a") },
		func(d *Disk) api.Errno { return d.Remove("none") },
	} {
		d := made(t, 5)
		fine(t, d.Append("b", []byte{3}), d.Sync("b"), d.Append("a", []byte{1}), d.Append("a", []byte{2}))
		if e := do(d); e != api.ErrDisk {
			t.Error(i, e)
		}
		has(t, d, "a", 1, 2)
		has(t, d, "b", 3)
		hasNames(t, d, "a", "b")
		if d.Pending("a") != 2 || d.Ops() != 5 {
			t.Error(i, d.Pending("a"), d.Ops())
		}
		fine(t, d.Crash(nil))
		hasNames(t, d, "b")
	}
}

// TestOpsCountsEachOperation: whatever it answers, and nothing else.
func TestOpsCountsEachOperation(t *testing.T) {
	d := made(t, 3)
	for i, do := range []func(){
		func() { d.Append("a", nil) }, func() { d.Append("", nil) }, func() { d.Sync("a") }, func() { d.Sync("a") },
		func() { d.Append("a", make([]byte, api.MaxFile+1)) }, func() { d.Cut("a", 0) }, func() { d.Cut("a", 1) },
		func() { d.Cut("b", 0) }, func() { d.Sync("b") }, func() { d.Rename("a", "b") }, func() { d.Rename("a", "") },
		func() { d.Rename("b", "a") }, func() { d.Rename("a", "a") }, func() { d.Remove("b") }, func() { d.Remove("a") },
	} {
		do()
		if d.Ops() != i+1 {
			t.Error(i, d.Ops())
		}
		d.Names()
		d.Pending("a")
		d.Read("a")
		d.Read("b")
		d.Crash([]api.Keep{{Name: "a", Ops: 9}})
		d.Spoil("a", 0)
		d.Spoil("b", 0)
		if d.Ops() != i+1 {
			t.Error(i, d.Ops(), "more than the operation")
		}
	}
}

func TestNamesOfFiles(t *testing.T) {
	long := strings.Repeat("x", 64)
	good := []string{"a", "z", "0", "9", ".", "-", "..", "a.b-c", "-0.", "kv.log.12", long, long[:63]}
	for c := range 256 {
		name := string([]byte{byte(c)})
		if strings.Contains("abcdefghijklmnopqrstuvwxyz0123456789.-", name) {
			good = append(good, name, "a"+name, name+"a")
			continue
		}
		for _, n := range []string{name, "a" + name, name + "a", long[:63] + name} {
			d := made(t)
			is(t, d.Append(n, nil), api.ErrArg)
			fine(t, d.Append("a", nil), d.Sync("a"))
			is(t, d.Rename("a", n), api.ErrArg)
			hasNames(t, d, "a")
		}
	}
	for _, n := range good {
		d := made(t)
		fine(t, d.Append(n, []byte{5}), d.Sync(n), d.Rename(n, n), d.Append("a", nil), d.Sync("a"), d.Rename("a", n))
		hasNames(t, d, n)
	}
	for _, n := range []string{"", long + "x", strings.Repeat("x", 100000), "é", "a b", "a/b", "a_b", "\x00"} {
		d := made(t)
		is(t, d.Append(n, nil), api.ErrArg)
		fine(t, d.Append("a", nil), d.Sync("a"))
		is(t, d.Rename("a", n), api.ErrArg)
		// A text that is no name is no file's either.
		is(t, d.Cut(n, 0), api.ErrMissing)
		is(t, d.Sync(n), api.ErrMissing)
		is(t, d.Remove(n), api.ErrMissing)
		is(t, d.Rename(n, "b"), api.ErrMissing)
		is(t, d.Spoil(n, 0), api.ErrMissing)
		hasNo(t, d, n)
		hasNames(t, d, "a")
	}
}

func TestNamesRise(t *testing.T) {
	d := made(t)
	for _, n := range []string{"b", "a", "z", "aa", "0", "-", ".", "a.", "a-", "10", "9"} {
		fine(t, d.Append(n, nil))
	}
	hasNames(t, d, "-", ".", "0", "10", "9", "a", "a-", "a.", "aa", "b", "z")
}

func TestSixtyFourFiles(t *testing.T) {
	d := made(t)
	for i := range 64 {
		fine(t, d.Append("f"+strconv.Itoa(i), []byte{byte(i)}))
	}
	is(t, d.Append("more", nil), api.ErrFull)
	is(t, d.Append("more", make([]byte, api.MaxFile+1)), api.ErrFull)
	is(t, d.Append("MORE", nil), api.ErrArg)
	hasNo(t, d, "more")
	// One that is there grows; one that is renamed leaves its place; one that is gone does.
	fine(t, d.Append("f0", []byte{7}), d.Sync("f0"), d.Rename("f0", "more"))
	is(t, d.Append("f0", nil), api.ErrFull)
	fine(t, d.Remove("f1"), d.Append("f0", nil))
	is(t, d.Append("f1", nil), api.ErrFull)
	fine(t, d.Sync("f2"), d.Rename("f2", "f3"), d.Append("f1", nil))
	is(t, d.Append("f2", nil), api.ErrFull)
	if n := len(d.Names()); n != 64 {
		t.Error(n)
	}
	fine(t, d.Crash(nil))
	hasNames(t, d, "f3", "more")
	has(t, d, "f3", 2)
	has(t, d, "more", 0, 7)
	fine(t, d.Append("f2", nil))
}

func TestAFileOfAMillionBytes(t *testing.T) {
	d := made(t)
	whole := bytes.Repeat([]byte{1, 2, 3, 4}, api.MaxFile/4)
	is(t, d.Append("x", append(whole[:len(whole):len(whole)], 9)), api.ErrLong)
	hasNo(t, d, "x")
	fine(t, d.Append("a", whole))
	is(t, d.Append("a", []byte{9}), api.ErrLong)
	fine(t, d.Append("a", nil))
	has(t, d, "a", whole...)
	// Bytes that were cut off count no more, synced or not.
	fine(t, d.Cut("a", api.MaxFile-2))
	is(t, d.Append("a", []byte{7, 8, 9}), api.ErrLong)
	fine(t, d.Append("a", []byte{7, 8}), d.Sync("a"))
	is(t, d.Append("a", []byte{9}), api.ErrLong)
	has(t, d, "a", append(whole[:len(whole)-2:len(whole)-2], 7, 8)...)
	fine(t, d.Cut("a", 0), d.Append("a", whole[:5]), d.Sync("a"), d.Append("a", whole[5:]))
	is(t, d.Append("a", []byte{9}), api.ErrLong)
	// What a crash lost counts no more either.
	fine(t, d.Crash(nil), d.Append("a", whole[5:]))
	has(t, d, "a", whole...)
	is(t, d.Append("a", whole), api.ErrLong)
	is(t, d.Append("b", whole), api.OK)
}

func TestCutsWithinTheContent(t *testing.T) {
	d := made(t)
	is(t, d.Cut("a", 0), api.ErrMissing)
	is(t, d.Cut("a", -1), api.ErrMissing)
	fine(t, d.Append("a", []byte{1, 2, 3}), d.Sync("a"), d.Append("a", []byte{4, 5}))
	for _, n := range []int{-1, 6, math.MinInt, math.MaxInt} {
		is(t, d.Cut("a", n), api.ErrArg)
	}
	if n := d.Pending("a"); n != 1 {
		t.Error(n)
	}
	fine(t, d.Cut("a", 5), d.Cut("a", 4))
	is(t, d.Cut("a", 5), api.ErrArg)
	has(t, d, "a", 1, 2, 3, 4)
	fine(t, d.Cut("a", 2), d.Append("a", []byte{6}), d.Cut("a", 3))
	has(t, d, "a", 1, 2, 6)
	if n := d.Pending("a"); n != 6 {
		t.Error(n)
	}
	fine(t, d.Cut("a", 0))
	has(t, d, "a")
	is(t, d.Cut("a", 1), api.ErrArg)
	fine(t, d.Cut("a", 0), d.Crash(nil))
	has(t, d, "a", 1, 2, 3)
}

func TestSyncMakesTheContentSafe(t *testing.T) {
	d := made(t)
	is(t, d.Sync("a"), api.ErrMissing)
	fine(t, d.Append("a", []byte{1, 2, 3}), d.Cut("a", 1), d.Append("a", []byte{4}), d.Sync("a"))
	if n := d.Pending("a"); n != 0 {
		t.Error(n)
	}
	fine(t, d.Append("b", []byte{9}), d.Sync("a"), d.Crash(nil))
	has(t, d, "a", 1, 4)
	hasNo(t, d, "b")
	// One file's sync is no other one's.
	fine(t, d.Append("a", []byte{5}), d.Append("b", []byte{6}), d.Sync("b"), d.Crash(nil))
	has(t, d, "a", 1, 4)
	has(t, d, "b", 6)
}

func TestRename(t *testing.T) {
	d := made(t)
	is(t, d.Rename("a", "b"), api.ErrMissing)
	is(t, d.Rename("a", "a"), api.ErrMissing)
	is(t, d.Rename("a", "B"), api.ErrArg)
	fine(t, d.Append("a", []byte{1}))
	is(t, d.Rename("a", "B"), api.ErrArg)
	is(t, d.Rename("a", "b"), api.ErrState)
	is(t, d.Rename("a", "a"), api.ErrState)
	fine(t, d.Sync("a"), d.Rename("a", "a"))
	has(t, d, "a", 1)
	// What was under way of the other one is gone, and the bytes are safe at once.
	fine(t, d.Append("b", []byte{2, 3}), d.Sync("b"), d.Append("b", []byte{4}), d.Cut("b", 0), d.Rename("a", "b"))
	hasNames(t, d, "b")
	has(t, d, "b", 1)
	hasNo(t, d, "a")
	if n := d.Pending("b"); n != 0 {
		t.Error(n)
	}
	fine(t, d.Crash([]api.Keep{{Name: "b", Ops: 9, Bytes: 9}, {Name: "a", Ops: 9}}))
	has(t, d, "b", 1)
	hasNames(t, d, "b")
	// The old name is free, and its file another one.
	fine(t, d.Append("a", []byte{8}), d.Append("b", []byte{9}))
	has(t, d, "a", 8)
	has(t, d, "b", 1, 9)
	// A file that was never synced gives way to one that stays.
	fine(t, d.Sync("b"), d.Rename("b", "a"), d.Crash(nil))
	has(t, d, "a", 1, 9)
	hasNames(t, d, "a")
}

func TestRemove(t *testing.T) {
	d := made(t)
	is(t, d.Remove("a"), api.ErrMissing)
	fine(t, d.Append("a", []byte{1}), d.Sync("a"), d.Append("a", []byte{2}), d.Remove("a"))
	hasNo(t, d, "a")
	hasNames(t, d)
	is(t, d.Remove("a"), api.ErrMissing)
	fine(t, d.Crash([]api.Keep{{Name: "a", Ops: 5, Bytes: 5}}))
	hasNames(t, d)
	// Nothing of it comes back with its name.
	fine(t, d.Append("a", []byte{3}))
	has(t, d, "a", 3)
	fine(t, d.Crash(nil))
	hasNames(t, d)
}

func TestSpoilTurnsOneBit(t *testing.T) {
	d := made(t)
	is(t, d.Spoil("a", 0), api.ErrMissing)
	is(t, d.Spoil("a", -1), api.ErrMissing)
	was := []byte{0, 255, 165}
	fine(t, d.Append("a", was))
	is(t, d.Spoil("a", 0), api.ErrState)
	is(t, d.Spoil("a", -1), api.ErrState)
	fine(t, d.Sync("a"))
	for _, bit := range []int{-1, 24, 25, math.MinInt, math.MaxInt} {
		is(t, d.Spoil("a", bit), api.ErrArg)
	}
	for bit := range 24 {
		want := bytes.Clone(was)
		want[bit/8] ^= []byte{1, 2, 4, 8, 16, 32, 64, 128}[bit%8]
		fine(t, d.Spoil("a", bit))
		has(t, d, "a", want...)
		fine(t, d.Crash(nil))
		has(t, d, "a", want...)
		fine(t, d.Spoil("a", bit))
		has(t, d, "a", was...)
	}
	fine(t, d.Cut("a", 0))
	is(t, d.Spoil("a", 0), api.ErrState)
	fine(t, d.Sync("a"))
	is(t, d.Spoil("a", 0), api.ErrArg)
	is(t, d.Spoil("a", -1), api.ErrArg)
	// The bytes that were cut off are not those of the file any more.
	fine(t, d.Append("a", []byte{6, 7, 8}), d.Sync("a"), d.Cut("a", 1), d.Sync("a"))
	is(t, d.Spoil("a", 8), api.ErrArg)
	fine(t, d.Spoil("a", 7), d.Append("a", []byte{5}))
	has(t, d, "a", 134, 5)
}

func TestNoDisk(t *testing.T) {
	var none *Disk
	for _, d := range []*Disk{none, {}, new(Disk)} {
		for range 2 {
			for i, e := range []api.Errno{
				d.Append("a", nil), d.Append("A", []byte{1}), d.Append("a", make([]byte, api.MaxFile+1)), d.Cut("a", 0), d.Cut("a", -1),
				d.Sync("a"), d.Rename("a", "b"), d.Rename("a", "A"), d.Remove("a"), d.Crash(nil), d.Crash([]api.Keep{{Name: "a"}}),
				d.Spoil("a", 0), d.Spoil("a", -1),
			} {
				if e != api.ErrNil {
					t.Error(i, e)
				}
			}
			if b, e := d.Read("a"); b != nil || e != api.ErrNil {
				t.Error(b, e)
			}
			if d.Names() != nil || d.Pending("a") != 0 || d.Ops() != 0 {
				t.Error(d.Names(), d.Pending("a"), d.Ops())
			}
		}
	}
}

func TestMemoryIsItsOwn(t *testing.T) {
	refused := []int{3, 4}
	d := made(t, refused...)
	refused[0], refused[1] = 1, 2
	room := []byte{1, 2, 3, 4}
	fine(t, d.Append("a", room[:2]), d.Append("a", room[2:3]))
	is(t, d.Append("a", nil), api.ErrDisk)
	is(t, d.Append("a", nil), api.ErrDisk)
	room[0], room[1], room[2] = 9, 9, 9
	has(t, d, "a", 1, 2, 3)
	// What is read, its spare room too, is none of the disk's, synced or not.
	for range 2 {
		b, _ := d.Read("a")
		again, _ := d.Read("a")
		for i := range b[:cap(b)] {
			b[:cap(b)][i] = 77
		}
		has(t, d, "a", 1, 2, 3)
		if !bytes.Equal(again, []byte{1, 2, 3}) {
			t.Error(again)
		}
		fine(t, d.Sync("a"))
	}
	b, _ := d.Read("a")
	_ = append(b, 5)
	fine(t, d.Append("a", []byte{6}), d.Sync("a"), d.Cut("a", 2), d.Sync("a"), d.Append("a", []byte{7}))
	if !bytes.Equal(b, []byte{1, 2, 3}) || room[3] != 4 {
		t.Error(b, room)
	}
	has(t, d, "a", 1, 2, 7)
	names := d.Names()
	names[0] = "z"
	hasNames(t, d, "a")
	keeps := []api.Keep{{Name: "a", Ops: 1}, {Name: "a", Ops: 0}, {Name: "b"}}
	was := slices.Clone(keeps)
	fine(t, d.Crash(keeps))
	if !reflect.DeepEqual(keeps, was) {
		t.Error(keeps)
	}
	has(t, d, "a", 1, 2, 7)
}

// TestTwoDisksAreApart: what is done to one is not seen of the other.
func TestTwoDisksAreApart(t *testing.T) {
	a, b := made(t), made(t, 1)
	fine(t, a.Append("a", []byte{1}), a.Sync("a"))
	is(t, b.Append("a", []byte{2}), api.ErrDisk)
	hasNames(t, b)
	if a.Ops() != 2 || b.Ops() != 1 {
		t.Error(a.Ops(), b.Ops())
	}
	fine(t, b.Append("a", []byte{3}), b.Crash(nil))
	has(t, a, "a", 1)
}

// TestRefusedCallsChangeNothing: rule 3, for each error but ErrDisk (Ops counts them).
func TestRefusedCallsChangeNothing(t *testing.T) {
	p := newPair(t)
	p.appendTo("a", 1, 2)
	p.sync("a")
	p.appendTo("b", 3)
	for _, e := range []api.Errno{
		p.appendTo("A", 1), p.appendTo("", 1), p.cut("a", 3), p.cut("a", -1), p.cut("c", 0), p.sync("c"),
		p.rename("c", "d"), p.rename("b", "d"), p.rename("b", "a"), p.rename("a", "B"), p.remove("c"),
		p.spoil("c", 0), p.spoil("b", 0), p.spoil("a", 16), p.spoil("a", -1),
	} {
		if e == api.OK {
			t.Error("not refused")
		}
	}
	p.crash()
}

// TestScripts does much by chance to a disk and to the second one.
func TestScripts(t *testing.T) {
	for seed := range 3000 {
		r := rand.New(rand.NewSource(int64(seed)))
		var refused []int
		for range r.Intn(6) {
			refused = append(refused, r.Intn(60))
		}
		p := newPair(t, refused...)
		names := []string{"a", "b", "c-1.x", "A", ""}[:2+r.Intn(4)]
		for range 60 {
			p.one(r, names)
		}
	}
}
