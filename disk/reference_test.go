package disk

import (
	"bytes"
	"math/rand"
	"slices"
	"strconv"
	"testing"

	"reliquary/api"
)

// step is an operation under way as the chapter says it: bytes appended, or a length.
type step struct {
	cut  bool
	size int
	b    []byte
}

// record is a file of the second disk; known: a crash leaves it there, whatever it keeps.
type record struct {
	safe  []byte
	known bool
	steps []step
}

// content does all steps upon a copy of the safe bytes.
func (r record) content(n int) []byte {
	b := bytes.Clone(r.safe)
	for _, s := range r.steps[:n] {
		if s.cut {
			b = bytes.Clone(b[:s.size])
		} else {
			b = slices.Concat(b, s.b)
		}
	}
	return b
}

// second is the disk once more, by the chapter's words: its files are values in a list.
type second struct {
	names   []string
	records []record
	refused []int
	count   int
}

func (d *second) at(name string) int { return slices.Index(d.names, name) }

func (d *second) drop(i int) {
	d.names = slices.Delete(slices.Clone(d.names), i, i+1)
	d.records = slices.Delete(slices.Clone(d.records), i, i+1)
}

func (d *second) no() bool {
	d.count++
	return slices.Contains(d.refused, d.count)
}

// nameByWords tells whether each byte is one of those that the chapter lists.
func nameByWords(name string) bool {
	for _, c := range []byte(name) {
		if !bytes.ContainsRune([]byte("abcdefghijklmnopqrstuvwxyz0123456789.-"), rune(c)) {
			return false
		}
	}
	return name != "" && len(name) <= 64
}

func (d *second) appendTo(name string, b []byte) api.Errno {
	i := -1
	switch {
	case d.no():
		return api.ErrDisk
	case !nameByWords(name):
		return api.ErrArg
	}
	if i = d.at(name); i < 0 && len(d.names) == 64 {
		return api.ErrFull
	}
	had := 0
	if i >= 0 {
		had = len(d.records[i].content(len(d.records[i].steps)))
	}
	if had+len(b) > 1048576 {
		return api.ErrLong
	}
	if i < 0 {
		i = len(d.names)
		d.names, d.records = append(d.names, name), append(d.records, record{})
	}
	d.records[i].steps = append(d.records[i].steps, step{b: bytes.Clone(b)})
	return api.OK
}

func (d *second) cut(name string, size int) api.Errno {
	if d.no() {
		return api.ErrDisk
	}
	i := d.at(name)
	if i < 0 {
		return api.ErrMissing
	}
	if r := d.records[i]; size < 0 || size > len(r.content(len(r.steps))) {
		return api.ErrArg
	}
	d.records[i].steps = append(d.records[i].steps, step{cut: true, size: size})
	return api.OK
}

func (d *second) sync(name string) api.Errno {
	if d.no() {
		return api.ErrDisk
	}
	i := d.at(name)
	if i < 0 {
		return api.ErrMissing
	}
	r := d.records[i]
	d.records[i] = record{safe: r.content(len(r.steps)), known: true}
	return api.OK
}

func (d *second) rename(from, to string) api.Errno {
	if d.no() {
		return api.ErrDisk
	}
	if !nameByWords(to) {
		return api.ErrArg
	}
	i := d.at(from)
	if i < 0 {
		return api.ErrMissing
	}
	r := d.records[i]
	if len(r.steps) > 0 {
		return api.ErrState
	}
	if from == to {
		return api.OK
	}
	if j := d.at(to); j >= 0 {
		d.drop(j)
	}
	d.names[d.at(from)] = to
	return api.OK
}

func (d *second) remove(name string) api.Errno {
	if d.no() {
		return api.ErrDisk
	}
	i := d.at(name)
	if i < 0 {
		return api.ErrMissing
	}
	d.drop(i)
	return api.OK
}

func (d *second) spoil(name string, bit int) api.Errno {
	i := d.at(name)
	if i < 0 {
		return api.ErrMissing
	}
	r := d.records[i]
	if len(r.steps) > 0 {
		return api.ErrState
	}
	if bit < 0 || bit > 8*len(r.safe)-1 {
		return api.ErrArg
	}
	b, weight := bytes.Clone(r.safe), 1
	for range bit % 8 {
		weight *= 2
	}
	if int(b[bit/8])/weight%2 == 1 {
		b[bit/8] -= byte(weight)
	} else {
		b[bit/8] += byte(weight)
	}
	d.records[i].safe = b
	return api.OK
}

// crash goes from the back, so that what is dropped moves none that is still to come.
func (d *second) crash(keeps []api.Keep) api.Errno {
	for i := len(d.names) - 1; i >= 0; i-- {
		var keep api.Keep
		for _, k := range keeps {
			if k.Name == d.names[i] {
				keep = k
				break
			}
		}
		r := d.records[i]
		ops, some := 0, 0
		for ops < keep.Ops && ops < len(r.steps) {
			ops++
		}
		b := r.content(ops)
		if ops < len(r.steps) && !r.steps[ops].cut {
			for some < keep.Bytes && some < len(r.steps[ops].b) {
				b = append(b, r.steps[ops].b[some])
				some++
			}
		}
		d.records[i] = record{safe: b, known: true}
		if !r.known && ops == 0 && some == 0 {
			d.drop(i)
		}
	}
	return api.OK
}

// pair is a disk and the second one, to which the same is done.
type pair struct {
	t *testing.T
	d *Disk
	m second
	// what was done, for the message of a fault
	script []string
}

func newPair(t *testing.T, refused ...int) *pair {
	t.Helper()
	d, e := New(refused)
	if e != api.OK {
		t.Fatal(e)
	}
	return &pair{t: t, d: d, m: second{refused: slices.Clone(refused)}}
}

// both holds the answer of one against that of the other, and then all that is to be seen.
func (p *pair) both(what string, got, want api.Errno) api.Errno {
	p.t.Helper()
	p.script = append(p.script, what+" "+strconv.Itoa(int(got)))
	if got != want {
		p.t.Fatal(p.script, "not", want)
	}
	p.look()
	return got
}

// look holds what is to be seen of one disk against the other.
func (p *pair) look() {
	p.t.Helper()
	names := slices.Clone(p.m.names)
	slices.Sort(names)
	if got := p.d.Names(); !slices.Equal(got, names) || p.d.Ops() != p.m.count {
		p.t.Fatal(p.script, got, names, p.d.Ops(), p.m.count)
	}
	for i, name := range p.m.names {
		r := p.m.records[i]
		b, e := p.d.Read(name)
		if want := r.content(len(r.steps)); e != api.OK || !bytes.Equal(b, want) {
			p.t.Fatal(p.script, name, b, want, e)
		}
		if n := p.d.Pending(name); n != len(r.steps) {
			p.t.Fatal(p.script, name, n, len(r.steps))
		}
	}
}

func (p *pair) appendTo(name string, b ...byte) api.Errno {
	p.t.Helper()
	return p.both("append "+name+" "+strconv.Itoa(len(b)), p.d.Append(name, b), p.m.appendTo(name, b))
}

func (p *pair) cut(name string, size int) api.Errno {
	p.t.Helper()
	return p.both("cut "+name+" "+strconv.Itoa(size), p.d.Cut(name, size), p.m.cut(name, size))
}

func (p *pair) sync(name string) api.Errno {
	p.t.Helper()
	return p.both("sync "+name, p.d.Sync(name), p.m.sync(name))
}

func (p *pair) rename(from, to string) api.Errno {
	p.t.Helper()
	return p.both("rename "+from+" "+to, p.d.Rename(from, to), p.m.rename(from, to))
}

func (p *pair) remove(name string) api.Errno {
	p.t.Helper()
	return p.both("remove "+name, p.d.Remove(name), p.m.remove(name))
}

func (p *pair) spoil(name string, bit int) api.Errno {
	p.t.Helper()
	return p.both("spoil "+name+" "+strconv.Itoa(bit), p.d.Spoil(name, bit), p.m.spoil(name, bit))
}

func (p *pair) crash(keeps ...api.Keep) api.Errno {
	p.t.Helper()
	what := "crash"
	for _, k := range keeps {
		what += " " + k.Name + " " + strconv.Itoa(k.Ops) + " " + strconv.Itoa(k.Bytes)
	}
	return p.both(what, p.d.Crash(keeps), p.m.crash(keeps))
}

// some tells up to so many bytes.
func some(r *rand.Rand, most int) []byte {
	b := make([]byte, r.Intn(most+1))
	r.Read(b)
	return b
}

// keepsOf tells some keeps of the names, twice the same name and unknown ones among them.
func keepsOf(r *rand.Rand, names []string) []api.Keep {
	var l []api.Keep
	for range r.Intn(5) {
		l = append(l, api.Keep{Name: names[r.Intn(len(names))], Ops: r.Intn(7) - 1, Bytes: r.Intn(7) - 1})
	}
	return l
}

// one does something to both disks, by chance.
func (p *pair) one(r *rand.Rand, names []string) {
	p.t.Helper()
	name, other := names[r.Intn(len(names))], names[r.Intn(len(names))]
	switch r.Intn(12) {
	case 0, 1, 2, 3:
		p.appendTo(name, some(r, 4)...)
	case 4, 5:
		b, _ := p.d.Read(name)
		p.cut(name, r.Intn(len(b)+3)-1)
	case 6, 7:
		p.sync(name)
	case 8:
		p.rename(name, other)
	case 9:
		p.remove(name)
	case 10:
		b, _ := p.d.Read(name)
		p.spoil(name, r.Intn(8*len(b)+3)-1)
	default:
		p.crash(keepsOf(r, names)...)
	}
}
