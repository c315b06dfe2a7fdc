package channel

import (
	"bytes"
	"fmt"
	"math/rand"
	"testing"

	"reliquary/api"
	"reliquary/words"
)

// letter is a message under way.
type letter struct {
	n       int
	b       []byte
	plain   []byte
	more    []byte
	spoiled bool
}

// half is one direction of a channel, as the chapter's words have it.
type half struct {
	from, to *Channel
	sent     int
	highest  int
	opened   map[int]bool
	under    []letter
}

// seal seals a message of some bytes, and keeps it under way.
func (h *half) seal(t *testing.T, r *rand.Rand) {
	t.Helper()
	l := letter{n: h.sent + 1, plain: text(r.Intn(50)), more: text(r.Intn(20))}
	m, e := h.from.Seal(l.plain, l.more)
	fine(t, e)
	l.b = m
	h.sent++
	h.under = append(h.under, l)
}

// come opens one of the letters, and looks at what the chapter says of it.
func (h *half) come(t *testing.T, l letter) {
	t.Helper()
	b, want := l.b, api.OK
	if l.spoiled {
		b, want = turned(b, 64+l.n%(8*(len(b)-8))), api.ErrTag
	}
	if l.n <= h.highest && (l.n <= h.highest-64 || h.opened[l.n]) {
		want = api.ErrThere
	}
	plain := l.plain
	if want != api.OK {
		plain = nil
	} else {
		h.opened[l.n] = true
		h.highest = max(h.highest, l.n)
	}
	got, e := h.to.Open(b, l.more)
	is(t, got, e, plain, want)
}

// step does something: a message is sealed; one comes, is lost, comes and stays under
// way, or comes spoiled.
func (h *half) step(t *testing.T, r *rand.Rand, most int) {
	t.Helper()
	if len(h.under) == 0 || len(h.under) < most && r.Intn(2) == 0 {
		h.seal(t, r)
		return
	}
	i := r.Intn(len(h.under))
	l := h.under[i]
	switch r.Intn(6) {
	case 0:
		h.come(t, l)
		return
	case 1:
		l.spoiled = true
		h.come(t, l)
		return
	case 2: // lost
	default:
		h.come(t, l)
	}
	h.under = append(h.under[:i], h.under[i+1:]...)
}

// TestWhateverTheOrder: P16.5: what was lost, came twice, late or spoiled; both ways at
// once.
func TestWhateverTheOrder(t *testing.T) {
	for _, s := range suites() {
		for _, most := range []int{1, 10, 64, 100, 300} {
			t.Run(fmt.Sprint(s, most), func(t *testing.T) {
				r := rand.New(rand.NewSource(int64(most)))
				a, b := example(s).both(t)
				there := &half{from: a, to: b, opened: map[int]bool{}}
				back := &half{from: b, to: a, sent: 1, highest: 1, opened: map[int]bool{1: true}}
				for range 2000 {
					if r.Intn(3) == 0 {
						back.step(t, r, most)
					} else {
						there.step(t, r, most)
					}
					has(t, a, there.sent, back.highest)
					has(t, b, back.sent, there.highest)
				}
				for _, l := range there.under {
					there.come(t, l)
				}
			})
		}
	}
}

// TestOnceEach: 64 sealed ahead are all opened, in whatever order, once.
func TestOnceEach(t *testing.T) {
	r := rand.New(rand.NewSource(64))
	for range 50 {
		a, b := example(api.Little).both(t)
		var all [][]byte
		for n := range 64 {
			m, e := a.Seal([]byte{byte(n)}, nil)
			fine(t, e)
			all = append(all, m)
		}
		for _, n := range r.Perm(64) {
			got, e := b.Open(all[n], nil)
			is(t, got, e, []byte{byte(n)}, api.OK)
		}
		for _, n := range r.Perm(64) {
			got, e := b.Open(all[n], nil)
			refuses(t, got, e, api.ErrThere)
		}
		has(t, b, 1, 64)
	}
}

// TestBoxesOfTwo: P16.5: x times Y is y times X.
func TestBoxesOfTwo(t *testing.T) {
	r := rand.New(rand.NewSource(65))
	for range 200 {
		s := suites()[r.Intn(2)]
		x, y := words.Of(1+uint64(r.Intn(65520))), words.Of(1+uint64(r.Intn(65520)))
		ours, e := Point(x, keyOf(s, y))
		fine(t, e)
		theirs, e := Point(y, keyOf(s, x))
		fine(t, e)
		plain, more := text(r.Intn(100)), text(r.Intn(100))
		b, e := SealPoint(ours, plain, more)
		fine(t, e)
		got, e := OpenPoint(theirs, b, more)
		is(t, got, e, plain, api.OK)
	}
}

// spoil writes to a list, its spare room too.
func spoil(b []byte) {
	b = b[:cap(b)]
	for i := range b {
		b[i] ^= 255
	}
}

// TestWhatIsHandedInAndOut: rule 4: nothing that is handed in is changed or kept, its
// spare room neither read nor written, and what is answered is nobody else's.
func TestWhatIsHandedInAndOut(t *testing.T) {
	w := example(api.Little)
	begins, answers := w.keys()
	o, hello, e := Begin(w.s, w.x, w.key(w.y), w.e)
	fine(t, e)
	spoil(hello)
	room := append(w.hello(), text(500)...)
	before := bytes.Clone(room)
	b, reply, e := Answer(w.s, w.y, w.key(w.x), w.f, room[:17])
	is(t, reply, e, w.reply(), api.OK)
	same(t, room, before)
	spoil(room)
	spoil(reply)
	room = append(w.reply(), text(500)...)
	before = bytes.Clone(room)
	a, e := o.Finish(room[:len(w.reply())])
	fine(t, e)
	same(t, room, before)
	spoil(room)
	for n := uint64(1); n < 20; n++ {
		for _, c := range []struct {
			from, to *Channel
			key      []byte
			n        uint64
		}{{a, b, begins, n}, {b, a, answers, n + 1}} {
			room := text(400)
			before := bytes.Clone(room)
			plain, more := room[10:40], room[30:70] // both share some
			m, e := c.from.Seal(plain, more)
			is(t, m, e, message(c.key, c.n, before[10:40], before[30:70]), api.OK)
			same(t, room, before)
			spoil(m)
			copy(room[100:], message(c.key, c.n, []byte("abc"), before[30:70]))
			before = bytes.Clone(room)
			got, e := c.to.Open(room[100:127], room[30:70])
			is(t, got, e, []byte("abc"), api.OK)
			spoil(got)
			same(t, room, before)
		}
	}
}

func TestWhatBoxesAreHandedInAndOut(t *testing.T) {
	p := keyOf(api.Little, words.Of(35))
	room := text(400)
	copy(room[100:], box(p, []byte("abc"), room[30:70]))
	before := bytes.Clone(room)
	for range 2 {
		b, e := SealPoint(p, room[10:40], room[30:70])
		is(t, b, e, box(p, before[10:40], before[30:70]), api.OK)
		spoil(b)
		same(t, room, before)
		b, e = OpenPoint(p, room[100:119], room[30:70])
		is(t, b, e, []byte("abc"), api.OK)
		spoil(b)
		same(t, room, before)
	}
}

// same looks whether two texts are the same.
func same(t *testing.T, got, want []byte) {
	t.Helper()
	is(t, got, api.OK, want, api.OK)
}
