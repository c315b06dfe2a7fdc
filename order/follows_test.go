package order

import (
	"bytes"
	"math/rand"
	"slices"
	"strconv"
	"testing"

	"reliquary/api"
)

// pair is a node and the chapter's words, to which the same is done.
type pair struct {
	t testing.TB
	n *Node
	m *model
}

// pairOf makes both.
func pairOf(t testing.TB, s api.Suite, n, me, base int) *pair {
	t.Helper()
	keys := keysOf(s, n)
	x, e := New(s, keys, me, secretOf(me), base)
	fine(t, e)
	clear(keys) // they are the caller's
	return &pair{t, x, modelOf(s, n, me, base)}
}

// lend tells a copy that has spare room.
func lend(b []byte) []byte {
	return append(bytes.Clone(b), "spare room"...)[:len(b)]
}

// back looks whether what was lent is as it was, and spoils it.
func back(t testing.TB, lent, b []byte) {
	t.Helper()
	if !bytes.Equal(lent, b) || string(lent[:len(b)+10][len(b):]) != "spare room" {
		t.Fatal("what was handed in is changed")
	}
	spoil(lent)
}

// spoil writes over bytes and their spare room.
func spoil(b []byte) {
	b = b[:cap(b)]
	for i := range b {
		b[i] ^= 0x5a
	}
}

// kept tells a copy of what is sent, and spoils that.
func kept(t testing.TB, out []api.Out) []api.Out {
	t.Helper()
	var l []api.Out
	for _, o := range out {
		l = append(l, api.Out{To: o.To, Data: bytes.Clone(o.Data)})
	}
	for i, o := range out {
		if !bytes.Equal(o.Data, l[i].Data) {
			t.Fatal("two messages share memory")
		}
		spoil(o.Data)
	}
	clear(out[:cap(out)])
	return l
}

// same looks whether both tell the same.
func (p *pair) same(got, want []api.Out, e, f api.Errno) []api.Out {
	p.t.Helper()
	got = kept(p.t, got)
	if !sameOut(got, want) || e != f {
		p.t.Fatal("sent", kinds(p.t, got), e, "not", kinds(p.t, want), f)
	}
	p.sameSight()
	return got
}

// sameSight looks whether both show the same.
func (p *pair) sameSight() {
	p.t.Helper()
	n, m := p.n, p.m
	at, is := n.Next()
	due, has := m.next()
	doubles, saved := n.Doubles(), n.Save()
	if at != due || is != has || n.Place() != m.place() || n.View() != m.view || n.Waiting() != len(m.waiting) || !slices.Equal(doubles, m.doubles) {
		p.t.Fatal(at, is, due, has, n.Place(), m.place(), n.View(), m.view, n.Waiting(), len(m.waiting), doubles, m.doubles)
	}
	if !bytes.Equal(saved, m.save()) {
		p.t.Fatal("saved", saved, m.save())
	}
	clear(doubles[:cap(doubles)])
	spoil(saved)
	for i := max(0, n.Place()-1); i < n.Place(); i++ {
		value, e := n.Ordered(i)
		text, f := n.Decided(i)
		fine(p.t, e, f)
		if !bytes.Equal(value, m.ordered[i]) || !bytes.Equal(text, m.decides[i]) {
			p.t.Fatal(value, m.ordered[i])
		}
		spoil(value)
		spoil(text)
	}
}

func (p *pair) take(from int, b []byte, now int) []api.Out {
	p.t.Helper()
	lent := lend(b)
	got, e := p.n.Take(from, lent, now)
	back(p.t, lent, b)
	want, f := p.m.take(from, b, now)
	return p.same(got, want, e, f)
}

func (p *pair) submit(value []byte, now int) []api.Out {
	p.t.Helper()
	lent := lend(value)
	got, e := p.n.Submit(lent, now)
	back(p.t, lent, value)
	want, f := p.m.submit(value, now)
	return p.same(got, want, e, f)
}

func (p *pair) tick(now int) []api.Out {
	p.t.Helper()
	got, e := p.n.Tick(now)
	want, f := p.m.tick(now)
	return p.same(got, want, e, f)
}

// load makes both anew of what the node saved, or of what it saved earlier.
func (p *pair) load(saved []byte, now int) {
	p.t.Helper()
	keys, lent := slices.Clone(p.m.keys), lend(saved)
	var decides [][]byte
	for _, b := range p.m.decides {
		decides = append(decides, lend(b))
	}
	x, e := Load(p.m.s, keys, p.m.me, p.m.secret, p.m.base, lent, decides, now)
	fine(p.t, e)
	clear(keys)
	back(p.t, lent, saved)
	for i, b := range decides {
		back(p.t, b, p.m.decides[i])
	}
	p.n, p.m = x, p.m.load(saved, p.m.decides, now)
	p.same(nil, nil, api.OK, api.OK)
}

// world is nodes, of which some are false, and a network that does what chance says.
type world struct {
	t     testing.TB
	r     *rand.Rand
	n     int
	nodes []*pair // none for a false node
	false []int
	pool  []mail // what is under way
	heard []mail // all that was ever sent
	now   int
	// how much chance does
	lose, lie, crash int // of a thousand each
}

// worldOf makes nodes of which so many are false.
func worldOf(t testing.TB, seed int64, n, liars, base int) *world {
	w := &world{t: t, r: rand.New(rand.NewSource(seed)), n: n, nodes: make([]*pair, n+1)}
	for _, i := range w.r.Perm(n)[:liars] {
		w.false = append(w.false, i+1)
	}
	met := map[string]int{}
	for i := 1; i <= n; i++ {
		if !slices.Contains(w.false, i) {
			w.nodes[i] = pairOf(t, api.Little, n, i, base)
			w.nodes[i].m.met = met
		}
	}
	return w
}

// honest tells an honest node's number by chance.
func (w *world) honest() int {
	for {
		if i := 1 + w.r.Intn(w.n); w.nodes[i] != nil {
			return i
		}
	}
}

// sends lays what a node sends into the pool, or loses it. What goes to a false node is
// heard by it.
func (w *world) sends(from int, out []api.Out) {
	for _, x := range mails(from, out) {
		w.heard = append(w.heard, x)
		if w.nodes[x.to] == nil || w.r.Intn(1000) < w.lose {
			continue
		}
		w.pool = append(w.pool, x)
	}
}

// deliver hands a message on, most often one of the first that are under way.
func (w *world) deliver() {
	if len(w.pool) == 0 {
		return
	}
	i := w.r.Intn(min(len(w.pool), 4))
	if w.r.Intn(4) == 0 {
		i = w.r.Intn(len(w.pool))
	}
	x := w.pool[i]
	if w.r.Intn(10) != 0 { // else it comes once more
		w.pool = slices.Delete(w.pool, i, i+1)
	}
	w.sends(x.to, w.nodes[x.to].take(x.from, x.data, w.now))
}

// values are few, so that unlike nodes want the same ones.
func (w *world) value() []byte { return []byte{'a' + byte(w.r.Intn(5))} }

// step does what chance says.
func (w *world) step() {
	i := w.honest()
	p := w.nodes[i]
	switch c := w.r.Intn(1000); {
	case c < w.lie && len(w.false) > 0:
		w.sends(i, p.take(w.false[w.r.Intn(len(w.false))], w.said(p), w.now))
	case c < w.lie+w.crash:
		p.load(p.n.Save(), w.now)
	case c < w.lie+w.crash+15:
		w.sends(i, p.submit(w.value(), w.now))
	case c < w.lie+w.crash+150:
		at, is := p.n.Next()
		if w.r.Intn(3) != 0 && is && at <= 1<<40 {
			w.now = max(w.now, at)
		} else {
			w.now += w.r.Intn(10)
		}
		w.sends(i, p.tick(w.now))
	default:
		w.deliver()
	}
}

// agree looks whether no two nodes ordered unlike values.
func (w *world) agree() {
	w.t.Helper()
	var longest *Node
	for _, p := range w.nodes {
		if p != nil && (longest == nil || p.n.Place() > longest.Place()) {
			longest = p.n
		}
	}
	for _, p := range w.nodes {
		if p == nil {
			continue
		}
		for i := range p.n.Place() {
			a, _ := p.n.Ordered(i)
			b, _ := longest.Ordered(i)
			if !bytes.Equal(a, b) {
				w.t.Fatal(i, a, b)
			}
		}
	}
}

// certs tells the certificates that were ever heard, and their values.
func (w *world) certs(place int) []letter {
	m := w.nodes[w.honest()].m
	var l []letter
	for range 20 {
		if len(w.heard) == 0 {
			return l
		}
		x, ok := m.read(w.heard[w.r.Intn(len(w.heard))].data)
		if ok && x.cert != nil && (x.place == place || w.r.Intn(20) == 0) {
			l = append(l, x)
		}
	}
	return l
}

// said tells what a false node says to a node.
func (w *world) said(to *pair) []byte {
	from := w.false[w.r.Intn(len(w.false))]
	place := max(0, to.m.place()+[]int{0, 0, 0, 0, 0, 0, -1, 1}[w.r.Intn(8)])
	view := max(0, to.m.view+w.r.Intn(5)-1)
	value := w.value()
	if w.r.Intn(8) == 0 {
		value = nil
	}
	var proof []byte
	if l := w.certs(place); len(l) > 0 && w.r.Intn(3) != 0 {
		x := l[w.r.Intn(len(l))]
		value, proof = x.value, x.proof
	}
	switch w.r.Intn(8) {
	case 0:
		return requestText(w.value())
	case 1:
		if proof == nil {
			value = nil
		}
		return statusText(place, view, value, proof)
	case 2:
		// Of the next view that it leads.
		for from != 1+(place+view)%w.n {
			view++
		}
		return proposeText(place, view, value, proof)
	case 3, 4, 5:
		phase := 1 + w.r.Intn(3)
		sum := sumOf(value)
		if phase == api.Timeout {
			sum = api.Digest{}
		}
		return voteText(api.Little, voteOf(api.Little, from, phase, view, place, sum))
	case 6:
		return decideText(value, proof)
	}
	if len(w.heard) == 0 {
		return nil
	}
	b := bytes.Clone(w.heard[w.r.Intn(len(w.heard))].data)
	if w.r.Intn(2) == 0 {
		b[w.r.Intn(len(b))] ^= 1 << w.r.Intn(8)
	}
	return b
}

// TestNodesByChance: each node does what the chapter's words do, and all that are honest
// order the same (P18.7), whatever chance, crashes and false nodes do.
func TestNodesByChance(t *testing.T) {
	met := map[string]int{}
	for seed := range int64(80) {
		r := rand.New(rand.NewSource(1000 + seed))
		n := []int{1, 2, 3, 4, 4, 4, 5, 7, 7, 10, 13}[r.Intn(11)]
		w := worldOf(t, seed, n, r.Intn((n-1)/3+1), 4+r.Intn(20))
		w.lose, w.lie, w.crash = r.Intn(300), r.Intn(300), r.Intn(20)
		for range 1200 {
			w.step()
		}
		w.agree()
		for _, p := range w.nodes {
			if p != nil {
				for what, often := range p.m.met {
					met[what] += often
				}
			}
		}
	}
	for _, what := range []string{
		"proposed what was locked", "proposed behind a later Propose", "voted with a lock",
		"bound by a lock", "decided by another view", "joined a Timeout",
	} {
		if met[what] == 0 {
			t.Error("never:", what)
		}
	}
}

// calm delivers all that is under way, in order, and ticks where it is time, till nothing
// is left to do ahead of a moment; who is down says and hears nothing.
func calm(t *testing.T, nodes []*Node, l []mail, until int, down []int) {
	t.Helper()
	for now := 0; now <= until; {
		for len(l) > 0 {
			x := l[0]
			l = l[1:]
			if slices.Contains(down, x.to) {
				continue
			}
			out, e := nodes[x.to].Take(x.from, x.data, now)
			fine(t, e)
			l = append(l, mails(x.to, out)...)
		}
		next := until + 1
		for i, n := range nodes {
			if n == nil || slices.Contains(down, i) {
				continue
			}
			at, is := n.Next()
			if is && at <= now {
				out, e := n.Tick(now)
				fine(t, e)
				l = append(l, mails(i, out)...)
			}
			if at, is := n.Next(); is {
				next = min(next, at)
			}
		}
		if len(l) == 0 {
			now = max(next, now+1)
		}
	}
}

// nodesOf makes n nodes; that of no number is none.
func nodesOf(t testing.TB, s api.Suite, n, base int) []*Node {
	t.Helper()
	l := []*Node{nil}
	for i := 1; i <= n; i++ {
		x, e := New(s, keysOf(s, n), i, secretOf(i), base)
		fine(t, e)
		l = append(l, x)
	}
	return l
}

// TestWhatIsSubmittedIsOrdered: though as many as may be false say nothing (P18.8).
func TestWhatIsSubmittedIsOrdered(t *testing.T) {
	r := rand.New(rand.NewSource(3))
	for n := 1; n <= 13; n++ {
		for range 6 {
			var down []int
			for _, i := range r.Perm(n)[:(n-1)/3] {
				down = append(down, i+1)
			}
			nodes := nodesOf(t, api.Little, n, 4+r.Intn(100))
			var l []mail
			var values [][]byte
			for i := 1; i <= n; i++ {
				if slices.Contains(down, i) || len(values) > 0 && r.Intn(3) != 0 {
					continue
				}
				value := []byte(strconv.Itoa(i))
				values = append(values, value)
				out, e := nodes[i].Submit(value, 0)
				fine(t, e)
				l = append(l, mails(i, out)...)
			}
			calm(t, nodes, l, 1<<20, down)
			for i := 1; i <= n; i++ {
				if slices.Contains(down, i) {
					continue
				}
				var got [][]byte
				for place := range nodes[i].Place() {
					b, e := nodes[i].Ordered(place)
					fine(t, e)
					got = append(got, b)
				}
				for _, value := range values {
					if !slices.ContainsFunc(got, func(b []byte) bool { return bytes.Equal(b, value) }) {
						t.Error(n, down, i, got, values)
					}
				}
				if _, is := nodes[i].Next(); is || nodes[i].Waiting() != 0 {
					t.Error(n, down, i, nodes[i].Waiting())
				}
			}
		}
	}
}
