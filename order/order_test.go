package order

import (
	"bytes"
	"slices"
	"strconv"
	"testing"

	"reliquary/api"
	"reliquary/suite"
	"reliquary/words"
)

// orderOf tells a suite's order.
func orderOf(s api.Suite) api.Num {
	r, e := suite.Order(s)
	if e != api.OK {
		panic(e)
	}
	return r
}

// at tells all that a node shows.
func at(t testing.TB, n *Node) []byte {
	t.Helper()
	due, is := n.Next()
	b := textOf(eightOf(due), strconv.AppendBool(nil, is), eightOf(n.Place()), eightOf(n.View()), eightOf(n.Waiting()), n.Save())
	for i := range n.Place() {
		value, e := n.Ordered(i)
		fine(t, e)
		text, e := n.Decided(i)
		fine(t, e)
		b = append(b, textOf(value, text)...)
	}
	for _, i := range n.Doubles() {
		b = append(b, byte(i))
	}
	return b
}

// TestExample: the chapter's.
func TestExample(t *testing.T) {
	nodes := nodesOf(t, api.Little, 4, 100)
	if at, is := nodes[1].Next(); at != 0 || is || nodes[1].Place() != 0 || nodes[1].View() != 0 || nodes[1].Waiting() != 0 {
		t.Error(at, is)
	}
	out, e := nodes[1].Submit([]byte("abc"), 0)
	fine(t, e)
	sent(t, out, requestText([]byte("abc")), 2, 3, 4)
	calm(t, nodes, mails(1, out), 0, nil)
	for i := 1; i <= 4; i++ {
		if b, e := nodes[i].Ordered(0); nodes[i].Place() != 1 || e != api.OK || string(b) != "abc" || nodes[i].Waiting() != 0 {
			t.Error(i, b, e)
		}
	}
	for _, from := range []int{1, 5} {
		if out, e := nodes[1].Take(from, requestText([]byte("x")), 0); e != api.ErrArg || out != nil {
			t.Error(from, out, e)
		}
	}
	if out, e := nodes[1].Submit(nil, 0); e != api.ErrArg || out != nil {
		t.Error(out, e)
	}
	d, e := nodes[2].Decided(0)
	fine(t, e)
	again, e := Load(api.Little, keysOf(api.Little, 4), 2, secretOf(2), 100, nodes[2].Save(), [][]byte{d}, 9)
	fine(t, e)
	if _, is := again.Next(); is || again.Place() != 1 {
		t.Error(is, again.Place())
	}
	if b, e := again.Ordered(0); e != api.OK || string(b) != "abc" {
		t.Error(b, e)
	}
}

// makings are what New may be handed, and whether it makes a node of that.
type making struct {
	name   string
	s      api.Suite
	keys   []api.Key
	me     int
	secret api.Num
	base   int
	want   bool
}

func makings(s api.Suite) []making {
	four := keysOf(s, 4)
	with := func(i int, k api.Key) []api.Key {
		l := slices.Clone(four)
		l[i] = k
		return l
	}
	other := otherThan(s)
	two := secretOf(1)
	past, _ := words.Add(orderOf(s), two)
	last, _ := words.Sub(orderOf(s), words.Of(1))
	minus := keyOf(s, last)
	gone := api.Key{S: s, P: api.P1{Zero: true}}
	if s != api.Great {
		gone = api.Key{S: s, L: api.L1{Zero: true}}
	}
	return []making{
		{"four", s, four, 1, two, 100, true},
		{"the last of four", s, four, 4, secretOf(4), 100, true},
		{"one", s, four[:1], 1, two, 100, true},
		{"13", s, keysOf(s, 13), 13, secretOf(13), 100, true},
		{"the least base", s, four, 1, two, 4, true},
		{"the greatest base", s, four, 1, two, 1 << 20, true},
		{"the greatest secret", s, []api.Key{minus}, 1, last, 100, true},
		{"another one's key is the zero", s, with(2, gone), 1, two, 100, true},
		{"two of one key", s, with(2, four[0]), 3, two, 100, true},
		{"no nodes", s, nil, 1, two, 100, false},
		{"14 nodes", s, keysOf(s, 14), 1, two, 100, false},
		{"15 nodes, of which it is the last", s, keysOf(s, 15), 15, secretOf(15), 100, false},
		{"no key", s, with(2, api.Key{}), 1, two, 100, false},
		{"a key off its curve", s, with(3, api.Key{S: s, L: api.L1{X: 1, Y: 1}, P: api.P1{X: words.Of(1), Y: words.Of(1)}}), 1, two, 100, false},
		{"another suite's key", s, with(3, keyOf(other, secretOf(4))), 1, two, 100, false},
		{"its key is another suite's", s, with(0, keyOf(other, two)), 1, two, 100, false},
		{"another suite", other, four, 1, two, 100, false},
		{"no suite", 3, four, 1, two, 100, false},
		{"no suite below", -1, four, 1, two, 100, false},
		{"node 0", s, four, 0, two, 100, false},
		{"node 5", s, four, 5, two, 100, false},
		{"node -1", s, four, -1, two, 100, false},
		{"the least node", s, four, -1 << 63, two, 100, false},
		{"the greatest node", s, four, 1<<63 - 1, two, 100, false},
		{"another one's secret", s, four, 1, secretOf(2), 100, false},
		{"another one's number", s, four, 2, two, 100, false},
		{"no secret", s, four, 1, api.Num{}, 100, false},
		{"no secret, the zero's", s, with(0, gone), 1, api.Num{}, 100, false},
		{"the order", s, with(0, gone), 1, orderOf(s), 100, false},
		{"the order and two", s, four, 1, past, 100, false},
		{"all bits", s, four, 1, api.Num{1<<64 - 1, 1<<64 - 1, 1<<64 - 1, 1<<64 - 1, 1<<64 - 1, 1<<64 - 1}, 100, false},
		{"the base 3", s, four, 1, two, 3, false},
		{"the base 0", s, four, 1, two, 0, false},
		{"the base -4", s, four, 1, two, -4, false},
		{"a base more", s, four, 1, two, 1<<20 + 1, false},
		{"the greatest number", s, four, 1, two, 1<<63 - 1, false},
	}
}

func TestNew(t *testing.T) {
	for _, s := range suites() {
		for _, x := range makings(s) {
			n, e := New(x.s, x.keys, x.me, x.secret, x.base)
			if !x.want {
				if e != api.ErrArg || n != nil {
					t.Error(s, x.name, n, e)
				}
				continue
			}
			if e != api.OK || n == nil {
				t.Error(s, x.name, e)
				continue
			}
			want := textOf(eightOf(0), []byte("false"), eightOf(0), eightOf(0), eightOf(0), savedText(0, 0, -1, -1, -1, api.Digest{}, nil, nil))
			if !bytes.Equal(at(t, n), want) {
				t.Error(s, x.name, at(t, n))
			}
			if _, e := n.Submit([]byte("x"), 3); e != api.OK {
				t.Error(s, x.name, e)
			}
			if due, is := n.Next(); len(x.keys) > 1 && (due != 3+x.base || !is) {
				t.Error(s, x.name, due, is)
			}
		}
	}
}

// TestSubmit: its errors, in their order, and that they change nothing.
func TestSubmit(t *testing.T) {
	long := bytes.Repeat([]byte("l"), 16384)
	longer := bytes.Repeat([]byte("l"), 16385)
	p := four(t, 2)
	refused := func(value []byte, now int, want api.Errno) {
		t.Helper()
		was := at(t, p.n)
		if out, e := p.n.Submit(value, now); e != want || out != nil {
			t.Error(len(value), now, out, e)
		}
		if !bytes.Equal(was, at(t, p.n)) {
			t.Error("changed")
		}
	}
	sends(t, p.submit(long, 7), "1r 3r 4r 1s")
	refused(long, 6, api.ErrArg)
	refused(longer, 6, api.ErrArg)
	refused(nil, 7, api.ErrArg)
	refused([]byte{}, 7, api.ErrArg)
	refused(longer, 7, api.ErrLong)
	refused(long, 7, api.ErrThere)
	for i := 1; i < 256; i++ {
		sends(t, p.submit([]byte(strconv.Itoa(i)), 7), "1r 3r 4r")
	}
	refused([]byte("256"), 6, api.ErrArg)
	refused(nil, 7, api.ErrArg)
	refused(longer, 7, api.ErrLong)
	refused([]byte("9"), 7, api.ErrThere)
	refused([]byte("256"), 7, api.ErrFull)
	// One is ordered: there is room for one.
	p.takes(1, decided(api.Little, 0, 0, []byte("9"), 1, 2, 3), 7, "1d 3d 4d")
	p.submit([]byte("9"), 7)
	refused([]byte("256"), 7, api.ErrFull)
	p.takes(1, decided(api.Little, 0, 1, []byte("other"), 1, 2, 3), 7, "1d 3d 4d 3s")
	refused([]byte("256"), 7, api.ErrFull)
}

// TestMoments: which may be told, and which of them are kept.
func TestMoments(t *testing.T) {
	calls := map[string]func(n *Node, now int) ([]api.Out, api.Errno){
		"Submit":          func(n *Node, now int) ([]api.Out, api.Errno) { return n.Submit([]byte(strconv.Itoa(n.Waiting())), now) },
		"Take":            func(n *Node, now int) ([]api.Out, api.Errno) { return n.Take(3, requestText([]byte("t")), now) },
		"Take of nothing": func(n *Node, now int) ([]api.Out, api.Errno) { return n.Take(3, nil, now) },
		"Tick":            (*Node).Tick,
	}
	const last = 1 << 40
	for name, call := range calls {
		for _, x := range []struct {
			told, now int
			want      api.Errno
		}{
			{0, -1, api.ErrArg}, {0, 0, api.OK}, {0, last, api.OK}, {0, last + 1, api.ErrArg}, {0, -1 << 63, api.ErrArg},
			{0, 1<<63 - 1, api.ErrArg}, {5, 4, api.ErrArg}, {5, 5, api.OK}, {5, 0, api.ErrArg}, {5, 6, api.OK},
			{last, last, api.OK}, {last, last - 1, api.ErrArg}, {last, last + 1, api.ErrArg},
		} {
			for what, tell := range calls {
				p := four(t, 4)
				_, e := tell(p.n, x.told)
				fine(t, e)
				was := at(t, p.n)
				out, e := call(p.n, x.now)
				if e != x.want || e != api.OK && out != nil {
					t.Error(name, what, x, e)
				}
				if e != api.OK && !bytes.Equal(was, at(t, p.n)) {
					t.Error(name, what, x, "changed")
				}
				// What was refused told no moment.
				if _, e := p.n.Tick(max(x.told, 0)); (e == api.OK) != (x.want != api.OK || x.now == x.told) {
					t.Error(name, what, x, e)
				}
			}
		}
	}
	// Nor does what is refused for another reason.
	p := four(t, 4)
	p.submit([]byte("x"), 3)
	for _, value := range [][]byte{nil, []byte("x"), make([]byte, 16385)} {
		if _, e := p.n.Submit(value, 50); e == api.OK {
			t.Error(value)
		}
	}
	for _, from := range []int{0, 4, 5} {
		if _, e := p.n.Take(from, nil, 50); e != api.ErrArg {
			t.Error(from)
		}
	}
	sends(t, p.tick(4), "")
	// A node that is loaded was told a moment, too.
	n, e := Load(api.Little, keysOf(api.Little, 4), 4, secretOf(4), 100, nil, nil, 9)
	fine(t, e)
	if _, e := n.Tick(8); e != api.ErrArg {
		t.Error(e)
	}
	_, e = n.Tick(9)
	fine(t, e)
}

// TestTakeFromNobody: who may say something.
func TestTakeFromNobody(t *testing.T) {
	for _, n := range []int{1, 2, 4, 13} {
		for me := 1; me <= n; me++ {
			for from := -2; from <= 15; from++ {
				p := pairOf(t, api.Little, n, me, 9)
				was := at(t, p.n)
				out, e := p.n.Take(from, bare(7, 0), 0)
				if from >= 1 && from <= n && from != me {
					if e != api.OK || len(out) != 1 || out[0].To != from {
						t.Error(n, me, from, out, e)
					}
					continue
				}
				if e != api.ErrArg || out != nil || !bytes.Equal(was, at(t, p.n)) {
					t.Error(n, me, from, out, e)
				}
			}
		}
	}
	p := four(t, 2)
	for _, from := range []int{-1 << 63, 1<<63 - 1, 2} {
		for _, b := range [][]byte{nil, bare(0, 0), requestText([]byte("x"))} {
			if out, e := p.n.Take(from, b, 0); e != api.ErrArg || out != nil || p.n.Waiting() != 0 {
				t.Error(from, out, e)
			}
		}
	}
}

// TestPlacesThatAreNone: what is told of places alone that are below the node's.
func TestPlacesThatAreNone(t *testing.T) {
	p := four(t, 2)
	for places := range 3 {
		for _, i := range []int{-1 << 63, -1, places, places + 1, 1 << 30, 1<<63 - 1} {
			value, e := p.n.Ordered(i)
			text, f := p.n.Decided(i)
			if e != api.ErrArg || f != api.ErrArg || value != nil || text != nil {
				t.Error(places, i, value, text, e, f)
			}
		}
		for i := range places {
			text, e := p.n.Decided(i)
			if e != api.OK || !bytes.Equal(text, decided(api.Little, i, i, nil, 1, 2, 3)) {
				t.Error(i, text, e)
			}
			if value, e := p.n.Ordered(i); e != api.OK || len(value) != 0 {
				t.Error(i, value, e)
			}
		}
		p.take(1, decided(api.Little, places, places, nil, 1, 2, 3), 0)
	}
}

// TestNodesThatNobodyMade: all that is asked of them.
func TestNodesThatNobodyMade(t *testing.T) {
	for _, n := range []*Node{nil, {}, new(Node)} {
		for _, now := range []int{-1, 0, 5} {
			for _, value := range [][]byte{nil, []byte("x"), make([]byte, 16385)} {
				if out, e := n.Submit(value, now); e != api.ErrNil || out != nil {
					t.Error(out, e)
				}
				if out, e := n.Take(len(value), requestText(value), now); e != api.ErrNil || out != nil {
					t.Error(out, e)
				}
			}
			if out, e := n.Tick(now); e != api.ErrNil || out != nil {
				t.Error(out, e)
			}
			if b, e := n.Ordered(now); e != api.ErrNil || b != nil {
				t.Error(b, e)
			}
			if b, e := n.Decided(now); e != api.ErrNil || b != nil {
				t.Error(b, e)
			}
		}
		if at, is := n.Next(); at != 0 || is {
			t.Error(at, is)
		}
		if n.Place() != 0 || n.View() != 0 || n.Waiting() != 0 || n.Doubles() != nil || n.Save() != nil {
			t.Error(n.Place(), n.View(), n.Waiting(), n.Doubles(), n.Save())
		}
	}
}
