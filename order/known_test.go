package order

import (
	"crypto/sha256"
	"encoding/binary"
	"encoding/hex"
	"strings"
	"testing"

	"reliquary/api"
)

// wish is a value that is submitted at a moment, to a node.
type wish struct {
	at, node int
	value    string
}

// script is what is done to nodes, and what another program made of the chapter's words: how
// many messages are sent, the digests of them all and of what is saved behind each call, and
// what is ordered.
type script struct {
	s           api.Suite
	n, base     int
	wishes      []wish
	lost, often int // so many of so many messages are lost, by a rule,
	till        int // as long as no more than so many were sent
	until       int
	messages    int
	sent, saved string
	ordered     string
}

func scripts() []script {
	four := []wish{{0, 1, "a"}, {0, 2, "b"}, {5, 3, "c"}, {9, 3, "a"}}
	three := []wish{{0, 1, "a"}, {0, 2, "b"}, {2, 7, "c"}}
	return []script{
		{
			api.Little, 4, 100, []wish{{0, 1, "abc"}}, 0, 1, 0, 0, 49,
			"0d6b94528e51e023b68c296dc274c7b2f286f6ed3f140f324cbee44bf84bddbd",
			"fb18f25141e2d3a19a38a51bde127838ac609874320b44b7892dff4fb5223f15",
			"abc",
		},
		{
			api.Little, 4, 8, four, 4, 10, 300, 4000, 464,
			"1ffdeff450df38a34e06e171443519be2d4db5f0890276964895d9dfa5e80514",
			"cb6f1f9f9e2c88ce324cf0acf9f03be422bb8b0185581c96cd71248373986e88",
			"b a c",
		},
		{
			api.Little, 4, 8, four, 5, 10, 700, 4000, 852,
			"019a652b2243a4370166e7ab2b4ebf85a00337999608ebdc8449b38fa61e5494",
			"bbea0160134844f931b5cae5bd4dcc3485bff05bdfe9d20bdd9503fa59d35bfb",
			"b a c",
		},
		{
			api.Little, 13, 6, four, 3, 10, 4000, 2000, 5821,
			"99194166907330c9e141fbe6b3ad0b3797304d846353c3f2f9588f3da7e8adc8",
			"f65e128cce9027376c851cbef94b4989a85e80e048d7c1194b837476e4c94dd1",
			"a b c",
		},
		{
			api.Middle, 7, 4, three, 3, 10, 900, 3000, 1556,
			"fc9a97f9b4c781988054d669f04d2d6f9ec8846f484ab6bd805b4917a95b0de9",
			"cefbe997a6fd4c98966cd7469937a516004c4358fda0ad5a6a9fb2e9e644089e",
			"a b  c",
		},
		{
			api.Little, 3, 5, []wish{{0, 1, "x"}, {1, 2, "y"}}, 2, 5, 200, 3000, 266,
			"7d2bc9e12546fa29d00b62eee2b1729ca3567a3e23e8d0d6bc1c577608097b9d",
			"e1a1efc2d23081b2a1b1afe60838530260e39b720f9f816ea3158299dd36c645",
			"x y",
		},
		{
			api.Great, 4, 16, []wish{{0, 2, "abc"}}, 2, 5, 60, 500, 121,
			"559941281037f63e9d5fc783e1e6a4a34b82a8482db68db4edda21d28c512f64",
			"9adc42928fba751fa63118800ebe36b3eb005e62993908bb15ccd931d35c718f",
			"abc",
		},
	}
}

// isLost tells whether a message is lost, by its number.
func (x script) isLost(k int) bool {
	return k < x.till && int(uint32(k*2654435761)>>16)%x.often < x.lost
}

// play does what a script says, and tells how many messages were sent, and both digests.
func (x script) play(t *testing.T, nodes []*Node) (int, string, string) {
	sent, saved := sha256.New(), sha256.New()
	k := 0
	var under []mail
	post := func(i int, out []api.Out, e api.Errno) {
		t.Helper()
		fine(t, e)
		for _, m := range mails(i, out) {
			sent.Write([]byte{byte(m.from), byte(m.to)})
			sent.Write(binary.BigEndian.AppendUint32(nil, uint32(len(m.data))))
			sent.Write(m.data)
			if !x.isLost(k) {
				under = append(under, m)
			}
			k++
		}
		b := nodes[i].Save()
		saved.Write(binary.BigEndian.AppendUint32(nil, uint32(len(b))))
		saved.Write(b)
	}
	due := func(now int) int {
		for i := 1; i <= x.n; i++ {
			if at, is := nodes[i].Next(); is && at <= now {
				return i
			}
		}
		return 0
	}
	for now := range x.until + 1 {
		for _, w := range x.wishes {
			if w.at == now {
				out, e := nodes[w.node].Submit([]byte(w.value), now)
				if e == api.ErrThere {
					e = api.OK
				}
				post(w.node, out, e)
			}
		}
		for {
			for len(under) > 0 {
				m := under[0]
				under = under[1:]
				out, e := nodes[m.to].Take(m.from, m.data, now)
				post(m.to, out, e)
			}
			i := due(now)
			if i == 0 {
				break
			}
			out, e := nodes[i].Tick(now)
			post(i, out, e)
		}
	}
	return k, hex.EncodeToString(sent.Sum(nil)), hex.EncodeToString(saved.Sum(nil))
}

// TestKnownScripts: all that is sent and saved is what another program makes of it, byte
// for byte.
func TestKnownScripts(t *testing.T) {
	for _, x := range scripts() {
		nodes := nodesOf(t, x.s, x.n, x.base)
		k, sent, saved := x.play(t, nodes)
		if k != x.messages || sent != x.sent || saved != x.saved {
			t.Error(x.s, x.n, k, sent, saved)
		}
		for i := 1; i <= x.n; i++ {
			var l []string
			for place := range nodes[i].Place() {
				b, e := nodes[i].Ordered(place)
				fine(t, e)
				l = append(l, string(b))
			}
			if got := strings.Join(l, " "); got != x.ordered {
				t.Error(x.s, x.n, i, got)
			}
		}
	}
}

// TestKnownTexts: some messages of the chapter's example, in full.
func TestKnownTexts(t *testing.T) {
	nodes := nodesOf(t, api.Little, 4, 100)
	var l []mail
	post := func(i int, out []api.Out, e api.Errno) {
		t.Helper()
		fine(t, e)
		l = append(l, mails(i, out)...)
	}
	out, e := nodes[1].Submit([]byte("abc"), 0)
	post(1, out, e)
	for i := 0; i < len(l); i++ {
		out, e := nodes[l[i].to].Take(l[i].from, l[i].data, 0)
		post(l[i].to, out, e)
	}
	if len(l) != 49 {
		t.Fatal(len(l))
	}
	for _, x := range []struct {
		i, from, to int
		text        string
	}{
		{0, 1, 2, "00000002000000010100000003616263"},
		{3, 2, 1, "0000000500000001020000000800000000000000000000000800000000000000000000000000000000"},
		{6, 1, 2, "0000000500000001030000000800000000000000000000000800000000000000000000000361626300000000"},
		{9, 1, 2, "000000020000000104000000a900000003000000580000000500000008000000000000000100000008000000000000000000000008000000000000000000000020ba7816bf8f01cfea414140de5dae2223b00361a396177a9cb410ff61f20015ad00000008000000000000000100000011000000000000038763000000000004c8fb0000003000000000000000000000000000000000000000000000000000000000000000000000000000000000000000000000cc95"},
		{21, 3, 1, "000000020000000104000000a900000003000000580000000500000008000000000000000200000008000000000000000000000008000000000000000000000020ba7816bf8f01cfea414140de5dae2223b00361a396177a9cb410ff61f20015ad0000000800000000000000030000001100000000000003bd05000000000003beac0000003000000000000000000000000000000000000000000000000000000000000000000000000000000000000000000000bc49"},
		{33, 1, 2, "000000030000000105000000036162630000014b0000000d00000008000000000000000200000008000000000000000000000008000000000000000000000020ba7816bf8f01cfea414140de5dae2223b00361a396177a9cb410ff61f20015ad00000008000000000000000100000011000000000000055f3f00000000000a6c8d000000300000000000000000000000000000000000000000000000000000000000000000000000000000000000000000000089e20000000800000000000000030000001100000000000003bd05000000000003beac0000003000000000000000000000000000000000000000000000000000000000000000000000000000000000000000000000bc490000000800000000000000040000001100000000000005bd6500000000000b94700000003000000000000000000000000000000000000000000000000000000000000000000000000000000000000000000000716f"},
		{37, 2, 3, "000000030000000105000000036162630000014b0000000d00000008000000000000000200000008000000000000000000000008000000000000000000000020ba7816bf8f01cfea414140de5dae2223b00361a396177a9cb410ff61f20015ad000000080000000000000002000000110000000000000a9620000000000009b0fe0000003000000000000000000000000000000000000000000000000000000000000000000000000000000000000000000000203c0000000800000000000000030000001100000000000003bd05000000000003beac0000003000000000000000000000000000000000000000000000000000000000000000000000000000000000000000000000bc490000000800000000000000040000001100000000000005bd6500000000000b94700000003000000000000000000000000000000000000000000000000000000000000000000000000000000000000000000000716f"},
	} {
		m := l[x.i]
		if got := hex.EncodeToString(m.data); m.from != x.from || m.to != x.to || got != x.text {
			t.Error(x.i, m.from, m.to, got)
		}
	}
	b, e := nodes[2].Decided(0)
	if e != api.OK || hex.EncodeToString(b) != hex.EncodeToString(l[37].data) {
		t.Error(b, e)
	}
	// Behind a decision nothing binds.
	want := "000000080000000800000000000000010000000800000000000000000000000800000000000000000000000800000000000000000000000800000000000000000000002000000000000000000000000000000000000000000000000000000000000000000000000000000000"
	if got := hex.EncodeToString(nodes[2].Save()); got != want {
		t.Error(got)
	}
}
