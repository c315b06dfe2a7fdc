package channel

import (
	"encoding/hex"
	"testing"

	"reliquary/api"
	"reliquary/words"
)

// known is a channel, and what another program made of the chapter's words: x, y, e, f;
// the hello, the reply; of who begins the message 1 of abc, with nothing, and 257 of abc,
// with more; of who answers the message 2 of abc, with nothing; the box of x Y of abc,
// with a byte 1.
type known struct {
	s             api.Suite
	x, y, e, f    string
	hello, reply  string
	first, far    string
	second, boxed string
}

func knownChannels() []known {
	return []known{
		{
			api.Little, "5", "7", "9", "b",
			"00000000000003303d00000000000a6822",
			"000000000000045d7900000000000ae7830000000000000001183b9d98da2fb4e307b335d407bbffe8",
			"0000000000000001859f1047c260bd69353140ab559e1e22eec67d",
			"000000000000010120ff970b3907495587abd51e16f49ecd8f1a58",
			"0000000000000002593963cbd30708fd336e73d94c6a5113210863",
			"30e7f5158aa6811202024a302644aa5952abac",
		},
		{
			api.Middle, "5", "7", "9", "b",
			"000b30328686c65b350c930f9f165f399e",
			"000aad842aad805fae06efeac03b6e53db0000000000000001e6fd86df93f91f3d042ff071c470d712",
			"0000000000000001be1e82945964f7d5be0db7c9c66f74f19e7963",
			"0000000000000101d92f79da834d3b47e06200400959a5dffa1f6a",
			"0000000000000002b1e6184d1c65cbee83428098d0ed2e43b2ac47",
			"864313b96820c1ef312ff6c527275c227b9cae",
		},
		{
			api.Great,
			"73eda753299d7d483339d80809a1d80553bda402fffe5bfefffffffefffffffc",
			"123456789abcdef0123456789abcdef0123456789abcdef",
			"100000000000000000000000000000000000000000000000009",
			"73eda753299d7d483339d80809a1d80153bda402fffe5bfeffffffff00000001",
			"b484af37dec863476b761168b8ff6303ccceb01e9e6ce1c19beba8aba1c2bb794df59fd4ba3a9b6a26ae1aff019d7816",
			"8a99ba4f9c1a7e6c42fa9b8b5fa3e74388b35e8c5c2d82ab0b7290b30cb662359d34853a442abc78ffb43615c5f0feda" +
				"0000000000000001070409e7cd6d6e9949f7e3c1a27d45f9",
			"0000000000000001a78d055378127ef3cb185bddcbf27082350719",
			"00000000000001012e7f7d353824ca8298f628d1bdb90826d62ac0",
			"000000000000000218f4725366c10e10b353ea6630725a7e38924f",
			"0b2834affbb1df26a683f6731d16f6fd8b681b",
		},
	}
}

// parsed tells the number of some digits.
func parsed(t *testing.T, digits string) api.Num {
	t.Helper()
	n, e := words.Parse(digits)
	fine(t, e)
	return n
}

// unhex tells the bytes of some digits.
func unhex(t *testing.T, digits string) []byte {
	t.Helper()
	b, err := hex.DecodeString(digits)
	if err != nil {
		t.Fatal(err)
	}
	return b
}

func TestKnownChannels(t *testing.T) {
	for _, k := range knownChannels() {
		x, y, e, f := parsed(t, k.x), parsed(t, k.y), parsed(t, k.e), parsed(t, k.f)
		first, fault := Key(k.s, x)
		fine(t, fault)
		second, fault := Key(k.s, y)
		fine(t, fault)
		o, hello, fault := Begin(k.s, x, second, e)
		is(t, hello, fault, unhex(t, k.hello), api.OK)
		b, reply, fault := Answer(k.s, y, first, f, hello)
		is(t, reply, fault, unhex(t, k.reply), api.OK)
		a, fault := o.Finish(reply)
		fine(t, fault)
		has(t, a, 0, 1)
		has(t, b, 1, 0)
		m, fault := a.Seal([]byte("abc"), nil)
		is(t, m, fault, unhex(t, k.first), api.OK)
		for range 255 {
			_, fault = a.Seal(nil, nil)
			fine(t, fault)
		}
		m, fault = a.Seal([]byte("abc"), []byte("more"))
		is(t, m, fault, unhex(t, k.far), api.OK)
		m, fault = b.Seal([]byte("abc"), nil)
		is(t, m, fault, unhex(t, k.second), api.OK)
		p, fault := Point(x, second)
		fine(t, fault)
		m, fault = SealPoint(p, []byte("abc"), []byte{1})
		is(t, m, fault, unhex(t, k.boxed), api.OK)
	}
}

// TestKnownBoxesOfTheZero: it is a point as any other one.
func TestKnownBoxesOfTheZero(t *testing.T) {
	for s, want := range map[api.Suite]string{
		api.Little: "accd9e448a3dd8a160673587efac96c1ab108c",
		api.Middle: "accd9e448a3dd8a160673587efac96c1ab108c", // the same bytes, so the same box
		api.Great:  "c86596900f3db67cef924e0e83ef4103fb12ed",
	} {
		b, e := SealPoint(zeroOf(s), []byte("abc"), []byte{1})
		is(t, b, e, unhex(t, want), api.OK)
		b, e = OpenPoint(zeroOf(s), b, []byte{1})
		is(t, b, e, []byte("abc"), api.OK)
	}
}
