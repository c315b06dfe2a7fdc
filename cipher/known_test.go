package cipher

import (
	"bytes"
	"strings"
	"testing"
)

// The known answers of RFC 8439: its sections 2.3 to 2.8, and its appendix A.

const ladies = "Ladies and Gentlemen of the class of '99: If I could offer you only one tip for the future, sunscreen would be it."

const twas = "'Twas brillig, and the slithy toves\nDid gyre and gimble in the wabe:\nAll mimsy were the borogoves,\nAnd the mome raths outgrabe."

func TestQuarterOfTheStandard(t *testing.T) {
	a, b, c, d := uint32(0x11111111), uint32(0x01020304), uint32(0x9b8d6f43), uint32(0x01234567)
	quarter(&a, &b, &c, &d)
	if a != 0xea2a92f4 || b != 0xcb1cf8ce || c != 0x4581472e || d != 0x5881c4bb {
		t.Errorf("%x %x %x %x", a, b, c, d)
	}
}

func TestBlockOfTheStandard(t *testing.T) {
	none, two := make([]byte, 32), make([]byte, 32)
	two[1] = 255
	one := make([]byte, 32)
	one[31] = 1
	for _, c := range []struct {
		key, nonce []byte
		counter    uint32
		want       string
	}{
		{from(0, 32), read16("000000090000004a00000000"), 1, "10f1e7e4 d13b5915 500fdd1f a32071c4 c7d1f4c7 33c06803 0422aa9a c3d46c4e" +
			"d2826446 079faa09 14c2d705 d98b02a2 b5129cd1 de164eb9 cbd083e8 a2503c4e"},
		{none, none[:12], 0, "76b8e0ada0f13d90405d6ae55386bd28 bdd219b8a08ded1aa836efcc8b770dc7" +
			"da41597c5157488d7724e03fb8d84a37 6a43b8f41518a11cc387b669b2ee6586"},
		{none, none[:12], 1, "9f07e7be5551387a98ba977c732d080d cb0f29a048e3656912c6533e32ee7aed" +
			"29b721769ce64e43d57133b074d839d5 31ed1f28510afb45ace10a1f4b794d6f"},
		{one, none[:12], 1, "3aeb5224ecf849929b9d828db1ced4dd 832025e8018b8160b82284f3c949aa5a" +
			"8eca00bbb4a73bdad192b5c42f73f2fd 4e273644c8b36125a64addeb006c13a0"},
		{two, none[:12], 2, "72d54dfbf12ec44b362692df94137f32 8fea8da73990265ec1bbbea1ae9af0ca" +
			"13b25aa26cb4a648cb9b9d1be65b2c09 24a66c54d545ec1b7374f4872e99f096"},
		{none, append(make([]byte, 11), 2), 0, "c2c64d378cd536374ae204b9ef933fcd 1a8b2288b3dfa49672ab765b54ee27c7" +
			"8a970e0e955c14f3a88e741b97c286f7 5f8fc299e8148362fa198a39531bed6d"},
		{from(128, 32), read16("000000000001020304050607"), 0, "8ad5a08b905f81cc815040274ab29471 a833b637e3fd0da508dbb8e2fdd1a646"},
	} {
		if b := block(t, c.key, c.nonce, c.counter); !bytes.HasPrefix(b, read16(c.want)) {
			t.Errorf("Block of %x, %x, %d is %x", c.key, c.nonce, c.counter, b)
		}
	}
}

func TestStreamOfTheStandard(t *testing.T) {
	for _, c := range []struct {
		key, nonce string
		counter    uint32
		text, want string
	}{
		{"000102030405060708090a0b0c0d0e0f101112131415161718191a1b1c1d1e1f", "000000000000004a00000000", 1, ladies,
			"6e2e359a2568f98041ba0728dd0d6981 e97e7aec1d4360c20a27afccfd9fae0b f91b65c5524733ab8f593dabcd62b357 1639d624e65152ab8f530c359f0861d8" +
				"07ca0dbf500d6a6156a38e088a22b65e 52bc514d16ccf806818ce91ab7793736 5af90bbf74a35be6b40b8eedf2785e42 874d"},
		{"1c9240a5eb55d38af333888604f6b5f0473917c1402b80099dca5cbc207075c0", "000000000000000000000002", 42, twas,
			"62e6347f95ed87a45ffae7426f27a1df 5fb69110044c0d73118effa95b01e5cf 166d3df2d721caf9b21e5fb14c616871 fd84c54f9d65b283196c7fe4f60553eb" +
				"f39c6402c42234e32a356b3e764312a6 1a5532055716ead6962568f87d3f3f77 04c6a8d1bcd1bf4d50d6154b6da731b1 87b58dfd728afa36757a797ac188d1"},
		{strings.Repeat("00", 32), "000000000000000000000000", 0, strings.Repeat("\x00", 20), "76b8e0ada0f13d90405d6ae55386bd28 bdd219b8"},
	} {
		if b := streamed(t, read16(c.key), read16(c.nonce), c.counter, []byte(c.text)); !bytes.Equal(b, read16(c.want)) {
			t.Errorf("Stream of %.20q is %x", c.text, b)
		}
	}
}

func TestTagOfTheStandard(t *testing.T) {
	const big = "ffffffffffffffffffffffffffffffff"
	const none = "00000000000000000000000000000000"
	const jabber = "1c9240a5eb55d38af333888604f6b5f0473917c1402b80099dca5cbc207075c0"
	for i, c := range []struct{ key, text, want string }{
		{"85d6be7857556d337f4452fe42d506a8 0103808afb0db2fd4abff6af4149f51b", "Cryptographic Forum Research Group", "a8061dc1305136c6c22b8baf0c0127a9"},
		{none + none, strings.Repeat("\x00", 64), none},
		{jabber, twas, "4541669a7eaaee61e708dc7cbcc5eb62"},
		{"02" + none[2:] + none, string(read16(big)), "03" + none[2:]},
		{"02" + none[2:] + big, string(read16("02" + none[2:])), "03" + none[2:]},
		{"01" + none[2:] + none, string(read16(big + "f0" + big[2:] + "11" + none[2:])), "05" + none[2:]},
		{"01" + none[2:] + none, string(read16(big + "fbfefefefefefefefefefefefefefefe" + "01010101010101010101010101010101")), none},
		{"02" + none[2:] + none, string(read16("fd" + big[2:])), "fa" + big[2:]},
		{"01000000000000000400000000000000" + none, string(read16("e33594d7505e43b90000000000000000 33 94d7505e4379cd0100000000000000 00000000000000000000000000000000 01000000000000000000000000000000")),
			"14000000000000005500000000000000"},
		{"01000000000000000400000000000000" + none, string(read16("e33594d7505e43b90000000000000000 33 94d7505e4379cd0100000000000000 00000000000000000000000000000000")), "13" + none[2:]},
	} {
		if b := tag(t, read16(c.key), []byte(c.text)); !bytes.Equal(b, read16(c.want)) {
			t.Errorf("the tag %d is %x", i, b)
		}
	}
}

func TestSealOfTheStandard(t *testing.T) {
	key, nonce := from(128, 32), read16("07000000 4041424344454647")
	more := read16("50515253c0c1c2c3c4c5c6c7")
	want := read16("d31a8d34648e60db7b86afbc53ef7ec2 a4aded51296e08fea9e2b5a736ee62d6 3dbea45e8ca9671282fafb69da92728b 1a71de0a9e060b2905d6a5b67ecd3b36" +
		"92ddbd7f2d778b8c9803aee328091b58 fab324e4fad675945585808b4831d7bc 3ff4def08e4b7a9de576d26586cec64b 6116" +
		"1ae10b594f09e26a7e902ecbd0600691")
	if b := sealed(t, key, nonce, []byte(ladies), more); !bytes.Equal(b, want) {
		t.Errorf("%x", b)
	}
	if b := opened(t, key, nonce, want, more); string(b) != ladies {
		t.Errorf("%q", b)
	}
}

func TestOpenOfTheStandard(t *testing.T) {
	const want = "Internet-Drafts are draft documents valid for a maximum of six months and may be updated, replaced, or obsoleted by other documents at any time. " +
		"It is inappropriate to use Internet-Drafts as reference material or to cite them other than as /“work in progress./”"
	key, nonce := read16("1c9240a5eb55d38af333888604f6b5f0473917c1402b80099dca5cbc207075c0"), read16("000000000102030405060708")
	more := read16("f33388860000000000004e91")
	b := read16("64a0861575861af460f062c79be643bd5e805cfd345cf389f108670ac76c8cb24c6cfc18755d43eea09ee94e382d26b0bdb7b73c321b0100d4f03b7f355894cf" +
		"332f830e710b97ce98c8a84abd0b948114ad176e008d33bd60f982b1ff37c8559797a06ef4f0ef61c186324e2b3506383606907b6a7c02b0f9f6157b53c867e4" +
		"b9166c767b804d46a59b5216cde7a4e99040c5a40433225ee282a1b0a06c523eaf4534d7f83fa1155b0047718cbc546a0d072b04b3564eea1b422273f548271a" +
		"0bb2316053fa76991955ebd63159434ecebb4e466dae5a1073a6727627097a1049e617d91d361094fa68f0ff77987130305beaba2eda04df997b714d6c6f2c29" +
		"a6ad5cb4022b02709b" + "eead9d67890cbb22392336fea1851f38")
	if s := opened(t, key, nonce, b, more); string(s) != want {
		t.Errorf("%q", s)
	}
}
