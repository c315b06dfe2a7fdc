package suite

import (
	"encoding/hex"
	"testing"

	"reliquary/api"
	"reliquary/words"
)

// What was worked out once by other means, from the chapter's words.

func TestKnownBases(t *testing.T) {
	h := good[api.Key](t)(Base(api.Great))
	if b := good[[]byte](t)(KeyBytes(h)); hex.EncodeToString(b) != "81d19945a1b04f339a5a1b3ec3cdd1139b3751129adffc3c8c9038d73d035c33e10ef319657441476ef6877fbe80a20c" {
		t.Error(hex.EncodeToString(b))
	}
	if h := good[api.Key](t)(Base(api.Little)); h != (api.Key{S: api.Little, L: api.L1{X: 680769, Y: 739834}}) {
		t.Error(h)
	}
	if h := good[api.Key](t)(Base(api.Middle)); h != (api.Key{S: api.Middle, L: api.L1{X: 275425563242282422, Y: 1019764028308248193}}) {
		t.Error(h)
	}
}

type known struct {
	parts          []string
	num            string
	little, middle uint64
	sig            string
	sigs           [2]api.L1
}

func knownHashes() []known {
	return []known{
		{
			nil, "4de272c0331dd66c99b14bc72edff3bcdfe2ae576f228bea67f0ba9b804b0d0d", 14550, 39774569499817287,
			"a41417ced1e55006a8fb1286fbab0872e1c213e441d0740ff57b82dc2780243968273d34bed8b37e62f468ccbfd3b12b" +
				"17938aae11f8823a1db995250bbcbba006751c6ed86b61384e6eafd5219ed209f1f6ebc4a855e3d0a5f7c99bc598e921",
			[2]api.L1{{X: 605392, Y: 437154}, {X: 1080915516625703871, Y: 337800025732878312}},
		},
		{
			[]string{""}, "13e55b45ea8115479a232ea977b551f7d45131102a0aa5ae65d45b9b1fff35f9", 35695, 246795502324273,
			"86fb4ee94c0f84ef061872b5dfbcc36b6b4d8a099af2313c9daf66d979b058e104e882fd1632cab3b5f342c214606d94" +
				"0a03684ffb74df7cd767817118282dcf6608c8fb8a8625f2c321fc07a81a4fde8bcd442221244a63909c19b6d1376cc3",
			[2]api.L1{{X: 766289, Y: 774362}, {X: 886077151177901701, Y: 1091963815118188002}},
		},
		{
			[]string{"a text"}, "55f5904c57bc74389c581781443185448ec03fadd7d2cf97d3f24e514759ca0c", 53886, 50152805464749854,
			"a482f4f90a3dba3dd9367baf38d16b42d184c3f238e37fbde3c1fda89789fb0300d9a226c1fea515a7102470ea9009fd" +
				"152a01879fe87d6aecb2fa41b995b7e0855dffedfe7bfd7b8a6cf83cd09ae7786ef13cfe3affc23c2c0e7c33f5247046",
			[2]api.L1{{X: 299773, Y: 678055}, {X: 854821510797509203, Y: 742359940561162282}},
		},
		{
			[]string{"a", " text"}, "58db3b9b716cafcf149e86fcfdb2eccf2ac62a0b961d601e52ff911bc89c316c", 62051, 32548200487829111,
			"a553923442ee899aa15509bc0d068f59e6c294a2dc2d5505bdd37c87b4148dfb62aa0893879c05eb8a8682f8d9b1b51d" +
				"13ce6af5db2fd4ec3fa444a5e8ed3785bae6e3671276e9037dd3c4c1a6c9ecc8528d6c86dbfdebf05b01bd4a5befc0e1",
			[2]api.L1{{X: 167613, Y: 715101}, {X: 990449205342388824, Y: 336669529073783941}},
		},
		{
			// Of the little suite this text's sig is the zero.
			[]string{zeroText}, "3801eeb034f3f5b883e857c25085b433d151559892db105a9cd5c370b5d2a22", 58181, 53341946176921227,
			"b87645f16209752147b6c9ba3b97219f53c60bcb2ca3508d6685a6ee3376ec45805a75390ae0aa2d9c6e7dd9f0257234" +
				"031462152a2b59540a6deee92ba781bace4224b6a7f822554605da768c2a6c958512ddddcaa7acafdfd63a5f790c3487",
			[2]api.L1{{Zero: true}, {X: 975715378735108420, Y: 892010373054626662}},
		},
	}
}

func TestKnownHashes(t *testing.T) {
	for _, want := range knownHashes() {
		parts := texts(want.parts...)
		if n := good[api.Num](t)(HashNum(api.Great, parts)); words.Text(n) != want.num {
			t.Error(want.parts, words.Text(n))
		}
		if n := good[api.Num](t)(HashNum(api.Little, parts)); n != words.Of(want.little) {
			t.Error(want.parts, n)
		}
		if n := good[api.Num](t)(HashNum(api.Middle, parts)); n != words.Of(want.middle) {
			t.Error(want.parts, n)
		}
		sig := good[api.Sig](t)(HashSig(api.Great, parts))
		if b := good[[]byte](t)(SigBytes(sig)); hex.EncodeToString(b) != want.sig {
			t.Error(want.parts, hex.EncodeToString(b))
		}
		for i, s := range []api.Suite{api.Little, api.Middle} {
			if sig := good[api.Sig](t)(HashSig(s, parts)); sig != (api.Sig{S: s, L: want.sigs[i]}) {
				t.Error(want.parts, sig)
			}
		}
	}
}
