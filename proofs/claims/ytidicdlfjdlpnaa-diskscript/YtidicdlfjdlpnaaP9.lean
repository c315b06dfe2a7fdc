/- Texts of the proof, joined. -/
import Derived.Test.YtidicdlfjdlpnaaP8
import Derived.Deep.QuietTactic
import Derived.BigQuiet
import Derived.ProofKit
import Derived.OpenShut
import Derived.ChangeSlices
import Derived.ChangeMaps5
import Derived.Test.YtidicdlfjdlpnaaRows
import Derived.SizedLaws
section
namespace Go.Proofs.Ytidicdlfjdlpnaa
open Go.RowKit
namespace Rg
namespace Wi
set_option maxRecDepth 100000
@[reducible] def r32 : Array Oper := #[{ dst := some 173, op := Op.move (Operand.tmp 7), type := 4, pos := "law.go:54", after := #[], guard := none }, { dst := some 174, op := Op.move (Operand.tmp 173), type := 4, pos := "law.go:54", after := #[{ on := 0, ground := Ground.data }], guard := none }, { dst := some 175, op := Op.move (Operand.tmp 16), type := 51, pos := "law.go:54", after := #[{ on := 1, ground := Ground.guard }], guard := some (1, true) }, { dst := some 176, op := Op.move (Operand.tmp 1), type := 29, pos := "law.go:54", after := #[{ on := 1, ground := Ground.guard }], guard := some (1, true) }, { dst := some 177, op := Op.call { callee := Callee.value (Operand.func 61), args := #[Operand.tmp 176], argTypes := #[29] }, type := 51, pos := "law.go:54", after := #[{ on := 3, ground := Ground.data }, { on := 1, ground := Ground.chain }, { on := 1, ground := Ground.guard }], guard := some (1, true) }, { dst := some 178, op := Op.call { callee := Callee.value (Operand.func 30), args := #[Operand.tmp 175, Operand.tmp 177], argTypes := #[51, 51] }, type := 4, pos := "law.go:54", after := #[{ on := 2, ground := Ground.data }, { on := 4, ground := Ground.data }, { on := 4, ground := Ground.chain }, { on := 1, ground := Ground.guard }], guard := some (1, true) }, { dst := some 179, op := Op.pick (Operand.tmp 174) (Operand.tmp 178) (Operand.const (Value.bool false)), type := 4, pos := "law.go:54", after := #[{ on := 1, ground := Ground.data }, { on := 5, ground := Ground.data }], guard := none }, { dst := some 180, op := Op.move (Operand.tmp 179), type := 4, pos := "law.go:54", after := #[{ on := 6, ground := Ground.data }, { on := 5, ground := Ground.chain }], guard := none }, { dst := some 181, op := Op.move (Operand.tmp 0), type := 25, pos := "law.go:54", after := #[{ on := 7, ground := Ground.guard }], guard := some (7, true) }, { dst := some 182, op := Op.fieldAddr 37 (Operand.tmp 5) 1, type := 0, pos := "law.go:54", after := #[{ on := 7, ground := Ground.guard }], guard := some (7, true) }, { dst := some 183, op := Op.load 9 (Operand.tmp 182), type := 9, pos := "law.go:54", after := #[{ on := 9, ground := Ground.data }, { on := 7, ground := Ground.guard }], guard := some (7, true) }, { dst := some 184, op := Op.call { callee := Callee.value (Operand.func 27), args := #[Operand.tmp 181, Operand.tmp 183], argTypes := #[25, 9] }, type := 3, pos := "law.go:54", after := #[{ on := 8, ground := Ground.data }, { on := 10, ground := Ground.data }, { on := 7, ground := Ground.chain }, { on := 7, ground := Ground.guard }], guard := some (7, true) }, { dst := some 185, op := Op.move (Operand.tmp 1), type := 29, pos := "law.go:54", after := #[{ on := 7, ground := Ground.guard }], guard := some (7, true) }, { dst := some 186, op := Op.fieldAddr 37 (Operand.tmp 5) 1, type := 0, pos := "law.go:54", after := #[{ on := 7, ground := Ground.guard }], guard := some (7, true) }, { dst := some 187, op := Op.load 9 (Operand.tmp 186), type := 9, pos := "law.go:54", after := #[{ on := 13, ground := Ground.data }, { on := 7, ground := Ground.guard }], guard := some (7, true) }, { dst := some 188, op := Op.call { callee := Callee.value (Operand.func 62), args := #[Operand.tmp 185, Operand.tmp 187], argTypes := #[29, 9] }, type := 3, pos := "law.go:54", after := #[{ on := 12, ground := Ground.data }, { on := 14, ground := Ground.data }, { on := 11, ground := Ground.chain }, { on := 7, ground := Ground.guard }], guard := some (7, true) }, { dst := some 189, op := Op.binOp Go.BinOp.eql 3 (Operand.tmp 184) (Operand.tmp 188) 3, type := 4, pos := "law.go:54", after := #[{ on := 11, ground := Ground.data }, { on := 15, ground := Ground.data }, { on := 7, ground := Ground.guard }], guard := some (7, true) }, { dst := some 190, op := Op.pick (Operand.tmp 180) (Operand.tmp 189) (Operand.const (Value.bool false)), type := 4, pos := "law.go:54", after := #[{ on := 7, ground := Ground.data }, { on := 16, ground := Ground.data }], guard := none }, { dst := some 191, op := Op.move (Operand.tmp 190), type := 4, pos := "law.go:54", after := #[{ on := 17, ground := Ground.data }, { on := 15, ground := Ground.chain }], guard := none }, { dst := some 192, op := Op.move (Operand.tmp 0), type := 25, pos := "law.go:54", after := #[{ on := 18, ground := Ground.guard }], guard := some (18, true) }, { dst := some 193, op := Op.call { callee := Callee.value (Operand.func 28), args := #[Operand.tmp 192], argTypes := #[25] }, type := 3, pos := "law.go:54", after := #[{ on := 19, ground := Ground.data }, { on := 18, ground := Ground.chain }, { on := 18, ground := Ground.guard }], guard := some (18, true) }, { dst := some 194, op := Op.move (Operand.tmp 1), type := 29, pos := "law.go:54", after := #[{ on := 18, ground := Ground.guard }], guard := some (18, true) }, { dst := some 195, op := Op.nilCheck (Operand.tmp 194), type := 0, pos := "law.go:54", after := #[{ on := 21, ground := Ground.data }, { on := 18, ground := Ground.guard }], guard := some (18, true) }, { dst := some 196, op := Op.fieldAddr 103 (Operand.tmp 195) 2, type := 0, pos := "law.go:54", after := #[{ on := 22, ground := Ground.data }, { on := 18, ground := Ground.guard }], guard := some (18, true) }, { dst := some 197, op := Op.load 3 (Operand.tmp 196), type := 3, pos := "law.go:54", after := #[{ on := 23, ground := Ground.data }, { on := 18, ground := Ground.guard }], guard := some (18, true) }, { dst := some 198, op := Op.binOp Go.BinOp.eql 3 (Operand.tmp 193) (Operand.tmp 197) 3, type := 4, pos := "law.go:54", after := #[{ on := 20, ground := Ground.data }, { on := 24, ground := Ground.data }, { on := 18, ground := Ground.guard }], guard := some (18, true) }, { dst := some 199, op := Op.pick (Operand.tmp 191) (Operand.tmp 198) (Operand.const (Value.bool false)), type := 4, pos := "law.go:54", after := #[{ on := 18, ground := Ground.data }, { on := 25, ground := Ground.data }], guard := none }, { dst := some 7, op := Op.assign (Operand.tmp 199), type := 4, pos := "law.go:54", after := #[{ on := 26, ground := Ground.data }, { on := 20, ground := Ground.chain }, { on := 0, ground := Ground.phase }, { on := 1, ground := Ground.phase }, { on := 2, ground := Ground.phase }, { on := 3, ground := Ground.phase }, { on := 4, ground := Ground.phase }, { on := 5, ground := Ground.phase }, { on := 6, ground := Ground.phase }, { on := 7, ground := Ground.phase }, { on := 8, ground := Ground.phase }, { on := 9, ground := Ground.phase }, { on := 10, ground := Ground.phase }, { on := 11, ground := Ground.phase }, { on := 12, ground := Ground.phase }, { on := 13, ground := Ground.phase }, { on := 14, ground := Ground.phase }, { on := 15, ground := Ground.phase }, { on := 16, ground := Ground.phase }, { on := 17, ground := Ground.phase }, { on := 18, ground := Ground.phase }, { on := 19, ground := Ground.phase }, { on := 20, ground := Ground.phase }, { on := 21, ground := Ground.phase }, { on := 22, ground := Ground.phase }, { on := 23, ground := Ground.phase }, { on := 24, ground := Ground.phase }, { on := 25, ground := Ground.phase }, { on := 26, ground := Ground.phase }], guard := none }]
def tfe : Nat → Bool := fun i => i == 4 || i == 5 || i == 11 || i == 15 || i == 20
/-- What the tail's region knows. -/
structure Jt (w : World) (l : List ByteArray) (pn k : Int) (d : Nat → Bool) (ε : Nat → Value) (u : World) : Prop where
  b : Below w.heap.size w u
  r : d 4 = true → u.ownsRow w.heap.size 9 1 (ε 4) l.length (l.map .string)
  e5 : ε 5 = .bool true
  e11 : ε 11 = .int .i64 pn
  e15 : ε 15 = .int .i64 pn
  e20 : ε 20 = .int .i64 k
theorem Jt.step {w : World} {l : List ByteArray} {pn k : Int} {d : Nat → Bool} {ε : Nat → Value} {u u' : World} (h : Jt w l pn k d ε u) (hb : Below u.heap.size u u') {i : Nat} {v : Value} (hi : i ≠ 4) (h5 : i = 5 → v = .bool true) (h11 : i = 11 → v = .int .i64 pn) (h15 : i = 15 → v = .int .i64 pn) (h20 : i = 20 → v = .int .i64 k) : Jt w l pn k (upd d i true) (upd ε i v) u' := by
  refine ⟨h.b.trans (hb.mono h.b.size), fun e => ?_, ?_, ?_, ?_, ?_⟩
  · rw [upd_ne _ _ (Ne.symm hi)] at e
    rw [upd_ne _ _ (Ne.symm hi)]
    exact own_keep (h.r e) fun b hm => hb.block b (own_lt (h.r e) b hm)
  · unfold upd; split
    · rename_i e; exact h5 e.symm
    · exact h.e5
  · unfold upd; split
    · rename_i e; exact h11 e.symm
    · exact h.e11
  · unfold upd; split
    · rename_i e; exact h15 e.symm
    · exact h.e15
  · unfold upd; split
    · rename_i e; exact h20 e.symm
    · exact h.e20
theorem Jt.s4 {w : World} {l : List ByteArray} {pn k : Int} {d : Nat → Bool} {ε : Nat → Value} {u u' : World} (h : Jt w l pn k d ε u) (hb : Below u.heap.size u u') {v : Value} (hr : u'.ownsRow u.heap.size 9 1 v l.length (l.map .string)) : Jt w l pn k (upd d 4 true) (upd ε 4 v) u' :=
  ⟨h.b.trans (hb.mono h.b.size), fun _ => by rw [upd_same]; exact own_base hr h.b.size, by rw [upd_ne _ _ (by decide)]; exact h.e5, by rw [upd_ne _ _ (by decide)]; exact h.e11, by rw [upd_ne _ _ (by decide)]; exact h.e15, by rw [upd_ne _ _ (by decide)]; exact h.e20⟩
set_option maxHeartbeats 8000000 in
/-- The law's act behind its call: names, pending operations and the count are the document's. -/
theorem act_r32 {Q : Exit → Act → World → Prop} {w0 w : World} {d0 i b B : Nat} {A : Ad} {X : Dx} {E : List Nat} {s : ByteArray} {v x2 x3 x4 x6 x8 x9 x10 x11 x12 x13 x14 x15 x17 x18 x19 x20 x21 x22 x23 x24 x25 x26 x27 x28 x29 x30 x31 x32 x33 x34 x35 x36 x37 x38 x39 x40 x41 x42 x43 x44 x45 x46 x47 x48 x49 x50 x51 x52 x53 x54 x55 x56 x57 x58 x59 x60 x61 x62 x63 x64 x65 x66 x67 x68 x69 x70 x71 x72 x73 x74 x75 x76 x77 x78 x79 x80 x81 x82 x83 x84 x85 x86 x87 x88 x89 x90 x91 x92 x93 x94 x95 x96 x97 x98 x99 x100 x101 x102 x103 x104 x105 x106 x107 x108 x109 x110 x111 x112 x113 x114 x115 x116 x117 x118 x119 x120 x121 x122 x123 x124 x125 x126 x127 x128 x129 x130 x131 x132 x133 x134 x135 x136 x137 x138 x139 x140 x141 x142 x143 x144 x145 x146 x147 x148 x149 x150 x151 x152 x153 x154 x155 x156 x157 x158 x159 x160 x161 x162 x163 x164 x165 x166 x167 x168 x169 x170 x171 x172 x173 x174 x175 x176 x177 x178 x179 x180 x181 x182 x183 x184 x185 x186 x187 x188 x189 x190 x191 x192 x193 x194 x195 x196 x197 x198 x199 x200 x201 x202 : Value} (h : Dd w0 d0 i A X E w) (hi : i ≤ 800000) (hs : s.size ≤ 281474976710656) (hrow : w.ownsRow B 9 1 v X.fs.length (X.fs.map fun f => .string f.nm)) (hbox : w.cell? ⟨b, 1, none⟩ = some (.string s)) (hbl : b < w.heap.size)
    (hend : ∀ (ε : Nat → Value) (u : World), Below w.heap.size w u → Q .normal ⟨#[PT d0 0, PT X.m 0, x2, x3, x4, PT b 0, x6, .bool true, x8, x9, x10, x11, x12, x13, x14, x15, v, x17, x18, x19, x20, x21, x22, x23, x24, x25, x26, x27, x28, x29, x30, x31, x32, x33, x34, x35, x36, x37, x38, x39, x40, x41, x42, x43, x44, x45, x46, x47, x48, x49, x50, x51, x52, x53, x54, x55, x56, x57, x58, x59, x60, x61, x62, x63, x64, x65, x66, x67, x68, x69, x70, x71, x72, x73, x74, x75, x76, x77, x78, x79, x80, x81, x82, x83, x84, x85, x86, x87, x88, x89, x90, x91, x92, x93, x94, x95, x96, x97, x98, x99, x100, x101, x102, x103, x104, x105, x106, x107, x108, x109, x110, x111, x112, x113, x114, x115, x116, x117, x118, x119, x120, x121, x122, x123, x124, x125, x126, x127, x128, x129, x130, x131, x132, x133, x134, x135, x136, x137, x138, x139, x140, x141, x142, x143, x144, x145, x146, x147, x148, x149, x150, x151, x152, x153, x154, x155, x156, x157, x158, x159, x160, x161, x162, x163, x164, x165, x166, x167, x168, x169, x170, x171, x172, .bool true, .bool true, v, PT X.m 0, ε 4, ε 5, .bool true, .bool true, PT d0 0, PT b 1, .string s, ε 11, PT X.m 0, PT b 1, .string s, ε 15, .bool true, .bool true, .bool true, PT d0 0, ε 20, PT X.m 0, PT X.m 0, PT X.m 2, .int .i64 (X.k : Int), .bool true, .bool true, x200, x201, x202], []⟩ u) :
    (Code.region 32 r32 true).wp Try.prog Q ⟨#[PT d0 0, PT X.m 0, x2, x3, x4, PT b 0, x6, .bool true, x8, x9, x10, x11, x12, x13, x14, x15, v, x17, x18, x19, x20, x21, x22, x23, x24, x25, x26, x27, x28, x29, x30, x31, x32, x33, x34, x35, x36, x37, x38, x39, x40, x41, x42, x43, x44, x45, x46, x47, x48, x49, x50, x51, x52, x53, x54, x55, x56, x57, x58, x59, x60, x61, x62, x63, x64, x65, x66, x67, x68, x69, x70, x71, x72, x73, x74, x75, x76, x77, x78, x79, x80, x81, x82, x83, x84, x85, x86, x87, x88, x89, x90, x91, x92, x93, x94, x95, x96, x97, x98, x99, x100, x101, x102, x103, x104, x105, x106, x107, x108, x109, x110, x111, x112, x113, x114, x115, x116, x117, x118, x119, x120, x121, x122, x123, x124, x125, x126, x127, x128, x129, x130, x131, x132, x133, x134, x135, x136, x137, x138, x139, x140, x141, x142, x143, x144, x145, x146, x147, x148, x149, x150, x151, x152, x153, x154, x155, x156, x157, x158, x159, x160, x161, x162, x163, x164, x165, x166, x167, x168, x169, x170, x171, x172, x173, x174, x175, x176, x177, x178, x179, x180, x181, x182, x183, x184, x185, x186, x187, x188, x189, x190, x191, x192, x193, x194, x195, x196, x197, x198, x199, x200, x201, x202], []⟩ w := by
  have HD : Hid _ := h
  have HR : Hid _ := hrow
  have HB : Hid (∀ u, Below w.heap.size w u → u.cell? ⟨b, 1, none⟩ = some (.string s)) := fun u hu => (hu.cell (p := ⟨b, 1, none⟩) hbl).trans hbox
  have HK : Hid (∀ u, Below w.heap.size w u → u.cell? ⟨X.m, 2, none⟩ = some (.int .i64 (X.k : Int))) := fun u hu => (h.dx.below hu).c2
  have hn64 : X.fs.length ≤ 64 := by have := h.ok.n; simpa [Dx.rd] using this
  have hw : Hid _ := h.rl.lk s
  have hkk : Hid (A.k = X.k) := h.rl.k
  obtain ⟨pn, hpn⟩ : ∃ pn : Nat, (((X.rd.lk s).map fun f => f.ops.length).getD 0 : Nat) = pn := ⟨_, rfl⟩
  have HP : Hid _ := hpn
  clear h hrow hbox hbl hpn
  refine walk_mix (by kernel_rfl) 27 [.bool true, .bool true, v, PT X.m 0, undef, undef, .bool true, .bool true, PT d0 0, PT b 1, .string s, undef, PT X.m 0, PT b 1, .string s, undef, .bool true, .bool true, .bool true, PT d0 0, undef, PT X.m 0, PT X.m 0, PT X.m 2, .int .i64 (X.k : Int), .bool true, .bool true] tfe (fun d ε u => Jt w (X.fs.map Mf.nm) (pn : Int) (X.k : Int) d ε u) ?prez (fun ε => (⟨#[PT d0 0, PT X.m 0, x2, x3, x4, PT b 0, x6, .bool true, x8, x9, x10, x11, x12, x13, x14, x15, v, x17, x18, x19, x20, x21, x22, x23, x24, x25, x26, x27, x28, x29, x30, x31, x32, x33, x34, x35, x36, x37, x38, x39, x40, x41, x42, x43, x44, x45, x46, x47, x48, x49, x50, x51, x52, x53, x54, x55, x56, x57, x58, x59, x60, x61, x62, x63, x64, x65, x66, x67, x68, x69, x70, x71, x72, x73, x74, x75, x76, x77, x78, x79, x80, x81, x82, x83, x84, x85, x86, x87, x88, x89, x90, x91, x92, x93, x94, x95, x96, x97, x98, x99, x100, x101, x102, x103, x104, x105, x106, x107, x108, x109, x110, x111, x112, x113, x114, x115, x116, x117, x118, x119, x120, x121, x122, x123, x124, x125, x126, x127, x128, x129, x130, x131, x132, x133, x134, x135, x136, x137, x138, x139, x140, x141, x142, x143, x144, x145, x146, x147, x148, x149, x150, x151, x152, x153, x154, x155, x156, x157, x158, x159, x160, x161, x162, x163, x164, x165, x166, x167, x168, x169, x170, x171, x172, .bool true, .bool true, v, PT X.m 0, ε 4, ε 5, .bool true, .bool true, PT d0 0, PT b 1, .string s, ε 11, PT X.m 0, PT b 1, .string s, ε 15, .bool true, .bool true, .bool true, PT d0 0, ε 20, PT X.m 0, PT X.m 0, PT X.m 2, .int .i64 (X.k : Int), .bool true, .bool true, x200, x201, x202], []⟩ : Act)) ?hprez (fun ε => ?hFz) rfl (fun ε => by kernel_rfl) (fun ε => ?hWz) ?h0z ?hqz ?hez ?hendz
  case hprez => simp only [tk, tz]; rfl
  case hFz =>
    rw [show vsOf tfe [.bool true, .bool true, v, PT X.m 0, undef, undef, .bool true, .bool true, PT d0 0, PT b 1, .string s, undef, PT X.m 0, PT b 1, .string s, undef, .bool true, .bool true, .bool true, PT d0 0, undef, PT X.m 0, PT X.m 0, PT X.m 2, .int .i64 (X.k : Int), .bool true, .bool true] 27 ε = [.bool true, .bool true, v, PT X.m 0, ε 4, ε 5, .bool true, .bool true, PT d0 0, PT b 1, .string s, ε 11, PT X.m 0, PT b 1, .string s, ε 15, .bool true, .bool true, .bool true, PT d0 0, ε 20, PT X.m 0, PT X.m 0, PT X.m 2, .int .i64 (X.k : Int), .bool true, .bool true] from rfl]
    simp only [List.map_cons, List.map_nil, fill, Kind.val, Act.put, sa, sz, ss]
  case hWz => kernel_rfl
  case h0z => exact ⟨fun j => if j = 5 then .bool true else if j = 11 then .int .i64 (pn : Int) else if j = 15 then .int .i64 (pn : Int) else .int .i64 (X.k : Int), bdr w, (fun e => by cases e), rfl, rfl, rfl, rfl⟩
  case hqz =>
    refine ⟨?_, ?_, ?_, ?_, ?_, ?_, ?_, ?_, ?_, ?_, ?_, ?_, ?_, ?_, ?_, ?_, ?_, ?_, ?_, ?_, ?_, ?_, ?_, ?_, ?_, ?_, ?_, trivial⟩
    · exact fun _ d ε u hJ => by clear hJ hend; go_simp
    · exact fun _ d ε u hJ => by clear hJ hend; go_simp
    · exact fun _ d ε u hJ => by clear hJ hend; go_simp
    · exact fun _ d ε u hJ => by clear hJ hend; go_simp
    · exact fun h => absurd h (by decide)
    · exact fun h => absurd h (by decide)
    · exact fun _ d ε u hJ => by (have hc := hJ.e5); clear hJ hend; go_simp
    · exact fun _ d ε u hJ => by clear hJ hend; go_simp
    · exact fun _ d ε u hJ => by clear hJ hend; go_simp
    · exact fun _ d ε u hJ => by clear hJ hend; go_simp
    · exact fun _ d ε u hJ => by (have hc := HB.out u hJ.b); clear hJ hend; go_simp
    · exact fun h => absurd h (by decide)
    · exact fun _ d ε u hJ => by clear hJ hend; go_simp
    · exact fun _ d ε u hJ => by clear hJ hend; go_simp
    · exact fun _ d ε u hJ => by (have hc := HB.out u hJ.b); clear hJ hend; go_simp
    · exact fun h => absurd h (by decide)
    · exact fun _ d ε u hJ => by (have hc := hJ.e11); (have hc2 := hJ.e15); clear hJ hend; go_simp
    · exact fun _ d ε u hJ => by clear hJ hend; go_simp
    · exact fun _ d ε u hJ => by clear hJ hend; go_simp
    · exact fun _ d ε u hJ => by clear hJ hend; go_simp
    · exact fun h => absurd h (by decide)
    · exact fun _ d ε u hJ => by clear hJ hend; go_simp
    · exact fun _ d ε u hJ => by clear hJ hend; go_simp
    · exact fun _ d ε u hJ => by clear hJ hend; go_simp
    · exact fun _ d ε u hJ => by (have hc := HK.out u hJ.b); clear hJ hend; go_simp
    · exact fun _ d ε u hJ => by (have hc := hJ.e20); clear hJ hend; go_simp
    · exact fun _ d ε u hJ => by clear hJ hend; go_simp
  case hez =>
    rintro k ok hok hk d ε u hd hdep hJ
    have hk4 : k = 4 ∨ k = 5 ∨ k = 11 ∨ k = 15 ∨ k = 20 := by simpa [tfe, or_assoc] using hk
    have hdd := HD.out.step hJ.b
    have ecall : ∀ {f : FuncId} {args : Array Value} {o : Oper} {F : Act}, (execOp F.eval o).run Try.prog u = .ok (.enter f args) u → (execOp F.eval o).run Try.prog u = .ok (.enter f args) u := fun h => h
    rcases hk4 with rfl | rfl | rfl | rfl | rfl
    · injection hok with hok
      subst hok
      refine .inr ⟨61, #[PT X.m 0], exec_call rfl (fun _ _ => rfl) rfl (by simp only [List.map_toArray, List.map_cons, List.map_nil]; rfl), ?_⟩
      refine Calls.mono (rnames_any (by omega) u hdd.dx) ?_
      rintro e u2 ⟨v2, rfl, h3⟩
      refine ⟨v2, rfl, hJ.s4 h3.b ?_⟩
      have := h3.row
      exact this
    · injection hok with hok
      subst hok
      have h4 := hJ.r (hdep 4 rfl (by kernel_rfl))
      refine .inr ⟨30, #[v, ε 4], exec_call rfl (fun _ _ => rfl) rfl (by simp only [List.map_toArray, List.map_cons, List.map_nil]; rfl), ?_⟩
      have h5 : u.ownsRow B 9 1 v X.fs.length ((X.fs.map Mf.nm).map .string) := by
        rw [List.map_map]
        exact own_keep HR.out fun b hm => hJ.b.block b (own_lt HR.out b hm)
      refine Calls.mono (same_rowS h5 h4 (by rw [List.length_map]; omega)) ?_
      rintro e u2 ⟨rfl, h3⟩
      exact ⟨_, rfl, hJ.step h3 (by decide) (fun _ => rfl) (fun e => by cases e) (fun e => by cases e) (fun e => by cases e)⟩
    · injection hok with hok
      subst hok
      refine .inr ⟨27, #[PT d0 0, .string s], exec_call rfl (fun _ _ => rfl) rfl (by simp only [List.map_toArray, List.map_cons, List.map_nil]; rfl), ?_⟩
      refine Calls.mono (pend_a hdd.da s hs) ?_
      rintro e u2 ⟨rfl, h3⟩
      refine ⟨_, rfl, hJ.step h3 (by decide) (fun e => by cases e) (fun _ => ?_) (fun e => by cases e) (fun e => by cases e)⟩
      rw [hw.out, ← HP.out]
      cases X.rd.lk s with
      | none => rfl
      | some f => simp [Rf.len_ab]
    · injection hok with hok
      subst hok
      refine .inr ⟨62, #[PT X.m 0, .string s], exec_call rfl (fun _ _ => rfl) rfl (by simp only [List.map_toArray, List.map_cons, List.map_nil]; rfl), ?_⟩
      refine Calls.mono (rpend_any s (by omega) hdd.ok u hdd.dx) ?_
      rintro e u2 ⟨rfl, h3⟩
      refine ⟨_, rfl, hJ.step h3 (by decide) (fun e => by cases e) (fun e => by cases e) (fun _ => ?_) (fun e => by cases e)⟩
      rw [HP.out]
    · injection hok with hok
      subst hok
      refine .inr ⟨28, #[PT d0 0], exec_call rfl (fun _ _ => rfl) rfl (by simp only [List.map_toArray, List.map_cons, List.map_nil]; rfl), ?_⟩
      refine Calls.mono (ops_a hdd.da) ?_
      rintro e u2 ⟨rfl, h3⟩
      refine ⟨_, rfl, hJ.step h3 (by decide) (fun e => by cases e) (fun e => by cases e) (fun e => by cases e) (fun _ => ?_)⟩
      rw [hkk.out]
  case hendz =>
    rintro d ε u hall hJ
    refine rest_set (d := 7) (v := .bool true) (w' := u) rfl rfl rfl (rfl) ?_
    simp only [Act.put, sa, sz, ss]
    refine rest_nil ?_
    exact hend ε u hJ.b
end Wi
end Rg
end Go.Proofs.Ytidicdlfjdlpnaa
end
section
namespace Go.Proofs.Ytidicdlfjdlpnaa
open Go.RowKit
namespace Rg
namespace Wi
set_option maxRecDepth 100000
/-- One call of the law, as values. -/
structure Acd where
  k : Nat
  s : ByteArray
  t : ByteArray
  q : Pt8
  n : Int
  kp : Option Addr
  kn : Nat
  kc : Nat
@[reducible] def Acd.c (a : Acd) : Array Value := #[.int .u8 (a.k : Int), .string a.s, .string a.t, .slice a.q.p a.q.n a.q.cp, .int .i64 a.n, .slice a.kp a.kn a.kc]
@[reducible] def Acd.v (a : Acd) : Value := .agg a.c
/-- Both disks, i calls done. -/
def Dz (w0 : World) (d m i : Nat) (u : World) : Prop := ∃ A X, X.m = m ∧ Dd w0 d i A X [] u ∧ Rn X.rd
/-- What holds at an act's end. -/
theorem Dz.fin {w0 u u2 u3 : World} {d m i : Nat} {A : Ad} {X : Dx} {E : List Nat} {v : Value} (h : Dd w0 d i A X E u) (hm : X.m = m) (hr : Rn X.rd) {xs : List Value} {n : Nat} (hv : u2.ownsRow u.heap.size 9 1 v n xs) (hb : Below u.heap.size u u2) {u4 : World} (hb2 : Below u2.heap.size u2 u3) (hc : Chg (vbl v) u3 u4) : Dz w0 d m i u4 := by
  have hlo : ∀ x ∈ vbl v, u.heap.size ≤ x := own_lo2 hv
  have h2 : Below u.heap.size u u4 := (hb.trans (hb2.mono hb.size)).trans (hc.toBelow hlo (Nat.le_trans hb.size hb2.size))
  exact ⟨A, X, hm, (h.less fun x hx => by cases hx).step h2, hr⟩
set_option maxHeartbeats 8000000 in
theorem act_cut {w0 : World} {d m i : Nat} (a : Acd) (hk : a.k = 1) (hs : a.s.size + a.t.size ≤ 400) (hn : a.n < 9223372036854775808) (hi : i ≤ 1000) (w : World) (h : Dz w0 d m i w) :
    Calls Try.prog 17 #[PT d 0, PT m 0, a.v] w fun e w' => e = .returned (.bool true) ∧ Dz w0 d m (i + 1) w' := by
  obtain ⟨k, s, t, q, n, kp, kn, kc⟩ := a
  dsimp only at hk hs hn
  subst hk
  obtain ⟨A, X, rfl, hd, hrn⟩ := h
  show Calls Try.prog 17 #[PT d 0, PT X.m 0, .agg #[.int .u8 1, .string s, .string t, .slice q.p q.n q.cp, .int .i64 n, .slice kp kn kc]] w _
  have H0 : Hid _ := hd.da.b.size
  have HRN : Hid _ := hrn
  obtain ⟨w1, hw1⟩ : ∃ w1, (w.alloc (.cells #[.int .u8 1, .string s, .string t, .slice q.p q.n q.cp, .int .i64 n, .slice kp kn kc] 37)) = w1 := ⟨_, rfl⟩
  have hb1 : Below w.heap.size w w1 := by rw [← hw1]; exact (Below.refl _ _).alloc (Nat.le_refl _) _
  have hs1 : w.heap.size < w1.heap.size := by rw [← hw1]; simp
  have HB1 : Hid (∀ i, w1.cell? ⟨w.heap.size, i, none⟩ = (#[.int .u8 1, .string s, .string t, .slice q.p q.n q.cp, .int .i64 n, .slice kp kn kc] : Array Value)[i]?) := fun i => by rw [← hw1]; exact box_at ..
  have b0 : w1.cell? ⟨w.heap.size, 0, none⟩ = some (.int .u8 1) := HB1.out 0
  have HBB : Hid _ := hb1
  have HSS : Hid _ := hs1
  have HD : Hid _ := hd.more hb1 (M := [w.heap.size]) fun x hx => by rw [List.mem_singleton.1 hx]; exact ⟨Nat.le_refl _, hs1⟩
  clear hb1 hs1 hd hrn
  go_enter Try.func17, Try.ntmps17
  have hd2 := HD.out.step (bdr w1)
  obtain ⟨A', hA'⟩ : ∃ A', (A.cut s n).2 = A' := ⟨_, rfl⟩
  obtain ⟨r, hr⟩ : ∃ r, (A.cut s n).1 = r := ⟨_, rfl⟩
  have hrl := hd2.rl.cut s n
  rw [hA', hr] at hrl
  have HD2 : Hid _ := hd2
  have HRL : Hid _ := hrl
  have HA : Hid _ := hA'
  have HR : Hid _ := hr
  have HCE : Hid (∀ u, Kx (X.bl ++ ([w.heap.size] ++ [])) w1.drew u → ∀ i, u.cell? ⟨w.heap.size, i, none⟩ = (#[.int .u8 1, .string s, .string t, .slice q.p q.n q.cp, .int .i64 n, .slice kp kn kc] : Array Value)[i]?) := fun u hu i => (World.cell?_of_block (a := ⟨w.heap.size, i, none⟩) (hu.2 _ (List.mem_append_right _ (List.mem_append_left _ (List.mem_singleton.2 rfl))))).trans (HB1.out i)
  clear hd2 hrl hA' hr
  go_wp2
  refine walk_det (by kernel_rfl) 13 [PT d 0, PT w.heap.size 1, .string s, PT w.heap.size 4, .int .i64 n, .int .i64 r, PT X.m 0, PT w.heap.size 1, .string s, PT w.heap.size 4, .int .i64 n, .int .i64 r, .bool true] [none, none, none, none, none, some 0, none, none, none, none, none, some 1, none] [5, 11]
    (fun c u => (∀ i, u.cell? ⟨w.heap.size, i, none⟩ = (#[.int .u8 1, .string s, .string t, .slice q.p q.n q.cp, .int .i64 n, .slice kp kn kc] : Array Value)[i]?) ∧ match c with | 0 => u = w1.drew | 1 => Da w0 d A' (X.bl ++ ([w.heap.size] ++ [])) u ∧ Kx (X.bl ++ ([w.heap.size] ++ [])) w1.drew u | _ => ∃ X', X'.m = X.m ∧ Dd w0 d (i + 1) A' X' ([w.heap.size] ++ []) u ∧ Rn X'.rd) ?prez ?Fz ?hprez ?hFz (by kernel_rfl) ?hWz ⟨HB1.out, rfl⟩ ?hopz ?hez
  case hprez => simp only [tk, tz]; rfl
  case hFz => simp only [List.map_cons, List.map_nil, fill, Kind.val, Act.put, sa, sz, ss]; rfl
  case hWz => kernel_rfl
  case hopz =>
    refine ⟨fun c _ u _ => rfl, fun c _ u _ => ?_, fun c _ u hu => ?_, fun c _ u _ => ?_, fun c _ u hu => ?_, fun u hu => .inr ⟨20, #[PT d 0, .string s, .int .i64 n], exec_call rfl (fun _ _ => rfl) rfl (by simp only [List.map_toArray, List.map_cons, List.map_nil]; rfl), ?_⟩, fun c _ u _ => rfl, fun c _ u _ => ?_, fun c _ u hu => ?_, fun c _ u _ => ?_, fun c _ u hu => ?_, fun u hu => .inr ⟨54, #[PT X.m 0, .string s, .int .i64 n], exec_call rfl (fun _ _ => rfl) rfl (by simp only [List.map_toArray, List.map_cons, List.map_nil]; rfl), ?_⟩, fun c _ u _ => ?_, trivial⟩
    · go_simp
    · have h1 : u.cell? ⟨w.heap.size, 1, none⟩ = some (.string s) := hu.1 1
      clear hu
      go_simp
    · go_simp
    · have h1 : u.cell? ⟨w.heap.size, 4, none⟩ = some (.int .i64 n) := hu.1 4
      clear hu
      go_simp
    · obtain ⟨-, rfl⟩ := hu
      refine Calls.mono (cut_a HD2.out.da (by have := HD2.out.k; omega) (fun f hf => by have := HD2.out.ol f hf; omega) s (by omega) n) ?_
      rintro e u2 ⟨rfl, h1, h2⟩
      rw [HA.out] at h1
      exact ⟨by rw [HR.out], HCE.out u2 h2, h1, h2⟩
    · go_simp
    · have h1 : u.cell? ⟨w.heap.size, 1, none⟩ = some (.string s) := hu.1 1
      clear hu
      go_simp
    · go_simp
    · have h1 : u.cell? ⟨w.heap.size, 4, none⟩ = some (.int .i64 n) := hu.1 4
      clear hu
      go_simp
    · obtain ⟨hce, h1, h2⟩ := hu
      refine Calls.mono (rcut_any s (by omega) n hn (by omega) HD2.out.ok (by have := HD2.out.n; omega) u (HD2.out.dx.kx (h2.sub fun x hx => List.mem_append_left _ hx)) (Nat.le_trans H0.out (Nat.le_trans HBB.out.size h2.1))) ?_
      rintro e u2 ⟨rfl, h3⟩
      obtain ⟨X', hm, hn2, hdd, hke, hrd⟩ := HD2.out.both h1 h2 h3 HRL.out.2 (HD2.out.ok.cut s n)
      refine ⟨by rw [HRL.out.1], fun i => ?_, X', hm, hdd, by rw [hrd]; exact Rn.cut HRN.out s n⟩
      exact (World.cell?_of_block (a := ⟨w.heap.size, i, none⟩) (hke.2 _ (List.mem_append_left _ (List.mem_singleton.2 rfl)))).trans (HB1.out i)
    · go_simp
  rintro u ⟨hce, X', hm, hdd, hrn2⟩
  have HDD : Hid _ := hdd
  have HR2 : Hid _ := hrn2
  have hb1 : u.cell? ⟨w.heap.size, 1, none⟩ = some (.string s) := hce 1
  have HC1 : Hid _ := hb1
  have HBL : Hid (w.heap.size < u.heap.size) := hdd.e2 _ (List.mem_append_left _ (List.mem_singleton.2 rfl))
  have HM4 : Hid _ := hm
  clear hce hdd hrn2 hb1 hm
  refine rest_set (d := 7) (v := .bool true) (w' := u) rfl rfl rfl (rfl) ?_
  simp only [Act.put, sa, sz, ss]
  refine rest_nil ?_
  go_wp2_with (first
    | (go_at_call 26; refine Calls.mono (names_dd HDD.out HR2.out) ?_; rintro e w2 ⟨v2, rfl, h2, h3, h4⟩; have H2 : Hid _ := h2; have H3 : Hid _ := h3; have H4 : Hid _ := h4; clear h2 h3 h4)
    | fail)
  rw [← HM4.out]
  refine act_r32 (s := s) (HDD.out.step H4.out) (by omega) (by omega) H2.out ((H4.out.cell (p := ⟨w.heap.size, 1, none⟩) HBL.out).trans HC1.out) (Nat.lt_of_lt_of_le HBL.out H4.out.size) fun ε u3 h5 => ?_
  have H5 : Hid _ := h5
  clear h5
  go_wp2_with (first
    | (go_at_call 63; refine Calls.mono (over_rowS (own_keep H2.out fun b hm => H5.out.block b (own_lt H2.out b hm)) (Rmt.keep H3.out fun b hm => H5.out.block b (own_lt H2.out b hm))) ?_; rintro e u4 ⟨rfl, h6⟩; have H6 : Hid _ := h6; clear h6)
    | fail)
  go_ret
  exact ⟨rfl, Dz.fin HDD.out HM4.out HR2.out H2.out H4.out H5.out H6.out⟩
end Wi
end Rg
end Go.Proofs.Ytidicdlfjdlpnaa
end
section
namespace Go.Proofs.Ytidicdlfjdlpnaa
open Go.RowKit
namespace Rg
namespace Wi
set_option maxRecDepth 100000
theorem Dd.up {w0 u : World} {d i : Nat} {A : Ad} {X : Dx} {E : List Nat} (h : Dd w0 d i A X E u) : Dd w0 d (i + 1) A X E u :=
  ⟨h.da, h.dx, h.rl, ⟨Nat.le_succ_of_le h.ok.k, h.ok.n, h.ok.st, h.ok.ft, fun f hf => Nat.le_succ_of_le (h.ok.ol f hf), h.ok.ob⟩, h.n, h.e1, h.e2⟩
theorem read_hit {w0 u : World} {d i : Nat} {A : Ad} {X : Dx} {E : List Nat} (h : Dd w0 d i A X E u) (s : ByteArray) (hs : s.size ≤ 281474976710656) (fr : Rf) (hlk : X.rd.lk s = some fr) :
    Calls Try.prog 18 #[PT d 0, .string s] u fun e u' => ∃ v P, e = .returned (.tuple #[v, .int .i64 0]) ∧ Cr u v fr.cn.length P u' ∧ bs fr.cn.length P = fr.cn := by
  have h1 := read_r h.da s hs
  rw [h.rl.lk, hlk] at h1
  simp only [Option.map_some, Rf.cn_ab] at h1
  exact h1
theorem read_miss {w0 u : World} {d i : Nat} {A : Ad} {X : Dx} {E : List Nat} (h : Dd w0 d i A X E u) (s : ByteArray) (hs : s.size ≤ 281474976710656) (hlk : X.rd.lk s = none) :
    Calls Try.prog 18 #[PT d 0, .string s] u fun e u' => e = .returned (.tuple #[.slice none 0 0, .int .i64 6]) ∧ Below u.heap.size u u' := by
  have h1 := read_r h.da s hs
  rw [h.rl.lk, hlk] at h1
  exact h1
theorem same_cr {w1 w2 u : World} {v1 v2 : Value} {n : Nat} {P1 P2 : Nat → Nat} (h1 : Cr w1 v1 n P1 u) (h2 : Cr w2 v2 n P2 u) (e : bs n P1 = bs n P2) :
    Calls Try.prog 29 #[v1, v2] u fun e u' => e = .returned (.bool true) ∧ Below u.heap.size u u' := by
  obtain ⟨q, rfl, q1, q2, q3, -⟩ := h1.part
  obtain ⟨r, rfl, r1, r2, r3, -⟩ := h2.part
  subst q2 q3 r3
  exact same_q ⟨q1.1, q1.2.2⟩ ⟨r1.1, r1.2.2⟩ r2.symm fun i hi => (bs_eq e).2 i (by omega)
theorem same_void (u : World) : Calls Try.prog 29 #[.slice none 0 0, .slice none 0 0] u fun e u' => e = .returned (.bool true) ∧ Below u.heap.size u u' :=
  same_q (q := ⟨0, 0, 0, 0, none, fun _ => 0⟩) (r := ⟨0, 0, 0, 0, none, fun _ => 0⟩) ⟨⟨Bv.void _ _ _ _ _, Nat.le_refl _⟩, Rs.void _ _ _ _⟩ ⟨⟨Bv.void _ _ _ _ _, Nat.le_refl _⟩, Rs.void _ _ _ _⟩ rfl fun _ _ => rfl
set_option maxHeartbeats 8000000 in
theorem act_read {w0 : World} {d m i : Nat} (a : Acd) (hk : a.k = 5) (hs : a.s.size + a.t.size ≤ 400) (hn : a.n < 9223372036854775808) (hi : i ≤ 1000) (w : World) (h : Dz w0 d m i w) :
    Calls Try.prog 17 #[PT d 0, PT m 0, a.v] w fun e w' => e = .returned (.bool true) ∧ Dz w0 d m (i + 1) w' := by
  obtain ⟨k, s, t, q, n, kp, kn, kc⟩ := a
  dsimp only at hk hs hn
  subst hk
  obtain ⟨A, X, rfl, hd, hrn⟩ := h
  show Calls Try.prog 17 #[PT d 0, PT X.m 0, .agg #[.int .u8 5, .string s, .string t, .slice q.p q.n q.cp, .int .i64 n, .slice kp kn kc]] w _
  have H0 : Hid _ := hd.da.b.size
  have HRN : Hid _ := hrn
  obtain ⟨w1, hw1⟩ : ∃ w1, (w.alloc (.cells #[.int .u8 5, .string s, .string t, .slice q.p q.n q.cp, .int .i64 n, .slice kp kn kc] 37)) = w1 := ⟨_, rfl⟩
  have hb1 : Below w.heap.size w w1 := by rw [← hw1]; exact (Below.refl _ _).alloc (Nat.le_refl _) _
  have hs1 : w.heap.size < w1.heap.size := by rw [← hw1]; simp
  have HB1 : Hid (∀ i, w1.cell? ⟨w.heap.size, i, none⟩ = (#[.int .u8 5, .string s, .string t, .slice q.p q.n q.cp, .int .i64 n, .slice kp kn kc] : Array Value)[i]?) := fun i => by rw [← hw1]; exact box_at ..
  have b0 : w1.cell? ⟨w.heap.size, 0, none⟩ = some (.int .u8 5) := HB1.out 0
  have HBB : Hid _ := hb1
  have HSS : Hid _ := hs1
  have HD : Hid _ := hd.more hb1 (M := [w.heap.size]) fun x hx => by rw [List.mem_singleton.1 hx]; exact ⟨Nat.le_refl _, hs1⟩
  clear hb1 hs1 hd hrn
  have b1 : w1.cell? ⟨w.heap.size, 1, none⟩ = some (.string s) := HB1.out 1
  cases hlk : X.rd.lk s with
  | none =>
    have HLK : Hid _ := hlk
    clear hlk
    go_enter Try.func17, Try.ntmps17
    go_wp2_with (first
      | (go_at_call 18; refine Calls.mono (read_miss HD.out s (by omega) HLK.out) ?_; rintro e w3 ⟨rfl, h3⟩; have X3 : Hid _ := h3; have c1 : w3.cell? ⟨w.heap.size, 1, none⟩ = some (.string s) := (h3.cell (p := ⟨w.heap.size, 1, none⟩) HSS.out).trans (HB1.out 1); clear h3)
      | (go_at_call 58; refine Calls.mono (rread_miss s HD.out.ok HLK.out w3 (HD.out.step X3.out).dx) ?_; rintro e w4 ⟨rfl, h3⟩; have X4 : Hid _ := h3; clear h3)
      | (go_at_call 29; refine Calls.mono (same_void w4) ?_; rintro e w5 ⟨rfl, h3⟩; have X5 : Hid _ := h3; clear h3)
      | (go_at_call 53; refine Calls.mono (over_bnil w5) ?_; rintro e w6 ⟨rfl, h3⟩; have HDD : Hid _ := ((((HD.out.step X3.out).step X4.out).step X5.out).chg h3 (fun x hx => by cases hx) (fun x hx => by cases hx)).up; have HR2 : Hid _ := HRN.out; have HBL : Hid (w.heap.size < w6.heap.size) := HDD.out.e2 _ (List.mem_append_left _ (List.mem_singleton.2 rfl)); have HC1 : Hid (w6.cell? ⟨w.heap.size, 1, none⟩ = some (.string s)) := (h3.cell (p := ⟨w.heap.size, 1, none⟩) (((HD.out.step X3.out).step X4.out).step X5.out |>.e2 _ (List.mem_append_left _ (List.mem_singleton.2 rfl))) (fun hx => by cases hx)).trans ((X5.out.cell (p := ⟨w.heap.size, 1, none⟩) (((HD.out.step X3.out).step X4.out).e2 _ (List.mem_append_left _ (List.mem_singleton.2 rfl)))).trans ((X4.out.cell (p := ⟨w.heap.size, 1, none⟩) ((HD.out.step X3.out).e2 _ (List.mem_append_left _ (List.mem_singleton.2 rfl)))).trans ((X3.out.cell (p := ⟨w.heap.size, 1, none⟩) (HD.out.e2 _ (List.mem_append_left _ (List.mem_singleton.2 rfl)))).trans (HB1.out 1)))); clear h3)
      | (go_at_call 26; refine Calls.mono (names_dd HDD.out HR2.out) ?_; rintro e w9 ⟨v9, rfl, h2, h3, h4⟩; have H2 : Hid _ := h2; have H3 : Hid _ := h3; have H4 : Hid _ := h4; clear h2 h3 h4)
      | fail)
    refine act_r32 (s := s) (HDD.out.step H4.out) (by omega) (by omega) H2.out ((H4.out.cell (p := ⟨w.heap.size, 1, none⟩) HBL.out).trans HC1.out) (Nat.lt_of_lt_of_le HBL.out H4.out.size) fun ε u3 h5 => ?_
    have H5 : Hid _ := h5
    clear h5
    go_wp2_with (first
      | (go_at_call 63; refine Calls.mono (over_rowS (own_keep H2.out fun b hm => H5.out.block b (own_lt H2.out b hm)) (Rmt.keep H3.out fun b hm => H5.out.block b (own_lt H2.out b hm))) ?_; rintro e u4 ⟨rfl, h6⟩; have H6 : Hid _ := h6; clear h6)
      | fail)
    go_ret
    exact ⟨rfl, Dz.fin HDD.out rfl HR2.out H2.out H4.out H5.out H6.out⟩
  | some fr =>
    have HLK : Hid _ := hlk
    have hcl : fr.cn.length ≤ 1048576 := HD.out.ok.cnl (Rdk.mem hlk).1
    clear hlk
    obtain ⟨C, hC⟩ : ∃ C, fr.cn.length = C := ⟨_, rfl⟩
    have HC : Hid _ := hC
    clear hC
    have HBX : Hid (w.heap.size ∈ ([w.heap.size] ++ [] : List Nat)) := List.mem_append_left _ (List.mem_singleton.2 rfl)
    go_enter Try.func17, Try.ntmps17
    go_wp2_with (first
      | (go_at_call 18; refine Calls.mono (read_hit HD.out s (by omega) fr HLK.out) ?_; rintro e w3 ⟨v3, P3, rfl, h3, h4⟩; have X3 : Hid _ := h3; have Y3 : Hid _ := h4; have c1 : w3.cell? ⟨w.heap.size, 1, none⟩ = some (.string s) := (h3.cw.b.cell (p := ⟨w.heap.size, 1, none⟩) HSS.out).trans (HB1.out 1); clear h3 h4)
      | (go_at_call 58; refine Calls.mono (rread_hit s (by omega) HD.out.ok fr HLK.out w3 (HD.out.step X3.out.cw.b).dx) ?_; rintro e w4 ⟨v4, P4, rfl, h3, h4⟩; have X4 : Hid _ := h3; have Y4 : Hid _ := h4; clear h3 h4)
      | (go_at_call 29; refine Calls.mono (same_cr (X3.out.step X4.out.cw.b) X4.out (Y3.out.trans Y4.out.symm)) ?_; rintro e w5 ⟨rfl, h3⟩; have X5 : Hid _ := h3; clear h3)
      | (go_at_call 53
         have hX := (X3.out.step X4.out.cw.b).step X5.out
         have hE : Dd w0 d i A X (vbl v3 ++ ([w.heap.size] ++ [])) w5 := ((HD.out.more X3.out.cw.b (M := vbl v3) fun x hx => ⟨own_lo2 X3.out.cw.own x hx, own_lt X3.out.cw.own x hx⟩).step X4.out.cw.b).step X5.out
         refine Calls.mono (over_row8 hX.cw.own hX.rm) ?_
         rintro e w6 ⟨rfl, h3⟩
         have hlo : ∀ x ∈ vbl v3, w1.heap.size ≤ x := own_lo2 X3.out.cw.own
         have hnb : w.heap.size ∉ vbl v3 := fun hx => by have := hlo _ hx; have := HSS.out; omega
         have HDD : Hid _ := ((hE.chg h3 (fun x hx => List.mem_append_left _ hx) (fun x hx => Nat.le_trans (Nat.le_trans H0.out HBB.out.size) (hlo x hx))).less (M := [w.heap.size] ++ []) fun x hx => List.mem_append_right _ hx).up
         have HR2 : Hid _ := HRN.out
         have HBL : Hid (w.heap.size < w6.heap.size) := HDD.out.e2 _ HBX.out
         have HC1 : Hid (w6.cell? ⟨w.heap.size, 1, none⟩ = some (.string s)) := (h3.cell (p := ⟨w.heap.size, 1, none⟩) (hE.e2 _ (List.mem_append_right _ HBX.out)) hnb).trans ((hX.cw.b.cell (p := ⟨w.heap.size, 1, none⟩) HSS.out).trans (HB1.out 1))
         clear h3 hX hE hlo hnb)
      | (go_at_call 26; refine Calls.mono (names_dd HDD.out HR2.out) ?_; rintro e w9 ⟨v9, rfl, h2, h3, h4⟩; have H2 : Hid _ := h2; have H3 : Hid _ := h3; have H4 : Hid _ := h4; clear h2 h3 h4)
      | fail)
    refine act_r32 (s := s) (HDD.out.step H4.out) (by omega) (by omega) H2.out ((H4.out.cell (p := ⟨w.heap.size, 1, none⟩) HBL.out).trans HC1.out) (Nat.lt_of_lt_of_le HBL.out H4.out.size) fun ε u3 h5 => ?_
    have H5 : Hid _ := h5
    clear h5
    go_wp2_with (first
      | (go_at_call 63; refine Calls.mono (over_rowS (own_keep H2.out fun b hm => H5.out.block b (own_lt H2.out b hm)) (Rmt.keep H3.out fun b hm => H5.out.block b (own_lt H2.out b hm))) ?_; rintro e u4 ⟨rfl, h6⟩; have H6 : Hid _ := h6; clear h6)
      | fail)
    go_ret
    exact ⟨rfl, Dz.fin HDD.out rfl HR2.out H2.out H4.out H5.out H6.out⟩
end Wi
end Rg
end Go.Proofs.Ytidicdlfjdlpnaa
end
section
namespace Go.Proofs.Ytidicdlfjdlpnaa
open Go.RowKit
namespace Rg
namespace Wi
set_option maxRecDepth 100000
/-- Keeps handed in. -/
structure Kin (w0 : World) (kp : Option Addr) (kn kc : Nat) (zs : Nat → Kv) : Prop where
  z : kp = none → kn = 0 ∧ kc = 0
  p : 0 < kn → ∃ g o, kp = some ⟨g, o, none⟩ ∧ g < w0.heap.size ∧ ∀ j, j < kn → w0.cell? ⟨g, o + j * 3, none⟩ = some (.string (zs j).1.1) ∧ w0.cell? ⟨g, o + j * 3 + 1, none⟩ = some (.int .i64 (zs j).1.2.1) ∧ w0.cell? ⟨g, o + j * 3 + 2, none⟩ = some (.int .i64 (zs j).1.2.2)
def kc3 (x : Kv) : List Value := [.string x.1.1, .int .i64 x.1.2.1, .int .i64 x.1.2.2]
theorem kc3_len (x : Kv) : (kc3 x).length = 3 := rfl
theorem info_kp : ∃ i z, Try.prog.info? 57 = some i ∧ i.zero = some z ∧ i.size = 3 ∧ i.bytes = 32 ∧ z.cells.size = 3 := by
  have h : (Try.prog.info? 57).map (fun i => (i.size, i.bytes, i.zero.map (fun z => z.cells.size))) = some (3, 32, some 3) := by kernel_rfl
  cases hi : Try.prog.info? 57 with
  | none => rw [hi] at h; simp at h
  | some i =>
    rw [hi] at h
    simp only [Option.map_some, Option.some.injEq, Prod.mk.injEq] at h
    obtain ⟨h1, h2, h3⟩ := h
    cases hz : i.zero with
    | none => rw [hz] at h3; simp at h3
    | some z =>
      rw [hz] at h3
      simp only [Option.map_some, Option.some.injEq] at h3
      exact ⟨i, z, rfl, hz, h1, h2, h3⟩
theorem kup_get {α : Type} (f : Nat → α) {n j : Nat} (h : j < n) : (kup f n)[j]? = some (f j) := by
  unfold kup
  rw [List.getElem?_map, List.getElem?_range h]
  rfl
/-- A copy of keeps: append([]Keep{}, l...). -/
theorem copy_k {w0 u : World} {kp : Option Addr} {kn kc : Nat} {zs : Nat → Kv} (hn : kn ≤ 1000) (h : Kin w0 kp kn kc zs) (hb : Below w0.heap.size w0 u) (ty : TypeId) :
    ∃ v' u2, (Builtin.append_ #[35, 35] ty #[.slice (some ⟨u.heap.size, 0, none⟩) 0 0, .slice kp kn kc]).run Try.prog (u.alloc (.cells #[] 57)) = .ok v' u2 ∧ u2.ownsRow u.heap.size 57 3 v' kn ((kup zs kn).flatMap kc3) ∧ Below u.heap.size u u2 := by
  obtain ⟨i0, z0, hi, hz0, hz1, hz2, hz3⟩ := info_kp
  have h0 : (u.alloc (.cells #[] 57)).ownsRow u.heap.size 57 3 (.slice (some ⟨u.heap.size, 0, none⟩) 0 0) 0 [] := World.ownsRow_made _ _ 0 (Nat.le_refl _) (by decide) rfl
  have hb0 : Below u.heap.size u (u.alloc (.cells #[] 57)) := (Below.refl _ u).alloc (Nat.le_refl _) _
  cases kp with
  | none =>
    obtain ⟨rfl, rfl⟩ := h.z rfl
    exact ⟨_, _, run_append_owned_none (P := Try.prog) (w := u.alloc (.cells #[] 57)) u.heap.size 35 ty 57 i0 3 Try.underlying35 hi (.slice (some ⟨u.heap.size, 0, none⟩) 0 0) 0 _ h0, h0, hb0⟩
  | some a =>
    have hlen : ((kup zs kn).flatMap kc3).length = kn * 3 := by rw [fm_len _ _ kc3_len _, kup_length]
    obtain ⟨v', w2, h1, h2, h3, _, h5⟩ := run_append_own_at (P := Try.prog) (u.alloc (.cells #[] 57)) u.heap.size 35 ty 57 i0 z0 3 32 Try.underlying35 hi hz0 hz1 hz2 hz3 (by decide) _ 0 [] h0 a kn kc ((kup zs kn).flatMap kc3) hlen (fun j x hj => by
      have hj3 : j < kn * 3 := by
        have := (List.getElem?_eq_some_iff.1 hj).1
        rwa [hlen] at this
      obtain ⟨g, o, e1, e2, e3⟩ := h.p (by omega)
      injection e1 with e1
      subst e1
      rw [show (⟨g, o, none⟩ : Addr).add j = ⟨g, o + j, none⟩ by unfold Addr.add; split <;> simp_all]
      refine (hb0.cell (p := ⟨g, o + j, none⟩) (Nat.lt_of_lt_of_le e2 hb.size)).trans ((hb.cell (p := ⟨g, o + j, none⟩) e2).trans ?_)
      have hq : j / 3 < kn := by omega
      have hm : j % 3 < 3 := Nat.mod_lt _ (by decide)
      have hj2 : ((kup zs kn).flatMap kc3)[j / 3 * 3 + j % 3]? = (kc3 (zs (j / 3)))[j % 3]? := fm_at _ _ kc3_len _ _ _ _ hm (kup_get zs hq)
      rw [show j / 3 * 3 + j % 3 = j by omega, hj] at hj2
      rw [hj2]
      obtain ⟨c0, c1, c2⟩ := e3 (j / 3) hq
      have h3 : j % 3 = 0 ∨ j % 3 = 1 ∨ j % 3 = 2 := by omega
      rcases h3 with e | e | e
      · rw [e, show o + j = o + j / 3 * 3 by omega]; exact c0
      · rw [e, show o + j = o + j / 3 * 3 + 1 by omega]; exact c1
      · rw [e, show o + j = o + j / 3 * 3 + 2 by omega]; exact c2) (fun x hx => by
      obtain ⟨y, _, hy⟩ := List.mem_flatMap.1 hx
      unfold kc3 at hy
      simp only [List.mem_cons, List.not_mem_nil, or_false] at hy
      rcases hy with rfl | rfl | rfl <;> rfl) (by unfold maxLen; omega) (by omega) (by simp)
    rw [Nat.zero_add, List.nil_append] at h2
    exact ⟨v', w2, h1, h2, hb0.trans ((Chg.grown h3).toBelow (fun x hx => by simp [Value.ownBlock] at hx; omega) (by simp))⟩
theorem Kin.kps {w0 u : World} {kp : Option Addr} {kn kc : Nat} {zs : Nat → Kv} (h : Kin w0 kp kn kc zs) (hb : Below w0.heap.size w0 u) (h0 : 0 < kn) : Kps u.heap.size u (.slice kp kn kc) kn zs := by
  obtain ⟨g, o, rfl, e2, e3⟩ := h.p h0
  exact .inr ⟨g, o, kc, rfl, Nat.lt_of_lt_of_le e2 hb.size, fun j hj => ⟨(hb.cell (p := ⟨g, _, none⟩) e2).trans (e3 j hj).1, (hb.cell (p := ⟨g, _, none⟩) e2).trans (e3 j hj).2.1, (hb.cell (p := ⟨g, _, none⟩) e2).trans (e3 j hj).2.2⟩⟩
theorem own_kps {u : World} {B kn : Nat} {p : Option Addr} {c : Nat} {zs : Nat → Kv} (h : u.ownsRow B 57 3 (.slice p kn c) kn ((kup zs kn).flatMap kc3)) : Kps u.heap.size u (.slice p kn c) kn zs := by
  rcases h.2 with ⟨h1, h2⟩ | ⟨g, cap, cur, h1, h2, h3, h4, h5⟩
  · exact .inl ⟨h1, h2⟩
  · injection h1 with e1 _ e3
    subst e1 e3
    refine .inr ⟨g, 0, c, rfl, (World.ownsRow.lt h g rfl).2, fun j hj => ?_⟩
    have key : ∀ t, t < 3 → u.cell? ⟨g, 0 + j * 3 + t, none⟩ = (kc3 (zs j))[t]? := fun t ht => by
      rw [Nat.zero_add]
      exact row_at _ _ kc3_len h ht (kup_get zs hj)
    exact ⟨key 0 (by decide), key 1 (by decide), key 2 (by decide)⟩
theorem rlc {A : Ad} {R : Rdk} (h : Rl A R) (pre : List (Nat × Kv)) : Rl (A.cra (kof pre)) (R.cra fun s => kpz pre s) := h.cra fun s => kpz pre s
theorem okc {R : Rdk} {A : Ad} {i : Nat} (h : R.Ok i) {K : ByteArray → Int × Int} (hr : Rl A (R.cra K)) : (R.cra K).Ok (i + 1) := h.cra K hr.st hr.ft
end Wi
end Rg
end Go.Proofs.Ytidicdlfjdlpnaa
end
section
namespace Go.Proofs.Ytidicdlfjdlpnaa
open Go.RowKit
namespace Rg
namespace Wi
set_option maxRecDepth 100000
set_option maxHeartbeats 8000000 in
theorem act_crash {w0 : World} {d m i : Nat} (a : Acd) (hk : a.k = 6) (hs : a.s.size + a.t.size ≤ 400) (hn : a.n < 9223372036854775808) {zs : Nat → Kv} (hkin : Kin w0 a.kp a.kn a.kc zs) (hkn : a.kn ≤ 40) (hi : i ≤ 1000) (w : World) (h : Dz w0 d m i w) :
    Calls Try.prog 17 #[PT d 0, PT m 0, a.v] w fun e w' => e = .returned (.bool true) ∧ Dz w0 d m (i + 1) w' := by
  obtain ⟨k, s, t, q, n, kp, kn, kc⟩ := a
  dsimp only at hk hs hn hkin hkn
  subst hk
  obtain ⟨A, X, rfl, hd, hrn⟩ := h
  show Calls Try.prog 17 #[PT d 0, PT X.m 0, .agg #[.int .u8 6, .string s, .string t, .slice q.p q.n q.cp, .int .i64 n, .slice kp kn kc]] w _
  have H0 : Hid _ := hd.da.b.size
  have HRN : Hid _ := hrn
  obtain ⟨w1, hw1⟩ : ∃ w1, (w.alloc (.cells #[.int .u8 6, .string s, .string t, .slice q.p q.n q.cp, .int .i64 n, .slice kp kn kc] 37)) = w1 := ⟨_, rfl⟩
  have hb1 : Below w.heap.size w w1 := by rw [← hw1]; exact (Below.refl _ _).alloc (Nat.le_refl _) _
  have hs1 : w.heap.size < w1.heap.size := by rw [← hw1]; simp
  have HB1 : Hid (∀ i, w1.cell? ⟨w.heap.size, i, none⟩ = (#[.int .u8 6, .string s, .string t, .slice q.p q.n q.cp, .int .i64 n, .slice kp kn kc] : Array Value)[i]?) := fun i => by rw [← hw1]; exact box_at ..
  have b0 : w1.cell? ⟨w.heap.size, 0, none⟩ = some (.int .u8 6) := HB1.out 0
  have HBB : Hid _ := hb1
  have HSS : Hid _ := hs1
  have HD : Hid _ := hd.more hb1 (M := [w.heap.size]) fun x hx => by rw [List.mem_singleton.1 hx]; exact ⟨Nat.le_refl _, hs1⟩
  clear hb1 hs1 hd hrn
  have b1 : w1.cell? ⟨w.heap.size, 1, none⟩ = some (.string s) := HB1.out 1
  obtain ⟨v1, u1, hr1, ho1, hbu1⟩ := copy_k (u := w1) (show kn ≤ 1000 by omega) hkin HD.out.da.b 35
  obtain ⟨p1, c1, rfl, hle1⟩ := own_slice ho1
  have b5 : w1.cell? ⟨w.heap.size, 5, none⟩ = some (.slice kp kn kc) := HB1.out 5
  have b5' : (w1.alloc (.cells #[] 57)).cell? ⟨w.heap.size, 5, none⟩ = some (.slice kp kn kc) := ((Below.refl _ w1).alloc (Nat.le_refl _) _ |>.cell (p := ⟨w.heap.size, 5, none⟩) HSS.out).trans b5
  have HRU : Hid _ := hr1
  have HO1 : Hid _ := ho1
  have HU1 : Hid _ := hbu1
  have HKI : Hid _ := hkin
  have HBX : Hid (w.heap.size ∈ ([w.heap.size] ++ [] : List Nat)) := List.mem_append_left _ (List.mem_singleton.2 rfl)
  have HE : Hid _ := HD.out.more hbu1 (M := vbl (.slice p1 kn c1)) fun x hx => ⟨own_lo2 ho1 x hx, own_lt ho1 x hx⟩
  obtain ⟨A', hA'⟩ : ∃ A', A.cra (kof (kup (kbk kn zs) kn)) = A' := ⟨_, rfl⟩
  have HA : Hid _ := hA'
  have hrl := rlc HE.out.rl (kup (kbk kn zs) kn)
  rw [hA'] at hrl
  have HRL : Hid _ := hrl
  clear hr1 ho1 hbu1 hkin hA' hrl b5
  go_enter Try.func17, Try.ntmps17
  go_wp2_with (first
    | (at_builtin
       refine wpl_app rfl _ _ 35 rfl (.slice (some ⟨w1.heap.size, 0, none⟩) 0 0) (.slice kp kn kc) (.slice p1 kn c1) rfl rfl HRU.out ?_)
    | (go_at_call 24
       refine Calls.mono (crash_a HE.out.da p1 kn c1 zs (by omega) (own_kps HO1.out)) ?_
       rintro e w3 ⟨rfl, h2, h3⟩
       rw [HA.out] at h2
       have HD3 : Hid _ := h2
       have HK3 : Hid _ := h3
       have hc : ∀ i, w3.cell? ⟨w.heap.size, i, none⟩ = (#[.int .u8 6, .string s, .string t, .slice q.p q.n q.cp, .int .i64 n, .slice kp kn kc] : Array Value)[i]? := fun i => (World.cell?_of_block (a := ⟨w.heap.size, i, none⟩) (h3.2 _ (List.mem_append_right _ (List.mem_append_right _ HBX.out)))).trans ((HU1.out.cell (p := ⟨w.heap.size, i, none⟩) HSS.out).trans (HB1.out i))
       have c5 : w3.cell? ⟨w.heap.size, 5, none⟩ = some (.slice kp kn kc) := hc 5
       clear h2 h3 hc)
    | (go_at_call 59
       refine Calls.mono (rcra_any (by omega) HE.out.ok kp kn kc zs (by omega) w3 (HE.out.dx.kx (Kx.sub HK3.out fun x hx => List.mem_append_left _ hx)) (Nat.le_trans (Nat.le_trans H0.out (Nat.le_trans HBB.out.size HU1.out.size)) HK3.out.1) (fun h0 => HKI.out.kps (Da.b HD3.out) h0)) ?_
       rintro e w4 ⟨rfl, h2⟩
       obtain ⟨X', hm, hn2, hdd, hke, hrd⟩ := HE.out.both HD3.out HK3.out h2 HRL.out (okc HE.out.ok HRL.out)
       have hrn2 : Rn X'.rd := by rw [hrd]; exact Rn.cra HRN.out _
       have HD4 : Hid _ := hdd
       have HK4 : Hid _ := hke
       have HN4 : Hid _ := hrn2
       have HM4 : Hid _ := hm
       clear hm hn2 hdd hke hrd h2 hrn2)
    | fail)
  go_loopw [7, 15] (fun vo v wr => vo = .bool true ∧ ∃ j : Nat, v = .int .i64 (j : Int) ∧ j ≤ kn ∧ Hid (Below w4.heap.size w4 wr))
    (fun _ v _ => kn - (RowKit.intOf v).toNat)
  case atStart => exact ⟨rfl, 0, rfl, Nat.zero_le _, Below.refl _ _⟩
  case round =>
    obtain ⟨rfl, j, rfl, hj, hB⟩ := hrel
    obtain ⟨W, rfl⟩ : ∃ W, W = wr := ⟨wr, rfl⟩
    by_cases hlt : j < kn
    · obtain ⟨gk, ok, rfl, hgk, hcl⟩ := HKI.out.p (by omega)
      obtain ⟨g1, rfl⟩ := own_some HO1.out (by omega)
      have HCX : Hid (∀ u, Below w4.heap.size w4 u → (∀ t, t < 3 → u.cell? ⟨g1, j * 3 + t, none⟩ = (kc3 (zs j))[t]?) ∧ (∀ t, t < 3 → u.cell? ⟨gk, ok + j * 3 + t, none⟩ = (kc3 (zs j))[t]?) ∧ u.cell? ⟨w.heap.size, 5, none⟩ = some (.slice (some ⟨gk, ok, none⟩) kn kc)) := fun u hu => by
        have hg1 : g1 ∈ vbl (Value.slice (some ⟨g1, 0, none⟩) kn c1) ++ ([w.heap.size] ++ []) := List.mem_append_left _ (by simp [vbl, Value.ownBlock])
        have e1 : u.heap[g1]? = u1.heap[g1]? := (hu.block _ (HD4.out.e2 _ hg1)).trans (HK4.out.2 _ hg1)
        have e5 : u.heap[w.heap.size]? = u1.heap[w.heap.size]? := (hu.block _ (HD4.out.e2 _ (List.mem_append_right _ HBX.out))).trans (HK4.out.2 _ (List.mem_append_right _ HBX.out))
        refine ⟨fun t ht => ?_, fun t ht => ?_, ?_⟩
        · exact (World.cell?_of_block (a := ⟨g1, j * 3 + t, none⟩) e1).trans (row_at _ _ kc3_len HO1.out ht (kup_get zs hlt))
        · have hb : Below w0.heap.size w0 u := HD4.out.da.b.trans (hu.mono HD4.out.da.b.size)
          refine (hb.cell (p := ⟨gk, ok + j * 3 + t, none⟩) hgk).trans ?_
          obtain ⟨d0, d1, d2⟩ := hcl j hlt
          have h3 : t = 0 ∨ t = 1 ∨ t = 2 := by omega
          rcases h3 with rfl | rfl | rfl
          · exact d0
          · exact d1
          · exact d2
        · exact (World.cell?_of_block (a := ⟨w.heap.size, 5, none⟩) e5).trans ((HU1.out.cell (p := ⟨w.heap.size, 5, none⟩) HSS.out).trans (HB1.out 5))
      clear hcl
      go_wp2
      refine walk_det (by kernel_rfl) 13 [.bool true, .bool true, .slice (some ⟨g1, 0, none⟩) kn c1, .int .i64 (j : Int), PT g1 (j * 3), .agg #[.string (zs j).1.1, .int .i64 (zs j).1.2.1, .int .i64 (zs j).1.2.2], PT w.heap.size 5, .slice (some ⟨gk, ok, none⟩) kn kc, .int .i64 (j : Int), PT gk (ok + j * 3), .agg #[.string (zs j).1.1, .int .i64 (zs j).1.2.1, .int .i64 (zs j).1.2.2], .bool true, .bool true] [none, none, none, none, none, none, none, none, none, none, none, none, none] []
        (fun _ u => Below w4.heap.size w4 u) ?prez ?Fz ?hprez ?hFz (by kernel_rfl) ?hWz (hB.out.trans ((bdr W).mono hB.out.size)) ?hopz ?hez
      case hprez => simp only [tk, tz]; rfl
      case hFz => simp only [List.map_cons, List.map_nil, fill, Kind.val, Act.put, sa, sz, ss]; rfl
      case hWz => kernel_rfl
      case hopz =>
        refine ⟨fun c _ u hu => ?_, fun c _ u hu => ?_, fun c _ u hu => ?_, fun c _ u hu => ?_, fun c _ u hu => ?_, fun c _ u hu => ?_, fun c _ u hu => ?_, fun c _ u hu => ?_, fun c _ u hu => ?_, fun c _ u hu => ?_, fun c _ u hu => ?_, fun c _ u hu => ?_, fun c _ u hu => ?_, trivial⟩
        · clear hu; go_simp
        · clear hu; go_simp
        · clear hu; go_simp
        · clear hu; go_simp
        · clear hu; go_simp
        · obtain ⟨k1, -, -⟩ := HCX.out u hu; have a0 : u.cell? ⟨g1, j * 3, none⟩ = some (.string (zs j).1.1) := k1 0 (by decide); have a1 : u.cell? ⟨g1, j * 3 + 1, none⟩ = some (.int .i64 (zs j).1.2.1) := k1 1 (by decide); have a2 : u.cell? ⟨g1, j * 3 + 2, none⟩ = some (.int .i64 (zs j).1.2.2) := k1 2 (by decide); clear k1; clear hu; go_simp
        · clear hu; go_simp
        · have k3 := (HCX.out u hu).2.2; clear hu; go_simp
        · clear hu; go_simp
        · clear hu; go_simp
        · obtain ⟨-, k1, -⟩ := HCX.out u hu; have a0 : u.cell? ⟨gk, ok + j * 3, none⟩ = some (.string (zs j).1.1) := k1 0 (by decide); have a1 : u.cell? ⟨gk, ok + j * 3 + 1, none⟩ = some (.int .i64 (zs j).1.2.1) := k1 1 (by decide); have a2 : u.cell? ⟨gk, ok + j * 3 + 2, none⟩ = some (.int .i64 (zs j).1.2.2) := k1 2 (by decide); clear k1; clear hu; go_simp
        · clear hu; go_simp
        · clear hu; go_simp
      intro u hu
      have HU : Hid _ := hu
      clear hu
      refine rest_set (d := 7) (v := .bool true) (w' := u) rfl rfl rfl (rfl) ?_
      simp only [Act.put, sa, sz, ss]
      refine rest_nil ?_
      go_wp2
      go_roundw
      case rel => exact ⟨rfl, j + 1, by simp, by omega, HU.out⟩
      case measure => simp [RowKit.intOf]; omega
    · obtain rfl : j = kn := by omega
      have HDD : Hid _ := (HD4.out.step hB.out).less (M := [w.heap.size] ++ []) fun x hx => List.mem_append_right _ hx
      have HR2 : Hid _ := HN4.out
      have HBL : Hid (w.heap.size < W.heap.size) := HDD.out.e2 _ HBX.out
      have HC1 : Hid (W.cell? ⟨w.heap.size, 1, none⟩ = some (.string s)) := (World.cell?_of_block (a := ⟨w.heap.size, 1, none⟩) ((hB.out.block _ (HD4.out.e2 _ (List.mem_append_right _ HBX.out))).trans (HK4.out.2 _ (List.mem_append_right _ HBX.out)))).trans ((HU1.out.cell (p := ⟨w.heap.size, 1, none⟩) HSS.out).trans (HB1.out 1))
      go_wp2_with (first
        | (go_at_call 26; refine Calls.mono (names_dd HDD.out HR2.out) ?_; rintro e w9 ⟨v9, rfl, h2, h3, h4⟩; have H2 : Hid _ := h2; have H3 : Hid _ := h3; have H4 : Hid _ := h4; clear h2 h3 h4)
        | fail)
      rw [← HM4.out]
      refine act_r32 (s := s) (HDD.out.step H4.out) (by omega) (by omega) H2.out ((H4.out.cell (p := ⟨w.heap.size, 1, none⟩) HBL.out).trans HC1.out) (Nat.lt_of_lt_of_le HBL.out H4.out.size) fun ε u3 h5 => ?_
      have H5 : Hid _ := h5
      clear h5
      go_wp2_with (first
        | (go_at_call 63; refine Calls.mono (over_rowS (own_keep H2.out fun b hm => H5.out.block b (own_lt H2.out b hm)) (Rmt.keep H3.out fun b hm => H5.out.block b (own_lt H2.out b hm))) ?_; rintro e u4 ⟨rfl, h6⟩; have H6 : Hid _ := h6; clear h6)
        | fail)
      go_ret
      exact ⟨rfl, Dz.fin HDD.out HM4.out HR2.out H2.out H4.out H5.out H6.out⟩
end Wi
end Rg
end Go.Proofs.Ytidicdlfjdlpnaa
end
section
namespace Go.Proofs.Ytidicdlfjdlpnaa
open Go.RowKit
namespace Rg
namespace Wi
set_option maxRecDepth 100000
set_option maxHeartbeats 8000000 in
theorem act_other {w0 : World} {d m i : Nat} (a : Acd) (hk : 8 ≤ a.k ∧ a.k < 256) (hs : a.s.size + a.t.size ≤ 400) (hn : a.n < 9223372036854775808) (hi : i ≤ 1000) (w : World) (h : Dz w0 d m i w) :
    Calls Try.prog 17 #[PT d 0, PT m 0, a.v] w fun e w' => e = .returned (.bool true) ∧ Dz w0 d m (i + 1) w' := by
  obtain ⟨k, s, t, q, n, kp, kn, kc⟩ := a
  dsimp only at hk hs hn
  obtain ⟨A, X, rfl, hd, hrn⟩ := h
  show Calls Try.prog 17 #[PT d 0, PT X.m 0, .agg #[.int .u8 (k : Int), .string s, .string t, .slice q.p q.n q.cp, .int .i64 n, .slice kp kn kc]] w _
  have H0 : Hid _ := hd.da.b.size
  have HRN : Hid _ := hrn
  obtain ⟨w1, hw1⟩ : ∃ w1, (w.alloc (.cells #[.int .u8 (k : Int), .string s, .string t, .slice q.p q.n q.cp, .int .i64 n, .slice kp kn kc] 37)) = w1 := ⟨_, rfl⟩
  have hb1 : Below w.heap.size w w1 := by rw [← hw1]; exact (Below.refl _ _).alloc (Nat.le_refl _) _
  have hs1 : w.heap.size < w1.heap.size := by rw [← hw1]; simp
  have HB1 : Hid (∀ i, w1.cell? ⟨w.heap.size, i, none⟩ = (#[.int .u8 (k : Int), .string s, .string t, .slice q.p q.n q.cp, .int .i64 n, .slice kp kn kc] : Array Value)[i]?) := fun i => by rw [← hw1]; exact box_at ..
  have b0 : w1.cell? ⟨w.heap.size, 0, none⟩ = some (.int .u8 (k : Int)) := HB1.out 0
  have HBB : Hid _ := hb1
  have HSS : Hid _ := hs1
  have HD : Hid _ := hd.more hb1 (M := [w.heap.size]) fun x hx => by rw [List.mem_singleton.1 hx]; exact ⟨Nat.le_refl _, hs1⟩
  clear hb1 hs1 hd hrn
  obtain ⟨hk1, hk2⟩ := hk
  have z0 : ¬ ((k : Int) = 0) := by omega
  have z1 : ¬ ((k : Int) = 1) := by omega
  have z2 : ¬ ((k : Int) = 2) := by omega
  have z3 : ¬ ((k : Int) = 3) := by omega
  have z4 : ¬ ((k : Int) = 4) := by omega
  have z5 : ¬ ((k : Int) = 5) := by omega
  have z6 : ¬ ((k : Int) = 6) := by omega
  have z7 : ¬ ((k : Int) = 7) := by omega
  have HDD : Hid _ := HD.out.up
  have HR2 : Hid _ := HRN.out
  have HBL : Hid _ := HSS.out
  have HC1 : Hid (w1.cell? ⟨w.heap.size, 1, none⟩ = some (.string s)) := HB1.out 1
  go_enter Try.func17, Try.ntmps17
  go_wp2_with (first
    | (go_at_call 26; refine Calls.mono (names_dd HDD.out HR2.out) ?_; rintro e w9 ⟨v9, rfl, h2, h3, h4⟩; have H2 : Hid _ := h2; have H3 : Hid _ := h3; have H4 : Hid _ := h4; clear h2 h3 h4)
    | fail)
  refine act_r32 (s := s) (HDD.out.step H4.out) (by omega) (by omega) H2.out ((H4.out.cell (p := ⟨w.heap.size, 1, none⟩) HBL.out).trans HC1.out) (Nat.lt_of_lt_of_le HBL.out H4.out.size) fun ε u3 h5 => ?_
  have H5 : Hid _ := h5
  clear h5
  go_wp2_with (first
    | (go_at_call 63; refine Calls.mono (over_rowS (own_keep H2.out fun b hm => H5.out.block b (own_lt H2.out b hm)) (Rmt.keep H3.out fun b hm => H5.out.block b (own_lt H2.out b hm))) ?_; rintro e u4 ⟨rfl, h6⟩; have H6 : Hid _ := h6; clear h6)
    | fail)
  go_ret
  exact ⟨rfl, Dz.fin HDD.out rfl HR2.out H2.out H4.out H5.out H6.out⟩
end Wi
end Rg
end Go.Proofs.Ytidicdlfjdlpnaa
end
section
namespace Go.Proofs.Ytidicdlfjdlpnaa
open Go.RowKit
namespace Rg
namespace Wi
set_option maxRecDepth 100000
theorem lf_bs (n : Nat) (f : Nat → Nat) : bs n (lf n 3 f) = bs n f := bs_cg fun i hi => by unfold lf; rw [if_pos hi]
theorem ints_ok8 (f : Nat → Nat) (n : Nat) : ∀ x ∈ (ints .u8 f n).toArray.toList, Is8 x := fun x hx => by
  rw [List.toList_toArray] at hx
  obtain ⟨i, hi, rfl⟩ := List.getElem_of_mem hx
  rw [ints_len] at hi
  have := ints_get .u8 f hi
  rw [List.getElem?_eq_getElem (by rw [ints_len]; exact hi)] at this
  injection this with this
  exact ⟨f i, this⟩
set_option maxHeartbeats 8000000 in
theorem act_app {w0 : World} {d m i : Nat} (a : Acd) (hk : a.k = 0) (hs : a.s.size + a.t.size ≤ 400) (hn : a.n < 9223372036854775808) (hq : Pq a.q w0) (hqb : ∀ x ∈ gbl a.q, x < w0.heap.size) (hqn : a.q.n ≤ 1048585) (hi : i ≤ 1000) (w : World) (h : Dz w0 d m i w) :
    Calls Try.prog 17 #[PT d 0, PT m 0, a.v] w fun e w' => e = .returned (.bool true) ∧ Dz w0 d m (i + 1) w' := by
  obtain ⟨k, s, t, q, n, kp, kn, kc⟩ := a
  dsimp only at hk hs hn hq hqb hqn
  subst hk
  obtain ⟨A, X, rfl, hd, hrn⟩ := h
  show Calls Try.prog 17 #[PT d 0, PT X.m 0, .agg #[.int .u8 0, .string s, .string t, .slice q.p q.n q.cp, .int .i64 n, .slice kp kn kc]] w _
  have H0 : Hid _ := hd.da.b.size
  have HRN : Hid _ := hrn
  obtain ⟨w1, hw1⟩ : ∃ w1, (w.alloc (.cells #[.int .u8 0, .string s, .string t, .slice q.p q.n q.cp, .int .i64 n, .slice kp kn kc] 37)) = w1 := ⟨_, rfl⟩
  have hb1 : Below w.heap.size w w1 := by rw [← hw1]; exact (Below.refl _ _).alloc (Nat.le_refl _) _
  have hs1 : w.heap.size < w1.heap.size := by rw [← hw1]; simp
  have HB1 : Hid (∀ i, w1.cell? ⟨w.heap.size, i, none⟩ = (#[.int .u8 0, .string s, .string t, .slice q.p q.n q.cp, .int .i64 n, .slice kp kn kc] : Array Value)[i]?) := fun i => by rw [← hw1]; exact box_at ..
  have b0 : w1.cell? ⟨w.heap.size, 0, none⟩ = some (.int .u8 0) := HB1.out 0
  have HBB : Hid _ := hb1
  have HSS : Hid _ := hs1
  have HD : Hid _ := hd.more hb1 (M := [w.heap.size]) fun x hx => by rw [List.mem_singleton.1 hx]; exact ⟨Nat.le_refl _, hs1⟩
  clear hb1 hs1 hd hrn
  have b1 : w1.cell? ⟨w.heap.size, 1, none⟩ = some (.string s) := HB1.out 1
  have b3 : w1.cell? ⟨w.heap.size, 3, none⟩ = some (.slice q.p q.n q.cp) := HB1.out 3
  have HQ : Hid (∀ u, Below w0.heap.size w0 u → Pq q u) := fun u hu => Pq.kx (M := gbl q) hq ⟨hu.size, fun x hx => hu.block x (hqb x hx)⟩ fun x hx => hx
  have HQB : Hid _ := hqb
  clear hq hqb
  obtain ⟨A', hA'⟩ : ∃ A', (A.app s (bs q.n q.f)).2 = A' := ⟨_, rfl⟩
  obtain ⟨r, hr⟩ : ∃ r, (A.app s (bs q.n q.f)).1 = r := ⟨_, rfl⟩
  have hrl := HD.out.rl.app s (bs q.n q.f)
  rw [hA', hr] at hrl
  have HRL : Hid _ := hrl
  have HA : Hid _ := hA'
  have HR : Hid _ := hr
  have HBX : Hid (w.heap.size ∈ ([w.heap.size] ++ [] : List Nat)) := List.mem_append_left _ (List.mem_singleton.2 rfl)
  clear hrl hA' hr
  go_enter Try.func17, Try.ntmps17
  go_wp2_with (first
    | (go_at_call 32
       refine Calls.mono (lent_any (q := q) (by omega) w1 (HQ.out _ HD.out.da.b)) ?_
       rintro e w2 ⟨rfl, h2, h3, h4⟩
       have h5 := HD.out.more h3 (M := [w1.heap.size]) fun x hx => by rw [List.mem_singleton.1 hx]; exact ⟨Nat.le_refl _, h2⟩
       have HE2 : Hid _ := h5
       have HL2 : Hid _ := h2
       have HB2 : Hid _ := h3
       have HR2 : Hid (w2.heap[w1.heap.size]? = some (.cells (ints .u8 (lf q.n 3 q.f) (q.n + 3)).toArray 5 (0, 0))) := h4
       have c1 : w2.cell? ⟨w.heap.size, 1, none⟩ = some (.string s) := (h3.cell (p := ⟨w.heap.size, 1, none⟩) HSS.out).trans (HB1.out 1)
       clear h2 h3 h4 h5)
    | (go_at_call 19
       refine Calls.mono (app_a (q := qb w1.heap.size q.n (q.n + 3) (lf q.n 3 q.f)) HE2.out.da (by have := HE2.out.k; omega) (fun f hf => by have := HE2.out.ol f hf; omega) s (by omega) (qb_ok (by omega) (by omega) HR2.out) (fun x hx => .inl (by have e1 : x = w1.heap.size := (by unfold gbl at hx; split at hx <;> simp_all [qb]); rw [e1]; exact List.mem_append_right _ (List.mem_append_left _ (List.mem_singleton.2 rfl)))) (show q.n ≤ 281474976710656 by omega)) ?_
       rintro e w3 ⟨rfl, h2, h3⟩
       rw [show bs (qb w1.heap.size q.n (q.n + 3) (lf q.n 3 q.f)).n (qb w1.heap.size q.n (q.n + 3) (lf q.n 3 q.f)).f = bs q.n q.f from lf_bs ..] at h2 ⊢
       rw [HA.out] at h2
       rw [HR.out]
       have HD3 : Hid _ := h2
       have HK3 : Hid _ := h3
       have hc : ∀ i, w3.cell? ⟨w.heap.size, i, none⟩ = (#[.int .u8 0, .string s, .string t, .slice q.p q.n q.cp, .int .i64 n, .slice kp kn kc] : Array Value)[i]? := fun i => (World.cell?_of_block (a := ⟨w.heap.size, i, none⟩) (h3.2 _ (List.mem_append_right _ (List.mem_append_right _ HBX.out)))).trans ((HB2.out.cell (p := ⟨w.heap.size, i, none⟩) HSS.out).trans (HB1.out i))
       have c1 : w3.cell? ⟨w.heap.size, 1, none⟩ = some (.string s) := hc 1
       have c3 : w3.cell? ⟨w.heap.size, 3, none⟩ = some (.slice q.p q.n q.cp) := hc 3
       have HC3 : Hid _ := hc
       clear h2 h3 hc)
    | (go_at_call 52
       refine Calls.mono (rapp_any s (by omega) q (by omega) (by omega) HE2.out.ok (by have := HE2.out.n; omega) w3 (HE2.out.dx.kx (Kx.sub HK3.out fun x hx => List.mem_append_left _ hx)) (Nat.le_trans (Nat.le_trans H0.out (Nat.le_trans HBB.out.size HB2.out.size)) HK3.out.1) (HQ.out _ (Da.b HD3.out)) HQB.out) ?_
       rintro e w4 ⟨rfl, h2⟩
       rw [← HRL.out.1]
       obtain ⟨X', hm, hn2, hdd, hke, hrd⟩ := HE2.out.both HD3.out HK3.out h2 HRL.out.2 (HE2.out.ok.app s (bs q.n q.f))
       have hrn2 : Rn X'.rd := by rw [hrd]; exact Rn.app HRN.out s (bs q.n q.f)
       have HD4 : Hid _ := hdd
       have HK4 : Hid _ := hke
       have HN4 : Hid _ := hrn2
       have HM4 : Hid _ := hm
       have hc : ∀ i, w4.cell? ⟨w.heap.size, i, none⟩ = (#[.int .u8 0, .string s, .string t, .slice q.p q.n q.cp, .int .i64 n, .slice kp kn kc] : Array Value)[i]? := fun i => (World.cell?_of_block (a := ⟨w.heap.size, i, none⟩) (hke.2 _ (List.mem_append_right _ HBX.out))).trans ((HB2.out.cell (p := ⟨w.heap.size, i, none⟩) HSS.out).trans (HB1.out i))
       have d3 : w4.cell? ⟨w.heap.size, 3, none⟩ = some (.slice q.p q.n q.cp) := hc 3
       have HC4 : Hid _ := hc
       clear hm hn2 hdd hke hrd h2 hrn2 hc)
    | (go_at_call 40
       refine Calls.mono (kept_any (q := q) (by omega) w1.heap.size w4 (HQ.out _ HD4.out.da.b) ((HK4.out.2 _ (List.mem_append_left _ (List.mem_singleton.2 rfl))).trans HR2.out)) ?_
       rintro e w5 ⟨rfl, h2⟩
       have HB5 : Hid _ := h2
       clear h2)
    | (go_at_call 53
       have hg : w5.heap[w1.heap.size]? = some (.cells (ints .u8 (lf q.n 3 q.f) (q.n + 3)).toArray 5 (0, 0)) := (HB5.out.block _ (HD4.out.e2 _ (List.mem_append_left _ (List.mem_singleton.2 rfl)))).trans ((HK4.out.2 _ (List.mem_append_left _ (List.mem_singleton.2 rfl))).trans HR2.out)
       refine Calls.mono (over_bytes (g := w1.heap.size) (n := q.n) (c := q.n + 3) (by omega) (by omega) w5 ⟨_, hg, by simp [ints_len], ints_ok8 _ _⟩) ?_
       rintro e w6 ⟨rfl, h3⟩
       have hE := HD4.out.step HB5.out
       have hnb : w.heap.size ∉ [w1.heap.size] := fun hx => by have := List.mem_singleton.1 hx; have := HSS.out; omega
       have HDD : Hid _ := (hE.chg h3 (fun x hx => List.mem_append_left _ hx) (fun x hx => by rw [List.mem_singleton.1 hx]; exact Nat.le_trans H0.out HBB.out.size)).less (M := [w.heap.size] ++ []) fun x hx => List.mem_append_right _ hx
       have HR2 : Hid _ := HN4.out
       have HBL : Hid (w.heap.size < w6.heap.size) := HDD.out.e2 _ HBX.out
       have HC1 : Hid (w6.cell? ⟨w.heap.size, 1, none⟩ = some (.string s)) := (h3.cell (p := ⟨w.heap.size, 1, none⟩) (hE.e2 _ (List.mem_append_right _ HBX.out)) hnb).trans ((HB5.out.cell (p := ⟨w.heap.size, 1, none⟩) (HD4.out.e2 _ (List.mem_append_right _ HBX.out))).trans (HC4.out 1))
       clear h3 hE hnb hg)
    | (go_at_call 26; refine Calls.mono (names_dd HDD.out HR2.out) ?_; rintro e w9 ⟨v9, rfl, h2, h3, h4⟩; have H2 : Hid _ := h2; have H3 : Hid _ := h3; have H4 : Hid _ := h4; clear h2 h3 h4)
    | fail)
  rw [← HM4.out]
  refine act_r32 (s := s) (HDD.out.step H4.out) (by omega) (by omega) H2.out ((H4.out.cell (p := ⟨w.heap.size, 1, none⟩) HBL.out).trans HC1.out) (Nat.lt_of_lt_of_le HBL.out H4.out.size) fun ε u3 h5 => ?_
  have H5 : Hid _ := h5
  clear h5
  go_wp2_with (first
    | (go_at_call 63; refine Calls.mono (over_rowS (own_keep H2.out fun b hm => H5.out.block b (own_lt H2.out b hm)) (Rmt.keep H3.out fun b hm => H5.out.block b (own_lt H2.out b hm))) ?_; rintro e u4 ⟨rfl, h6⟩; have H6 : Hid _ := h6; clear h6)
    | fail)
  go_ret
  exact ⟨rfl, Dz.fin HDD.out HM4.out HR2.out H2.out H4.out H5.out H6.out⟩
end Wi
end Rg
end Go.Proofs.Ytidicdlfjdlpnaa
end
section
namespace Go.Proofs.Ytidicdlfjdlpnaa
open Go.RowKit
namespace Rg
namespace Wi
set_option maxRecDepth 100000
set_option maxHeartbeats 8000000 in
theorem act_syn {w0 : World} {d m i : Nat} (a : Acd) (hk : a.k = 2) (hs : a.s.size + a.t.size ≤ 400) (hn : a.n < 9223372036854775808) (hi : i ≤ 1000) (w : World) (h : Dz w0 d m i w) :
    Calls Try.prog 17 #[PT d 0, PT m 0, a.v] w fun e w' => e = .returned (.bool true) ∧ Dz w0 d m (i + 1) w' := by
  obtain ⟨k, s, t, q, n, kp, kn, kc⟩ := a
  dsimp only at hk hs hn
  subst hk
  obtain ⟨A, X, rfl, hd, hrn⟩ := h
  show Calls Try.prog 17 #[PT d 0, PT X.m 0, .agg #[.int .u8 2, .string s, .string t, .slice q.p q.n q.cp, .int .i64 n, .slice kp kn kc]] w _
  have H0 : Hid _ := hd.da.b.size
  have HRN : Hid _ := hrn
  obtain ⟨w1, hw1⟩ : ∃ w1, (w.alloc (.cells #[.int .u8 2, .string s, .string t, .slice q.p q.n q.cp, .int .i64 n, .slice kp kn kc] 37)) = w1 := ⟨_, rfl⟩
  have hb1 : Below w.heap.size w w1 := by rw [← hw1]; exact (Below.refl _ _).alloc (Nat.le_refl _) _
  have hs1 : w.heap.size < w1.heap.size := by rw [← hw1]; simp
  have HB1 : Hid (∀ i, w1.cell? ⟨w.heap.size, i, none⟩ = (#[.int .u8 2, .string s, .string t, .slice q.p q.n q.cp, .int .i64 n, .slice kp kn kc] : Array Value)[i]?) := fun i => by rw [← hw1]; exact box_at ..
  have b0 : w1.cell? ⟨w.heap.size, 0, none⟩ = some (.int .u8 2) := HB1.out 0
  have HBB : Hid _ := hb1
  have HSS : Hid _ := hs1
  have HD : Hid _ := hd.more hb1 (M := [w.heap.size]) fun x hx => by rw [List.mem_singleton.1 hx]; exact ⟨Nat.le_refl _, hs1⟩
  clear hb1 hs1 hd hrn
  go_enter Try.func17, Try.ntmps17
  have hd2 := HD.out.step (bdr w1)
  obtain ⟨A', hA'⟩ : ∃ A', (A.syn s).2 = A' := ⟨_, rfl⟩
  obtain ⟨r, hr⟩ : ∃ r, (A.syn s).1 = r := ⟨_, rfl⟩
  have hrl := hd2.rl.syn s
  rw [hA', hr] at hrl
  have HD2 : Hid _ := hd2
  have HRL : Hid _ := hrl
  have HA : Hid _ := hA'
  have HR : Hid _ := hr
  have HCE : Hid (∀ u, Kx (X.bl ++ ([w.heap.size] ++ [])) w1.drew u → ∀ i, u.cell? ⟨w.heap.size, i, none⟩ = (#[.int .u8 2, .string s, .string t, .slice q.p q.n q.cp, .int .i64 n, .slice kp kn kc] : Array Value)[i]?) := fun u hu i => (World.cell?_of_block (a := ⟨w.heap.size, i, none⟩) (hu.2 _ (List.mem_append_right _ (List.mem_append_left _ (List.mem_singleton.2 rfl))))).trans (HB1.out i)
  clear hd2 hrl hA' hr
  go_wp2
  refine walk_det (by kernel_rfl) 9 [PT d 0, PT w.heap.size 1, .string s, .int .i64 r, PT X.m 0, PT w.heap.size 1, .string s, .int .i64 r, .bool true] [none, none, none, some 0, none, none, none, some 1, none] [3, 7]
    (fun c u => (∀ i, u.cell? ⟨w.heap.size, i, none⟩ = (#[.int .u8 2, .string s, .string t, .slice q.p q.n q.cp, .int .i64 n, .slice kp kn kc] : Array Value)[i]?) ∧ match c with | 0 => u = w1.drew | 1 => Da w0 d A' (X.bl ++ ([w.heap.size] ++ [])) u ∧ Kx (X.bl ++ ([w.heap.size] ++ [])) w1.drew u | _ => ∃ X', X'.m = X.m ∧ Dd w0 d (i + 1) A' X' ([w.heap.size] ++ []) u ∧ Rn X'.rd) ?prez ?Fz ?hprez ?hFz (by kernel_rfl) ?hWz ⟨HB1.out, rfl⟩ ?hopz ?hez
  case hprez => simp only [tk, tz]; rfl
  case hFz => simp only [List.map_cons, List.map_nil, fill, Kind.val, Act.put, sa, sz, ss]; rfl
  case hWz => kernel_rfl
  case hopz =>
    refine ⟨fun c _ u _ => rfl, fun c _ u _ => ?_, fun c _ u hu => ?_, fun u hu => .inr ⟨21, #[PT d 0, .string s], exec_call rfl (fun _ _ => rfl) rfl (by simp only [List.map_toArray, List.map_cons, List.map_nil]; rfl), ?_⟩, fun c _ u _ => rfl, fun c _ u _ => ?_, fun c _ u hu => ?_, fun u hu => .inr ⟨55, #[PT X.m 0, .string s], exec_call rfl (fun _ _ => rfl) rfl (by simp only [List.map_toArray, List.map_cons, List.map_nil]; rfl), ?_⟩, fun c _ u _ => ?_, trivial⟩
    · go_simp
    · have h1 : u.cell? ⟨w.heap.size, 1, none⟩ = some (.string s) := hu.1 1
      clear hu
      go_simp
    · obtain ⟨-, rfl⟩ := hu
      refine Calls.mono (syn_a HD2.out.da (by have := HD2.out.k; omega) s (by omega)) ?_
      rintro e u2 ⟨rfl, h1, h2⟩
      rw [HA.out] at h1
      exact ⟨by rw [HR.out], HCE.out u2 h2, h1, h2⟩
    · go_simp
    · have h1 : u.cell? ⟨w.heap.size, 1, none⟩ = some (.string s) := hu.1 1
      clear hu
      go_simp
    · obtain ⟨hce, h1, h2⟩ := hu
      refine Calls.mono (rsyn_any s (by omega) (by omega) HD2.out.ok (by have := HD2.out.n; omega) u (HD2.out.dx.kx (h2.sub fun x hx => List.mem_append_left _ hx)) (Nat.le_trans H0.out (Nat.le_trans HBB.out.size h2.1))) ?_
      rintro e u2 ⟨rfl, h3⟩
      obtain ⟨X', hm, hn2, hdd, hke, hrd⟩ := HD2.out.both h1 h2 h3 HRL.out.2 (HD2.out.ok.syn s)
      refine ⟨by rw [HRL.out.1], fun i => ?_, X', hm, hdd, by rw [hrd]; exact Rn.syn HRN.out s⟩
      exact (World.cell?_of_block (a := ⟨w.heap.size, i, none⟩) (hke.2 _ (List.mem_append_left _ (List.mem_singleton.2 rfl)))).trans (HB1.out i)
    · go_simp
  rintro u ⟨hce, X', hm, hdd, hrn2⟩
  have HDD : Hid _ := hdd
  have HR2 : Hid _ := hrn2
  have hb1 : u.cell? ⟨w.heap.size, 1, none⟩ = some (.string s) := hce 1
  have HC1 : Hid _ := hb1
  have HBL : Hid (w.heap.size < u.heap.size) := hdd.e2 _ (List.mem_append_left _ (List.mem_singleton.2 rfl))
  have HM4 : Hid _ := hm
  clear hce hdd hrn2 hb1 hm
  refine rest_set (d := 7) (v := .bool true) (w' := u) rfl rfl rfl (rfl) ?_
  simp only [Act.put, sa, sz, ss]
  refine rest_nil ?_
  go_wp2_with (first
    | (go_at_call 26; refine Calls.mono (names_dd HDD.out HR2.out) ?_; rintro e w2 ⟨v2, rfl, h2, h3, h4⟩; have H2 : Hid _ := h2; have H3 : Hid _ := h3; have H4 : Hid _ := h4; clear h2 h3 h4)
    | fail)
  rw [← HM4.out]
  refine act_r32 (s := s) (HDD.out.step H4.out) (by omega) (by omega) H2.out ((H4.out.cell (p := ⟨w.heap.size, 1, none⟩) HBL.out).trans HC1.out) (Nat.lt_of_lt_of_le HBL.out H4.out.size) fun ε u3 h5 => ?_
  have H5 : Hid _ := h5
  clear h5
  go_wp2_with (first
    | (go_at_call 63; refine Calls.mono (over_rowS (own_keep H2.out fun b hm => H5.out.block b (own_lt H2.out b hm)) (Rmt.keep H3.out fun b hm => H5.out.block b (own_lt H2.out b hm))) ?_; rintro e u4 ⟨rfl, h6⟩; have H6 : Hid _ := h6; clear h6)
    | fail)
  go_ret
  exact ⟨rfl, Dz.fin HDD.out HM4.out HR2.out H2.out H4.out H5.out H6.out⟩
end Wi
end Rg
end Go.Proofs.Ytidicdlfjdlpnaa
end
section
namespace Go.Proofs.Ytidicdlfjdlpnaa
open Go.RowKit
namespace Rg
namespace Wi
set_option maxRecDepth 100000
set_option maxHeartbeats 8000000 in
theorem act_ren {w0 : World} {d m i : Nat} (a : Acd) (hk : a.k = 3) (hs : a.s.size + a.t.size ≤ 400) (hn : a.n < 9223372036854775808) (hi : i ≤ 1000) (w : World) (h : Dz w0 d m i w) :
    Calls Try.prog 17 #[PT d 0, PT m 0, a.v] w fun e w' => e = .returned (.bool true) ∧ Dz w0 d m (i + 1) w' := by
  obtain ⟨k, s, t, q, n, kp, kn, kc⟩ := a
  dsimp only at hk hs hn
  subst hk
  obtain ⟨A, X, rfl, hd, hrn⟩ := h
  show Calls Try.prog 17 #[PT d 0, PT X.m 0, .agg #[.int .u8 3, .string s, .string t, .slice q.p q.n q.cp, .int .i64 n, .slice kp kn kc]] w _
  have H0 : Hid _ := hd.da.b.size
  have HRN : Hid _ := hrn
  obtain ⟨w1, hw1⟩ : ∃ w1, (w.alloc (.cells #[.int .u8 3, .string s, .string t, .slice q.p q.n q.cp, .int .i64 n, .slice kp kn kc] 37)) = w1 := ⟨_, rfl⟩
  have hb1 : Below w.heap.size w w1 := by rw [← hw1]; exact (Below.refl _ _).alloc (Nat.le_refl _) _
  have hs1 : w.heap.size < w1.heap.size := by rw [← hw1]; simp
  have HB1 : Hid (∀ i, w1.cell? ⟨w.heap.size, i, none⟩ = (#[.int .u8 3, .string s, .string t, .slice q.p q.n q.cp, .int .i64 n, .slice kp kn kc] : Array Value)[i]?) := fun i => by rw [← hw1]; exact box_at ..
  have b0 : w1.cell? ⟨w.heap.size, 0, none⟩ = some (.int .u8 3) := HB1.out 0
  have HBB : Hid _ := hb1
  have HSS : Hid _ := hs1
  have HD : Hid _ := hd.more hb1 (M := [w.heap.size]) fun x hx => by rw [List.mem_singleton.1 hx]; exact ⟨Nat.le_refl _, hs1⟩
  clear hb1 hs1 hd hrn
  go_enter Try.func17, Try.ntmps17
  have hd2 := HD.out.step (bdr w1)
  obtain ⟨A', hA'⟩ : ∃ A', (A.rn s t).2 = A' := ⟨_, rfl⟩
  obtain ⟨r, hr⟩ : ∃ r, (A.rn s t).1 = r := ⟨_, rfl⟩
  have hrl := hd2.rl.ren s t
  rw [hA', hr] at hrl
  have HD2 : Hid _ := hd2
  have HRL : Hid _ := hrl
  have HA : Hid _ := hA'
  have HR : Hid _ := hr
  have HCE : Hid (∀ u, Kx (X.bl ++ ([w.heap.size] ++ [])) w1.drew u → ∀ i, u.cell? ⟨w.heap.size, i, none⟩ = (#[.int .u8 3, .string s, .string t, .slice q.p q.n q.cp, .int .i64 n, .slice kp kn kc] : Array Value)[i]?) := fun u hu i => (World.cell?_of_block (a := ⟨w.heap.size, i, none⟩) (hu.2 _ (List.mem_append_right _ (List.mem_append_left _ (List.mem_singleton.2 rfl))))).trans (HB1.out i)
  clear hd2 hrl hA' hr
  go_wp2
  refine walk_det (by kernel_rfl) 13 [PT d 0, PT w.heap.size 1, .string s, PT w.heap.size 2, .string t, .int .i64 r, PT X.m 0, PT w.heap.size 1, .string s, PT w.heap.size 2, .string t, .int .i64 r, .bool true] [none, none, none, none, none, some 0, none, none, none, none, none, some 1, none] [5, 11]
    (fun c u => (∀ i, u.cell? ⟨w.heap.size, i, none⟩ = (#[.int .u8 3, .string s, .string t, .slice q.p q.n q.cp, .int .i64 n, .slice kp kn kc] : Array Value)[i]?) ∧ match c with | 0 => u = w1.drew | 1 => Da w0 d A' (X.bl ++ ([w.heap.size] ++ [])) u ∧ Kx (X.bl ++ ([w.heap.size] ++ [])) w1.drew u | _ => ∃ X', X'.m = X.m ∧ Dd w0 d (i + 1) A' X' ([w.heap.size] ++ []) u ∧ Rn X'.rd) ?prez ?Fz ?hprez ?hFz (by kernel_rfl) ?hWz ⟨HB1.out, rfl⟩ ?hopz ?hez
  case hprez => simp only [tk, tz]; rfl
  case hFz => simp only [List.map_cons, List.map_nil, fill, Kind.val, Act.put, sa, sz, ss]; rfl
  case hWz => kernel_rfl
  case hopz =>
    refine ⟨fun c _ u _ => rfl, fun c _ u _ => ?_, fun c _ u hu => ?_, fun c _ u _ => ?_, fun c _ u hu => ?_, fun u hu => .inr ⟨22, #[PT d 0, .string s, .string t], exec_call rfl (fun _ _ => rfl) rfl (by simp only [List.map_toArray, List.map_cons, List.map_nil]; rfl), ?_⟩, fun c _ u _ => rfl, fun c _ u _ => ?_, fun c _ u hu => ?_, fun c _ u _ => ?_, fun c _ u hu => ?_, fun u hu => .inr ⟨56, #[PT X.m 0, .string s, .string t], exec_call rfl (fun _ _ => rfl) rfl (by simp only [List.map_toArray, List.map_cons, List.map_nil]; rfl), ?_⟩, fun c _ u _ => ?_, trivial⟩
    · go_simp
    · have h1 : u.cell? ⟨w.heap.size, 1, none⟩ = some (.string s) := hu.1 1
      clear hu
      go_simp
    · go_simp
    · have h1 : u.cell? ⟨w.heap.size, 2, none⟩ = some (.string t) := hu.1 2
      clear hu
      go_simp
    · obtain ⟨-, rfl⟩ := hu
      refine Calls.mono (rn_a HD2.out.da (by have := HD2.out.k; omega) s t (by omega) (by omega)) ?_
      rintro e u2 ⟨rfl, h1, h2⟩
      rw [HA.out] at h1
      exact ⟨by rw [HR.out], HCE.out u2 h2, h1, h2⟩
    · go_simp
    · have h1 : u.cell? ⟨w.heap.size, 1, none⟩ = some (.string s) := hu.1 1
      clear hu
      go_simp
    · go_simp
    · have h1 : u.cell? ⟨w.heap.size, 2, none⟩ = some (.string t) := hu.1 2
      clear hu
      go_simp
    · obtain ⟨hce, h1, h2⟩ := hu
      refine Calls.mono (rren_any s (by omega) t (by omega) (by omega) HD2.out.ok (by have := HD2.out.n; omega) u (HD2.out.dx.kx (h2.sub fun x hx => List.mem_append_left _ hx)) (Nat.le_trans H0.out (Nat.le_trans HBB.out.size h2.1))) ?_
      rintro e u2 ⟨rfl, h3⟩
      obtain ⟨X', hm, hn2, hdd, hke, hrd⟩ := HD2.out.both h1 h2 h3 HRL.out.2 (HD2.out.ok.ren s t)
      refine ⟨by rw [HRL.out.1], fun i => ?_, X', hm, hdd, by rw [hrd]; exact Rn.ren HRN.out s t⟩
      exact (World.cell?_of_block (a := ⟨w.heap.size, i, none⟩) (hke.2 _ (List.mem_append_left _ (List.mem_singleton.2 rfl)))).trans (HB1.out i)
    · go_simp
  rintro u ⟨hce, X', hm, hdd, hrn2⟩
  have HDD : Hid _ := hdd
  have HR2 : Hid _ := hrn2
  have hb1 : u.cell? ⟨w.heap.size, 1, none⟩ = some (.string s) := hce 1
  have HC1 : Hid _ := hb1
  have HBL : Hid (w.heap.size < u.heap.size) := hdd.e2 _ (List.mem_append_left _ (List.mem_singleton.2 rfl))
  have HM4 : Hid _ := hm
  clear hce hdd hrn2 hb1 hm
  refine rest_set (d := 7) (v := .bool true) (w' := u) rfl rfl rfl (rfl) ?_
  simp only [Act.put, sa, sz, ss]
  refine rest_nil ?_
  go_wp2_with (first
    | (go_at_call 26; refine Calls.mono (names_dd HDD.out HR2.out) ?_; rintro e w2 ⟨v2, rfl, h2, h3, h4⟩; have H2 : Hid _ := h2; have H3 : Hid _ := h3; have H4 : Hid _ := h4; clear h2 h3 h4)
    | fail)
  rw [← HM4.out]
  refine act_r32 (s := s) (HDD.out.step H4.out) (by omega) (by omega) H2.out ((H4.out.cell (p := ⟨w.heap.size, 1, none⟩) HBL.out).trans HC1.out) (Nat.lt_of_lt_of_le HBL.out H4.out.size) fun ε u3 h5 => ?_
  have H5 : Hid _ := h5
  clear h5
  go_wp2_with (first
    | (go_at_call 63; refine Calls.mono (over_rowS (own_keep H2.out fun b hm => H5.out.block b (own_lt H2.out b hm)) (Rmt.keep H3.out fun b hm => H5.out.block b (own_lt H2.out b hm))) ?_; rintro e u4 ⟨rfl, h6⟩; have H6 : Hid _ := h6; clear h6)
    | fail)
  go_ret
  exact ⟨rfl, Dz.fin HDD.out HM4.out HR2.out H2.out H4.out H5.out H6.out⟩
end Wi
end Rg
end Go.Proofs.Ytidicdlfjdlpnaa
end
section
namespace Go.Proofs.Ytidicdlfjdlpnaa
open Go.RowKit
namespace Rg
namespace Wi
set_option maxRecDepth 100000
set_option maxHeartbeats 8000000 in
theorem act_rem {w0 : World} {d m i : Nat} (a : Acd) (hk : a.k = 4) (hs : a.s.size + a.t.size ≤ 400) (hn : a.n < 9223372036854775808) (hi : i ≤ 1000) (w : World) (h : Dz w0 d m i w) :
    Calls Try.prog 17 #[PT d 0, PT m 0, a.v] w fun e w' => e = .returned (.bool true) ∧ Dz w0 d m (i + 1) w' := by
  obtain ⟨k, s, t, q, n, kp, kn, kc⟩ := a
  dsimp only at hk hs hn
  subst hk
  obtain ⟨A, X, rfl, hd, hrn⟩ := h
  show Calls Try.prog 17 #[PT d 0, PT X.m 0, .agg #[.int .u8 4, .string s, .string t, .slice q.p q.n q.cp, .int .i64 n, .slice kp kn kc]] w _
  have H0 : Hid _ := hd.da.b.size
  have HRN : Hid _ := hrn
  obtain ⟨w1, hw1⟩ : ∃ w1, (w.alloc (.cells #[.int .u8 4, .string s, .string t, .slice q.p q.n q.cp, .int .i64 n, .slice kp kn kc] 37)) = w1 := ⟨_, rfl⟩
  have hb1 : Below w.heap.size w w1 := by rw [← hw1]; exact (Below.refl _ _).alloc (Nat.le_refl _) _
  have hs1 : w.heap.size < w1.heap.size := by rw [← hw1]; simp
  have HB1 : Hid (∀ i, w1.cell? ⟨w.heap.size, i, none⟩ = (#[.int .u8 4, .string s, .string t, .slice q.p q.n q.cp, .int .i64 n, .slice kp kn kc] : Array Value)[i]?) := fun i => by rw [← hw1]; exact box_at ..
  have b0 : w1.cell? ⟨w.heap.size, 0, none⟩ = some (.int .u8 4) := HB1.out 0
  have HBB : Hid _ := hb1
  have HSS : Hid _ := hs1
  have HD : Hid _ := hd.more hb1 (M := [w.heap.size]) fun x hx => by rw [List.mem_singleton.1 hx]; exact ⟨Nat.le_refl _, hs1⟩
  clear hb1 hs1 hd hrn
  go_enter Try.func17, Try.ntmps17
  have hd2 := HD.out.step (bdr w1)
  obtain ⟨A', hA'⟩ : ∃ A', (A.rm s).2 = A' := ⟨_, rfl⟩
  obtain ⟨r, hr⟩ : ∃ r, (A.rm s).1 = r := ⟨_, rfl⟩
  have hrl := hd2.rl.rem s
  rw [hA', hr] at hrl
  have HD2 : Hid _ := hd2
  have HRL : Hid _ := hrl
  have HA : Hid _ := hA'
  have HR : Hid _ := hr
  have HCE : Hid (∀ u, Kx (X.bl ++ ([w.heap.size] ++ [])) w1.drew u → ∀ i, u.cell? ⟨w.heap.size, i, none⟩ = (#[.int .u8 4, .string s, .string t, .slice q.p q.n q.cp, .int .i64 n, .slice kp kn kc] : Array Value)[i]?) := fun u hu i => (World.cell?_of_block (a := ⟨w.heap.size, i, none⟩) (hu.2 _ (List.mem_append_right _ (List.mem_append_left _ (List.mem_singleton.2 rfl))))).trans (HB1.out i)
  clear hd2 hrl hA' hr
  go_wp2
  refine walk_det (by kernel_rfl) 9 [PT d 0, PT w.heap.size 1, .string s, .int .i64 r, PT X.m 0, PT w.heap.size 1, .string s, .int .i64 r, .bool true] [none, none, none, some 0, none, none, none, some 1, none] [3, 7]
    (fun c u => (∀ i, u.cell? ⟨w.heap.size, i, none⟩ = (#[.int .u8 4, .string s, .string t, .slice q.p q.n q.cp, .int .i64 n, .slice kp kn kc] : Array Value)[i]?) ∧ match c with | 0 => u = w1.drew | 1 => Da w0 d A' (X.bl ++ ([w.heap.size] ++ [])) u ∧ Kx (X.bl ++ ([w.heap.size] ++ [])) w1.drew u | _ => ∃ X', X'.m = X.m ∧ Dd w0 d (i + 1) A' X' ([w.heap.size] ++ []) u ∧ Rn X'.rd) ?prez ?Fz ?hprez ?hFz (by kernel_rfl) ?hWz ⟨HB1.out, rfl⟩ ?hopz ?hez
  case hprez => simp only [tk, tz]; rfl
  case hFz => simp only [List.map_cons, List.map_nil, fill, Kind.val, Act.put, sa, sz, ss]; rfl
  case hWz => kernel_rfl
  case hopz =>
    refine ⟨fun c _ u _ => rfl, fun c _ u _ => ?_, fun c _ u hu => ?_, fun u hu => .inr ⟨23, #[PT d 0, .string s], exec_call rfl (fun _ _ => rfl) rfl (by simp only [List.map_toArray, List.map_cons, List.map_nil]; rfl), ?_⟩, fun c _ u _ => rfl, fun c _ u _ => ?_, fun c _ u hu => ?_, fun u hu => .inr ⟨57, #[PT X.m 0, .string s], exec_call rfl (fun _ _ => rfl) rfl (by simp only [List.map_toArray, List.map_cons, List.map_nil]; rfl), ?_⟩, fun c _ u _ => ?_, trivial⟩
    · go_simp
    · have h1 : u.cell? ⟨w.heap.size, 1, none⟩ = some (.string s) := hu.1 1
      clear hu
      go_simp
    · obtain ⟨-, rfl⟩ := hu
      refine Calls.mono (rem_a HD2.out.da (by have := HD2.out.k; omega) s (by omega)) ?_
      rintro e u2 ⟨rfl, h1, h2⟩
      rw [HA.out] at h1
      exact ⟨by rw [HR.out], HCE.out u2 h2, h1, h2⟩
    · go_simp
    · have h1 : u.cell? ⟨w.heap.size, 1, none⟩ = some (.string s) := hu.1 1
      clear hu
      go_simp
    · obtain ⟨hce, h1, h2⟩ := hu
      refine Calls.mono (rrem_any s (by omega) (by omega) HD2.out.ok (by have := HD2.out.n; omega) u (HD2.out.dx.kx (h2.sub fun x hx => List.mem_append_left _ hx)) (Nat.le_trans H0.out (Nat.le_trans HBB.out.size h2.1))) ?_
      rintro e u2 ⟨rfl, h3⟩
      obtain ⟨X', hm, hn2, hdd, hke, hrd⟩ := HD2.out.both h1 h2 h3 HRL.out.2 (HD2.out.ok.rem s)
      refine ⟨by rw [HRL.out.1], fun i => ?_, X', hm, hdd, by rw [hrd]; exact Rn.rem HRN.out s⟩
      exact (World.cell?_of_block (a := ⟨w.heap.size, i, none⟩) (hke.2 _ (List.mem_append_left _ (List.mem_singleton.2 rfl)))).trans (HB1.out i)
    · go_simp
  rintro u ⟨hce, X', hm, hdd, hrn2⟩
  have HDD : Hid _ := hdd
  have HR2 : Hid _ := hrn2
  have hb1 : u.cell? ⟨w.heap.size, 1, none⟩ = some (.string s) := hce 1
  have HC1 : Hid _ := hb1
  have HBL : Hid (w.heap.size < u.heap.size) := hdd.e2 _ (List.mem_append_left _ (List.mem_singleton.2 rfl))
  have HM4 : Hid _ := hm
  clear hce hdd hrn2 hb1 hm
  refine rest_set (d := 7) (v := .bool true) (w' := u) rfl rfl rfl (rfl) ?_
  simp only [Act.put, sa, sz, ss]
  refine rest_nil ?_
  go_wp2_with (first
    | (go_at_call 26; refine Calls.mono (names_dd HDD.out HR2.out) ?_; rintro e w2 ⟨v2, rfl, h2, h3, h4⟩; have H2 : Hid _ := h2; have H3 : Hid _ := h3; have H4 : Hid _ := h4; clear h2 h3 h4)
    | fail)
  rw [← HM4.out]
  refine act_r32 (s := s) (HDD.out.step H4.out) (by omega) (by omega) H2.out ((H4.out.cell (p := ⟨w.heap.size, 1, none⟩) HBL.out).trans HC1.out) (Nat.lt_of_lt_of_le HBL.out H4.out.size) fun ε u3 h5 => ?_
  have H5 : Hid _ := h5
  clear h5
  go_wp2_with (first
    | (go_at_call 63; refine Calls.mono (over_rowS (own_keep H2.out fun b hm => H5.out.block b (own_lt H2.out b hm)) (Rmt.keep H3.out fun b hm => H5.out.block b (own_lt H2.out b hm))) ?_; rintro e u4 ⟨rfl, h6⟩; have H6 : Hid _ := h6; clear h6)
    | fail)
  go_ret
  exact ⟨rfl, Dz.fin HDD.out HM4.out HR2.out H2.out H4.out H5.out H6.out⟩
end Wi
end Rg
end Go.Proofs.Ytidicdlfjdlpnaa
end
section
namespace Go.Proofs.Ytidicdlfjdlpnaa
open Go.RowKit
namespace Rg
namespace Wi
set_option maxRecDepth 100000
set_option maxHeartbeats 8000000 in
theorem act_spo {w0 : World} {d m i : Nat} (a : Acd) (hk : a.k = 7) (hs : a.s.size + a.t.size ≤ 400) (hn : a.n < 9223372036854775808) (hi : i ≤ 1000) (w : World) (h : Dz w0 d m i w) :
    Calls Try.prog 17 #[PT d 0, PT m 0, a.v] w fun e w' => e = .returned (.bool true) ∧ Dz w0 d m (i + 1) w' := by
  obtain ⟨k, s, t, q, n, kp, kn, kc⟩ := a
  dsimp only at hk hs hn
  subst hk
  obtain ⟨A, X, rfl, hd, hrn⟩ := h
  show Calls Try.prog 17 #[PT d 0, PT X.m 0, .agg #[.int .u8 7, .string s, .string t, .slice q.p q.n q.cp, .int .i64 n, .slice kp kn kc]] w _
  have H0 : Hid _ := hd.da.b.size
  have HRN : Hid _ := hrn
  obtain ⟨w1, hw1⟩ : ∃ w1, (w.alloc (.cells #[.int .u8 7, .string s, .string t, .slice q.p q.n q.cp, .int .i64 n, .slice kp kn kc] 37)) = w1 := ⟨_, rfl⟩
  have hb1 : Below w.heap.size w w1 := by rw [← hw1]; exact (Below.refl _ _).alloc (Nat.le_refl _) _
  have hs1 : w.heap.size < w1.heap.size := by rw [← hw1]; simp
  have HB1 : Hid (∀ i, w1.cell? ⟨w.heap.size, i, none⟩ = (#[.int .u8 7, .string s, .string t, .slice q.p q.n q.cp, .int .i64 n, .slice kp kn kc] : Array Value)[i]?) := fun i => by rw [← hw1]; exact box_at ..
  have b0 : w1.cell? ⟨w.heap.size, 0, none⟩ = some (.int .u8 7) := HB1.out 0
  have HBB : Hid _ := hb1
  have HSS : Hid _ := hs1
  have HD : Hid _ := hd.more hb1 (M := [w.heap.size]) fun x hx => by rw [List.mem_singleton.1 hx]; exact ⟨Nat.le_refl _, hs1⟩
  clear hb1 hs1 hd hrn
  go_enter Try.func17, Try.ntmps17
  have hd2 := HD.out.step (bdr w1)
  obtain ⟨A', hA'⟩ : ∃ A', (A.spo s n).2 = A' := ⟨_, rfl⟩
  obtain ⟨r, hr⟩ : ∃ r, (A.spo s n).1 = r := ⟨_, rfl⟩
  have hrl := hd2.rl.spo s n
  rw [hA', hr] at hrl
  have HD2 : Hid _ := hd2
  have HRL : Hid _ := hrl
  have HA : Hid _ := hA'
  have HR : Hid _ := hr
  have HCE : Hid (∀ u, Kx (X.bl ++ ([w.heap.size] ++ [])) w1.drew u → ∀ i, u.cell? ⟨w.heap.size, i, none⟩ = (#[.int .u8 7, .string s, .string t, .slice q.p q.n q.cp, .int .i64 n, .slice kp kn kc] : Array Value)[i]?) := fun u hu i => (World.cell?_of_block (a := ⟨w.heap.size, i, none⟩) (hu.2 _ (List.mem_append_right _ (List.mem_append_left _ (List.mem_singleton.2 rfl))))).trans (HB1.out i)
  clear hd2 hrl hA' hr
  go_wp2
  refine walk_det (by kernel_rfl) 13 [PT d 0, PT w.heap.size 1, .string s, PT w.heap.size 4, .int .i64 n, .int .i64 r, PT X.m 0, PT w.heap.size 1, .string s, PT w.heap.size 4, .int .i64 n, .int .i64 r, .bool true] [none, none, none, none, none, some 0, none, none, none, none, none, some 1, none] [5, 11]
    (fun c u => (∀ i, u.cell? ⟨w.heap.size, i, none⟩ = (#[.int .u8 7, .string s, .string t, .slice q.p q.n q.cp, .int .i64 n, .slice kp kn kc] : Array Value)[i]?) ∧ match c with | 0 => u = w1.drew | 1 => Da w0 d A' (X.bl ++ ([w.heap.size] ++ [])) u ∧ Kx (X.bl ++ ([w.heap.size] ++ [])) w1.drew u | _ => ∃ X', X'.m = X.m ∧ Dd w0 d (i + 1) A' X' ([w.heap.size] ++ []) u ∧ Rn X'.rd) ?prez ?Fz ?hprez ?hFz (by kernel_rfl) ?hWz ⟨HB1.out, rfl⟩ ?hopz ?hez
  case hprez => simp only [tk, tz]; rfl
  case hFz => simp only [List.map_cons, List.map_nil, fill, Kind.val, Act.put, sa, sz, ss]; rfl
  case hWz => kernel_rfl
  case hopz =>
    refine ⟨fun c _ u _ => rfl, fun c _ u _ => ?_, fun c _ u hu => ?_, fun c _ u _ => ?_, fun c _ u hu => ?_, fun u hu => .inr ⟨25, #[PT d 0, .string s, .int .i64 n], exec_call rfl (fun _ _ => rfl) rfl (by simp only [List.map_toArray, List.map_cons, List.map_nil]; rfl), ?_⟩, fun c _ u _ => rfl, fun c _ u _ => ?_, fun c _ u hu => ?_, fun c _ u _ => ?_, fun c _ u hu => ?_, fun u hu => .inr ⟨60, #[PT X.m 0, .string s, .int .i64 n], exec_call rfl (fun _ _ => rfl) rfl (by simp only [List.map_toArray, List.map_cons, List.map_nil]; rfl), ?_⟩, fun c _ u _ => ?_, trivial⟩
    · go_simp
    · have h1 : u.cell? ⟨w.heap.size, 1, none⟩ = some (.string s) := hu.1 1
      clear hu
      go_simp
    · go_simp
    · have h1 : u.cell? ⟨w.heap.size, 4, none⟩ = some (.int .i64 n) := hu.1 4
      clear hu
      go_simp
    · obtain ⟨-, rfl⟩ := hu
      refine Calls.mono (spo_a HD2.out.da s (by omega) n hn) ?_
      rintro e u2 ⟨rfl, h1, h2⟩
      rw [HA.out] at h1
      exact ⟨by rw [HR.out], HCE.out u2 h2, h1, h2⟩
    · go_simp
    · have h1 : u.cell? ⟨w.heap.size, 1, none⟩ = some (.string s) := hu.1 1
      clear hu
      go_simp
    · go_simp
    · have h1 : u.cell? ⟨w.heap.size, 4, none⟩ = some (.int .i64 n) := hu.1 4
      clear hu
      go_simp
    · obtain ⟨hce, h1, h2⟩ := hu
      refine Calls.mono (rspo_any s n hn (by omega) HD2.out.ok u (HD2.out.dx.kx (h2.sub fun x hx => List.mem_append_left _ hx)) (Nat.le_trans H0.out (Nat.le_trans HBB.out.size h2.1))) ?_
      rintro e u2 ⟨rfl, h3⟩
      obtain ⟨X', hm, hn2, hdd, hke, hrd⟩ := HD2.out.both h1 h2 h3 HRL.out.2 (HD2.out.ok.spo s n)
      refine ⟨by rw [HRL.out.1], fun i => ?_, X', hm, hdd, by rw [hrd]; exact Rn.spo HRN.out s n⟩
      exact (World.cell?_of_block (a := ⟨w.heap.size, i, none⟩) (hke.2 _ (List.mem_append_left _ (List.mem_singleton.2 rfl)))).trans (HB1.out i)
    · go_simp
  rintro u ⟨hce, X', hm, hdd, hrn2⟩
  have HDD : Hid _ := hdd
  have HR2 : Hid _ := hrn2
  have hb1 : u.cell? ⟨w.heap.size, 1, none⟩ = some (.string s) := hce 1
  have HC1 : Hid _ := hb1
  have HBL : Hid (w.heap.size < u.heap.size) := hdd.e2 _ (List.mem_append_left _ (List.mem_singleton.2 rfl))
  have HM4 : Hid _ := hm
  clear hce hdd hrn2 hb1 hm
  refine rest_set (d := 7) (v := .bool true) (w' := u) rfl rfl rfl (rfl) ?_
  simp only [Act.put, sa, sz, ss]
  refine rest_nil ?_
  go_wp2_with (first
    | (go_at_call 26; refine Calls.mono (names_dd HDD.out HR2.out) ?_; rintro e w2 ⟨v2, rfl, h2, h3, h4⟩; have H2 : Hid _ := h2; have H3 : Hid _ := h3; have H4 : Hid _ := h4; clear h2 h3 h4)
    | fail)
  rw [← HM4.out]
  refine act_r32 (s := s) (HDD.out.step H4.out) (by omega) (by omega) H2.out ((H4.out.cell (p := ⟨w.heap.size, 1, none⟩) HBL.out).trans HC1.out) (Nat.lt_of_lt_of_le HBL.out H4.out.size) fun ε u3 h5 => ?_
  have H5 : Hid _ := h5
  clear h5
  go_wp2_with (first
    | (go_at_call 63; refine Calls.mono (over_rowS (own_keep H2.out fun b hm => H5.out.block b (own_lt H2.out b hm)) (Rmt.keep H3.out fun b hm => H5.out.block b (own_lt H2.out b hm))) ?_; rintro e u4 ⟨rfl, h6⟩; have H6 : Hid _ := h6; clear h6)
    | fail)
  go_ret
  exact ⟨rfl, Dz.fin HDD.out HM4.out HR2.out H2.out H4.out H5.out H6.out⟩
end Wi
end Rg
end Go.Proofs.Ytidicdlfjdlpnaa
end
section
namespace Go.Proofs.Ytidicdlfjdlpnaa
open Go.RowKit
namespace Rg
namespace Wi
set_option maxRecDepth 100000
theorem bdn {B : Nat} {a w : World} (h : Below B a w) (n : Nat) : Below B a (w.drewN n) := h.trans ⟨rfl, rfl, rfl, Nat.le_refl _, fun _ _ => rfl⟩
/-- Acts handed in. -/
structure Acs (w0 : World) (pl : Option Addr) (m : Nat) (b off : Nat) (ys : Nat → Acd) : Prop where
  p : 0 < m → pl = some ⟨b, off, none⟩ ∧ b < w0.heap.size
  c : ∀ i, i < m → ∀ j, j < 6 → w0.cell? ⟨b, off + i * 6 + j, none⟩ = (ys i).c[j]?
  s : ∀ i, i < m → (ys i).s.size ≤ 140737488351232 ∧ (ys i).t.size ≤ 140737488351232
/-- What Long lets through. -/
def Lgq (a : Acd) : Prop := (a.q.n ≤ 3000 ∨ 1048576 < a.q.n) ∧ a.q.n ≤ 1048585 ∧ a.kn ≤ 40 ∧ a.s.size + a.t.size ≤ 400
def Lgd (m : Nat) (ys : Nat → Acd) : Prop := m ≤ 70 ∧ ∀ i, i < m → Lgq (ys i)
set_option maxHeartbeats 8000000 in
theorem long_any {w0 : World} {pl : Option Addr} {m c b off : Nat} {ys : Nat → Acd} (h : Acs w0 pl m b off ys) (hm : m ≤ 9223372036854775807) (w : World) (hb : Below w0.heap.size w0 w) :
    Calls Try.prog 13 #[.slice pl m c] w fun e w' => ∃ r, e = .returned (.bool r) ∧ Below w.heap.size w w' ∧ (r = false → Lgd m ys) ∧ (r = true → ¬Lgd m ys) := by
  have H : Hid _ := h
  have HB : Hid _ := hb
  clear h hb
  go_enter Try.func13, Try.ntmps13
  go_wp2
  go_loopw [3] (fun v wr => ∃ i : Nat, v = .int .i64 (i : Int) ∧ i ≤ m ∧ Hid (Below w.heap.size w wr ∧ ∀ j, j < i → Lgq (ys j)))
    (fun v _ => m - (RowKit.intOf v).toNat)
  case atStart => exact ⟨0, rfl, Nat.zero_le _, Below.refl _ _, fun j hj => absurd hj (Nat.not_lt_zero _)⟩
  case round =>
    obtain ⟨i, rfl, hi, hC⟩ := hrel
    obtain ⟨W, rfl⟩ : ∃ W, W = wr := ⟨wr, rfl⟩
    by_cases hlt : i < m
    · obtain ⟨rfl, hbl⟩ := H.out.p (by omega)
      obtain ⟨ks, kt⟩ := H.out.s i hlt
      obtain ⟨a, ha⟩ : ∃ a, ys i = a := ⟨_, rfl⟩
      have hcell : ∀ j, j < 6 → W.cell? ⟨b, off + i * 6 + j, none⟩ = a.c[j]? := fun j hj => by
        rw [← ha]
        exact ((HB.out.trans (hC.out.1.mono HB.out.size)).cell (p := ⟨b, off + i * 6 + j, none⟩) hbl).trans (H.out.c i hlt j hj)
      have HA : Hid _ := ha
      rw [ha] at ks kt
      clear ha
      obtain ⟨k, s, t, q, n, kp, kn, kc⟩ := a
      dsimp only at ks kt
      have c1 : W.cell? ⟨b, off + i * 6 + 1, none⟩ = some (.string s) := hcell 1 (by decide)
      have c2 : W.cell? ⟨b, off + i * 6 + 2, none⟩ = some (.string t) := hcell 2 (by decide)
      have c3 : W.cell? ⟨b, off + i * 6 + 3, none⟩ = some (.slice q.p q.n q.cp) := hcell 3 (by decide)
      have c5 : W.cell? ⟨b, off + i * 6 + 5, none⟩ = some (.slice kp kn kc) := hcell 5 (by decide)
      clear hcell
      have HST : Hid (Below w.heap.size w W) := hC.out.1
      have HAL : Hid (∀ j, j < i → Lgq (ys j)) := hC.out.2
      clear hC
      obtain ⟨ls, hls⟩ : ∃ ls, s.size = ls := ⟨_, rfl⟩
      obtain ⟨lt, hlt2⟩ : ∃ lt, t.size = lt := ⟨_, rfl⟩
      have HLS : Hid _ := hls
      have HLT : Hid _ := hlt2
      by_cases a1 : 3000 < q.n
      · have d1 : decide ((3000 : Int) < (q.n : Int)) = true := by rw [decide_eq_true_eq]; omega
        by_cases a2 : q.n ≤ 1048576
        · have d2 : decide ((q.n : Int) ≤ 1048576) = true := by rw [decide_eq_true_eq]; omega
          go_wp2
          go_quiet (fail)
          go_wp2
          go_ret
          exact ⟨true, rfl, bdn HST.out _, fun e => (by cases e), fun _ hg => by
            have hg2 := hg.2 i hlt
            rw [HA.out] at hg2
            obtain ⟨g1, g2, g3, g4⟩ := hg2
            dsimp only at g1 g2 g3 g4
            omega⟩
        · have d2 : decide ((q.n : Int) ≤ 1048576) = false := by rw [decide_eq_false_iff_not]; omega
          by_cases a3 : 1048585 < q.n
          · have d3 : decide ((1048585 : Int) < (q.n : Int)) = true := by rw [decide_eq_true_eq]; omega
            go_wp2
            go_quiet (fail)
            go_wp2
            go_ret
            exact ⟨true, rfl, bdn HST.out _, fun e => (by cases e), fun _ hg => by
              have hg2 := hg.2 i hlt
              rw [HA.out] at hg2
              obtain ⟨g1, g2, g3, g4⟩ := hg2
              dsimp only at g1 g2 g3 g4
              omega⟩
          · have d3 : decide ((1048585 : Int) < (q.n : Int)) = false := by rw [decide_eq_false_iff_not]; omega
            by_cases a4 : 40 < kn
            · have d4 : decide ((40 : Int) < (kn : Int)) = true := by rw [decide_eq_true_eq]; omega
              go_wp2
              go_quiet (fail)
              go_wp2
              go_ret
              exact ⟨true, rfl, bdn HST.out _, fun e => (by cases e), fun _ hg => by
                have hg2 := hg.2 i hlt
                rw [HA.out] at hg2
                obtain ⟨g1, g2, g3, g4⟩ := hg2
                dsimp only at g1 g2 g3 g4
                omega⟩
            · have d4 : decide ((40 : Int) < (kn : Int)) = false := by rw [decide_eq_false_iff_not]; omega
              by_cases a5 : 400 < s.size + t.size
              · have d5 : decide ((400 : Int) < (s.size : Int) + (t.size : Int)) = true := by rw [decide_eq_true_eq]; omega
                go_wp2
                go_quiet (fail)
                go_wp2
                go_ret
                exact ⟨true, rfl, bdn HST.out _, fun e => (by cases e), fun _ hg => by
                  have hg2 := hg.2 i hlt
                  rw [HA.out] at hg2
                  obtain ⟨g1, g2, g3, g4⟩ := hg2
                  dsimp only at g1 g2 g3 g4
                  omega⟩
              · have d5 : decide ((400 : Int) < (s.size : Int) + (t.size : Int)) = false := by rw [decide_eq_false_iff_not]; omega
                go_wp2
                go_quiet (fail)
                go_wp2
                go_roundw
                case rel => exact ⟨i + 1, by simp, by omega, bdn HST.out _, fun j hj => by
                  rcases Nat.lt_or_ge j i with e | e
                  · exact HAL.out j e
                  · obtain rfl : j = i := by omega
                    rw [HA.out]
                    exact ⟨by dsimp only; omega, by dsimp only; omega, by dsimp only; omega, by dsimp only; omega⟩⟩
                case measure => simp [RowKit.intOf]; omega
      · have d1 : decide ((3000 : Int) < (q.n : Int)) = false := by rw [decide_eq_false_iff_not]; omega
        have d3 : decide ((1048585 : Int) < (q.n : Int)) = false := by rw [decide_eq_false_iff_not]; omega
        by_cases a4 : 40 < kn
        · have d4 : decide ((40 : Int) < (kn : Int)) = true := by rw [decide_eq_true_eq]; omega
          go_wp2
          go_quiet (fail)
          go_wp2
          go_ret
          exact ⟨true, rfl, bdn HST.out _, fun e => (by cases e), fun _ hg => by
            have hg2 := hg.2 i hlt
            rw [HA.out] at hg2
            obtain ⟨g1, g2, g3, g4⟩ := hg2
            dsimp only at g1 g2 g3 g4
            omega⟩
        · have d4 : decide ((40 : Int) < (kn : Int)) = false := by rw [decide_eq_false_iff_not]; omega
          by_cases a5 : 400 < s.size + t.size
          · have d5 : decide ((400 : Int) < (s.size : Int) + (t.size : Int)) = true := by rw [decide_eq_true_eq]; omega
            go_wp2
            go_quiet (fail)
            go_wp2
            go_ret
            exact ⟨true, rfl, bdn HST.out _, fun e => (by cases e), fun _ hg => by
              have hg2 := hg.2 i hlt
              rw [HA.out] at hg2
              obtain ⟨g1, g2, g3, g4⟩ := hg2
              dsimp only at g1 g2 g3 g4
              omega⟩
          · have d5 : decide ((400 : Int) < (s.size : Int) + (t.size : Int)) = false := by rw [decide_eq_false_iff_not]; omega
            go_wp2
            go_quiet (fail)
            go_wp2
            go_roundw
            case rel => exact ⟨i + 1, by simp, by omega, bdn HST.out _, fun j hj => by
              rcases Nat.lt_or_ge j i with e | e
              · exact HAL.out j e
              · obtain rfl : j = i := by omega
                rw [HA.out]
                exact ⟨by dsimp only; omega, by dsimp only; omega, by dsimp only; omega, by dsimp only; omega⟩⟩
            case measure => simp [RowKit.intOf]; omega
    · obtain rfl : i = m := by omega
      have HST : Hid (Below w.heap.size w W) := hC.out.1
      have HAL : Hid (∀ j, j < i → Lgq (ys j)) := hC.out.2
      clear hC
      go_wp2
      go_ret
      exact ⟨_, rfl, HST.out, fun e => ⟨by have := of_decide_eq_false e; omega, HAL.out⟩, fun e hg => by have := of_decide_eq_true e; have := hg.1; omega⟩
end Wi
end Rg
end Go.Proofs.Ytidicdlfjdlpnaa
end
section
namespace Go.Proofs.Ytidicdlfjdlpnaa
open Go.RowKit
namespace Rg
namespace Wi
set_option maxRecDepth 100000
/-- The law's act, whatever its kind. -/
theorem act_any {w0 : World} {d m i : Nat} (a : Acd) (hk : a.k < 256) (hn : a.n < 9223372036854775808) (hq : Pq a.q w0) (hqb : ∀ x ∈ gbl a.q, x < w0.heap.size) (hkin : ∃ zs, Kin w0 a.kp a.kn a.kc zs) (hg : Lgq a) (hi : i ≤ 1000) (w : World) (h : Dz w0 d m i w) :
    Calls Try.prog 17 #[PT d 0, PT m 0, a.v] w fun e w' => e = .returned (.bool true) ∧ Dz w0 d m (i + 1) w' := by
  obtain ⟨g1, g2, g3, g4⟩ := hg
  obtain ⟨zs, hz⟩ := hkin
  by_cases k0 : a.k = 0
  · exact act_app a k0 g4 hn hq hqb g2 hi w h
  by_cases k1 : a.k = 1
  · exact act_cut a k1 g4 hn hi w h
  by_cases k2 : a.k = 2
  · exact act_syn a k2 g4 hn hi w h
  by_cases k3 : a.k = 3
  · exact act_ren a k3 g4 hn hi w h
  by_cases k4 : a.k = 4
  · exact act_rem a k4 g4 hn hi w h
  by_cases k5 : a.k = 5
  · exact act_read a k5 g4 hn hi w h
  by_cases k6 : a.k = 6
  · exact act_crash a k6 g4 hn hz g3 hi w h
  by_cases k7 : a.k = 7
  · exact act_spo a k7 g4 hn hi w h
  exact act_other a ⟨by omega, hk⟩ g4 hn hi w h
/-- Numbers handed in. -/
structure Ins (w0 : World) (p : Option Addr) (n c g o : Nat) (F : Nat → Int) : Prop where
  z : p = none → n = 0 ∧ c = 0
  p : 0 < n → p = some ⟨g, o, none⟩ ∧ g < w0.heap.size
  c : ∀ i, i < n → w0.cell? ⟨g, o + i, none⟩ = some (.int .i64 (F i))
  f : ∀ i, i < n → (Lit.int .i64 (F i)).wf = true
theorem Ins.below {w0 u : World} {p : Option Addr} {n c g o : Nat} {F : Nat → Int} (h : Ins w0 p n c g o F) (hb : Below w0.heap.size w0 u) : Ins u p n c g o F :=
  ⟨h.z, fun e => ⟨(h.p e).1, Nat.lt_of_lt_of_le (h.p e).2 hb.size⟩, fun i hi => (hb.cell (p := ⟨g, o + i, none⟩) (h.p (by omega)).2).trans (h.c i hi), h.f⟩
theorem Dxo.base {w0 w1 u : World} {X : Dx} (h : Dxo w1 X u) (hle : w0.heap.size ≤ w1.heap.size) : Dxo w0 X u := { h with lo := fun x hx => Nat.le_trans hle (h.lo x hx) }
/-- Both disks are made. -/
theorem Dd.start {w w3 w4 w5 : World} {d mb rb n : Nat} {F : Nat → Int} {X : Dx} {M : List Nat} (hb : Below w.heap.size w w3) (hM : ∀ x ∈ M, x < w3.heap.size) (h1 : Nw w3 d mb rb (rff F n) n w4) (h2 : X.rd = ⟨[], 0, rff F n⟩) (h3 : X.n ≤ 4096) (h4 : Dxo w4 X w5) (h5 : Below w4.heap.size w4 w5) : Dd w d 0 ⟨0, [], rff F n⟩ X M w5 := by
  obtain ⟨D, q1, q2, q3, -⟩ := (new_a h1).step h5
  have q4 : Dn w D w5 := ⟨hb.trans (q1.b.mono hb.size), q1.dk, fun x hx => Nat.le_trans hb.size (q1.lo x hx)⟩
  have h34 : w3.heap.size ≤ w4.heap.size := (new_a h1).b.size
  obtain ⟨D4, r1, r2, r3, -⟩ := new_a h1
  have hsz : w.heap.size ≤ w4.heap.size := Nat.le_trans hb.size h34
  refine ⟨?_, h4.base hsz, ?_, ?_, h3, fun x hx e => ?_, fun x hx => Nat.lt_of_lt_of_le (hM x hx) (Nat.le_trans h34 h5.size)⟩
  · have h6 := (new_a h1).add (M := X.bl) h5 fun x hx => ⟨h4.lo x hx, h4.lt x hx⟩
    obtain ⟨D', s1, s2, s3, s4⟩ := h6
    refine ⟨D', ⟨hb.trans (s1.b.mono hb.size), s1.dk, fun x hx => Nat.le_trans hb.size (s1.lo x hx)⟩, s2, s3, fun x hx => ?_⟩
    rcases List.mem_append.1 hx with e | e
    · exact s4 x (List.mem_append_left _ e)
    · exact ⟨Nat.lt_of_lt_of_le (hM x e) (Nat.le_trans h34 h5.size), fun hm => by have := s1.lo x hm; have := hM x e; omega⟩
  · rw [h2]
    exact ⟨rfl, rfl, List.Perm.refl _, List.Pairwise.nil, fun f hf => (by cases hf), fun f hf => (by cases hf)⟩
  · rw [h2]
    exact ⟨Nat.le_refl _, Nat.zero_le _, List.Pairwise.nil, fun f hf => (by cases hf), fun f hf => (by cases hf), fun f hf => (by cases hf)⟩
  · have := h4.lo x e
    have := hM x hx
    omega
end Wi
end Rg
end Go.Proofs.Ytidicdlfjdlpnaa
end
section
namespace Go.Proofs.Ytidicdlfjdlpnaa
open Go.RowKit
namespace Rg
namespace Wi
set_option maxRecDepth 100000
set_option maxHeartbeats 4000000 in
theorem script_bad {w : World} {p : Option Addr} {n c g o : Nat} {F : Nat → Int} {pl : Option Addr} {m cl b off : Nat} {ys : Nat → Acd} (_ : Ins w p n c g o F) (hac : Acs w pl m b off ys) (hm : m ≤ 9223372036854775807) (hg : ¬Lgd m ys) :
    Calls Try.prog 3 #[.slice p n c, .slice pl m cl] w fun e w' => e = .returned (.bool true) ∧ Below w.heap.size w w' := by
  have HAC : Hid _ := hac
  have HG : Hid _ := hg
  clear hac hg
  go_enter Try.func3, Try.ntmps3
  go_wp2_with (first
    | (go_at_call 13; refine Calls.mono (long_any HAC.out hm w (Below.refl _ _)) ?_; rintro e w2 ⟨r, rfl, h2, h3, h4⟩; obtain rfl : r = true := by { cases r with | true => rfl | false => exact absurd (h3 rfl) HG.out }; have HB2 : Hid _ := h2; clear h2 h3 h4)
    | fail)
  go_ret
  exact ⟨rfl, HB2.out⟩
set_option maxHeartbeats 4000000 in
theorem script_mid {w : World} {p : Option Addr} {n c g o : Nat} {F : Nat → Int} {pl : Option Addr} {m cl b off : Nat} {ys : Nat → Acd} (_ : Ins w p n c g o F) (hac : Acs w pl m b off ys) (hm : m ≤ 9223372036854775807) (hg : Lgd m ys) (h1 : 100 < n) (h2 : n ≤ 4096) :
    Calls Try.prog 3 #[.slice p n c, .slice pl m cl] w fun e w' => e = .returned (.bool true) ∧ Below w.heap.size w w' := by
  have HAC : Hid _ := hac
  have HG : Hid _ := hg
  clear hac hg
  have d1 : decide ((100 : Int) < (n : Int)) = true := by rw [decide_eq_true_eq]; omega
  have d2 : decide ((n : Int) ≤ 4096) = true := by rw [decide_eq_true_eq]; omega
  go_enter Try.func3, Try.ntmps3
  go_wp2_with (first
    | (go_at_call 13; refine Calls.mono (long_any HAC.out hm w (Below.refl _ _)) ?_; rintro e w2 ⟨r, rfl, h2, h3, h4⟩; obtain rfl : r = false := by { cases r with | false => rfl | true => exact absurd HG.out (h4 rfl) }; have HB2 : Hid _ := h2; clear h2 h3 h4)
    | fail)
  go_ret
  exact ⟨rfl, HB2.out⟩
set_option maxHeartbeats 4000000 in
theorem script_big {w : World} {p : Option Addr} {n c g o : Nat} {F : Nat → Int} {pl : Option Addr} {m cl b off : Nat} {ys : Nat → Acd} (_ : Ins w p n c g o F) (hac : Acs w pl m b off ys) (hm : m ≤ 9223372036854775807) (hg : Lgd m ys) (h1 : 4105 < n) :
    Calls Try.prog 3 #[.slice p n c, .slice pl m cl] w fun e w' => e = .returned (.bool true) ∧ Below w.heap.size w w' := by
  have HAC : Hid _ := hac
  have HG : Hid _ := hg
  clear hac hg
  have d1 : decide ((100 : Int) < (n : Int)) = true := by rw [decide_eq_true_eq]; omega
  have d2 : decide ((n : Int) ≤ 4096) = false := by rw [decide_eq_false_iff_not]; omega
  have d3 : decide ((4105 : Int) < (n : Int)) = true := by rw [decide_eq_true_eq]; omega
  go_enter Try.func3, Try.ntmps3
  go_wp2_with (first
    | (go_at_call 13; refine Calls.mono (long_any HAC.out hm w (Below.refl _ _)) ?_; rintro e w2 ⟨r, rfl, h2, h3, h4⟩; obtain rfl : r = false := by { cases r with | false => rfl | true => exact absurd HG.out (h4 rfl) }; have HB2 : Hid _ := h2; clear h2 h3 h4)
    | fail)
  go_ret
  exact ⟨rfl, HB2.out⟩
/-- A row of numbers by its cells. -/
theorem own_ints {u : World} {B n c : Nat} {p : Option Addr} {F : Nat → Int} (h : u.ownsRow B 3 1 (.slice p n c) n (ivs F n)) : ∃ g, (0 < n → p = some ⟨g, 0, none⟩) ∧ (0 < n → g < u.heap.size) ∧ ∀ i, i < n → u.cell? ⟨g, 0 + i, none⟩ = some (.int .i64 (F i)) := by
  rcases Nat.eq_zero_or_pos n with e | e
  · exact ⟨0, fun h => by omega, fun h => by omega, fun i hi => by omega⟩
  · obtain ⟨g, rfl⟩ := own_some h e
    exact ⟨g, fun _ => rfl, fun _ => (World.ownsRow.lt h g rfl).2, fun i hi => by
      rw [Nat.zero_add]
      exact (World.ownsRow.cellAt h i (by omega)).trans (ivs_get hi)⟩
/-- What holds of each act handed in. -/
def Aok (w : World) (m : Nat) (ys : Nat → Acd) : Prop := ∀ i, i < m → (ys i).k < 256 ∧ (ys i).n < 9223372036854775808 ∧ Pq (ys i).q w ∧ (∀ x ∈ gbl (ys i).q, x < w.heap.size) ∧ ∃ zs, Kin w (ys i).kp (ys i).kn (ys i).kc zs
set_option maxHeartbeats 4000000 in
theorem script_long {w : World} {p : Option Addr} {n c g o : Nat} {F : Nat → Int} {pl : Option Addr} {m cl b off : Nat} {ys : Nat → Acd} (hin : Ins w p n c g o F) (hac : Acs w pl m b off ys) (hm : m ≤ 9223372036854775807) (hg : Lgd m ys) (h1 : 4096 < n) (h2 : n ≤ 4105) :
    Calls Try.prog 3 #[.slice p n c, .slice pl m cl] w fun e w' => e = .returned (.bool true) ∧ Below w.heap.size w w' := by
  have HAC : Hid _ := hac
  have HG : Hid _ := hg
  have HIN : Hid (Ins w p n c g o F) := hin
  clear hac hg hin
  have d1 : decide ((100 : Int) < (n : Int)) = true := by rw [decide_eq_true_eq]; omega
  have d2 : decide ((n : Int) ≤ 4096) = false := by rw [decide_eq_false_iff_not]; omega
  have d3 : decide ((4105 : Int) < (n : Int)) = false := by rw [decide_eq_false_iff_not]; omega
  go_enter Try.func3, Try.ntmps3
  go_wp2_with (first
    | (go_at_call 13
       refine Calls.mono (long_any HAC.out hm w (Below.refl _ _)) ?_
       rintro e w2 ⟨r, rfl, h2, h3, h4⟩; obtain rfl : r = false := by { cases r with | false => rfl | true => exact absurd HG.out (h4 rfl) }; have HB2 : Hid _ := h2; clear h2 h3 h4
       obtain ⟨v1, u1, hr1, ho1, hbu⟩ := copy_i (u := w2) (F := F) (show n ≤ 100000 by omega) (fun e => ((HIN.out.below HB2.out).p e).1) (HIN.out.below HB2.out).z (fun e => ((HIN.out.below HB2.out).p e).2) (HIN.out.below HB2.out).c 22
       obtain ⟨p1, c1, rfl, hle1⟩ := own_slice ho1
       obtain ⟨g1, hp1, hg1, hcl1⟩ := own_ints ho1
       have HRU : Hid _ := hr1
       have HO1 : Hid _ := ho1
       have HU1 : Hid _ := hbu
       have HP1 : Hid _ := hp1
       have HG1 : Hid _ := hg1
       have HCL : Hid _ := hcl1
       clear hr1 ho1 hbu hp1 hg1 hcl1)
    | (at_builtin; refine wpl_app rfl _ _ 22 rfl (.slice (some ⟨w2.heap.size, 0, none⟩) 0 0) (.slice p n c) (.slice p1 n c1) rfl rfl HRU.out ?_)
    | (go_at_call 14; refine Calls.mono (New_long p1 n c1 (by omega) u1) ?_; rintro e w3 ⟨rfl, h⟩; have HB3 : Hid _ := h; clear h)
    | (go_at_call 15; refine Calls.mono (rnew_long p n c (by omega) w3) ?_; rintro e w4 ⟨rfl, h⟩; have HB4 : Hid (Below u1.heap.size u1 w4) := HB3.out.trans (h.mono HB3.out.size); clear h)
    | (go_at_call 16; refine Calls.mono (same_ints (F := F) (g := g1) (g' := g) (o := 0) (o' := o) (by omega) w4 HP1.out (fun e => (HIN.out.p e).1) (fun e => ⟨Nat.lt_of_lt_of_le (HG1.out e) HB4.out.size, Nat.lt_of_lt_of_le (HIN.out.p e).2 (Nat.le_trans (Nat.le_trans HB2.out.size HU1.out.size) HB4.out.size)⟩) (fun i hi => (HB4.out.cell (p := ⟨g1, 0 + i, none⟩) (HG1.out (by omega))).trans (HCL.out i hi)) (((HIN.out.below HB2.out).below HU1.out).below HB4.out).c) ?_; rintro e w5 ⟨rfl, h⟩; have HB5 : Hid _ := h; clear h)
    | fail)
  go_loopw [10] (fun v wr => ∃ (i : Nat) (G : Nat → Int), v = .int .i64 (i : Int) ∧ i ≤ n ∧ Hid (Chg (vbl (.slice p1 n c1)) w5 wr ∧ wr.ownsRow w2.heap.size 3 1 (.slice p1 n c1) n (ivs G n)))
    (fun v _ => n - (RowKit.intOf v).toNat)
  case atStart => exact ⟨0, F, rfl, Nat.zero_le _, Chg.refl _ _, own_keep HO1.out fun x hx => (HB5.out.block x (Nat.lt_of_lt_of_le (own_lt HO1.out x hx) HB4.out.size)).trans (HB4.out.block x (own_lt HO1.out x hx))⟩
  case round =>
    obtain ⟨i, G, rfl, hi, hC⟩ := hrel
    obtain ⟨W, rfl⟩ : ∃ W, W = wr := ⟨wr, rfl⟩
    by_cases hlt : i < n
    · obtain ⟨g2, rfl⟩ := own_some hC.out.2 (by omega)
      have c0 : W.cell? ⟨g2, i, none⟩ = some (.int .i64 (G i)) := (World.ownsRow.cellAt hC.out.2 i (by omega)).trans (ivs_get hlt)
      have f0 : W.frozen? ⟨g2, i, none⟩ = false := World.ownsRow.frozenAt hC.out.2 i
      go_wp2
      go_roundw
      case rel =>
        refine ⟨i + 1, fun j => if j = i then wrap64 (G i + 1) else G j, by simp, by omega, hC.out.1.trans (chg_setc _ _ _ _) (fun x hx => .inl (by rw [List.mem_singleton.1 hx]; simp [vbl, Value.ownBlock])), ?_⟩
        rw [← ivs_set _ hlt]
        exact (World.ownsRow.stored hC.out.2 i _).1
      case measure => simp [RowKit.intOf]; omega
    · obtain rfl : i = n := by omega
      have HW : Hid (Below w.heap.size w W) := ((HB2.out.trans (HU1.out.mono HB2.out.size)).trans (HB4.out.mono (Nat.le_trans HB2.out.size HU1.out.size))).trans ((HB5.out.mono (Nat.le_trans (Nat.le_trans HB2.out.size HU1.out.size) HB4.out.size)).trans (hC.out.1.toBelow (fun x hx => Nat.le_trans HB2.out.size (own_lo2 HO1.out x hx)) (Nat.le_trans (Nat.le_trans (Nat.le_trans HB2.out.size HU1.out.size) HB4.out.size) HB5.out.size)))
      clear hC
      go_wp2
      go_loopw [11] (fun v wr => v = .int .i64 0 ∧ Hid (Below w.heap.size w wr))
        (fun _ _ => 0)
      case atStart => exact ⟨rfl, HW.out⟩
      case round =>
        obtain ⟨rfl, hB⟩ := hrel
        go_wp2
        go_ret
        exact ⟨rfl, hB.out⟩
end Wi
end Rg
end Go.Proofs.Ytidicdlfjdlpnaa
end
section
namespace Go.Proofs.Ytidicdlfjdlpnaa
open Go.RowKit
namespace Rg
namespace Wi
set_option maxRecDepth 100000
set_option maxHeartbeats 8000000 in
theorem script_main {w : World} {p : Option Addr} {n c g o : Nat} {F : Nat → Int} {pl : Option Addr} {m cl b off : Nat} {ys : Nat → Acd} (hin : Ins w p n c g o F) (hac : Acs w pl m b off ys) (hm : m ≤ 9223372036854775807) (hok : Aok w m ys) (hg : Lgd m ys) (h1 : n ≤ 100) :
    Calls Try.prog 3 #[.slice p n c, .slice pl m cl] w fun e w' => e = .returned (.bool true) ∧ Below w.heap.size w w' := by
  have HAC : Hid (Acs w pl m b off ys) := hac
  have HG : Hid (Lgd m ys) := hg
  have HIN : Hid (Ins w p n c g o F) := hin
  have HOK : Hid (Aok w m ys) := hok
  have hm70 : m ≤ 70 := hg.1
  clear hac hg hin hok
  have d1 : decide ((100 : Int) < (n : Int)) = false := by rw [decide_eq_false_iff_not]; omega
  have d3 : decide ((4105 : Int) < (n : Int)) = false := by rw [decide_eq_false_iff_not]; omega
  go_enter Try.func3, Try.ntmps3
  go_wp2_with (first
    | (go_at_call 13
       refine Calls.mono (long_any HAC.out hm w (Below.refl _ _)) ?_
       rintro e w2 ⟨r, rfl, h2, h3, h4⟩; obtain rfl : r = false := by { cases r with | false => rfl | true => exact absurd HG.out (h4 rfl) }; have HB2 : Hid _ := h2; clear h2 h3 h4
       obtain ⟨v1, u1, hr1, ho1, hbu⟩ := copy_i (u := w2) (F := F) (show n ≤ 100000 by omega) (fun e => ((HIN.out.below HB2.out).p e).1) (HIN.out.below HB2.out).z (fun e => ((HIN.out.below HB2.out).p e).2) (HIN.out.below HB2.out).c 22
       obtain ⟨p1, c1, rfl, hle1⟩ := own_slice ho1
       obtain ⟨g1, hp1, hg1, hcl1⟩ := own_ints ho1
       have HRU : Hid _ := hr1
       have HO1 : Hid _ := ho1
       have HU1 : Hid _ := hbu
       have HP1 : Hid _ := hp1
       have HG1 : Hid _ := hg1
       have HCL : Hid _ := hcl1
       clear hr1 ho1 hbu hp1 hg1 hcl1)
    | (at_builtin; refine wpl_app rfl _ _ 22 rfl (.slice (some ⟨w2.heap.size, 0, none⟩) 0 0) (.slice p n c) (.slice p1 n c1) rfl rfl HRU.out ?_)
    | (go_at_call 14; refine Calls.mono (New_any p1 n c1 g1 0 F (by omega) u1 HP1.out (fun i hi => ⟨HG1.out (by omega), HCL.out i hi, HIN.out.f i hi⟩)) ?_; rintro e w3 ⟨d, mb, rb, rfl, h⟩; have HN : Hid _ := h; have HB3 : Hid (Below u1.heap.size u1 w3) := (new_a h).b; clear h)
    | (go_at_call 15; refine Calls.mono (rnew_ok (w0 := w3) p n c g o F (by omega) (fun e => (HIN.out.p e).1) HIN.out.z w3 (fun e => ((((HIN.out.below HB2.out).below HU1.out).below HB3.out).p e).2) (((HIN.out.below HB2.out).below HU1.out).below HB3.out).c (Nat.le_refl _)) ?_; rintro e w4 ⟨X, rfl, x1, x2, x3, x4⟩; have HB4 : Hid (Below u1.heap.size u1 w4) := HB3.out.trans (x4.mono HB3.out.size); have HD4 : Hid _ := Dd.start (w := w) (M := vbl (.slice p1 n c1)) (HB2.out.trans (HU1.out.mono HB2.out.size)) (fun x hx => own_lt HO1.out x hx) HN.out x1 (by omega) x3 x4; have HR4 : Hid (Rn X.rd) := (by intro f hf; rw [x1] at hf; cases hf); clear x1 x2 x3 x4)
    | (go_at_call 16; refine Calls.mono (same_ints (F := F) (g := g1) (g' := g) (o := 0) (o' := o) (by omega) w4 HP1.out (fun e => (HIN.out.p e).1) (fun e => ⟨Nat.lt_of_lt_of_le (HG1.out e) HB4.out.size, Nat.lt_of_lt_of_le (HIN.out.p e).2 (Nat.le_trans (Nat.le_trans HB2.out.size HU1.out.size) HB4.out.size)⟩) (fun i hi => (HB4.out.cell (p := ⟨g1, 0 + i, none⟩) (HG1.out (by omega))).trans (HCL.out i hi)) (((HIN.out.below HB2.out).below HU1.out).below HB4.out).c) ?_; rintro e w5 ⟨rfl, h⟩; have HB5 : Hid _ := h; clear h)
    | fail)
  go_loopw [10] (fun v wr => ∃ (i : Nat) (G : Nat → Int), v = .int .i64 (i : Int) ∧ i ≤ n ∧ Hid (Chg (vbl (.slice p1 n c1)) w5 wr ∧ wr.ownsRow w2.heap.size 3 1 (.slice p1 n c1) n (ivs G n)))
    (fun v _ => n - (RowKit.intOf v).toNat)
  case atStart => exact ⟨0, F, rfl, Nat.zero_le _, Chg.refl _ _, own_keep HO1.out fun x hx => (HB5.out.block x (Nat.lt_of_lt_of_le (own_lt HO1.out x hx) HB4.out.size)).trans (HB4.out.block x (own_lt HO1.out x hx))⟩
  case round =>
    obtain ⟨i, G, rfl, hi, hC⟩ := hrel
    obtain ⟨W, rfl⟩ : ∃ W, W = wr := ⟨wr, rfl⟩
    by_cases hlt : i < n
    · obtain ⟨g2, rfl⟩ := own_some hC.out.2 (by omega)
      have c0 : W.cell? ⟨g2, i, none⟩ = some (.int .i64 (G i)) := (World.ownsRow.cellAt hC.out.2 i (by omega)).trans (ivs_get hlt)
      have f0 : W.frozen? ⟨g2, i, none⟩ = false := World.ownsRow.frozenAt hC.out.2 i
      go_wp2
      go_roundw
      case rel =>
        refine ⟨i + 1, fun j => if j = i then wrap64 (G i + 1) else G j, by simp, by omega, hC.out.1.trans (chg_setc _ _ _ _) (fun x hx => .inl (by rw [List.mem_singleton.1 hx]; simp [vbl, Value.ownBlock])), ?_⟩
        rw [← ivs_set _ hlt]
        exact (World.ownsRow.stored hC.out.2 i _).1
      case measure => simp [RowKit.intOf]; omega
    · obtain rfl : i = n := by omega
      have HZ : Hid (Dz w d X.m 0 W) := ⟨_, X, rfl, (((HD4.out.step HB5.out).chg hC.out.1 (fun x hx => hx) (fun x hx => Nat.le_trans HB2.out.size (own_lo2 HO1.out x hx))).less fun x hx => by cases hx), HR4.out⟩
      clear hC
      go_wp2
      go_loopw [11] (fun v wr => ∃ j : Nat, v = .int .i64 (j : Int) ∧ j ≤ m ∧ Hid (Dz w d X.m j wr))
        (fun v _ => m - (RowKit.intOf v).toNat)
      case atStart => exact ⟨0, rfl, Nat.zero_le _, HZ.out⟩
      case round =>
        obtain ⟨j, rfl, hj, hZ⟩ := hrel
        obtain ⟨V, rfl⟩ : ∃ V, V = wr := ⟨wr, rfl⟩
        have hBV : Below w.heap.size w V := by
          obtain ⟨A, X', _, hd, _⟩ := hZ.out
          exact hd.da.b
        have HBV : Hid _ := hBV
        clear hBV
        by_cases hlt2 : j < m
        · obtain ⟨rfl, hbl⟩ := HAC.out.p (by omega)
          obtain ⟨a, ha⟩ : ∃ a, ys j = a := ⟨_, rfl⟩
          have hcell : ∀ t, t < 6 → V.cell? ⟨b, off + j * 6 + t, none⟩ = a.c[t]? := fun t ht => by
            rw [← ha]
            exact (HBV.out.cell (p := ⟨b, off + j * 6 + t, none⟩) hbl).trans (HAC.out.c j hlt2 t ht)
          obtain ⟨q1, q2, q3, q4, q5⟩ := HOK.out j hlt2
          have q6 := HG.out.2 j hlt2
          rw [ha] at q1 q2 q3 q4 q5 q6
          have Q1 : Hid _ := q1
          have Q2 : Hid _ := q2
          have Q3 : Hid (Pq a.q w) := q3
          have Q4 : Hid (∀ x ∈ gbl a.q, x < w.heap.size) := q4
          have Q5 : Hid (∃ zs, Kin w a.kp a.kn a.kc zs) := q5
          have Q6 : Hid (Lgq a) := q6
          have c0 : V.cell? ⟨b, off + j * 6, none⟩ = some (.int .u8 (a.k : Int)) := hcell 0 (by decide)
          have c1 : V.cell? ⟨b, off + j * 6 + 1, none⟩ = some (.string a.s) := hcell 1 (by decide)
          have c2 : V.cell? ⟨b, off + j * 6 + 2, none⟩ = some (.string a.t) := hcell 2 (by decide)
          have c3 : V.cell? ⟨b, off + j * 6 + 3, none⟩ = some (.slice a.q.p a.q.n a.q.cp) := hcell 3 (by decide)
          have c4 : V.cell? ⟨b, off + j * 6 + 4, none⟩ = some (.int .i64 a.n) := hcell 4 (by decide)
          have c5 : V.cell? ⟨b, off + j * 6 + 5, none⟩ = some (.slice a.kp a.kn a.kc) := hcell 5 (by decide)
          clear hcell q1 q2 q3 q4 q5 q6 ha
          go_wp2_with (first
            | (go_at_call 17; refine Calls.mono (act_any a Q1.out Q2.out Q3.out Q4.out Q5.out Q6.out (by omega) V hZ.out) ?_; rintro e w9 ⟨rfl, h9⟩; have H9 : Hid (Dz w d X.m (j + 1) w9) := h9; clear h9)
            | fail)
          exact ⟨⟨j + 1, by simp, by omega, H9.out⟩, by simp [RowKit.intOf]; omega⟩
        · obtain rfl : j = m := by omega
          go_wp2
          go_ret
          exact ⟨rfl, HBV.out⟩
end Wi
end Rg
end Go.Proofs.Ytidicdlfjdlpnaa
end
section
namespace Go.Proofs.Ytidicdlfjdlpnaa
open Go.ChangeMaps Go.ChangeShapes Go.WideShapes Go.ChangeAt Go.RowKit
open Rg.Wi
theorem Try.own : ownKnob Try.prog.godebug = none := by kernel_rfl
theorem Try.laidOut : laidOutB Try.prog = true := by kernel_rfl
theorem Try.cells5 : Try.prog.cellsOf 5 = 1 := by kernel_rfl
theorem Try.cells34 : Try.prog.cellsOf 34 = 1 := by kernel_rfl
section
variable {H : Type} {enc : TypeId × Value → H} {w : World} {base : Nat} {sp : Nat → Bool} {held : Bool}
set_option maxRecDepth 100000 in
theorem open_pt {fuel : Nat} {cs : List Value} {y : DataW H × List MemPlace} (hf : DataW.trod enc Try.prog w base sp held fuel 34 cs = some y) :
    ∃ q : Pt8, cs = [.slice q.p q.n q.cp] ∧ Pok q ∧ (q.p = none → q.cp = 0) ∧ q.rs w ∧ (∀ j, j < q.n → q.f j < 256) ∧ q.cp ≤ maxLen ∧ ∀ x ∈ y.2, x.block < w.heap.size := by
  rcases open_ints Try.underlying34 Try.underlying5 Try.cells5 hf with ⟨hcs, hx⟩ | ⟨a, len, cap, zs, hcs, _, hl, hm, hz, hx, hcell, hwz⟩
  · subst hcs hx
    exact ⟨⟨0, 0, 0, 0, none, fun _ => 0⟩, rfl, ⟨Bv.void _ _ _ _ _, Nat.le_refl _⟩, fun _ => rfl, Rs.void _ _ _ _, fun j hj => absurd hj (Nat.not_lt_zero _), Nat.zero_le _, by simp⟩
  · subst hcs hx
    have hlz : len ≤ zs.length := by rw [hz]; split <;> omega
    have hps : ∀ x ∈ MemPlace.row a zs.length, x.block < w.heap.size := fun x hx => by
      obtain ⟨i, hi, rfl⟩ := MemPlace.mem_row.1 hx
      have := World.block_lt_of_cell? w _ (hcell i hi)
      obtain ⟨b, off, rfl, _⟩ := ints_at hcell (by omega)
      exact World.block_lt_of_cell? w _ (hcell 0 (by omega))
    have hb : ∀ i, i < zs.length → 0 ≤ zs.getD i 0 ∧ zs.getD i 0 < 256 := fun i hi => by
      rw [List.getD_eq_getElem?_getD, List.getElem?_eq_getElem hi]
      have := bounds_u8 (hwz _ (List.getElem_mem hi))
      exact ⟨this.1, by show zs[i] < 256; omega⟩
    by_cases h0 : len = 0
    · subst h0
      exact ⟨⟨0, 0, 0, cap, some a, fun _ => 0⟩, rfl, ⟨Bv.void _ _ _ _ _, hl⟩, (fun e => by cases e), Rs.void _ _ _ _, fun j hj => absurd hj (Nat.not_lt_zero _), hm, hps⟩
    · obtain ⟨b, off, rfl, hc⟩ := ints_at hcell (by omega)
      refine ⟨⟨b, off, len, cap, some ⟨b, off, none⟩, fun i => (zs.getD i 0).toNat⟩, rfl, ⟨Bv.start _ _ _ _, hl⟩, (fun e => by cases e), ⟨fun _ => World.block_lt_of_cell? w _ (hc 0 (by omega)), fun i hi => ?_⟩, fun j hj => ?_, hm, hps⟩
      · have h1 : i < len := hi
        rw [hc i (by omega)]
        have := hb i (by omega)
        show some (Value.int .u8 (zs.getD i 0)) = some (Value.int .u8 (((zs.getD i 0).toNat : Nat) : Int))
        rw [show ((((zs.getD i 0).toNat : Nat)) : Int) = zs.getD i 0 from Int.toNat_of_nonneg this.1]
      · have h1 : j < len := hj
        have := hb j (by omega)
        show (zs.getD j 0).toNat < 256
        omega
variable {r : Reach} {b0 : Nat} {v : Value} {d : DataW H} {ps : List MemPlace}
end
end Go.Proofs.Ytidicdlfjdlpnaa
end
section
namespace Go.Proofs.Ytidicdlfjdlpnaa
open Go.ChangeMaps Go.ChangeShapes Go.WideShapes Go.ChangeAt Go.RowKit
open Rg.Wi
set_option maxRecDepth 100000
theorem cells3 : Try.prog.cellsOf 3 = 1 := by kernel_rfl
theorem cells5 : Try.prog.cellsOf 5 = 1 := by kernel_rfl
theorem cells9 : Try.prog.cellsOf 9 = 1 := by kernel_rfl
theorem cells34 : Try.prog.cellsOf 34 = 1 := by kernel_rfl
theorem cells35 : Try.prog.cellsOf 35 = 1 := by kernel_rfl
theorem cells37 : Try.prog.cellsOf 37 = 6 := by kernel_rfl
theorem cells57 : Try.prog.cellsOf 57 = 3 := by kernel_rfl
section
variable {H : Type} {enc : TypeId × Value → H} {w : World} {base : Nat} {sp : Nat → Bool} {held : Bool}
theorem wmem {e : TypeId} : ∀ {l : List (DataW H)} {d : DataW H}, d ∈ l → ∀ x ∈ d.weights Try.prog e, x ∈ DataW.weightsAll Try.prog e l
  | [], _, h, _, _ => by cases h
  | a :: r, d, h, x, hx => by
    unfold DataW.weightsAll
    rcases List.mem_cons.1 h with e1 | e1
    · rw [← e1]; exact List.mem_append_left _ hx
    · exact List.mem_append_right _ (wmem e1 x hx)
theorem open_row {T E k : Nat} (hT : Try.prog.underlying T = some (.slice E)) (hk : Try.prog.cellsOf E = k) (h0 : 0 < k) {fuel : Nat} {cs : List Value} {y : DataW H × List MemPlace} (hf : DataW.trod enc Try.prog w base sp held fuel T cs = some y) :
    ∃ pl m c b off, cs = [.slice pl m c] ∧ m ≤ c ∧ c ≤ maxLen ∧ (pl = none → c = 0) ∧ (0 < m → pl = some ⟨b, off, none⟩ ∧ b < w.heap.size) ∧ ∀ i, i < m → ∃ es n z, es.length = k ∧ DataW.trod enc Try.prog w base sp held n E es = some z ∧ (∀ x ∈ z.1.weights Try.prog E, x ∈ y.1.weights Try.prog T) ∧ ∀ j, j < k → w.cell? ⟨b, off + (i * k + j), none⟩ = es[j]? := by
  rcases DataW.trod_slice hT hf with ⟨hcs, hx⟩ | ⟨a, len, cap, elems, rest, n, _, hcs, hx, hb, hl, hm, hlen, hel, hsp, hns⟩
  · exact ⟨none, 0, 0, 0, 0, hcs, Nat.le_refl _, Nat.zero_le _, fun _ => rfl, fun h => absurd h (Nat.lt_irrefl _), fun i hi => absurd hi (Nat.not_lt_zero _)⟩
  · rw [hk] at hel
    have part : ∀ i, i < len → ∃ es z, es.length = k ∧ DataW.trod enc Try.prog w base sp held n E es = some z ∧ (∀ x ∈ z.1.weights Try.prog E, x ∈ y.1.weights Try.prog T) ∧ ∀ j, j < k → w.cell? ((a.add (i * k)).add j) = es[j]? := fun i hi => by
      have h1 := hel i hi
      have hi2 : i < elems.length := by omega
      rw [List.getElem?_eq_getElem hi2, Option.bind_eq_some_iff] at h1
      obtain ⟨es, hc, hy⟩ := h1
      obtain ⟨_, c2, c3⟩ := World.cells?_some hc
      refine ⟨es, _, c2, hy, fun x hx2 => ?_, c3⟩
      rw [hx]
      show x ∈ DataW.weights Try.prog T (.slice (elems.map (·.1)) (rest.map (·.1)))
      unfold DataW.weights
      rw [hT]
      exact List.mem_cons_of_mem _ (List.mem_append_left _ (wmem (List.mem_map_of_mem (List.getElem_mem hi2)) x hx2))
    by_cases hz : len = 0
    · subst hz
      exact ⟨some a, 0, cap, 0, 0, hcs, hl, hm, (fun e => by cases e), fun h => absurd h (Nat.lt_irrefl _), fun i hi => absurd hi (Nat.not_lt_zero _)⟩
    · obtain ⟨es, z, e1, _, _, e3⟩ := part 0 (by omega)
      have e4 := e3 0 h0
      obtain ⟨v, hv⟩ : ∃ v, es[0]? = some v := ⟨_, List.getElem?_eq_getElem (by omega)⟩
      rw [hv] at e4
      obtain ⟨b, off, spot⟩ := a
      have hspot : spot = none := by simpa [Addr.add] using World.cell?_spot e4
      subst hspot
      simp only [Go.WideShapes.add_plain] at e4
      refine ⟨some ⟨b, off, none⟩, len, cap, b, off, hcs, hl, hm, (fun e => by cases e), fun _ => ⟨rfl, World.block_lt_of_cell? w _ e4⟩, fun i hi => ?_⟩
      obtain ⟨es, z, e1, e2, e4, e3⟩ := part i hi
      refine ⟨es, n, z, e1, e2, e4, fun j hj => ?_⟩
      have := e3 j hj
      simp only [Go.WideShapes.add_plain] at this
      rw [show off + (i * k + j) = off + i * k + j by omega]
      exact this
theorem open_keep {fuel : Nat} {cs : List Value} {y : DataW H × List MemPlace} (hf : DataW.trod enc Try.prog w base sp held fuel 57 cs = some y) :
    ∃ x : Kv, cs = [.string x.1.1, .int .i64 x.1.2.1, .int .i64 x.1.2.2] := by
  obtain ⟨xs, n, -, hx, hl, hn, hel⟩ := DataW.trod_struct Try.underlying57 hf
  have hl' : cs.length = 3 := hl.trans cells57
  have hn' : xs.length = 3 := hn
  obtain ⟨c0, c1, c2, rfl⟩ : ∃ c0 c1 c2, cs = [c0, c1, c2] := by
    match cs, hl' with
    | [c0, c1, c2], _ => exact ⟨c0, c1, c2, rfl⟩
  match xs, hn' with
  | [x0, x1, x2], _ =>
    have f0 : DataW.trod enc Try.prog w base sp held n 9 [c0] = some x0 := by
      have f : DataW.trod enc Try.prog w base sp held n 9 ((([c0, c1, c2] : List Value).drop 0).take (Try.prog.cellsOf 9)) = some x0 := hel 0 _ rfl
      rw [cells9] at f
      exact f
    have f1 : DataW.trod enc Try.prog w base sp held n 3 [c1] = some x1 := by
      have f : DataW.trod enc Try.prog w base sp held n 3 ((([c0, c1, c2] : List Value).drop 1).take (Try.prog.cellsOf 3)) = some x1 := hel 1 _ rfl
      rw [cells3] at f
      exact f
    have f2 : DataW.trod enc Try.prog w base sp held n 3 [c2] = some x2 := by
      have f : DataW.trod enc Try.prog w base sp held n 3 ((([c0, c1, c2] : List Value).drop 2).take (Try.prog.cellsOf 3)) = some x2 := hel 2 _ rfl
      rw [cells3] at f
      exact f
    obtain ⟨s, e1, _, hs⟩ := DataW.trod_string Try.underlying9 f0
    obtain ⟨z1, e2, _, h1⟩ := DataW.trod_int Try.underlying3 f1
    obtain ⟨z2, e3, _, h2⟩ := DataW.trod_int Try.underlying3 f2
    injection e1 with e1 _
    injection e2 with e2 _
    injection e3 with e3 _
    exact ⟨⟨(s, z1, z2), hs, h1, h2⟩, by rw [e1, e2, e3]⟩
theorem open_act {fuel : Nat} {cs : List Value} {y : DataW H × List MemPlace} (hf : DataW.trod enc Try.prog w base sp held fuel 37 cs = some y) (hw : ∀ x ∈ y.1.weights Try.prog 37, x ≤ reachBytes) :
    ∃ a : Acd, cs = a.c.toList ∧ a.k < 256 ∧ a.n < 9223372036854775808 ∧ Pq a.q w ∧ (∀ x ∈ gbl a.q, x < w.heap.size) ∧ (∃ zs, Kin w a.kp a.kn a.kc zs) ∧ a.s.size ≤ 140737488351232 ∧ a.t.size ≤ 140737488351232 := by
  obtain ⟨xs, n, -, hx, hl, hn, hel⟩ := DataW.trod_struct Try.underlying37 hf
  have hl' : cs.length = 6 := hl.trans cells37
  have hn' : xs.length = 6 := hn
  obtain ⟨c0, c1, c2, c3, c4, c5, rfl⟩ : ∃ c0 c1 c2 c3 c4 c5, cs = [c0, c1, c2, c3, c4, c5] := by
    match cs, hl' with
    | [c0, c1, c2, c3, c4, c5], _ => exact ⟨c0, c1, c2, c3, c4, c5, rfl⟩
  match xs, hn' with
  | [x0, x1, x2, x3, x4, x5], _ =>
    have f0 : DataW.trod enc Try.prog w base sp held n 5 [c0] = some x0 := by
      have f : DataW.trod enc Try.prog w base sp held n 5 ((([c0, c1, c2, c3, c4, c5] : List Value).drop 0).take (Try.prog.cellsOf 5)) = some x0 := hel 0 _ rfl
      rw [cells5] at f
      exact f
    have f1 : DataW.trod enc Try.prog w base sp held n 9 [c1] = some x1 := by
      have f : DataW.trod enc Try.prog w base sp held n 9 ((([c0, c1, c2, c3, c4, c5] : List Value).drop 1).take (Try.prog.cellsOf 9)) = some x1 := hel 1 _ rfl
      rw [cells9] at f
      exact f
    have f2 : DataW.trod enc Try.prog w base sp held n 9 [c2] = some x2 := by
      have f : DataW.trod enc Try.prog w base sp held n 9 ((([c0, c1, c2, c3, c4, c5] : List Value).drop 2).take (Try.prog.cellsOf 9)) = some x2 := hel 2 _ rfl
      rw [cells9] at f
      exact f
    have f3 : DataW.trod enc Try.prog w base sp held n 34 [c3] = some x3 := by
      have f : DataW.trod enc Try.prog w base sp held n 34 ((([c0, c1, c2, c3, c4, c5] : List Value).drop 3).take (Try.prog.cellsOf 34)) = some x3 := hel 3 _ rfl
      rw [cells34] at f
      exact f
    have f4 : DataW.trod enc Try.prog w base sp held n 3 [c4] = some x4 := by
      have f : DataW.trod enc Try.prog w base sp held n 3 ((([c0, c1, c2, c3, c4, c5] : List Value).drop 4).take (Try.prog.cellsOf 3)) = some x4 := hel 4 _ rfl
      rw [cells3] at f
      exact f
    have f5 : DataW.trod enc Try.prog w base sp held n 35 [c5] = some x5 := by
      have f : DataW.trod enc Try.prog w base sp held n 35 ((([c0, c1, c2, c3, c4, c5] : List Value).drop 5).take (Try.prog.cellsOf 35)) = some x5 := hel 5 _ rfl
      rw [cells35] at f
      exact f
    have hwt : ∀ (j : Nat) (t : TypeId) (d : DataW H), ([5, 9, 9, 34, 3, 35] : List TypeId)[j]? = some t → ([x0.1, x1.1, x2.1, x3.1, x4.1, x5.1] : List (DataW H))[j]? = some d → ∀ x ∈ d.weights Try.prog t, x ≤ reachBytes := fun j t d h1 h2 x h3 => hw x (by
      rw [hx]
      show x ∈ DataW.weights Try.prog 37 (.agg [x0.1, x1.1, x2.1, x3.1, x4.1, x5.1])
      unfold DataW.weights
      rw [Try.underlying37]
      exact DataW.weights_mem_each h1 h2 x h3)
    obtain ⟨z0, e0, _, w0⟩ := DataW.trod_int Try.underlying5 f0
    obtain ⟨s, e1, y1, _⟩ := DataW.trod_string Try.underlying9 f1
    obtain ⟨t, e2, y2, _⟩ := DataW.trod_string Try.underlying9 f2
    obtain ⟨q, e3, q1, q2, q3, _⟩ := open_pt f3
    obtain ⟨z4, e4, _, w4⟩ := DataW.trod_int Try.underlying3 f4
    obtain ⟨kp, kn, kc, g, o, e5, k0, _, k1, k2, k3⟩ := open_row Try.underlying35 cells57 (by decide) f5
    have part : ∀ i, ∃ x : Kv, i < kn → ∀ j, j < 3 → w.cell? ⟨g, o + (i * 3 + j), none⟩ = ([.string x.1.1, .int .i64 x.1.2.1, .int .i64 x.1.2.2] : List Value)[j]? := fun i => by
      by_cases hi : i < kn
      · obtain ⟨es, n', z', _, g1, _, g2⟩ := k3 i hi
        obtain ⟨x, rfl⟩ := open_keep g1
        exact ⟨x, fun _ => g2⟩
      · exact ⟨kv0, fun h => absurd h hi⟩
    obtain ⟨zs, hzs⟩ := Classical.axiomOfChoice part
    injection e0 with e0 _
    injection e1 with e1 _
    injection e2 with e2 _
    injection e3 with e3 _
    injection e4 with e4 _
    injection e5 with e5 _
    have b0 := bounds_u8 w0
    have b4 := bounds_i64 w4
    have hs := hwt 1 9 x1.1 rfl rfl s.data.toList.length (by rw [y1]; simp [DataW.weights])
    have ht := hwt 2 9 x2.1 rfl rfl t.data.toList.length (by rw [y2]; simp [DataW.weights])
    have hss : s.data.toList.length = s.size := by simp
    have hts : t.data.toList.length = t.size := by simp
    have hrb : reachBytes = 140737488351232 := rfl
    refine ⟨⟨z0.toNat, s, t, q, z4, kp, kn, kc⟩, ?_, ?_, ?_, ⟨q1, q2, q3⟩, fun x hx => ?_, ⟨zs, fun e => ?_, fun h0 => ⟨g, o, (k2 h0).1, (k2 h0).2, fun j hj => ?_⟩⟩, ?_, ?_⟩
    · rw [e0, e1, e2, e3, e4, e5]
      show _ = [Value.int .u8 ((z0.toNat : Nat) : Int), _, _, _, _, _]
      rw [Int.toNat_of_nonneg b0.1]
    · show z0.toNat < 256
      omega
    · show z4 < 9223372036854775808
      omega
    · unfold gbl at hx
      split at hx
      · cases hx
      · rw [List.mem_singleton.1 hx]
        rename_i hne
        exact q3.lt (Nat.pos_of_ne_zero hne)
    · have := k1 e
      show kn = 0 ∧ kc = 0
      exact ⟨by omega, this⟩
    · have h3 := hzs j hj
      exact ⟨h3 0 (by decide), h3 1 (by decide), h3 2 (by decide)⟩
    · show s.size ≤ _
      omega
    · show t.size ≤ _
      omega
end
end Go.Proofs.Ytidicdlfjdlpnaa
end
