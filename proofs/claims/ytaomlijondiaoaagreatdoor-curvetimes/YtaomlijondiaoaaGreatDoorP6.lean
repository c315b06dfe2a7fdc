/- Texts of the proof, joined. -/
import Derived.Test.YtaomlijondiaoaaGreatDoorP5
set_option maxRecDepth 100000
section
namespace Go.Proofs.YtaomlijondiaoaaGreatDoor
open Go.RowKit
namespace Rg
theorem ex_madeQ {ρ : Operand → Value} {o : Oper} {w : World} (ho : o.op = .alloc 120) :
  (execOp ρ o).run Tryz.prog w = .ok (.value (.pointer (some ⟨w.heap.size, 0, none⟩))) (w.alloc (.cells ([Value.pointer none] : List Value).toArray 120)) := by
 simp only [execOp, ho]
 go_simp
theorem ex_storeQ {ρ : Operand → Value} {o : Oper} {x y : Operand} {g off g' : Nat} {cs : List Value} {w : World} {l : List (Nat × List Value)} (h : Mm w l) (k : Nat) (hk : l[k]? = some (g, cs)) (ho : o.op = .store 120 x y) (hx : ρ x = PT g off) (hy : ρ y = PT g' 0) (hc : off + 1 ≤ cs.length) :
  (execOp ρ o).run Tryz.prog w = .ok .skip (w.setCells g off [PT g' 0]) := by
 have hm := List.mem_of_getElem? hk
 have e : cs[off]? = some (cs[off]'(by omega)) := List.getElem?_eq_getElem _
 have c0 := h.cell hm e
 have f0 := h.free hm e
 clear h hm hk
 simp only [execOp, ho, hx, hy]
 go_simp
 simp [World.setCells]
theorem ex_buildFN {ρ : Operand → Value} {o : Oper} {x0 x1 x2 x3 x4 x5 : Operand} {f0 f1 f2 f3 f4 : Fn} {a0 a1 a2 a3 a4 b0 b1 b2 b3 b4 : Array Value} {u : Nat} {w : World} (ho : o.op = .build 79 #[(0, x0), (1, x1), (2, x2), (3, x3), (4, x4), (5, x5)]) (h0 : ρ x0 = .func f0 a0 b0) (h1 : ρ x1 = .func f1 a1 b1) (h2 : ρ x2 = .func f2 a2 b2) (h3 : ρ x3 = .func f3 a3 b3) (h4 : ρ x4 = .func f4 a4 b4) (h5 : ρ x5 = N u) : (execOp ρ o).run Tryz.prog w = .ok (.value (.agg ([Value.func f0 a0 b0, Value.func f1 a1 b1, Value.func f2 a2 b2, Value.func f3 a3 b3, Value.func f4 a4 b4] ++ cel [u]).toArray)) w := by
 simp only [execOp, ho, cel, List.cons_append, List.nil_append]
 go_simp
theorem ex_buildFE {ρ : Operand → Value} {o : Oper} {x0 x1 x2 x3 x4 x5 : Operand} {f0 f1 f2 f3 f4 : Fn} {a0 a1 a2 a3 a4 b0 b1 b2 b3 b4 : Array Value} {u0 u1 : Nat} {w : World} (ho : o.op = .build 98 #[(0, x0), (1, x1), (2, x2), (3, x3), (4, x4), (5, x5)]) (h0 : ρ x0 = .func f0 a0 b0) (h1 : ρ x1 = .func f1 a1 b1) (h2 : ρ x2 = .func f2 a2 b2) (h3 : ρ x3 = .func f3 a3 b3) (h4 : ρ x4 = .func f4 a4 b4) (h5 : ρ x5 = V [u0, u1]) : (execOp ρ o).run Tryz.prog w = .ok (.value (.agg ([Value.func f0 a0 b0, Value.func f1 a1 b1, Value.func f2 a2 b2, Value.func f3 a3 b3, Value.func f4 a4 b4] ++ cel [u0, u1]).toArray)) w := by
 simp only [V, cel, List.cons_append, List.nil_append] at h5
 simp only [execOp, ho, cel, List.cons_append, List.nil_append]
 go_simp
theorem ex_buildGN {ρ : Operand → Value} {o : Oper} {x0 x1 x2 x3 : Operand} {f0 f1 f2 f3 f4 f5 : Fn} {a0 a1 a2 a3 a4 a5 b0 b1 b2 b3 b4 b5 : Array Value} {u c : Nat} {k : Int} {w : World} (ho : o.op = .build 81 #[(0, x0), (1, x1), (2, x2), (3, x3)]) (h0 : ρ x0 = .agg ([Value.func f0 a0 b0, Value.func f1 a1 b1, Value.func f2 a2 b2, Value.func f3 a3 b3, Value.func f4 a4 b4] ++ cel [u]).toArray) (h1 : ρ x1 = N c) (h2 : ρ x2 = .func f5 a5 b5) (h3 : ρ x3 = .int .i64 k) : (execOp ρ o).run Tryz.prog w = .ok (.value (.agg ([Value.func f0 a0 b0, Value.func f1 a1 b1, Value.func f2 a2 b2, Value.func f3 a3 b3, Value.func f4 a4 b4] ++ (cel [u, c] ++ [Value.func f5 a5 b5, Value.int .i64 k])).toArray)) w := by
 simp only [cel, List.cons_append, List.nil_append] at h0
 simp only [execOp, ho, cel, List.cons_append, List.nil_append]
 go_simp
theorem ex_buildGE {ρ : Operand → Value} {o : Oper} {x0 x1 x2 x3 : Operand} {f0 f1 f2 f3 f4 f5 : Fn} {a0 a1 a2 a3 a4 a5 b0 b1 b2 b3 b4 b5 : Array Value} {u0 u1 c0 c1 : Nat} {k : Int} {w : World} (ho : o.op = .build 101 #[(0, x0), (1, x1), (2, x2), (3, x3)]) (h0 : ρ x0 = .agg ([Value.func f0 a0 b0, Value.func f1 a1 b1, Value.func f2 a2 b2, Value.func f3 a3 b3, Value.func f4 a4 b4] ++ cel [u0, u1]).toArray) (h1 : ρ x1 = V [c0, c1]) (h2 : ρ x2 = .func f5 a5 b5) (h3 : ρ x3 = .int .i64 k) : (execOp ρ o).run Tryz.prog w = .ok (.value (.agg ([Value.func f0 a0 b0, Value.func f1 a1 b1, Value.func f2 a2 b2, Value.func f3 a3 b3, Value.func f4 a4 b4] ++ (cel [u0, u1, c0, c1] ++ [Value.func f5 a5 b5, Value.int .i64 k])).toArray)) w := by
 simp only [V, cel, List.cons_append, List.nil_append] at h0 h1
 simp only [execOp, ho, cel, List.cons_append, List.nil_append]
 go_simp
theorem number_gen (sv : Value) (y : Nat) (ca : ∀ w, Calls Tryz.prog 92 #[sv] w (Rt w (.tuple #[N y, .int .i64 0]))) (w : World) :
  Calls Tryz.prog 51 #[sv] w (Rt w (N y)) := by
 have H0 : Hid (_ ∧ _) := ⟨Mm.nil w, Below.refl w.heap.size w⟩
 have CA : Hid _ := ca
 clear ca
 go_enter Tryz.func51, Tryz.ntmps51
 refine wp_seq ?_
 refine zC 1 [.made zero6 24] (sB H0) ?ho1 ?he1
 case ho1 => exact am (zJ rfl) trivial
 intro γ w1 l hM hl
 have H1 : Hid (Mm w1 [(γ 0, zero6)] ∧ _) := wB H0 hM hl [0]
 have o1_0 := vB H0 hM hl 0
 clear hM hl l
 generalize γ 0 = γ1_0 at H1 o1_0 ⊢
 clear γ
 refine rN (wp_seq ?_)
 refine zC 8 [.quiet (sv), .call (.tuple #[N y, .int .i64 0]), .quiet (.tuple #[N y, .int .i64 0]), .quiet (N y), .quiet (.int .i64 0), .made zero6 24, .laid 5 zero6 (zD y), .quiet (.int .i64 0)] (sB H1) ?ho2 ?he2 (hL := ?hL2)
 case hL2 => exact ⟨⟨_, rfl⟩, trivial⟩
 case ho2 => exact ar (ac (fun w' h => eC call92 (CA.out w')) (ar (ag (ag (am (zJ rfl) (ak (fun γ => ⟨rfl, rfl, rfl, fun w' h => zN h rfl rfl rfl⟩) (ar trivial)))))))
 intro γ w2 l hM hl
 have H2 : Hid (Mm w2 ([(γ 5, zD y)] ++ _) ∧ _) := wB H1 hM hl [5]
 have o2_5 := vB H1 hM hl 5
 clear hM hl l H1
 generalize γ 5 = γ2_5 at H2 o2_5 ⊢
 clear γ
 refine rN (wp_seq ?_)
 refine zB 1 [.quiet (N y)] H2 ?ho3 ?he3
 case ho3 => exact bN 0 trivial
 intro _ w3 H3
 clear H2
 refine zF (l := [1]) rfl ?_
 refine sG rfl (fun h => zO h 1 rfl rfl rfl rfl (Nat.le_of_ble_eq_true rfl)) 1 [_, (_, zD y)] H3 o1_0 fun w4 H4 => ?_
 clear H3
 refine zE (zA (wp_ret ?_))
 repeat (first | refine zM ?_ | refine zI ?_)
 have c0 := H4.out.1.get 1 rfl 0 rfl
 have c1 := H4.out.1.get 1 rfl 1 rfl
 have c2 := H4.out.1.get 1 rfl 2 rfl
 have c3 := H4.out.1.get 1 rfl 3 rfl
 have c4 := H4.out.1.get 1 rfl 4 rfl
 have c5 := H4.out.1.get 1 rfl 5 rfl
 refine bodyPost_ret (v := N y) (by simp [results, Tryz.results51, go_sem, *]) rfl ?_
 exact ⟨rfl, H4.out.2⟩
def bs_gx : ByteArray := ⟨#[49, 55, 102, 49, 100, 51, 97, 55, 51, 49, 57, 55, 100, 55, 57, 52, 50, 54, 57, 53, 54, 51, 56, 99, 52, 102, 97, 57, 97, 99, 48, 102, 99, 51, 54, 56, 56, 99, 52, 102, 57, 55, 55, 52, 98, 57, 48, 53, 97, 49, 52, 101, 51, 97, 51, 102, 49, 55, 49, 98, 97, 99, 53, 56, 54, 99, 53, 53, 101, 56, 51, 102, 102, 57, 55, 97, 49, 97, 101, 102, 102, 98, 51, 97, 102, 48, 48, 97, 100, 98, 50, 50, 99, 54, 98, 98]⟩
def gx : Nat := 3685416753713387016781088315183077757961620795782546409894578378688607592378376318836054947676345821548104185464507
theorem parse_gx (w : World) : Calls Tryz.prog 92 #[.string bs_gx] w (Rt w (.tuple #[N gx, .int .i64 0])) := by
 have h := parse_loop bs_gx (by decide +kernel) (by decide +kernel) (Or.inl (by decide +kernel)) w
 have e : prv bs_gx = .tuple #[N gx, .int .i64 0] := by
  unfold prv
  rw [if_pos (by decide +kernel), show pvv bs_gx bs_gx.size = gx by decide +kernel]
 rw [e] at h
 exact h
theorem numb_gx (w : World) : Calls Tryz.prog 51 #[.string bs_gx] w (Rt w (N gx)) := number_gen _ gx parse_gx w
def bs_gy : ByteArray := ⟨#[56, 98, 51, 102, 52, 56, 49, 101, 51, 97, 97, 97, 48, 102, 49, 97, 48, 57, 101, 51, 48, 101, 100, 55, 52, 49, 100, 56, 97, 101, 52, 102, 99, 102, 53, 101, 48, 57, 53, 100, 53, 100, 48, 48, 97, 102, 54, 48, 48, 100, 98, 49, 56, 99, 98, 50, 99, 48, 52, 98, 51, 101, 100, 100, 48, 51, 99, 99, 55, 52, 52, 97, 50, 56, 56, 56, 97, 101, 52, 48, 99, 97, 97, 50, 51, 50, 57, 52, 54, 99, 53, 101, 55, 101, 49]⟩
def gy : Nat := 1339506544944476473020471379941921221584933875938349620426543736416511423956333506472724655353366534992391756441569
theorem parse_gy (w : World) : Calls Tryz.prog 92 #[.string bs_gy] w (Rt w (.tuple #[N gy, .int .i64 0])) := by
 have h := parse_loop bs_gy (by decide +kernel) (by decide +kernel) (Or.inl (by decide +kernel)) w
 have e : prv bs_gy = .tuple #[N gy, .int .i64 0] := by
  unfold prv
  rw [if_pos (by decide +kernel), show pvv bs_gy bs_gy.size = gy by decide +kernel]
 rw [e] at h
 exact h
theorem numb_gy (w : World) : Calls Tryz.prog 51 #[.string bs_gy] w (Rt w (N gy)) := number_gen _ gy parse_gy w
def bs_hx0 : ByteArray := ⟨#[50, 52, 97, 97, 50, 98, 50, 102, 48, 56, 102, 48, 97, 57, 49, 50, 54, 48, 56, 48, 53, 50, 55, 50, 100, 99, 53, 49, 48, 53, 49, 99, 54, 101, 52, 55, 97, 100, 52, 102, 97, 52, 48, 51, 98, 48, 50, 98, 52, 53, 49, 48, 98, 54, 52, 55, 97, 101, 51, 100, 49, 55, 55, 48, 98, 97, 99, 48, 51, 50, 54, 97, 56, 48, 53, 98, 98, 101, 102, 100, 52, 56, 48, 53, 54, 99, 56, 99, 49, 50, 49, 98, 100, 98, 56]⟩
def hx0 : Nat := 352701069587466618187139116011060144890029952792775240219908644239793785735715026873347600343865175952761926303160
theorem parse_hx0 (w : World) : Calls Tryz.prog 92 #[.string bs_hx0] w (Rt w (.tuple #[N hx0, .int .i64 0])) := by
 have h := parse_loop bs_hx0 (by decide +kernel) (by decide +kernel) (Or.inl (by decide +kernel)) w
 have e : prv bs_hx0 = .tuple #[N hx0, .int .i64 0] := by
  unfold prv
  rw [if_pos (by decide +kernel), show pvv bs_hx0 bs_hx0.size = hx0 by decide +kernel]
 rw [e] at h
 exact h
theorem numb_hx0 (w : World) : Calls Tryz.prog 51 #[.string bs_hx0] w (Rt w (N hx0)) := number_gen _ hx0 parse_hx0 w
def bs_hx1 : ByteArray := ⟨#[49, 51, 101, 48, 50, 98, 54, 48, 53, 50, 55, 49, 57, 102, 54, 48, 55, 100, 97, 99, 100, 51, 97, 48, 56, 56, 50, 55, 52, 102, 54, 53, 53, 57, 54, 98, 100, 48, 100, 48, 57, 57, 50, 48, 98, 54, 49, 97, 98, 53, 100, 97, 54, 49, 98, 98, 100, 99, 55, 102, 53, 48, 52, 57, 51, 51, 52, 99, 102, 49, 49, 50, 49, 51, 57, 52, 53, 100, 53, 55, 101, 53, 97, 99, 55, 100, 48, 53, 53, 100, 48, 52, 50, 98, 55, 101]⟩
def hx1 : Nat := 3059144344244213709971259814753781636986470325476647558659373206291635324768958432433509563104347017837885763365758
theorem parse_hx1 (w : World) : Calls Tryz.prog 92 #[.string bs_hx1] w (Rt w (.tuple #[N hx1, .int .i64 0])) := by
 have h := parse_loop bs_hx1 (by decide +kernel) (by decide +kernel) (Or.inl (by decide +kernel)) w
 have e : prv bs_hx1 = .tuple #[N hx1, .int .i64 0] := by
  unfold prv
  rw [if_pos (by decide +kernel), show pvv bs_hx1 bs_hx1.size = hx1 by decide +kernel]
 rw [e] at h
 exact h
theorem numb_hx1 (w : World) : Calls Tryz.prog 51 #[.string bs_hx1] w (Rt w (N hx1)) := number_gen _ hx1 parse_hx1 w
def bs_hy0 : ByteArray := ⟨#[99, 101, 53, 100, 53, 50, 55, 55, 50, 55, 100, 54, 101, 49, 49, 56, 99, 99, 57, 99, 100, 99, 54, 100, 97, 50, 101, 51, 53, 49, 97, 97, 100, 102, 100, 57, 98, 97, 97, 56, 99, 98, 100, 100, 51, 97, 55, 54, 100, 52, 50, 57, 97, 54, 57, 53, 49, 54, 48, 100, 49, 50, 99, 57, 50, 51, 97, 99, 57, 99, 99, 51, 98, 97, 99, 97, 50, 56, 57, 101, 49, 57, 51, 53, 52, 56, 54, 48, 56, 98, 56, 50, 56, 48, 49]⟩
def hy0 : Nat := 1985150602287291935568054521177171638300868978215655730859378665066344726373823718423869104263333984641494340347905
theorem parse_hy0 (w : World) : Calls Tryz.prog 92 #[.string bs_hy0] w (Rt w (.tuple #[N hy0, .int .i64 0])) := by
 have h := parse_loop bs_hy0 (by decide +kernel) (by decide +kernel) (Or.inl (by decide +kernel)) w
 have e : prv bs_hy0 = .tuple #[N hy0, .int .i64 0] := by
  unfold prv
  rw [if_pos (by decide +kernel), show pvv bs_hy0 bs_hy0.size = hy0 by decide +kernel]
 rw [e] at h
 exact h
theorem numb_hy0 (w : World) : Calls Tryz.prog 51 #[.string bs_hy0] w (Rt w (N hy0)) := number_gen _ hy0 parse_hy0 w
def bs_hy1 : ByteArray := ⟨#[54, 48, 54, 99, 52, 97, 48, 50, 101, 97, 55, 51, 52, 99, 99, 51, 50, 97, 99, 100, 50, 98, 48, 50, 98, 99, 50, 56, 98, 57, 57, 99, 98, 51, 101, 50, 56, 55, 101, 56, 53, 97, 55, 54, 51, 97, 102, 50, 54, 55, 52, 57, 50, 97, 98, 53, 55, 50, 101, 57, 57, 97, 98, 51, 102, 51, 55, 48, 100, 50, 55, 53, 99, 101, 99, 49, 100, 97, 49, 97, 97, 97, 57, 48, 55, 53, 102, 102, 48, 53, 102, 55, 57, 98, 101]⟩
def hy1 : Nat := 927553665492332455747201965776037880757740193453592970025027978793976877002675564980949289727957565575433344219582
theorem parse_hy1 (w : World) : Calls Tryz.prog 92 #[.string bs_hy1] w (Rt w (.tuple #[N hy1, .int .i64 0])) := by
 have h := parse_loop bs_hy1 (by decide +kernel) (by decide +kernel) (Or.inl (by decide +kernel)) w
 have e : prv bs_hy1 = .tuple #[N hy1, .int .i64 0] := by
  unfold prv
  rw [if_pos (by decide +kernel), show pvv bs_hy1 bs_hy1.size = hy1 by decide +kernel]
 rw [e] at h
 exact h
theorem numb_hy1 (w : World) : Calls Tryz.prog 51 #[.string bs_hy1] w (Rt w (N hy1)) := number_gen _ hy1 parse_hy1 w
def bs_tr : ByteArray := ⟨#[53, 102, 49, 57, 54, 55, 50, 102, 100, 102, 55, 54, 99, 101, 53, 49, 98, 97, 54, 57, 99, 54, 48, 55, 54, 97, 48, 102, 55, 55, 101, 97, 100, 100, 98, 51, 97, 57, 51, 98, 101, 54, 102, 56, 57, 54, 56, 56, 100, 101, 49, 55, 100, 56, 49, 51, 54, 50, 48, 97, 48, 48, 48, 50, 50, 101, 48, 49, 102, 102, 102, 102, 102, 102, 102, 101, 102, 102, 102, 101]⟩
def tr : Nat := 793479390729215512621379701633421447060886740281060493010456487427281649075476305620758731620350
theorem parse_tr (w : World) : Calls Tryz.prog 92 #[.string bs_tr] w (Rt w (.tuple #[N tr, .int .i64 0])) := by
 have h := parse_loop bs_tr (by decide +kernel) (by decide +kernel) (Or.inl (by decide +kernel)) w
 have e : prv bs_tr = .tuple #[N tr, .int .i64 0] := by
  unfold prv
  rw [if_pos (by decide +kernel), show pvv bs_tr bs_tr.size = tr by decide +kernel]
 rw [e] at h
 exact h
theorem numb_tr (w : World) : Calls Tryz.prog 51 #[.string bs_tr] w (Rt w (N tr)) := number_gen _ tr parse_tr w
def bs_tx1 : ByteArray := ⟨#[49, 97, 48, 49, 49, 49, 101, 97, 51, 57, 55, 102, 101, 54, 57, 57, 101, 99, 48, 50, 52, 48, 56, 54, 54, 51, 100, 52, 100, 101, 56, 53, 97, 97, 48, 100, 56, 53, 55, 100, 56, 57, 55, 53, 57, 97, 100, 52, 56, 57, 55, 100, 50, 57, 54, 53, 48, 102, 98, 56, 53, 102, 57, 98, 52, 48, 57, 52, 50, 55, 101, 98, 52, 102, 52, 57, 102, 102, 102, 100, 56, 98, 102, 100, 48, 48, 48, 48, 48, 48, 48, 48, 97, 97, 97, 100]⟩
def tx1 : Nat := 4002409555221667392624310435006688643935503118305586438271171395842971157480381377015405980053539358417135540939437
theorem parse_tx1 (w : World) : Calls Tryz.prog 92 #[.string bs_tx1] w (Rt w (.tuple #[N tx1, .int .i64 0])) := by
 have h := parse_loop bs_tx1 (by decide +kernel) (by decide +kernel) (Or.inl (by decide +kernel)) w
 have e : prv bs_tx1 = .tuple #[N tx1, .int .i64 0] := by
  unfold prv
  rw [if_pos (by decide +kernel), show pvv bs_tx1 bs_tx1.size = tx1 by decide +kernel]
 rw [e] at h
 exact h
theorem numb_tx1 (w : World) : Calls Tryz.prog 51 #[.string bs_tx1] w (Rt w (N tx1)) := number_gen _ tx1 parse_tx1 w
def bs_ty0 : ByteArray := ⟨#[49, 51, 53, 50, 48, 51, 101, 54, 48, 49, 56, 48, 97, 54, 56, 101, 101, 50, 101, 57, 99, 52, 52, 56, 100, 55, 55, 97, 50, 99, 100, 57, 49, 99, 51, 100, 101, 100, 100, 57, 51, 48, 98, 49, 99, 102, 54, 48, 101, 102, 51, 57, 54, 52, 56, 57, 102, 54, 49, 101, 98, 52, 53, 101, 51, 48, 52, 52, 54, 54, 99, 102, 51, 101, 54, 55, 102, 97, 48, 97, 102, 49, 101, 101, 55, 98, 48, 52, 49, 50, 49, 98, 100, 101, 97, 50]⟩
def ty0 : Nat := 2973677408986561043442465346520108879172042883009249989176415018091420807192182638567116318576472649347015917690530
theorem parse_ty0 (w : World) : Calls Tryz.prog 92 #[.string bs_ty0] w (Rt w (.tuple #[N ty0, .int .i64 0])) := by
 have h := parse_loop bs_ty0 (by decide +kernel) (by decide +kernel) (Or.inl (by decide +kernel)) w
 have e : prv bs_ty0 = .tuple #[N ty0, .int .i64 0] := by
  unfold prv
  rw [if_pos (by decide +kernel), show pvv bs_ty0 bs_ty0.size = ty0 by decide +kernel]
 rw [e] at h
 exact h
theorem numb_ty0 (w : World) : Calls Tryz.prog 51 #[.string bs_ty0] w (Rt w (N ty0)) := number_gen _ ty0 parse_ty0 w
def bs_ty1 : ByteArray := ⟨#[54, 97, 102, 48, 101, 48, 52, 51, 55, 102, 102, 52, 48, 48, 98, 54, 56, 51, 49, 101, 51, 54, 100, 54, 98, 100, 49, 55, 102, 102, 101, 52, 56, 51, 57, 53, 100, 97, 98, 99, 50, 100, 51, 52, 51, 53, 101, 55, 55, 102, 55, 54, 101, 49, 55, 48, 48, 57, 50, 52, 49, 99, 53, 101, 101, 54, 55, 57, 57, 50, 102, 55, 50, 101, 99, 48, 53, 102, 52, 99, 56, 49, 48, 56, 52, 102, 98, 101, 100, 101, 51, 99, 99, 48, 57]⟩
def ty1 : Nat := 1028732146235106349975324479215795277384839936929757896155643118032610843298655225875571310552543014690878354869257
theorem parse_ty1 (w : World) : Calls Tryz.prog 92 #[.string bs_ty1] w (Rt w (.tuple #[N ty1, .int .i64 0])) := by
 have h := parse_loop bs_ty1 (by decide +kernel) (by decide +kernel) (Or.inl (by decide +kernel)) w
 have e : prv bs_ty1 = .tuple #[N ty1, .int .i64 0] := by
  unfold prv
  rw [if_pos (by decide +kernel), show pvv bs_ty1 bs_ty1.size = ty1 by decide +kernel]
 rw [e] at h
 exact h
theorem numb_ty1 (w : World) : Calls Tryz.prog 51 #[.string bs_ty1] w (Rt w (N ty1)) := number_gen _ ty1 parse_ty1 w
theorem gen1_gen (qgx qgy : Nat) (cgx : ∀ w, Calls Tryz.prog 51 #[.string bs_gx] w (Rt w (N qgx))) (cgy : ∀ w, Calls Tryz.prog 51 #[.string bs_gy] w (Rt w (N qgy))) (w : World) :
  Calls Tryz.prog 13 #[] w (Rt w (.agg (zU qgx qgy false).toArray)) := by
 have H0 : Hid (_ ∧ _) := ⟨Mm.nil w, Below.refl w.heap.size w⟩
 have CGX : Hid _ := cgx
 clear cgx
 have CGY : Hid _ := cgy
 clear cgy
 go_enter Tryz.func13, Tryz.ntmps13
 refine wp_seq ?_
 refine zC 1 [.made (zU 0 0 false) 26] (sB H0) ?ho1 ?he1
 case ho1 => exact am (ex_madeP1 rfl) trivial
 intro γ w1 l hM hl
 have H1 : Hid (Mm w1 [(γ 0, zU 0 0 false)] ∧ _) := wB H0 hM hl [0]
 have o1_0 := vB H0 hM hl 0
 clear hM hl l
 generalize γ 0 = γ1_0 at H1 o1_0 ⊢
 clear γ
 refine rN (wp_seq ?_)
 refine zB 3 [.call (N qgx), .call (N qgy), .quiet (.agg (zU qgx qgy false).toArray)] H1 ?ho2 ?he2
 case ho2 => exact ac (fun w' h => eC call51 (CGX.out w')) (ac (fun w' h => eC call51 (CGY.out w')) (ak (fun γ => ⟨rfl, fun w' _ => ex_buildP1xy rfl rfl rfl⟩) trivial))
 intro _ w2 H2
 clear H1
 refine zF (l := [3]) rfl ?_
 refine sG rfl (fun h => ex_storeT (vs := zU qgx qgy false) h 0 rfl rfl rfl rfl Tryz.sizeOf26 rfl (Nat.le_of_ble_eq_true rfl)) 0 [(_, zU qgx qgy false)] H2 o1_0 fun w3 H3 => ?_
 clear H2
 refine zE (zA (wp_ret ?_))
 repeat (first | refine zM ?_ | refine zI ?_)
 have hf0 := var_T H3.out.1 0 rfl Tryz.isAgg26 Tryz.sizeOf26 rfl
 refine bodyPost_ret (v := .agg (zU qgx qgy false).toArray) (by simp [results, Tryz.results13, asAddr, hf0]) rfl ?_
 exact ⟨rfl, H3.out.2⟩
theorem gen2_gen (qhx0 qhx1 qhy0 qhy1 : Nat) (chx0 : ∀ w, Calls Tryz.prog 51 #[.string bs_hx0] w (Rt w (N qhx0))) (chx1 : ∀ w, Calls Tryz.prog 51 #[.string bs_hx1] w (Rt w (N qhx1))) (chy0 : ∀ w, Calls Tryz.prog 51 #[.string bs_hy0] w (Rt w (N qhy0))) (chy1 : ∀ w, Calls Tryz.prog 51 #[.string bs_hy1] w (Rt w (N qhy1))) (w : World) :
  Calls Tryz.prog 26 #[] w (Rt w (.agg (zV qhx0 qhx1 qhy0 qhy1 false).toArray)) := by
 have H0 : Hid (_ ∧ _) := ⟨Mm.nil w, Below.refl w.heap.size w⟩
 have CHX0 : Hid _ := chx0
 clear chx0
 have CHX1 : Hid _ := chx1
 clear chx1
 have CHY0 : Hid _ := chy0
 clear chy0
 have CHY1 : Hid _ := chy1
 clear chy1
 go_enter Tryz.func26, Tryz.ntmps26
 refine wp_seq ?_
 refine zC 1 [.made (zV 0 0 0 0 false) 42] (sB H0) ?ho1 ?he1
 case ho1 => exact am (ex_madeP2 rfl) trivial
 intro γ w1 l hM hl
 have H1 : Hid (Mm w1 [(γ 0, zV 0 0 0 0 false)] ∧ _) := wB H0 hM hl [0]
 have o1_0 := vB H0 hM hl 0
 clear hM hl l
 generalize γ 0 = γ1_0 at H1 o1_0 ⊢
 clear γ
 refine rN (wp_seq ?_)
 refine zB 7 [.call (N qhx0), .call (N qhx1), .quiet (V [qhx0, qhx1]), .call (N qhy0), .call (N qhy1), .quiet (V [qhy0, qhy1]), .quiet (.agg (zV qhx0 qhx1 qhy0 qhy1 false).toArray)] H1 ?ho2 ?he2
 case ho2 => exact ac (fun w' h => eC call51 (CHX0.out w')) (ac (fun w' h => eC call51 (CHX1.out w')) (ak (fun γ => ⟨rfl, fun w' _ => ex_buildE2 rfl rfl rfl⟩) (ac (fun w' h => eC call51 (CHY0.out w')) (ac (fun w' h => eC call51 (CHY1.out w')) (ak (fun γ => ⟨rfl, fun w' _ => ex_buildE2 rfl rfl rfl⟩) (ak (fun γ => ⟨rfl, fun w' _ => ex_buildP2xy rfl rfl rfl⟩) trivial))))))
 intro _ w2 H2
 clear H1
 refine zF (l := [7]) rfl ?_
 refine sG rfl (fun h => ex_storeT (vs := zV qhx0 qhx1 qhy0 qhy1 false) h 0 rfl rfl rfl rfl Tryz.sizeOf42 rfl (Nat.le_of_ble_eq_true rfl)) 0 [(_, zV qhx0 qhx1 qhy0 qhy1 false)] H2 o1_0 fun w3 H3 => ?_
 clear H2
 refine zE (zA (wp_ret ?_))
 repeat (first | refine zM ?_ | refine zI ?_)
 have hf0 := var_T H3.out.1 0 rfl Tryz.isAgg42 Tryz.sizeOf42 rfl
 refine bodyPost_ret (v := .agg (zV qhx0 qhx1 qhy0 qhy1 false).toArray) (by simp [results, Tryz.results26, asAddr, hf0]) rfl ?_
 exact ⟨rfl, H3.out.2⟩
set_option maxHeartbeats 2000000 in
theorem first_gen (n one four : Nat) (qtr : Nat) (ctr : ∀ w, Calls Tryz.prog 51 #[.string bs_tr] w (Rt w (N qtr))) (co : ∀ w, Calls Tryz.prog 71 #[.int .u64 1] w (Rt w (N one))) (cf : ∀ w, Calls Tryz.prog 71 #[.int .u64 4] w (Rt w (N four))) (cb : ∀ w, Calls Tryz.prog 82 #[] w (Rt w (N n))) (cn : ∀ w, Calls Tryz.prog 81 #[N n] w fun e w' => Below w.heap.size w w' ∧ ∃ g, e = .returned (.tuple #[PT g 0, .int .i64 0]) ∧ w.heap.size ≤ g ∧ g < w'.heap.size ∧ Blk w' g (yB n)) (w : World) :
  Calls Tryz.prog 47 #[] w fun e w' => Below w.heap.size w w' ∧ ∃ g x y, e = .returned (.agg (G1 g (.func (.func 88) #[] #[PT x 0, PT y 0]) one four).toArray) ∧ w.heap.size ≤ g ∧ g < w'.heap.size ∧ Blk w' g (yB n) := by
 have H0 : Hid (_ ∧ _) := ⟨Mm.nil w, Below.refl w.heap.size w⟩
 have CTR : Hid _ := ctr
 clear ctr
 have CO : Hid _ := co
 clear co
 have CF : Hid _ := cf
 clear cf
 have CB : Hid _ := cb
 clear cb
 have CN : Hid _ := cn
 clear cn
 go_enter Tryz.func47, Tryz.ntmps47
 refine wp_seq ?_
 refine zC 1 [.made ([Value.nilFunc, Value.nilFunc, Value.nilFunc, Value.nilFunc, Value.nilFunc] ++ (cel [0, 0] ++ [Value.nilFunc, Value.int .i64 0])) 81] (sB H0) ?ho1 ?he1
 case ho1 => exact am (ex_madeGN rfl) trivial
 intro γ w1 l hM hl
 have H1 : Hid (Mm w1 [(γ 0, [Value.nilFunc, Value.nilFunc, Value.nilFunc, Value.nilFunc, Value.nilFunc] ++ (cel [0, 0] ++ [Value.nilFunc, Value.int .i64 0]))] ∧ _) := wB H0 hM hl [0]
 have o1_0 := vB H0 hM hl 0
 clear hM hl l
 generalize γ 0 = γ1_0 at H1 o1_0 ⊢
 clear γ
 refine rN (wp_seq ?_)
 refine zC 2 [.call (N n), .born (fun g => .tuple #[PT g 0, .int .i64 0]) (yB n)] (sB H1) ?ho2 ?he2
 case ho2 => exact ak (fun γ => ⟨rfl, fun w' h => eC call82 (CB.out w')⟩) (ak (fun γ => ⟨rfl, fun w' h => eC call81 (CN.out w')⟩) trivial)
 intro γ w2 l hM hl
 have H2 : Hid (Mm w2 ([(γ 1, yB n)] ++ _) ∧ _) := wB H1 hM hl [1]
 have o2_1 := vB H1 hM hl 1
 clear hM hl l H1
 generalize γ 1 = γ2_1 at H2 o2_1 ⊢
 clear γ
 refine zF (l := [2, 3, 4, 5, 6, 7]) rfl ?_
 refine zG (d := 4) rfl rfl rfl rfl ?_
 simp only [Act.put, sa, sz, ss]
 refine zG (d := 7) (v := PT γ2_1 0) (w' := w2) rfl rfl rfl (by go_simp) ?_
 simp only [Act.put, sa, sz, ss]
 refine zG (d := 8) (v := .int .i64 0) (w' := w2) rfl rfl rfl (by go_simp) ?_
 simp only [Act.put, sa, sz, ss]
 refine zG (d := 1) (v := PT w2.heap.size 0) (w' := w2.alloc (.cells ([Value.pointer none] : List Value).toArray 120)) rfl rfl rfl (ex_madeQ rfl) ?_
 simp only [Act.put, sa, sz, ss]
 have o_γs3 : Hid (w.heap.size ≤ w2.heap.size) := H2.out.2.size
 have H3 : Hid (Mm (w2.alloc (.cells ([Value.pointer none] : List Value).toArray 120)) ((w2.heap.size, [Value.pointer none]) :: [(γ2_1, yB n), (γ1_0, [Value.nilFunc, Value.nilFunc, Value.nilFunc, Value.nilFunc, Value.nilFunc] ++ (cel [0, 0] ++ [Value.nilFunc, Value.int .i64 0]))]) ∧ Below w.heap.size w (w2.alloc (.cells ([Value.pointer none] : List Value).toArray 120))) := ⟨H2.out.1.alloc _ 120 rfl, H2.out.2.alloc H2.out.2.size _⟩
 clear H2
 generalize hgw : w2.alloc (.cells ([Value.pointer none] : List Value).toArray 120) = w3 at H3 ⊢
 clear hgw
 generalize w2.heap.size = γs3 at o_γs3 H3 ⊢
 refine sG rfl (fun h => ex_storeQ h 0 rfl rfl rfl rfl (Nat.le_of_ble_eq_true rfl)) 0 [(_, [PT γ2_1 0]), _, _] H3 o_γs3 fun w4 H4 => ?_
 clear H3
 refine zG (d := 2) rfl rfl rfl rfl ?_
 simp only [Act.put, sa, sz, ss]
 refine zE (zA (wp_seq ?_))
 refine zC 3 [.call (N qtr), .made zero6 24, .laid 1 zero6 (zD qtr)] (sB H4) ?ho3 ?he3 (hL := ?hL3)
 case hL3 => exact ⟨⟨_, rfl⟩, trivial⟩
 case ho3 => exact ac (fun w' h => eC call51 (CTR.out w')) (am (zJ rfl) (ak (fun γ => ⟨rfl, rfl, rfl, fun w' h => zN h rfl rfl rfl⟩) trivial))
 intro γ w5 l hM hl
 have H5 : Hid (Mm w5 ([(γ 1, zD qtr)] ++ _) ∧ _) := wB H4 hM hl [1]
 have o3_1 := vB H4 hM hl 1
 clear hM hl l H4
 generalize γ 1 = γ3_1 at H5 o3_1 ⊢
 clear γ
 refine rN (wp_seq ?_)
 refine zP 13 [.quiet (PT γ2_1 0), .quiet (.func (.func 83) #[PT γ2_1 0] #[]), .quiet (PT γ2_1 0), .quiet (.func (.func 84) #[PT γ2_1 0] #[]), .quiet (PT γ2_1 0), .quiet (.func (.func 85) #[PT γ2_1 0] #[]), .quiet (PT γ2_1 0), .quiet (.func (.func 86) #[PT γ2_1 0] #[]), .call (N one), .quiet (.agg ([Value.func (.func 83) #[PT γ2_1 0] #[], Value.func (.func 84) #[PT γ2_1 0] #[], Value.func (.func 85) #[PT γ2_1 0] #[], Value.func (.func 86) #[PT γ2_1 0] #[], Value.func (.func 87) #[] #[]] ++ cel [one]).toArray), .call (N four), .quiet (.func (.func 88) #[] #[PT γs3 0, PT γ3_1 0]), .quiet (.agg (G1 γ2_1 (.func (.func 88) #[] #[PT γs3 0, PT γ3_1 0]) one four).toArray)] H5 ?ho4 ?he4
 case ho4 => exact bC 1 Tryz.isAgg120 (ak (fun γ => ⟨rfl, fun w' _ => ex_makeM rfl (mpn rfl)⟩) (bC 1 Tryz.isAgg120 (ak (fun γ => ⟨rfl, fun w' _ => ex_makeM rfl (mpn rfl)⟩) (bC 1 Tryz.isAgg120 (ak (fun γ => ⟨rfl, fun w' _ => ex_makeM rfl (mpn rfl)⟩) (bC 1 Tryz.isAgg120 (ak (fun γ => ⟨rfl, fun w' _ => ex_makeM rfl (mpn rfl)⟩) (ac (fun w' h => eC call71 (CO.out w')) (ak (fun γ => ⟨rfl, fun w' _ => ex_buildFN rfl rfl rfl rfl rfl rfl rfl⟩) (ac (fun w' h => eC call71 (CF.out w')) (ak (fun γ => ⟨rfl, fun w' _ => ex_makeC rfl (mpn rfl)⟩) (ak (fun γ => ⟨rfl, fun w' _ => ex_buildGN rfl rfl rfl rfl rfl⟩) trivial))))))))))))
 intro _ w6 H6
 clear H5
 refine zF (l := [13]) rfl ?_
 refine sG rfl (fun h => ex_storeT (vs := G1 γ2_1 (.func (.func 88) #[] #[PT γs3 0, PT γ3_1 0]) one four) h 3 rfl rfl rfl rfl Tryz.sizeOf81 rfl (Nat.le_of_ble_eq_true rfl)) 3 [_, _, _, (_, G1 γ2_1 (.func (.func 88) #[] #[PT γs3 0, PT γ3_1 0]) one four)] H6 o1_0 fun w7 H7 => ?_
 clear H6
 refine zE (zA (wp_ret ?_))
 repeat (first | refine zM ?_ | refine zI ?_)
 have hf0 := var_T H7.out.1 3 rfl Tryz.isAgg81 Tryz.sizeOf81 rfl
 refine bodyPost_ret (v := .agg (G1 γ2_1 (.func (.func 88) #[] #[PT γs3 0, PT γ3_1 0]) one four).toArray) (by simp [results, Tryz.results47, asAddr, hf0]) rfl ?_
 exact ⟨H7.out.2, γ2_1, _, _, rfl, o2_1.out, H7.out.1.lt (List.mem_of_getElem? (i := 2) rfl), (H7.out.1.blk _ (List.mem_of_getElem? (i := 2) rfl)).2⟩
set_option maxHeartbeats 2000000 in
theorem second_gen (one four : Nat) (qtx1 qty0 qty1 : Nat) (ctx1 : ∀ w, Calls Tryz.prog 51 #[.string bs_tx1] w (Rt w (N qtx1))) (cty0 : ∀ w, Calls Tryz.prog 51 #[.string bs_ty0] w (Rt w (N qty0))) (cty1 : ∀ w, Calls Tryz.prog 51 #[.string bs_ty1] w (Rt w (N qty1))) (co : ∀ w, Calls Tryz.prog 71 #[.int .u64 1] w (Rt w (N one))) (cf : ∀ w, Calls Tryz.prog 71 #[.int .u64 4] w (Rt w (N four))) (w : World) :
  Calls Tryz.prog 62 #[] w fun e w' => Below w.heap.size w w' ∧ ∃ g x, ∃ _y : Nat, e = .returned (.agg (G2 (.func (.func 108) #[] #[PT g 0, PT x 0]) one 0 four four).toArray) ∧ w.heap.size ≤ g ∧ g < w'.heap.size ∧ Blk w' g [] := by
 have H0 : Hid (_ ∧ _) := ⟨Mm.nil w, Below.refl w.heap.size w⟩
 have CTX1 : Hid _ := ctx1
 clear ctx1
 have CTY0 : Hid _ := cty0
 clear cty0
 have CTY1 : Hid _ := cty1
 clear cty1
 have CO : Hid _ := co
 clear co
 have CF : Hid _ := cf
 clear cf
 go_enter Tryz.func62, Tryz.ntmps62
 refine wp_seq ?_
 refine zC 1 [.made ([Value.nilFunc, Value.nilFunc, Value.nilFunc, Value.nilFunc, Value.nilFunc] ++ (cel [0, 0, 0, 0] ++ [Value.nilFunc, Value.int .i64 0])) 101] (sB H0) ?ho1 ?he1
 case ho1 => exact am (ex_madeGE rfl) trivial
 intro γ w1 l hM hl
 have H1 : Hid (Mm w1 [(γ 0, [Value.nilFunc, Value.nilFunc, Value.nilFunc, Value.nilFunc, Value.nilFunc] ++ (cel [0, 0, 0, 0] ++ [Value.nilFunc, Value.int .i64 0]))] ∧ _) := wB H0 hM hl [0]
 have o1_0 := vB H0 hM hl 0
 clear hM hl l
 generalize γ 0 = γ1_0 at H1 o1_0 ⊢
 clear γ
 refine rN (wp_seq ?_)
 refine zC 10 [.quiet (N 0), .call (N qtx1), .quiet (V [0, qtx1]), .call (N qty0), .call (N qty1), .quiet (V [qty0, qty1]), .made (cel [0, 0]) 40, .made (cel [0, 0]) 40, .laid 6 (cel [0, 0]) (cel [0, qtx1]), .laid 7 (cel [0, 0]) (cel [qty0, qty1])] (sB H1) ?ho2 ?he2 (hL := ?hL2)
 case hL2 => exact ⟨⟨_, rfl⟩, ⟨_, rfl⟩, trivial⟩
 case ho2 => exact ak (by refine fun γ => ⟨rfl, fun w' h => ?_⟩; clear h; exact ex_zero6 rfl) (ac (fun w' h => eC call51 (CTX1.out w')) (ak (fun γ => ⟨rfl, fun w' _ => ex_buildE2 rfl rfl rfl⟩) (ac (fun w' h => eC call51 (CTY0.out w')) (ac (fun w' h => eC call51 (CTY1.out w')) (ak (fun γ => ⟨rfl, fun w' _ => ex_buildE2 rfl rfl rfl⟩) (am (ex_madeE2 rfl) (am (ex_madeE2 rfl) (ak (fun γ => ⟨rfl, rfl, rfl, fun w' h => ex_laidA h rfl Tryz.sizeOf40 rfl rfl rfl⟩) (ak (fun γ => ⟨rfl, rfl, rfl, fun w' h => ex_laidA h rfl Tryz.sizeOf40 rfl rfl rfl⟩) trivial)))))))))
 intro γ w2 l hM hl
 have H2 : Hid (Mm w2 ([(γ 6, cel [0, qtx1]), (γ 7, cel [qty0, qty1])] ++ _) ∧ _) := wB H1 hM hl [6, 7]
 have o2_6 := vB H1 hM hl 6
 have o2_7 := vB H1 hM hl 7
 clear hM hl l H1
 generalize γ 6 = γ2_6 at H2 o2_6 ⊢
 generalize γ 7 = γ2_7 at H2 o2_7 ⊢
 clear γ
 refine rN (wp_seq ?_)
 refine zB 8 [.call (N one), .quiet (V [one, 0]), .quiet (.agg ([Value.func (.func 103) #[] #[], Value.func (.func 104) #[] #[], Value.func (.func 105) #[] #[], Value.func (.func 106) #[] #[], Value.func (.func 107) #[] #[]] ++ cel [one, 0]).toArray), .call (N four), .call (N four), .quiet (V [four, four]), .quiet (.func (.func 108) #[] #[PT γ2_6 0, PT γ2_7 0]), .quiet (.agg (G2 (.func (.func 108) #[] #[PT γ2_6 0, PT γ2_7 0]) one 0 four four).toArray)] H2 ?ho3 ?he3
 case ho3 => exact ac (fun w' h => eC call71 (CO.out w')) (ak (fun γ => ⟨rfl, fun w' _ => ex_buildE2a rfl rfl⟩) (ak (fun γ => ⟨rfl, fun w' _ => ex_buildFE rfl rfl rfl rfl rfl rfl rfl⟩) (ac (fun w' h => eC call71 (CF.out w')) (ac (fun w' h => eC call71 (CF.out w')) (ak (fun γ => ⟨rfl, fun w' _ => ex_buildE2 rfl rfl rfl⟩) (ak (fun γ => ⟨rfl, fun w' _ => ex_makeC rfl (mpn rfl)⟩) (ak (fun γ => ⟨rfl, fun w' _ => ex_buildGE rfl rfl rfl rfl rfl⟩) trivial)))))))
 intro _ w3 H3
 clear H2
 refine zF (l := [8]) rfl ?_
 refine sG rfl (fun h => ex_storeT (vs := G2 (.func (.func 108) #[] #[PT γ2_6 0, PT γ2_7 0]) one 0 four four) h 2 rfl rfl rfl rfl Tryz.sizeOf101 rfl (Nat.le_of_ble_eq_true rfl)) 2 [_, _, (_, G2 (.func (.func 108) #[] #[PT γ2_6 0, PT γ2_7 0]) one 0 four four)] H3 o1_0 fun w4 H4 => ?_
 clear H3
 refine zE (zA (wp_ret ?_))
 repeat (first | refine zM ?_ | refine zI ?_)
 have hf0 := var_T H4.out.1 2 rfl Tryz.isAgg101 Tryz.sizeOf101 rfl
 refine bodyPost_ret (v := .agg (G2 (.func (.func 108) #[] #[PT γ2_6 0, PT γ2_7 0]) one 0 four four).toArray) (by simp [results, Tryz.results62, asAddr, hf0]) rfl ?_
 exact ⟨H4.out.2, γ2_6, _, 0, rfl, o2_6.out, H4.out.1.lt (List.mem_of_getElem? (i := 0) rfl), fun j v hj => by simp at hj⟩
theorem below_gen (a n : Nat) (r : Int) (cb : ∀ w, Calls Tryz.prog 82 #[] w (Rt w (N n))) (cc : ∀ w, Calls Tryz.prog 133 #[N a, N n] w (Rt w (.int .i64 r))) (bl : Bool) (hr : decide (r < 0) = bl) (w : World) :
  Calls Tryz.prog 87 #[N a] w (Rt w (.bool bl)) := by
 have H0 : Hid (_ ∧ _) := ⟨Mm.nil w, Below.refl w.heap.size w⟩
 have CB : Hid _ := cb
 clear cb
 have CC : Hid _ := cc
 clear cc
 have HR : Hid _ := hr
 clear hr
 go_enter Tryz.func87, Tryz.ntmps87
 refine wp_seq ?_
 refine zC 2 [.made (zD a) 24, .quiet (.bool false)] (sB H0) ?ho1 ?he1
 case ho1 => exact am (yF rfl rfl) (ar trivial)
 intro γ w1 l hM hl
 have H1 : Hid (Mm w1 [(γ 0, zD a)] ∧ _) := wB H0 hM hl [0]
 have o1_0 := vB H0 hM hl 0
 clear hM hl l
 generalize γ 0 = γ1_0 at H1 o1_0 ⊢
 clear γ
 refine rN (wp_seq ?_)
 refine zP 5 [.quiet (N a), .call (N n), .call (.int .i64 r), .quiet (.bool bl), .quiet (.bool bl)] H1 ?ho2 ?he2
 case ho2 => exact bN 0 (ac (fun w' h => eC call82 (CB.out w')) (ac (fun w' h => eC call133 (CC.out w')) (ak (by refine fun γ => ⟨rfl, fun w' h => ?_⟩; clear h; rw [← HR.out]; go_simp) (ar trivial))))
 intro _ w2 H2
 clear H1
 refine rN (wp_ret ?_)
 repeat (first | refine zM ?_ | refine zI ?_)
 refine bodyPost_ret (v := .bool bl) (by simp [results, Tryz.results87, go_sem, *]) rfl ?_
 exact ⟨rfl, H2.out.2⟩
theorem belowF_gen (a0 a1 : Nat) (ca : ∀ w, Calls Tryz.prog 87 #[N a0] w (Rt w (.bool false))) (w : World) :
  Calls Tryz.prog 107 #[V [a0, a1]] w (Rt w (.bool false)) := by
 have H0 : Hid (_ ∧ _) := ⟨Mm.nil w, Below.refl w.heap.size w⟩
 have CA : Hid _ := ca
 clear ca
 go_enter Tryz.func107, Tryz.ntmps107
 refine wp_seq ?_
 refine zC 2 [.made (cel [a0, a1]) 40, .quiet (.bool false)] (sB H0) ?ho1 ?he1
 case ho1 => exact am (ex_boxA rfl rfl) (ar trivial)
 intro γ w1 l hM hl
 have H1 : Hid (Mm w1 [(γ 0, cel [a0, a1])] ∧ _) := wB H0 hM hl [0]
 have o1_0 := vB H0 hM hl 0
 clear hM hl l
 generalize γ 0 = γ1_0 at H1 o1_0 ⊢
 clear γ
 refine rN (wp_seq ?_)
 refine zB 9 [.quiet (PT γ1_0 0), .quiet (N a0), .call (.bool false), .quiet (.bool false), .gone, .gone, .gone, .quiet (.bool false), .quiet (.bool false)] H1 ?ho2 ?he2
 case ho2 => exact ag (aq (fun w' h => zX (i := 0) h 0 rfl rfl rfl rfl) (ac (fun w' h => eC call87 (CA.out w')) (ar (ak (fun γ => rfl) (ak (fun γ => rfl) (ak (fun γ => rfl) (ag (ar trivial))))))))
 intro _ w2 H2
 clear H1
 refine rN (wp_ret ?_)
 repeat (first | refine zM ?_ | refine zI ?_)
 refine bodyPost_ret (v := .bool false) (by simp [results, Tryz.results107, go_sem, *]) rfl ?_
 exact ⟨rfl, H2.out.2⟩
theorem belowT_gen (a0 a1 : Nat) (ca : ∀ w, Calls Tryz.prog 87 #[N a0] w (Rt w (.bool true))) (b1 : Bool) (cb : ∀ w, Calls Tryz.prog 87 #[N a1] w (Rt w (.bool b1))) (w : World) :
  Calls Tryz.prog 107 #[V [a0, a1]] w (Rt w (.bool b1)) := by
 have H0 : Hid (_ ∧ _) := ⟨Mm.nil w, Below.refl w.heap.size w⟩
 have CA : Hid _ := ca
 clear ca
 have CB : Hid _ := cb
 clear cb
 go_enter Tryz.func107, Tryz.ntmps107
 refine wp_seq ?_
 refine zC 2 [.made (cel [a0, a1]) 40, .quiet (.bool false)] (sB H0) ?ho1 ?he1
 case ho1 => exact am (ex_boxA rfl rfl) (ar trivial)
 intro γ w1 l hM hl
 have H1 : Hid (Mm w1 [(γ 0, cel [a0, a1])] ∧ _) := wB H0 hM hl [0]
 have o1_0 := vB H0 hM hl 0
 clear hM hl l
 generalize γ 0 = γ1_0 at H1 o1_0 ⊢
 clear γ
 refine rN (wp_seq ?_)
 refine zB 9 [.quiet (PT γ1_0 0), .quiet (N a0), .call (.bool true), .quiet (.bool true), .quiet (PT γ1_0 6), .quiet (N a1), .call (.bool b1), .quiet (.bool b1), .quiet (.bool b1)] H1 ?ho2 ?he2
 case ho2 => exact ag (aq (fun w' h => zX (i := 0) h 0 rfl rfl rfl rfl) (ac (fun w' h => eC call87 (CA.out w')) (ar (ag (aq (fun w' h => zX (i := 1) h 0 rfl rfl rfl rfl) (ac (fun w' h => eC call87 (CB.out w')) (ag (ar trivial))))))))
 intro _ w2 H2
 clear H1
 refine rN (wp_ret ?_)
 repeat (first | refine zM ?_ | refine zI ?_)
 refine bodyPost_ret (v := .bool b1) (by simp [results, Tryz.results107, go_sem, *]) rfl ?_
 exact ⟨rfl, H2.out.2⟩
set_option maxHeartbeats 2000000 in
theorem Check_1 (one four x y : Nat) (zb bz : Bool) (cf : ∀ w, Calls Tryz.prog 47 #[] w fun e w' => Below w.heap.size w w' ∧ ∃ g x y, e = .returned (.agg (G1 g (.func (.func 88) #[] #[PT x 0, PT y 0]) one four).toArray) ∧ w.heap.size ≤ g ∧ g < w'.heap.size ∧ Blk w' g (yB pB)) (cm : ∀ g tn w, Mm w [(g, yB pB), (0, dtab)] → Calls Tryz.prog 48 #[(.agg (G1 g tn one four).toArray), .agg (zU x y zb).toArray] w (Rt w (.bool bz))) (w : World) (hm : Mm w [(0, dtab)]) :
  Calls Tryz.prog 10 #[.agg (zU x y zb).toArray] w (Rt w (.bool bz)) := by
 have H0 : Hid (_ ∧ _) := ⟨hm, Below.refl w.heap.size w⟩
 clear hm
 have CF : Hid _ := cf
 clear cf
 have CM : Hid _ := cm
 clear cm
 go_enter Tryz.func10, Tryz.ntmps10
 refine wp_seq ?_
 refine zC 2 [.made (zU x y zb) 26, .quiet (.bool false)] (sB H0) ?ho1 ?he1
 case ho1 => exact am (zW rfl rfl) (ar trivial)
 intro γ w1 l hM hl
 have H1 : Hid (Mm w1 ([(γ 0, zU x y zb)] ++ _) ∧ _) := wB H0 hM hl [0]
 have o1_0 := vB H0 hM hl 0
 clear hM hl l
 generalize γ 0 = γ1_0 at H1 o1_0 ⊢
 clear γ
 refine rN (wp_seq ?_)
 refine zS 4 [.bornX (fun g x y => .agg (G1 g (.func (.func 88) #[] #[PT x 0, PT y 0]) one four).toArray) (yB pB), .quiet (.agg (zU x y zb).toArray), .over (.bool bz) 0 (yB pB), .quiet (.bool bz)] (sB H1) ?ho2 ?he2 (hL := ?hL2)
 case hL2 => exact ⟨⟨_, rfl⟩, trivial⟩
 case ho2 => exact ak (fun γ => ⟨rfl, fun w' h => eC call47 (CF.out w')⟩) (bT 0 Tryz.isAgg26 Tryz.sizeOf26 (ak (fun γ => ⟨rfl, fun u w' h0 hge h1 hb hlt => by have h := Mm.over h0 hge h1 hb hlt; exact eC call48 (CM.out _ _ w' (h.two 0 2 rfl rfl (by decide)))⟩) (ar trivial)))
 intro γ w2 l hM hl
 have H2 : Hid (Mm w2 ([(γ 0, yB pB)] ++ _) ∧ _) := wB H1 hM hl [0]
 have o2_0 := vB H1 hM hl 0
 clear hM hl l H1
 generalize γ 0 = γ2_0 at H2 o2_0 ⊢
 generalize γ 65536 = γ2_65536
 generalize γ 131072 = γ2_131072
 clear γ
 refine rN (wp_ret ?_)
 repeat (first | refine zM ?_ | refine zI ?_)
 refine bodyPost_ret (v := .bool bz) (by simp [results, Tryz.results10, go_sem, *]) rfl ?_
 exact ⟨rfl, H2.out.2⟩
set_option maxHeartbeats 2000000 in
theorem Add_1 (one four x y v s r k : Nat) (zb zc zr : Bool) (er : Int) (cf : ∀ w, Calls Tryz.prog 47 #[] w fun e w' => Below w.heap.size w w' ∧ ∃ g x y, e = .returned (.agg (G1 g (.func (.func 88) #[] #[PT x 0, PT y 0]) one four).toArray) ∧ w.heap.size ≤ g ∧ g < w'.heap.size ∧ Blk w' g (yB pB)) (cm : ∀ g tn w, Mm w [(g, yB pB), (0, dtab)] → Calls Tryz.prog 53 #[(.agg (G1 g tn one four).toArray), .agg (zU x y zb).toArray, .agg (zU v s zc).toArray] w (Rt w (.tuple #[.agg (zU r k zr).toArray, .int .i64 er]))) (w : World) (hm : Mm w [(0, dtab)]) :
  Calls Tryz.prog 16 #[.agg (zU x y zb).toArray, .agg (zU v s zc).toArray] w (Rt w (.tuple #[.agg (zU r k zr).toArray, .int .i64 er])) := by
 have H0 : Hid (_ ∧ _) := ⟨hm, Below.refl w.heap.size w⟩
 clear hm
 have CF : Hid _ := cf
 clear cf
 have CM : Hid _ := cm
 clear cm
 go_enter Tryz.func16, Tryz.ntmps16
 refine wp_seq ?_
 refine zC 4 [.made (zU x y zb) 26, .made (zU v s zc) 26, .made (zU 0 0 false) 26, .quiet (.int .i64 0)] (sB H0) ?ho1 ?he1
 case ho1 => exact am (zW rfl rfl) (am (zW rfl rfl) (am (ex_madeP1 rfl) (ar trivial)))
 intro γ w1 l hM hl
 have H1 : Hid (Mm w1 ([(γ 0, zU x y zb), (γ 1, zU v s zc), (γ 2, zU 0 0 false)] ++ _) ∧ _) := wB H0 hM hl [0, 1, 2]
 have o1_0 := vB H0 hM hl 0
 have o1_1 := vB H0 hM hl 1
 have o1_2 := vB H0 hM hl 2
 clear hM hl l
 generalize γ 0 = γ1_0 at H1 o1_0 ⊢
 generalize γ 1 = γ1_1 at H1 o1_1 ⊢
 generalize γ 2 = γ1_2 at H1 o1_2 ⊢
 clear γ
 refine rN (wp_seq ?_)
 refine zS 10 [.bornX (fun g x y => .agg (G1 g (.func (.func 88) #[] #[PT x 0, PT y 0]) one four).toArray) (yB pB), .quiet (.agg (zU x y zb).toArray), .quiet (.agg (zU v s zc).toArray), .over (.tuple #[.agg (zU r k zr).toArray, .int .i64 er]) 0 (yB pB), .quiet (.tuple #[.agg (zU r k zr).toArray, .int .i64 er]), .quiet (.agg (zU r k zr).toArray), .quiet (.int .i64 er), .made (zU 0 0 false) 84, .laid 7 (zU 0 0 false) (zU r k zr), .quiet (.int .i64 er)] (sB H1) ?ho2 ?he2 (hL := ?hL2)
 case hL2 => exact ⟨⟨_, rfl⟩, ⟨_, rfl⟩, trivial⟩
 case ho2 => exact ak (fun γ => ⟨rfl, fun w' h => eC call47 (CF.out w')⟩) (bT 0 Tryz.isAgg26 Tryz.sizeOf26 (bT 1 Tryz.isAgg26 Tryz.sizeOf26 (ak (fun γ => ⟨rfl, fun u w' h0 hge h1 hb hlt => by have h := Mm.over h0 hge h1 hb hlt; exact eC call53 (CM.out _ _ w' (h.two 0 4 rfl rfl (by decide)))⟩) (ar (ag (ag (am (ex_madePN rfl) (ak (fun γ => ⟨rfl, rfl, rfl, fun w' h => ex_laidT h rfl rfl Tryz.sizeOf84 rfl rfl rfl⟩) (ar trivial)))))))))
 intro γ w2 l hM hl
 have H2 : Hid (Mm w2 ([(γ 0, yB pB), (γ 7, zU r k zr)] ++ _) ∧ _) := wB H1 hM hl [0, 7]
 have o2_0 := vB H1 hM hl 0
 have o2_7 := vB H1 hM hl 7
 clear hM hl l H1
 generalize γ 0 = γ2_0 at H2 o2_0 ⊢
 generalize γ 7 = γ2_7 at H2 o2_7 ⊢
 generalize γ 65536 = γ2_65536
 generalize γ 131072 = γ2_131072
 clear γ
 refine rN (wp_seq ?_)
 refine zB 2 [.quiet (.agg (zU r k zr).toArray), .quiet (.int .i64 er)] H2 ?ho3 ?he3
 case ho3 => exact bT 1 Tryz.isAgg84 Tryz.sizeOf84 (ar trivial)
 intro _ w3 H3
 clear H2
 refine zF (l := [2, 3]) rfl ?_
 refine sG rfl (fun h => ex_storeT (vs := zU r k zr) h 4 rfl rfl rfl rfl Tryz.sizeOf26 rfl (Nat.le_of_ble_eq_true rfl)) 4 [_, _, _, _, (_, zU r k zr), _] H3 o1_2 fun w4 H4 => ?_
 clear H3
 refine zG (d := 5) rfl rfl rfl rfl ?_
 simp only [Act.put, sa, sz, ss]
 refine zE (zA (wp_ret ?_))
 repeat (first | refine zM ?_ | refine zI ?_)
 have hf0 := var_T H4.out.1 4 rfl Tryz.isAgg26 Tryz.sizeOf26 rfl
 refine bodyPost_ret (v := .tuple #[.agg (zU r k zr).toArray, .int .i64 er]) (by simp [results, Tryz.results16, asAddr, Act.eval, hf0]) rfl ?_
 exact ⟨rfl, H4.out.2⟩
set_option maxHeartbeats 2000000 in
theorem Check_2 (one four x0 x1 y0 y1 : Nat) (zb bz : Bool) (cf : ∀ w, Calls Tryz.prog 62 #[] w fun e w' => Below w.heap.size w w' ∧ ∃ g x, ∃ _y : Nat, e = .returned (.agg (G2 (.func (.func 108) #[] #[PT g 0, PT x 0]) one 0 four four).toArray) ∧ w.heap.size ≤ g ∧ g < w'.heap.size ∧ Blk w' g ([])) (cm : ∀ tn w, Mm w [(0, dtab)] → Calls Tryz.prog 63 #[(.agg (G2 tn one 0 four four).toArray), .agg (zV x0 x1 y0 y1 zb).toArray] w (Rt w (.bool bz))) (w : World) (hm : Mm w [(0, dtab)]) :
  Calls Tryz.prog 23 #[.agg (zV x0 x1 y0 y1 zb).toArray] w (Rt w (.bool bz)) := by
 have H0 : Hid (_ ∧ _) := ⟨hm, Below.refl w.heap.size w⟩
 clear hm
 have CF : Hid _ := cf
 clear cf
 have CM : Hid _ := cm
 clear cm
 go_enter Tryz.func23, Tryz.ntmps23
 refine wp_seq ?_
 refine zC 2 [.made (zV x0 x1 y0 y1 zb) 42, .quiet (.bool false)] (sB H0) ?ho1 ?he1
 case ho1 => exact am (zW rfl rfl) (ar trivial)
 intro γ w1 l hM hl
 have H1 : Hid (Mm w1 ([(γ 0, zV x0 x1 y0 y1 zb)] ++ _) ∧ _) := wB H0 hM hl [0]
 have o1_0 := vB H0 hM hl 0
 clear hM hl l
 generalize γ 0 = γ1_0 at H1 o1_0 ⊢
 clear γ
 refine rN (wp_seq ?_)
 refine zS 4 [.bornX (fun g x y => .agg (G2 (.func (.func 108) #[] #[PT g 0, PT x 0]) one 0 four four).toArray) ([]), .quiet (.agg (zV x0 x1 y0 y1 zb).toArray), .over (.bool bz) 0 ([]), .quiet (.bool bz)] (sB H1) ?ho2 ?he2 (hL := ?hL2)
 case hL2 => exact ⟨⟨_, rfl⟩, trivial⟩
 case ho2 => exact ak (fun γ => ⟨rfl, fun w' h => eC call62 (CF.out w')⟩) (bT 0 Tryz.isAgg42 Tryz.sizeOf42 (ak (fun γ => ⟨rfl, fun u w' h0 hge h1 hb hlt => by have h := Mm.over h0 hge h1 hb hlt; exact eC call63 (CM.out _ w' (h.one 2 rfl))⟩) (ar trivial)))
 intro γ w2 l hM hl
 have H2 : Hid (Mm w2 ([(γ 0, [])] ++ _) ∧ _) := wB H1 hM hl [0]
 have o2_0 := vB H1 hM hl 0
 clear hM hl l H1
 generalize γ 0 = γ2_0 at H2 o2_0 ⊢
 generalize γ 65536 = γ2_65536
 clear γ
 refine rN (wp_ret ?_)
 repeat (first | refine zM ?_ | refine zI ?_)
 refine bodyPost_ret (v := .bool bz) (by simp [results, Tryz.results23, go_sem, *]) rfl ?_
 exact ⟨rfl, H2.out.2⟩
set_option maxHeartbeats 2000000 in
theorem Add_2 (one four x0 x1 y0 y1 v0 v1 s0 s1 r0 r1 k0 k1 : Nat) (zb zc zr : Bool) (er : Int) (cf : ∀ w, Calls Tryz.prog 62 #[] w fun e w' => Below w.heap.size w w' ∧ ∃ g x, ∃ _y : Nat, e = .returned (.agg (G2 (.func (.func 108) #[] #[PT g 0, PT x 0]) one 0 four four).toArray) ∧ w.heap.size ≤ g ∧ g < w'.heap.size ∧ Blk w' g ([])) (cm : ∀ tn w, Mm w [(0, dtab)] → Calls Tryz.prog 66 #[(.agg (G2 tn one 0 four four).toArray), .agg (zV x0 x1 y0 y1 zb).toArray, .agg (zV v0 v1 s0 s1 zc).toArray] w (Rt w (.tuple #[.agg (zV r0 r1 k0 k1 zr).toArray, .int .i64 er]))) (w : World) (hm : Mm w [(0, dtab)]) :
  Calls Tryz.prog 29 #[.agg (zV x0 x1 y0 y1 zb).toArray, .agg (zV v0 v1 s0 s1 zc).toArray] w (Rt w (.tuple #[.agg (zV r0 r1 k0 k1 zr).toArray, .int .i64 er])) := by
 have H0 : Hid (_ ∧ _) := ⟨hm, Below.refl w.heap.size w⟩
 clear hm
 have CF : Hid _ := cf
 clear cf
 have CM : Hid _ := cm
 clear cm
 go_enter Tryz.func29, Tryz.ntmps29
 refine wp_seq ?_
 refine zC 4 [.made (zV x0 x1 y0 y1 zb) 42, .made (zV v0 v1 s0 s1 zc) 42, .made (zV 0 0 0 0 false) 42, .quiet (.int .i64 0)] (sB H0) ?ho1 ?he1
 case ho1 => exact am (zW rfl rfl) (am (zW rfl rfl) (am (ex_madeP2 rfl) (ar trivial)))
 intro γ w1 l hM hl
 have H1 : Hid (Mm w1 ([(γ 0, zV x0 x1 y0 y1 zb), (γ 1, zV v0 v1 s0 s1 zc), (γ 2, zV 0 0 0 0 false)] ++ _) ∧ _) := wB H0 hM hl [0, 1, 2]
 have o1_0 := vB H0 hM hl 0
 have o1_1 := vB H0 hM hl 1
 have o1_2 := vB H0 hM hl 2
 clear hM hl l
 generalize γ 0 = γ1_0 at H1 o1_0 ⊢
 generalize γ 1 = γ1_1 at H1 o1_1 ⊢
 generalize γ 2 = γ1_2 at H1 o1_2 ⊢
 clear γ
 refine rN (wp_seq ?_)
 refine zS 10 [.bornX (fun g x y => .agg (G2 (.func (.func 108) #[] #[PT g 0, PT x 0]) one 0 four four).toArray) ([]), .quiet (.agg (zV x0 x1 y0 y1 zb).toArray), .quiet (.agg (zV v0 v1 s0 s1 zc).toArray), .over (.tuple #[.agg (zV r0 r1 k0 k1 zr).toArray, .int .i64 er]) 0 ([]), .quiet (.tuple #[.agg (zV r0 r1 k0 k1 zr).toArray, .int .i64 er]), .quiet (.agg (zV r0 r1 k0 k1 zr).toArray), .quiet (.int .i64 er), .made (zV 0 0 0 0 false) 104, .laid 7 (zV 0 0 0 0 false) (zV r0 r1 k0 k1 zr), .quiet (.int .i64 er)] (sB H1) ?ho2 ?he2 (hL := ?hL2)
 case hL2 => exact ⟨⟨_, rfl⟩, ⟨_, rfl⟩, trivial⟩
 case ho2 => exact ak (fun γ => ⟨rfl, fun w' h => eC call62 (CF.out w')⟩) (bT 0 Tryz.isAgg42 Tryz.sizeOf42 (bT 1 Tryz.isAgg42 Tryz.sizeOf42 (ak (fun γ => ⟨rfl, fun u w' h0 hge h1 hb hlt => by have h := Mm.over h0 hge h1 hb hlt; exact eC call66 (CM.out _ w' (h.one 4 rfl))⟩) (ar (ag (ag (am (ex_madePE rfl) (ak (fun γ => ⟨rfl, rfl, rfl, fun w' h => ex_laidT h rfl rfl Tryz.sizeOf104 rfl rfl rfl⟩) (ar trivial)))))))))
 intro γ w2 l hM hl
 have H2 : Hid (Mm w2 ([(γ 0, []), (γ 7, zV r0 r1 k0 k1 zr)] ++ _) ∧ _) := wB H1 hM hl [0, 7]
 have o2_0 := vB H1 hM hl 0
 have o2_7 := vB H1 hM hl 7
 clear hM hl l H1
 generalize γ 0 = γ2_0 at H2 o2_0 ⊢
 generalize γ 7 = γ2_7 at H2 o2_7 ⊢
 generalize γ 65536 = γ2_65536
 clear γ
 refine rN (wp_seq ?_)
 refine zB 2 [.quiet (.agg (zV r0 r1 k0 k1 zr).toArray), .quiet (.int .i64 er)] H2 ?ho3 ?he3
 case ho3 => exact bT 1 Tryz.isAgg104 Tryz.sizeOf104 (ar trivial)
 intro _ w3 H3
 clear H2
 refine zF (l := [2, 3]) rfl ?_
 refine sG rfl (fun h => ex_storeT (vs := zV r0 r1 k0 k1 zr) h 4 rfl rfl rfl rfl Tryz.sizeOf42 rfl (Nat.le_of_ble_eq_true rfl)) 4 [_, _, _, _, (_, zV r0 r1 k0 k1 zr), _] H3 o1_2 fun w4 H4 => ?_
 clear H3
 refine zG (d := 5) rfl rfl rfl rfl ?_
 simp only [Act.put, sa, sz, ss]
 refine zE (zA (wp_ret ?_))
 repeat (first | refine zM ?_ | refine zI ?_)
 have hf0 := var_T H4.out.1 4 rfl Tryz.isAgg42 Tryz.sizeOf42 rfl
 refine bodyPost_ret (v := .tuple #[.agg (zV r0 r1 k0 k1 zr).toArray, .int .i64 er]) (by simp [results, Tryz.results29, asAddr, Act.eval, hf0]) rfl ?_
 exact ⟨rfl, H4.out.2⟩
set_option maxHeartbeats 2000000 in
theorem awake_gen (ma0 ma1 md0 md1 mh0 mh1 mh2 mh3 nn : Nat) (maz mhz : Bool) (c0 : ∀ w, Calls Tryz.prog 13 #[] w (Rt w (.agg (zU ma0 ma1 maz).toArray))) (c1 : ∀ w, Mm w [(0, dtab)] → Calls Tryz.prog 16 #[.agg (zU ma0 ma1 maz).toArray, .agg (zU ma0 ma1 maz).toArray] w (Rt w (.tuple #[.agg (zU md0 md1 false).toArray, .int .i64 0]))) (c2 : ∀ w, Calls Tryz.prog 71 #[.int .u64 2] w (Rt w (N nn))) (c3 : ∀ w, Mm w [(0, dtab)] → Calls Tryz.prog 17 #[.agg (zU ma0 ma1 maz).toArray, N nn] w (Rt w (.tuple #[.agg (zU md0 md1 false).toArray, .int .i64 0]))) (c4 : ∀ w, Mm w [(0, dtab)] → Calls Tryz.prog 10 #[.agg (zU ma0 ma1 maz).toArray] w (Rt w (.bool true))) (c5 : ∀ w, Calls Tryz.prog 26 #[] w (Rt w (.agg (zV mh0 mh1 mh2 mh3 mhz).toArray))) (c6 : ∀ w, Mm w [(0, dtab)] → Calls Tryz.prog 23 #[.agg (zV mh0 mh1 mh2 mh3 mhz).toArray] w (Rt w (.bool true))) (e0 : ∀ w, (Op.equalIn 10000 26 (.agg (zU md0 md1 false).toArray) (.agg (zU md0 md1 false).toArray)).run Tryz.prog w = .ok true w) (w : World) (hm : Mm w [(0, dtab)]) :
  Calls Tryz.prog 35 #[] w (Rt w (.bool true)) := by
 have H0 : Hid (_ ∧ _) := ⟨hm, Below.refl w.heap.size w⟩
 clear hm
 have C0 : Hid _ := c0
 clear c0
 have C1 : Hid _ := c1
 clear c1
 have C2 : Hid _ := c2
 clear c2
 have C3 : Hid _ := c3
 clear c3
 have C4 : Hid _ := c4
 clear c4
 have C5 : Hid _ := c5
 clear c5
 have C6 : Hid _ := c6
 clear c6
 have E0 : Hid _ := e0
 clear e0
 go_enter Tryz.func35, Tryz.ntmps35
 refine wp_seq ?_
 refine zB 1 [.quiet (.bool false)] H0 ?ho1 ?he1
 case ho1 => exact ar trivial
 intro _ w1 H1
 refine rN (wp_seq ?_)
 refine zC 9 [.call (.agg (zU ma0 ma1 maz).toArray), .call (.agg (zU ma0 ma1 maz).toArray), .call (.tuple #[.agg (zU md0 md1 false).toArray, .int .i64 0]), .quiet (.tuple #[.agg (zU md0 md1 false).toArray, .int .i64 0]), .quiet (.agg (zU md0 md1 false).toArray), .quiet (.int .i64 0), .made (zU 0 0 false) 26, .laid 6 (zU 0 0 false) (zU md0 md1 false), .quiet (.int .i64 0)] (sB H1) ?ho2 ?he2 (hL := ?hL2)
 case hL2 => exact ⟨⟨_, rfl⟩, trivial⟩
 case ho2 => exact ac (fun w' h => eC call13 (C0.out w')) (ac (fun w' h => eC call13 (C0.out w')) (ac (fun w' h => eC call16 (C1.out w' (h.one 0 rfl))) (ar (ag (ag (am (ex_madeP1 rfl) (ak (fun γ => ⟨rfl, rfl, rfl, fun w' h => ex_laidT h rfl rfl Tryz.sizeOf26 rfl rfl rfl⟩) (ar trivial))))))))
 intro γ w2 l hM hl
 have H2 : Hid (Mm w2 ([(γ 6, zU md0 md1 false)] ++ _) ∧ _) := wB H1 hM hl [6]
 have o2_6 := vB H1 hM hl 6
 clear hM hl l H1
 generalize γ 6 = γ2_6 at H2 o2_6 ⊢
 clear γ
 refine rN (wp_seq ?_)
 refine zC 9 [.call (.agg (zU ma0 ma1 maz).toArray), .call (N nn), .call (.tuple #[.agg (zU md0 md1 false).toArray, .int .i64 0]), .quiet (.tuple #[.agg (zU md0 md1 false).toArray, .int .i64 0]), .quiet (.agg (zU md0 md1 false).toArray), .quiet (.int .i64 0), .made (zU 0 0 false) 26, .laid 6 (zU 0 0 false) (zU md0 md1 false), .quiet (.int .i64 0)] (sB H2) ?ho3 ?he3 (hL := ?hL3)
 case hL3 => exact ⟨⟨_, rfl⟩, trivial⟩
 case ho3 => exact ac (fun w' h => eC call13 (C0.out w')) (ac (fun w' h => eC call71 (C2.out w')) (ac (fun w' h => eC call17 (C3.out w' (h.one 1 rfl))) (ar (ag (ag (am (ex_madeP1 rfl) (ak (fun γ => ⟨rfl, rfl, rfl, fun w' h => ex_laidT h rfl rfl Tryz.sizeOf26 rfl rfl rfl⟩) (ar trivial))))))))
 intro γ w3 l hM hl
 have H3 : Hid (Mm w3 ([(γ 6, zU md0 md1 false)] ++ _) ∧ _) := wB H2 hM hl [6]
 have o3_6 := vB H2 hM hl 6
 clear hM hl l H2
 generalize γ 6 = γ3_6 at H3 o3_6 ⊢
 clear γ
 refine rN (wp_seq ?_)
 refine zB 25 [.call (.agg (zU ma0 ma1 maz).toArray), .call (.bool true), .quiet (.bool true), .call (.agg (zV mh0 mh1 mh2 mh3 mhz).toArray), .call (.bool true), .quiet (.bool true), .quiet (.bool true), .quiet (.agg (zU md0 md1 false).toArray), .quiet (.agg (zU md0 md1 false).toArray), .quiet (.bool true), .quiet (.bool true), .quiet (.bool true), .quiet (PT γ2_6 12), .quiet (.bool false), .quiet (.bool true), .quiet (.bool true), .quiet (.bool true), .quiet (.int .i64 0), .quiet (.bool true), .quiet (.bool true), .quiet (.bool true), .quiet (.int .i64 0), .quiet (.bool true), .quiet (.bool true), .quiet (.bool true)] H3 ?ho4 ?he4 (hL := ?hL4)
 case hL4 => exact trivial
 case ho4 => exact ac (fun w' h => eC call13 (C0.out w')) (ac (fun w' h => eC call10 (C4.out w' (h.one 2 rfl))) (ar (ac (fun w' h => eC call26 (C5.out w')) (ac (fun w' h => eC call23 (C6.out w' (h.one 2 rfl))) (ag (ar (bT 1 Tryz.isAgg26 Tryz.sizeOf26 (bT 0 Tryz.isAgg26 Tryz.sizeOf26 (ak (fun γ => ⟨rfl, fun w' _ => exec_eqT26 E0.out rfl rfl rfl⟩) (ag (ar (ag (bC 1 Tryz.isAgg4 (ag (ag (ar (ar (ag (ag (ar (ar (ag (ag (ar trivial))))))))))))))))))))))))
 intro _ w4 H4
 clear H3
 refine rN (wp_ret ?_)
 repeat (first | refine zM ?_ | refine zI ?_)
 refine bodyPost_ret (v := .bool true) (by simp [results, Tryz.results35, go_sem, *]) rfl ?_
 exact ⟨rfl, H4.out.2⟩
set_option maxHeartbeats 4000000 in
theorem times_0 (m n m1 m2 n1 n2 sm pl ph ma0 ma1 mb0 mb1 mb2 mb3 mc0 mc1 md0 md1 me0 me1 mf0 mf1 mg0 mg1 mg2 mg3 mh0 mh1 mh2 mh3 mi0 mi1 mi2 mi3 mj0 mj1 mj2 mj3 : Nat) (cx maz mbz mcz mdz mez mfz mgz mhz miz mjz : Bool) (c0 : ∀ w, Mm w [(0, dtab)] → Calls Tryz.prog 35 #[] w (Rt w (.bool true))) (c1 : ∀ w, Calls Tryz.prog 36 #[N m, .int .i64 194] w (Rt w (N m1))) (c2 : ∀ w, Calls Tryz.prog 36 #[N m1, .int .i64 (-194)] w (Rt w (N m2))) (c3 : ∀ w, Calls Tryz.prog 36 #[N n, .int .i64 194] w (Rt w (N n1))) (c4 : ∀ w, Calls Tryz.prog 36 #[N n1, .int .i64 (-194)] w (Rt w (N n2))) (c5 : ∀ w, Calls Tryz.prog 37 #[N m2, N n2] w (Rt w (.tuple #[N sm, .bool cx]))) (c6 : ∀ w, Calls Tryz.prog 38 #[N m2, N n2] w (Rt w (.tuple #[N pl, N ph]))) (c7 : ∀ w, Mm w [(0, dtab)] → Calls Tryz.prog 10 #[.agg (zU ma0 ma1 maz).toArray] w (Rt w (.bool true))) (c8 : ∀ w, Mm w [(0, dtab)] → Calls Tryz.prog 23 #[.agg (zV mb0 mb1 mb2 mb3 mbz).toArray] w (Rt w (.bool true))) (c9 : ∀ w, Mm w [(0, dtab)] → Calls Tryz.prog 17 #[.agg (zU ma0 ma1 maz).toArray, N m2] w (Rt w (.tuple #[.agg (zU mc0 mc1 mcz).toArray, .int .i64 0]))) (c10 : ∀ w, Mm w [(0, dtab)] → Calls Tryz.prog 17 #[.agg (zU ma0 ma1 maz).toArray, N n2] w (Rt w (.tuple #[.agg (zU md0 md1 mdz).toArray, .int .i64 0]))) (c11 : ∀ w, Mm w [(0, dtab)] → Calls Tryz.prog 17 #[.agg (zU ma0 ma1 maz).toArray, N sm] w (Rt w (.tuple #[.agg (zU me0 me1 mez).toArray, .int .i64 0]))) (c12 : ∀ w, Mm w [(0, dtab)] → Calls Tryz.prog 16 #[.agg (zU mc0 mc1 mcz).toArray, .agg (zU md0 md1 mdz).toArray] w (Rt w (.tuple #[.agg (zU me0 me1 mez).toArray, .int .i64 0]))) (c13 : ∀ w, Mm w [(0, dtab)] → Calls Tryz.prog 17 #[.agg (zU mc0 mc1 mcz).toArray, N n2] w (Rt w (.tuple #[.agg (zU mf0 mf1 mfz).toArray, .int .i64 0]))) (c14 : ∀ w, Mm w [(0, dtab)] → Calls Tryz.prog 17 #[.agg (zU ma0 ma1 maz).toArray, N pl] w (Rt w (.tuple #[.agg (zU mf0 mf1 mfz).toArray, .int .i64 0]))) (c15 : ∀ w, Mm w [(0, dtab)] → Calls Tryz.prog 30 #[.agg (zV mb0 mb1 mb2 mb3 mbz).toArray, N m2] w (Rt w (.tuple #[.agg (zV mg0 mg1 mg2 mg3 mgz).toArray, .int .i64 0]))) (c16 : ∀ w, Mm w [(0, dtab)] → Calls Tryz.prog 30 #[.agg (zV mb0 mb1 mb2 mb3 mbz).toArray, N n2] w (Rt w (.tuple #[.agg (zV mh0 mh1 mh2 mh3 mhz).toArray, .int .i64 0]))) (c17 : ∀ w, Mm w [(0, dtab)] → Calls Tryz.prog 30 #[.agg (zV mb0 mb1 mb2 mb3 mbz).toArray, N sm] w (Rt w (.tuple #[.agg (zV mi0 mi1 mi2 mi3 miz).toArray, .int .i64 0]))) (c18 : ∀ w, Mm w [(0, dtab)] → Calls Tryz.prog 29 #[.agg (zV mg0 mg1 mg2 mg3 mgz).toArray, .agg (zV mh0 mh1 mh2 mh3 mhz).toArray] w (Rt w (.tuple #[.agg (zV mi0 mi1 mi2 mi3 miz).toArray, .int .i64 0]))) (c19 : ∀ w, Mm w [(0, dtab)] → Calls Tryz.prog 30 #[.agg (zV mg0 mg1 mg2 mg3 mgz).toArray, N n2] w (Rt w (.tuple #[.agg (zV mj0 mj1 mj2 mj3 mjz).toArray, .int .i64 0]))) (c20 : ∀ w, Mm w [(0, dtab)] → Calls Tryz.prog 30 #[.agg (zV mb0 mb1 mb2 mb3 mbz).toArray, N pl] w (Rt w (.tuple #[.agg (zV mj0 mj1 mj2 mj3 mjz).toArray, .int .i64 0]))) (e0 : ∀ w, (Op.equalIn 10000 26 (.agg (zU me0 me1 mez).toArray) (.agg (zU me0 me1 mez).toArray)).run Tryz.prog w = .ok true w) (e1 : ∀ w, (Op.equalIn 10000 26 (.agg (zU mf0 mf1 mfz).toArray) (.agg (zU mf0 mf1 mfz).toArray)).run Tryz.prog w = .ok true w) (f0 : ∀ w, (Op.equalIn 10000 42 (.agg (zV mi0 mi1 mi2 mi3 miz).toArray) (.agg (zV mi0 mi1 mi2 mi3 miz).toArray)).run Tryz.prog w = .ok true w) (f1 : ∀ w, (Op.equalIn 10000 42 (.agg (zV mj0 mj1 mj2 mj3 mjz).toArray) (.agg (zV mj0 mj1 mj2 mj3 mjz).toArray)).run Tryz.prog w = .ok true w) (w : World) (hm : Mm w [(0, dtab)]) :
  Calls Tryz.prog 7 #[.agg (zU ma0 ma1 maz).toArray, .agg (zV mb0 mb1 mb2 mb3 mbz).toArray, N m, N n] w (Rt w (.bool true)) := by
 have H0 : Hid (_ ∧ _) := ⟨hm, Below.refl w.heap.size w⟩
 clear hm
 have C0 : Hid _ := c0
 clear c0
 have C1 : Hid _ := c1
 clear c1
 have C2 : Hid _ := c2
 clear c2
 have C3 : Hid _ := c3
 clear c3
 have C4 : Hid _ := c4
 clear c4
 have C5 : Hid _ := c5
 clear c5
 have C6 : Hid _ := c6
 clear c6
 have C7 : Hid _ := c7
 clear c7
 have C8 : Hid _ := c8
 clear c8
 have C9 : Hid _ := c9
 clear c9
 have C10 : Hid _ := c10
 clear c10
 have C11 : Hid _ := c11
 clear c11
 have C12 : Hid _ := c12
 clear c12
 have C13 : Hid _ := c13
 clear c13
 have C14 : Hid _ := c14
 clear c14
 have C15 : Hid _ := c15
 clear c15
 have C16 : Hid _ := c16
 clear c16
 have C17 : Hid _ := c17
 clear c17
 have C18 : Hid _ := c18
 clear c18
 have C19 : Hid _ := c19
 clear c19
 have C20 : Hid _ := c20
 clear c20
 have E0 : Hid _ := e0
 clear e0
 have E1 : Hid _ := e1
 clear e1
 have F0 : Hid _ := f0
 clear f0
 have F1 : Hid _ := f1
 clear f1
 go_enter Tryz.func7, Tryz.ntmps7
 refine wp_seq ?_
 refine zC 5 [.made (zU ma0 ma1 maz) 26, .made (zV mb0 mb1 mb2 mb3 mbz) 42, .made (zD m) 24, .made (zD n) 24, .quiet (.bool false)] (sB H0) ?ho1 ?he1
 case ho1 => exact am (zW rfl rfl) (am (zW rfl rfl) (am (yF rfl rfl) (am (yF rfl rfl) (ar trivial))))
 intro γ w1 l hM hl
 have H1 : Hid (Mm w1 ([(γ 0, zU ma0 ma1 maz), (γ 1, zV mb0 mb1 mb2 mb3 mbz), (γ 2, zD m), (γ 3, zD n)] ++ _) ∧ _) := wB H0 hM hl [0, 1, 2, 3]
 have o1_0 := vB H0 hM hl 0
 have o1_1 := vB H0 hM hl 1
 have o1_2 := vB H0 hM hl 2
 have o1_3 := vB H0 hM hl 3
 clear hM hl l
 generalize γ 0 = γ1_0 at H1 o1_0 ⊢
 generalize γ 1 = γ1_1 at H1 o1_1 ⊢
 generalize γ 2 = γ1_2 at H1 o1_2 ⊢
 generalize γ 3 = γ1_3 at H1 o1_3 ⊢
 clear γ
 refine rN (wp_seq ?_)
 refine zB 2 [.call (.bool true), .quiet (.bool true)] H1 ?ho2 ?he2
 case ho2 => exact ac (fun w' h => eC call35 (C0.out w' (h.one 4 rfl))) (ar trivial)
 intro _ w2 H2
 clear H1
 refine rN (wp_seq ?_)
 refine walk_put (by kernel_rfl) 6 [] [.quiet (N m), .call (N m1), .call (N m2), .quiet (N n), .call (N n1), .call (N n2)] _ ?pre3 ?F3 _ ?hpre3 (fun γ => ?hF3) (by kernel_rfl) rfl trivial (sB H2) ?ho3 ?hla3 ?he3
 case hpre3 => simp only [tk, tz]; rfl
 case hF3 => simp only [fill, Kind.val, Act.put, sa, sz, ss]; rfl
 case ho3 =>
  refine bN 2 ?_
  refine ak (fun γ => ⟨rfl, fun w' h => eC call36 (C1.out w')⟩) ?_
  refine ak (fun γ => ⟨rfl, fun w' h => eC call36 (C2.out w')⟩) ?_
  refine bN 3 ?_
  refine ak (fun γ => ⟨rfl, fun w' h => eC call36 (C3.out w')⟩) ?_
  refine ak (fun γ => ⟨rfl, fun w' h => eC call36 (C4.out w')⟩) ?_
  exact trivial
 case hla3 => exact trivial
 intro γ w3 l hM hl
 have H3 := keepB H2 hM.below
 clear hM hl l H2 γ
 refine ⟨_, zO H3.out.1 2 rfl rfl rfl rfl (Nat.le_of_ble_eq_true rfl), ?_⟩
 have H4 : Hid (Mm (w3.setCells γ1_2 0 (zD m2)) [(γ1_0, zU ma0 ma1 maz), (γ1_1, zV mb0 mb1 mb2 mb3 mbz), (γ1_2, zD m2), (γ1_3, zD n), (0, dtab)] ∧ Below w.heap.size w (w3.setCells γ1_2 0 (zD m2))) := ⟨H3.out.1.put 2 (off := 0) (vs := zD m2) rfl (Nat.le_of_ble_eq_true rfl), yA _ o1_2.out _ _ _ H3.out.2⟩
 clear H3
 generalize hgw : World.setCells _ _ _ _ = w4 at H4 ⊢
 clear hgw
 refine zF (l := [7]) rfl ?_
 refine sG rfl (fun h => zO h 3 rfl rfl rfl rfl (Nat.le_of_ble_eq_true rfl)) 3 [_, _, _, (_, zD n2), _] H4 o1_3 fun w5 H5 => ?_
 clear H4
 refine zE (zA (wp_seq ?_))
 refine zC 9 [.quiet (N m2), .quiet (N n2), .call (.tuple #[N sm, .bool cx]), .quiet (.tuple #[N sm, .bool cx]), .quiet (N sm), .quiet (.bool cx), .made zero6 24, .laid 6 zero6 (zD sm), .quiet (.bool cx)] (sB H5) ?ho4 ?he4 (hL := ?hL4)
 case hL4 => exact ⟨⟨_, rfl⟩, trivial⟩
 case ho4 => exact bN 2 (bN 3 (ac (fun w' h => eC call37 (C5.out w')) (ar (ag (ag (am (zJ rfl) (ak (fun γ => ⟨rfl, rfl, rfl, fun w' h => zN h rfl rfl rfl⟩) (ar trivial))))))))
 intro γ w6 l hM hl
 have H6 : Hid (Mm w6 ([(γ 6, zD sm)] ++ _) ∧ _) := wB H5 hM hl [6]
 have o4_6 := vB H5 hM hl 6
 clear hM hl l H5
 generalize γ 6 = γ4_6 at H6 o4_6 ⊢
 clear γ
 refine rN (wp_seq ?_)
 refine zC 10 [.quiet (N m2), .quiet (N n2), .call (.tuple #[N pl, N ph]), .quiet (.tuple #[N pl, N ph]), .quiet (N pl), .quiet (N ph), .made zero6 24, .made zero6 24, .laid 6 zero6 (zD pl), .laid 7 zero6 (zD ph)] (sB H6) ?ho5 ?he5 (hL := ?hL5)
 case hL5 => exact ⟨⟨_, rfl⟩, ⟨_, rfl⟩, trivial⟩
 case ho5 => exact bN 3 (bN 4 (ac (fun w' h => eC call38 (C6.out w')) (ar (ag (ag (am (zJ rfl) (am (zJ rfl) (ak (fun γ => ⟨rfl, rfl, rfl, fun w' h => zN h rfl rfl rfl⟩) (ak (fun γ => ⟨rfl, rfl, rfl, fun w' h => zN h rfl rfl rfl⟩) trivial)))))))))
 intro γ w7 l hM hl
 have H7 : Hid (Mm w7 ([(γ 6, zD pl), (γ 7, zD ph)] ++ _) ∧ _) := wB H6 hM hl [6, 7]
 have o5_6 := vB H6 hM hl 6
 have o5_7 := vB H6 hM hl 7
 clear hM hl l H6
 generalize γ 6 = γ5_6 at H7 o5_6 ⊢
 generalize γ 7 = γ5_7 at H7 o5_7 ⊢
 clear γ
 refine rN (wp_seq (wp_seq ?_))
 refine zB 2 [.quiet (.agg (zU ma0 ma1 maz).toArray), .call (.bool true)] H7 ?ho6 ?he6
 case ho6 => exact bT 3 Tryz.isAgg26 Tryz.sizeOf26 (ac (fun w' h => eC call10 (C7.out w' (h.one 7 rfl))) trivial)
 intro _ w8 H8
 clear H7
 refine rN (wp_cond_true rfl (wp_seq ?_))
 refine zC 9 [.quiet (.agg (zU ma0 ma1 maz).toArray), .quiet (N m2), .call (.tuple #[.agg (zU mc0 mc1 mcz).toArray, .int .i64 0]), .quiet (.tuple #[.agg (zU mc0 mc1 mcz).toArray, .int .i64 0]), .quiet (.agg (zU mc0 mc1 mcz).toArray), .quiet (.int .i64 0), .made (zU 0 0 false) 26, .laid 6 (zU 0 0 false) (zU mc0 mc1 mcz), .quiet (.int .i64 0)] (sB H8) ?ho7 ?he7 (hL := ?hL7)
 case hL7 => exact ⟨⟨_, rfl⟩, trivial⟩
 case ho7 => exact bT 3 Tryz.isAgg26 Tryz.sizeOf26 (bN 5 (ac (fun w' h => eC call17 (C9.out w' (h.one 7 rfl))) (ar (ag (ag (am (ex_madeP1 rfl) (ak (fun γ => ⟨rfl, rfl, rfl, fun w' h => ex_laidT h rfl rfl Tryz.sizeOf26 rfl rfl rfl⟩) (ar trivial))))))))
 intro γ w9 l hM hl
 have H9 : Hid (Mm w9 ([(γ 6, zU mc0 mc1 mcz)] ++ _) ∧ _) := wB H8 hM hl [6]
 have o7_6 := vB H8 hM hl 6
 clear hM hl l H8
 generalize γ 6 = γ7_6 at H9 o7_6 ⊢
 clear γ
 refine rN (wp_seq ?_)
 refine zC 9 [.quiet (.agg (zU ma0 ma1 maz).toArray), .quiet (N n2), .call (.tuple #[.agg (zU md0 md1 mdz).toArray, .int .i64 0]), .quiet (.tuple #[.agg (zU md0 md1 mdz).toArray, .int .i64 0]), .quiet (.agg (zU md0 md1 mdz).toArray), .quiet (.int .i64 0), .made (zU 0 0 false) 26, .laid 6 (zU 0 0 false) (zU md0 md1 mdz), .quiet (.int .i64 0)] (sB H9) ?ho8 ?he8 (hL := ?hL8)
 case hL8 => exact ⟨⟨_, rfl⟩, trivial⟩
 case ho8 => exact bT 4 Tryz.isAgg26 Tryz.sizeOf26 (bN 7 (ac (fun w' h => eC call17 (C10.out w' (h.one 8 rfl))) (ar (ag (ag (am (ex_madeP1 rfl) (ak (fun γ => ⟨rfl, rfl, rfl, fun w' h => ex_laidT h rfl rfl Tryz.sizeOf26 rfl rfl rfl⟩) (ar trivial))))))))
 intro γ w10 l hM hl
 have H10 : Hid (Mm w10 ([(γ 6, zU md0 md1 mdz)] ++ _) ∧ _) := wB H9 hM hl [6]
 have o8_6 := vB H9 hM hl 6
 clear hM hl l H9
 generalize γ 6 = γ8_6 at H10 o8_6 ⊢
 clear γ
 refine rN (wp_seq ?_)
 refine zC 9 [.quiet (.agg (zU ma0 ma1 maz).toArray), .quiet (N sm), .call (.tuple #[.agg (zU me0 me1 mez).toArray, .int .i64 0]), .quiet (.tuple #[.agg (zU me0 me1 mez).toArray, .int .i64 0]), .quiet (.agg (zU me0 me1 mez).toArray), .quiet (.int .i64 0), .made (zU 0 0 false) 26, .laid 6 (zU 0 0 false) (zU me0 me1 mez), .quiet (.int .i64 0)] (sB H10) ?ho9 ?he9 (hL := ?hL9)
 case hL9 => exact ⟨⟨_, rfl⟩, trivial⟩
 case ho9 => exact bT 5 Tryz.isAgg26 Tryz.sizeOf26 (bN 4 (ac (fun w' h => eC call17 (C11.out w' (h.one 9 rfl))) (ar (ag (ag (am (ex_madeP1 rfl) (ak (fun γ => ⟨rfl, rfl, rfl, fun w' h => ex_laidT h rfl rfl Tryz.sizeOf26 rfl rfl rfl⟩) (ar trivial))))))))
 intro γ w11 l hM hl
 have H11 : Hid (Mm w11 ([(γ 6, zU me0 me1 mez)] ++ _) ∧ _) := wB H10 hM hl [6]
 have o9_6 := vB H10 hM hl 6
 clear hM hl l H10
 generalize γ 6 = γ9_6 at H11 o9_6 ⊢
 clear γ
 refine rN (wp_seq ?_)
 refine zC 9 [.quiet (.agg (zU mc0 mc1 mcz).toArray), .quiet (.agg (zU md0 md1 mdz).toArray), .call (.tuple #[.agg (zU me0 me1 mez).toArray, .int .i64 0]), .quiet (.tuple #[.agg (zU me0 me1 mez).toArray, .int .i64 0]), .quiet (.agg (zU me0 me1 mez).toArray), .quiet (.int .i64 0), .made (zU 0 0 false) 26, .laid 6 (zU 0 0 false) (zU me0 me1 mez), .quiet (.int .i64 0)] (sB H11) ?ho10 ?he10 (hL := ?hL10)
 case hL10 => exact ⟨⟨_, rfl⟩, trivial⟩
 case ho10 => exact bT 2 Tryz.isAgg26 Tryz.sizeOf26 (bT 1 Tryz.isAgg26 Tryz.sizeOf26 (ac (fun w' h => eC call16 (C12.out w' (h.one 10 rfl))) (ar (ag (ag (am (ex_madeP1 rfl) (ak (fun γ => ⟨rfl, rfl, rfl, fun w' h => ex_laidT h rfl rfl Tryz.sizeOf26 rfl rfl rfl⟩) (ar trivial))))))))
 intro γ w12 l hM hl
 have H12 : Hid (Mm w12 ([(γ 6, zU me0 me1 mez)] ++ _) ∧ _) := wB H11 hM hl [6]
 have o10_6 := vB H11 hM hl 6
 clear hM hl l H11
 generalize γ 6 = γ10_6 at H12 o10_6 ⊢
 clear γ
 refine rN (wp_seq ?_)
 refine zC 9 [.quiet (.agg (zU mc0 mc1 mcz).toArray), .quiet (N n2), .call (.tuple #[.agg (zU mf0 mf1 mfz).toArray, .int .i64 0]), .quiet (.tuple #[.agg (zU mf0 mf1 mfz).toArray, .int .i64 0]), .quiet (.agg (zU mf0 mf1 mfz).toArray), .quiet (.int .i64 0), .made (zU 0 0 false) 26, .laid 6 (zU 0 0 false) (zU mf0 mf1 mfz), .quiet (.int .i64 0)] (sB H12) ?ho11 ?he11 (hL := ?hL11)
 case hL11 => exact ⟨⟨_, rfl⟩, trivial⟩
 case ho11 => exact bT 3 Tryz.isAgg26 Tryz.sizeOf26 (bN 10 (ac (fun w' h => eC call17 (C13.out w' (h.one 11 rfl))) (ar (ag (ag (am (ex_madeP1 rfl) (ak (fun γ => ⟨rfl, rfl, rfl, fun w' h => ex_laidT h rfl rfl Tryz.sizeOf26 rfl rfl rfl⟩) (ar trivial))))))))
 intro γ w13 l hM hl
 have H13 : Hid (Mm w13 ([(γ 6, zU mf0 mf1 mfz)] ++ _) ∧ _) := wB H12 hM hl [6]
 have o11_6 := vB H12 hM hl 6
 clear hM hl l H12
 generalize γ 6 = γ11_6 at H13 o11_6 ⊢
 clear γ
 refine rN (wp_seq ?_)
 refine zC 9 [.quiet (.agg (zU ma0 ma1 maz).toArray), .quiet (N pl), .call (.tuple #[.agg (zU mf0 mf1 mfz).toArray, .int .i64 0]), .quiet (.tuple #[.agg (zU mf0 mf1 mfz).toArray, .int .i64 0]), .quiet (.agg (zU mf0 mf1 mfz).toArray), .quiet (.int .i64 0), .made (zU 0 0 false) 26, .laid 6 (zU 0 0 false) (zU mf0 mf1 mfz), .quiet (.int .i64 0)] (sB H13) ?ho12 ?he12 (hL := ?hL12)
 case hL12 => exact ⟨⟨_, rfl⟩, trivial⟩
 case ho12 => exact bT 8 Tryz.isAgg26 Tryz.sizeOf26 (bN 5 (ac (fun w' h => eC call17 (C14.out w' (h.one 12 rfl))) (ar (ag (ag (am (ex_madeP1 rfl) (ak (fun γ => ⟨rfl, rfl, rfl, fun w' h => ex_laidT h rfl rfl Tryz.sizeOf26 rfl rfl rfl⟩) (ar trivial))))))))
 intro γ w14 l hM hl
 have H14 : Hid (Mm w14 ([(γ 6, zU mf0 mf1 mfz)] ++ _) ∧ _) := wB H13 hM hl [6]
 have o12_6 := vB H13 hM hl 6
 clear hM hl l H13
 generalize γ 6 = γ12_6 at H14 o12_6 ⊢
 clear γ
 refine rN (wp_seq ?_)
 refine zB 16 [.quiet (.agg (zU me0 me1 mez).toArray), .quiet (.agg (zU me0 me1 mez).toArray), .quiet (.bool false), .quiet (.bool false), .quiet (.agg (zU mf0 mf1 mfz).toArray), .quiet (.agg (zU mf0 mf1 mfz).toArray), .quiet (.bool false), .quiet (.bool false), .quiet (.bool false), .quiet (.int .i64 0), .quiet (.bool false), .quiet (.bool false), .quiet (.bool false), .quiet (.int .i64 0), .quiet (.bool false), .quiet (.bool false)] H14 ?ho13 ?he13
 case ho13 => exact bT 3 Tryz.isAgg26 Tryz.sizeOf26 (bT 2 Tryz.isAgg26 Tryz.sizeOf26 (ak (fun γ => ⟨rfl, fun w' _ => exec_neqT26 E0.out rfl rfl rfl⟩) (ar (bT 1 Tryz.isAgg26 Tryz.sizeOf26 (bT 0 Tryz.isAgg26 Tryz.sizeOf26 (ak (fun γ => ⟨rfl, fun w' _ => exec_neqT26 E1.out rfl rfl rfl⟩) (ag (ar (ar (ag (ag (ar (ar (ag (ag trivial)))))))))))))))
 intro _ w15 H15
 clear H14
 refine rN (wp_cond_false rfl ?_)
 refine wp_skip (zA ?_)
 refine wp_seq (wp_seq ?_)
 refine zB 2 [.quiet (.agg (zV mb0 mb1 mb2 mb3 mbz).toArray), .call (.bool true)] H15 ?ho14 ?he14
 case ho14 => exact bT 10 Tryz.isAgg42 Tryz.sizeOf42 (ac (fun w' h => eC call23 (C8.out w' (h.one 13 rfl))) trivial)
 intro _ w16 H16
 clear H15
 refine rN (wp_cond_true rfl (wp_seq ?_))
 refine zC 9 [.quiet (.agg (zV mb0 mb1 mb2 mb3 mbz).toArray), .quiet (N m2), .call (.tuple #[.agg (zV mg0 mg1 mg2 mg3 mgz).toArray, .int .i64 0]), .quiet (.tuple #[.agg (zV mg0 mg1 mg2 mg3 mgz).toArray, .int .i64 0]), .quiet (.agg (zV mg0 mg1 mg2 mg3 mgz).toArray), .quiet (.int .i64 0), .made (zV 0 0 0 0 false) 42, .laid 6 (zV 0 0 0 0 false) (zV mg0 mg1 mg2 mg3 mgz), .quiet (.int .i64 0)] (sB H16) ?ho15 ?he15 (hL := ?hL15)
 case hL15 => exact ⟨⟨_, rfl⟩, trivial⟩
 case ho15 => exact bT 10 Tryz.isAgg42 Tryz.sizeOf42 (bN 11 (ac (fun w' h => eC call30 (C15.out w' (h.one 13 rfl))) (ar (ag (ag (am (ex_madeP2 rfl) (ak (fun γ => ⟨rfl, rfl, rfl, fun w' h => ex_laidT h rfl rfl Tryz.sizeOf42 rfl rfl rfl⟩) (ar trivial))))))))
 intro γ w17 l hM hl
 have H17 : Hid (Mm w17 ([(γ 6, zV mg0 mg1 mg2 mg3 mgz)] ++ _) ∧ _) := wB H16 hM hl [6]
 have o15_6 := vB H16 hM hl 6
 clear hM hl l H16
 generalize γ 6 = γ15_6 at H17 o15_6 ⊢
 clear γ
 refine rN (wp_seq ?_)
 refine zC 9 [.quiet (.agg (zV mb0 mb1 mb2 mb3 mbz).toArray), .quiet (N n2), .call (.tuple #[.agg (zV mh0 mh1 mh2 mh3 mhz).toArray, .int .i64 0]), .quiet (.tuple #[.agg (zV mh0 mh1 mh2 mh3 mhz).toArray, .int .i64 0]), .quiet (.agg (zV mh0 mh1 mh2 mh3 mhz).toArray), .quiet (.int .i64 0), .made (zV 0 0 0 0 false) 42, .laid 6 (zV 0 0 0 0 false) (zV mh0 mh1 mh2 mh3 mhz), .quiet (.int .i64 0)] (sB H17) ?ho16 ?he16 (hL := ?hL16)
 case hL16 => exact ⟨⟨_, rfl⟩, trivial⟩
 case ho16 => exact bT 11 Tryz.isAgg42 Tryz.sizeOf42 (bN 13 (ac (fun w' h => eC call30 (C16.out w' (h.one 14 rfl))) (ar (ag (ag (am (ex_madeP2 rfl) (ak (fun γ => ⟨rfl, rfl, rfl, fun w' h => ex_laidT h rfl rfl Tryz.sizeOf42 rfl rfl rfl⟩) (ar trivial))))))))
 intro γ w18 l hM hl
 have H18 : Hid (Mm w18 ([(γ 6, zV mh0 mh1 mh2 mh3 mhz)] ++ _) ∧ _) := wB H17 hM hl [6]
 have o16_6 := vB H17 hM hl 6
 clear hM hl l H17
 generalize γ 6 = γ16_6 at H18 o16_6 ⊢
 clear γ
 refine rN (wp_seq ?_)
 refine zC 9 [.quiet (.agg (zV mb0 mb1 mb2 mb3 mbz).toArray), .quiet (N sm), .call (.tuple #[.agg (zV mi0 mi1 mi2 mi3 miz).toArray, .int .i64 0]), .quiet (.tuple #[.agg (zV mi0 mi1 mi2 mi3 miz).toArray, .int .i64 0]), .quiet (.agg (zV mi0 mi1 mi2 mi3 miz).toArray), .quiet (.int .i64 0), .made (zV 0 0 0 0 false) 42, .laid 6 (zV 0 0 0 0 false) (zV mi0 mi1 mi2 mi3 miz), .quiet (.int .i64 0)] (sB H18) ?ho17 ?he17 (hL := ?hL17)
 case hL17 => exact ⟨⟨_, rfl⟩, trivial⟩
 case ho17 => exact bT 12 Tryz.isAgg42 Tryz.sizeOf42 (bN 10 (ac (fun w' h => eC call30 (C17.out w' (h.one 15 rfl))) (ar (ag (ag (am (ex_madeP2 rfl) (ak (fun γ => ⟨rfl, rfl, rfl, fun w' h => ex_laidT h rfl rfl Tryz.sizeOf42 rfl rfl rfl⟩) (ar trivial))))))))
 intro γ w19 l hM hl
 have H19 : Hid (Mm w19 ([(γ 6, zV mi0 mi1 mi2 mi3 miz)] ++ _) ∧ _) := wB H18 hM hl [6]
 have o17_6 := vB H18 hM hl 6
 clear hM hl l H18
 generalize γ 6 = γ17_6 at H19 o17_6 ⊢
 clear γ
 refine rN (wp_seq ?_)
 refine zC 9 [.quiet (.agg (zV mg0 mg1 mg2 mg3 mgz).toArray), .quiet (.agg (zV mh0 mh1 mh2 mh3 mhz).toArray), .call (.tuple #[.agg (zV mi0 mi1 mi2 mi3 miz).toArray, .int .i64 0]), .quiet (.tuple #[.agg (zV mi0 mi1 mi2 mi3 miz).toArray, .int .i64 0]), .quiet (.agg (zV mi0 mi1 mi2 mi3 miz).toArray), .quiet (.int .i64 0), .made (zV 0 0 0 0 false) 42, .laid 6 (zV 0 0 0 0 false) (zV mi0 mi1 mi2 mi3 miz), .quiet (.int .i64 0)] (sB H19) ?ho18 ?he18 (hL := ?hL18)
 case hL18 => exact ⟨⟨_, rfl⟩, trivial⟩
 case ho18 => exact bT 2 Tryz.isAgg42 Tryz.sizeOf42 (bT 1 Tryz.isAgg42 Tryz.sizeOf42 (ac (fun w' h => eC call29 (C18.out w' (h.one 16 rfl))) (ar (ag (ag (am (ex_madeP2 rfl) (ak (fun γ => ⟨rfl, rfl, rfl, fun w' h => ex_laidT h rfl rfl Tryz.sizeOf42 rfl rfl rfl⟩) (ar trivial))))))))
 intro γ w20 l hM hl
 have H20 : Hid (Mm w20 ([(γ 6, zV mi0 mi1 mi2 mi3 miz)] ++ _) ∧ _) := wB H19 hM hl [6]
 have o18_6 := vB H19 hM hl 6
 clear hM hl l H19
 generalize γ 6 = γ18_6 at H20 o18_6 ⊢
 clear γ
 refine rN (wp_seq ?_)
 refine zC 9 [.quiet (.agg (zV mg0 mg1 mg2 mg3 mgz).toArray), .quiet (N n2), .call (.tuple #[.agg (zV mj0 mj1 mj2 mj3 mjz).toArray, .int .i64 0]), .quiet (.tuple #[.agg (zV mj0 mj1 mj2 mj3 mjz).toArray, .int .i64 0]), .quiet (.agg (zV mj0 mj1 mj2 mj3 mjz).toArray), .quiet (.int .i64 0), .made (zV 0 0 0 0 false) 42, .laid 6 (zV 0 0 0 0 false) (zV mj0 mj1 mj2 mj3 mjz), .quiet (.int .i64 0)] (sB H20) ?ho19 ?he19 (hL := ?hL19)
 case hL19 => exact ⟨⟨_, rfl⟩, trivial⟩
 case ho19 => exact bT 3 Tryz.isAgg42 Tryz.sizeOf42 (bN 16 (ac (fun w' h => eC call30 (C19.out w' (h.one 17 rfl))) (ar (ag (ag (am (ex_madeP2 rfl) (ak (fun γ => ⟨rfl, rfl, rfl, fun w' h => ex_laidT h rfl rfl Tryz.sizeOf42 rfl rfl rfl⟩) (ar trivial))))))))
 intro γ w21 l hM hl
 have H21 : Hid (Mm w21 ([(γ 6, zV mj0 mj1 mj2 mj3 mjz)] ++ _) ∧ _) := wB H20 hM hl [6]
 have o19_6 := vB H20 hM hl 6
 clear hM hl l H20
 generalize γ 6 = γ19_6 at H21 o19_6 ⊢
 clear γ
 refine rN (wp_seq ?_)
 refine zC 9 [.quiet (.agg (zV mb0 mb1 mb2 mb3 mbz).toArray), .quiet (N pl), .call (.tuple #[.agg (zV mj0 mj1 mj2 mj3 mjz).toArray, .int .i64 0]), .quiet (.tuple #[.agg (zV mj0 mj1 mj2 mj3 mjz).toArray, .int .i64 0]), .quiet (.agg (zV mj0 mj1 mj2 mj3 mjz).toArray), .quiet (.int .i64 0), .made (zV 0 0 0 0 false) 42, .laid 6 (zV 0 0 0 0 false) (zV mj0 mj1 mj2 mj3 mjz), .quiet (.int .i64 0)] (sB H21) ?ho20 ?he20 (hL := ?hL20)
 case hL20 => exact ⟨⟨_, rfl⟩, trivial⟩
 case ho20 => exact bT 15 Tryz.isAgg42 Tryz.sizeOf42 (bN 11 (ac (fun w' h => eC call30 (C20.out w' (h.one 18 rfl))) (ar (ag (ag (am (ex_madeP2 rfl) (ak (fun γ => ⟨rfl, rfl, rfl, fun w' h => ex_laidT h rfl rfl Tryz.sizeOf42 rfl rfl rfl⟩) (ar trivial))))))))
 intro γ w22 l hM hl
 have H22 : Hid (Mm w22 ([(γ 6, zV mj0 mj1 mj2 mj3 mjz)] ++ _) ∧ _) := wB H21 hM hl [6]
 have o20_6 := vB H21 hM hl 6
 clear hM hl l H21
 generalize γ 6 = γ20_6 at H22 o20_6 ⊢
 clear γ
 refine rN (wp_seq ?_)
 refine zB 16 [.quiet (.agg (zV mi0 mi1 mi2 mi3 miz).toArray), .quiet (.agg (zV mi0 mi1 mi2 mi3 miz).toArray), .quiet (.bool false), .quiet (.bool false), .quiet (.agg (zV mj0 mj1 mj2 mj3 mjz).toArray), .quiet (.agg (zV mj0 mj1 mj2 mj3 mjz).toArray), .quiet (.bool false), .quiet (.bool false), .quiet (.bool false), .quiet (.int .i64 0), .quiet (.bool false), .quiet (.bool false), .quiet (.bool false), .quiet (.int .i64 0), .quiet (.bool false), .quiet (.bool false)] H22 ?ho21 ?he21
 case ho21 => exact bT 3 Tryz.isAgg42 Tryz.sizeOf42 (bT 2 Tryz.isAgg42 Tryz.sizeOf42 (ak (fun γ => ⟨rfl, fun w' _ => exec_neqT42 F0.out rfl rfl rfl⟩) (ar (bT 1 Tryz.isAgg42 Tryz.sizeOf42 (bT 0 Tryz.isAgg42 Tryz.sizeOf42 (ak (fun γ => ⟨rfl, fun w' _ => exec_neqT42 F1.out rfl rfl rfl⟩) (ag (ar (ar (ag (ag (ar (ar (ag (ag trivial)))))))))))))))
 intro _ w23 H23
 clear H22
 refine rN (wp_cond_false rfl ?_)
 refine wp_skip (zA (wp_seq ?_))
 refine zB 2 [.quiet (.bool true), .quiet (.bool true)] H23 ?ho22 ?he22
 case ho22 => exact ar (ar trivial)
 intro _ w24 H24
 clear H23
 refine rN (wp_ret ?_)
 repeat (first | refine zM ?_ | refine zI ?_)
 refine bodyPost_ret (v := .bool true) (by simp [results, Tryz.results7, go_sem, *]) rfl ?_
 exact ⟨rfl, H24.out.2⟩
set_option maxHeartbeats 4000000 in
theorem times_1 (m n m1 m2 n1 n2 sm pl ph ma0 ma1 mb0 mb1 mb2 mb3 mc0 mc1 md0 md1 me0 me1 mf0 mf1 : Nat) (cx maz mbz mcz mdz mez mfz : Bool) (c0 : ∀ w, Mm w [(0, dtab)] → Calls Tryz.prog 35 #[] w (Rt w (.bool true))) (c1 : ∀ w, Calls Tryz.prog 36 #[N m, .int .i64 194] w (Rt w (N m1))) (c2 : ∀ w, Calls Tryz.prog 36 #[N m1, .int .i64 (-194)] w (Rt w (N m2))) (c3 : ∀ w, Calls Tryz.prog 36 #[N n, .int .i64 194] w (Rt w (N n1))) (c4 : ∀ w, Calls Tryz.prog 36 #[N n1, .int .i64 (-194)] w (Rt w (N n2))) (c5 : ∀ w, Calls Tryz.prog 37 #[N m2, N n2] w (Rt w (.tuple #[N sm, .bool cx]))) (c6 : ∀ w, Calls Tryz.prog 38 #[N m2, N n2] w (Rt w (.tuple #[N pl, N ph]))) (c7 : ∀ w, Mm w [(0, dtab)] → Calls Tryz.prog 10 #[.agg (zU ma0 ma1 maz).toArray] w (Rt w (.bool true))) (c8 : ∀ w, Mm w [(0, dtab)] → Calls Tryz.prog 23 #[.agg (zV mb0 mb1 mb2 mb3 mbz).toArray] w (Rt w (.bool false))) (c9 : ∀ w, Mm w [(0, dtab)] → Calls Tryz.prog 17 #[.agg (zU ma0 ma1 maz).toArray, N m2] w (Rt w (.tuple #[.agg (zU mc0 mc1 mcz).toArray, .int .i64 0]))) (c10 : ∀ w, Mm w [(0, dtab)] → Calls Tryz.prog 17 #[.agg (zU ma0 ma1 maz).toArray, N n2] w (Rt w (.tuple #[.agg (zU md0 md1 mdz).toArray, .int .i64 0]))) (c11 : ∀ w, Mm w [(0, dtab)] → Calls Tryz.prog 17 #[.agg (zU ma0 ma1 maz).toArray, N sm] w (Rt w (.tuple #[.agg (zU me0 me1 mez).toArray, .int .i64 0]))) (c12 : ∀ w, Mm w [(0, dtab)] → Calls Tryz.prog 16 #[.agg (zU mc0 mc1 mcz).toArray, .agg (zU md0 md1 mdz).toArray] w (Rt w (.tuple #[.agg (zU me0 me1 mez).toArray, .int .i64 0]))) (c13 : ∀ w, Mm w [(0, dtab)] → Calls Tryz.prog 17 #[.agg (zU mc0 mc1 mcz).toArray, N n2] w (Rt w (.tuple #[.agg (zU mf0 mf1 mfz).toArray, .int .i64 0]))) (c14 : ∀ w, Mm w [(0, dtab)] → Calls Tryz.prog 17 #[.agg (zU ma0 ma1 maz).toArray, N pl] w (Rt w (.tuple #[.agg (zU mf0 mf1 mfz).toArray, .int .i64 0]))) (e0 : ∀ w, (Op.equalIn 10000 26 (.agg (zU me0 me1 mez).toArray) (.agg (zU me0 me1 mez).toArray)).run Tryz.prog w = .ok true w) (e1 : ∀ w, (Op.equalIn 10000 26 (.agg (zU mf0 mf1 mfz).toArray) (.agg (zU mf0 mf1 mfz).toArray)).run Tryz.prog w = .ok true w) (w : World) (hm : Mm w [(0, dtab)]) :
  Calls Tryz.prog 7 #[.agg (zU ma0 ma1 maz).toArray, .agg (zV mb0 mb1 mb2 mb3 mbz).toArray, N m, N n] w (Rt w (.bool true)) := by
 have H0 : Hid (_ ∧ _) := ⟨hm, Below.refl w.heap.size w⟩
 clear hm
 have C0 : Hid _ := c0
 clear c0
 have C1 : Hid _ := c1
 clear c1
 have C2 : Hid _ := c2
 clear c2
 have C3 : Hid _ := c3
 clear c3
 have C4 : Hid _ := c4
 clear c4
 have C5 : Hid _ := c5
 clear c5
 have C6 : Hid _ := c6
 clear c6
 have C7 : Hid _ := c7
 clear c7
 have C8 : Hid _ := c8
 clear c8
 have C9 : Hid _ := c9
 clear c9
 have C10 : Hid _ := c10
 clear c10
 have C11 : Hid _ := c11
 clear c11
 have C12 : Hid _ := c12
 clear c12
 have C13 : Hid _ := c13
 clear c13
 have C14 : Hid _ := c14
 clear c14
 have E0 : Hid _ := e0
 clear e0
 have E1 : Hid _ := e1
 clear e1
 go_enter Tryz.func7, Tryz.ntmps7
 refine wp_seq ?_
 refine zC 5 [.made (zU ma0 ma1 maz) 26, .made (zV mb0 mb1 mb2 mb3 mbz) 42, .made (zD m) 24, .made (zD n) 24, .quiet (.bool false)] (sB H0) ?ho1 ?he1
 case ho1 => exact am (zW rfl rfl) (am (zW rfl rfl) (am (yF rfl rfl) (am (yF rfl rfl) (ar trivial))))
 intro γ w1 l hM hl
 have H1 : Hid (Mm w1 ([(γ 0, zU ma0 ma1 maz), (γ 1, zV mb0 mb1 mb2 mb3 mbz), (γ 2, zD m), (γ 3, zD n)] ++ _) ∧ _) := wB H0 hM hl [0, 1, 2, 3]
 have o1_0 := vB H0 hM hl 0
 have o1_1 := vB H0 hM hl 1
 have o1_2 := vB H0 hM hl 2
 have o1_3 := vB H0 hM hl 3
 clear hM hl l
 generalize γ 0 = γ1_0 at H1 o1_0 ⊢
 generalize γ 1 = γ1_1 at H1 o1_1 ⊢
 generalize γ 2 = γ1_2 at H1 o1_2 ⊢
 generalize γ 3 = γ1_3 at H1 o1_3 ⊢
 clear γ
 refine rN (wp_seq ?_)
 refine zB 2 [.call (.bool true), .quiet (.bool true)] H1 ?ho2 ?he2
 case ho2 => exact ac (fun w' h => eC call35 (C0.out w' (h.one 4 rfl))) (ar trivial)
 intro _ w2 H2
 clear H1
 refine rN (wp_seq ?_)
 refine walk_put (by kernel_rfl) 6 [] [.quiet (N m), .call (N m1), .call (N m2), .quiet (N n), .call (N n1), .call (N n2)] _ ?pre3 ?F3 _ ?hpre3 (fun γ => ?hF3) (by kernel_rfl) rfl trivial (sB H2) ?ho3 ?hla3 ?he3
 case hpre3 => simp only [tk, tz]; rfl
 case hF3 => simp only [fill, Kind.val, Act.put, sa, sz, ss]; rfl
 case ho3 =>
  refine bN 2 ?_
  refine ak (fun γ => ⟨rfl, fun w' h => eC call36 (C1.out w')⟩) ?_
  refine ak (fun γ => ⟨rfl, fun w' h => eC call36 (C2.out w')⟩) ?_
  refine bN 3 ?_
  refine ak (fun γ => ⟨rfl, fun w' h => eC call36 (C3.out w')⟩) ?_
  refine ak (fun γ => ⟨rfl, fun w' h => eC call36 (C4.out w')⟩) ?_
  exact trivial
 case hla3 => exact trivial
 intro γ w3 l hM hl
 have H3 := keepB H2 hM.below
 clear hM hl l H2 γ
 refine ⟨_, zO H3.out.1 2 rfl rfl rfl rfl (Nat.le_of_ble_eq_true rfl), ?_⟩
 have H4 : Hid (Mm (w3.setCells γ1_2 0 (zD m2)) [(γ1_0, zU ma0 ma1 maz), (γ1_1, zV mb0 mb1 mb2 mb3 mbz), (γ1_2, zD m2), (γ1_3, zD n), (0, dtab)] ∧ Below w.heap.size w (w3.setCells γ1_2 0 (zD m2))) := ⟨H3.out.1.put 2 (off := 0) (vs := zD m2) rfl (Nat.le_of_ble_eq_true rfl), yA _ o1_2.out _ _ _ H3.out.2⟩
 clear H3
 generalize hgw : World.setCells _ _ _ _ = w4 at H4 ⊢
 clear hgw
 refine zF (l := [7]) rfl ?_
 refine sG rfl (fun h => zO h 3 rfl rfl rfl rfl (Nat.le_of_ble_eq_true rfl)) 3 [_, _, _, (_, zD n2), _] H4 o1_3 fun w5 H5 => ?_
 clear H4
 refine zE (zA (wp_seq ?_))
 refine zC 9 [.quiet (N m2), .quiet (N n2), .call (.tuple #[N sm, .bool cx]), .quiet (.tuple #[N sm, .bool cx]), .quiet (N sm), .quiet (.bool cx), .made zero6 24, .laid 6 zero6 (zD sm), .quiet (.bool cx)] (sB H5) ?ho4 ?he4 (hL := ?hL4)
 case hL4 => exact ⟨⟨_, rfl⟩, trivial⟩
 case ho4 => exact bN 2 (bN 3 (ac (fun w' h => eC call37 (C5.out w')) (ar (ag (ag (am (zJ rfl) (ak (fun γ => ⟨rfl, rfl, rfl, fun w' h => zN h rfl rfl rfl⟩) (ar trivial))))))))
 intro γ w6 l hM hl
 have H6 : Hid (Mm w6 ([(γ 6, zD sm)] ++ _) ∧ _) := wB H5 hM hl [6]
 have o4_6 := vB H5 hM hl 6
 clear hM hl l H5
 generalize γ 6 = γ4_6 at H6 o4_6 ⊢
 clear γ
 refine rN (wp_seq ?_)
 refine zC 10 [.quiet (N m2), .quiet (N n2), .call (.tuple #[N pl, N ph]), .quiet (.tuple #[N pl, N ph]), .quiet (N pl), .quiet (N ph), .made zero6 24, .made zero6 24, .laid 6 zero6 (zD pl), .laid 7 zero6 (zD ph)] (sB H6) ?ho5 ?he5 (hL := ?hL5)
 case hL5 => exact ⟨⟨_, rfl⟩, ⟨_, rfl⟩, trivial⟩
 case ho5 => exact bN 3 (bN 4 (ac (fun w' h => eC call38 (C6.out w')) (ar (ag (ag (am (zJ rfl) (am (zJ rfl) (ak (fun γ => ⟨rfl, rfl, rfl, fun w' h => zN h rfl rfl rfl⟩) (ak (fun γ => ⟨rfl, rfl, rfl, fun w' h => zN h rfl rfl rfl⟩) trivial)))))))))
 intro γ w7 l hM hl
 have H7 : Hid (Mm w7 ([(γ 6, zD pl), (γ 7, zD ph)] ++ _) ∧ _) := wB H6 hM hl [6, 7]
 have o5_6 := vB H6 hM hl 6
 have o5_7 := vB H6 hM hl 7
 clear hM hl l H6
 generalize γ 6 = γ5_6 at H7 o5_6 ⊢
 generalize γ 7 = γ5_7 at H7 o5_7 ⊢
 clear γ
 refine rN (wp_seq (wp_seq ?_))
 refine zB 2 [.quiet (.agg (zU ma0 ma1 maz).toArray), .call (.bool true)] H7 ?ho6 ?he6
 case ho6 => exact bT 3 Tryz.isAgg26 Tryz.sizeOf26 (ac (fun w' h => eC call10 (C7.out w' (h.one 7 rfl))) trivial)
 intro _ w8 H8
 clear H7
 refine rN (wp_cond_true rfl (wp_seq ?_))
 refine zC 9 [.quiet (.agg (zU ma0 ma1 maz).toArray), .quiet (N m2), .call (.tuple #[.agg (zU mc0 mc1 mcz).toArray, .int .i64 0]), .quiet (.tuple #[.agg (zU mc0 mc1 mcz).toArray, .int .i64 0]), .quiet (.agg (zU mc0 mc1 mcz).toArray), .quiet (.int .i64 0), .made (zU 0 0 false) 26, .laid 6 (zU 0 0 false) (zU mc0 mc1 mcz), .quiet (.int .i64 0)] (sB H8) ?ho7 ?he7 (hL := ?hL7)
 case hL7 => exact ⟨⟨_, rfl⟩, trivial⟩
 case ho7 => exact bT 3 Tryz.isAgg26 Tryz.sizeOf26 (bN 5 (ac (fun w' h => eC call17 (C9.out w' (h.one 7 rfl))) (ar (ag (ag (am (ex_madeP1 rfl) (ak (fun γ => ⟨rfl, rfl, rfl, fun w' h => ex_laidT h rfl rfl Tryz.sizeOf26 rfl rfl rfl⟩) (ar trivial))))))))
 intro γ w9 l hM hl
 have H9 : Hid (Mm w9 ([(γ 6, zU mc0 mc1 mcz)] ++ _) ∧ _) := wB H8 hM hl [6]
 have o7_6 := vB H8 hM hl 6
 clear hM hl l H8
 generalize γ 6 = γ7_6 at H9 o7_6 ⊢
 clear γ
 refine rN (wp_seq ?_)
 refine zC 9 [.quiet (.agg (zU ma0 ma1 maz).toArray), .quiet (N n2), .call (.tuple #[.agg (zU md0 md1 mdz).toArray, .int .i64 0]), .quiet (.tuple #[.agg (zU md0 md1 mdz).toArray, .int .i64 0]), .quiet (.agg (zU md0 md1 mdz).toArray), .quiet (.int .i64 0), .made (zU 0 0 false) 26, .laid 6 (zU 0 0 false) (zU md0 md1 mdz), .quiet (.int .i64 0)] (sB H9) ?ho8 ?he8 (hL := ?hL8)
 case hL8 => exact ⟨⟨_, rfl⟩, trivial⟩
 case ho8 => exact bT 4 Tryz.isAgg26 Tryz.sizeOf26 (bN 7 (ac (fun w' h => eC call17 (C10.out w' (h.one 8 rfl))) (ar (ag (ag (am (ex_madeP1 rfl) (ak (fun γ => ⟨rfl, rfl, rfl, fun w' h => ex_laidT h rfl rfl Tryz.sizeOf26 rfl rfl rfl⟩) (ar trivial))))))))
 intro γ w10 l hM hl
 have H10 : Hid (Mm w10 ([(γ 6, zU md0 md1 mdz)] ++ _) ∧ _) := wB H9 hM hl [6]
 have o8_6 := vB H9 hM hl 6
 clear hM hl l H9
 generalize γ 6 = γ8_6 at H10 o8_6 ⊢
 clear γ
 refine rN (wp_seq ?_)
 refine zC 9 [.quiet (.agg (zU ma0 ma1 maz).toArray), .quiet (N sm), .call (.tuple #[.agg (zU me0 me1 mez).toArray, .int .i64 0]), .quiet (.tuple #[.agg (zU me0 me1 mez).toArray, .int .i64 0]), .quiet (.agg (zU me0 me1 mez).toArray), .quiet (.int .i64 0), .made (zU 0 0 false) 26, .laid 6 (zU 0 0 false) (zU me0 me1 mez), .quiet (.int .i64 0)] (sB H10) ?ho9 ?he9 (hL := ?hL9)
 case hL9 => exact ⟨⟨_, rfl⟩, trivial⟩
 case ho9 => exact bT 5 Tryz.isAgg26 Tryz.sizeOf26 (bN 4 (ac (fun w' h => eC call17 (C11.out w' (h.one 9 rfl))) (ar (ag (ag (am (ex_madeP1 rfl) (ak (fun γ => ⟨rfl, rfl, rfl, fun w' h => ex_laidT h rfl rfl Tryz.sizeOf26 rfl rfl rfl⟩) (ar trivial))))))))
 intro γ w11 l hM hl
 have H11 : Hid (Mm w11 ([(γ 6, zU me0 me1 mez)] ++ _) ∧ _) := wB H10 hM hl [6]
 have o9_6 := vB H10 hM hl 6
 clear hM hl l H10
 generalize γ 6 = γ9_6 at H11 o9_6 ⊢
 clear γ
 refine rN (wp_seq ?_)
 refine zC 9 [.quiet (.agg (zU mc0 mc1 mcz).toArray), .quiet (.agg (zU md0 md1 mdz).toArray), .call (.tuple #[.agg (zU me0 me1 mez).toArray, .int .i64 0]), .quiet (.tuple #[.agg (zU me0 me1 mez).toArray, .int .i64 0]), .quiet (.agg (zU me0 me1 mez).toArray), .quiet (.int .i64 0), .made (zU 0 0 false) 26, .laid 6 (zU 0 0 false) (zU me0 me1 mez), .quiet (.int .i64 0)] (sB H11) ?ho10 ?he10 (hL := ?hL10)
 case hL10 => exact ⟨⟨_, rfl⟩, trivial⟩
 case ho10 => exact bT 2 Tryz.isAgg26 Tryz.sizeOf26 (bT 1 Tryz.isAgg26 Tryz.sizeOf26 (ac (fun w' h => eC call16 (C12.out w' (h.one 10 rfl))) (ar (ag (ag (am (ex_madeP1 rfl) (ak (fun γ => ⟨rfl, rfl, rfl, fun w' h => ex_laidT h rfl rfl Tryz.sizeOf26 rfl rfl rfl⟩) (ar trivial))))))))
 intro γ w12 l hM hl
 have H12 : Hid (Mm w12 ([(γ 6, zU me0 me1 mez)] ++ _) ∧ _) := wB H11 hM hl [6]
 have o10_6 := vB H11 hM hl 6
 clear hM hl l H11
 generalize γ 6 = γ10_6 at H12 o10_6 ⊢
 clear γ
 refine rN (wp_seq ?_)
 refine zC 9 [.quiet (.agg (zU mc0 mc1 mcz).toArray), .quiet (N n2), .call (.tuple #[.agg (zU mf0 mf1 mfz).toArray, .int .i64 0]), .quiet (.tuple #[.agg (zU mf0 mf1 mfz).toArray, .int .i64 0]), .quiet (.agg (zU mf0 mf1 mfz).toArray), .quiet (.int .i64 0), .made (zU 0 0 false) 26, .laid 6 (zU 0 0 false) (zU mf0 mf1 mfz), .quiet (.int .i64 0)] (sB H12) ?ho11 ?he11 (hL := ?hL11)
 case hL11 => exact ⟨⟨_, rfl⟩, trivial⟩
 case ho11 => exact bT 3 Tryz.isAgg26 Tryz.sizeOf26 (bN 10 (ac (fun w' h => eC call17 (C13.out w' (h.one 11 rfl))) (ar (ag (ag (am (ex_madeP1 rfl) (ak (fun γ => ⟨rfl, rfl, rfl, fun w' h => ex_laidT h rfl rfl Tryz.sizeOf26 rfl rfl rfl⟩) (ar trivial))))))))
 intro γ w13 l hM hl
 have H13 : Hid (Mm w13 ([(γ 6, zU mf0 mf1 mfz)] ++ _) ∧ _) := wB H12 hM hl [6]
 have o11_6 := vB H12 hM hl 6
 clear hM hl l H12
 generalize γ 6 = γ11_6 at H13 o11_6 ⊢
 clear γ
 refine rN (wp_seq ?_)
 refine zC 9 [.quiet (.agg (zU ma0 ma1 maz).toArray), .quiet (N pl), .call (.tuple #[.agg (zU mf0 mf1 mfz).toArray, .int .i64 0]), .quiet (.tuple #[.agg (zU mf0 mf1 mfz).toArray, .int .i64 0]), .quiet (.agg (zU mf0 mf1 mfz).toArray), .quiet (.int .i64 0), .made (zU 0 0 false) 26, .laid 6 (zU 0 0 false) (zU mf0 mf1 mfz), .quiet (.int .i64 0)] (sB H13) ?ho12 ?he12 (hL := ?hL12)
 case hL12 => exact ⟨⟨_, rfl⟩, trivial⟩
 case ho12 => exact bT 8 Tryz.isAgg26 Tryz.sizeOf26 (bN 5 (ac (fun w' h => eC call17 (C14.out w' (h.one 12 rfl))) (ar (ag (ag (am (ex_madeP1 rfl) (ak (fun γ => ⟨rfl, rfl, rfl, fun w' h => ex_laidT h rfl rfl Tryz.sizeOf26 rfl rfl rfl⟩) (ar trivial))))))))
 intro γ w14 l hM hl
 have H14 : Hid (Mm w14 ([(γ 6, zU mf0 mf1 mfz)] ++ _) ∧ _) := wB H13 hM hl [6]
 have o12_6 := vB H13 hM hl 6
 clear hM hl l H13
 generalize γ 6 = γ12_6 at H14 o12_6 ⊢
 clear γ
 refine rN (wp_seq ?_)
 refine zB 16 [.quiet (.agg (zU me0 me1 mez).toArray), .quiet (.agg (zU me0 me1 mez).toArray), .quiet (.bool false), .quiet (.bool false), .quiet (.agg (zU mf0 mf1 mfz).toArray), .quiet (.agg (zU mf0 mf1 mfz).toArray), .quiet (.bool false), .quiet (.bool false), .quiet (.bool false), .quiet (.int .i64 0), .quiet (.bool false), .quiet (.bool false), .quiet (.bool false), .quiet (.int .i64 0), .quiet (.bool false), .quiet (.bool false)] H14 ?ho13 ?he13
 case ho13 => exact bT 3 Tryz.isAgg26 Tryz.sizeOf26 (bT 2 Tryz.isAgg26 Tryz.sizeOf26 (ak (fun γ => ⟨rfl, fun w' _ => exec_neqT26 E0.out rfl rfl rfl⟩) (ar (bT 1 Tryz.isAgg26 Tryz.sizeOf26 (bT 0 Tryz.isAgg26 Tryz.sizeOf26 (ak (fun γ => ⟨rfl, fun w' _ => exec_neqT26 E1.out rfl rfl rfl⟩) (ag (ar (ar (ag (ag (ar (ar (ag (ag trivial)))))))))))))))
 intro _ w15 H15
 clear H14
 refine rN (wp_cond_false rfl ?_)
 refine wp_skip (zA ?_)
 refine wp_seq (wp_seq ?_)
 refine zB 2 [.quiet (.agg (zV mb0 mb1 mb2 mb3 mbz).toArray), .call (.bool false)] H15 ?ho14 ?he14
 case ho14 => exact bT 10 Tryz.isAgg42 Tryz.sizeOf42 (ac (fun w' h => eC call23 (C8.out w' (h.one 13 rfl))) trivial)
 intro _ w16 H16
 clear H15
 refine rN (wp_cond_false rfl ?_)
 refine wp_skip (zA (wp_seq ?_))
 refine zB 2 [.quiet (.bool true), .quiet (.bool true)] H16 ?ho15 ?he15
 case ho15 => exact ar (ar trivial)
 intro _ w17 H17
 clear H16
 refine rN (wp_ret ?_)
 repeat (first | refine zM ?_ | refine zI ?_)
 refine bodyPost_ret (v := .bool true) (by simp [results, Tryz.results7, go_sem, *]) rfl ?_
 exact ⟨rfl, H17.out.2⟩
set_option maxHeartbeats 4000000 in
theorem times_2 (m n m1 m2 n1 n2 sm pl ph ma0 ma1 mb0 mb1 mb2 mb3 mg0 mg1 mg2 mg3 mh0 mh1 mh2 mh3 mi0 mi1 mi2 mi3 mj0 mj1 mj2 mj3 : Nat) (cx maz mbz mgz mhz miz mjz : Bool) (c0 : ∀ w, Mm w [(0, dtab)] → Calls Tryz.prog 35 #[] w (Rt w (.bool true))) (c1 : ∀ w, Calls Tryz.prog 36 #[N m, .int .i64 194] w (Rt w (N m1))) (c2 : ∀ w, Calls Tryz.prog 36 #[N m1, .int .i64 (-194)] w (Rt w (N m2))) (c3 : ∀ w, Calls Tryz.prog 36 #[N n, .int .i64 194] w (Rt w (N n1))) (c4 : ∀ w, Calls Tryz.prog 36 #[N n1, .int .i64 (-194)] w (Rt w (N n2))) (c5 : ∀ w, Calls Tryz.prog 37 #[N m2, N n2] w (Rt w (.tuple #[N sm, .bool cx]))) (c6 : ∀ w, Calls Tryz.prog 38 #[N m2, N n2] w (Rt w (.tuple #[N pl, N ph]))) (c7 : ∀ w, Mm w [(0, dtab)] → Calls Tryz.prog 10 #[.agg (zU ma0 ma1 maz).toArray] w (Rt w (.bool false))) (c8 : ∀ w, Mm w [(0, dtab)] → Calls Tryz.prog 23 #[.agg (zV mb0 mb1 mb2 mb3 mbz).toArray] w (Rt w (.bool true))) (c9 : ∀ w, Mm w [(0, dtab)] → Calls Tryz.prog 30 #[.agg (zV mb0 mb1 mb2 mb3 mbz).toArray, N m2] w (Rt w (.tuple #[.agg (zV mg0 mg1 mg2 mg3 mgz).toArray, .int .i64 0]))) (c10 : ∀ w, Mm w [(0, dtab)] → Calls Tryz.prog 30 #[.agg (zV mb0 mb1 mb2 mb3 mbz).toArray, N n2] w (Rt w (.tuple #[.agg (zV mh0 mh1 mh2 mh3 mhz).toArray, .int .i64 0]))) (c11 : ∀ w, Mm w [(0, dtab)] → Calls Tryz.prog 30 #[.agg (zV mb0 mb1 mb2 mb3 mbz).toArray, N sm] w (Rt w (.tuple #[.agg (zV mi0 mi1 mi2 mi3 miz).toArray, .int .i64 0]))) (c12 : ∀ w, Mm w [(0, dtab)] → Calls Tryz.prog 29 #[.agg (zV mg0 mg1 mg2 mg3 mgz).toArray, .agg (zV mh0 mh1 mh2 mh3 mhz).toArray] w (Rt w (.tuple #[.agg (zV mi0 mi1 mi2 mi3 miz).toArray, .int .i64 0]))) (c13 : ∀ w, Mm w [(0, dtab)] → Calls Tryz.prog 30 #[.agg (zV mg0 mg1 mg2 mg3 mgz).toArray, N n2] w (Rt w (.tuple #[.agg (zV mj0 mj1 mj2 mj3 mjz).toArray, .int .i64 0]))) (c14 : ∀ w, Mm w [(0, dtab)] → Calls Tryz.prog 30 #[.agg (zV mb0 mb1 mb2 mb3 mbz).toArray, N pl] w (Rt w (.tuple #[.agg (zV mj0 mj1 mj2 mj3 mjz).toArray, .int .i64 0])))  (f0 : ∀ w, (Op.equalIn 10000 42 (.agg (zV mi0 mi1 mi2 mi3 miz).toArray) (.agg (zV mi0 mi1 mi2 mi3 miz).toArray)).run Tryz.prog w = .ok true w) (f1 : ∀ w, (Op.equalIn 10000 42 (.agg (zV mj0 mj1 mj2 mj3 mjz).toArray) (.agg (zV mj0 mj1 mj2 mj3 mjz).toArray)).run Tryz.prog w = .ok true w) (w : World) (hm : Mm w [(0, dtab)]) :
  Calls Tryz.prog 7 #[.agg (zU ma0 ma1 maz).toArray, .agg (zV mb0 mb1 mb2 mb3 mbz).toArray, N m, N n] w (Rt w (.bool true)) := by
 have H0 : Hid (_ ∧ _) := ⟨hm, Below.refl w.heap.size w⟩
 clear hm
 have C0 : Hid _ := c0
 clear c0
 have C1 : Hid _ := c1
 clear c1
 have C2 : Hid _ := c2
 clear c2
 have C3 : Hid _ := c3
 clear c3
 have C4 : Hid _ := c4
 clear c4
 have C5 : Hid _ := c5
 clear c5
 have C6 : Hid _ := c6
 clear c6
 have C7 : Hid _ := c7
 clear c7
 have C8 : Hid _ := c8
 clear c8
 have C9 : Hid _ := c9
 clear c9
 have C10 : Hid _ := c10
 clear c10
 have C11 : Hid _ := c11
 clear c11
 have C12 : Hid _ := c12
 clear c12
 have C13 : Hid _ := c13
 clear c13
 have C14 : Hid _ := c14
 clear c14
 have F0 : Hid _ := f0
 clear f0
 have F1 : Hid _ := f1
 clear f1
 go_enter Tryz.func7, Tryz.ntmps7
 refine wp_seq ?_
 refine zC 5 [.made (zU ma0 ma1 maz) 26, .made (zV mb0 mb1 mb2 mb3 mbz) 42, .made (zD m) 24, .made (zD n) 24, .quiet (.bool false)] (sB H0) ?ho1 ?he1
 case ho1 => exact am (zW rfl rfl) (am (zW rfl rfl) (am (yF rfl rfl) (am (yF rfl rfl) (ar trivial))))
 intro γ w1 l hM hl
 have H1 : Hid (Mm w1 ([(γ 0, zU ma0 ma1 maz), (γ 1, zV mb0 mb1 mb2 mb3 mbz), (γ 2, zD m), (γ 3, zD n)] ++ _) ∧ _) := wB H0 hM hl [0, 1, 2, 3]
 have o1_0 := vB H0 hM hl 0
 have o1_1 := vB H0 hM hl 1
 have o1_2 := vB H0 hM hl 2
 have o1_3 := vB H0 hM hl 3
 clear hM hl l
 generalize γ 0 = γ1_0 at H1 o1_0 ⊢
 generalize γ 1 = γ1_1 at H1 o1_1 ⊢
 generalize γ 2 = γ1_2 at H1 o1_2 ⊢
 generalize γ 3 = γ1_3 at H1 o1_3 ⊢
 clear γ
 refine rN (wp_seq ?_)
 refine zB 2 [.call (.bool true), .quiet (.bool true)] H1 ?ho2 ?he2
 case ho2 => exact ac (fun w' h => eC call35 (C0.out w' (h.one 4 rfl))) (ar trivial)
 intro _ w2 H2
 clear H1
 refine rN (wp_seq ?_)
 refine walk_put (by kernel_rfl) 6 [] [.quiet (N m), .call (N m1), .call (N m2), .quiet (N n), .call (N n1), .call (N n2)] _ ?pre3 ?F3 _ ?hpre3 (fun γ => ?hF3) (by kernel_rfl) rfl trivial (sB H2) ?ho3 ?hla3 ?he3
 case hpre3 => simp only [tk, tz]; rfl
 case hF3 => simp only [fill, Kind.val, Act.put, sa, sz, ss]; rfl
 case ho3 =>
  refine bN 2 ?_
  refine ak (fun γ => ⟨rfl, fun w' h => eC call36 (C1.out w')⟩) ?_
  refine ak (fun γ => ⟨rfl, fun w' h => eC call36 (C2.out w')⟩) ?_
  refine bN 3 ?_
  refine ak (fun γ => ⟨rfl, fun w' h => eC call36 (C3.out w')⟩) ?_
  refine ak (fun γ => ⟨rfl, fun w' h => eC call36 (C4.out w')⟩) ?_
  exact trivial
 case hla3 => exact trivial
 intro γ w3 l hM hl
 have H3 := keepB H2 hM.below
 clear hM hl l H2 γ
 refine ⟨_, zO H3.out.1 2 rfl rfl rfl rfl (Nat.le_of_ble_eq_true rfl), ?_⟩
 have H4 : Hid (Mm (w3.setCells γ1_2 0 (zD m2)) [(γ1_0, zU ma0 ma1 maz), (γ1_1, zV mb0 mb1 mb2 mb3 mbz), (γ1_2, zD m2), (γ1_3, zD n), (0, dtab)] ∧ Below w.heap.size w (w3.setCells γ1_2 0 (zD m2))) := ⟨H3.out.1.put 2 (off := 0) (vs := zD m2) rfl (Nat.le_of_ble_eq_true rfl), yA _ o1_2.out _ _ _ H3.out.2⟩
 clear H3
 generalize hgw : World.setCells _ _ _ _ = w4 at H4 ⊢
 clear hgw
 refine zF (l := [7]) rfl ?_
 refine sG rfl (fun h => zO h 3 rfl rfl rfl rfl (Nat.le_of_ble_eq_true rfl)) 3 [_, _, _, (_, zD n2), _] H4 o1_3 fun w5 H5 => ?_
 clear H4
 refine zE (zA (wp_seq ?_))
 refine zC 9 [.quiet (N m2), .quiet (N n2), .call (.tuple #[N sm, .bool cx]), .quiet (.tuple #[N sm, .bool cx]), .quiet (N sm), .quiet (.bool cx), .made zero6 24, .laid 6 zero6 (zD sm), .quiet (.bool cx)] (sB H5) ?ho4 ?he4 (hL := ?hL4)
 case hL4 => exact ⟨⟨_, rfl⟩, trivial⟩
 case ho4 => exact bN 2 (bN 3 (ac (fun w' h => eC call37 (C5.out w')) (ar (ag (ag (am (zJ rfl) (ak (fun γ => ⟨rfl, rfl, rfl, fun w' h => zN h rfl rfl rfl⟩) (ar trivial))))))))
 intro γ w6 l hM hl
 have H6 : Hid (Mm w6 ([(γ 6, zD sm)] ++ _) ∧ _) := wB H5 hM hl [6]
 have o4_6 := vB H5 hM hl 6
 clear hM hl l H5
 generalize γ 6 = γ4_6 at H6 o4_6 ⊢
 clear γ
 refine rN (wp_seq ?_)
 refine zC 10 [.quiet (N m2), .quiet (N n2), .call (.tuple #[N pl, N ph]), .quiet (.tuple #[N pl, N ph]), .quiet (N pl), .quiet (N ph), .made zero6 24, .made zero6 24, .laid 6 zero6 (zD pl), .laid 7 zero6 (zD ph)] (sB H6) ?ho5 ?he5 (hL := ?hL5)
 case hL5 => exact ⟨⟨_, rfl⟩, ⟨_, rfl⟩, trivial⟩
 case ho5 => exact bN 3 (bN 4 (ac (fun w' h => eC call38 (C6.out w')) (ar (ag (ag (am (zJ rfl) (am (zJ rfl) (ak (fun γ => ⟨rfl, rfl, rfl, fun w' h => zN h rfl rfl rfl⟩) (ak (fun γ => ⟨rfl, rfl, rfl, fun w' h => zN h rfl rfl rfl⟩) trivial)))))))))
 intro γ w7 l hM hl
 have H7 : Hid (Mm w7 ([(γ 6, zD pl), (γ 7, zD ph)] ++ _) ∧ _) := wB H6 hM hl [6, 7]
 have o5_6 := vB H6 hM hl 6
 have o5_7 := vB H6 hM hl 7
 clear hM hl l H6
 generalize γ 6 = γ5_6 at H7 o5_6 ⊢
 generalize γ 7 = γ5_7 at H7 o5_7 ⊢
 clear γ
 refine rN (wp_seq (wp_seq ?_))
 refine zB 2 [.quiet (.agg (zU ma0 ma1 maz).toArray), .call (.bool false)] H7 ?ho6 ?he6
 case ho6 => exact bT 3 Tryz.isAgg26 Tryz.sizeOf26 (ac (fun w' h => eC call10 (C7.out w' (h.one 7 rfl))) trivial)
 intro _ w8 H8
 clear H7
 refine rN (wp_cond_false rfl ?_)
 refine wp_skip (zA ?_)
 refine wp_seq (wp_seq ?_)
 refine zB 2 [.quiet (.agg (zV mb0 mb1 mb2 mb3 mbz).toArray), .call (.bool true)] H8 ?ho7 ?he7
 case ho7 => exact bT 4 Tryz.isAgg42 Tryz.sizeOf42 (ac (fun w' h => eC call23 (C8.out w' (h.one 7 rfl))) trivial)
 intro _ w9 H9
 clear H8
 refine rN (wp_cond_true rfl (wp_seq ?_))
 refine zC 9 [.quiet (.agg (zV mb0 mb1 mb2 mb3 mbz).toArray), .quiet (N m2), .call (.tuple #[.agg (zV mg0 mg1 mg2 mg3 mgz).toArray, .int .i64 0]), .quiet (.tuple #[.agg (zV mg0 mg1 mg2 mg3 mgz).toArray, .int .i64 0]), .quiet (.agg (zV mg0 mg1 mg2 mg3 mgz).toArray), .quiet (.int .i64 0), .made (zV 0 0 0 0 false) 42, .laid 6 (zV 0 0 0 0 false) (zV mg0 mg1 mg2 mg3 mgz), .quiet (.int .i64 0)] (sB H9) ?ho8 ?he8 (hL := ?hL8)
 case hL8 => exact ⟨⟨_, rfl⟩, trivial⟩
 case ho8 => exact bT 4 Tryz.isAgg42 Tryz.sizeOf42 (bN 5 (ac (fun w' h => eC call30 (C9.out w' (h.one 7 rfl))) (ar (ag (ag (am (ex_madeP2 rfl) (ak (fun γ => ⟨rfl, rfl, rfl, fun w' h => ex_laidT h rfl rfl Tryz.sizeOf42 rfl rfl rfl⟩) (ar trivial))))))))
 intro γ w10 l hM hl
 have H10 : Hid (Mm w10 ([(γ 6, zV mg0 mg1 mg2 mg3 mgz)] ++ _) ∧ _) := wB H9 hM hl [6]
 have o8_6 := vB H9 hM hl 6
 clear hM hl l H9
 generalize γ 6 = γ8_6 at H10 o8_6 ⊢
 clear γ
 refine rN (wp_seq ?_)
 refine zC 9 [.quiet (.agg (zV mb0 mb1 mb2 mb3 mbz).toArray), .quiet (N n2), .call (.tuple #[.agg (zV mh0 mh1 mh2 mh3 mhz).toArray, .int .i64 0]), .quiet (.tuple #[.agg (zV mh0 mh1 mh2 mh3 mhz).toArray, .int .i64 0]), .quiet (.agg (zV mh0 mh1 mh2 mh3 mhz).toArray), .quiet (.int .i64 0), .made (zV 0 0 0 0 false) 42, .laid 6 (zV 0 0 0 0 false) (zV mh0 mh1 mh2 mh3 mhz), .quiet (.int .i64 0)] (sB H10) ?ho9 ?he9 (hL := ?hL9)
 case hL9 => exact ⟨⟨_, rfl⟩, trivial⟩
 case ho9 => exact bT 5 Tryz.isAgg42 Tryz.sizeOf42 (bN 7 (ac (fun w' h => eC call30 (C10.out w' (h.one 8 rfl))) (ar (ag (ag (am (ex_madeP2 rfl) (ak (fun γ => ⟨rfl, rfl, rfl, fun w' h => ex_laidT h rfl rfl Tryz.sizeOf42 rfl rfl rfl⟩) (ar trivial))))))))
 intro γ w11 l hM hl
 have H11 : Hid (Mm w11 ([(γ 6, zV mh0 mh1 mh2 mh3 mhz)] ++ _) ∧ _) := wB H10 hM hl [6]
 have o9_6 := vB H10 hM hl 6
 clear hM hl l H10
 generalize γ 6 = γ9_6 at H11 o9_6 ⊢
 clear γ
 refine rN (wp_seq ?_)
 refine zC 9 [.quiet (.agg (zV mb0 mb1 mb2 mb3 mbz).toArray), .quiet (N sm), .call (.tuple #[.agg (zV mi0 mi1 mi2 mi3 miz).toArray, .int .i64 0]), .quiet (.tuple #[.agg (zV mi0 mi1 mi2 mi3 miz).toArray, .int .i64 0]), .quiet (.agg (zV mi0 mi1 mi2 mi3 miz).toArray), .quiet (.int .i64 0), .made (zV 0 0 0 0 false) 42, .laid 6 (zV 0 0 0 0 false) (zV mi0 mi1 mi2 mi3 miz), .quiet (.int .i64 0)] (sB H11) ?ho10 ?he10 (hL := ?hL10)
 case hL10 => exact ⟨⟨_, rfl⟩, trivial⟩
 case ho10 => exact bT 6 Tryz.isAgg42 Tryz.sizeOf42 (bN 4 (ac (fun w' h => eC call30 (C11.out w' (h.one 9 rfl))) (ar (ag (ag (am (ex_madeP2 rfl) (ak (fun γ => ⟨rfl, rfl, rfl, fun w' h => ex_laidT h rfl rfl Tryz.sizeOf42 rfl rfl rfl⟩) (ar trivial))))))))
 intro γ w12 l hM hl
 have H12 : Hid (Mm w12 ([(γ 6, zV mi0 mi1 mi2 mi3 miz)] ++ _) ∧ _) := wB H11 hM hl [6]
 have o10_6 := vB H11 hM hl 6
 clear hM hl l H11
 generalize γ 6 = γ10_6 at H12 o10_6 ⊢
 clear γ
 refine rN (wp_seq ?_)
 refine zC 9 [.quiet (.agg (zV mg0 mg1 mg2 mg3 mgz).toArray), .quiet (.agg (zV mh0 mh1 mh2 mh3 mhz).toArray), .call (.tuple #[.agg (zV mi0 mi1 mi2 mi3 miz).toArray, .int .i64 0]), .quiet (.tuple #[.agg (zV mi0 mi1 mi2 mi3 miz).toArray, .int .i64 0]), .quiet (.agg (zV mi0 mi1 mi2 mi3 miz).toArray), .quiet (.int .i64 0), .made (zV 0 0 0 0 false) 42, .laid 6 (zV 0 0 0 0 false) (zV mi0 mi1 mi2 mi3 miz), .quiet (.int .i64 0)] (sB H12) ?ho11 ?he11 (hL := ?hL11)
 case hL11 => exact ⟨⟨_, rfl⟩, trivial⟩
 case ho11 => exact bT 2 Tryz.isAgg42 Tryz.sizeOf42 (bT 1 Tryz.isAgg42 Tryz.sizeOf42 (ac (fun w' h => eC call29 (C12.out w' (h.one 10 rfl))) (ar (ag (ag (am (ex_madeP2 rfl) (ak (fun γ => ⟨rfl, rfl, rfl, fun w' h => ex_laidT h rfl rfl Tryz.sizeOf42 rfl rfl rfl⟩) (ar trivial))))))))
 intro γ w13 l hM hl
 have H13 : Hid (Mm w13 ([(γ 6, zV mi0 mi1 mi2 mi3 miz)] ++ _) ∧ _) := wB H12 hM hl [6]
 have o11_6 := vB H12 hM hl 6
 clear hM hl l H12
 generalize γ 6 = γ11_6 at H13 o11_6 ⊢
 clear γ
 refine rN (wp_seq ?_)
 refine zC 9 [.quiet (.agg (zV mg0 mg1 mg2 mg3 mgz).toArray), .quiet (N n2), .call (.tuple #[.agg (zV mj0 mj1 mj2 mj3 mjz).toArray, .int .i64 0]), .quiet (.tuple #[.agg (zV mj0 mj1 mj2 mj3 mjz).toArray, .int .i64 0]), .quiet (.agg (zV mj0 mj1 mj2 mj3 mjz).toArray), .quiet (.int .i64 0), .made (zV 0 0 0 0 false) 42, .laid 6 (zV 0 0 0 0 false) (zV mj0 mj1 mj2 mj3 mjz), .quiet (.int .i64 0)] (sB H13) ?ho12 ?he12 (hL := ?hL12)
 case hL12 => exact ⟨⟨_, rfl⟩, trivial⟩
 case ho12 => exact bT 3 Tryz.isAgg42 Tryz.sizeOf42 (bN 10 (ac (fun w' h => eC call30 (C13.out w' (h.one 11 rfl))) (ar (ag (ag (am (ex_madeP2 rfl) (ak (fun γ => ⟨rfl, rfl, rfl, fun w' h => ex_laidT h rfl rfl Tryz.sizeOf42 rfl rfl rfl⟩) (ar trivial))))))))
 intro γ w14 l hM hl
 have H14 : Hid (Mm w14 ([(γ 6, zV mj0 mj1 mj2 mj3 mjz)] ++ _) ∧ _) := wB H13 hM hl [6]
 have o12_6 := vB H13 hM hl 6
 clear hM hl l H13
 generalize γ 6 = γ12_6 at H14 o12_6 ⊢
 clear γ
 refine rN (wp_seq ?_)
 refine zC 9 [.quiet (.agg (zV mb0 mb1 mb2 mb3 mbz).toArray), .quiet (N pl), .call (.tuple #[.agg (zV mj0 mj1 mj2 mj3 mjz).toArray, .int .i64 0]), .quiet (.tuple #[.agg (zV mj0 mj1 mj2 mj3 mjz).toArray, .int .i64 0]), .quiet (.agg (zV mj0 mj1 mj2 mj3 mjz).toArray), .quiet (.int .i64 0), .made (zV 0 0 0 0 false) 42, .laid 6 (zV 0 0 0 0 false) (zV mj0 mj1 mj2 mj3 mjz), .quiet (.int .i64 0)] (sB H14) ?ho13 ?he13 (hL := ?hL13)
 case hL13 => exact ⟨⟨_, rfl⟩, trivial⟩
 case ho13 => exact bT 9 Tryz.isAgg42 Tryz.sizeOf42 (bN 5 (ac (fun w' h => eC call30 (C14.out w' (h.one 12 rfl))) (ar (ag (ag (am (ex_madeP2 rfl) (ak (fun γ => ⟨rfl, rfl, rfl, fun w' h => ex_laidT h rfl rfl Tryz.sizeOf42 rfl rfl rfl⟩) (ar trivial))))))))
 intro γ w15 l hM hl
 have H15 : Hid (Mm w15 ([(γ 6, zV mj0 mj1 mj2 mj3 mjz)] ++ _) ∧ _) := wB H14 hM hl [6]
 have o13_6 := vB H14 hM hl 6
 clear hM hl l H14
 generalize γ 6 = γ13_6 at H15 o13_6 ⊢
 clear γ
 refine rN (wp_seq ?_)
 refine zB 16 [.quiet (.agg (zV mi0 mi1 mi2 mi3 miz).toArray), .quiet (.agg (zV mi0 mi1 mi2 mi3 miz).toArray), .quiet (.bool false), .quiet (.bool false), .quiet (.agg (zV mj0 mj1 mj2 mj3 mjz).toArray), .quiet (.agg (zV mj0 mj1 mj2 mj3 mjz).toArray), .quiet (.bool false), .quiet (.bool false), .quiet (.bool false), .quiet (.int .i64 0), .quiet (.bool false), .quiet (.bool false), .quiet (.bool false), .quiet (.int .i64 0), .quiet (.bool false), .quiet (.bool false)] H15 ?ho14 ?he14
 case ho14 => exact bT 3 Tryz.isAgg42 Tryz.sizeOf42 (bT 2 Tryz.isAgg42 Tryz.sizeOf42 (ak (fun γ => ⟨rfl, fun w' _ => exec_neqT42 F0.out rfl rfl rfl⟩) (ar (bT 1 Tryz.isAgg42 Tryz.sizeOf42 (bT 0 Tryz.isAgg42 Tryz.sizeOf42 (ak (fun γ => ⟨rfl, fun w' _ => exec_neqT42 F1.out rfl rfl rfl⟩) (ag (ar (ar (ag (ag (ar (ar (ag (ag trivial)))))))))))))))
 intro _ w16 H16
 clear H15
 refine rN (wp_cond_false rfl ?_)
 refine wp_skip (zA (wp_seq ?_))
 refine zB 2 [.quiet (.bool true), .quiet (.bool true)] H16 ?ho15 ?he15
 case ho15 => exact ar (ar trivial)
 intro _ w17 H17
 clear H16
 refine rN (wp_ret ?_)
 repeat (first | refine zM ?_ | refine zI ?_)
 refine bodyPost_ret (v := .bool true) (by simp [results, Tryz.results7, go_sem, *]) rfl ?_
 exact ⟨rfl, H17.out.2⟩
set_option maxHeartbeats 4000000 in
theorem times_3 (m n m1 m2 n1 n2 sm pl ph ma0 ma1 mb0 mb1 mb2 mb3 : Nat) (cx maz mbz : Bool) (c0 : ∀ w, Mm w [(0, dtab)] → Calls Tryz.prog 35 #[] w (Rt w (.bool true))) (c1 : ∀ w, Calls Tryz.prog 36 #[N m, .int .i64 194] w (Rt w (N m1))) (c2 : ∀ w, Calls Tryz.prog 36 #[N m1, .int .i64 (-194)] w (Rt w (N m2))) (c3 : ∀ w, Calls Tryz.prog 36 #[N n, .int .i64 194] w (Rt w (N n1))) (c4 : ∀ w, Calls Tryz.prog 36 #[N n1, .int .i64 (-194)] w (Rt w (N n2))) (c5 : ∀ w, Calls Tryz.prog 37 #[N m2, N n2] w (Rt w (.tuple #[N sm, .bool cx]))) (c6 : ∀ w, Calls Tryz.prog 38 #[N m2, N n2] w (Rt w (.tuple #[N pl, N ph]))) (c7 : ∀ w, Mm w [(0, dtab)] → Calls Tryz.prog 10 #[.agg (zU ma0 ma1 maz).toArray] w (Rt w (.bool false))) (c8 : ∀ w, Mm w [(0, dtab)] → Calls Tryz.prog 23 #[.agg (zV mb0 mb1 mb2 mb3 mbz).toArray] w (Rt w (.bool false)))  (w : World) (hm : Mm w [(0, dtab)]) :
  Calls Tryz.prog 7 #[.agg (zU ma0 ma1 maz).toArray, .agg (zV mb0 mb1 mb2 mb3 mbz).toArray, N m, N n] w (Rt w (.bool true)) := by
 have H0 : Hid (_ ∧ _) := ⟨hm, Below.refl w.heap.size w⟩
 clear hm
 have C0 : Hid _ := c0
 clear c0
 have C1 : Hid _ := c1
 clear c1
 have C2 : Hid _ := c2
 clear c2
 have C3 : Hid _ := c3
 clear c3
 have C4 : Hid _ := c4
 clear c4
 have C5 : Hid _ := c5
 clear c5
 have C6 : Hid _ := c6
 clear c6
 have C7 : Hid _ := c7
 clear c7
 have C8 : Hid _ := c8
 clear c8
 go_enter Tryz.func7, Tryz.ntmps7
 refine wp_seq ?_
 refine zC 5 [.made (zU ma0 ma1 maz) 26, .made (zV mb0 mb1 mb2 mb3 mbz) 42, .made (zD m) 24, .made (zD n) 24, .quiet (.bool false)] (sB H0) ?ho1 ?he1
 case ho1 => exact am (zW rfl rfl) (am (zW rfl rfl) (am (yF rfl rfl) (am (yF rfl rfl) (ar trivial))))
 intro γ w1 l hM hl
 have H1 : Hid (Mm w1 ([(γ 0, zU ma0 ma1 maz), (γ 1, zV mb0 mb1 mb2 mb3 mbz), (γ 2, zD m), (γ 3, zD n)] ++ _) ∧ _) := wB H0 hM hl [0, 1, 2, 3]
 have o1_0 := vB H0 hM hl 0
 have o1_1 := vB H0 hM hl 1
 have o1_2 := vB H0 hM hl 2
 have o1_3 := vB H0 hM hl 3
 clear hM hl l
 generalize γ 0 = γ1_0 at H1 o1_0 ⊢
 generalize γ 1 = γ1_1 at H1 o1_1 ⊢
 generalize γ 2 = γ1_2 at H1 o1_2 ⊢
 generalize γ 3 = γ1_3 at H1 o1_3 ⊢
 clear γ
 refine rN (wp_seq ?_)
 refine zB 2 [.call (.bool true), .quiet (.bool true)] H1 ?ho2 ?he2
 case ho2 => exact ac (fun w' h => eC call35 (C0.out w' (h.one 4 rfl))) (ar trivial)
 intro _ w2 H2
 clear H1
 refine rN (wp_seq ?_)
 refine walk_put (by kernel_rfl) 6 [] [.quiet (N m), .call (N m1), .call (N m2), .quiet (N n), .call (N n1), .call (N n2)] _ ?pre3 ?F3 _ ?hpre3 (fun γ => ?hF3) (by kernel_rfl) rfl trivial (sB H2) ?ho3 ?hla3 ?he3
 case hpre3 => simp only [tk, tz]; rfl
 case hF3 => simp only [fill, Kind.val, Act.put, sa, sz, ss]; rfl
 case ho3 =>
  refine bN 2 ?_
  refine ak (fun γ => ⟨rfl, fun w' h => eC call36 (C1.out w')⟩) ?_
  refine ak (fun γ => ⟨rfl, fun w' h => eC call36 (C2.out w')⟩) ?_
  refine bN 3 ?_
  refine ak (fun γ => ⟨rfl, fun w' h => eC call36 (C3.out w')⟩) ?_
  refine ak (fun γ => ⟨rfl, fun w' h => eC call36 (C4.out w')⟩) ?_
  exact trivial
 case hla3 => exact trivial
 intro γ w3 l hM hl
 have H3 := keepB H2 hM.below
 clear hM hl l H2 γ
 refine ⟨_, zO H3.out.1 2 rfl rfl rfl rfl (Nat.le_of_ble_eq_true rfl), ?_⟩
 have H4 : Hid (Mm (w3.setCells γ1_2 0 (zD m2)) [(γ1_0, zU ma0 ma1 maz), (γ1_1, zV mb0 mb1 mb2 mb3 mbz), (γ1_2, zD m2), (γ1_3, zD n), (0, dtab)] ∧ Below w.heap.size w (w3.setCells γ1_2 0 (zD m2))) := ⟨H3.out.1.put 2 (off := 0) (vs := zD m2) rfl (Nat.le_of_ble_eq_true rfl), yA _ o1_2.out _ _ _ H3.out.2⟩
 clear H3
 generalize hgw : World.setCells _ _ _ _ = w4 at H4 ⊢
 clear hgw
 refine zF (l := [7]) rfl ?_
 refine sG rfl (fun h => zO h 3 rfl rfl rfl rfl (Nat.le_of_ble_eq_true rfl)) 3 [_, _, _, (_, zD n2), _] H4 o1_3 fun w5 H5 => ?_
 clear H4
 refine zE (zA (wp_seq ?_))
 refine zC 9 [.quiet (N m2), .quiet (N n2), .call (.tuple #[N sm, .bool cx]), .quiet (.tuple #[N sm, .bool cx]), .quiet (N sm), .quiet (.bool cx), .made zero6 24, .laid 6 zero6 (zD sm), .quiet (.bool cx)] (sB H5) ?ho4 ?he4 (hL := ?hL4)
 case hL4 => exact ⟨⟨_, rfl⟩, trivial⟩
 case ho4 => exact bN 2 (bN 3 (ac (fun w' h => eC call37 (C5.out w')) (ar (ag (ag (am (zJ rfl) (ak (fun γ => ⟨rfl, rfl, rfl, fun w' h => zN h rfl rfl rfl⟩) (ar trivial))))))))
 intro γ w6 l hM hl
 have H6 : Hid (Mm w6 ([(γ 6, zD sm)] ++ _) ∧ _) := wB H5 hM hl [6]
 have o4_6 := vB H5 hM hl 6
 clear hM hl l H5
 generalize γ 6 = γ4_6 at H6 o4_6 ⊢
 clear γ
 refine rN (wp_seq ?_)
 refine zC 10 [.quiet (N m2), .quiet (N n2), .call (.tuple #[N pl, N ph]), .quiet (.tuple #[N pl, N ph]), .quiet (N pl), .quiet (N ph), .made zero6 24, .made zero6 24, .laid 6 zero6 (zD pl), .laid 7 zero6 (zD ph)] (sB H6) ?ho5 ?he5 (hL := ?hL5)
 case hL5 => exact ⟨⟨_, rfl⟩, ⟨_, rfl⟩, trivial⟩
 case ho5 => exact bN 3 (bN 4 (ac (fun w' h => eC call38 (C6.out w')) (ar (ag (ag (am (zJ rfl) (am (zJ rfl) (ak (fun γ => ⟨rfl, rfl, rfl, fun w' h => zN h rfl rfl rfl⟩) (ak (fun γ => ⟨rfl, rfl, rfl, fun w' h => zN h rfl rfl rfl⟩) trivial)))))))))
 intro γ w7 l hM hl
 have H7 : Hid (Mm w7 ([(γ 6, zD pl), (γ 7, zD ph)] ++ _) ∧ _) := wB H6 hM hl [6, 7]
 have o5_6 := vB H6 hM hl 6
 have o5_7 := vB H6 hM hl 7
 clear hM hl l H6
 generalize γ 6 = γ5_6 at H7 o5_6 ⊢
 generalize γ 7 = γ5_7 at H7 o5_7 ⊢
 clear γ
 refine rN (wp_seq (wp_seq ?_))
 refine zB 2 [.quiet (.agg (zU ma0 ma1 maz).toArray), .call (.bool false)] H7 ?ho6 ?he6
 case ho6 => exact bT 3 Tryz.isAgg26 Tryz.sizeOf26 (ac (fun w' h => eC call10 (C7.out w' (h.one 7 rfl))) trivial)
 intro _ w8 H8
 clear H7
 refine rN (wp_cond_false rfl ?_)
 refine wp_skip (zA ?_)
 refine wp_seq (wp_seq ?_)
 refine zB 2 [.quiet (.agg (zV mb0 mb1 mb2 mb3 mbz).toArray), .call (.bool false)] H8 ?ho7 ?he7
 case ho7 => exact bT 4 Tryz.isAgg42 Tryz.sizeOf42 (ac (fun w' h => eC call23 (C8.out w' (h.one 7 rfl))) trivial)
 intro _ w9 H9
 clear H8
 refine rN (wp_cond_false rfl ?_)
 refine wp_skip (zA (wp_seq ?_))
 refine zB 2 [.quiet (.bool true), .quiet (.bool true)] H9 ?ho8 ?he8
 case ho8 => exact ar (ar trivial)
 intro _ w10 H10
 clear H9
 refine rN (wp_ret ?_)
 repeat (first | refine zM ?_ | refine zI ?_)
 refine bodyPost_ret (v := .bool true) (by simp [results, Tryz.results7, go_sem, *]) rfl ?_
 exact ⟨rfl, H10.out.2⟩
theorem zero_1 {α : Type} {en : α → Nat} {fa fs fm : α → α → α} {fi : α → α} {z u b : α} {g : Nat} {tn : Value} (_C : Fd1 g en fa fs fm fi z) (w : World) (hm : Mm w [(g, yB pB), (0, dtab)]) :
  Calls Tryz.prog 117 #[.agg (G1 g tn (en u) (en b)).toArray] w (Rt w (V [0, en u, 0])) := by
 have H0 : Hid (_ ∧ _) := ⟨hm, Below.refl w.heap.size w⟩
 clear hm
 go_enter Tryz.func117, Tryz.ntmps117
 refine wp_seq ?_
 refine zC 2 [.made (G1 g tn (en u) (en b)) 81, .made (cel [0, 0, 0]) 124] (sB H0) ?ho1 ?he1
 case ho1 => exact am (zW rfl rfl) (am (ex_madeTN rfl) trivial)
 intro γ w1 l hM hl
 have H1 : Hid (Mm w1 ([(γ 0, G1 g tn (en u) (en b)), (γ 1, cel [0, 0, 0])] ++ _) ∧ _) := wB H0 hM hl [0, 1]
 have o1_0 := vB H0 hM hl 0
 have o1_1 := vB H0 hM hl 1
 clear hM hl l
 generalize γ 0 = γ1_0 at H1 o1_0 ⊢
 generalize γ 1 = γ1_1 at H1 o1_1 ⊢
 clear γ
 refine rN (wp_seq ?_)
 refine zB 4 [.quiet (PT γ1_0 0), .quiet (PT γ1_0 5), .quiet (N (en u)), .quiet (V [0, en u, 0])] H1 ?ho2 ?he2
 case ho2 => exact ag (ag (bN 0 (ak (fun γ => ⟨rfl, fun w' _ => ex_buildTNy rfl rfl⟩) trivial)))
 intro _ w2 H2
 clear H1
 refine zF (l := [4]) rfl ?_
 refine sF 1 [0, en u, 0] [_, _, _, _] H2 o1_1 Tryz.sizeOf124 fun w3 H3 => ?_
 clear H2
 refine zE (zA (wp_ret ?_))
 repeat (first | refine zM ?_ | refine zI ?_)
 have hf0 := cel_var (k := 3) H3.out.1 1 rfl Tryz.isAgg124 Tryz.sizeOf124 rfl
 refine bodyPost_ret (v := V [0, en u, 0]) (by simp [results, Tryz.results117, asAddr, hf0]) rfl ?_
 exact ⟨rfl, H3.out.2⟩
theorem liftT_1 {α : Type} {en : α → Nat} {fa fs fm : α → α → α} {fi : α → α} {z u b : α} {g : Nat} {tn : Value} (C : Fd1 g en fa fs fm fi z) (x y : Nat) (w : World) (hm : Mm w [(g, yB pB), (0, dtab)]) :
  Calls Tryz.prog 89 #[.agg (G1 g tn (en u) (en b)).toArray, .agg (zU x y true).toArray] w (Rt w (V [0, en u, 0])) := by
 have H0 : Hid (_ ∧ _) := ⟨hm, Below.refl w.heap.size w⟩
 clear hm
 go_enter Tryz.func89, Tryz.ntmps89
 refine wp_seq ?_
 refine zC 3 [.made (G1 g tn (en u) (en b)) 81, .made (zU x y true) 84, .made (cel [0, 0, 0]) 124] (sB H0) ?ho1 ?he1
 case ho1 => exact am (zW rfl rfl) (am (zW rfl rfl) (am (ex_madeTN rfl) trivial))
 intro γ w1 l hM hl
 have H1 : Hid (Mm w1 ([(γ 0, G1 g tn (en u) (en b)), (γ 1, zU x y true), (γ 2, cel [0, 0, 0])] ++ _) ∧ _) := wB H0 hM hl [0, 1, 2]
 have o1_0 := vB H0 hM hl 0
 have o1_1 := vB H0 hM hl 1
 have o1_2 := vB H0 hM hl 2
 clear hM hl l
 generalize γ 0 = γ1_0 at H1 o1_0 ⊢
 generalize γ 1 = γ1_1 at H1 o1_1 ⊢
 generalize γ 2 = γ1_2 at H1 o1_2 ⊢
 clear γ
 refine rN (wp_seq (wp_seq ?_))
 refine zB 2 [.quiet (PT γ1_1 12), .quiet (.bool true)] H1 ?ho2 ?he2
 case ho2 => exact ag (bC 1 Tryz.isAgg4 trivial)
 intro _ w2 H2
 clear H1
 refine rN (wp_cond_true rfl (wp_seq ?_))
 refine zB 2 [.quiet (.agg (G1 g tn (en u) (en b)).toArray), .call (V [0, en u, 0])] H2 ?ho3 ?he3
 case ho3 => exact bT 0 Tryz.isAgg81 Tryz.sizeOf81 (ac (fun w' h => eC call117 (zero_1 C w' (h.two 3 4 rfl rfl (by decide)))) trivial)
 intro _ w3 H3
 clear H2
 refine zF (l := [2]) rfl ?_
 refine sF 2 [0, en u, 0] [_, _, _, _, _] H3 o1_2 Tryz.sizeOf124 fun w4 H4 => ?_
 clear H3
 refine zE (zA (wp_ret ?_))
 repeat (first | refine zM ?_ | refine zI ?_)
 have hf0 := cel_var (k := 3) H4.out.1 2 rfl Tryz.isAgg124 Tryz.sizeOf124 rfl
 refine bodyPost_ret (v := V [0, en u, 0]) (by simp [results, Tryz.results89, asAddr, hf0]) rfl ?_
 exact ⟨rfl, H4.out.2⟩
theorem liftF_1 {α : Type} {en : α → Nat} {fa fs fm : α → α → α} {fi : α → α} {z u b : α} {g : Nat} {tn : Value} (_C : Fd1 g en fa fs fm fi z) (x y : Nat) (w : World) (hm : Mm w [(g, yB pB), (0, dtab)]) :
  Calls Tryz.prog 89 #[.agg (G1 g tn (en u) (en b)).toArray, .agg (zU x y false).toArray] w (Rt w (V [x, y, en u])) := by
 have H0 : Hid (_ ∧ _) := ⟨hm, Below.refl w.heap.size w⟩
 clear hm
 go_enter Tryz.func89, Tryz.ntmps89
 refine wp_seq ?_
 refine zC 3 [.made (G1 g tn (en u) (en b)) 81, .made (zU x y false) 84, .made (cel [0, 0, 0]) 124] (sB H0) ?ho1 ?he1
 case ho1 => exact am (zW rfl rfl) (am (zW rfl rfl) (am (ex_madeTN rfl) trivial))
 intro γ w1 l hM hl
 have H1 : Hid (Mm w1 ([(γ 0, G1 g tn (en u) (en b)), (γ 1, zU x y false), (γ 2, cel [0, 0, 0])] ++ _) ∧ _) := wB H0 hM hl [0, 1, 2]
 have o1_0 := vB H0 hM hl 0
 have o1_1 := vB H0 hM hl 1
 have o1_2 := vB H0 hM hl 2
 clear hM hl l
 generalize γ 0 = γ1_0 at H1 o1_0 ⊢
 generalize γ 1 = γ1_1 at H1 o1_1 ⊢
 generalize γ 2 = γ1_2 at H1 o1_2 ⊢
 clear γ
 refine rN (wp_seq (wp_seq ?_))
 refine zB 2 [.quiet (PT γ1_1 12), .quiet (.bool false)] H1 ?ho2 ?he2
 case ho2 => exact ag (bC 1 Tryz.isAgg4 trivial)
 intro _ w2 H2
 clear H1
 refine rN (wp_cond_false rfl ?_)
 refine wp_skip (zA (wp_seq ?_))
 refine zB 8 [.quiet (PT γ1_1 0), .quiet (N x), .quiet (PT γ1_1 6), .quiet (N y), .quiet (PT γ1_0 0), .quiet (PT γ1_0 5), .quiet (N (en u)), .quiet (V [x, y, en u])] H2 ?ho3 ?he3
 case ho3 => exact ag (bN 1 (ag (bN 1 (ag (ag (bN 0 (ak (fun γ => ⟨rfl, fun w' _ => ex_buildTN rfl rfl rfl rfl⟩) trivial)))))))
 intro _ w3 H3
 clear H2
 refine zF (l := [8]) rfl ?_
 refine sF 2 [x, y, en u] [_, _, _, _, _] H3 o1_2 Tryz.sizeOf124 fun w4 H4 => ?_
 clear H3
 refine zE (zA (wp_ret ?_))
 repeat (first | refine zM ?_ | refine zI ?_)
 have hf0 := cel_var (k := 3) H4.out.1 2 rfl Tryz.isAgg124 Tryz.sizeOf124 rfl
 refine bodyPost_ret (v := V [x, y, en u]) (by simp [results, Tryz.results89, asAddr, hf0]) rfl ?_
 exact ⟨rfl, H4.out.2⟩
theorem isZero_1 (x y t : Nat) (bz : Bool) (hz : ∀ w, (Op.equalIn 10000 24 (N t) (N 0)).run Tryz.prog w = .ok bz w) (w : World) :
  Calls Tryz.prog 136 #[V [x, y, t]] w (Rt w (.bool bz)) := by
 have H0 : Hid (_ ∧ _) := ⟨Mm.nil w, Below.refl w.heap.size w⟩
 have HZ : Hid _ := hz
 clear hz
 go_enter Tryz.func136, Tryz.ntmps136
 refine wp_seq ?_
 refine zC 2 [.made (cel [x, y, t]) 124, .quiet (.bool false)] (sB H0) ?ho1 ?he1
 case ho1 => exact am (ex_boxA rfl rfl) (ar trivial)
 intro γ w1 l hM hl
 have H1 : Hid (Mm w1 [(γ 0, cel [x, y, t])] ∧ _) := wB H0 hM hl [0]
 have o1_0 := vB H0 hM hl 0
 clear hM hl l
 generalize γ 0 = γ1_0 at H1 o1_0 ⊢
 clear γ
 refine rN (wp_seq ?_)
 refine zC 1 [.made zero6 24] (sB H1) ?ho2 ?he2
 case ho2 => exact am (zJ rfl) trivial
 intro γ w2 l hM hl
 have H2 : Hid (Mm w2 ([(γ 0, zero6)] ++ _) ∧ _) := wB H1 hM hl [0]
 have o2_0 := vB H1 hM hl 0
 clear hM hl l H1
 generalize γ 0 = γ2_0 at H2 o2_0 ⊢
 clear γ
 refine rN (wp_seq ?_)
 refine zB 5 [.quiet (PT γ1_0 12), .quiet (N t), .quiet (N 0), .quiet (.bool bz), .quiet (.bool bz)] H2 ?ho3 ?he3
 case ho3 => exact ag (aq (fun w' h => zX (i := 2) h 1 rfl rfl rfl rfl) (aq (fun w' h => ex_load6 (v := 0) h 0 rfl rfl rfl zero_take) (ak (fun γ => ⟨rfl, fun w' _ => exec_eq6 HZ.out rfl rfl rfl⟩) (ar trivial))))
 intro _ w3 H3
 clear H2
 refine rN (wp_ret ?_)
 repeat (first | refine zM ?_ | refine zI ?_)
 refine bodyPost_ret (v := .bool bz) (by simp [results, Tryz.results136, go_sem, *]) rfl ?_
 exact ⟨rfl, H3.out.2⟩
theorem lowerT_1 {α : Type} {en : α → Nat} {fa fs fm : α → α → α} {fi : α → α} {z u b : α} {g : Nat} {tn : Value} (_C : Fd1 g en fa fs fm fi z) (x y t : Nat) (hz : ∀ w, (Op.equalIn 10000 24 (N t) (N 0)).run Tryz.prog w = .ok true w) (w : World) (hm : Mm w [(g, yB pB), (0, dtab)]) :
  Calls Tryz.prog 93 #[.agg (G1 g tn (en u) (en b)).toArray, V [x, y, t]] w (Rt w (.agg (zU 0 0 true).toArray)) := by
 have H0 : Hid (_ ∧ _) := ⟨hm, Below.refl w.heap.size w⟩
 clear hm
 have HZ : Hid _ := hz
 clear hz
 go_enter Tryz.func93, Tryz.ntmps93
 refine wp_seq ?_
 refine zC 3 [.made (G1 g tn (en u) (en b)) 81, .made (cel [x, y, t]) 124, .made (zU 0 0 false) 84] (sB H0) ?ho1 ?he1
 case ho1 => exact am (zW rfl rfl) (am (ex_boxA rfl rfl) (am (ex_madePN rfl) trivial))
 intro γ w1 l hM hl
 have H1 : Hid (Mm w1 ([(γ 0, G1 g tn (en u) (en b)), (γ 1, cel [x, y, t]), (γ 2, zU 0 0 false)] ++ _) ∧ _) := wB H0 hM hl [0, 1, 2]
 have o1_0 := vB H0 hM hl 0
 have o1_1 := vB H0 hM hl 1
 have o1_2 := vB H0 hM hl 2
 clear hM hl l
 generalize γ 0 = γ1_0 at H1 o1_0 ⊢
 generalize γ 1 = γ1_1 at H1 o1_1 ⊢
 generalize γ 2 = γ1_2 at H1 o1_2 ⊢
 clear γ
 refine rN (wp_seq (wp_seq ?_))
 refine zB 2 [.quiet (V [x, y, t]), .call (.bool true)] H1 ?ho2 ?he2
 case ho2 => exact bA 0 3 1 Tryz.isAgg124 Tryz.sizeOf124 (ac (fun w' h => eC call136 (isZero_1 _ _ _ true HZ.out w')) trivial)
 intro _ w2 H2
 clear H1
 refine rN (wp_cond_true rfl (wp_seq ?_))
 refine zB 1 [.quiet (.agg (zU 0 0 true).toArray)] H2 ?ho3 ?he3
 case ho3 => exact ak (fun γ => ⟨rfl, fun w' _ => ex_buildPNt rfl rfl⟩) trivial
 intro _ w3 H3
 clear H2
 refine zF (l := [1]) rfl ?_
 refine sG rfl (fun h => ex_storeT (vs := zU 0 0 true) h 2 rfl rfl rfl rfl Tryz.sizeOf84 rfl (Nat.le_of_ble_eq_true rfl)) 2 [_, _, (_, zU 0 0 true), _, _] H3 o1_2 fun w4 H4 => ?_
 clear H3
 refine zE (zA (wp_ret ?_))
 repeat (first | refine zM ?_ | refine zI ?_)
 have hf0 := var_T H4.out.1 2 rfl Tryz.isAgg84 Tryz.sizeOf84 rfl
 refine bodyPost_ret (v := .agg (zU 0 0 true).toArray) (by simp [results, Tryz.results93, asAddr, hf0]) rfl ?_
 exact ⟨rfl, H4.out.2⟩
theorem lowerF_1 {α : Type} {en : α → Nat} {fa fs fm : α → α → α} {fi : α → α} {z u b : α} {g : Nat} {tn : Value} (C : Fd1 g en fa fs fm fi z) (x y t : α) (hz : ∀ w, (Op.equalIn 10000 24 (N (en t)) (N 0)).run Tryz.prog w = .ok false w) (ht : t ≠ z) (w : World) (hm : Mm w [(g, yB pB), (0, dtab)]) :
  Calls Tryz.prog 93 #[.agg (G1 g tn (en u) (en b)).toArray, V [en x, en y, en t]] w (Rt w (.agg (zU (en (fm x (fi t))) (en (fm y (fi t))) false).toArray)) := by
 have H0 : Hid (_ ∧ _) := ⟨hm, Below.refl w.heap.size w⟩
 clear hm
 have HZ : Hid _ := hz
 clear hz
 have HT : Hid _ := ht
 clear ht
 go_enter Tryz.func93, Tryz.ntmps93
 refine wp_seq ?_
 refine zC 3 [.made (G1 g tn (en u) (en b)) 81, .made (cel [en x, en y, en t]) 124, .made (zU 0 0 false) 84] (sB H0) ?ho1 ?he1
 case ho1 => exact am (zW rfl rfl) (am (ex_boxA rfl rfl) (am (ex_madePN rfl) trivial))
 intro γ w1 l hM hl
 have H1 : Hid (Mm w1 ([(γ 0, G1 g tn (en u) (en b)), (γ 1, cel [en x, en y, en t]), (γ 2, zU 0 0 false)] ++ _) ∧ _) := wB H0 hM hl [0, 1, 2]
 have o1_0 := vB H0 hM hl 0
 have o1_1 := vB H0 hM hl 1
 have o1_2 := vB H0 hM hl 2
 clear hM hl l
 generalize γ 0 = γ1_0 at H1 o1_0 ⊢
 generalize γ 1 = γ1_1 at H1 o1_1 ⊢
 generalize γ 2 = γ1_2 at H1 o1_2 ⊢
 clear γ
 refine rN (wp_seq (wp_seq ?_))
 refine zB 2 [.quiet (V [en x, en y, en t]), .call (.bool false)] H1 ?ho2 ?he2
 case ho2 => exact bA 0 3 1 Tryz.isAgg124 Tryz.sizeOf124 (ac (fun w' h => eC call136 (isZero_1 _ _ _ false HZ.out w')) trivial)
 intro _ w2 H2
 clear H1
 refine rN (wp_cond_false rfl ?_)
 refine wp_skip (zA (wp_seq ?_))
 refine zC 12 [.quiet (PT γ1_0 0), .quiet (PT γ1_0 3), .quiet (.func (.func 86) #[PT g 0] #[]), .quiet (PT γ1_1 12), .quiet (N (en t)), .call (.tuple #[N (en (fi t)), .int .i64 0]), .quiet (.tuple #[N (en (fi t)), .int .i64 0]), .quiet (N (en (fi t))), .quiet (.int .i64 0), .made zero6 24, .laid 9 zero6 (zD (en (fi t))), .quiet (.int .i64 0)] (sB H2) ?ho3 ?he3 (hL := ?hL3)
 case hL3 => exact ⟨⟨_, rfl⟩, trivial⟩
 case ho3 => exact ag (ag (bC 0 Tryz.isAgg77 (ag (aq (fun w' h => zX (i := 2) h 1 rfl rfl rfl rfl) (ac (fun w' h => ⟨86, #[PT g 0, N (en t)], zL rfl call86 rfl (mpn rfl) rfl, C.ci _ w' HT.out (h.two 3 4 rfl rfl (by decide))⟩) (ar (ag (ag (am (zJ rfl) (ak (fun γ => ⟨rfl, rfl, rfl, fun w' h => zN h rfl rfl rfl⟩) (ar trivial)))))))))))
 intro γ w3 l hM hl
 have H3 : Hid (Mm w3 ([(γ 9, zD (en (fi t)))] ++ _) ∧ _) := wB H2 hM hl [9]
 have o3_9 := vB H2 hM hl 9
 clear hM hl l H2
 generalize γ 9 = γ3_9 at H3 o3_9 ⊢
 clear γ
 refine rN (wp_seq ?_)
 refine zP 15 [.quiet (PT γ1_0 0), .quiet (PT γ1_0 2), .quiet (.func (.func 85) #[PT g 0] #[]), .quiet (PT γ1_1 0), .quiet (N (en x)), .quiet (N (en (fi t))), .call (N (en (fm x (fi t)))), .quiet (PT γ1_0 0), .quiet (PT γ1_0 2), .quiet (.func (.func 85) #[PT g 0] #[]), .quiet (PT γ1_1 6), .quiet (N (en y)), .quiet (N (en (fi t))), .call (N (en (fm y (fi t)))), .quiet (.agg (zU (en (fm x (fi t))) (en (fm y (fi t))) false).toArray)] H3 ?ho4 ?he4
 case ho4 => exact ag (ag (bC 1 Tryz.isAgg75 (ag (aq (fun w' h => zX (i := 0) h 2 rfl rfl rfl rfl) (bN 0 (ac (fun w' h => ⟨85, #[PT g 0, N (en x), N (en (fi t))], zL rfl call85 rfl (mpn rfl) rfl, C.cm _ _ w' (h.two 4 5 rfl rfl (by decide))⟩) (ag (ag (bC 1 Tryz.isAgg75 (ag (aq (fun w' h => zX (i := 1) h 2 rfl rfl rfl rfl) (bN 0 (ac (fun w' h => ⟨85, #[PT g 0, N (en y), N (en (fi t))], zL rfl call85 rfl (mpn rfl) rfl, C.cm _ _ w' (h.two 4 5 rfl rfl (by decide))⟩) (ak (fun γ => ⟨rfl, fun w' _ => ex_buildPNxy rfl rfl rfl⟩) trivial))))))))))))))
 intro _ w4 H4
 clear H3
 refine zF (l := [15]) rfl ?_
 refine sG rfl (fun h => ex_storeT (vs := zU (en (fm x (fi t))) (en (fm y (fi t))) false) h 3 rfl rfl rfl rfl Tryz.sizeOf84 rfl (Nat.le_of_ble_eq_true rfl)) 3 [_, _, _, (_, zU (en (fm x (fi t))) (en (fm y (fi t))) false), _, _] H4 o1_2 fun w5 H5 => ?_
 clear H4
 refine zE (zA (wp_ret ?_))
 repeat (first | refine zM ?_ | refine zI ?_)
 have hf0 := var_T H5.out.1 3 rfl Tryz.isAgg84 Tryz.sizeOf84 rfl
 refine bodyPost_ret (v := .agg (zU (en (fm x (fi t))) (en (fm y (fi t))) false).toArray) (by simp [results, Tryz.results93, asAddr, hf0]) rfl ?_
 exact ⟨rfl, H5.out.2⟩
set_option maxHeartbeats 4000000 in
theorem togetherV_1 {α : Type} {en : α → Nat} {fa fs fm : α → α → α} {fi : α → α} {z u b : α} {g : Nat} {tn : Value} (C : Fd1 g en fa fs fm fi z) (x1 y1 z1 x2 y2 z2 : α) (v1 v2 v3 v4 v5 v6 v7 v8 v9 v10 v11 v12 v13 v14 v15 v16 v17 v18 v19 v20 v21 v22 v23 v24 v25 v26 v27 v28 v29 v30 v31 v32 v33 v34 : α) (hv1 : fm x1 x2 = v1) (hv2 : fm y1 y2 = v2) (hv3 : fm z1 z2 = v3) (hv4 : fa x1 y1 = v4) (hv5 : fa x2 y2 = v5) (hv6 : fm v4 v5 = v6) (hv7 : fa v1 v2 = v7) (hv8 : fs v6 v7 = v8) (hv9 : fa y1 z1 = v9) (hv10 : fa y2 z2 = v10) (hv11 : fm v9 v10 = v11) (hv12 : fa v2 v3 = v12) (hv13 : fs v11 v12 = v13) (hv14 : fa x1 z1 = v14) (hv15 : fa x2 z2 = v15) (hv16 : fm v14 v15 = v16) (hv17 : fa v1 v3 = v17) (hv18 : fs v16 v17 = v18) (hv19 : fa (fa v1 v1) v1 = v19) (hv20 : fm b v18 = v20) (hv21 : fa (fa v20 v20) v20 = v21) (hv22 : fm b v3 = v22) (hv23 : fa (fa v22 v22) v22 = v23) (hv24 : fs v2 v23 = v24) (hv25 : fa v2 v23 = v25) (hv26 : fm v24 v8 = v26) (hv27 : fm v13 v21 = v27) (hv28 : fs v26 v27 = v28) (hv29 : fm v24 v25 = v29) (hv30 : fm v19 v21 = v30) (hv31 : fa v29 v30 = v31) (hv32 : fm v25 v13 = v32) (hv33 : fm v19 v8 = v33) (hv34 : fa v32 v33 = v34) (w : World) (hm : Mm w [(g, yB pB), (0, dtab)]) :
  Calls Tryz.prog 94 #[.agg (G1 g tn (en u) (en b)).toArray, V [en x1, en y1, en z1], V [en x2, en y2, en z2]] w (Rt w (V [en v28, en v31, en v34])) := by
 have H0 : Hid (_ ∧ _) := ⟨hm, Below.refl w.heap.size w⟩
 clear hm
 have HV1 : Hid _ := hv1
 clear hv1
 have HV2 : Hid _ := hv2
 clear hv2
 have HV3 : Hid _ := hv3
 clear hv3
 have HV4 : Hid _ := hv4
 clear hv4
 have HV5 : Hid _ := hv5
 clear hv5
 have HV6 : Hid _ := hv6
 clear hv6
 have HV7 : Hid _ := hv7
 clear hv7
 have HV8 : Hid _ := hv8
 clear hv8
 have HV9 : Hid _ := hv9
 clear hv9
 have HV10 : Hid _ := hv10
 clear hv10
 have HV11 : Hid _ := hv11
 clear hv11
 have HV12 : Hid _ := hv12
 clear hv12
 have HV13 : Hid _ := hv13
 clear hv13
 have HV14 : Hid _ := hv14
 clear hv14
 have HV15 : Hid _ := hv15
 clear hv15
 have HV16 : Hid _ := hv16
 clear hv16
 have HV17 : Hid _ := hv17
 clear hv17
 have HV18 : Hid _ := hv18
 clear hv18
 have HV19 : Hid _ := hv19
 clear hv19
 have HV20 : Hid _ := hv20
 clear hv20
 have HV21 : Hid _ := hv21
 clear hv21
 have HV22 : Hid _ := hv22
 clear hv22
 have HV23 : Hid _ := hv23
 clear hv23
 have HV24 : Hid _ := hv24
 clear hv24
 have HV25 : Hid _ := hv25
 clear hv25
 have HV26 : Hid _ := hv26
 clear hv26
 have HV27 : Hid _ := hv27
 clear hv27
 have HV28 : Hid _ := hv28
 clear hv28
 have HV29 : Hid _ := hv29
 clear hv29
 have HV30 : Hid _ := hv30
 clear hv30
 have HV31 : Hid _ := hv31
 clear hv31
 have HV32 : Hid _ := hv32
 clear hv32
 have HV33 : Hid _ := hv33
 clear hv33
 have HV34 : Hid _ := hv34
 clear hv34
 go_enter Tryz.func94, Tryz.ntmps94
 refine wp_seq ?_
 refine zC 4 [.made (G1 g tn (en u) (en b)) 81, .made (cel [en x1, en y1, en z1]) 124, .made (cel [en x2, en y2, en z2]) 124, .made (cel [0, 0, 0]) 124] (sB H0) ?ho1 ?he1
 case ho1 => exact am (zW rfl rfl) (am (ex_boxA rfl rfl) (am (ex_boxA rfl rfl) (am (ex_madeTN rfl) trivial)))
 intro γ w1 l hM hl
 have H1 : Hid (Mm w1 ([(γ 0, G1 g tn (en u) (en b)), (γ 1, cel [en x1, en y1, en z1]), (γ 2, cel [en x2, en y2, en z2]), (γ 3, cel [0, 0, 0])] ++ _) ∧ _) := wB H0 hM hl [0, 1, 2, 3]
 have o1_0 := vB H0 hM hl 0
 have o1_1 := vB H0 hM hl 1
 have o1_2 := vB H0 hM hl 2
 have o1_3 := vB H0 hM hl 3
 clear hM hl l
 generalize γ 0 = γ1_0 at H1 o1_0 ⊢
 generalize γ 1 = γ1_1 at H1 o1_1 ⊢
 generalize γ 2 = γ1_2 at H1 o1_2 ⊢
 generalize γ 3 = γ1_3 at H1 o1_3 ⊢
 clear γ
 refine rN (wp_seq ?_)
 refine zS 30 [.quiet (PT γ1_0 0), .quiet (PT γ1_0 2), .quiet (.func (.func 85) #[PT g 0] #[]), .quiet (PT γ1_1 0), .quiet (N (en x1)), .quiet (PT γ1_2 0), .quiet (N (en x2)), .call (N (en v1)), .quiet (PT γ1_0 0), .quiet (PT γ1_0 2), .quiet (.func (.func 85) #[PT g 0] #[]), .quiet (PT γ1_1 6), .quiet (N (en y1)), .quiet (PT γ1_2 6), .quiet (N (en y2)), .call (N (en v2)), .quiet (PT γ1_0 0), .quiet (PT γ1_0 2), .quiet (.func (.func 85) #[PT g 0] #[]), .quiet (PT γ1_1 12), .quiet (N (en z1)), .quiet (PT γ1_2 12), .quiet (N (en z2)), .call (N (en v3)), .made zero6 24, .made zero6 24, .made zero6 24, .laid 24 zero6 (zD (en v1)), .laid 25 zero6 (zD (en v2)), .laid 26 zero6 (zD (en v3))] (sB H1) ?ho2 ?he2 (hL := ?hL2)
 case hL2 => exact ⟨⟨_, rfl⟩, ⟨_, rfl⟩, ⟨_, rfl⟩, trivial⟩
 case ho2 => exact ag (ag (bC 0 Tryz.isAgg75 (ag (aq (fun w' h => zX (i := 0) h 1 rfl rfl rfl rfl) (ag (aq (fun w' h => zX (i := 0) h 2 rfl rfl rfl rfl) (ac (fun w' h => ⟨85, #[PT g 0, N (en x1), N (en x2)], zL rfl call85 rfl (mpn rfl) rfl, C.km HV1.out w' (h.two 4 5 rfl rfl (by decide))⟩) (ag (ag (bC 0 Tryz.isAgg75 (ag (aq (fun w' h => zX (i := 1) h 1 rfl rfl rfl rfl) (ag (aq (fun w' h => zX (i := 1) h 2 rfl rfl rfl rfl) (ac (fun w' h => ⟨85, #[PT g 0, N (en y1), N (en y2)], zL rfl call85 rfl (mpn rfl) rfl, C.km HV2.out w' (h.two 4 5 rfl rfl (by decide))⟩) (ag (ag (bC 0 Tryz.isAgg75 (ag (aq (fun w' h => zX (i := 2) h 1 rfl rfl rfl rfl) (ag (aq (fun w' h => zX (i := 2) h 2 rfl rfl rfl rfl) (ac (fun w' h => ⟨85, #[PT g 0, N (en z1), N (en z2)], zL rfl call85 rfl (mpn rfl) rfl, C.km HV3.out w' (h.two 4 5 rfl rfl (by decide))⟩) (am (zJ rfl) (am (zJ rfl) (am (zJ rfl) (ak (fun γ => ⟨rfl, rfl, rfl, fun w' h => zN h rfl rfl rfl⟩) (ak (fun γ => ⟨rfl, rfl, rfl, fun w' h => zN h rfl rfl rfl⟩) (ak (fun γ => ⟨rfl, rfl, rfl, fun w' h => zN h rfl rfl rfl⟩) trivial)))))))))))))))))))))))))))))
 intro γ w2 l hM hl
 have H2 : Hid (Mm w2 ([(γ 24, zD (en v1)), (γ 25, zD (en v2)), (γ 26, zD (en v3))] ++ _) ∧ _) := wB H1 hM hl [24, 25, 26]
 have o2_24 := vB H1 hM hl 24
 have o2_25 := vB H1 hM hl 25
 have o2_26 := vB H1 hM hl 26
 clear hM hl l H1
 generalize γ 24 = γ2_24 at H2 o2_24 ⊢
 generalize γ 25 = γ2_25 at H2 o2_25 ⊢
 generalize γ 26 = γ2_26 at H2 o2_26 ⊢
 clear γ
 refine rN (wp_seq ?_)
 refine zS 32 [.quiet (PT γ1_0 0), .quiet (PT γ1_0 1), .quiet (.func (.func 84) #[PT g 0] #[]), .quiet (PT γ1_0 0), .quiet (PT γ1_0 2), .quiet (.func (.func 85) #[PT g 0] #[]), .quiet (PT γ1_0 0), .quiet (PT γ1_0 0), .quiet (.func (.func 83) #[PT g 0] #[]), .quiet (PT γ1_1 0), .quiet (N (en x1)), .quiet (PT γ1_1 6), .quiet (N (en y1)), .call (N (en v4)), .quiet (PT γ1_0 0), .quiet (PT γ1_0 0), .quiet (.func (.func 83) #[PT g 0] #[]), .quiet (PT γ1_2 0), .quiet (N (en x2)), .quiet (PT γ1_2 6), .quiet (N (en y2)), .call (N (en v5)), .call (N (en v6)), .quiet (PT γ1_0 0), .quiet (PT γ1_0 0), .quiet (.func (.func 83) #[PT g 0] #[]), .quiet (N (en v1)), .quiet (N (en v2)), .call (N (en v7)), .call (N (en v8)), .made zero6 24, .laid 30 zero6 (zD (en v8))] (sB H2) ?ho3 ?he3 (hL := ?hL3)
 case hL3 => exact ⟨⟨_, rfl⟩, trivial⟩
 case ho3 => exact ag (ag (bC 3 Tryz.isAgg75 (ag (ag (bC 3 Tryz.isAgg75 (ag (ag (bC 3 Tryz.isAgg75 (ag (aq (fun w' h => zX (i := 0) h 4 rfl rfl rfl rfl) (ag (aq (fun w' h => zX (i := 1) h 4 rfl rfl rfl rfl) (ac (fun w' h => ⟨83, #[PT g 0, N (en x1), N (en y1)], zL rfl call83 rfl (mpn rfl) rfl, C.ka HV4.out w' (h.two 7 8 rfl rfl (by decide))⟩) (ag (ag (bC 3 Tryz.isAgg75 (ag (aq (fun w' h => zX (i := 0) h 5 rfl rfl rfl rfl) (ag (aq (fun w' h => zX (i := 1) h 5 rfl rfl rfl rfl) (ac (fun w' h => ⟨83, #[PT g 0, N (en x2), N (en y2)], zL rfl call83 rfl (mpn rfl) rfl, C.ka HV5.out w' (h.two 7 8 rfl rfl (by decide))⟩) (ac (fun w' h => ⟨85, #[PT g 0, N (en v4), N (en v5)], zL rfl call85 rfl (mpn rfl) rfl, C.km HV6.out w' (h.two 7 8 rfl rfl (by decide))⟩) (ag (ag (bC 3 Tryz.isAgg75 (bN 0 (bN 1 (ac (fun w' h => ⟨83, #[PT g 0, N (en v1), N (en v2)], zL rfl call83 rfl (mpn rfl) rfl, C.ka HV7.out w' (h.two 7 8 rfl rfl (by decide))⟩) (ac (fun w' h => ⟨84, #[PT g 0, N (en v6), N (en v7)], zL rfl call84 rfl (mpn rfl) rfl, C.ks HV8.out w' (h.two 7 8 rfl rfl (by decide))⟩) (am (zJ rfl) (ak (fun γ => ⟨rfl, rfl, rfl, fun w' h => zN h rfl rfl rfl⟩) trivial)))))))))))))))))))))))))))))))
 intro γ w3 l hM hl
 have H3 : Hid (Mm w3 ([(γ 30, zD (en v8))] ++ _) ∧ _) := wB H2 hM hl [30]
 have o3_30 := vB H2 hM hl 30
 clear hM hl l H2
 generalize γ 30 = γ3_30 at H3 o3_30 ⊢
 clear γ
 refine rN (wp_seq ?_)
 refine zS 32 [.quiet (PT γ1_0 0), .quiet (PT γ1_0 1), .quiet (.func (.func 84) #[PT g 0] #[]), .quiet (PT γ1_0 0), .quiet (PT γ1_0 2), .quiet (.func (.func 85) #[PT g 0] #[]), .quiet (PT γ1_0 0), .quiet (PT γ1_0 0), .quiet (.func (.func 83) #[PT g 0] #[]), .quiet (PT γ1_1 6), .quiet (N (en y1)), .quiet (PT γ1_1 12), .quiet (N (en z1)), .call (N (en v9)), .quiet (PT γ1_0 0), .quiet (PT γ1_0 0), .quiet (.func (.func 83) #[PT g 0] #[]), .quiet (PT γ1_2 6), .quiet (N (en y2)), .quiet (PT γ1_2 12), .quiet (N (en z2)), .call (N (en v10)), .call (N (en v11)), .quiet (PT γ1_0 0), .quiet (PT γ1_0 0), .quiet (.func (.func 83) #[PT g 0] #[]), .quiet (N (en v2)), .quiet (N (en v3)), .call (N (en v12)), .call (N (en v13)), .made zero6 24, .laid 30 zero6 (zD (en v13))] (sB H3) ?ho4 ?he4 (hL := ?hL4)
 case hL4 => exact ⟨⟨_, rfl⟩, trivial⟩
 case ho4 => exact ag (ag (bC 4 Tryz.isAgg75 (ag (ag (bC 4 Tryz.isAgg75 (ag (ag (bC 4 Tryz.isAgg75 (ag (aq (fun w' h => zX (i := 1) h 5 rfl rfl rfl rfl) (ag (aq (fun w' h => zX (i := 2) h 5 rfl rfl rfl rfl) (ac (fun w' h => ⟨83, #[PT g 0, N (en y1), N (en z1)], zL rfl call83 rfl (mpn rfl) rfl, C.ka HV9.out w' (h.two 8 9 rfl rfl (by decide))⟩) (ag (ag (bC 4 Tryz.isAgg75 (ag (aq (fun w' h => zX (i := 1) h 6 rfl rfl rfl rfl) (ag (aq (fun w' h => zX (i := 2) h 6 rfl rfl rfl rfl) (ac (fun w' h => ⟨83, #[PT g 0, N (en y2), N (en z2)], zL rfl call83 rfl (mpn rfl) rfl, C.ka HV10.out w' (h.two 8 9 rfl rfl (by decide))⟩) (ac (fun w' h => ⟨85, #[PT g 0, N (en v9), N (en v10)], zL rfl call85 rfl (mpn rfl) rfl, C.km HV11.out w' (h.two 8 9 rfl rfl (by decide))⟩) (ag (ag (bC 4 Tryz.isAgg75 (bN 2 (bN 3 (ac (fun w' h => ⟨83, #[PT g 0, N (en v2), N (en v3)], zL rfl call83 rfl (mpn rfl) rfl, C.ka HV12.out w' (h.two 8 9 rfl rfl (by decide))⟩) (ac (fun w' h => ⟨84, #[PT g 0, N (en v11), N (en v12)], zL rfl call84 rfl (mpn rfl) rfl, C.ks HV13.out w' (h.two 8 9 rfl rfl (by decide))⟩) (am (zJ rfl) (ak (fun γ => ⟨rfl, rfl, rfl, fun w' h => zN h rfl rfl rfl⟩) trivial)))))))))))))))))))))))))))))))
 intro γ w4 l hM hl
 have H4 : Hid (Mm w4 ([(γ 30, zD (en v13))] ++ _) ∧ _) := wB H3 hM hl [30]
 have o4_30 := vB H3 hM hl 30
 clear hM hl l H3
 generalize γ 30 = γ4_30 at H4 o4_30 ⊢
 clear γ
 refine rN (wp_seq ?_)
 refine zS 32 [.quiet (PT γ1_0 0), .quiet (PT γ1_0 1), .quiet (.func (.func 84) #[PT g 0] #[]), .quiet (PT γ1_0 0), .quiet (PT γ1_0 2), .quiet (.func (.func 85) #[PT g 0] #[]), .quiet (PT γ1_0 0), .quiet (PT γ1_0 0), .quiet (.func (.func 83) #[PT g 0] #[]), .quiet (PT γ1_1 0), .quiet (N (en x1)), .quiet (PT γ1_1 12), .quiet (N (en z1)), .call (N (en v14)), .quiet (PT γ1_0 0), .quiet (PT γ1_0 0), .quiet (.func (.func 83) #[PT g 0] #[]), .quiet (PT γ1_2 0), .quiet (N (en x2)), .quiet (PT γ1_2 12), .quiet (N (en z2)), .call (N (en v15)), .call (N (en v16)), .quiet (PT γ1_0 0), .quiet (PT γ1_0 0), .quiet (.func (.func 83) #[PT g 0] #[]), .quiet (N (en v1)), .quiet (N (en v3)), .call (N (en v17)), .call (N (en v18)), .made zero6 24, .laid 30 zero6 (zD (en v18))] (sB H4) ?ho5 ?he5 (hL := ?hL5)
 case hL5 => exact ⟨⟨_, rfl⟩, trivial⟩
 case ho5 => exact ag (ag (bC 5 Tryz.isAgg75 (ag (ag (bC 5 Tryz.isAgg75 (ag (ag (bC 5 Tryz.isAgg75 (ag (aq (fun w' h => zX (i := 0) h 6 rfl rfl rfl rfl) (ag (aq (fun w' h => zX (i := 2) h 6 rfl rfl rfl rfl) (ac (fun w' h => ⟨83, #[PT g 0, N (en x1), N (en z1)], zL rfl call83 rfl (mpn rfl) rfl, C.ka HV14.out w' (h.two 9 10 rfl rfl (by decide))⟩) (ag (ag (bC 5 Tryz.isAgg75 (ag (aq (fun w' h => zX (i := 0) h 7 rfl rfl rfl rfl) (ag (aq (fun w' h => zX (i := 2) h 7 rfl rfl rfl rfl) (ac (fun w' h => ⟨83, #[PT g 0, N (en x2), N (en z2)], zL rfl call83 rfl (mpn rfl) rfl, C.ka HV15.out w' (h.two 9 10 rfl rfl (by decide))⟩) (ac (fun w' h => ⟨85, #[PT g 0, N (en v14), N (en v15)], zL rfl call85 rfl (mpn rfl) rfl, C.km HV16.out w' (h.two 9 10 rfl rfl (by decide))⟩) (ag (ag (bC 5 Tryz.isAgg75 (bN 2 (bN 4 (ac (fun w' h => ⟨83, #[PT g 0, N (en v1), N (en v3)], zL rfl call83 rfl (mpn rfl) rfl, C.ka HV17.out w' (h.two 9 10 rfl rfl (by decide))⟩) (ac (fun w' h => ⟨84, #[PT g 0, N (en v16), N (en v17)], zL rfl call84 rfl (mpn rfl) rfl, C.ks HV18.out w' (h.two 9 10 rfl rfl (by decide))⟩) (am (zJ rfl) (ak (fun γ => ⟨rfl, rfl, rfl, fun w' h => zN h rfl rfl rfl⟩) trivial)))))))))))))))))))))))))))))))
 intro γ w5 l hM hl
 have H5 : Hid (Mm w5 ([(γ 30, zD (en v18))] ++ _) ∧ _) := wB H4 hM hl [30]
 have o5_30 := vB H4 hM hl 30
 clear hM hl l H4
 generalize γ 30 = γ5_30 at H5 o5_30 ⊢
 clear γ
 refine rN (wp_seq ?_)
 refine zS 27 [.quiet (.agg (G1 g tn (en u) (en b)).toArray), .quiet (N (en v1)), .call (N (en v19)), .quiet (.agg (G1 g tn (en u) (en b)).toArray), .quiet (PT γ1_0 0), .quiet (PT γ1_0 2), .quiet (.func (.func 85) #[PT g 0] #[]), .quiet (PT γ1_0 11), .quiet (N (en b)), .quiet (N (en v18)), .call (N (en v20)), .call (N (en v21)), .quiet (.agg (G1 g tn (en u) (en b)).toArray), .quiet (PT γ1_0 0), .quiet (PT γ1_0 2), .quiet (.func (.func 85) #[PT g 0] #[]), .quiet (PT γ1_0 11), .quiet (N (en b)), .quiet (N (en v3)), .call (N (en v22)), .call (N (en v23)), .made zero6 24, .made zero6 24, .made zero6 24, .laid 21 zero6 (zD (en v19)), .laid 22 zero6 (zD (en v21)), .laid 23 zero6 (zD (en v23))] (sB H5) ?ho6 ?he6 (hL := ?hL6)
 case hL6 => exact ⟨⟨_, rfl⟩, ⟨_, rfl⟩, ⟨_, rfl⟩, trivial⟩
 case ho6 => exact bT 6 Tryz.isAgg81 Tryz.sizeOf81 (bN 3 (ac (fun w' h => eC call137 (thriceN_1 C HV19.out w' (h.two 10 11 rfl rfl (by decide)))) (bT 6 Tryz.isAgg81 Tryz.sizeOf81 (ag (ag (bC 6 Tryz.isAgg75 (ag (bN 6 (bN 0 (ac (fun w' h => ⟨85, #[PT g 0, N (en b), N (en v18)], zL rfl call85 rfl (mpn rfl) rfl, C.km HV20.out w' (h.two 10 11 rfl rfl (by decide))⟩) (ac (fun w' h => eC call137 (thriceN_1 C HV21.out w' (h.two 10 11 rfl rfl (by decide)))) (bT 6 Tryz.isAgg81 Tryz.sizeOf81 (ag (ag (bC 6 Tryz.isAgg75 (ag (bN 6 (bN 5 (ac (fun w' h => ⟨85, #[PT g 0, N (en b), N (en v3)], zL rfl call85 rfl (mpn rfl) rfl, C.km HV22.out w' (h.two 10 11 rfl rfl (by decide))⟩) (ac (fun w' h => eC call137 (thriceN_1 C HV23.out w' (h.two 10 11 rfl rfl (by decide)))) (am (zJ rfl) (am (zJ rfl) (am (zJ rfl) (ak (fun γ => ⟨rfl, rfl, rfl, fun w' h => zN h rfl rfl rfl⟩) (ak (fun γ => ⟨rfl, rfl, rfl, fun w' h => zN h rfl rfl rfl⟩) (ak (fun γ => ⟨rfl, rfl, rfl, fun w' h => zN h rfl rfl rfl⟩) trivial))))))))))))))))))))))))))
 intro γ w6 l hM hl
 have H6 : Hid (Mm w6 ([(γ 21, zD (en v19)), (γ 22, zD (en v21)), (γ 23, zD (en v23))] ++ _) ∧ _) := wB H5 hM hl [21, 22, 23]
 have o6_21 := vB H5 hM hl 21
 have o6_22 := vB H5 hM hl 22
 have o6_23 := vB H5 hM hl 23
 clear hM hl l H5
 generalize γ 21 = γ6_21 at H6 o6_21 ⊢
 generalize γ 22 = γ6_22 at H6 o6_22 ⊢
 generalize γ 23 = γ6_23 at H6 o6_23 ⊢
 clear γ
 refine rN (wp_seq ?_)
 refine zS 16 [.quiet (PT γ1_0 0), .quiet (PT γ1_0 1), .quiet (.func (.func 84) #[PT g 0] #[]), .quiet (N (en v2)), .quiet (N (en v23)), .call (N (en v24)), .quiet (PT γ1_0 0), .quiet (PT γ1_0 0), .quiet (.func (.func 83) #[PT g 0] #[]), .quiet (N (en v2)), .quiet (N (en v23)), .call (N (en v25)), .made zero6 24, .made zero6 24, .laid 12 zero6 (zD (en v24)), .laid 13 zero6 (zD (en v25))] (sB H6) ?ho7 ?he7 (hL := ?hL7)
 case hL7 => exact ⟨⟨_, rfl⟩, ⟨_, rfl⟩, trivial⟩
 case ho7 => exact ag (ag (bC 9 Tryz.isAgg75 (bN 7 (bN 2 (ac (fun w' h => ⟨84, #[PT g 0, N (en v2), N (en v23)], zL rfl call84 rfl (mpn rfl) rfl, C.ks HV24.out w' (h.two 13 14 rfl rfl (by decide))⟩) (ag (ag (bC 9 Tryz.isAgg75 (bN 7 (bN 2 (ac (fun w' h => ⟨83, #[PT g 0, N (en v2), N (en v23)], zL rfl call83 rfl (mpn rfl) rfl, C.ka HV25.out w' (h.two 13 14 rfl rfl (by decide))⟩) (am (zJ rfl) (am (zJ rfl) (ak (fun γ => ⟨rfl, rfl, rfl, fun w' h => zN h rfl rfl rfl⟩) (ak (fun γ => ⟨rfl, rfl, rfl, fun w' h => zN h rfl rfl rfl⟩) trivial)))))))))))))))
 intro γ w7 l hM hl
 have H7 : Hid (Mm w7 ([(γ 12, zD (en v24)), (γ 13, zD (en v25))] ++ _) ∧ _) := wB H6 hM hl [12, 13]
 have o7_12 := vB H6 hM hl 12
 have o7_13 := vB H6 hM hl 13
 clear hM hl l H6
 generalize γ 12 = γ7_12 at H7 o7_12 ⊢
 generalize γ 13 = γ7_13 at H7 o7_13 ⊢
 clear γ
 refine rN (wp_seq ?_)
 refine zP 49 [.quiet (PT γ1_0 0), .quiet (PT γ1_0 1), .quiet (.func (.func 84) #[PT g 0] #[]), .quiet (PT γ1_0 0), .quiet (PT γ1_0 2), .quiet (.func (.func 85) #[PT g 0] #[]), .quiet (N (en v24)), .quiet (N (en v8)), .call (N (en v26)), .quiet (PT γ1_0 0), .quiet (PT γ1_0 2), .quiet (.func (.func 85) #[PT g 0] #[]), .quiet (N (en v13)), .quiet (N (en v21)), .call (N (en v27)), .call (N (en v28)), .quiet (PT γ1_0 0), .quiet (PT γ1_0 0), .quiet (.func (.func 83) #[PT g 0] #[]), .quiet (PT γ1_0 0), .quiet (PT γ1_0 2), .quiet (.func (.func 85) #[PT g 0] #[]), .quiet (N (en v24)), .quiet (N (en v25)), .call (N (en v29)), .quiet (PT γ1_0 0), .quiet (PT γ1_0 2), .quiet (.func (.func 85) #[PT g 0] #[]), .quiet (N (en v19)), .quiet (N (en v21)), .call (N (en v30)), .call (N (en v31)), .quiet (PT γ1_0 0), .quiet (PT γ1_0 0), .quiet (.func (.func 83) #[PT g 0] #[]), .quiet (PT γ1_0 0), .quiet (PT γ1_0 2), .quiet (.func (.func 85) #[PT g 0] #[]), .quiet (N (en v25)), .quiet (N (en v13)), .call (N (en v32)), .quiet (PT γ1_0 0), .quiet (PT γ1_0 2), .quiet (.func (.func 85) #[PT g 0] #[]), .quiet (N (en v19)), .quiet (N (en v8)), .call (N (en v33)), .call (N (en v34)), .quiet (V [en v28, en v31, en v34])] H7 ?ho8 ?he8 (hL := ?hL8)
 case hL8 => exact trivial
 case ho8 => exact ag (ag (bC 11 Tryz.isAgg75 (ag (ag (bC 11 Tryz.isAgg75 (bN 0 (bN 7 (ac (fun w' h => ⟨85, #[PT g 0, N (en v24), N (en v8)], zL rfl call85 rfl (mpn rfl) rfl, C.km HV26.out w' (h.two 15 16 rfl rfl (by decide))⟩) (ag (ag (bC 11 Tryz.isAgg75 (bN 6 (bN 3 (ac (fun w' h => ⟨85, #[PT g 0, N (en v13), N (en v21)], zL rfl call85 rfl (mpn rfl) rfl, C.km HV27.out w' (h.two 15 16 rfl rfl (by decide))⟩) (ac (fun w' h => ⟨84, #[PT g 0, N (en v26), N (en v27)], zL rfl call84 rfl (mpn rfl) rfl, C.ks HV28.out w' (h.two 15 16 rfl rfl (by decide))⟩) (ag (ag (bC 11 Tryz.isAgg75 (ag (ag (bC 11 Tryz.isAgg75 (bN 0 (bN 1 (ac (fun w' h => ⟨85, #[PT g 0, N (en v24), N (en v25)], zL rfl call85 rfl (mpn rfl) rfl, C.km HV29.out w' (h.two 15 16 rfl rfl (by decide))⟩) (ag (ag (bC 11 Tryz.isAgg75 (bN 2 (bN 3 (ac (fun w' h => ⟨85, #[PT g 0, N (en v19), N (en v21)], zL rfl call85 rfl (mpn rfl) rfl, C.km HV30.out w' (h.two 15 16 rfl rfl (by decide))⟩) (ac (fun w' h => ⟨83, #[PT g 0, N (en v29), N (en v30)], zL rfl call83 rfl (mpn rfl) rfl, C.ka HV31.out w' (h.two 15 16 rfl rfl (by decide))⟩) (ag (ag (bC 11 Tryz.isAgg75 (ag (ag (bC 11 Tryz.isAgg75 (bN 1 (bN 6 (ac (fun w' h => ⟨85, #[PT g 0, N (en v25), N (en v13)], zL rfl call85 rfl (mpn rfl) rfl, C.km HV32.out w' (h.two 15 16 rfl rfl (by decide))⟩) (ag (ag (bC 11 Tryz.isAgg75 (bN 2 (bN 7 (ac (fun w' h => ⟨85, #[PT g 0, N (en v19), N (en v8)], zL rfl call85 rfl (mpn rfl) rfl, C.km HV33.out w' (h.two 15 16 rfl rfl (by decide))⟩) (ac (fun w' h => ⟨83, #[PT g 0, N (en v32), N (en v33)], zL rfl call83 rfl (mpn rfl) rfl, C.ka HV34.out w' (h.two 15 16 rfl rfl (by decide))⟩) (ak (fun γ => ⟨rfl, fun w' _ => ex_buildTN rfl rfl rfl rfl⟩) trivial))))))))))))))))))))))))))))))))))))))))))))))))
 intro _ w8 H8
 clear H7
 refine zF (l := [49]) rfl ?_
 refine sF 14 [en v28, en v31, en v34] [_, _, _, _, _, _, _, _, _, _, _, _, _, _, _, _, _] H8 o1_3 Tryz.sizeOf124 fun w9 H9 => ?_
 clear H8
 refine zE (zA (wp_ret ?_))
 repeat (first | refine zM ?_ | refine zI ?_)
 have hf0 := cel_var (k := 3) H9.out.1 14 rfl Tryz.isAgg124 Tryz.sizeOf124 rfl
 refine bodyPost_ret (v := V [en v28, en v31, en v34]) (by simp [results, Tryz.results94, asAddr, hf0]) rfl ?_
 exact ⟨rfl, H9.out.2⟩
theorem twiceT_1 {α : Type} {en : α → Nat} {fa fs fm : α → α → α} {fi : α → α} {z u b : α} {g : Nat} {tn : Value} (_C : Fd1 g en fa fs fm fi z) (x y t : Nat) (hz : ∀ w, (Op.equalIn 10000 24 (N t) (N 0)).run Tryz.prog w = .ok true w) (w : World) (hm : Mm w [(g, yB pB), (0, dtab)]) :
  Calls Tryz.prog 134 #[.agg (G1 g tn (en u) (en b)).toArray, V [x, y, t]] w (Rt w (V [x, y, t])) := by
 have H0 : Hid (_ ∧ _) := ⟨hm, Below.refl w.heap.size w⟩
 clear hm
 have HZ : Hid _ := hz
 clear hz
 go_enter Tryz.func134, Tryz.ntmps134
 refine wp_seq ?_
 refine zC 3 [.made (G1 g tn (en u) (en b)) 81, .made (cel [x, y, t]) 124, .made (cel [0, 0, 0]) 124] (sB H0) ?ho1 ?he1
 case ho1 => exact am (zW rfl rfl) (am (ex_boxA rfl rfl) (am (ex_madeTN rfl) trivial))
 intro γ w1 l hM hl
 have H1 : Hid (Mm w1 ([(γ 0, G1 g tn (en u) (en b)), (γ 1, cel [x, y, t]), (γ 2, cel [0, 0, 0])] ++ _) ∧ _) := wB H0 hM hl [0, 1, 2]
 have o1_0 := vB H0 hM hl 0
 have o1_1 := vB H0 hM hl 1
 have o1_2 := vB H0 hM hl 2
 clear hM hl l
 generalize γ 0 = γ1_0 at H1 o1_0 ⊢
 generalize γ 1 = γ1_1 at H1 o1_1 ⊢
 generalize γ 2 = γ1_2 at H1 o1_2 ⊢
 clear γ
 refine rN (wp_seq (wp_seq ?_))
 refine zB 2 [.quiet (V [x, y, t]), .call (.bool true)] H1 ?ho2 ?he2
 case ho2 => exact bA 0 3 1 Tryz.isAgg124 Tryz.sizeOf124 (ac (fun w' h => eC call136 (isZero_1 _ _ _ true HZ.out w')) trivial)
 intro _ w2 H2
 clear H1
 refine rN (wp_cond_true rfl (wp_seq ?_))
 refine zB 1 [.quiet (V [x, y, t])] H2 ?ho3 ?he3
 case ho3 => exact bA 0 3 1 Tryz.isAgg124 Tryz.sizeOf124 trivial
 intro _ w3 H3
 clear H2
 refine zF (l := [1]) rfl ?_
 refine sF 2 [x, y, t] [_, _, _, _, _] H3 o1_2 Tryz.sizeOf124 fun w4 H4 => ?_
 clear H3
 refine zE (zA (wp_ret ?_))
 repeat (first | refine zM ?_ | refine zI ?_)
 have hf0 := cel_var (k := 3) H4.out.1 2 rfl Tryz.isAgg124 Tryz.sizeOf124 rfl
 refine bodyPost_ret (v := V [x, y, t]) (by simp [results, Tryz.results134, asAddr, hf0]) rfl ?_
 exact ⟨rfl, H4.out.2⟩
set_option maxHeartbeats 4000000 in
theorem twiceV_1 {α : Type} {en : α → Nat} {fa fs fm : α → α → α} {fi : α → α} {z u b : α} {g : Nat} {tn : Value} (C : Fd1 g en fa fs fm fi z) (x y t : α) (hz : ∀ w, (Op.equalIn 10000 24 (N (en t)) (N 0)).run Tryz.prog w = .ok false w) (v1 v2 v3 v4 v5 v6 v7 v8 v9 v10 v11 v12 v13 v14 v15 v16 v17 v18 : α) (hv1 : fm y y = v1) (hv2 : fm y t = v2) (hv3 : fm t t = v3) (hv4 : fm b v3 = v4) (hv5 : fa (fa v4 v4) v4 = v5) (hv6 : fa v1 v1 = v6) (hv7 : fa v6 v6 = v7) (hv8 : fa v7 v7 = v8) (hv9 : fa (fa v5 v5) v5 = v9) (hv10 : fs v1 v9 = v10) (hv11 : fa v1 v5 = v11) (hv12 : fm x y = v12) (hv13 : fm v10 v12 = v13) (hv14 : fa v13 v13 = v14) (hv15 : fm v10 v11 = v15) (hv16 : fm v8 v5 = v16) (hv17 : fa v15 v16 = v17) (hv18 : fm v8 v2 = v18) (w : World) (hm : Mm w [(g, yB pB), (0, dtab)]) :
  Calls Tryz.prog 134 #[.agg (G1 g tn (en u) (en b)).toArray, V [en x, en y, en t]] w (Rt w (V [en v14, en v17, en v18])) := by
 have H0 : Hid (_ ∧ _) := ⟨hm, Below.refl w.heap.size w⟩
 clear hm
 have HZ : Hid _ := hz
 clear hz
 have HV1 : Hid _ := hv1
 clear hv1
 have HV2 : Hid _ := hv2
 clear hv2
 have HV3 : Hid _ := hv3
 clear hv3
 have HV4 : Hid _ := hv4
 clear hv4
 have HV5 : Hid _ := hv5
 clear hv5
 have HV6 : Hid _ := hv6
 clear hv6
 have HV7 : Hid _ := hv7
 clear hv7
 have HV8 : Hid _ := hv8
 clear hv8
 have HV9 : Hid _ := hv9
 clear hv9
 have HV10 : Hid _ := hv10
 clear hv10
 have HV11 : Hid _ := hv11
 clear hv11
 have HV12 : Hid _ := hv12
 clear hv12
 have HV13 : Hid _ := hv13
 clear hv13
 have HV14 : Hid _ := hv14
 clear hv14
 have HV15 : Hid _ := hv15
 clear hv15
 have HV16 : Hid _ := hv16
 clear hv16
 have HV17 : Hid _ := hv17
 clear hv17
 have HV18 : Hid _ := hv18
 clear hv18
 go_enter Tryz.func134, Tryz.ntmps134
 refine wp_seq ?_
 refine zC 3 [.made (G1 g tn (en u) (en b)) 81, .made (cel [en x, en y, en t]) 124, .made (cel [0, 0, 0]) 124] (sB H0) ?ho1 ?he1
 case ho1 => exact am (zW rfl rfl) (am (ex_boxA rfl rfl) (am (ex_madeTN rfl) trivial))
 intro γ w1 l hM hl
 have H1 : Hid (Mm w1 ([(γ 0, G1 g tn (en u) (en b)), (γ 1, cel [en x, en y, en t]), (γ 2, cel [0, 0, 0])] ++ _) ∧ _) := wB H0 hM hl [0, 1, 2]
 have o1_0 := vB H0 hM hl 0
 have o1_1 := vB H0 hM hl 1
 have o1_2 := vB H0 hM hl 2
 clear hM hl l
 generalize γ 0 = γ1_0 at H1 o1_0 ⊢
 generalize γ 1 = γ1_1 at H1 o1_1 ⊢
 generalize γ 2 = γ1_2 at H1 o1_2 ⊢
 clear γ
 refine rN (wp_seq (wp_seq ?_))
 refine zB 2 [.quiet (V [en x, en y, en t]), .call (.bool false)] H1 ?ho2 ?he2
 case ho2 => exact bA 0 3 1 Tryz.isAgg124 Tryz.sizeOf124 (ac (fun w' h => eC call136 (isZero_1 _ _ _ false HZ.out w')) trivial)
 intro _ w2 H2
 clear H1
 refine rN (wp_cond_false rfl ?_)
 refine wp_skip (zA (wp_seq ?_))
 refine zS 20 [.quiet (PT γ1_0 0), .quiet (PT γ1_0 2), .quiet (.func (.func 85) #[PT g 0] #[]), .quiet (PT γ1_1 6), .quiet (N (en y)), .quiet (PT γ1_1 6), .quiet (N (en y)), .call (N (en v1)), .quiet (PT γ1_0 0), .quiet (PT γ1_0 2), .quiet (.func (.func 85) #[PT g 0] #[]), .quiet (PT γ1_1 6), .quiet (N (en y)), .quiet (PT γ1_1 12), .quiet (N (en t)), .call (N (en v2)), .made zero6 24, .made zero6 24, .laid 16 zero6 (zD (en v1)), .laid 17 zero6 (zD (en v2))] (sB H2) ?ho3 ?he3 (hL := ?hL3)
 case hL3 => exact ⟨⟨_, rfl⟩, ⟨_, rfl⟩, trivial⟩
 case ho3 => exact ag (ag (bC 0 Tryz.isAgg75 (ag (aq (fun w' h => zX (i := 1) h 1 rfl rfl rfl rfl) (ag (aq (fun w' h => zX (i := 1) h 1 rfl rfl rfl rfl) (ac (fun w' h => ⟨85, #[PT g 0, N (en y), N (en y)], zL rfl call85 rfl (mpn rfl) rfl, C.km HV1.out w' (h.two 3 4 rfl rfl (by decide))⟩) (ag (ag (bC 0 Tryz.isAgg75 (ag (aq (fun w' h => zX (i := 1) h 1 rfl rfl rfl rfl) (ag (aq (fun w' h => zX (i := 2) h 1 rfl rfl rfl rfl) (ac (fun w' h => ⟨85, #[PT g 0, N (en y), N (en t)], zL rfl call85 rfl (mpn rfl) rfl, C.km HV2.out w' (h.two 3 4 rfl rfl (by decide))⟩) (am (zJ rfl) (am (zJ rfl) (ak (fun γ => ⟨rfl, rfl, rfl, fun w' h => zN h rfl rfl rfl⟩) (ak (fun γ => ⟨rfl, rfl, rfl, fun w' h => zN h rfl rfl rfl⟩) trivial)))))))))))))))))))
 intro γ w3 l hM hl
 have H3 : Hid (Mm w3 ([(γ 16, zD (en v1)), (γ 17, zD (en v2))] ++ _) ∧ _) := wB H2 hM hl [16, 17]
 have o3_16 := vB H2 hM hl 16
 have o3_17 := vB H2 hM hl 17
 clear hM hl l H2
 generalize γ 16 = γ3_16 at H3 o3_16 ⊢
 generalize γ 17 = γ3_17 at H3 o3_17 ⊢
 clear γ
 refine rN (wp_seq ?_)
 refine zS 18 [.quiet (.agg (G1 g tn (en u) (en b)).toArray), .quiet (PT γ1_0 0), .quiet (PT γ1_0 2), .quiet (.func (.func 85) #[PT g 0] #[]), .quiet (PT γ1_0 11), .quiet (N (en b)), .quiet (PT γ1_0 0), .quiet (PT γ1_0 2), .quiet (.func (.func 85) #[PT g 0] #[]), .quiet (PT γ1_1 12), .quiet (N (en t)), .quiet (PT γ1_1 12), .quiet (N (en t)), .call (N (en v3)), .call (N (en v4)), .call (N (en v5)), .made zero6 24, .laid 16 zero6 (zD (en v5))] (sB H3) ?ho4 ?he4 (hL := ?hL4)
 case hL4 => exact ⟨⟨_, rfl⟩, trivial⟩
 case ho4 => exact bT 2 Tryz.isAgg81 Tryz.sizeOf81 (ag (ag (bC 2 Tryz.isAgg75 (ag (bN 2 (ag (ag (bC 2 Tryz.isAgg75 (ag (aq (fun w' h => zX (i := 2) h 3 rfl rfl rfl rfl) (ag (aq (fun w' h => zX (i := 2) h 3 rfl rfl rfl rfl) (ac (fun w' h => ⟨85, #[PT g 0, N (en t), N (en t)], zL rfl call85 rfl (mpn rfl) rfl, C.km HV3.out w' (h.two 5 6 rfl rfl (by decide))⟩) (ac (fun w' h => ⟨85, #[PT g 0, N (en b), N (en v3)], zL rfl call85 rfl (mpn rfl) rfl, C.km HV4.out w' (h.two 5 6 rfl rfl (by decide))⟩) (ac (fun w' h => eC call137 (thriceN_1 C HV5.out w' (h.two 5 6 rfl rfl (by decide)))) (am (zJ rfl) (ak (fun γ => ⟨rfl, rfl, rfl, fun w' h => zN h rfl rfl rfl⟩) trivial)))))))))))))))))
 intro γ w4 l hM hl
 have H4 : Hid (Mm w4 ([(γ 16, zD (en v5))] ++ _) ∧ _) := wB H3 hM hl [16]
 have o4_16 := vB H3 hM hl 16
 clear hM hl l H3
 generalize γ 16 = γ4_16 at H4 o4_16 ⊢
 clear γ
 refine rN (wp_seq ?_)
 refine zS 9 [.quiet (.agg (G1 g tn (en u) (en b)).toArray), .quiet (.agg (G1 g tn (en u) (en b)).toArray), .quiet (.agg (G1 g tn (en u) (en b)).toArray), .quiet (N (en v1)), .call (N (en v6)), .call (N (en v7)), .call (N (en v8)), .made zero6 24, .laid 7 zero6 (zD (en v8))] (sB H4) ?ho5 ?he5 (hL := ?hL5)
 case hL5 => exact ⟨⟨_, rfl⟩, trivial⟩
 case ho5 => exact bT 3 Tryz.isAgg81 Tryz.sizeOf81 (bT 3 Tryz.isAgg81 Tryz.sizeOf81 (bT 3 Tryz.isAgg81 Tryz.sizeOf81 (bN 1 (ac (fun w' h => eC call162 (doubleN_1 C HV6.out w' (h.two 6 7 rfl rfl (by decide)))) (ac (fun w' h => eC call162 (doubleN_1 C HV7.out w' (h.two 6 7 rfl rfl (by decide)))) (ac (fun w' h => eC call162 (doubleN_1 C HV8.out w' (h.two 6 7 rfl rfl (by decide)))) (am (zJ rfl) (ak (fun γ => ⟨rfl, rfl, rfl, fun w' h => zN h rfl rfl rfl⟩) trivial))))))))
 intro γ w5 l hM hl
 have H5 : Hid (Mm w5 ([(γ 7, zD (en v8))] ++ _) ∧ _) := wB H4 hM hl [7]
 have o5_7 := vB H4 hM hl 7
 clear hM hl l H4
 generalize γ 7 = γ5_7 at H5 o5_7 ⊢
 clear γ
 refine rN (wp_seq ?_)
 refine zS 18 [.quiet (PT γ1_0 0), .quiet (PT γ1_0 1), .quiet (.func (.func 84) #[PT g 0] #[]), .quiet (N (en v1)), .quiet (.agg (G1 g tn (en u) (en b)).toArray), .quiet (N (en v5)), .call (N (en v9)), .call (N (en v10)), .quiet (PT γ1_0 0), .quiet (PT γ1_0 0), .quiet (.func (.func 83) #[PT g 0] #[]), .quiet (N (en v1)), .quiet (N (en v5)), .call (N (en v11)), .made zero6 24, .made zero6 24, .laid 14 zero6 (zD (en v10)), .laid 15 zero6 (zD (en v11))] (sB H5) ?ho6 ?he6 (hL := ?hL6)
 case hL6 => exact ⟨⟨_, rfl⟩, ⟨_, rfl⟩, trivial⟩
 case ho6 => exact ag (ag (bC 4 Tryz.isAgg75 (bN 2 (bT 4 Tryz.isAgg81 Tryz.sizeOf81 (bN 1 (ac (fun w' h => eC call137 (thriceN_1 C HV9.out w' (h.two 7 8 rfl rfl (by decide)))) (ac (fun w' h => ⟨84, #[PT g 0, N (en v1), N (en v9)], zL rfl call84 rfl (mpn rfl) rfl, C.ks HV10.out w' (h.two 7 8 rfl rfl (by decide))⟩) (ag (ag (bC 4 Tryz.isAgg75 (bN 2 (bN 1 (ac (fun w' h => ⟨83, #[PT g 0, N (en v1), N (en v5)], zL rfl call83 rfl (mpn rfl) rfl, C.ka HV11.out w' (h.two 7 8 rfl rfl (by decide))⟩) (am (zJ rfl) (am (zJ rfl) (ak (fun γ => ⟨rfl, rfl, rfl, fun w' h => zN h rfl rfl rfl⟩) (ak (fun γ => ⟨rfl, rfl, rfl, fun w' h => zN h rfl rfl rfl⟩) trivial)))))))))))))))))
 intro γ w6 l hM hl
 have H6 : Hid (Mm w6 ([(γ 14, zD (en v10)), (γ 15, zD (en v11))] ++ _) ∧ _) := wB H5 hM hl [14, 15]
 have o6_14 := vB H5 hM hl 14
 have o6_15 := vB H5 hM hl 15
 clear hM hl l H5
 generalize γ 14 = γ6_14 at H6 o6_14 ⊢
 generalize γ 15 = γ6_15 at H6 o6_15 ⊢
 clear γ
 refine rN (wp_seq ?_)
 refine zP 38 [.quiet (.agg (G1 g tn (en u) (en b)).toArray), .quiet (PT γ1_0 0), .quiet (PT γ1_0 2), .quiet (.func (.func 85) #[PT g 0] #[]), .quiet (N (en v10)), .quiet (PT γ1_0 0), .quiet (PT γ1_0 2), .quiet (.func (.func 85) #[PT g 0] #[]), .quiet (PT γ1_1 0), .quiet (N (en x)), .quiet (PT γ1_1 6), .quiet (N (en y)), .call (N (en v12)), .call (N (en v13)), .call (N (en v14)), .quiet (PT γ1_0 0), .quiet (PT γ1_0 0), .quiet (.func (.func 83) #[PT g 0] #[]), .quiet (PT γ1_0 0), .quiet (PT γ1_0 2), .quiet (.func (.func 85) #[PT g 0] #[]), .quiet (N (en v10)), .quiet (N (en v11)), .call (N (en v15)), .quiet (PT γ1_0 0), .quiet (PT γ1_0 2), .quiet (.func (.func 85) #[PT g 0] #[]), .quiet (N (en v8)), .quiet (N (en v5)), .call (N (en v16)), .call (N (en v17)), .quiet (PT γ1_0 0), .quiet (PT γ1_0 2), .quiet (.func (.func 85) #[PT g 0] #[]), .quiet (N (en v8)), .quiet (N (en v2)), .call (N (en v18)), .quiet (V [en v14, en v17, en v18])] H6 ?ho7 ?he7 (hL := ?hL7)
 case hL7 => exact trivial
 case ho7 => exact bT 6 Tryz.isAgg81 Tryz.sizeOf81 (ag (ag (bC 6 Tryz.isAgg75 (bN 0 (ag (ag (bC 6 Tryz.isAgg75 (ag (aq (fun w' h => zX (i := 0) h 7 rfl rfl rfl rfl) (ag (aq (fun w' h => zX (i := 1) h 7 rfl rfl rfl rfl) (ac (fun w' h => ⟨85, #[PT g 0, N (en x), N (en y)], zL rfl call85 rfl (mpn rfl) rfl, C.km HV12.out w' (h.two 9 10 rfl rfl (by decide))⟩) (ac (fun w' h => ⟨85, #[PT g 0, N (en v10), N (en v12)], zL rfl call85 rfl (mpn rfl) rfl, C.km HV13.out w' (h.two 9 10 rfl rfl (by decide))⟩) (ac (fun w' h => eC call162 (doubleN_1 C HV14.out w' (h.two 9 10 rfl rfl (by decide)))) (ag (ag (bC 6 Tryz.isAgg75 (ag (ag (bC 6 Tryz.isAgg75 (bN 0 (bN 1 (ac (fun w' h => ⟨85, #[PT g 0, N (en v10), N (en v11)], zL rfl call85 rfl (mpn rfl) rfl, C.km HV15.out w' (h.two 9 10 rfl rfl (by decide))⟩) (ag (ag (bC 6 Tryz.isAgg75 (bN 2 (bN 3 (ac (fun w' h => ⟨85, #[PT g 0, N (en v8), N (en v5)], zL rfl call85 rfl (mpn rfl) rfl, C.km HV16.out w' (h.two 9 10 rfl rfl (by decide))⟩) (ac (fun w' h => ⟨83, #[PT g 0, N (en v15), N (en v16)], zL rfl call83 rfl (mpn rfl) rfl, C.ka HV17.out w' (h.two 9 10 rfl rfl (by decide))⟩) (ag (ag (bC 6 Tryz.isAgg75 (bN 2 (bN 5 (ac (fun w' h => ⟨85, #[PT g 0, N (en v8), N (en v2)], zL rfl call85 rfl (mpn rfl) rfl, C.km HV18.out w' (h.two 9 10 rfl rfl (by decide))⟩) (ak (fun γ => ⟨rfl, fun w' _ => ex_buildTN rfl rfl rfl rfl⟩) trivial)))))))))))))))))))))))))))))))))))))
 intro _ w7 H7
 clear H6
 refine zF (l := [38]) rfl ?_
 refine sF 8 [en v14, en v17, en v18] [_, _, _, _, _, _, _, _, _, _, _] H7 o1_2 Tryz.sizeOf124 fun w8 H8 => ?_
 clear H7
 refine zE (zA (wp_ret ?_))
 repeat (first | refine zM ?_ | refine zI ?_)
 have hf0 := cel_var (k := 3) H8.out.1 8 rfl Tryz.isAgg124 Tryz.sizeOf124 rfl
 refine bodyPost_ret (v := V [en v14, en v17, en v18]) (by simp [results, Tryz.results134, asAddr, hf0]) rfl ?_
 exact ⟨rfl, H8.out.2⟩
end Rg
end Go.Proofs.YtaomlijondiaoaaGreatDoor
end
