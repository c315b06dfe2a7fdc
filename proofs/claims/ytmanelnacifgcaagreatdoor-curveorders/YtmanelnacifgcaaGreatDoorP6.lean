/- Texts of the proof, joined. -/
import Derived.Test.YtmanelnacifgcaaGreatDoorP5
set_option maxRecDepth 100000
section
namespace Go.Proofs.YtmanelnacifgcaaGreatDoor
open Go.RowKit
namespace Rg
theorem ex_madeQ {ρ : Operand → Value} {o : Oper} {w : World} (ho : o.op = .alloc 39) :
  (execOp ρ o).run Tryz.prog w = .ok (.value (.pointer (some ⟨w.heap.size, 0, none⟩))) (w.alloc (.cells ([Value.pointer none] : List Value).toArray 39)) := by
 simp only [execOp, ho]
 go_simp
theorem ex_storeQ {ρ : Operand → Value} {o : Oper} {x y : Operand} {g off g' : Nat} {cs : List Value} {w : World} {l : List (Nat × List Value)} (h : Mm w l) (k : Nat) (hk : l[k]? = some (g, cs)) (ho : o.op = .store 39 x y) (hx : ρ x = PT g off) (hy : ρ y = PT g' 0) (hc : off + 1 ≤ cs.length) :
  (execOp ρ o).run Tryz.prog w = .ok .skip (w.setCells g off [PT g' 0]) := by
 have hm := List.mem_of_getElem? hk
 have e : cs[off]? = some (cs[off]'(by omega)) := List.getElem?_eq_getElem _
 have c0 := h.cell hm e
 have f0 := h.free hm e
 clear h hm hk
 simp only [execOp, ho, hx, hy]
 go_simp
 simp [World.setCells]
theorem ex_buildFN {ρ : Operand → Value} {o : Oper} {x0 x1 x2 x3 x4 x5 : Operand} {f0 f1 f2 f3 f4 : Fn} {a0 a1 a2 a3 a4 b0 b1 b2 b3 b4 : Array Value} {u : Nat} {w : World} (ho : o.op = .build 79 #[(0, x0), (1, x1), (2, x2), (3, x3), (4, x4), (5, x5)]) (h0 : ρ x0 = .func f0 a0 b0) (h1 : ρ x1 = .func f1 a1 b1) (h2 : ρ x2 = .func f2 a2 b2) (h3 : ρ x3 = .func f3 a3 b3) (h4 : ρ x4 = .func f4 a4 b4) (h5 : ρ x5 = N u) : (execOp ρ o).run Tryz.prog w = .ok (.value (.agg ([Value.func f0 a0 b0, Value.func f1 a1 b1, Value.func f2 a2 b2, Value.func f3 a3 b3, Value.func f4 a4 b4] ++ cel [u]).toArray)) w := by
 simp only [execOp, ho, cel, List.cons_append, List.nil_append]
 go_simp
theorem ex_buildFE {ρ : Operand → Value} {o : Oper} {x0 x1 x2 x3 x4 x5 : Operand} {f0 f1 f2 f3 f4 : Fn} {a0 a1 a2 a3 a4 b0 b1 b2 b3 b4 : Array Value} {u0 u1 : Nat} {w : World} (ho : o.op = .build 90 #[(0, x0), (1, x1), (2, x2), (3, x3), (4, x4), (5, x5)]) (h0 : ρ x0 = .func f0 a0 b0) (h1 : ρ x1 = .func f1 a1 b1) (h2 : ρ x2 = .func f2 a2 b2) (h3 : ρ x3 = .func f3 a3 b3) (h4 : ρ x4 = .func f4 a4 b4) (h5 : ρ x5 = V [u0, u1]) : (execOp ρ o).run Tryz.prog w = .ok (.value (.agg ([Value.func f0 a0 b0, Value.func f1 a1 b1, Value.func f2 a2 b2, Value.func f3 a3 b3, Value.func f4 a4 b4] ++ cel [u0, u1]).toArray)) w := by
 simp only [V, cel, List.cons_append, List.nil_append] at h5
 simp only [execOp, ho, cel, List.cons_append, List.nil_append]
 go_simp
theorem ex_buildGN {ρ : Operand → Value} {o : Oper} {x0 x1 x2 x3 : Operand} {f0 f1 f2 f3 f4 f5 : Fn} {a0 a1 a2 a3 a4 a5 b0 b1 b2 b3 b4 b5 : Array Value} {u c : Nat} {k : Int} {w : World} (ho : o.op = .build 82 #[(0, x0), (1, x1), (2, x2), (3, x3)]) (h0 : ρ x0 = .agg ([Value.func f0 a0 b0, Value.func f1 a1 b1, Value.func f2 a2 b2, Value.func f3 a3 b3, Value.func f4 a4 b4] ++ cel [u]).toArray) (h1 : ρ x1 = N c) (h2 : ρ x2 = .func f5 a5 b5) (h3 : ρ x3 = .int .i64 k) : (execOp ρ o).run Tryz.prog w = .ok (.value (.agg ([Value.func f0 a0 b0, Value.func f1 a1 b1, Value.func f2 a2 b2, Value.func f3 a3 b3, Value.func f4 a4 b4] ++ (cel [u, c] ++ [Value.func f5 a5 b5, Value.int .i64 k])).toArray)) w := by
 simp only [cel, List.cons_append, List.nil_append] at h0
 simp only [execOp, ho, cel, List.cons_append, List.nil_append]
 go_simp
theorem ex_buildGE {ρ : Operand → Value} {o : Oper} {x0 x1 x2 x3 : Operand} {f0 f1 f2 f3 f4 f5 : Fn} {a0 a1 a2 a3 a4 a5 b0 b1 b2 b3 b4 b5 : Array Value} {u0 u1 c0 c1 : Nat} {k : Int} {w : World} (ho : o.op = .build 93 #[(0, x0), (1, x1), (2, x2), (3, x3)]) (h0 : ρ x0 = .agg ([Value.func f0 a0 b0, Value.func f1 a1 b1, Value.func f2 a2 b2, Value.func f3 a3 b3, Value.func f4 a4 b4] ++ cel [u0, u1]).toArray) (h1 : ρ x1 = V [c0, c1]) (h2 : ρ x2 = .func f5 a5 b5) (h3 : ρ x3 = .int .i64 k) : (execOp ρ o).run Tryz.prog w = .ok (.value (.agg ([Value.func f0 a0 b0, Value.func f1 a1 b1, Value.func f2 a2 b2, Value.func f3 a3 b3, Value.func f4 a4 b4] ++ (cel [u0, u1, c0, c1] ++ [Value.func f5 a5 b5, Value.int .i64 k])).toArray)) w := by
 simp only [V, cel, List.cons_append, List.nil_append] at h0 h1
 simp only [execOp, ho, cel, List.cons_append, List.nil_append]
 go_simp
theorem number_gen (sv : Value) (y : Nat) (ca : ∀ w, Calls Tryz.prog 58 #[sv] w (Rt w (.tuple #[N y, .int .i64 0]))) (w : World) :
  Calls Tryz.prog 32 #[sv] w (Rt w (N y)) := by
 have H0 : Hid (_ ∧ _) := ⟨Mm.nil w, Below.refl w.heap.size w⟩
 have CA : Hid _ := ca
 clear ca
 go_enter Tryz.func32, Tryz.ntmps32
 refine wp_seq ?_
 refine zB 1 [.made zero6 24] (sB H0) ?ho1 ?he1
 case ho1 => exact am (zL rfl) trivial
 intro J w1 l hM hl
 have H1 : Hid (Mm w1 [(J 0, zero6)] ∧ _) := wB H0 hM hl [0]
 have o1_0 := vB H0 hM hl 0
 clear hM hl l
 generalize J 0 = J1_0 at H1 o1_0 ⊢
 clear J
 refine rN (wp_seq ?_)
 refine zB 8 [.q (sv), .call (.tuple #[N y, .int .i64 0]), .q (.tuple #[N y, .int .i64 0]), .q (N y), .q (.int .i64 0), .made zero6 24, .laid 5 zero6 (zD y), .q (.int .i64 0)] (sB H1) ?ho2 ?he2 (hL := ?hL2)
 case hL2 => exact ⟨⟨_, rfl⟩, trivial⟩
 case ho2 => exact ar (ac (fun w' h => eC call58 (CA.out w')) (ar (ag (ag (am (zL rfl) (ak (fun J => ⟨rfl, rfl, rfl, fun w' h => zR h rfl rfl rfl⟩) (ar trivial)))))))
 intro J w2 l hM hl
 have H2 : Hid (Mm w2 ([(J 5, zD y)] ++ _) ∧ _) := wB H1 hM hl [5]
 have o2_5 := vB H1 hM hl 5
 clear hM hl l H1
 generalize J 5 = J2_5 at H2 o2_5 ⊢
 clear J
 refine rN (wp_seq ?_)
 refine zC 1 [.q (N y)] H2 ?ho3 ?he3
 case ho3 => exact bN 0 trivial
 intro _ w3 H3
 clear H2
 refine zF (l := [1]) rfl ?_
 refine sG rfl (fun h => zP h 1 rfl rfl rfl rfl (Nat.le_of_ble_eq_true rfl)) 1 [_, (_, zD y)] H3 o1_0 fun w4 H4 => ?_
 clear H3
 refine zE (zA (wp_ret ?_))
 repeat (first | refine zK ?_ | refine zH ?_)
 have c0 := H4.out.1.get 1 rfl 0 rfl
 have c1 := H4.out.1.get 1 rfl 1 rfl
 have c2 := H4.out.1.get 1 rfl 2 rfl
 have c3 := H4.out.1.get 1 rfl 3 rfl
 have c4 := H4.out.1.get 1 rfl 4 rfl
 have c5 := H4.out.1.get 1 rfl 5 rfl
 refine bodyPost_ret (v := N y) (by simp [results, Tryz.results32, go_sem, *]) rfl ?_
 exact ⟨rfl, H4.out.2⟩
def bs_gx : ByteArray := ⟨#[49, 55, 102, 49, 100, 51, 97, 55, 51, 49, 57, 55, 100, 55, 57, 52, 50, 54, 57, 53, 54, 51, 56, 99, 52, 102, 97, 57, 97, 99, 48, 102, 99, 51, 54, 56, 56, 99, 52, 102, 57, 55, 55, 52, 98, 57, 48, 53, 97, 49, 52, 101, 51, 97, 51, 102, 49, 55, 49, 98, 97, 99, 53, 56, 54, 99, 53, 53, 101, 56, 51, 102, 102, 57, 55, 97, 49, 97, 101, 102, 102, 98, 51, 97, 102, 48, 48, 97, 100, 98, 50, 50, 99, 54, 98, 98]⟩
def gx : Nat := 3685416753713387016781088315183077757961620795782546409894578378688607592378376318836054947676345821548104185464507
theorem parse_gx (w : World) : Calls Tryz.prog 58 #[.string bs_gx] w (Rt w (.tuple #[N gx, .int .i64 0])) := by
 have h := parse_loop bs_gx (by decide +kernel) (by decide +kernel) (Or.inl (by decide +kernel)) w
 have e : prv bs_gx = .tuple #[N gx, .int .i64 0] := by
  unfold prv
  rw [if_pos (by decide +kernel), show pvv bs_gx bs_gx.size = gx by decide +kernel]
 rw [e] at h
 exact h
theorem numb_gx (w : World) : Calls Tryz.prog 32 #[.string bs_gx] w (Rt w (N gx)) := number_gen _ gx parse_gx w
def bs_gy : ByteArray := ⟨#[56, 98, 51, 102, 52, 56, 49, 101, 51, 97, 97, 97, 48, 102, 49, 97, 48, 57, 101, 51, 48, 101, 100, 55, 52, 49, 100, 56, 97, 101, 52, 102, 99, 102, 53, 101, 48, 57, 53, 100, 53, 100, 48, 48, 97, 102, 54, 48, 48, 100, 98, 49, 56, 99, 98, 50, 99, 48, 52, 98, 51, 101, 100, 100, 48, 51, 99, 99, 55, 52, 52, 97, 50, 56, 56, 56, 97, 101, 52, 48, 99, 97, 97, 50, 51, 50, 57, 52, 54, 99, 53, 101, 55, 101, 49]⟩
def gy : Nat := 1339506544944476473020471379941921221584933875938349620426543736416511423956333506472724655353366534992391756441569
theorem parse_gy (w : World) : Calls Tryz.prog 58 #[.string bs_gy] w (Rt w (.tuple #[N gy, .int .i64 0])) := by
 have h := parse_loop bs_gy (by decide +kernel) (by decide +kernel) (Or.inl (by decide +kernel)) w
 have e : prv bs_gy = .tuple #[N gy, .int .i64 0] := by
  unfold prv
  rw [if_pos (by decide +kernel), show pvv bs_gy bs_gy.size = gy by decide +kernel]
 rw [e] at h
 exact h
theorem numb_gy (w : World) : Calls Tryz.prog 32 #[.string bs_gy] w (Rt w (N gy)) := number_gen _ gy parse_gy w
def bs_hx0 : ByteArray := ⟨#[50, 52, 97, 97, 50, 98, 50, 102, 48, 56, 102, 48, 97, 57, 49, 50, 54, 48, 56, 48, 53, 50, 55, 50, 100, 99, 53, 49, 48, 53, 49, 99, 54, 101, 52, 55, 97, 100, 52, 102, 97, 52, 48, 51, 98, 48, 50, 98, 52, 53, 49, 48, 98, 54, 52, 55, 97, 101, 51, 100, 49, 55, 55, 48, 98, 97, 99, 48, 51, 50, 54, 97, 56, 48, 53, 98, 98, 101, 102, 100, 52, 56, 48, 53, 54, 99, 56, 99, 49, 50, 49, 98, 100, 98, 56]⟩
def hx0 : Nat := 352701069587466618187139116011060144890029952792775240219908644239793785735715026873347600343865175952761926303160
theorem parse_hx0 (w : World) : Calls Tryz.prog 58 #[.string bs_hx0] w (Rt w (.tuple #[N hx0, .int .i64 0])) := by
 have h := parse_loop bs_hx0 (by decide +kernel) (by decide +kernel) (Or.inl (by decide +kernel)) w
 have e : prv bs_hx0 = .tuple #[N hx0, .int .i64 0] := by
  unfold prv
  rw [if_pos (by decide +kernel), show pvv bs_hx0 bs_hx0.size = hx0 by decide +kernel]
 rw [e] at h
 exact h
theorem numb_hx0 (w : World) : Calls Tryz.prog 32 #[.string bs_hx0] w (Rt w (N hx0)) := number_gen _ hx0 parse_hx0 w
def bs_hx1 : ByteArray := ⟨#[49, 51, 101, 48, 50, 98, 54, 48, 53, 50, 55, 49, 57, 102, 54, 48, 55, 100, 97, 99, 100, 51, 97, 48, 56, 56, 50, 55, 52, 102, 54, 53, 53, 57, 54, 98, 100, 48, 100, 48, 57, 57, 50, 48, 98, 54, 49, 97, 98, 53, 100, 97, 54, 49, 98, 98, 100, 99, 55, 102, 53, 48, 52, 57, 51, 51, 52, 99, 102, 49, 49, 50, 49, 51, 57, 52, 53, 100, 53, 55, 101, 53, 97, 99, 55, 100, 48, 53, 53, 100, 48, 52, 50, 98, 55, 101]⟩
def hx1 : Nat := 3059144344244213709971259814753781636986470325476647558659373206291635324768958432433509563104347017837885763365758
theorem parse_hx1 (w : World) : Calls Tryz.prog 58 #[.string bs_hx1] w (Rt w (.tuple #[N hx1, .int .i64 0])) := by
 have h := parse_loop bs_hx1 (by decide +kernel) (by decide +kernel) (Or.inl (by decide +kernel)) w
 have e : prv bs_hx1 = .tuple #[N hx1, .int .i64 0] := by
  unfold prv
  rw [if_pos (by decide +kernel), show pvv bs_hx1 bs_hx1.size = hx1 by decide +kernel]
 rw [e] at h
 exact h
theorem numb_hx1 (w : World) : Calls Tryz.prog 32 #[.string bs_hx1] w (Rt w (N hx1)) := number_gen _ hx1 parse_hx1 w
def bs_hy0 : ByteArray := ⟨#[99, 101, 53, 100, 53, 50, 55, 55, 50, 55, 100, 54, 101, 49, 49, 56, 99, 99, 57, 99, 100, 99, 54, 100, 97, 50, 101, 51, 53, 49, 97, 97, 100, 102, 100, 57, 98, 97, 97, 56, 99, 98, 100, 100, 51, 97, 55, 54, 100, 52, 50, 57, 97, 54, 57, 53, 49, 54, 48, 100, 49, 50, 99, 57, 50, 51, 97, 99, 57, 99, 99, 51, 98, 97, 99, 97, 50, 56, 57, 101, 49, 57, 51, 53, 52, 56, 54, 48, 56, 98, 56, 50, 56, 48, 49]⟩
def hy0 : Nat := 1985150602287291935568054521177171638300868978215655730859378665066344726373823718423869104263333984641494340347905
theorem parse_hy0 (w : World) : Calls Tryz.prog 58 #[.string bs_hy0] w (Rt w (.tuple #[N hy0, .int .i64 0])) := by
 have h := parse_loop bs_hy0 (by decide +kernel) (by decide +kernel) (Or.inl (by decide +kernel)) w
 have e : prv bs_hy0 = .tuple #[N hy0, .int .i64 0] := by
  unfold prv
  rw [if_pos (by decide +kernel), show pvv bs_hy0 bs_hy0.size = hy0 by decide +kernel]
 rw [e] at h
 exact h
theorem numb_hy0 (w : World) : Calls Tryz.prog 32 #[.string bs_hy0] w (Rt w (N hy0)) := number_gen _ hy0 parse_hy0 w
def bs_hy1 : ByteArray := ⟨#[54, 48, 54, 99, 52, 97, 48, 50, 101, 97, 55, 51, 52, 99, 99, 51, 50, 97, 99, 100, 50, 98, 48, 50, 98, 99, 50, 56, 98, 57, 57, 99, 98, 51, 101, 50, 56, 55, 101, 56, 53, 97, 55, 54, 51, 97, 102, 50, 54, 55, 52, 57, 50, 97, 98, 53, 55, 50, 101, 57, 57, 97, 98, 51, 102, 51, 55, 48, 100, 50, 55, 53, 99, 101, 99, 49, 100, 97, 49, 97, 97, 97, 57, 48, 55, 53, 102, 102, 48, 53, 102, 55, 57, 98, 101]⟩
def hy1 : Nat := 927553665492332455747201965776037880757740193453592970025027978793976877002675564980949289727957565575433344219582
theorem parse_hy1 (w : World) : Calls Tryz.prog 58 #[.string bs_hy1] w (Rt w (.tuple #[N hy1, .int .i64 0])) := by
 have h := parse_loop bs_hy1 (by decide +kernel) (by decide +kernel) (Or.inl (by decide +kernel)) w
 have e : prv bs_hy1 = .tuple #[N hy1, .int .i64 0] := by
  unfold prv
  rw [if_pos (by decide +kernel), show pvv bs_hy1 bs_hy1.size = hy1 by decide +kernel]
 rw [e] at h
 exact h
theorem numb_hy1 (w : World) : Calls Tryz.prog 32 #[.string bs_hy1] w (Rt w (N hy1)) := number_gen _ hy1 parse_hy1 w
def bs_tr : ByteArray := ⟨#[53, 102, 49, 57, 54, 55, 50, 102, 100, 102, 55, 54, 99, 101, 53, 49, 98, 97, 54, 57, 99, 54, 48, 55, 54, 97, 48, 102, 55, 55, 101, 97, 100, 100, 98, 51, 97, 57, 51, 98, 101, 54, 102, 56, 57, 54, 56, 56, 100, 101, 49, 55, 100, 56, 49, 51, 54, 50, 48, 97, 48, 48, 48, 50, 50, 101, 48, 49, 102, 102, 102, 102, 102, 102, 102, 101, 102, 102, 102, 101]⟩
def tr : Nat := 793479390729215512621379701633421447060886740281060493010456487427281649075476305620758731620350
theorem parse_tr (w : World) : Calls Tryz.prog 58 #[.string bs_tr] w (Rt w (.tuple #[N tr, .int .i64 0])) := by
 have h := parse_loop bs_tr (by decide +kernel) (by decide +kernel) (Or.inl (by decide +kernel)) w
 have e : prv bs_tr = .tuple #[N tr, .int .i64 0] := by
  unfold prv
  rw [if_pos (by decide +kernel), show pvv bs_tr bs_tr.size = tr by decide +kernel]
 rw [e] at h
 exact h
theorem numb_tr (w : World) : Calls Tryz.prog 32 #[.string bs_tr] w (Rt w (N tr)) := number_gen _ tr parse_tr w
def bs_tx1 : ByteArray := ⟨#[49, 97, 48, 49, 49, 49, 101, 97, 51, 57, 55, 102, 101, 54, 57, 57, 101, 99, 48, 50, 52, 48, 56, 54, 54, 51, 100, 52, 100, 101, 56, 53, 97, 97, 48, 100, 56, 53, 55, 100, 56, 57, 55, 53, 57, 97, 100, 52, 56, 57, 55, 100, 50, 57, 54, 53, 48, 102, 98, 56, 53, 102, 57, 98, 52, 48, 57, 52, 50, 55, 101, 98, 52, 102, 52, 57, 102, 102, 102, 100, 56, 98, 102, 100, 48, 48, 48, 48, 48, 48, 48, 48, 97, 97, 97, 100]⟩
def tx1 : Nat := 4002409555221667392624310435006688643935503118305586438271171395842971157480381377015405980053539358417135540939437
theorem parse_tx1 (w : World) : Calls Tryz.prog 58 #[.string bs_tx1] w (Rt w (.tuple #[N tx1, .int .i64 0])) := by
 have h := parse_loop bs_tx1 (by decide +kernel) (by decide +kernel) (Or.inl (by decide +kernel)) w
 have e : prv bs_tx1 = .tuple #[N tx1, .int .i64 0] := by
  unfold prv
  rw [if_pos (by decide +kernel), show pvv bs_tx1 bs_tx1.size = tx1 by decide +kernel]
 rw [e] at h
 exact h
theorem numb_tx1 (w : World) : Calls Tryz.prog 32 #[.string bs_tx1] w (Rt w (N tx1)) := number_gen _ tx1 parse_tx1 w
def bs_ty0 : ByteArray := ⟨#[49, 51, 53, 50, 48, 51, 101, 54, 48, 49, 56, 48, 97, 54, 56, 101, 101, 50, 101, 57, 99, 52, 52, 56, 100, 55, 55, 97, 50, 99, 100, 57, 49, 99, 51, 100, 101, 100, 100, 57, 51, 48, 98, 49, 99, 102, 54, 48, 101, 102, 51, 57, 54, 52, 56, 57, 102, 54, 49, 101, 98, 52, 53, 101, 51, 48, 52, 52, 54, 54, 99, 102, 51, 101, 54, 55, 102, 97, 48, 97, 102, 49, 101, 101, 55, 98, 48, 52, 49, 50, 49, 98, 100, 101, 97, 50]⟩
def ty0 : Nat := 2973677408986561043442465346520108879172042883009249989176415018091420807192182638567116318576472649347015917690530
theorem parse_ty0 (w : World) : Calls Tryz.prog 58 #[.string bs_ty0] w (Rt w (.tuple #[N ty0, .int .i64 0])) := by
 have h := parse_loop bs_ty0 (by decide +kernel) (by decide +kernel) (Or.inl (by decide +kernel)) w
 have e : prv bs_ty0 = .tuple #[N ty0, .int .i64 0] := by
  unfold prv
  rw [if_pos (by decide +kernel), show pvv bs_ty0 bs_ty0.size = ty0 by decide +kernel]
 rw [e] at h
 exact h
theorem numb_ty0 (w : World) : Calls Tryz.prog 32 #[.string bs_ty0] w (Rt w (N ty0)) := number_gen _ ty0 parse_ty0 w
def bs_ty1 : ByteArray := ⟨#[54, 97, 102, 48, 101, 48, 52, 51, 55, 102, 102, 52, 48, 48, 98, 54, 56, 51, 49, 101, 51, 54, 100, 54, 98, 100, 49, 55, 102, 102, 101, 52, 56, 51, 57, 53, 100, 97, 98, 99, 50, 100, 51, 52, 51, 53, 101, 55, 55, 102, 55, 54, 101, 49, 55, 48, 48, 57, 50, 52, 49, 99, 53, 101, 101, 54, 55, 57, 57, 50, 102, 55, 50, 101, 99, 48, 53, 102, 52, 99, 56, 49, 48, 56, 52, 102, 98, 101, 100, 101, 51, 99, 99, 48, 57]⟩
def ty1 : Nat := 1028732146235106349975324479215795277384839936929757896155643118032610843298655225875571310552543014690878354869257
theorem parse_ty1 (w : World) : Calls Tryz.prog 58 #[.string bs_ty1] w (Rt w (.tuple #[N ty1, .int .i64 0])) := by
 have h := parse_loop bs_ty1 (by decide +kernel) (by decide +kernel) (Or.inl (by decide +kernel)) w
 have e : prv bs_ty1 = .tuple #[N ty1, .int .i64 0] := by
  unfold prv
  rw [if_pos (by decide +kernel), show pvv bs_ty1 bs_ty1.size = ty1 by decide +kernel]
 rw [e] at h
 exact h
theorem numb_ty1 (w : World) : Calls Tryz.prog 32 #[.string bs_ty1] w (Rt w (N ty1)) := number_gen _ ty1 parse_ty1 w
theorem gen1_gen (qgx qgy : Nat) (cgx : ∀ w, Calls Tryz.prog 32 #[.string bs_gx] w (Rt w (N qgx))) (cgy : ∀ w, Calls Tryz.prog 32 #[.string bs_gy] w (Rt w (N qgy))) (w : World) :
  Calls Tryz.prog 9 #[] w (Rt w (.agg (yC qgx qgy false).toArray)) := by
 have H0 : Hid (_ ∧ _) := ⟨Mm.nil w, Below.refl w.heap.size w⟩
 have CGX : Hid _ := cgx
 clear cgx
 have CGY : Hid _ := cgy
 clear cgy
 go_enter Tryz.func9, Tryz.ntmps9
 refine wp_seq ?_
 refine zB 1 [.made (yC 0 0 false) 27] (sB H0) ?ho1 ?he1
 case ho1 => exact am (ex_madeP1 rfl) trivial
 intro J w1 l hM hl
 have H1 : Hid (Mm w1 [(J 0, yC 0 0 false)] ∧ _) := wB H0 hM hl [0]
 have o1_0 := vB H0 hM hl 0
 clear hM hl l
 generalize J 0 = J1_0 at H1 o1_0 ⊢
 clear J
 refine rN (wp_seq ?_)
 refine zC 3 [.call (N qgx), .call (N qgy), .q (.agg (yC qgx qgy false).toArray)] H1 ?ho2 ?he2
 case ho2 => exact ac (fun w' h => eC call32 (CGX.out w')) (ac (fun w' h => eC call32 (CGY.out w')) (ak (fun J => ⟨rfl, fun w' _ => ex_buildP1xy rfl rfl rfl⟩) trivial))
 intro _ w2 H2
 clear H1
 refine zF (l := [3]) rfl ?_
 refine sG rfl (fun h => ex_storeT (vs := yC qgx qgy false) h 0 rfl rfl rfl rfl As27 rfl (Nat.le_of_ble_eq_true rfl)) 0 [(_, yC qgx qgy false)] H2 o1_0 fun w3 H3 => ?_
 clear H2
 refine zE (zA (wp_ret ?_))
 repeat (first | refine zK ?_ | refine zH ?_)
 have hf0 := var_T H3.out.1 0 rfl Ai27 As27 rfl
 refine bodyPost_ret (v := .agg (yC qgx qgy false).toArray) (by simp [results, Tryz.results9, asAddr, hf0]) rfl ?_
 exact ⟨rfl, H3.out.2⟩
theorem gen2_gen (qhx0 qhx1 qhy0 qhy1 : Nat) (chx0 : ∀ w, Calls Tryz.prog 32 #[.string bs_hx0] w (Rt w (N qhx0))) (chx1 : ∀ w, Calls Tryz.prog 32 #[.string bs_hx1] w (Rt w (N qhx1))) (chy0 : ∀ w, Calls Tryz.prog 32 #[.string bs_hy0] w (Rt w (N qhy0))) (chy1 : ∀ w, Calls Tryz.prog 32 #[.string bs_hy1] w (Rt w (N qhy1))) (w : World) :
  Calls Tryz.prog 11 #[] w (Rt w (.agg (pc2 qhx0 qhx1 qhy0 qhy1 false).toArray)) := by
 have H0 : Hid (_ ∧ _) := ⟨Mm.nil w, Below.refl w.heap.size w⟩
 have CHX0 : Hid _ := chx0
 clear chx0
 have CHX1 : Hid _ := chx1
 clear chx1
 have CHY0 : Hid _ := chy0
 clear chy0
 have CHY1 : Hid _ := chy1
 clear chy1
 go_enter Tryz.func11, Tryz.ntmps11
 refine wp_seq ?_
 refine zB 1 [.made (pc2 0 0 0 0 false) 35] (sB H0) ?ho1 ?he1
 case ho1 => exact am (ex_madeP2 rfl) trivial
 intro J w1 l hM hl
 have H1 : Hid (Mm w1 [(J 0, pc2 0 0 0 0 false)] ∧ _) := wB H0 hM hl [0]
 have o1_0 := vB H0 hM hl 0
 clear hM hl l
 generalize J 0 = J1_0 at H1 o1_0 ⊢
 clear J
 refine rN (wp_seq ?_)
 refine zC 7 [.call (N qhx0), .call (N qhx1), .q (V [qhx0, qhx1]), .call (N qhy0), .call (N qhy1), .q (V [qhy0, qhy1]), .q (.agg (pc2 qhx0 qhx1 qhy0 qhy1 false).toArray)] H1 ?ho2 ?he2
 case ho2 => exact ac (fun w' h => eC call32 (CHX0.out w')) (ac (fun w' h => eC call32 (CHX1.out w')) (ak (fun J => ⟨rfl, fun w' _ => ex_buildE2 rfl rfl rfl⟩) (ac (fun w' h => eC call32 (CHY0.out w')) (ac (fun w' h => eC call32 (CHY1.out w')) (ak (fun J => ⟨rfl, fun w' _ => ex_buildE2 rfl rfl rfl⟩) (ak (fun J => ⟨rfl, fun w' _ => ex_buildP2xy rfl rfl rfl⟩) trivial))))))
 intro _ w2 H2
 clear H1
 refine zF (l := [7]) rfl ?_
 refine sG rfl (fun h => ex_storeT (vs := pc2 qhx0 qhx1 qhy0 qhy1 false) h 0 rfl rfl rfl rfl As35 rfl (Nat.le_of_ble_eq_true rfl)) 0 [(_, pc2 qhx0 qhx1 qhy0 qhy1 false)] H2 o1_0 fun w3 H3 => ?_
 clear H2
 refine zE (zA (wp_ret ?_))
 repeat (first | refine zK ?_ | refine zH ?_)
 have hf0 := var_T H3.out.1 0 rfl Ai35 As35 rfl
 refine bodyPost_ret (v := .agg (pc2 qhx0 qhx1 qhy0 qhy1 false).toArray) (by simp [results, Tryz.results11, asAddr, hf0]) rfl ?_
 exact ⟨rfl, H3.out.2⟩
theorem belowG_gen (a n : Nat) (r : Int) (cb : ∀ w, Calls Tryz.prog 67 #[] w (Rt w (N n))) (cc : ∀ w, Calls Tryz.prog 38 #[N a, N n] w (Rt w (.int .i64 r))) (bl : Bool) (hr : decide (r < 0) = bl) (w : World) :
  Calls Tryz.prog 72 #[N a] w (Rt w (.bool bl)) := by
 have H0 : Hid (_ ∧ _) := ⟨Mm.nil w, Below.refl w.heap.size w⟩
 have CB : Hid _ := cb
 clear cb
 have CC : Hid _ := cc
 clear cc
 have HR : Hid _ := hr
 clear hr
 go_enter Tryz.func72, Tryz.ntmps72
 refine wp_seq ?_
 refine zB 2 [.made (zD a) 24, .q (.bool false)] (sB H0) ?ho1 ?he1
 case ho1 => exact am (yE rfl rfl) (ar trivial)
 intro J w1 l hM hl
 have H1 : Hid (Mm w1 [(J 0, zD a)] ∧ _) := wB H0 hM hl [0]
 have o1_0 := vB H0 hM hl 0
 clear hM hl l
 generalize J 0 = J1_0 at H1 o1_0 ⊢
 clear J
 refine rN (wp_seq ?_)
 refine zN 5 [.q (N a), .call (N n), .call (.int .i64 r), .q (.bool bl), .q (.bool bl)] H1 ?ho2 ?he2
 case ho2 => exact bN 0 (ac (fun w' h => eC call67 (CB.out w')) (ac (fun w' h => eC call38 (CC.out w')) (ak (by refine fun J => ⟨rfl, fun w' h => ?_⟩; clear h; rw [← HR.out]; go_simp) (ar trivial))))
 intro _ w2 H2
 clear H1
 refine rN (wp_ret ?_)
 repeat (first | refine zK ?_ | refine zH ?_)
 refine bodyPost_ret (v := .bool bl) (by simp [results, Tryz.results72, go_sem, *]) rfl ?_
 exact ⟨rfl, H2.out.2⟩
theorem belowF_gen (a0 a1 : Nat) (ca : ∀ w, Calls Tryz.prog 72 #[N a0] w (Rt w (.bool false))) (w : World) :
  Calls Tryz.prog 81 #[V [a0, a1]] w (Rt w (.bool false)) := by
 have H0 : Hid (_ ∧ _) := ⟨Mm.nil w, Below.refl w.heap.size w⟩
 have CA : Hid _ := ca
 clear ca
 go_enter Tryz.func81, Tryz.ntmps81
 refine wp_seq ?_
 refine zB 2 [.made (cel [a0, a1]) 33, .q (.bool false)] (sB H0) ?ho1 ?he1
 case ho1 => exact am (ex_boxA rfl rfl) (ar trivial)
 intro J w1 l hM hl
 have H1 : Hid (Mm w1 [(J 0, cel [a0, a1])] ∧ _) := wB H0 hM hl [0]
 have o1_0 := vB H0 hM hl 0
 clear hM hl l
 generalize J 0 = J1_0 at H1 o1_0 ⊢
 clear J
 refine rN (wp_seq ?_)
 refine zC 9 [.q (PT J1_0 0), .q (N a0), .call (.bool false), .q (.bool false), .gone, .gone, .gone, .q (.bool false), .q (.bool false)] H1 ?ho2 ?he2
 case ho2 => exact ag (aq (fun w' h => zT (i := 0) h 0 rfl rfl rfl rfl) (ac (fun w' h => eC call72 (CA.out w')) (ar (ak (fun J => rfl) (ak (fun J => rfl) (ak (fun J => rfl) (ag (ar trivial))))))))
 intro _ w2 H2
 clear H1
 refine rN (wp_ret ?_)
 repeat (first | refine zK ?_ | refine zH ?_)
 refine bodyPost_ret (v := .bool false) (by simp [results, Tryz.results81, go_sem, *]) rfl ?_
 exact ⟨rfl, H2.out.2⟩
theorem belowT_gen (a0 a1 : Nat) (ca : ∀ w, Calls Tryz.prog 72 #[N a0] w (Rt w (.bool true))) (b1 : Bool) (cb : ∀ w, Calls Tryz.prog 72 #[N a1] w (Rt w (.bool b1))) (w : World) :
  Calls Tryz.prog 81 #[V [a0, a1]] w (Rt w (.bool b1)) := by
 have H0 : Hid (_ ∧ _) := ⟨Mm.nil w, Below.refl w.heap.size w⟩
 have CA : Hid _ := ca
 clear ca
 have CB : Hid _ := cb
 clear cb
 go_enter Tryz.func81, Tryz.ntmps81
 refine wp_seq ?_
 refine zB 2 [.made (cel [a0, a1]) 33, .q (.bool false)] (sB H0) ?ho1 ?he1
 case ho1 => exact am (ex_boxA rfl rfl) (ar trivial)
 intro J w1 l hM hl
 have H1 : Hid (Mm w1 [(J 0, cel [a0, a1])] ∧ _) := wB H0 hM hl [0]
 have o1_0 := vB H0 hM hl 0
 clear hM hl l
 generalize J 0 = J1_0 at H1 o1_0 ⊢
 clear J
 refine rN (wp_seq ?_)
 refine zC 9 [.q (PT J1_0 0), .q (N a0), .call (.bool true), .q (.bool true), .q (PT J1_0 6), .q (N a1), .call (.bool b1), .q (.bool b1), .q (.bool b1)] H1 ?ho2 ?he2
 case ho2 => exact ag (aq (fun w' h => zT (i := 0) h 0 rfl rfl rfl rfl) (ac (fun w' h => eC call72 (CA.out w')) (ar (ag (aq (fun w' h => zT (i := 1) h 0 rfl rfl rfl rfl) (ac (fun w' h => eC call72 (CB.out w')) (ag (ar trivial))))))))
 intro _ w2 H2
 clear H1
 refine rN (wp_ret ?_)
 repeat (first | refine zK ?_ | refine zH ?_)
 refine bodyPost_ret (v := .bool b1) (by simp [results, Tryz.results81, go_sem, *]) rfl ?_
 exact ⟨rfl, H2.out.2⟩
set_option maxHeartbeats 2000000 in
theorem Check_1 (one four x y : Nat) (zb bz : Bool) (cf : ∀ w, Calls Tryz.prog 41 #[] w fun e w' => Below w.heap.size w w' ∧ ∃ g x y, e = .returned (.agg (G1 g (.func (.func 73) #[] #[PT x 0, PT y 0]) one four).toArray) ∧ w.heap.size ≤ g ∧ g < w'.heap.size ∧ Blk w' g (zV pB)) (cm : ∀ g tn w, Mm w [(g, zV pB), (2, dtab)] → Calls Tryz.prog 45 #[(.agg (G1 g tn one four).toArray), .agg (yC x y zb).toArray] w (Rt w (.bool bz))) (w : World) (hm : Mm w [(2, dtab)]) :
  Calls Tryz.prog 18 #[.agg (yC x y zb).toArray] w (Rt w (.bool bz)) := by
 have H0 : Hid (_ ∧ _) := ⟨hm, Below.refl w.heap.size w⟩
 clear hm
 have CF : Hid _ := cf
 clear cf
 have CM : Hid _ := cm
 clear cm
 go_enter Tryz.func18, Tryz.ntmps18
 refine wp_seq ?_
 refine zB 2 [.made (yC x y zb) 27, .q (.bool false)] (sB H0) ?ho1 ?he1
 case ho1 => exact am (zS rfl rfl) (ar trivial)
 intro J w1 l hM hl
 have H1 : Hid (Mm w1 ([(J 0, yC x y zb)] ++ _) ∧ _) := wB H0 hM hl [0]
 have o1_0 := vB H0 hM hl 0
 clear hM hl l
 generalize J 0 = J1_0 at H1 o1_0 ⊢
 clear J
 refine rN (wp_seq ?_)
 refine zQ 4 [.bornX (fun g x y => .agg (G1 g (.func (.func 73) #[] #[PT x 0, PT y 0]) one four).toArray) (zV pB), .q (.agg (yC x y zb).toArray), .over (.bool bz) 0 (zV pB), .q (.bool bz)] (sB H1) ?ho2 ?he2 (hL := ?hL2)
 case hL2 => exact ⟨⟨_, rfl⟩, trivial⟩
 case ho2 => exact ak (fun J => ⟨rfl, fun w' h => eC call41 (CF.out w')⟩) (bT 0 Ai27 As27 (ak (fun J => ⟨rfl, fun u w' h0 hge h1 hb hlt => by have h := Mm.over h0 hge h1 hb hlt; exact eC call45 (CM.out _ _ w' (h.two 0 2 rfl rfl (by decide)))⟩) (ar trivial)))
 intro J w2 l hM hl
 have H2 : Hid (Mm w2 ([(J 0, zV pB)] ++ _) ∧ _) := wB H1 hM hl [0]
 have o2_0 := vB H1 hM hl 0
 clear hM hl l H1
 generalize J 0 = J2_0 at H2 o2_0 ⊢
 generalize J 65536 = J2_65536
 generalize J 131072 = J2_131072
 clear J
 refine rN (wp_ret ?_)
 repeat (first | refine zK ?_ | refine zH ?_)
 refine bodyPost_ret (v := .bool bz) (by simp [results, Tryz.results18, go_sem, *]) rfl ?_
 exact ⟨rfl, H2.out.2⟩
set_option maxHeartbeats 2000000 in
theorem Add_1 (one four x y v s r k : Nat) (zb zc zr : Bool) (er : Int) (cf : ∀ w, Calls Tryz.prog 41 #[] w fun e w' => Below w.heap.size w w' ∧ ∃ g x y, e = .returned (.agg (G1 g (.func (.func 73) #[] #[PT x 0, PT y 0]) one four).toArray) ∧ w.heap.size ≤ g ∧ g < w'.heap.size ∧ Blk w' g (zV pB)) (cm : ∀ g tn w, Mm w [(g, zV pB), (2, dtab)] → Calls Tryz.prog 47 #[(.agg (G1 g tn one four).toArray), .agg (yC x y zb).toArray, .agg (yC v s zc).toArray] w (Rt w (.tuple #[.agg (yC r k zr).toArray, .int .i64 er]))) (w : World) (hm : Mm w [(2, dtab)]) :
  Calls Tryz.prog 20 #[.agg (yC x y zb).toArray, .agg (yC v s zc).toArray] w (Rt w (.tuple #[.agg (yC r k zr).toArray, .int .i64 er])) := by
 have H0 : Hid (_ ∧ _) := ⟨hm, Below.refl w.heap.size w⟩
 clear hm
 have CF : Hid _ := cf
 clear cf
 have CM : Hid _ := cm
 clear cm
 go_enter Tryz.func20, Tryz.ntmps20
 refine wp_seq ?_
 refine zB 4 [.made (yC x y zb) 27, .made (yC v s zc) 27, .made (yC 0 0 false) 27, .q (.int .i64 0)] (sB H0) ?ho1 ?he1
 case ho1 => exact am (zS rfl rfl) (am (zS rfl rfl) (am (ex_madeP1 rfl) (ar trivial)))
 intro J w1 l hM hl
 have H1 : Hid (Mm w1 ([(J 0, yC x y zb), (J 1, yC v s zc), (J 2, yC 0 0 false)] ++ _) ∧ _) := wB H0 hM hl [0, 1, 2]
 have o1_0 := vB H0 hM hl 0
 have o1_1 := vB H0 hM hl 1
 have o1_2 := vB H0 hM hl 2
 clear hM hl l
 generalize J 0 = J1_0 at H1 o1_0 ⊢
 generalize J 1 = J1_1 at H1 o1_1 ⊢
 generalize J 2 = J1_2 at H1 o1_2 ⊢
 clear J
 refine rN (wp_seq ?_)
 refine zQ 10 [.bornX (fun g x y => .agg (G1 g (.func (.func 73) #[] #[PT x 0, PT y 0]) one four).toArray) (zV pB), .q (.agg (yC x y zb).toArray), .q (.agg (yC v s zc).toArray), .over (.tuple #[.agg (yC r k zr).toArray, .int .i64 er]) 0 (zV pB), .q (.tuple #[.agg (yC r k zr).toArray, .int .i64 er]), .q (.agg (yC r k zr).toArray), .q (.int .i64 er), .made (yC 0 0 false) 85, .laid 7 (yC 0 0 false) (yC r k zr), .q (.int .i64 er)] (sB H1) ?ho2 ?he2 (hL := ?hL2)
 case hL2 => exact ⟨⟨_, rfl⟩, ⟨_, rfl⟩, trivial⟩
 case ho2 => exact ak (fun J => ⟨rfl, fun w' h => eC call41 (CF.out w')⟩) (bT 0 Ai27 As27 (bT 1 Ai27 As27 (ak (fun J => ⟨rfl, fun u w' h0 hge h1 hb hlt => by have h := Mm.over h0 hge h1 hb hlt; exact eC call47 (CM.out _ _ w' (h.two 0 4 rfl rfl (by decide)))⟩) (ar (ag (ag (am (ex_madePN rfl) (ak (fun J => ⟨rfl, rfl, rfl, fun w' h => ex_laidT h rfl rfl As85 rfl rfl rfl⟩) (ar trivial)))))))))
 intro J w2 l hM hl
 have H2 : Hid (Mm w2 ([(J 0, zV pB), (J 7, yC r k zr)] ++ _) ∧ _) := wB H1 hM hl [0, 7]
 have o2_0 := vB H1 hM hl 0
 have o2_7 := vB H1 hM hl 7
 clear hM hl l H1
 generalize J 0 = J2_0 at H2 o2_0 ⊢
 generalize J 7 = J2_7 at H2 o2_7 ⊢
 generalize J 65536 = J2_65536
 generalize J 131072 = J2_131072
 clear J
 refine rN (wp_seq ?_)
 refine zC 2 [.q (.agg (yC r k zr).toArray), .q (.int .i64 er)] H2 ?ho3 ?he3
 case ho3 => exact bT 1 Ai85 As85 (ar trivial)
 intro _ w3 H3
 clear H2
 refine zF (l := [2, 3]) rfl ?_
 refine sG rfl (fun h => ex_storeT (vs := yC r k zr) h 4 rfl rfl rfl rfl As27 rfl (Nat.le_of_ble_eq_true rfl)) 4 [_, _, _, _, (_, yC r k zr), _] H3 o1_2 fun w4 H4 => ?_
 clear H3
 refine zG (d := 5) rfl rfl rfl rfl ?_
 simp only [Act.put, sa, sz, ss]
 refine zE (zA (wp_ret ?_))
 repeat (first | refine zK ?_ | refine zH ?_)
 have hf0 := var_T H4.out.1 4 rfl Ai27 As27 rfl
 refine bodyPost_ret (v := .tuple #[.agg (yC r k zr).toArray, .int .i64 er]) (by simp [results, Tryz.results20, asAddr, Act.eval, hf0]) rfl ?_
 exact ⟨rfl, H4.out.2⟩
set_option maxHeartbeats 2000000 in
theorem Check_2 (one four x0 x1 y0 y1 : Nat) (zb bz : Bool) (cf : ∀ w, Calls Tryz.prog 43 #[] w fun e w' => Below w.heap.size w w' ∧ ∃ g x, ∃ _y : Nat, e = .returned (.agg (G2 (.func (.func 82) #[] #[PT g 0, PT x 0]) one 0 four four).toArray) ∧ w.heap.size ≤ g ∧ g < w'.heap.size ∧ Blk w' g ([])) (cm : ∀ tn w, Mm w [(2, dtab)] → Calls Tryz.prog 57 #[(.agg (G2 tn one 0 four four).toArray), .agg (pc2 x0 x1 y0 y1 zb).toArray] w (Rt w (.bool bz))) (w : World) (hm : Mm w [(2, dtab)]) :
  Calls Tryz.prog 31 #[.agg (pc2 x0 x1 y0 y1 zb).toArray] w (Rt w (.bool bz)) := by
 have H0 : Hid (_ ∧ _) := ⟨hm, Below.refl w.heap.size w⟩
 clear hm
 have CF : Hid _ := cf
 clear cf
 have CM : Hid _ := cm
 clear cm
 go_enter Tryz.func31, Tryz.ntmps31
 refine wp_seq ?_
 refine zB 2 [.made (pc2 x0 x1 y0 y1 zb) 35, .q (.bool false)] (sB H0) ?ho1 ?he1
 case ho1 => exact am (zS rfl rfl) (ar trivial)
 intro J w1 l hM hl
 have H1 : Hid (Mm w1 ([(J 0, pc2 x0 x1 y0 y1 zb)] ++ _) ∧ _) := wB H0 hM hl [0]
 have o1_0 := vB H0 hM hl 0
 clear hM hl l
 generalize J 0 = J1_0 at H1 o1_0 ⊢
 clear J
 refine rN (wp_seq ?_)
 refine zQ 4 [.bornX (fun g x y => .agg (G2 (.func (.func 82) #[] #[PT g 0, PT x 0]) one 0 four four).toArray) ([]), .q (.agg (pc2 x0 x1 y0 y1 zb).toArray), .over (.bool bz) 0 ([]), .q (.bool bz)] (sB H1) ?ho2 ?he2 (hL := ?hL2)
 case hL2 => exact ⟨⟨_, rfl⟩, trivial⟩
 case ho2 => exact ak (fun J => ⟨rfl, fun w' h => eC call43 (CF.out w')⟩) (bT 0 Ai35 As35 (ak (fun J => ⟨rfl, fun u w' h0 hge h1 hb hlt => by have h := Mm.over h0 hge h1 hb hlt; exact eC call57 (CM.out _ w' (h.one 2 rfl))⟩) (ar trivial)))
 intro J w2 l hM hl
 have H2 : Hid (Mm w2 ([(J 0, [])] ++ _) ∧ _) := wB H1 hM hl [0]
 have o2_0 := vB H1 hM hl 0
 clear hM hl l H1
 generalize J 0 = J2_0 at H2 o2_0 ⊢
 generalize J 65536 = J2_65536
 clear J
 refine rN (wp_ret ?_)
 repeat (first | refine zK ?_ | refine zH ?_)
 refine bodyPost_ret (v := .bool bz) (by simp [results, Tryz.results31, go_sem, *]) rfl ?_
 exact ⟨rfl, H2.out.2⟩
set_option maxHeartbeats 2000000 in
theorem awake_gen (ma0 ma1 md0 md1 mh0 mh1 mh2 mh3 nn : Nat) (maz mhz : Bool) (c0 : ∀ w, Calls Tryz.prog 9 #[] w (Rt w (.agg (yC ma0 ma1 maz).toArray))) (c1 : ∀ w, Mm w [(2, dtab)] → Calls Tryz.prog 20 #[.agg (yC ma0 ma1 maz).toArray, .agg (yC ma0 ma1 maz).toArray] w (Rt w (.tuple #[.agg (yC md0 md1 false).toArray, .int .i64 0]))) (c2 : ∀ w, Calls Tryz.prog 17 #[.int .u64 2] w (Rt w (N nn))) (c3 : ∀ w, Mm w [(2, dtab)] → Calls Tryz.prog 8 #[.agg (yC ma0 ma1 maz).toArray, N nn] w (Rt w (.tuple #[.agg (yC md0 md1 false).toArray, .int .i64 0]))) (c4 : ∀ w, Mm w [(2, dtab)] → Calls Tryz.prog 18 #[.agg (yC ma0 ma1 maz).toArray] w (Rt w (.bool true))) (c5 : ∀ w, Calls Tryz.prog 11 #[] w (Rt w (.agg (pc2 mh0 mh1 mh2 mh3 mhz).toArray))) (c6 : ∀ w, Mm w [(2, dtab)] → Calls Tryz.prog 31 #[.agg (pc2 mh0 mh1 mh2 mh3 mhz).toArray] w (Rt w (.bool true))) (e0 : ∀ w, (Op.equalIn 10000 27 (.agg (yC md0 md1 false).toArray) (.agg (yC md0 md1 false).toArray)).run Tryz.prog w = .ok true w) (w : World) (hm : Mm w [(2, dtab)]) :
  Calls Tryz.prog 7 #[] w (Rt w (.bool true)) := by
 have H0 : Hid (_ ∧ _) := ⟨hm, Below.refl w.heap.size w⟩
 clear hm
 have C0 : Hid _ := c0
 clear c0
 have C1 : Hid _ := c1
 clear c1
 have C2 : Hid _ := c2
 clear c2
 have C3 : Hid _ := c3
 clear c3
 have C4 : Hid _ := c4
 clear c4
 have C5 : Hid _ := c5
 clear c5
 have C6 : Hid _ := c6
 clear c6
 have E0 : Hid _ := e0
 clear e0
 go_enter Tryz.func7, Tryz.ntmps7
 refine wp_seq ?_
 refine zC 1 [.q (.bool false)] H0 ?ho1 ?he1
 case ho1 => exact ar trivial
 intro _ w1 H1
 refine rN (wp_seq ?_)
 refine zB 9 [.call (.agg (yC ma0 ma1 maz).toArray), .call (.agg (yC ma0 ma1 maz).toArray), .call (.tuple #[.agg (yC md0 md1 false).toArray, .int .i64 0]), .q (.tuple #[.agg (yC md0 md1 false).toArray, .int .i64 0]), .q (.agg (yC md0 md1 false).toArray), .q (.int .i64 0), .made (yC 0 0 false) 27, .laid 6 (yC 0 0 false) (yC md0 md1 false), .q (.int .i64 0)] (sB H1) ?ho2 ?he2 (hL := ?hL2)
 case hL2 => exact ⟨⟨_, rfl⟩, trivial⟩
 case ho2 => exact ac (fun w' h => eC call9 (C0.out w')) (ac (fun w' h => eC call9 (C0.out w')) (ac (fun w' h => eC call20 (C1.out w' (h.one 0 rfl))) (ar (ag (ag (am (ex_madeP1 rfl) (ak (fun J => ⟨rfl, rfl, rfl, fun w' h => ex_laidT h rfl rfl As27 rfl rfl rfl⟩) (ar trivial))))))))
 intro J w2 l hM hl
 have H2 : Hid (Mm w2 ([(J 6, yC md0 md1 false)] ++ _) ∧ _) := wB H1 hM hl [6]
 have o2_6 := vB H1 hM hl 6
 clear hM hl l H1
 generalize J 6 = J2_6 at H2 o2_6 ⊢
 clear J
 refine rN (wp_seq ?_)
 refine zB 9 [.call (.agg (yC ma0 ma1 maz).toArray), .call (N nn), .call (.tuple #[.agg (yC md0 md1 false).toArray, .int .i64 0]), .q (.tuple #[.agg (yC md0 md1 false).toArray, .int .i64 0]), .q (.agg (yC md0 md1 false).toArray), .q (.int .i64 0), .made (yC 0 0 false) 27, .laid 6 (yC 0 0 false) (yC md0 md1 false), .q (.int .i64 0)] (sB H2) ?ho3 ?he3 (hL := ?hL3)
 case hL3 => exact ⟨⟨_, rfl⟩, trivial⟩
 case ho3 => exact ac (fun w' h => eC call9 (C0.out w')) (ac (fun w' h => eC call17 (C2.out w')) (ac (fun w' h => eC call8 (C3.out w' (h.one 1 rfl))) (ar (ag (ag (am (ex_madeP1 rfl) (ak (fun J => ⟨rfl, rfl, rfl, fun w' h => ex_laidT h rfl rfl As27 rfl rfl rfl⟩) (ar trivial))))))))
 intro J w3 l hM hl
 have H3 : Hid (Mm w3 ([(J 6, yC md0 md1 false)] ++ _) ∧ _) := wB H2 hM hl [6]
 have o3_6 := vB H2 hM hl 6
 clear hM hl l H2
 generalize J 6 = J3_6 at H3 o3_6 ⊢
 clear J
 refine rN (wp_seq ?_)
 refine zC 25 [.call (.agg (yC ma0 ma1 maz).toArray), .call (.bool true), .q (.bool true), .call (.agg (pc2 mh0 mh1 mh2 mh3 mhz).toArray), .call (.bool true), .q (.bool true), .q (.bool true), .q (.agg (yC md0 md1 false).toArray), .q (.agg (yC md0 md1 false).toArray), .q (.bool true), .q (.bool true), .q (.bool true), .q (PT J2_6 12), .q (.bool false), .q (.bool true), .q (.bool true), .q (.bool true), .q (.int .i64 0), .q (.bool true), .q (.bool true), .q (.bool true), .q (.int .i64 0), .q (.bool true), .q (.bool true), .q (.bool true)] H3 ?ho4 ?he4 (hL := ?hL4)
 case hL4 => exact trivial
 case ho4 => exact ac (fun w' h => eC call9 (C0.out w')) (ac (fun w' h => eC call18 (C4.out w' (h.one 2 rfl))) (ar (ac (fun w' h => eC call11 (C5.out w')) (ac (fun w' h => eC call31 (C6.out w' (h.one 2 rfl))) (ag (ar (bT 1 Ai27 As27 (bT 0 Ai27 As27 (ak (fun J => ⟨rfl, fun w' _ => exec_eqT27 E0.out rfl rfl rfl⟩) (ag (ar (ag (bC 1 Ai4 (ag (ag (ar (ar (ag (ag (ar (ar (ag (ag (ar trivial))))))))))))))))))))))))
 intro _ w4 H4
 clear H3
 refine rN (wp_ret ?_)
 repeat (first | refine zK ?_ | refine zH ?_)
 refine bodyPost_ret (v := .bool true) (by simp [results, Tryz.results7, go_sem, *]) rfl ?_
 exact ⟨rfl, H4.out.2⟩
end Rg
end Go.Proofs.YtmanelnacifgcaaGreatDoor
end
section
namespace Go.Proofs.YtmanelnacifgcaaGreatDoor
namespace EC
/-- A commutative ring, by its operations. -/
structure Rng (α : Type) where
 add : α → α → α
 mul : α → α → α
 zero : α
 one : α
 neg : α → α
 add_comm : ∀ a b, add a b = add b a
 add_assoc : ∀ a b c, add (add a b) c = add a (add b c)
 zero_add : ∀ a, add zero a = a
 neg_add : ∀ a, add (neg a) a = zero
 mul_comm : ∀ a b, mul a b = mul b a
 mul_assoc : ∀ a b c, mul (mul a b) c = mul a (mul b c)
 one_mul : ∀ a, mul one a = a
 mul_add : ∀ a b c, mul a (add b c) = add (mul a b) (mul a c)
section
variable {α : Type} (R : Rng α)
theorem Rng.add_zero (a : α) : R.add a R.zero = a := by rw [R.add_comm, R.zero_add]
theorem Rng.add_neg (a : α) : R.add a (R.neg a) = R.zero := by rw [R.add_comm, R.neg_add]
theorem Rng.left_comm (a b c : α) : R.add a (R.add b c) = R.add b (R.add a c) := by rw [← R.add_assoc, R.add_comm a b, R.add_assoc]
theorem Rng.cancel {a b c : α} (h : R.add a b = R.add a c) : b = c := by
 have h2 := congrArg (R.add (R.neg a)) h
 rw [← R.add_assoc, ← R.add_assoc, R.neg_add, R.zero_add, R.zero_add] at h2
 exact h2
theorem Rng.mul_zero (a : α) : R.mul a R.zero = R.zero := by
 refine R.cancel (a := R.mul a R.zero) ?_
 rw [← R.mul_add, R.zero_add, R.add_zero]
theorem Rng.zero_mul (a : α) : R.mul R.zero a = R.zero := by rw [R.mul_comm, R.mul_zero]
theorem Rng.add_mul (a b c : α) : R.mul (R.add a b) c = R.add (R.mul a c) (R.mul b c) := by
 rw [R.mul_comm, R.mul_add, R.mul_comm c, R.mul_comm c]
theorem Rng.neg_eq {a b : α} (h : R.add a b = R.zero) : b = R.neg a := by
 refine R.cancel (a := a) ?_
 rw [h, R.add_neg]
theorem Rng.mul_neg (a b : α) : R.mul a (R.neg b) = R.neg (R.mul a b) := by
 refine R.neg_eq ?_
 rw [← R.mul_add, R.add_neg, R.mul_zero]
theorem Rng.neg_zero : R.neg R.zero = R.zero := by
 have h := R.add_neg R.zero
 rw [R.zero_add] at h
 exact h
theorem Rng.neg_add_rev (a b : α) : R.neg (R.add a b) = R.add (R.neg a) (R.neg b) := by
 symm
 refine R.neg_eq ?_
 rw [R.add_assoc, R.left_comm b, ← R.add_assoc, R.add_neg, R.zero_add, R.add_neg]
theorem Rng.four (a b c d : α) : R.add (R.add a b) (R.add c d) = R.add (R.add a c) (R.add b d) := by
 rw [R.add_assoc, R.left_comm b, ← R.add_assoc]
theorem Rng.mul_left_comm (a b c : α) : R.mul a (R.mul b c) = R.mul b (R.mul a c) := by rw [← R.mul_assoc, R.mul_comm a b, R.mul_assoc]
end
/-- What is calculated with. -/
structure Ops (β : Type _) where
 add : β → β → β
 mul : β → β → β
 zero : β
 neg : β → β
 isz : β → Bool
structure Sound {α β : Type} (R : Rng α) (O : Ops β) (ev : β → α) : Prop where
 add : ∀ a b, ev (O.add a b) = R.add (ev a) (ev b)
 mul : ∀ a b, ev (O.mul a b) = R.mul (ev a) (ev b)
 zero : ev O.zero = R.zero
 neg : ∀ a, ev (O.neg a) = R.neg (ev a)
 isz : ∀ a, O.isz a = true → ev a = R.zero
/-! Lists of coefficients: the lowest first. -/
section
variable {α β : Type} (R : Rng α) (O : Ops β)
def ladd : List β → List β → List β
 | [], q => q
 | a :: p, [] => a :: p
 | a :: p, b :: q => O.add a b :: ladd p q
def lsc (c : β) (q : List β) : List β := q.map (O.mul c)
def lmul : List β → List β → List β
 | [], _ => []
 | a :: p, q => if O.isz a then O.zero :: lmul p q else ladd O (lsc O a q) (O.zero :: lmul p q)
def lops : Ops (List β) where
 add := ladd O
 mul := lmul O
 zero := []
 neg := fun p => p.map O.neg
 isz := fun p => p.all O.isz
def lev (ev : β → α) (x : α) : List β → α
 | [] => R.zero
 | a :: p => R.add (ev a) (R.mul x (lev ev x p))
variable {R O} {ev : β → α}
theorem lev_add (S : Sound R O ev) (x : α) : ∀ p q, lev R ev x (ladd O p q) = R.add (lev R ev x p) (lev R ev x q)
 | [], q => (R.zero_add _).symm
 | a :: p, [] => (R.add_zero _).symm
 | a :: p, b :: q => by
  show R.add (ev (O.add a b)) (R.mul x (lev R ev x (ladd O p q))) = R.add (R.add (ev a) (R.mul x (lev R ev x p))) (R.add (ev b) (R.mul x (lev R ev x q)))
  rw [lev_add S x p q, S.add, R.mul_add, R.four]
theorem lev_sc (S : Sound R O ev) (x : α) (c : β) : ∀ q, lev R ev x (lsc O c q) = R.mul (ev c) (lev R ev x q)
 | [] => (R.mul_zero _).symm
 | b :: q => by
  show R.add (ev (O.mul c b)) (R.mul x (lev R ev x (lsc O c q))) = R.mul (ev c) (R.add (ev b) (R.mul x (lev R ev x q)))
  rw [lev_sc S x c q, S.mul, R.mul_add, R.mul_left_comm x]
theorem lev_mul (S : Sound R O ev) (x : α) : ∀ p q, lev R ev x (lmul O p q) = R.mul (lev R ev x p) (lev R ev x q)
 | [], q => (R.zero_mul _).symm
 | a :: p, q => by
  have hz : lev R ev x (O.zero :: lmul O p q) = R.mul x (R.mul (lev R ev x p) (lev R ev x q)) := by
   show R.add (ev O.zero) (R.mul x (lev R ev x (lmul O p q))) = _
   rw [S.zero, R.zero_add, lev_mul S x p q]
  have hg : R.mul (lev R ev x (a :: p)) (lev R ev x q) = R.add (R.mul (ev a) (lev R ev x q)) (R.mul x (R.mul (lev R ev x p) (lev R ev x q))) := by
   show R.mul (R.add (ev a) (R.mul x (lev R ev x p))) (lev R ev x q) = _
   rw [R.add_mul, R.mul_assoc]
  rw [hg]
  unfold lmul
  split
  ·next h =>
   rw [S.isz a h, R.zero_mul, R.zero_add, hz]
  ·rw [lev_add S x, lev_sc S x, hz]
theorem lops_sound (S : Sound R O ev) (x : α) : Sound R (lops O) (lev R ev x) where
 add := lev_add S x
 mul := lev_mul S x
 zero := rfl
 neg := fun p => by
  show lev R ev x (p.map O.neg) = _
  induction p with
  | nil => exact R.neg_zero.symm
  | cons a p ih =>
   show R.add (ev (O.neg a)) (R.mul x (lev R ev x (p.map O.neg))) = R.neg (R.add (ev a) (R.mul x (lev R ev x p)))
   rw [ih, S.neg, R.mul_neg, R.neg_add_rev]
 isz := fun p h => by
  have h' : p.all O.isz = true := h
  clear h
  induction p with
  | nil => rfl
  | cons a p ih =>
   simp only [List.all_cons, Bool.and_eq_true] at h'
   show R.add (ev a) (R.mul x (lev R ev x p)) = R.zero
   rw [S.isz a h'.1, ih h'.2, R.mul_zero, R.zero_add]
end
/-! Roots: u + v y, y y being d. -/
section
variable {α β : Type} (R : Rng α) (O : Ops β)
def xops (d : β) : Ops (β × β) where
 add := fun a b => (O.add a.1 b.1, O.add a.2 b.2)
 mul := fun a b => (O.add (O.mul a.1 b.1) (O.mul d (O.mul a.2 b.2)), O.add (O.mul a.1 b.2) (O.mul a.2 b.1))
 zero := (O.zero, O.zero)
 neg := fun a => (O.neg a.1, O.neg a.2)
 isz := fun a => O.isz a.1 && O.isz a.2
def xev (ev : β → α) (y : α) (a : β × β) : α := R.add (ev a.1) (R.mul y (ev a.2))
theorem xops_sound {R} {O} {ev : β → α} (S : Sound R O ev) {d : β} {y : α} (hy : R.mul y y = ev d) : Sound R (xops O d) (xev R ev y) where
 add := fun a b => by
  show R.add (ev (O.add a.1 b.1)) (R.mul y (ev (O.add a.2 b.2))) = R.add (R.add (ev a.1) (R.mul y (ev a.2))) (R.add (ev b.1) (R.mul y (ev b.2)))
  rw [S.add, S.add, R.mul_add, R.four]
 mul := fun a b => by
  show R.add (ev (O.add (O.mul a.1 b.1) (O.mul d (O.mul a.2 b.2)))) (R.mul y (ev (O.add (O.mul a.1 b.2) (O.mul a.2 b.1)))) = R.mul (R.add (ev a.1) (R.mul y (ev a.2))) (R.add (ev b.1) (R.mul y (ev b.2)))
  rw [S.add, S.add, S.mul, S.mul, S.mul, S.mul, S.mul, ← hy]
  rw [R.add_mul, R.mul_add, R.mul_add, R.mul_add]
  have e1 : R.mul (R.mul y (ev a.2)) (R.mul y (ev b.2)) = R.mul (R.mul y y) (R.mul (ev a.2) (ev b.2)) := by
   rw [R.mul_assoc, R.mul_assoc, R.mul_left_comm (ev a.2)]
  have e2 : R.mul (R.mul y (ev a.2)) (ev b.1) = R.mul y (R.mul (ev a.2) (ev b.1)) := R.mul_assoc _ _ _
  have e3 : R.mul (ev a.1) (R.mul y (ev b.2)) = R.mul y (R.mul (ev a.1) (ev b.2)) := R.mul_left_comm _ _ _
  rw [e1, e2, e3]
  rw [R.add_comm (R.mul y (R.mul (ev a.2) (ev b.1))), R.four]
 zero := by
  show R.add (ev O.zero) (R.mul y (ev O.zero)) = R.zero
  rw [S.zero, R.mul_zero, R.zero_add]
 neg := fun a => by
  show R.add (ev (O.neg a.1)) (R.mul y (ev (O.neg a.2))) = R.neg (R.add (ev a.1) (R.mul y (ev a.2)))
  rw [S.neg, S.neg, R.mul_neg, R.neg_add_rev]
 isz := fun a h => by
  have h' : (O.isz a.1 && O.isz a.2) = true := h
  simp only [Bool.and_eq_true] at h'
  show R.add (ev a.1) (R.mul y (ev a.2)) = R.zero
  rw [S.isz _ h'.1, S.isz _ h'.2, R.mul_zero, R.zero_add]
end
/-! Integers. -/
section
variable {α : Type} (R : Rng α)
def nc : Nat → α
 | 0 => R.zero
 | n + 1 => R.add R.one (nc n)
def ic : Int → α
 | .ofNat n => nc R n
 | .negSucc n => R.neg (nc R (n + 1))
theorem nc_add (m : Nat) : ∀ n, nc R (n + m) = R.add (nc R n) (nc R m)
 | 0 => by rw [Nat.zero_add]; exact (R.zero_add _).symm
 | n + 1 => by
  rw [Nat.succ_add]
  show R.add R.one (nc R (n + m)) = R.add (R.add R.one (nc R n)) (nc R m)
  rw [nc_add m n, R.add_assoc]
theorem nc_mul (m : Nat) : ∀ n, nc R (n * m) = R.mul (nc R n) (nc R m)
 | 0 => by rw [Nat.zero_mul]; exact (R.zero_mul _).symm
 | n + 1 => by
  rw [Nat.succ_mul, nc_add, nc_mul m n]
  show _ = R.mul (R.add R.one (nc R n)) (nc R m)
  rw [R.add_mul, R.one_mul, R.add_comm]
theorem ic_sub (m n : Nat) : ic R ((m : Int) - (n : Int)) = R.add (nc R m) (R.neg (nc R n)) := by
 rcases Nat.le_total n m with h | h
 ·obtain ⟨k, rfl⟩ := Nat.exists_eq_add_of_le h
  rw [show ((n + k : Nat) : Int) - (n : Int) = ((k : Nat) : Int) by omega]
  show nc R k = _
  rw [nc_add, R.add_comm (nc R n), R.add_assoc, R.add_neg, R.add_zero]
 ·obtain ⟨k, rfl⟩ := Nat.exists_eq_add_of_le h
  rw [show (m : Int) - ((m + k : Nat) : Int) = -((k : Nat) : Int) by omega]
  have e : ic R (-((k : Nat) : Int)) = R.neg (nc R k) := by
   cases k with
   | zero => exact R.neg_zero.symm
   | succ k => rfl
  rw [e, nc_add, R.neg_add_rev, ← R.add_assoc, R.add_neg, R.zero_add]
theorem int_sub (a : Int) : ∃ m n : Nat, a = (m : Int) - (n : Int) := by
 cases a with
 | ofNat n => exact ⟨n, 0, by simp⟩
 | negSucc n => exact ⟨0, n + 1, by omega⟩
theorem Rng.neg_neg (a : α) : R.neg (R.neg a) = a := (R.neg_eq (R.neg_add a)).symm
theorem ic_add (a b : Int) : ic R (a + b) = R.add (ic R a) (ic R b) := by
 obtain ⟨m, n, rfl⟩ := int_sub a
 obtain ⟨k, l, rfl⟩ := int_sub b
 rw [show (m : Int) - (n : Int) + ((k : Int) - (l : Int)) = ((m + k : Nat) : Int) - ((n + l : Nat) : Int) by omega, ic_sub, ic_sub, ic_sub, nc_add, nc_add, R.neg_add_rev, R.four]
theorem ic_neg (a : Int) : ic R (-a) = R.neg (ic R a) := by
 obtain ⟨m, n, rfl⟩ := int_sub a
 rw [show -((m : Int) - (n : Int)) = (n : Int) - (m : Int) by omega, ic_sub, ic_sub, R.neg_add_rev, R.neg_neg, R.add_comm]
theorem ic_mul (a b : Int) : ic R (a * b) = R.mul (ic R a) (ic R b) := by
 obtain ⟨m, n, rfl⟩ := int_sub a
 obtain ⟨k, l, rfl⟩ := int_sub b
 have e : ((m : Int) - (n : Int)) * ((k : Int) - (l : Int)) = ((m * k + n * l : Nat) : Int) - ((m * l + n * k : Nat) : Int) := by
  rw [Int.natCast_add, Int.natCast_add, Int.natCast_mul, Int.natCast_mul, Int.natCast_mul, Int.natCast_mul]
  grind
 have nm : ∀ x y, R.mul (R.neg x) y = R.neg (R.mul x y) := fun x y => by rw [R.mul_comm, R.mul_neg, R.mul_comm]
 rw [e, ic_sub, ic_sub, ic_sub, nc_add, nc_add, nc_mul, nc_mul, nc_mul, nc_mul, R.add_mul, R.mul_add, R.mul_add, R.mul_neg, nm, nm, R.mul_neg, R.neg_neg, R.neg_add_rev]
 rw [R.four, R.add_comm (R.mul (nc R n) (nc R l))]
def iops : Ops Int where
 add := Int.add
 mul := Int.mul
 zero := 0
 neg := Int.neg
 isz := fun a => a == 0
theorem iops_sound : Sound R iops (ic R) where
 add := ic_add R
 mul := ic_mul R
 zero := rfl
 neg := ic_neg R
 isz := fun a h => by
  have : a = 0 := by simpa [iops] using h
  rw [this]
  rfl
end
/-! The curve's sum by three numbers. -/
section
variable {β : Type _} (O : Ops β)
abbrev Tri (β : Type _) := β × β × β
def osub (a b : β) : β := O.add a (O.neg b)
def o3 (a : β) : β := O.add (O.add a a) a
def tog (b : β) (p q : Tri β) : Tri β :=
 let xx := O.mul p.1 q.1
 let yy := O.mul p.2.1 q.2.1
 let zz := O.mul p.2.2 q.2.2
 let xy := O.add (O.mul p.1 q.2.1) (O.mul p.2.1 q.1)
 let yz := O.add (O.mul p.2.1 q.2.2) (O.mul p.2.2 q.2.1)
 let xz := O.add (O.mul p.1 q.2.2) (O.mul p.2.2 q.1)
 let xx3 := o3 O xx
 let xz3 := o3 O (O.mul b xz)
 let zz3 := o3 O (O.mul b zz)
 let less := osub O yy zz3
 let more := O.add yy zz3
 (osub O (O.mul less xy) (O.mul yz xz3), O.add (O.mul less more) (O.mul xx3 xz3), O.add (O.mul more yz) (O.mul xx3 xy))
end
abbrev P1 := List Int
abbrev P2 := List P1
abbrev P3 := List P2
abbrev P4 := List P3
def o1 := lops iops
def o2 := lops o1
def o3_ := lops o2
def o4 := lops o3_
/-- b; the three x; what their y y are. -/
def cb : P4 := [[[[0, 1]]]]
def cx1 : P4 := [[[[], [1]]]]
def cx2 : P4 := [[[], [[1]]]]
def cx3 : P4 := [[], [[[1]]]]
def c1 : P4 := [[[[1]]]]
def cd (x : P4) : P4 := o4.add (o4.mul x (o4.mul x x)) cb
def e1 := xops o4 (cd cx1)
def e2 := xops e1 (cd cx2, [])
def e3 := xops e2 ((cd cx3, []), ([], []))
abbrev El := ((P4 × P4) × (P4 × P4)) × ((P4 × P4) × (P4 × P4))
def up (p : P4) : El := (((p, []), ([], [])), (([], []), ([], [])))
def y1_ : El := ((([], c1), ([], [])), (([], []), ([], [])))
def y2_ : El := ((([], []), (c1, [])), (([], []), ([], [])))
def y3_ : El := ((([], []), ([], [])), ((c1, []), ([], [])))
def A : Tri El := (up cx1, y1_, up c1)
def B : Tri El := (up cx2, y2_, up c1)
def C : Tri El := (up cx3, y3_, up c1)
def LL : Tri El := tog e3 (up cb) (tog e3 (up cb) A B) C
def RR : Tri El := tog e3 (up cb) A (tog e3 (up cb) B C)
def l1 : El := ((([], [[[[], [0, 0, 0, 0, -32], [], [], [0, 0, 0, 4]], [[0, 0, 0, 0, -96], [], [], [0, 0, 0, 48]], [[], [], [0, 0, 0, 144]], [[], [0, 0, 0, 128], [], [], [0, 0, 2]], [[0, 0, 0, 12], [], [], [0, 0, -6]], [[], [], [0, 0, -18]], [[], [0, 0, -2], [], [], [0, -2]]], [[[0, 0, 0, 0, 192], [], [], [0, 0, 0, -24]], [[], [], [0, 0, 0, -216]], [[], [0, 0, 0, -72], [], [], [0, 0, -18]], [[0, 0, 0, 24], [], [], [0, 0, -192]], [[], [], [0, 0, -216]], [[], [0, 0, -72], [], [], [0, -18]], [[0, 0, -6], [], [], [0, -6]]], [], [[[], [0, 0, 0, 16], [], [], [0, 0, -2]], [[0, 0, 0, 48], [], [], [0, 0, -24]], [[], [], [0, 0, -72]], [[], [0, 0, -64], [], [], [0, -1]], [[0, 0, -6], [], [], [0, 3]], [[], [], [0, 9]], [[], [0, 1], [], [], [1]]]]), ([[[[], [0, 0, 0, 0, -96], [], [], [0, 0, 0, 12]], [[0, 0, 0, 0, -32], [], [], [0, 0, 0, 128], [], [], [0, 0, -2]], [[], [], [0, 0, 0, 144], [], [], [0, 0, -18]], [[], [0, 0, 0, 48], [], [], [0, 0, -6]], [[0, 0, 0, 4], [], [], [0, 0, 2], [], [], [0, -2]]], [[[0, 0, 0, 0, 192], [], [], [0, 0, 0, 24], [], [], [0, 0, -6]], [[], [], [0, 0, 0, -72], [], [], [0, 0, -72]], [[], [0, 0, 0, -216], [], [], [0, 0, -216]], [[0, 0, 0, -24], [], [], [0, 0, -192], [], [], [0, -6]], [[], [], [0, 0, -18], [], [], [0, -18]]], [], [[[], [0, 0, 0, 48], [], [], [0, 0, -6]], [[0, 0, 0, 16], [], [], [0, 0, -64], [], [], [0, 1]], [[], [], [0, 0, -72], [], [], [0, 9]], [[], [0, 0, -24], [], [], [0, 3]], [[0, 0, -2], [], [], [0, -1], [], [], [1]]]], [])), (([[[[], [0, 0, 0, 0, 192], [], [], [0, 0, 0, 84]], [[0, 0, 0, 0, 192], [], [], [0, 0, 0, 240], [], [], [0, 0, -6]], [[], [], [0, 0, 0, 72], [], [], [0, 0, 18]], [[], [0, 0, 0, 240], [], [], [0, 0, 132]], [[0, 0, 0, 84], [], [], [0, 0, 132], [], [], [0, -6]], [[], [], [0, 0, 18], [], [], [0, -36]], [[], [0, 0, -6], [], [], [0, -6]]], [[[0, 0, 0, 0, -32], [], [], [0, 0, 0, -88], [], [], [0, 0, -2]], [[], [], [0, 0, 0, -216]], [[], [0, 0, 0, -216]], [[0, 0, 0, -88], [], [], [0, 0, 100], [], [], [0, -1]], [[], [], [], [], [], [0, -27]], [[], [], [], [], [0, -27]], [[0, 0, -2], [], [], [0, -1], [], [], [1]]]], []), ([], [[[[], [0, 0, 0, 192], [], [], [0, 0, 12]], [[0, 0, 0, 192], [], [], [0, 0, 48]], [[], [], [0, 0, 216]], [[], [0, 0, 48], [], [], [0, -24]], [[0, 0, 12], [], [], [0, -24]]], [[[0, 0, 0, -96], [], [], [0, 0, -24]], [[], [], [0, 0, -72]], [[], [0, 0, -72], [], [], [0, -18]], [[0, 0, -24], [], [], [0, -60]], [[], [], [0, -18]]]])))
def l2 : El := ((([[[[0, 0, 0, 0, 0, -224], [], [], [0, 0, 0, 0, -232], [], [], [0, 0, 0, -8]], [[], [], [0, 0, 0, 0, -360], [], [], [0, 0, 0, -36]], [[], [0, 0, 0, 0, -360], [], [], [0, 0, 0, -198]], [[0, 0, 0, 0, -232], [], [], [0, 0, 0, 4], [], [], [0, 0, -7]], [[], [], [0, 0, 0, -198], [], [], [0, 0, -117]], [[], [0, 0, 0, -36], [], [], [0, 0, -117]], [[0, 0, 0, -8], [], [], [0, 0, -7], [], [], [0, 1]]], [[[], [], [0, 0, 0, 0, 360], [], [], [0, 0, 0, 36]], [[], [0, 0, 0, 0, 432], [], [], [0, 0, 0, 108]], [[0, 0, 0, 0, 360], [], [], [0, 0, 0, 288], [], [], [0, 0, 9]], [[], [], [0, 0, 0, 288], [], [], [0, 0, -36]], [[], [0, 0, 0, 108], [], [], [0, 0, -216]], [[0, 0, 0, 36], [], [], [0, 0, -36], [], [], [0, 9]], [[], [], [0, 0, 9], [], [], [0, 9]]], [[[], [0, 0, 0, 0, -288], [], [], [0, 0, 0, -126]], [[0, 0, 0, 0, -288], [], [], [0, 0, 0, -360], [], [], [0, 0, 9]], [[], [], [0, 0, 0, -108], [], [], [0, 0, -27]], [[], [0, 0, 0, -360], [], [], [0, 0, -198]], [[0, 0, 0, -126], [], [], [0, 0, -198], [], [], [0, 9]], [[], [], [0, 0, -27], [], [], [0, 54]], [[], [0, 0, 9], [], [], [0, 9]]], [[[0, 0, 0, 0, 64], [], [], [0, 0, 0, -16], [], [], [0, 0, 1]], [[], [], [0, 0, 0, -144], [], [], [0, 0, 18]], [[], [0, 0, 0, -144], [], [], [0, 0, 99]], [[0, 0, 0, -16], [], [], [0, 0, 148], [], [], [0, 2]], [[], [], [0, 0, 99], [], [], [0, 18]], [[], [0, 0, 18], [], [], [0, 18]], [[0, 0, 1], [], [], [0, 2], [], [], [1]]]], []), ([], [[[[0, 0, 0, 0, -288], [], [], [0, 0, 0, -72]], [[], [], [0, 0, 0, -216]], [[], [0, 0, 0, -216], [], [], [0, 0, -54]], [[0, 0, 0, -72], [], [], [0, 0, -180]], [[], [], [0, 0, -54]]], [[[], [], [0, 0, 0, 216]], [[], [0, 0, 0, 720], [], [], [0, 0, -36]], [[0, 0, 0, 216], [], [], [0, 0, -108]], [[], [], [0, 0, -108]], [[], [0, 0, -36], [], [], [0, 18]]], [[[], [0, 0, 0, -288], [], [], [0, 0, -18]], [[0, 0, 0, -288], [], [], [0, 0, -72]], [[], [], [0, 0, -324]], [[], [0, 0, -72], [], [], [0, 36]], [[0, 0, -18], [], [], [0, 36]]]])), (([], []), ([], [])))
def l3 : El := ((([], [[[[0, 0, 0, 0, -128], [], [], [0, 0, 0, 16]], [[], [], [0, 0, 0, 144]], [[], [0, 0, 0, 48], [], [], [0, 0, 12]], [[0, 0, 0, -16], [], [], [0, 0, 128]], [[], [], [0, 0, 144]], [[], [0, 0, 48], [], [], [0, 12]], [[0, 0, 4], [], [], [0, 4]]], [], [[[], [0, 0, 0, 48], [], [], [0, 0, -6]], [[0, 0, 0, 144], [], [], [0, 0, -72]], [[], [], [0, 0, -216]], [[], [0, 0, -192], [], [], [0, -3]], [[0, 0, -18], [], [], [0, 9]], [[], [], [0, 27]], [[], [0, 3], [], [], [3]]], [[[0, 0, 0, -32], [], [], [0, 0, 4]], [[], [], [0, 0, 36]], [[], [0, 0, 12], [], [], [0, 3]], [[0, 0, -4], [], [], [0, 32]], [[], [], [0, 36]], [[], [0, 12], [], [], [3]], [[0, 1], [], [], [1]]]]), ([[[[0, 0, 0, 0, -128], [], [], [0, 0, 0, -16], [], [], [0, 0, 4]], [[], [], [0, 0, 0, 48], [], [], [0, 0, 48]], [[], [0, 0, 0, 144], [], [], [0, 0, 144]], [[0, 0, 0, 16], [], [], [0, 0, 128], [], [], [0, 4]], [[], [], [0, 0, 12], [], [], [0, 12]]], [], [[[], [0, 0, 0, 144], [], [], [0, 0, -18]], [[0, 0, 0, 48], [], [], [0, 0, -192], [], [], [0, 3]], [[], [], [0, 0, -216], [], [], [0, 27]], [[], [0, 0, -72], [], [], [0, 9]], [[0, 0, -6], [], [], [0, -3], [], [], [3]]], [[[0, 0, 0, -32], [], [], [0, 0, -4], [], [], [0, 1]], [[], [], [0, 0, 12], [], [], [0, 12]], [[], [0, 0, 36], [], [], [0, 36]], [[0, 0, 4], [], [], [0, 32], [], [], [1]], [[], [], [0, 3], [], [], [3]]]], [])), (([[[[0, 0, 0, 0, 160], [], [], [0, 0, 0, 56], [], [], [0, 0, 4]], [[], [], [0, 0, 0, -72], [], [], [0, 0, 36]], [[], [0, 0, 0, -72], [], [], [0, 0, 198]], [[0, 0, 0, 56], [], [], [0, 0, 196], [], [], [0, 5]], [[], [], [0, 0, 198], [], [], [0, 63]], [[], [0, 0, 36], [], [], [0, 63]], [[0, 0, 4], [], [], [0, 5], [], [], [1]]], [[[], [], [0, 0, 0, 120], [], [], [0, 0, 12]], [[], [0, 0, 0, 144], [], [], [0, 0, 36]], [[0, 0, 0, 120], [], [], [0, 0, 96], [], [], [0, 3]], [[], [], [0, 0, 96], [], [], [0, -12]], [[], [0, 0, 36], [], [], [0, -72]], [[0, 0, 12], [], [], [0, -12], [], [], [3]], [[], [], [0, 3], [], [], [3]]]], []), ([], [[[[0, 0, 0, 96], [], [], [0, 0, 24]], [[], [], [0, 0, 72]], [[], [0, 0, 72], [], [], [0, 18]], [[0, 0, 24], [], [], [0, 60]], [[], [], [0, 18]]], [[[], [], [0, 0, 72]], [[], [0, 0, 240], [], [], [0, -12]], [[0, 0, 72], [], [], [0, -36]], [[], [], [0, -36]], [[], [0, -12], [], [], [6]]]])))
def r1 : El := ((([], [[[[], [0, 0, 0, 0, -32]], [[0, 0, 0, 0, 192]], [], [[], [0, 0, 0, -88]], [[0, 0, 0, 84]], [], [[], [0, 0, -2]]], [[[0, 0, 0, 0, 192]], [], [[], [0, 0, 0, -216]], [[0, 0, 0, 240]], [], [], [[0, 0, -6]]], [[], [[], [0, 0, 0, -216]], [[0, 0, 0, 72]], [], [], [[0, 0, 18]]], [[[], [0, 0, 0, -88]], [[0, 0, 0, 240]], [], [[], [0, 0, 100]], [[0, 0, 132]], [], [[], [0, -1]]], [[[0, 0, 0, 84]], [], [], [[0, 0, 132]], [], [[], [0, -27]], [[0, -6]]], [[], [], [[0, 0, 18]], [], [[], [0, -27]], [[0, -36]]], [[[], [0, 0, -2]], [[0, 0, -6]], [], [[], [0, -1]], [[0, -6]], [], [[], [1]]]]), ([[[[], [0, 0, 0, 0, 192]], [[0, 0, 0, 0, -32], [], [], [0, 0, 0, 16]], [], [[], [0, 0, 0, -24]], [[0, 0, 0, 4], [], [], [0, 0, -2]]], [[[0, 0, 0, 0, -96], [], [], [0, 0, 0, 48]], [], [[], [0, 0, 0, -216]], [[0, 0, 0, 48], [], [], [0, 0, -24]]], [[], [[], [0, 0, 0, -72]], [[0, 0, 0, 144], [], [], [0, 0, -72]], [], [[], [0, 0, -18]]], [[[], [0, 0, 0, 24]], [[0, 0, 0, 128], [], [], [0, 0, -64]], [], [[], [0, 0, -192]], [[0, 0, 2], [], [], [0, -1]]], [[[0, 0, 0, 12], [], [], [0, 0, -6]], [], [[], [0, 0, -216]], [[0, 0, -6], [], [], [0, 3]]], [[], [[], [0, 0, -72]], [[0, 0, -18], [], [], [0, 9]], [], [[], [0, -18]]], [[[], [0, 0, -6]], [[0, 0, -2], [], [], [0, 1]], [], [[], [0, -6]], [[0, -2], [], [], [1]]]], [])), (([[[[], [0, 0, 0, 0, 192]], [[0, 0, 0, 0, -96], [], [], [0, 0, 0, 48]], [], [[], [0, 0, 0, 24]], [[0, 0, 0, 12], [], [], [0, 0, -6]], [], [[], [0, 0, -6]]], [[[0, 0, 0, 0, -32], [], [], [0, 0, 0, 16]], [], [[], [0, 0, 0, -72]], [[0, 0, 0, 128], [], [], [0, 0, -64]], [], [[], [0, 0, -72]], [[0, 0, -2], [], [], [0, 1]]], [[], [[], [0, 0, 0, -216]], [[0, 0, 0, 144], [], [], [0, 0, -72]], [], [[], [0, 0, -216]], [[0, 0, -18], [], [], [0, 9]]], [[[], [0, 0, 0, -24]], [[0, 0, 0, 48], [], [], [0, 0, -24]], [], [[], [0, 0, -192]], [[0, 0, -6], [], [], [0, 3]], [], [[], [0, -6]]], [[[0, 0, 0, 4], [], [], [0, 0, -2]], [], [[], [0, 0, -18]], [[0, 0, 2], [], [], [0, -1]], [], [[], [0, -18]], [[0, -2], [], [], [1]]]], []), ([], [[[[], [0, 0, 0, -96]], [[0, 0, 0, 192]], [], [[], [0, 0, -24]], [[0, 0, 12]]], [[[0, 0, 0, 192]], [], [[], [0, 0, -72]], [[0, 0, 48]]], [[], [[], [0, 0, -72]], [[0, 0, 216]], [], [[], [0, -18]]], [[[], [0, 0, -24]], [[0, 0, 48]], [], [[], [0, -60]], [[0, -24]]], [[[0, 0, 12]], [], [[], [0, -18]], [[0, -24]]]])))
def r2 : El := ((([[[[0, 0, 0, 0, 0, -224], [], [], [0, 0, 0, 0, 64]], [[], [], [0, 0, 0, 0, -288]], [[], [0, 0, 0, 0, 360]], [[0, 0, 0, 0, -232], [], [], [0, 0, 0, -16]], [[], [], [0, 0, 0, -126]], [[], [0, 0, 0, 36]], [[0, 0, 0, -8], [], [], [0, 0, 1]]], [[[], [], [0, 0, 0, 0, -288]], [[], [0, 0, 0, 0, 432]], [[0, 0, 0, 0, -360], [], [], [0, 0, 0, -144]], [[], [], [0, 0, 0, -360]], [[], [0, 0, 0, 108]], [[0, 0, 0, -36], [], [], [0, 0, 18]], [[], [], [0, 0, 9]]], [[[], [0, 0, 0, 0, 360]], [[0, 0, 0, 0, -360], [], [], [0, 0, 0, -144]], [[], [], [0, 0, 0, -108]], [[], [0, 0, 0, 288]], [[0, 0, 0, -198], [], [], [0, 0, 99]], [[], [], [0, 0, -27]], [[], [0, 0, 9]]], [[[0, 0, 0, 0, -232], [], [], [0, 0, 0, -16]], [[], [], [0, 0, 0, -360]], [[], [0, 0, 0, 288]], [[0, 0, 0, 4], [], [], [0, 0, 148]], [[], [], [0, 0, -198]], [[], [0, 0, -36]], [[0, 0, -7], [], [], [0, 2]]], [[[], [], [0, 0, 0, -126]], [[], [0, 0, 0, 108]], [[0, 0, 0, -198], [], [], [0, 0, 99]], [[], [], [0, 0, -198]], [[], [0, 0, -216]], [[0, 0, -117], [], [], [0, 18]], [[], [], [0, 9]]], [[[], [0, 0, 0, 36]], [[0, 0, 0, -36], [], [], [0, 0, 18]], [[], [], [0, 0, -27]], [[], [0, 0, -36]], [[0, 0, -117], [], [], [0, 18]], [[], [], [0, 54]], [[], [0, 9]]], [[[0, 0, 0, -8], [], [], [0, 0, 1]], [[], [], [0, 0, 9]], [[], [0, 0, 9]], [[0, 0, -7], [], [], [0, 2]], [[], [], [0, 9]], [[], [0, 9]], [[0, 1], [], [], [1]]]], []), ([], [])), (([], []), ([[[[0, 0, 0, 0, -288]], [[], [], [0, 0, 0, -288]], [[], [0, 0, 0, 216]], [[0, 0, 0, -72]], [[], [], [0, 0, -18]]], [[[], [], [0, 0, 0, -288]], [[], [0, 0, 0, 720]], [[0, 0, 0, -216]], [[], [], [0, 0, -72]], [[], [0, 0, -36]]], [[[], [0, 0, 0, 216]], [[0, 0, 0, -216]], [[], [], [0, 0, -324]], [[], [0, 0, -108]], [[0, 0, -54]]], [[[0, 0, 0, -72]], [[], [], [0, 0, -72]], [[], [0, 0, -108]], [[0, 0, -180]], [[], [], [0, 36]]], [[[], [], [0, 0, -18]], [[], [0, 0, -36]], [[0, 0, -54]], [[], [], [0, 36]], [[], [0, 18]]]], [])))
def r3 : El := ((([], [[[[0, 0, 0, 0, 160]], [], [[], [0, 0, 0, 120]], [[0, 0, 0, 56]], [], [[], [0, 0, 12]], [[0, 0, 4]]], [[], [[], [0, 0, 0, 144]], [[0, 0, 0, -72]], [], [[], [0, 0, 36]], [[0, 0, 36]]], [[[], [0, 0, 0, 120]], [[0, 0, 0, -72]], [], [[], [0, 0, 96]], [[0, 0, 198]], [], [[], [0, 3]]], [[[0, 0, 0, 56]], [], [[], [0, 0, 96]], [[0, 0, 196]], [], [[], [0, -12]], [[0, 5]]], [[], [[], [0, 0, 36]], [[0, 0, 198]], [], [[], [0, -72]], [[0, 63]]], [[[], [0, 0, 12]], [[0, 0, 36]], [], [[], [0, -12]], [[0, 63]], [], [[], [3]]], [[[0, 0, 4]], [], [[], [0, 3]], [[0, 5]], [], [[], [3]], [[1]]]]), ([[[[0, 0, 0, 0, -128], [], [], [0, 0, 0, -32]], [[], [], [0, 0, 0, 48]], [], [[0, 0, 0, 16], [], [], [0, 0, 4]], [[], [], [0, 0, -6]]], [[[], [], [0, 0, 0, 144]], [], [[0, 0, 0, 144], [], [], [0, 0, 36]], [[], [], [0, 0, -72]]], [[], [[0, 0, 0, 48], [], [], [0, 0, 12]], [[], [], [0, 0, -216]], [], [[0, 0, 12], [], [], [0, 3]]], [[[0, 0, 0, -16], [], [], [0, 0, -4]], [[], [], [0, 0, -192]], [], [[0, 0, 128], [], [], [0, 32]], [[], [], [0, -3]]], [[[], [], [0, 0, -18]], [], [[0, 0, 144], [], [], [0, 36]], [[], [], [0, 9]]], [[], [[0, 0, 48], [], [], [0, 12]], [[], [], [0, 27]], [], [[0, 12], [], [], [3]]], [[[0, 0, 4], [], [], [0, 1]], [[], [], [0, 3]], [], [[0, 4], [], [], [1]], [[], [], [3]]]], [])), (([[[[0, 0, 0, 0, -128], [], [], [0, 0, 0, -32]], [[], [], [0, 0, 0, 144]], [], [[0, 0, 0, -16], [], [], [0, 0, -4]], [[], [], [0, 0, -18]], [], [[0, 0, 4], [], [], [0, 1]]], [[[], [], [0, 0, 0, 48]], [], [[0, 0, 0, 48], [], [], [0, 0, 12]], [[], [], [0, 0, -192]], [], [[0, 0, 48], [], [], [0, 12]], [[], [], [0, 3]]], [[], [[0, 0, 0, 144], [], [], [0, 0, 36]], [[], [], [0, 0, -216]], [], [[0, 0, 144], [], [], [0, 36]], [[], [], [0, 27]]], [[[0, 0, 0, 16], [], [], [0, 0, 4]], [[], [], [0, 0, -72]], [], [[0, 0, 128], [], [], [0, 32]], [[], [], [0, 9]], [], [[0, 4], [], [], [1]]], [[[], [], [0, 0, -6]], [], [[0, 0, 12], [], [], [0, 3]], [[], [], [0, -3]], [], [[0, 12], [], [], [3]], [[], [], [3]]]], []), ([], [[[[0, 0, 0, 96]], [], [[], [0, 0, 72]], [[0, 0, 24]]], [[], [[], [0, 0, 240]], [[0, 0, 72]], [], [[], [0, -12]]], [[[], [0, 0, 72]], [[0, 0, 72]], [], [[], [0, -36]], [[0, 18]]], [[[0, 0, 24]], [], [[], [0, -36]], [[0, 60]]], [[], [[], [0, -12]], [[0, 18]], [], [[], [6]]]])))
theorem l1_eq : e3.isz (osub e3 LL.1 l1) = true := by decide +kernel
theorem l2_eq : e3.isz (osub e3 LL.2.1 l2) = true := by decide +kernel
theorem l3_eq : e3.isz (osub e3 LL.2.2 l3) = true := by decide +kernel
theorem r1_eq : e3.isz (osub e3 RR.1 r1) = true := by decide +kernel
theorem r2_eq : e3.isz (osub e3 RR.2.1 r2) = true := by decide +kernel
theorem r3_eq : e3.isz (osub e3 RR.2.2 r3) = true := by decide +kernel
theorem assoc_x : e3.isz (osub e3 (e3.mul l1 r3) (e3.mul l3 r1)) = true := by decide +kernel
theorem assoc_y : e3.isz (osub e3 (e3.mul l2 r3) (e3.mul l3 r2)) = true := by decide +kernel
/-! What it says in a ring. -/
def rops {α : Type} (R : Rng α) : Ops α where
 add := R.add
 mul := R.mul
 zero := R.zero
 neg := R.neg
 isz := fun _ => false
def tri {α β : Type} (ev : β → α) (p : Tri β) : Tri α := (ev p.1, ev p.2.1, ev p.2.2)
theorem tog_ev {α β : Type} {R : Rng α} {O : Ops β} {ev : β → α} (S : Sound R O ev) (b : β) (p q : Tri β) : tri ev (tog O b p q) = tog (rops R) (ev b) (tri ev p) (tri ev q) := by
 simp only [tri, tog, osub, o3, rops, S.add, S.mul, S.neg]
section
variable {α : Type} (R : Rng α) (b x1 x2 x3 : α)
def v1 := lev R (ic R) b
def v2 := lev R (v1 R b) x1
def v3 := lev R (v2 R b x1) x2
def v4 := lev R (v3 R b x1 x2) x3
theorem s1 : Sound R o1 (v1 R b) := lops_sound (iops_sound R) b
theorem s2 : Sound R o2 (v2 R b x1) := lops_sound (s1 R b) x1
theorem s3 : Sound R o3_ (v3 R b x1 x2) := lops_sound (s2 R b x1) x2
theorem s4 : Sound R o4 (v4 R b x1 x2 x3) := lops_sound (s3 R b x1 x2) x3
theorem ic_1 : ic R 1 = R.one := R.add_zero _
theorem ic_0 : ic R 0 = R.zero := rfl
theorem Rng.mul_one (a : α) : R.mul a R.one = a := by rw [R.mul_comm, R.one_mul]
theorem w_b : v4 R b x1 x2 x3 cb = b := by
 simp only [v4, v3, v2, v1, cb, lev, ic_0, ic_1, R.mul_zero, R.add_zero, R.zero_add, R.mul_one]
theorem w_1 : v4 R b x1 x2 x3 c1 = R.one := by
 simp only [v4, v3, v2, v1, c1, lev, ic_1, R.mul_zero, R.add_zero]
theorem w_x1 : v4 R b x1 x2 x3 cx1 = x1 := by
 simp only [v4, v3, v2, v1, cx1, lev, ic_1, R.mul_zero, R.add_zero, R.zero_add, R.mul_one]
theorem w_x2 : v4 R b x1 x2 x3 cx2 = x2 := by
 simp only [v4, v3, v2, v1, cx2, lev, ic_1, R.mul_zero, R.add_zero, R.zero_add, R.mul_one]
theorem w_x3 : v4 R b x1 x2 x3 cx3 = x3 := by
 simp only [v4, v3, v2, v1, cx3, lev, ic_1, R.mul_zero, R.add_zero, R.zero_add, R.mul_one]
def side (x : α) : α := R.add (R.mul x (R.mul x x)) b
theorem w_cd (x : P4) : v4 R b x1 x2 x3 (cd x) = side R b (v4 R b x1 x2 x3 x) := by
 have S := s4 R b x1 x2 x3
 unfold cd side
 rw [S.add, S.mul, S.mul, w_b]
variable (y1 y2 y3 : α)
def u1 := xev R (v4 R b x1 x2 x3) y1
def u2 := xev R (u1 R b x1 x2 x3 y1) y2
def u3 := xev R (u2 R b x1 x2 x3 y1 y2) y3
theorem z_p (p : P4) : u3 R b x1 x2 x3 y1 y2 y3 (up p) = v4 R b x1 x2 x3 p := by
 have e : v4 R b x1 x2 x3 [] = R.zero := rfl
 simp only [u3, u2, u1, xev, up, e, R.mul_zero, R.add_zero]
variable (h1 : R.mul y1 y1 = side R b x1) (h2 : R.mul y2 y2 = side R b x2) (h3 : R.mul y3 y3 = side R b x3)
theorem k1 (h1 : R.mul y1 y1 = side R b x1) : Sound R e1 (u1 R b x1 x2 x3 y1) := xops_sound (s4 R b x1 x2 x3) (by rw [w_cd, w_x1]; exact h1)
theorem k2 (h1 : R.mul y1 y1 = side R b x1) (h2 : R.mul y2 y2 = side R b x2) : Sound R e2 (u2 R b x1 x2 x3 y1 y2) := xops_sound (k1 R b x1 x2 x3 y1 h1) (by
 have e : v4 R b x1 x2 x3 [] = R.zero := rfl
 show _ = R.add (v4 R b x1 x2 x3 (cd cx2)) (R.mul y1 (v4 R b x1 x2 x3 []))
 rw [e, R.mul_zero, R.add_zero, w_cd, w_x2]
 exact h2)
theorem k3 (h1 : R.mul y1 y1 = side R b x1) (h2 : R.mul y2 y2 = side R b x2) (h3 : R.mul y3 y3 = side R b x3) : Sound R e3 (u3 R b x1 x2 x3 y1 y2 y3) := xops_sound (k2 R b x1 x2 x3 y1 y2 h1 h2) (by
 have e : v4 R b x1 x2 x3 [] = R.zero := rfl
 have e2 : u2 R b x1 x2 x3 y1 y2 ((cd cx3, []), ([], [])) = v4 R b x1 x2 x3 (cd cx3) := by simp only [u2, u1, xev, e, R.mul_zero, R.add_zero]
 rw [e2, w_cd, w_x3]
 exact h3)
end
theorem eq_of {α β : Type} {R : Rng α} {O : Ops β} {ev : β → α} (S : Sound R O ev) {a c : β} (h : O.isz (osub O a c) = true) : ev a = ev c := by
 have e := S.isz _ h
 unfold osub at e
 rw [S.add, S.neg] at e
 have e2 : R.add (R.add (ev a) (R.neg (ev c))) (ev c) = R.add R.zero (ev c) := by rw [e]
 rw [R.add_assoc, R.neg_add, R.add_zero, R.zero_add] at e2
 exact e2
/-- The rule is associative, up to a common factor: of three points with third number 1. -/
theorem tog_assoc {α : Type} (R : Rng α) (b x1 x2 x3 y1 y2 y3 : α) (h1 : R.mul y1 y1 = side R b x1) (h2 : R.mul y2 y2 = side R b x2) (h3 : R.mul y3 y3 = side R b x3) :
  R.mul (tog (rops R) b (tog (rops R) b (x1, y1, R.one) (x2, y2, R.one)) (x3, y3, R.one)).1 (tog (rops R) b (x1, y1, R.one) (tog (rops R) b (x2, y2, R.one) (x3, y3, R.one))).2.2 =
   R.mul (tog (rops R) b (tog (rops R) b (x1, y1, R.one) (x2, y2, R.one)) (x3, y3, R.one)).2.2 (tog (rops R) b (x1, y1, R.one) (tog (rops R) b (x2, y2, R.one) (x3, y3, R.one))).1 ∧
  R.mul (tog (rops R) b (tog (rops R) b (x1, y1, R.one) (x2, y2, R.one)) (x3, y3, R.one)).2.1 (tog (rops R) b (x1, y1, R.one) (tog (rops R) b (x2, y2, R.one) (x3, y3, R.one))).2.2 =
   R.mul (tog (rops R) b (tog (rops R) b (x1, y1, R.one) (x2, y2, R.one)) (x3, y3, R.one)).2.2 (tog (rops R) b (x1, y1, R.one) (tog (rops R) b (x2, y2, R.one) (x3, y3, R.one))).2.1 := by
 have S := k3 R b x1 x2 x3 y1 y2 y3 h1 h2 h3
 have hz : v4 R b x1 x2 x3 [] = R.zero := rfl
 have eb : u3 R b x1 x2 x3 y1 y2 y3 (up cb) = b := by rw [z_p, w_b]
 have eA : tri (u3 R b x1 x2 x3 y1 y2 y3) A = (x1, y1, R.one) := by
  have ey : u3 R b x1 x2 x3 y1 y2 y3 y1_ = y1 := by simp only [u3, u2, u1, xev, y1_, hz, w_1, R.mul_zero, R.add_zero, R.zero_add, R.mul_one]
  simp only [tri, A, z_p, w_x1, w_1, ey]
 have eB : tri (u3 R b x1 x2 x3 y1 y2 y3) B = (x2, y2, R.one) := by
  have ey : u3 R b x1 x2 x3 y1 y2 y3 y2_ = y2 := by simp only [u3, u2, u1, xev, y2_, hz, w_1, R.mul_zero, R.add_zero, R.zero_add, R.mul_one]
  simp only [tri, B, z_p, w_x2, w_1, ey]
 have eC : tri (u3 R b x1 x2 x3 y1 y2 y3) C = (x3, y3, R.one) := by
  have ey : u3 R b x1 x2 x3 y1 y2 y3 y3_ = y3 := by simp only [u3, u2, u1, xev, y3_, hz, w_1, R.mul_zero, R.add_zero, R.zero_add, R.mul_one]
  simp only [tri, C, z_p, w_x3, w_1, ey]
 have eL : tri (u3 R b x1 x2 x3 y1 y2 y3) LL = tog (rops R) b (tog (rops R) b (x1, y1, R.one) (x2, y2, R.one)) (x3, y3, R.one) := by
  unfold LL
  rw [tog_ev S, tog_ev S, eb, eA, eB, eC]
 have eR : tri (u3 R b x1 x2 x3 y1 y2 y3) RR = tog (rops R) b (x1, y1, R.one) (tog (rops R) b (x2, y2, R.one) (x3, y3, R.one)) := by
  unfold RR
  rw [tog_ev S, tog_ev S, eb, eA, eB, eC]
 rw [← eL, ← eR]
 have p1 := eq_of S l1_eq
 have p2 := eq_of S l2_eq
 have p3 := eq_of S l3_eq
 have q1 := eq_of S r1_eq
 have q2 := eq_of S r2_eq
 have q3 := eq_of S r3_eq
 have ax := eq_of S assoc_x
 have ay := eq_of S assoc_y
 rw [S.mul, S.mul] at ax ay
 unfold tri
 rw [p1, p2, p3, q1, q2, q3]
 exact ⟨ax, ay⟩
end EC
end Go.Proofs.YtmanelnacifgcaaGreatDoor
end
section
namespace Go.Proofs.YtmanelnacifgcaaGreatDoor
namespace EC
/-! Expressions, to be calculated by the kernel. -/
def nth {β : Type} (d : β) : List β → Nat → β
 | [], _ => d
 | a :: _, 0 => a
 | _ :: l, i + 1 => nth d l i
theorem nth_map {β J : Type} (f : β → J) (d : β) : ∀ (l : List β) (i : Nat), f (nth d l i) = nth (f d) (l.map f) i
 | [], _ => rfl
 | _ :: _, 0 => rfl
 | _ :: l, i + 1 => nth_map f d l i
structure Ex where
 ev : {β : Type} → Ops β → β → List β → β
 snd : ∀ {α β : Type} {R : Rng α} {O : Ops β} {f : β → α}, Sound R O f → ∀ {one : β}, f one = R.one → ∀ l : List β, f (ev O one l) = ev (rops R) R.one (l.map f)
def Ex.v (i : Nat) : Ex where
 ev := fun O _ l => nth O.zero l i
 snd := by
  intro _ _ R O f S _ _ l
  show f (nth O.zero l i) = nth R.zero (l.map f) i
  rw [nth_map f, S.zero]
def Ex.z : Ex where
 ev := fun O _ _ => O.zero
 snd := by
  intro _ _ _ _ _ S _ _ _
  exact S.zero
def Ex.o : Ex where
 ev := fun _ one _ => one
 snd := by
  intro _ _ _ _ _ _ _ h _
  exact h
def Ex.a (x y : Ex) : Ex where
 ev := fun O one l => O.add (x.ev O one l) (y.ev O one l)
 snd := by
  intro _ _ R O f S _ h l
  show f (O.add _ _) = R.add _ _
  rw [S.add, x.snd S h l, y.snd S h l]
def Ex.m (x y : Ex) : Ex where
 ev := fun O one l => O.mul (x.ev O one l) (y.ev O one l)
 snd := by
  intro _ _ R O f S _ h l
  show f (O.mul _ _) = R.mul _ _
  rw [S.mul, x.snd S h l, y.snd S h l]
def Ex.n (x : Ex) : Ex where
 ev := fun O one l => O.neg (x.ev O one l)
 snd := by
  intro _ _ R O f S _ h l
  show f (O.neg _) = R.neg _
  rw [S.neg, x.snd S h l]
def exo : Ops Ex where
 add := Ex.a
 mul := Ex.m
 zero := Ex.z
 neg := Ex.n
 isz := fun _ => false
theorem Ex.eqs {α β : Type} {R : Rng α} {O : Ops β} {f : β → α} (S : Sound R O f) {one : β} (h1 : f one = R.one) (l : List β) (x y : Ex) (h : O.isz (osub O (x.ev O one l) (y.ev O one l)) = true) : x.ev (rops R) R.one (l.map f) = y.ev (rops R) R.one (l.map f) := by
 rw [← x.snd S h1 l, ← y.snd S h1 l]
 exact eq_of S h
/-- Of two points of the curve. -/
theorem ring_c {α : Type} (R : Rng α) (b x1 x2 y1 y2 : α) (h1 : R.mul y1 y1 = side R b x1) (h2 : R.mul y2 y2 = side R b x2) (x y : Ex)
  (h : e2.isz (osub e2 (x.ev e2 ((c1, []), ([], [])) [((cb, []), ([], [])), ((cx1, []), ([], [])), ((cx2, []), ([], [])), (([], c1), ([], [])), (([], []), (c1, []))]) (y.ev e2 ((c1, []), ([], [])) [((cb, []), ([], [])), ((cx1, []), ([], [])), ((cx2, []), ([], [])), (([], c1), ([], [])), (([], []), (c1, []))])) = true) :
  x.ev (rops R) R.one [b, x1, x2, y1, y2] = y.ev (rops R) R.one [b, x1, x2, y1, y2] := by
 have hz : v4 R b x1 x2 R.zero [] = R.zero := rfl
 have e := Ex.eqs (k2 R b x1 x2 R.zero y1 y2 h1 h2) (one := ((c1, []), ([], []))) (by
  show R.add (R.add (v4 R b x1 x2 R.zero c1) (R.mul y1 (v4 R b x1 x2 R.zero []))) (R.mul y2 (R.add (v4 R b x1 x2 R.zero []) (R.mul y1 (v4 R b x1 x2 R.zero [])))) = R.one
  simp only [hz, w_1, R.mul_zero, R.add_zero]) _ x y h
 simp only [List.map_cons, List.map_nil, u2, u1, xev, hz, w_b, w_1, w_x1, w_x2, R.mul_zero, R.add_zero, R.zero_add, R.mul_one] at e
 exact e
/-! Any eight numbers. -/
abbrev P5 := List P4
abbrev P6 := List P5
abbrev P7 := List P6
abbrev P8 := List P7
def o5 := lops o4
def o6 := lops o5
def o7 := lops o6
def o8 := lops o7
def f1 : P8 := [[[[[[[[0, 1]]]]]]]]
def f2 : P8 := [[[[[[[[], [1]]]]]]]]
def f3 : P8 := [[[[[[[], [[1]]]]]]]]
def f4 : P8 := [[[[[[], [[[1]]]]]]]]
def f5 : P8 := [[[[[], [[[[1]]]]]]]]
def f6 : P8 := [[[[], [[[[[1]]]]]]]]
def f7 : P8 := [[[], [[[[[[1]]]]]]]]
def f8 : P8 := [[], [[[[[[[1]]]]]]]]
def f0 : P8 := [[[[[[[[1]]]]]]]]
theorem ring_f {α : Type} (R : Rng α) (a b c d e f g h : α) (x y : Ex) (hh : o8.isz (osub o8 (x.ev o8 f0 [f1, f2, f3, f4, f5, f6, f7, f8]) (y.ev o8 f0 [f1, f2, f3, f4, f5, f6, f7, f8])) = true) :
  x.ev (rops R) R.one [a, b, c, d, e, f, g, h] = y.ev (rops R) R.one [a, b, c, d, e, f, g, h] := by
 have S : Sound R o8 _ := lops_sound (lops_sound (lops_sound (lops_sound (lops_sound (lops_sound (lops_sound (lops_sound (iops_sound R) a) b) c) d) e) f) g) h
 have t := Ex.eqs S (one := f0) (by
  simp only [f0, lev, ic_1, R.mul_zero, R.add_zero]) _ x y hh
 simp only [List.map_cons, List.map_nil, f1, f2, f3, f4, f5, f6, f7, f8, lev, ic_0, ic_1, R.mul_zero, R.add_zero, R.zero_add, R.mul_one] at t
 exact t
end EC
end Go.Proofs.YtmanelnacifgcaaGreatDoor
end
section
namespace Go.Proofs.YtmanelnacifgcaaGreatDoor
namespace EC
structure Crv (α : Type) where
 R : Rng α
 inv : α → α
 b : α
 hinv : ∀ a, a ≠ R.zero → R.mul (inv a) a = R.one
 hb : ∀ t, side R b t ≠ R.zero
 h1 : R.one ≠ R.zero
 h2 : R.add R.one R.one ≠ R.zero
section
variable {α : Type} (C : Crv α)
theorem Crv.can {c a d : α} (hc : c ≠ C.R.zero) (h : C.R.mul c a = C.R.mul c d) : a = d := by
 have e := congrArg (C.R.mul (C.inv c)) h
 rw [← C.R.mul_assoc, ← C.R.mul_assoc, C.hinv c hc, C.R.one_mul, C.R.one_mul] at e
 exact e
theorem Crv.ne {a c : α} (ha : a ≠ C.R.zero) (hc : c ≠ C.R.zero) : C.R.mul a c ≠ C.R.zero := fun h => hc (C.can ha (h.trans (C.R.mul_zero a).symm))
theorem Crv.inv_ne {a : α} (ha : a ≠ C.R.zero) : C.inv a ≠ C.R.zero := fun h => C.h1 (by rw [← C.hinv a ha, h, C.R.zero_mul])
theorem Crv.two {a : α} (ha : a ≠ C.R.zero) : C.R.add a a ≠ C.R.zero := fun h => by
 have e : C.R.mul (C.R.add C.R.one C.R.one) a = C.R.add a a := by rw [C.R.add_mul, C.R.one_mul]
 exact C.ne C.h2 ha (e.trans h)
theorem Crv.sub_ne {a c : α} (h : a ≠ c) : C.R.add a (C.R.neg c) ≠ C.R.zero := fun e => h (by
 have e2 : C.R.add (C.R.add a (C.R.neg c)) c = C.R.add C.R.zero c := by rw [e]
 rw [C.R.add_assoc, C.R.neg_add, C.R.add_zero, C.R.zero_add] at e2
 exact e2)
def Crv.on : Option (α × α) → Prop
 | none => True
 | some (x, y) => C.R.mul y y = side C.R C.b x
def Crv.lift : Option (α × α) → Tri α
 | none => (C.R.zero, C.R.one, C.R.zero)
 | some (x, y) => (x, y, C.R.one)
def Crv.neg : Option (α × α) → Option (α × α)
 | none => none
 | some (x, y) => some (x, C.R.neg y)
abbrev Crv.tog (A B : Tri α) : Tri α := EC.tog (rops C.R) C.b A B
def Crv.sc (c : α) (T : Tri α) : Tri α := (C.R.mul c T.1, C.R.mul c T.2.1, C.R.mul c T.2.2)
def Crv.good (T : Tri α) : Prop := T.2.2 = C.R.zero → T.1 = C.R.zero ∧ T.2.1 ≠ C.R.zero
theorem Crv.y_ne {x y : α} (h : C.on (some (x, y))) : y ≠ C.R.zero := fun e => by
 have h' : C.R.mul y y = side C.R C.b x := h
 rw [e, C.R.mul_zero] at h'
 exact C.hb x h'.symm
open Ex in
theorem Crv.tog_comm (A B : Tri α) : C.tog A B = C.tog B A := by
 obtain ⟨x1, y1, z1⟩ := A
 obtain ⟨x2, y2, z2⟩ := B
 refine Prod.ext ?_ (Prod.ext ?_ ?_)
 ·exact ring_f C.R C.b x1 y1 z1 x2 y2 z2 C.b (EC.tog exo (v 0) (v 1, v 2, v 3) (v 4, v 5, v 6)).1 (EC.tog exo (v 0) (v 4, v 5, v 6) (v 1, v 2, v 3)).1 (by decide +kernel)
 ·exact ring_f C.R C.b x1 y1 z1 x2 y2 z2 C.b (EC.tog exo (v 0) (v 1, v 2, v 3) (v 4, v 5, v 6)).2.1 (EC.tog exo (v 0) (v 4, v 5, v 6) (v 1, v 2, v 3)).2.1 (by decide +kernel)
 ·exact ring_f C.R C.b x1 y1 z1 x2 y2 z2 C.b (EC.tog exo (v 0) (v 1, v 2, v 3) (v 4, v 5, v 6)).2.2 (EC.tog exo (v 0) (v 4, v 5, v 6) (v 1, v 2, v 3)).2.2 (by decide +kernel)
open Ex in
theorem Crv.tog_sc (c : α) (A B : Tri α) : C.tog (C.sc c A) B = C.sc (C.R.mul c c) (C.tog A B) := by
 obtain ⟨x1, y1, z1⟩ := A
 obtain ⟨x2, y2, z2⟩ := B
 refine Prod.ext ?_ (Prod.ext ?_ ?_)
 ·exact ring_f C.R C.b x1 y1 z1 x2 y2 z2 c (EC.tog exo (v 0) (m (v 7) (v 1), m (v 7) (v 2), m (v 7) (v 3)) (v 4, v 5, v 6)).1 (m (m (v 7) (v 7)) (EC.tog exo (v 0) (v 1, v 2, v 3) (v 4, v 5, v 6)).1) (by decide +kernel)
 ·exact ring_f C.R C.b x1 y1 z1 x2 y2 z2 c (EC.tog exo (v 0) (m (v 7) (v 1), m (v 7) (v 2), m (v 7) (v 3)) (v 4, v 5, v 6)).2.1 (m (m (v 7) (v 7)) (EC.tog exo (v 0) (v 1, v 2, v 3) (v 4, v 5, v 6)).2.1) (by decide +kernel)
 ·exact ring_f C.R C.b x1 y1 z1 x2 y2 z2 c (EC.tog exo (v 0) (m (v 7) (v 1), m (v 7) (v 2), m (v 7) (v 3)) (v 4, v 5, v 6)).2.2 (m (m (v 7) (v 7)) (EC.tog exo (v 0) (v 1, v 2, v 3) (v 4, v 5, v 6)).2.2) (by decide +kernel)
theorem Crv.tog_sc' (c : α) (A B : Tri α) : C.tog A (C.sc c B) = C.sc (C.R.mul c c) (C.tog A B) := by
 rw [C.tog_comm, C.tog_sc, C.tog_comm]
open Ex in
theorem Crv.tog_zero (B : Tri α) : C.tog (C.lift none) B = C.sc B.2.1 B := by
 obtain ⟨x2, y2, z2⟩ := B
 refine Prod.ext ?_ (Prod.ext ?_ ?_)
 ·exact ring_f C.R C.b x2 y2 z2 C.b C.b C.b C.b (EC.tog exo (v 0) (z, o, z) (v 1, v 2, v 3)).1 (m (v 2) (v 1)) (by decide +kernel)
 ·exact ring_f C.R C.b x2 y2 z2 C.b C.b C.b C.b (EC.tog exo (v 0) (z, o, z) (v 1, v 2, v 3)).2.1 (m (v 2) (v 2)) (by decide +kernel)
 ·exact ring_f C.R C.b x2 y2 z2 C.b C.b C.b C.b (EC.tog exo (v 0) (z, o, z) (v 1, v 2, v 3)).2.2 (m (v 2) (v 3)) (by decide +kernel)
theorem Crv.lift_good {P : Option (α × α)} : C.good (C.lift P) := by
 rcases P with _ | ⟨x, y⟩
 ·exact fun _ => ⟨rfl, C.h1⟩
 ·exact fun h => absurd h C.h1
theorem Crv.lift_y {P : Option (α × α)} (h : C.on P) : (C.lift P).2.1 ≠ C.R.zero := by
 rcases P with _ | ⟨x, y⟩
 ·exact C.h1
 ·exact C.y_ne h
theorem Crv.good_sc {c : α} (hc : c ≠ C.R.zero) {T : Tri α} (h : C.good T) : C.good (C.sc c T) := fun e => by
 have hz : T.2.2 = C.R.zero := C.can hc (e.trans (C.R.mul_zero c).symm)
 obtain ⟨hx, hy⟩ := h hz
 refine ⟨?_, C.ne hc hy⟩
 show C.R.mul c T.1 = _
 rw [hx, C.R.mul_zero]
theorem Crv.good_of {c : α} (hc : c ≠ C.R.zero) {T : Tri α} (h : C.good (C.sc c T)) : C.good T := fun e => by
 obtain ⟨hx, hy⟩ := h (by show C.R.mul c T.2.2 = _; rw [e, C.R.mul_zero])
 exact ⟨C.can hc (hx.trans (C.R.mul_zero c).symm), fun e2 => hy (by show C.R.mul c T.2.1 = _; rw [e2, C.R.mul_zero])⟩
open Ex in
/-- -b would be a cube. -/
theorem Crv.cube {E w : α} (hE : E ≠ C.R.zero) (h : C.R.add (C.R.mul w (C.R.mul w w)) (C.R.mul C.b (C.R.mul E (C.R.mul E E))) = C.R.zero) : False := by
 refine C.hb (C.R.mul w (C.inv E)) ?_
 refine C.can (C.ne hE (C.ne hE hE)) ?_
 rw [C.R.mul_zero, ← h]
 have e := ring_f C.R C.b E w (C.inv E) C.b C.b C.b C.b (m (m (v 1) (m (v 1) (v 1))) (a (m (m (v 2) (v 3)) (m (m (v 2) (v 3)) (m (v 2) (v 3)))) (v 0))) (a (m (m (v 2) (m (v 2) (v 2))) (m (m (v 3) (v 1)) (m (m (v 3) (v 1)) (m (v 3) (v 1))))) (m (v 0) (m (v 1) (m (v 1) (v 1))))) (by decide +kernel)
 refine Eq.trans e ?_
 show C.R.add (C.R.mul (C.R.mul w (C.R.mul w w)) (C.R.mul (C.R.mul (C.inv E) E) (C.R.mul (C.R.mul (C.inv E) E) (C.R.mul (C.inv E) E)))) (C.R.mul C.b (C.R.mul E (C.R.mul E E))) = _
 rw [C.hinv E hE, C.R.one_mul, C.R.one_mul, C.R.mul_one]
open Ex in
theorem Crv.good_tog {P Q : Option (α × α)} (hP : C.on P) (hQ : C.on Q) : C.good (C.tog (C.lift P) (C.lift Q)) := by
 rcases P with _ | ⟨x1, y1⟩
 ·rw [C.tog_zero]
  exact C.good_sc (C.lift_y hQ) C.lift_good
 rcases Q with _ | ⟨x2, y2⟩
 ·rw [C.tog_comm, C.tog_zero]
  exact C.good_sc (C.lift_y hP) C.lift_good
 intro hZ
 have hP' : C.R.mul y1 y1 = side C.R C.b x1 := hP
 have hQ' : C.R.mul y2 y2 = side C.R C.b x2 := hQ
 by_cases hx : x1 = x2
 ·subst hx
  have hm : C.R.mul (C.R.add y1 (C.R.neg y2)) (C.R.add y1 y2) = C.R.zero := by
   refine Eq.trans (ring_f C.R y1 y2 C.b C.b C.b C.b C.b C.b (m (a (v 0) (n (v 1))) (a (v 0) (v 1))) (a (m (v 0) (v 0)) (n (m (v 1) (v 1)))) (by decide +kernel)) ?_
   show C.R.add (C.R.mul y1 y1) (C.R.neg (C.R.mul y2 y2)) = _
   rw [hP', hQ', C.R.add_neg]
  by_cases hy : y1 = y2
  ·subst hy
   have e := ring_c C.R C.b x1 x1 y1 y1 hP' hP' (EC.tog exo (v 0) (v 1, v 3, o) (v 1, v 3, o)).2.2 (m (a (v 3) (v 3)) (m (a (v 3) (v 3)) (a (v 3) (v 3)))) (by decide +kernel)
   have h2 := C.two (C.y_ne hP)
   exact absurd (e.symm.trans hZ) (C.ne h2 (C.ne h2 h2))
  ·have hs : C.R.add y1 y2 = C.R.zero := C.can (C.sub_ne hy) (hm.trans (C.R.mul_zero _).symm)
   have hn : y2 = C.R.neg y1 := C.R.neg_eq hs
   subst hn
   refine ⟨ring_c C.R C.b x1 x1 y1 y1 hP' hP' (EC.tog exo (v 0) (v 1, v 3, o) (v 1, n (v 3), o)).1 z (by decide +kernel), fun hY => ?_⟩
   have h2 := C.two (C.y_ne hP)
   refine C.cube (C.ne h2 h2) (w := C.R.mul x1 (C.R.add (C.R.mul x1 (C.R.mul x1 x1)) (C.R.neg (C.R.add (C.R.add (C.R.add C.b C.b) (C.R.add C.b C.b)) (C.R.add (C.R.add C.b C.b) (C.R.add C.b C.b)))))) ?_
   have e := ring_c C.R C.b x1 x1 y1 y1 hP' hP' (a (m (m (v 1) (a (m (v 1) (m (v 1) (v 1))) (n (a (a (a (v 0) (v 0)) (a (v 0) (v 0))) (a (a (v 0) (v 0)) (a (v 0) (v 0))))))) (m (m (v 1) (a (m (v 1) (m (v 1) (v 1))) (n (a (a (a (v 0) (v 0)) (a (v 0) (v 0))) (a (a (v 0) (v 0)) (a (v 0) (v 0))))))) (m (v 1) (a (m (v 1) (m (v 1) (v 1))) (n (a (a (a (v 0) (v 0)) (a (v 0) (v 0))) (a (a (v 0) (v 0)) (a (v 0) (v 0))))))))) (m (v 0) (m (m (a (v 3) (v 3)) (a (v 3) (v 3))) (m (m (a (v 3) (v 3)) (a (v 3) (v 3))) (m (a (v 3) (v 3)) (a (v 3) (v 3)))))))
    (m (EC.tog exo (v 0) (v 1, v 3, o) (v 1, n (v 3), o)).2.1 (EC.tog exo (v 0) (v 1, v 3, o) (v 1, n (v 3), o)).2.1) (by decide +kernel)
   refine Eq.trans e ?_
   show C.R.mul (C.tog (x1, y1, C.R.one) (x1, C.R.neg y1, C.R.one)).2.1 (C.tog (x1, y1, C.R.one) (x1, C.R.neg y1, C.R.one)).2.1 = _
   have hY' : (C.tog (x1, y1, C.R.one) (x1, C.R.neg y1, C.R.one)).2.1 = C.R.zero := hY
   rw [hY', C.R.mul_zero]
 ·exfalso
  have hd := C.sub_ne hx
  refine C.cube (C.ne hd hd) (w := C.R.add (C.R.mul (C.R.add y1 y2) (C.R.add y1 y2)) (C.R.neg (C.R.mul (C.R.add x1 x2) (C.R.mul (C.R.add x1 (C.R.neg x2)) (C.R.add x1 (C.R.neg x2)))))) ?_
  have e := ring_c C.R C.b x1 x2 y1 y2 hP' hQ' (a (m (a (m (a (v 3) (v 4)) (a (v 3) (v 4))) (n (m (a (v 1) (v 2)) (m (a (v 1) (n (v 2))) (a (v 1) (n (v 2))))))) (m (a (m (a (v 3) (v 4)) (a (v 3) (v 4))) (n (m (a (v 1) (v 2)) (m (a (v 1) (n (v 2))) (a (v 1) (n (v 2))))))) (a (m (a (v 3) (v 4)) (a (v 3) (v 4))) (n (m (a (v 1) (v 2)) (m (a (v 1) (n (v 2))) (a (v 1) (n (v 2)))))))))
   (m (v 0) (m (m (a (v 1) (n (v 2))) (a (v 1) (n (v 2)))) (m (m (a (v 1) (n (v 2))) (a (v 1) (n (v 2)))) (m (a (v 1) (n (v 2))) (a (v 1) (n (v 2))))))))
   (m (EC.tog exo (v 0) (v 1, v 3, o) (v 2, v 4, o)).2.2 (EC.tog exo (v 0) (v 1, v 3, o) (v 2, v 4, o)).2.2) (by decide +kernel)
  refine Eq.trans e ?_
  show C.R.mul (C.tog (x1, y1, C.R.one) (x2, y2, C.R.one)).2.2 (C.tog (x1, y1, C.R.one) (x2, y2, C.R.one)).2.2 = _
  have hZ' : (C.tog (x1, y1, C.R.one) (x2, y2, C.R.one)).2.2 = C.R.zero := hZ
  rw [hZ', C.R.mul_zero]
theorem Crv.over {c z x : α} (hc : c ≠ C.R.zero) (hz : z ≠ C.R.zero) : C.R.mul (C.R.mul c x) (C.inv (C.R.mul c z)) = C.R.mul x (C.inv z) := by
 refine C.can (C.ne hc hz) ?_
 have e1 : C.R.mul (C.R.mul c z) (C.R.mul (C.R.mul c x) (C.inv (C.R.mul c z))) = C.R.mul (C.R.mul (C.inv (C.R.mul c z)) (C.R.mul c z)) (C.R.mul c x) := by
  rw [C.R.mul_comm (C.R.mul c x), ← C.R.mul_assoc, C.R.mul_comm (C.R.mul c z)]
 have e2 : C.R.mul (C.R.mul c z) (C.R.mul x (C.inv z)) = C.R.mul (C.R.mul (C.inv z) z) (C.R.mul c x) := by
  rw [C.R.mul_comm x, ← C.R.mul_assoc, C.R.mul_assoc c, C.R.mul_comm z, C.R.mul_comm c, C.R.mul_assoc]
 rw [e1, e2, C.hinv _ (C.ne hc hz), C.hinv z hz]
theorem Crv.neg_on {P : Option (α × α)} (h : C.on P) : C.on (C.neg P) := by
 rcases P with _ | ⟨x, y⟩
 ·trivial
 ·have h' : C.R.mul y y = side C.R C.b x := h
  show C.R.mul (C.R.neg y) (C.R.neg y) = side C.R C.b x
  rw [C.R.mul_neg, C.R.mul_comm, C.R.mul_neg, C.R.neg_neg, h']
end
section
variable {α : Type} [DecidableEq α] (C : Crv α)
def Crv.lower (T : Tri α) : Option (α × α) := if T.2.2 = C.R.zero then none else some (C.R.mul T.1 (C.inv T.2.2), C.R.mul T.2.1 (C.inv T.2.2))
def Crv.add (P Q : Option (α × α)) : Option (α × α) := C.lower (C.tog (C.lift P) (C.lift Q))
theorem Crv.lower_none {T : Tri α} (h : T.2.2 = C.R.zero) : C.lower T = none := if_pos h
theorem Crv.lower_some {T : Tri α} (h : T.2.2 ≠ C.R.zero) : C.lower T = some (C.R.mul T.1 (C.inv T.2.2), C.R.mul T.2.1 (C.inv T.2.2)) := if_neg h
theorem Crv.lower_sc {c : α} (hc : c ≠ C.R.zero) (T : Tri α) : C.lower (C.sc c T) = C.lower T := by
 by_cases hz : T.2.2 = C.R.zero
 ·rw [C.lower_none hz, C.lower_none (show C.R.mul c T.2.2 = C.R.zero by rw [hz, C.R.mul_zero])]
 ·rw [C.lower_some hz, C.lower_some (T := C.sc c T) (C.ne hc hz)]
  show some (C.R.mul (C.R.mul c T.1) (C.inv (C.R.mul c T.2.2)), C.R.mul (C.R.mul c T.2.1) (C.inv (C.R.mul c T.2.2))) = _
  rw [C.over hc hz, C.over hc hz]
theorem Crv.lower_lift (P : Option (α × α)) : C.lower (C.lift P) = P := by
 rcases P with _ | ⟨x, y⟩
 ·exact C.lower_none rfl
 ·rw [C.lower_some (T := C.lift (some (x, y))) C.h1]
  have e : C.inv C.R.one = C.R.one := by
   have := C.hinv C.R.one C.h1
   rw [C.R.mul_one] at this
   exact this
  show some (C.R.mul x (C.inv C.R.one), C.R.mul y (C.inv C.R.one)) = _
  rw [e, C.R.mul_one, C.R.mul_one]
theorem Crv.lift_lower {T : Tri α} (h : C.good T) : ∃ c, c ≠ C.R.zero ∧ C.lift (C.lower T) = C.sc c T := by
 by_cases hz : T.2.2 = C.R.zero
 ·obtain ⟨hx, hy⟩ := h hz
  refine ⟨C.inv T.2.1, C.inv_ne hy, ?_⟩
  rw [C.lower_none hz]
  show (C.R.zero, C.R.one, C.R.zero) = (C.R.mul _ T.1, C.R.mul _ T.2.1, C.R.mul _ T.2.2)
  rw [hx, hz, C.R.mul_zero, C.hinv _ hy]
 ·refine ⟨C.inv T.2.2, C.inv_ne hz, ?_⟩
  rw [C.lower_some hz]
  show (C.R.mul T.1 _, C.R.mul T.2.1 _, C.R.one) = (C.R.mul _ T.1, C.R.mul _ T.2.1, C.R.mul _ T.2.2)
  rw [C.hinv _ hz, C.R.mul_comm T.1, C.R.mul_comm T.2.1]
theorem Crv.comm (P Q : Option (α × α)) : C.add P Q = C.add Q P := by unfold Crv.add; rw [C.tog_comm]
theorem Crv.zero_add {Q : Option (α × α)} (h : C.on Q) : C.add none Q = Q := by
 unfold Crv.add
 rw [C.tog_zero, C.lower_sc (C.lift_y h), C.lower_lift]
theorem Crv.add_zero {Q : Option (α × α)} (h : C.on Q) : C.add Q none = Q := by rw [C.comm, C.zero_add h]
open Ex in
theorem Crv.add_neg (P : Option (α × α)) : C.add P (C.neg P) = none := by
 rcases P with _ | ⟨x, y⟩
 ·exact C.zero_add (Q := none) trivial
 ·exact C.lower_none (ring_f C.R C.b x y C.b C.b C.b C.b C.b (EC.tog exo (v 0) (v 1, v 2, o) (v 1, n (v 2), o)).2.2 z (by decide +kernel))
open Ex in
theorem Crv.add_on {P Q : Option (α × α)} (hP : C.on P) (hQ : C.on Q) : C.on (C.add P Q) := by
 rcases P with _ | ⟨x1, y1⟩
 ·rw [C.zero_add hQ]; exact hQ
 rcases Q with _ | ⟨x2, y2⟩
 ·rw [C.add_zero hP]; exact hP
 have hP' : C.R.mul y1 y1 = side C.R C.b x1 := hP
 have hQ' : C.R.mul y2 y2 = side C.R C.b x2 := hQ
 have e := ring_c C.R C.b x1 x2 y1 y2 hP' hQ' (m (m (EC.tog exo (v 0) (v 1, v 3, o) (v 2, v 4, o)).2.1 (EC.tog exo (v 0) (v 1, v 3, o) (v 2, v 4, o)).2.1) (EC.tog exo (v 0) (v 1, v 3, o) (v 2, v 4, o)).2.2)
  (a (m (EC.tog exo (v 0) (v 1, v 3, o) (v 2, v 4, o)).1 (m (EC.tog exo (v 0) (v 1, v 3, o) (v 2, v 4, o)).1 (EC.tog exo (v 0) (v 1, v 3, o) (v 2, v 4, o)).1)) (m (v 0) (m (EC.tog exo (v 0) (v 1, v 3, o) (v 2, v 4, o)).2.2 (m (EC.tog exo (v 0) (v 1, v 3, o) (v 2, v 4, o)).2.2 (EC.tog exo (v 0) (v 1, v 3, o) (v 2, v 4, o)).2.2)))) (by decide +kernel)
 unfold Crv.add
 generalize hT : C.tog (C.lift (some (x1, y1))) (C.lift (some (x2, y2))) = T
 have e' : C.R.mul (C.R.mul T.2.1 T.2.1) T.2.2 = C.R.add (C.R.mul T.1 (C.R.mul T.1 T.1)) (C.R.mul C.b (C.R.mul T.2.2 (C.R.mul T.2.2 T.2.2))) := by
  rw [← hT]; exact e
 clear e hT
 by_cases hz : T.2.2 = C.R.zero
 ·rw [C.lower_none hz]; trivial
 ·rw [C.lower_some hz]
  obtain ⟨X, Y, Z⟩ := T
  have hz' : Z ≠ C.R.zero := hz
  have e2 : C.R.mul (C.R.mul Y Y) Z = C.R.add (C.R.mul X (C.R.mul X X)) (C.R.mul C.b (C.R.mul Z (C.R.mul Z Z))) := e'
  show C.R.mul (C.R.mul Y (C.inv Z)) (C.R.mul Y (C.inv Z)) = C.R.add (C.R.mul (C.R.mul X (C.inv Z)) (C.R.mul (C.R.mul X (C.inv Z)) (C.R.mul X (C.inv Z)))) C.b
  refine C.can (C.ne hz' (C.ne hz' hz')) ?_
  refine Eq.trans (ring_f C.R C.b X Y Z (C.inv Z) C.b C.b C.b (m (m (v 3) (m (v 3) (v 3))) (m (m (v 2) (v 4)) (m (v 2) (v 4)))) (m (m (m (v 2) (v 2)) (v 3)) (m (m (v 4) (v 3)) (m (v 4) (v 3)))) (by decide +kernel)) ?_
  refine Eq.trans ?_ (ring_f C.R C.b X Y Z (C.inv Z) C.b C.b C.b (a (m (m (v 1) (m (v 1) (v 1))) (m (m (v 4) (v 3)) (m (m (v 4) (v 3)) (m (v 4) (v 3))))) (m (v 0) (m (v 3) (m (v 3) (v 3))))) (m (m (v 3) (m (v 3) (v 3))) (a (m (m (v 1) (v 4)) (m (m (v 1) (v 4)) (m (v 1) (v 4)))) (v 0))) (by decide +kernel))
  show C.R.mul (C.R.mul (C.R.mul Y Y) Z) (C.R.mul (C.R.mul (C.inv Z) Z) (C.R.mul (C.inv Z) Z)) = C.R.add (C.R.mul (C.R.mul X (C.R.mul X X)) (C.R.mul (C.R.mul (C.inv Z) Z) (C.R.mul (C.R.mul (C.inv Z) Z) (C.R.mul (C.inv Z) Z)))) (C.R.mul C.b (C.R.mul Z (C.R.mul Z Z)))
  rw [C.hinv Z hz', C.R.one_mul, C.R.one_mul, C.R.mul_one, C.R.mul_one]
  exact e2
theorem Crv.same {S T : Tri α} (hS : C.good S) (hT : C.good T) (h1 : C.R.mul S.1 T.2.2 = C.R.mul S.2.2 T.1) (h2 : C.R.mul S.2.1 T.2.2 = C.R.mul S.2.2 T.2.1) : C.lower S = C.lower T := by
 by_cases hs : S.2.2 = C.R.zero
 ·have ht : T.2.2 = C.R.zero := by
   obtain ⟨_, hy⟩ := hS hs
   rw [hs, C.R.zero_mul] at h2
   exact C.can hy (h2.trans (C.R.mul_zero _).symm)
  rw [C.lower_none hs, C.lower_none ht]
 ·by_cases ht : T.2.2 = C.R.zero
  ·obtain ⟨_, hy⟩ := hT ht
   rw [ht, C.R.mul_zero] at h2
   exact absurd (C.can hs (h2.symm.trans (C.R.mul_zero _).symm)) hy
  ·rw [C.lower_some hs, C.lower_some ht]
   have q : ∀ x y : α, C.R.mul x T.2.2 = C.R.mul S.2.2 y → C.R.mul x (C.inv S.2.2) = C.R.mul y (C.inv T.2.2) := fun x y h => by
    have e := C.over (c := T.2.2) (z := S.2.2) (x := x) ht hs
    rw [← e, C.R.mul_comm T.2.2 x, h, C.R.mul_comm T.2.2 S.2.2, C.over hs ht]
   rw [q _ _ h1, q _ _ h2]
theorem Crv.assoc {P Q U : Option (α × α)} (hP : C.on P) (hQ : C.on Q) (hU : C.on U) : C.add (C.add P Q) U = C.add P (C.add Q U) := by
 rcases P with _ | ⟨x1, y1⟩
 ·rw [C.zero_add hQ, C.zero_add (C.add_on hQ hU)]
 rcases Q with _ | ⟨x2, y2⟩
 ·rw [C.add_zero hP, C.zero_add hU]
 rcases U with _ | ⟨x3, y3⟩
 ·rw [C.add_zero (C.add_on hP hQ), C.add_zero hQ]
 obtain ⟨h1, h2⟩ := tog_assoc C.R C.b x1 x2 x3 y1 y2 y3 hP hQ hU
 obtain ⟨c, hc, ec⟩ := C.lift_lower (C.good_tog hP hQ)
 obtain ⟨d, hd, ed⟩ := C.lift_lower (C.good_tog hQ hU)
 have gl := C.good_tog (C.add_on hP hQ) hU
 have gr := C.good_tog hP (C.add_on hQ hU)
 have el : C.tog (C.lift (C.add (some (x1, y1)) (some (x2, y2)))) (C.lift (some (x3, y3))) = C.sc (C.R.mul c c) (C.tog (C.tog (C.lift (some (x1, y1))) (C.lift (some (x2, y2)))) (C.lift (some (x3, y3)))) := by
  unfold Crv.add
  rw [ec, C.tog_sc]
 have er : C.tog (C.lift (some (x1, y1))) (C.lift (C.add (some (x2, y2)) (some (x3, y3)))) = C.sc (C.R.mul d d) (C.tog (C.lift (some (x1, y1))) (C.tog (C.lift (some (x2, y2))) (C.lift (some (x3, y3))))) := by
  unfold Crv.add
  rw [ed, C.tog_sc']
 rw [el] at gl
 rw [er] at gr
 show C.lower (C.tog (C.lift (C.add (some (x1, y1)) (some (x2, y2)))) (C.lift (some (x3, y3)))) = C.lower (C.tog (C.lift (some (x1, y1))) (C.lift (C.add (some (x2, y2)) (some (x3, y3)))))
 rw [el, er, C.lower_sc (C.ne hc hc), C.lower_sc (C.ne hd hd)]
 exact C.same (C.good_of (C.ne hc hc) gl) (C.good_of (C.ne hd hd) gr) h1 h2
end
end EC
end Go.Proofs.YtmanelnacifgcaaGreatDoor
end
section
namespace Go.Proofs.YtmanelnacifgcaaGreatDoor
namespace EC
section
variable {β : Type _} (O : Ops β)
def od (a : β) : β := O.add a a
def twi (b : β) (p : Tri β) : Tri β :=
 let yy := O.mul p.2.1 p.2.1
 let yz := O.mul p.2.1 p.2.2
 let zz3 := o3 O (O.mul b (O.mul p.2.2 p.2.2))
 let yy8 := od O (od O (od O yy))
 let less := osub O yy (o3 O zz3)
 let more := O.add yy zz3
 (od O (O.mul less (O.mul p.1 p.2.1)), O.add (O.mul less more) (O.mul yy8 zz3), O.mul yy8 yz)
end
section
variable {α : Type} (C : Crv α)
open Ex in
theorem Crv.twi_sc (c : α) (A : Tri α) : twi (rops C.R) C.b (C.sc c A) = C.sc (C.R.mul (C.R.mul c c) (C.R.mul c c)) (twi (rops C.R) C.b A) := by
 obtain ⟨x1, y1, z1⟩ := A
 refine Prod.ext ?_ (Prod.ext ?_ ?_)
 ·exact ring_f C.R C.b x1 y1 z1 c C.b C.b C.b (twi exo (v 0) (m (v 4) (v 1), m (v 4) (v 2), m (v 4) (v 3))).1 (m (m (m (v 4) (v 4)) (m (v 4) (v 4))) (twi exo (v 0) (v 1, v 2, v 3)).1) (by decide +kernel)
 ·exact ring_f C.R C.b x1 y1 z1 c C.b C.b C.b (twi exo (v 0) (m (v 4) (v 1), m (v 4) (v 2), m (v 4) (v 3))).2.1 (m (m (m (v 4) (v 4)) (m (v 4) (v 4))) (twi exo (v 0) (v 1, v 2, v 3)).2.1) (by decide +kernel)
 ·exact ring_f C.R C.b x1 y1 z1 c C.b C.b C.b (twi exo (v 0) (m (v 4) (v 1), m (v 4) (v 2), m (v 4) (v 3))).2.2 (m (m (m (v 4) (v 4)) (m (v 4) (v 4))) (twi exo (v 0) (v 1, v 2, v 3)).2.2) (by decide +kernel)
open Ex in
theorem Crv.twi_tog {x y : α} (h : C.on (some (x, y))) : twi (rops C.R) C.b (x, y, C.R.one) = C.tog (x, y, C.R.one) (x, y, C.R.one) := by
 have h' : C.R.mul y y = side C.R C.b x := h
 refine Prod.ext ?_ (Prod.ext ?_ ?_)
 ·exact ring_c C.R C.b x x y y h' h' (twi exo (v 0) (v 1, v 3, o)).1 (EC.tog exo (v 0) (v 1, v 3, o) (v 1, v 3, o)).1 (by decide +kernel)
 ·exact ring_c C.R C.b x x y y h' h' (twi exo (v 0) (v 1, v 3, o)).2.1 (EC.tog exo (v 0) (v 1, v 3, o) (v 1, v 3, o)).2.1 (by decide +kernel)
 ·exact ring_c C.R C.b x x y y h' h' (twi exo (v 0) (v 1, v 3, o)).2.2 (EC.tog exo (v 0) (v 1, v 3, o) (v 1, v 3, o)).2.2 (by decide +kernel)
theorem Crv.sc_sc (c d : α) (T : Tri α) : C.sc c (C.sc d T) = C.sc (C.R.mul c d) T := by
 show (C.R.mul c (C.R.mul d _), C.R.mul c (C.R.mul d _), C.R.mul c (C.R.mul d _)) = (C.R.mul (C.R.mul c d) _, C.R.mul (C.R.mul c d) _, C.R.mul (C.R.mul c d) _)
 rw [C.R.mul_assoc, C.R.mul_assoc, C.R.mul_assoc]
theorem Crv.sc_one (T : Tri α) : C.sc C.R.one T = T := by
 show (C.R.mul _ T.1, C.R.mul _ T.2.1, C.R.mul _ T.2.2) = T
 rw [C.R.one_mul, C.R.one_mul, C.R.one_mul]
/-- The three numbers are the point's. -/
def Crv.rep (T : Tri α) (P : Option (α × α)) : Prop := ∃ c, c ≠ C.R.zero ∧ T = C.sc c (C.lift P)
theorem Crv.rep_lift (P : Option (α × α)) : C.rep (C.lift P) P := ⟨C.R.one, C.h1, (C.sc_one _).symm⟩
theorem Crv.rep_sc {T : Tri α} {P : Option (α × α)} {c : α} (hc : c ≠ C.R.zero) (h : C.rep T P) : C.rep (C.sc c T) P := by
 obtain ⟨d, hd, e⟩ := h
 exact ⟨C.R.mul c d, C.ne hc hd, by rw [e, C.sc_sc]⟩
end
section
variable {α : Type} [DecidableEq α] (C : Crv α)
theorem Crv.rep_lower {T : Tri α} {P : Option (α × α)} (h : C.rep T P) : C.lower T = P := by
 obtain ⟨c, hc, e⟩ := h
 rw [e, C.lower_sc hc, C.lower_lift]
theorem Crv.rep_of {T : Tri α} (h : C.good T) : C.rep T (C.lower T) := by
 obtain ⟨c, hc, e⟩ := C.lift_lower h
 refine ⟨C.inv c, C.inv_ne hc, ?_⟩
 rw [e, C.sc_sc, C.hinv c hc, C.sc_one]
theorem Crv.rep_tog {A B : Tri α} {P Q : Option (α × α)} (hA : C.rep A P) (hB : C.rep B Q) (hP : C.on P) (hQ : C.on Q) : C.rep (C.tog A B) (C.add P Q) := by
 obtain ⟨c, hc, rfl⟩ := hA
 obtain ⟨d, hd, rfl⟩ := hB
 rw [C.tog_sc, C.tog_sc', C.sc_sc]
 exact C.rep_sc (C.ne (C.ne hc hc) (C.ne hd hd)) (C.rep_of (C.good_tog hP hQ))
/-- twice: itself, where the third number is 0. -/
def Crv.twice (A : Tri α) : Tri α := if A.2.2 = C.R.zero then A else twi (rops C.R) C.b A
theorem Crv.rep_twice {A : Tri α} {P : Option (α × α)} (hA : C.rep A P) (hP : C.on P) : C.rep (C.twice A) (C.add P P) := by
 obtain ⟨c, hc, rfl⟩ := hA
 rcases P with _ | ⟨x, y⟩
 ·unfold Crv.twice
  rw [if_pos (show (C.sc c (C.lift none)).2.2 = C.R.zero from C.R.mul_zero c), C.zero_add (Q := none) trivial]
  exact ⟨c, hc, rfl⟩
 ·unfold Crv.twice
  rw [if_neg (show (C.sc c (C.lift (some (x, y)))).2.2 ≠ C.R.zero from C.ne hc C.h1), C.twi_sc]
  refine C.rep_sc (C.ne (C.ne hc hc) (C.ne hc hc)) ?_
  show C.rep (twi (rops C.R) C.b (x, y, C.R.one)) _
  rw [C.twi_tog hP]
  exact C.rep_of (C.good_tog hP hP)
def Crv.times (P : Option (α × α)) : Nat → Option (α × α)
 | 0 => none
 | n + 1 => C.add (Crv.times P n) P
theorem Crv.times_on {P : Option (α × α)} (h : C.on P) : ∀ n, C.on (C.times P n)
 | 0 => trivial
 | n + 1 => C.add_on (Crv.times_on h n) h
theorem Crv.times_add {P : Option (α × α)} (h : C.on P) (m : Nat) : ∀ n, C.times P (m + n) = C.add (C.times P m) (C.times P n)
 | 0 => (C.add_zero (C.times_on h m)).symm
 | n + 1 => by
  show C.add (C.times P (m + n)) P = C.add (C.times P m) (C.add (C.times P n) P)
  rw [Crv.times_add h m n, C.assoc (C.times_on h m) (C.times_on h n) h]
theorem Crv.times_one {P : Option (α × α)} (h : C.on P) : C.times P 1 = P := C.zero_add h
theorem Crv.times_mul {P : Option (α × α)} (h : C.on P) (m : Nat) : ∀ n, C.times P (m * n) = C.times (C.times P m) n
 | 0 => rfl
 | n + 1 => by
  rw [Nat.mul_succ, C.times_add h, Crv.times_mul h m n]
  rfl
theorem Crv.times_sum {P Q : Option (α × α)} (hP : C.on P) (hQ : C.on Q) : ∀ n, C.times (C.add P Q) n = C.add (C.times P n) (C.times Q n)
 | 0 => (C.zero_add (Q := none) trivial).symm
 | n + 1 => by
  show C.add (C.times (C.add P Q) n) (C.add P Q) = C.add (C.add (C.times P n) P) (C.add (C.times Q n) Q)
  have h1 := C.times_on hP n
  have h2 := C.times_on hQ n
  rw [Crv.times_sum hP hQ n, C.assoc h1 h2 (C.add_on hP hQ), C.assoc h1 hP (C.add_on h2 hQ), ← C.assoc h2 hP hQ, ← C.assoc hP h2 hQ, C.comm P (C.times Q n)]
end
end EC
end Go.Proofs.YtmanelnacifgcaaGreatDoor
end
section
namespace Go.Proofs.YtmanelnacifgcaaGreatDoor
open Go.RowKit
namespace Rg
theorem zM {P : Program} {c : Code} {Q : Exit → Act → World → Prop} {n : Nat} {a : Act} {w : World} (h : c.wp P (Exit.then (Code.rounds P c Q n) Q) a w) : Code.rounds P c Q (n + 1) a w := h
theorem Mm.pick {w : World} {l : List (Nat × List Value)} (h : Mm w l) (js : List Nat) {l' : List (Nat × List Value)} (e : js.map (fun i => l[i]?) = l'.map some) (hn : js.Pairwise (· ≠ ·)) : Mm w l' := by
 have hpw := List.pairwise_iff_getElem.1 h.nd
 have hlen : js.length = l'.length := by
  have := congrArg List.length e
  simpa using this
 have at_ : ∀ (k : Nat) (hk : k < l'.length), l[js[k]'(by omega)]? = some l'[k] := fun k hk => by
  have h2 : (js.map (fun i => l[i]?))[k]? = (l'.map some)[k]? := by rw [e]
  rw [List.getElem?_map, List.getElem?_map, List.getElem?_eq_getElem (show k < js.length by omega), List.getElem?_eq_getElem hk] at h2
  simpa using h2
 refine ⟨fun p hp => ?_, List.pairwise_iff_getElem.2 fun i j hi hj hij => ?_⟩
 ·obtain ⟨k, hk, ek⟩ := List.getElem_of_mem hp
  have := at_ k hk
  rw [ek] at this
  exact h.blk p (List.mem_of_getElem? this)
 ·have h1 := at_ i hi
  have h2 := at_ j hj
  have hne : js[i]'(by omega) ≠ js[j]'(by omega) := (List.pairwise_iff_getElem.1 hn) i j (by omega) (by omega) hij
  obtain ⟨q1, e1⟩ := List.getElem?_eq_some_iff.1 h1
  obtain ⟨q2, e2⟩ := List.getElem?_eq_some_iff.1 h2
  rw [← e1, ← e2]
  rcases Nat.lt_or_gt_of_ne hne with hl | hl
  ·exact hpw _ _ q1 q2 hl
  ·exact (hpw _ _ q2 q1 hl).symm
theorem ex_shl4 {ρ : Operand → Value} {o : Oper} {x y : Operand} {a : Int} {w : World} (ho : o.op = .binOp .shl 22 x y 150) (hx : ρ x = .int .u64 a) (hy : ρ y = .int .u64 4) :
  (execOp ρ o).run Tryz.prog w = .ok (.value (.int .u64 (IntKind.u64.wrap (a * 2 ^ 4)))) w := by
 simp only [execOp, ho, hx, hy]
 clear ho hx hy
 go_simp
theorem ex_shr60 {ρ : Operand → Value} {o : Oper} {x y : Operand} {a : Int} {w : World} (ho : o.op = .binOp .shr 22 x y 150) (hx : ρ x = .int .u64 a) (hy : ρ y = .int .u64 60) :
  (execOp ρ o).run Tryz.prog w = .ok (.value (.int .u64 (a / 2 ^ 60))) w := by
 simp only [execOp, ho, hx, hy]
 clear ho hx hy
 go_simp
theorem ex_mkPN {ρ : Operand → Value} {o : Oper} {x y : Operand} {w : World} (ho : o.op = .makeSlice 102 x y) (hx : ρ x = .int .i64 1) (hy : ρ y = .int .i64 1) :
  (execOp ρ o).run Tryz.prog w = .ok (.value (.slice (some ⟨w.heap.size, 0, none⟩) 1 1)) (w.alloc (.cells (yC 0 0 false : List Value).toArray 85)) := by
 simp only [execOp, ho, hx, hy]
 kernel_rfl
theorem ex_mkPE {ρ : Operand → Value} {o : Oper} {x y : Operand} {w : World} (ho : o.op = .makeSlice 114 x y) (hx : ρ x = .int .i64 1) (hy : ρ y = .int .i64 1) :
  (execOp ρ o).run Tryz.prog w = .ok (.value (.slice (some ⟨w.heap.size, 0, none⟩) 1 1)) (w.alloc (.cells (pc2 0 0 0 0 false : List Value).toArray 96)) := by
 simp only [execOp, ho, hx, hy]
 kernel_rfl
theorem ex_mkTN {ρ : Operand → Value} {o : Oper} {x y : Operand} {w : World} (ho : o.op = .makeSlice 160 x y) (hx : ρ x = .int .i64 1) (hy : ρ y = .int .i64 1) :
  (execOp ρ o).run Tryz.prog w = .ok (.value (.slice (some ⟨w.heap.size, 0, none⟩) 1 1)) (w.alloc (.cells (cel [0, 0, 0, 0, 0, 0, 0, 0, 0, 0, 0, 0, 0, 0, 0, 0, 0, 0, 0, 0, 0, 0, 0, 0, 0, 0, 0, 0, 0, 0, 0, 0, 0, 0, 0, 0, 0, 0, 0, 0, 0, 0, 0, 0, 0, 0, 0, 0] : List Value).toArray 162)) := by
 simp only [execOp, ho, hx, hy]
 kernel_rfl
theorem ex_mkTE {ρ : Operand → Value} {o : Oper} {x y : Operand} {w : World} (ho : o.op = .makeSlice 169 x y) (hx : ρ x = .int .i64 1) (hy : ρ y = .int .i64 1) :
  (execOp ρ o).run Tryz.prog w = .ok (.value (.slice (some ⟨w.heap.size, 0, none⟩) 1 1)) (w.alloc (.cells (cel [0, 0, 0, 0, 0, 0, 0, 0, 0, 0, 0, 0, 0, 0, 0, 0, 0, 0, 0, 0, 0, 0, 0, 0, 0, 0, 0, 0, 0, 0, 0, 0, 0, 0, 0, 0, 0, 0, 0, 0, 0, 0, 0, 0, 0, 0, 0, 0, 0, 0, 0, 0, 0, 0, 0, 0, 0, 0, 0, 0, 0, 0, 0, 0, 0, 0, 0, 0, 0, 0, 0, 0, 0, 0, 0, 0, 0, 0, 0, 0, 0, 0, 0, 0, 0, 0, 0, 0, 0, 0, 0, 0, 0, 0, 0, 0] : List Value).toArray 171)) := by
 simp only [execOp, ho, hx, hy]
 kernel_rfl
theorem ex_mkU {ρ : Operand → Value} {o : Oper} {x y : Operand} {w : World} (ho : o.op = .makeSlice 164 x y) (hx : ρ x = .int .i64 1) (hy : ρ y = .int .i64 1) :
  (execOp ρ o).run Tryz.prog w = .ok (.value (.slice (some ⟨w.heap.size, 0, none⟩) 1 1)) (w.alloc (.cells ([Value.int .u64 0] : List Value).toArray 22)) := by
 simp only [execOp, ho, hx, hy]
 kernel_rfl
theorem ex_slice102 {ρ : Operand → Value} {o : Oper} {x y z : Operand} {g : Nat} {w : World} (ho : o.op = .slice 102 x (some y) (some z) none) (hx : ρ x = .slice (some ⟨g, 0, none⟩) 1 1) (hy : ρ y = .int .i64 0) (hz : ρ z = .int .i64 1) :
  (execOp ρ o).run Tryz.prog w = .ok (.value (.slice (some ⟨g, 0, none⟩) 1 1)) w := by
 simp only [execOp, ho, hx, hy, hz, Option.map_some, Option.map_none]
 go_simp
theorem ex_slice114 {ρ : Operand → Value} {o : Oper} {x y z : Operand} {g : Nat} {w : World} (ho : o.op = .slice 114 x (some y) (some z) none) (hx : ρ x = .slice (some ⟨g, 0, none⟩) 1 1) (hy : ρ y = .int .i64 0) (hz : ρ z = .int .i64 1) :
  (execOp ρ o).run Tryz.prog w = .ok (.value (.slice (some ⟨g, 0, none⟩) 1 1)) w := by
 simp only [execOp, ho, hx, hy, hz, Option.map_some, Option.map_none]
 go_simp
theorem ex_slice65 {ρ : Operand → Value} {o : Oper} {x y z : Operand} {g : Nat} {w : World} (ho : o.op = .slice 65 x (some y) (some z) none) (hx : ρ x = .slice (some ⟨g, 0, none⟩) 1 1) (hy : ρ y = .int .i64 0) (hz : ρ z = .int .i64 1) :
  (execOp ρ o).run Tryz.prog w = .ok (.value (.slice (some ⟨g, 0, none⟩) 1 1)) w := by
 simp only [execOp, ho, hx, hy, hz, Option.map_some, Option.map_none]
 go_simp
theorem ex_madeTB1 {ρ : Operand → Value} {o : Oper} {w : World} (ho : o.op = .alloc 162) :
  (execOp ρ o).run Tryz.prog w = .ok (.value (.pointer (some ⟨w.heap.size, 0, none⟩))) (w.alloc (.cells (cel [0, 0, 0, 0, 0, 0, 0, 0, 0, 0, 0, 0, 0, 0, 0, 0, 0, 0, 0, 0, 0, 0, 0, 0, 0, 0, 0, 0, 0, 0, 0, 0, 0, 0, 0, 0, 0, 0, 0, 0, 0, 0, 0, 0, 0, 0, 0, 0]).toArray 162)) := by
 simp only [execOp, ho]
 kernel_rfl
theorem ex_buildTB1 {ρ : Operand → Value} {o : Oper} {x0 x1 : Operand} {a0 a1 a2 b0 b1 b2 : Nat} {w : World} (ho : o.op = .build 162 #[(0, x0), (1, x1)]) (h0 : ρ x0 = V [a0, a1, a2]) (h1 : ρ x1 = V [b0, b1, b2]) : (execOp ρ o).run Tryz.prog w = .ok (.value (V [a0, a1, a2, b0, b1, b2, 0, 0, 0, 0, 0, 0, 0, 0, 0, 0, 0, 0, 0, 0, 0, 0, 0, 0, 0, 0, 0, 0, 0, 0, 0, 0, 0, 0, 0, 0, 0, 0, 0, 0, 0, 0, 0, 0, 0, 0, 0, 0])) w := by
 simp only [execOp, ho, List.map_toArray, List.map_cons, List.map_nil, h0, h1]
 clear ho h0 h1
 kernel_rfl
theorem ex_idxTB1 {ρ : Operand → Value} {o : Oper} {x y : Operand} {g j : Nat} {w : World} (ho : o.op = .indexAddr 162 x y) (hx : ρ x = PT g 0) (hy : ρ y = .int .u64 ((j : Nat) : Int)) (hj : j < 16) :
  (execOp ρ o).run Tryz.prog w = .ok (.value (PT g (6 * (3 * j)))) w := by
 have h1 : (j : Int) < 16 := by omega
 have e : j * 18 = 6 * (3 * j) := by omega
 simp only [execOp, ho, hx, hy]
 clear ho hx hy
 go_simp
/-- A table's numbers. -/
def tb1 (f : Nat → Nat) : List Nat := [f 0, f 1, f 2, f 3, f 4, f 5, f 6, f 7, f 8, f 9, f 10, f 11, f 12, f 13, f 14, f 15, f 16, f 17, f 18, f 19, f 20, f 21, f 22, f 23, f 24, f 25, f 26, f 27, f 28, f 29, f 30, f 31, f 32, f 33, f 34, f 35, f 36, f 37, f 38, f 39, f 40, f 41, f 42, f 43, f 44, f 45, f 46, f 47]
abbrev tbz1 (m : Nat) (f : Nat → Nat) : List Nat := (tb1 f).take m ++ List.replicate (48 - m) 0
theorem tb1_ld (f : Nat → Nat) {j : Nat} (hj : j < 16) : ((tb1 f).drop (3 * j)).take 3 = [f (3 * j), f (3 * j + 1), f (3 * j + 2)] := by
 match j, hj with
 | 0, _ => rfl
 | 1, _ => rfl
 | 2, _ => rfl
 | 3, _ => rfl
 | 4, _ => rfl
 | 5, _ => rfl
 | 6, _ => rfl
 | 7, _ => rfl
 | 8, _ => rfl
 | 9, _ => rfl
 | 10, _ => rfl
 | 11, _ => rfl
 | 12, _ => rfl
 | 13, _ => rfl
 | 14, _ => rfl
 | 15, _ => rfl
 | _ + 16, h => exact absurd h (by omega)
theorem ex_madeTB2 {ρ : Operand → Value} {o : Oper} {w : World} (ho : o.op = .alloc 171) :
  (execOp ρ o).run Tryz.prog w = .ok (.value (.pointer (some ⟨w.heap.size, 0, none⟩))) (w.alloc (.cells (cel [0, 0, 0, 0, 0, 0, 0, 0, 0, 0, 0, 0, 0, 0, 0, 0, 0, 0, 0, 0, 0, 0, 0, 0, 0, 0, 0, 0, 0, 0, 0, 0, 0, 0, 0, 0, 0, 0, 0, 0, 0, 0, 0, 0, 0, 0, 0, 0, 0, 0, 0, 0, 0, 0, 0, 0, 0, 0, 0, 0, 0, 0, 0, 0, 0, 0, 0, 0, 0, 0, 0, 0, 0, 0, 0, 0, 0, 0, 0, 0, 0, 0, 0, 0, 0, 0, 0, 0, 0, 0, 0, 0, 0, 0, 0, 0]).toArray 171)) := by
 simp only [execOp, ho]
 kernel_rfl
theorem ex_buildTB2 {ρ : Operand → Value} {o : Oper} {x0 x1 : Operand} {a0 a1 a2 a3 a4 a5 b0 b1 b2 b3 b4 b5 : Nat} {w : World} (ho : o.op = .build 171 #[(0, x0), (1, x1)]) (h0 : ρ x0 = V [a0, a1, a2, a3, a4, a5]) (h1 : ρ x1 = V [b0, b1, b2, b3, b4, b5]) : (execOp ρ o).run Tryz.prog w = .ok (.value (V [a0, a1, a2, a3, a4, a5, b0, b1, b2, b3, b4, b5, 0, 0, 0, 0, 0, 0, 0, 0, 0, 0, 0, 0, 0, 0, 0, 0, 0, 0, 0, 0, 0, 0, 0, 0, 0, 0, 0, 0, 0, 0, 0, 0, 0, 0, 0, 0, 0, 0, 0, 0, 0, 0, 0, 0, 0, 0, 0, 0, 0, 0, 0, 0, 0, 0, 0, 0, 0, 0, 0, 0, 0, 0, 0, 0, 0, 0, 0, 0, 0, 0, 0, 0, 0, 0, 0, 0, 0, 0, 0, 0, 0, 0, 0, 0])) w := by
 simp only [execOp, ho, List.map_toArray, List.map_cons, List.map_nil, h0, h1]
 clear ho h0 h1
 kernel_rfl
theorem ex_idxTB2 {ρ : Operand → Value} {o : Oper} {x y : Operand} {g j : Nat} {w : World} (ho : o.op = .indexAddr 171 x y) (hx : ρ x = PT g 0) (hy : ρ y = .int .u64 ((j : Nat) : Int)) (hj : j < 16) :
  (execOp ρ o).run Tryz.prog w = .ok (.value (PT g (6 * (6 * j)))) w := by
 have h1 : (j : Int) < 16 := by omega
 have e : j * 36 = 6 * (6 * j) := by omega
 simp only [execOp, ho, hx, hy]
 clear ho hx hy
 go_simp
/-- A table's numbers. -/
def tb2 (f : Nat → Nat) : List Nat := [f 0, f 1, f 2, f 3, f 4, f 5, f 6, f 7, f 8, f 9, f 10, f 11, f 12, f 13, f 14, f 15, f 16, f 17, f 18, f 19, f 20, f 21, f 22, f 23, f 24, f 25, f 26, f 27, f 28, f 29, f 30, f 31, f 32, f 33, f 34, f 35, f 36, f 37, f 38, f 39, f 40, f 41, f 42, f 43, f 44, f 45, f 46, f 47, f 48, f 49, f 50, f 51, f 52, f 53, f 54, f 55, f 56, f 57, f 58, f 59, f 60, f 61, f 62, f 63, f 64, f 65, f 66, f 67, f 68, f 69, f 70, f 71, f 72, f 73, f 74, f 75, f 76, f 77, f 78, f 79, f 80, f 81, f 82, f 83, f 84, f 85, f 86, f 87, f 88, f 89, f 90, f 91, f 92, f 93, f 94, f 95]
abbrev tbz2 (m : Nat) (f : Nat → Nat) : List Nat := (tb2 f).take m ++ List.replicate (96 - m) 0
theorem tb2_ld (f : Nat → Nat) {j : Nat} (hj : j < 16) : ((tb2 f).drop (6 * j)).take 6 = [f (6 * j), f (6 * j + 1), f (6 * j + 2), f (6 * j + 3), f (6 * j + 4), f (6 * j + 5)] := by
 match j, hj with
 | 0, _ => rfl
 | 1, _ => rfl
 | 2, _ => rfl
 | 3, _ => rfl
 | 4, _ => rfl
 | 5, _ => rfl
 | 6, _ => rfl
 | 7, _ => rfl
 | 8, _ => rfl
 | 9, _ => rfl
 | 10, _ => rfl
 | 11, _ => rfl
 | 12, _ => rfl
 | 13, _ => rfl
 | 14, _ => rfl
 | 15, _ => rfl
 | _ + 16, h => exact absurd h (by omega)
theorem ex_bs53 {ρ : Operand → Value} {o : Oper} {x : Operand} {a b : Nat} {z : Bool} {w : World} (ho : o.op = .buildSlice 53 1 #[(0, x)]) (hx : ρ x = .agg (cel [a, b] ++ [Value.bool z]).toArray) :
  (execOp ρ o).run Tryz.prog w = .ok (.value (.slice (some ⟨w.heap.size, 0, none⟩) 1 1)) (w.alloc (.cells (cel [a, b] ++ [Value.bool z] : List Value).toArray 27)) := by
 simp only [execOp, ho, List.map_toArray, List.map_cons, List.map_nil, hx]
 kernel_rfl
theorem ex_bs68 {ρ : Operand → Value} {o : Oper} {x : Operand} {a b c d : Nat} {z : Bool} {w : World} (ho : o.op = .buildSlice 68 1 #[(0, x)]) (hx : ρ x = .agg (cel [a, b, c, d] ++ [Value.bool z]).toArray) :
  (execOp ρ o).run Tryz.prog w = .ok (.value (.slice (some ⟨w.heap.size, 0, none⟩) 1 1)) (w.alloc (.cells (cel [a, b, c, d] ++ [Value.bool z] : List Value).toArray 35)) := by
 simp only [execOp, ho, List.map_toArray, List.map_cons, List.map_nil, hx]
 kernel_rfl
theorem ex_bs65 {ρ : Operand → Value} {o : Oper} {x : Operand} {a : Nat} {w : World} (ho : o.op = .buildSlice 65 1 #[(0, x)]) (hx : ρ x = N a) :
  (execOp ρ o).run Tryz.prog w = .ok (.value (.slice (some ⟨w.heap.size, 0, none⟩) 1 1)) (w.alloc (.cells (zD a : List Value).toArray 24)) := by
 simp only [execOp, ho, List.map_toArray, List.map_cons, List.map_nil, hx]
 kernel_rfl
set_option maxHeartbeats 4000000 in
theorem orders_g (n rr q ma0 ma1 mh0 mh1 mh2 mh3 mx0 mx1 my0 my1 my2 my3 : Nat) (maz mhz zz : Bool) (c0 : ∀ w, Mm w [(2, dtab)] → Calls Tryz.prog 7 #[] w (Rt w (.bool true))) (c1 : ∀ w, Calls Tryz.prog 9 #[] w (Rt w (.agg (yC ma0 ma1 maz).toArray))) (c2 : ∀ w, Mm w [(2, dtab)] → Calls Tryz.prog 8 #[.agg (yC ma0 ma1 maz).toArray, N n] w (Rt w (.tuple #[.agg (yC mx0 mx1 zz).toArray, .int .i64 0]))) (c3 : ∀ w, Calls Tryz.prog 11 #[] w (Rt w (.agg (pc2 mh0 mh1 mh2 mh3 mhz).toArray))) (c4 : ∀ w, Mm w [(2, dtab)] → Calls Tryz.prog 10 #[.agg (pc2 mh0 mh1 mh2 mh3 mhz).toArray, N n] w (Rt w (.tuple #[.agg (pc2 my0 my1 my2 my3 zz).toArray, .int .i64 0]))) (c5 : ∀ w, Calls Tryz.prog 13 #[] w (Rt w (N rr))) (c6 : ∀ w, Mm w [(2, dtab)] → Calls Tryz.prog 8 #[.agg (yC ma0 ma1 maz).toArray, N q] w (Rt w (.tuple #[.agg (yC mx0 mx1 zz).toArray, .int .i64 0]))) (c7 : ∀ w, Mm w [(2, dtab)] → Calls Tryz.prog 10 #[.agg (pc2 mh0 mh1 mh2 mh3 mhz).toArray, N q] w (Rt w (.tuple #[.agg (pc2 my0 my1 my2 my3 zz).toArray, .int .i64 0]))) (c8 : ∀ w, Mm w [(2, dtab)] → Calls Tryz.prog 15 #[.agg (yC mx0 mx1 zz).toArray] w (Rt w (.bool true))) (c9 : ∀ w, Mm w [(2, dtab)] → Calls Tryz.prog 16 #[.agg (pc2 my0 my1 my2 my3 zz).toArray] w (Rt w (.bool true))) (cn : ∀ w, Calls Tryz.prog 12 #[N rr] w fun e w' => Below w.heap.size w w' ∧ ∃ g, e = .returned (.tuple #[PT g 0, .int .i64 0]) ∧ w.heap.size ≤ g ∧ g < w'.heap.size ∧ Blk w' g (zV rr)) (cr : ∀ g w, Mm w [(g, zV rr)] → Calls Tryz.prog 14 #[PT g 0, N n] w (Rt w (N q))) (e0 : ∀ w, (Op.equalIn 10000 27 (.agg (yC mx0 mx1 zz).toArray) (.agg (yC mx0 mx1 zz).toArray)).run Tryz.prog w = .ok true w) (e1 : ∀ w, (Op.equalIn 10000 35 (.agg (pc2 my0 my1 my2 my3 zz).toArray) (.agg (pc2 my0 my1 my2 my3 zz).toArray)).run Tryz.prog w = .ok true w) (e2 : ∀ w, (Op.equalIn 10000 24 (N q) (N 0)).run Tryz.prog w = .ok zz w) (w : World) (hm : Mm w [(2, dtab)]) :
  Calls Tryz.prog 3 #[N n] w (Rt w (.bool true)) := by
 have H0 : Hid (_ ∧ _) := ⟨hm, Below.refl w.heap.size w⟩
 clear hm
 have C0 : Hid _ := c0
 clear c0
 have C1 : Hid _ := c1
 clear c1
 have C2 : Hid _ := c2
 clear c2
 have C3 : Hid _ := c3
 clear c3
 have C4 : Hid _ := c4
 clear c4
 have C5 : Hid _ := c5
 clear c5
 have C6 : Hid _ := c6
 clear c6
 have C7 : Hid _ := c7
 clear c7
 have C8 : Hid _ := c8
 clear c8
 have C9 : Hid _ := c9
 clear c9
 have CN : Hid _ := cn
 clear cn
 have CR : Hid _ := cr
 clear cr
 have E0 : Hid _ := e0
 clear e0
 have E1 : Hid _ := e1
 clear e1
 have E2 : Hid _ := e2
 clear e2
 go_enter Tryz.func3, Tryz.ntmps3
 refine wp_seq ?_
 refine zB 2 [.made (zD n) 24, .q (.bool false)] (sB H0) ?ho1 ?he1
 case ho1 => exact am (yE rfl rfl) (ar trivial)
 intro J w1 l hM hl
 have H1 : Hid (Mm w1 ([(J 0, zD n)] ++ _) ∧ _) := wB H0 hM hl [0]
 have o1_0 := vB H0 hM hl 0
 clear hM hl l
 generalize J 0 = J1_0 at H1 o1_0 ⊢
 clear J
 refine rN (wp_seq ?_)
 refine zC 2 [.call (.bool true), .q (.bool true)] H1 ?ho2 ?he2
 case ho2 => exact ac (fun w' h => eC call7 (C0.out w' (h.one 1 rfl))) (ar trivial)
 intro _ w2 H2
 clear H1
 refine rN (wp_seq ?_)
 refine zQ 9 [.call (.agg (yC ma0 ma1 maz).toArray), .q (N n), .call (.tuple #[.agg (yC mx0 mx1 zz).toArray, .int .i64 0]), .q (.tuple #[.agg (yC mx0 mx1 zz).toArray, .int .i64 0]), .q (.agg (yC mx0 mx1 zz).toArray), .q (.int .i64 0), .made (yC 0 0 false) 27, .laid 6 (yC 0 0 false) (yC mx0 mx1 zz), .q (.int .i64 0)] (sB H2) ?ho3 ?he3 (hL := ?hL3)
 case hL3 => exact ⟨⟨_, rfl⟩, trivial⟩
 case ho3 => exact ac (fun w' h => eC call9 (C1.out w')) (bN 0 (ac (fun w' h => eC call8 (C2.out w' (h.one 1 rfl))) (ar (ag (ag (am (ex_madeP1 rfl) (ak (fun J => ⟨rfl, rfl, rfl, fun w' h => ex_laidT h rfl rfl As27 rfl rfl rfl⟩) (ar trivial))))))))
 intro J w3 l hM hl
 have H3 : Hid (Mm w3 ([(J 6, yC mx0 mx1 zz)] ++ _) ∧ _) := wB H2 hM hl [6]
 have o3_6 := vB H2 hM hl 6
 clear hM hl l H2
 generalize J 6 = J3_6 at H3 o3_6 ⊢
 clear J
 refine rN (wp_seq ?_)
 refine zQ 9 [.call (.agg (pc2 mh0 mh1 mh2 mh3 mhz).toArray), .q (N n), .call (.tuple #[.agg (pc2 my0 my1 my2 my3 zz).toArray, .int .i64 0]), .q (.tuple #[.agg (pc2 my0 my1 my2 my3 zz).toArray, .int .i64 0]), .q (.agg (pc2 my0 my1 my2 my3 zz).toArray), .q (.int .i64 0), .made (pc2 0 0 0 0 false) 35, .laid 6 (pc2 0 0 0 0 false) (pc2 my0 my1 my2 my3 zz), .q (.int .i64 0)] (sB H3) ?ho4 ?he4 (hL := ?hL4)
 case hL4 => exact ⟨⟨_, rfl⟩, trivial⟩
 case ho4 => exact ac (fun w' h => eC call11 (C3.out w')) (bN 1 (ac (fun w' h => eC call10 (C4.out w' (h.one 2 rfl))) (ar (ag (ag (am (ex_madeP2 rfl) (ak (fun J => ⟨rfl, rfl, rfl, fun w' h => ex_laidT h rfl rfl As35 rfl rfl rfl⟩) (ar trivial))))))))
 intro J w4 l hM hl
 have H4 : Hid (Mm w4 ([(J 6, pc2 my0 my1 my2 my3 zz)] ++ _) ∧ _) := wB H3 hM hl [6]
 have o4_6 := vB H3 hM hl 6
 clear hM hl l H3
 generalize J 6 = J4_6 at H4 o4_6 ⊢
 clear J
 refine rN (wp_seq ?_)
 refine zB 2 [.call (N rr), .born (fun g => .tuple #[PT g 0, .int .i64 0]) (zV rr)] (sB H4) ?ho5 ?he5
 case ho5 => exact ak (fun J => ⟨rfl, fun w' h => eC call13 (C5.out w')⟩) (ak (fun J => ⟨rfl, fun w' h => eC call12 (CN.out w')⟩) trivial)
 intro J w5 l hM hl
 have H5 : Hid (Mm w5 ([(J 1, zV rr)] ++ _) ∧ _) := wB H4 hM hl [1]
 have o5_1 := vB H4 hM hl 1
 clear hM hl l H4
 generalize J 1 = J5_1 at H5 o5_1 ⊢
 clear J
 refine zF (l := [2, 3, 4, 5, 6]) rfl ?_
 refine zG (d := 28) rfl rfl rfl rfl ?_
 simp only [Act.put, sa, sz, ss]
 refine zG (d := 31) (v := PT J5_1 0) (w' := w5) rfl rfl rfl (by go_simp) ?_
 simp only [Act.put, sa, sz, ss]
 refine zG (d := 32) (v := .int .i64 0) (w' := w5) rfl rfl rfl (by go_simp) ?_
 simp only [Act.put, sa, sz, ss]
 refine zG (d := 8) rfl rfl rfl rfl ?_
 simp only [Act.put, sa, sz, ss]
 refine zG (d := 9) rfl rfl rfl rfl ?_
 simp only [Act.put, sa, sz, ss]
 refine zE (zA ?_)
 refine wp_seq (wp_seq ?_)
 refine zC 6 [.q (PT J5_1 0), .q (.bool false), .q (.bool false), .q (.int .i64 0), .q (.bool false), .q (.bool false)] H5 ?ho6 ?he6
 case ho6 => exact ar (ag (ar (ar (ag (ag trivial)))))
 intro _ w6 H6
 clear H5
 refine rN (wp_cond_false rfl ?_)
 refine wp_skip (zA (wp_seq ?_))
 refine zQ 11 [.call (.agg (yC ma0 ma1 maz).toArray), .q (PT J5_1 0), .q (N n), .call (N q), .call (.tuple #[.agg (yC mx0 mx1 zz).toArray, .int .i64 0]), .q (.tuple #[.agg (yC mx0 mx1 zz).toArray, .int .i64 0]), .q (.agg (yC mx0 mx1 zz).toArray), .q (.int .i64 0), .made (yC 0 0 false) 27, .laid 8 (yC 0 0 false) (yC mx0 mx1 zz), .q (.int .i64 0)] (sB H6) ?ho7 ?he7 (hL := ?hL7)
 case hL7 => exact ⟨⟨_, rfl⟩, trivial⟩
 case ho7 => exact ac (fun w' h => eC call9 (C1.out w')) (ar (bN 3 (ac (fun w' h => eC call14 (CR.out J5_1 w' (h.one 0 rfl))) (ac (fun w' h => eC call8 (C6.out w' (h.one 4 rfl))) (ar (ag (ag (am (ex_madeP1 rfl) (ak (fun J => ⟨rfl, rfl, rfl, fun w' h => ex_laidT h rfl rfl As27 rfl rfl rfl⟩) (ar trivial))))))))))
 intro J w7 l hM hl
 have H7 : Hid (Mm w7 ([(J 8, yC mx0 mx1 zz)] ++ _) ∧ _) := wB H6 hM hl [8]
 have o7_8 := vB H6 hM hl 8
 clear hM hl l H6
 generalize J 8 = J7_8 at H7 o7_8 ⊢
 clear J
 refine rN (wp_seq ?_)
 refine zQ 11 [.call (.agg (pc2 mh0 mh1 mh2 mh3 mhz).toArray), .q (PT J5_1 0), .q (N n), .call (N q), .call (.tuple #[.agg (pc2 my0 my1 my2 my3 zz).toArray, .int .i64 0]), .q (.tuple #[.agg (pc2 my0 my1 my2 my3 zz).toArray, .int .i64 0]), .q (.agg (pc2 my0 my1 my2 my3 zz).toArray), .q (.int .i64 0), .made (pc2 0 0 0 0 false) 35, .laid 8 (pc2 0 0 0 0 false) (pc2 my0 my1 my2 my3 zz), .q (.int .i64 0)] (sB H7) ?ho8 ?he8 (hL := ?hL8)
 case hL8 => exact ⟨⟨_, rfl⟩, trivial⟩
 case ho8 => exact ac (fun w' h => eC call11 (C3.out w')) (ar (bN 4 (ac (fun w' h => eC call14 (CR.out J5_1 w' (h.one 1 rfl))) (ac (fun w' h => eC call10 (C7.out w' (h.one 5 rfl))) (ar (ag (ag (am (ex_madeP2 rfl) (ak (fun J => ⟨rfl, rfl, rfl, fun w' h => ex_laidT h rfl rfl As35 rfl rfl rfl⟩) (ar trivial))))))))))
 intro J w8 l hM hl
 have H8 : Hid (Mm w8 ([(J 8, pc2 my0 my1 my2 my3 zz)] ++ _) ∧ _) := wB H7 hM hl [8]
 have o8_8 := vB H7 hM hl 8
 clear hM hl l H7
 generalize J 8 = J8_8 at H8 o8_8 ⊢
 clear J
 refine rN (wp_seq ?_)
 refine zC 6 [.q (PT J5_1 0), .q (N n), .call (N q), .q (N 0), .q (.bool zz), .q (.bool zz)] H8 ?ho9 ?he9
 case ho9 => exact ar (bN 5 (ac (fun w' h => eC call14 (CR.out J5_1 w' (h.one 2 rfl))) (ak (by refine fun J => ⟨rfl, fun w' h => ?_⟩; clear h; exact ex_zero6 rfl) (ak (fun J => ⟨rfl, fun w' _ => exec_eq6 E2.out rfl rfl rfl⟩) (ar trivial)))))
 intro _ w9 H9
 clear H8
 refine rN (wp_seq ?_)
 refine zC 48 [.q (.bool true), .q (.bool true), .q (.int .i64 0), .q (.bool true), .q (.bool true), .q (.bool true), .q (.int .i64 0), .q (.bool true), .q (.bool true), .q (.bool true), .q (.int .i64 0), .q (.bool true), .q (.bool true), .q (.bool true), .q (.int .i64 0), .q (.bool true), .q (.bool true), .q (.bool true), .q (.agg (yC mx0 mx1 zz).toArray), .q (.agg (yC mx0 mx1 zz).toArray), .q (.bool true), .q (.bool true), .q (.bool true), .q (.agg (pc2 my0 my1 my2 my3 zz).toArray), .q (.agg (pc2 my0 my1 my2 my3 zz).toArray), .q (.bool true), .q (.bool true), .q (.bool true), .q (.agg (yC mx0 mx1 zz).toArray), .call (.bool true), .q (.bool true), .q (.bool true), .q (.agg (pc2 my0 my1 my2 my3 zz).toArray), .call (.bool true), .q (.bool true), .q (.bool true), .q (PT J3_6 12), .q (.bool zz), .q (.bool zz), .q (.bool true), .q (.bool true), .q (.bool true), .q (PT J4_6 24), .q (.bool zz), .q (.bool zz), .q (.bool true), .q (.bool true), .q (.bool true)] H9 ?ho10 ?he10 (hL := ?hL10)
 case hL10 => exact trivial
 case ho10 => exact ar (ar (ar (ag (ag (ar (ar (ag (ag (ar (ar (ag (ag (ar (ar (ag (ag (ar (bT 4 Ai27 As27 (bT 1 Ai27 As27 (ak (fun J => ⟨rfl, fun w' _ => exec_eqT27 E0.out rfl rfl rfl⟩) (ag (ar (bT 3 Ai35 As35 (bT 0 Ai35 As35 (ak (fun J => ⟨rfl, fun w' _ => exec_eqT35 E1.out rfl rfl rfl⟩) (ag (ar (bT 4 Ai27 As27 (ac (fun w' h => eC call15 (C8.out w' (h.one 6 rfl))) (ag (ar (bT 3 Ai35 As35 (ac (fun w' h => eC call16 (C9.out w' (h.one 6 rfl))) (ag (ar (ag (bC 4 Ai4 (ar (ak (by refine fun J => ⟨rfl, fun w' h => ?_⟩; clear h; cases zz <;> go_simp) (ag (ar (ag (bC 3 Ai4 (ar (ak (by refine fun J => ⟨rfl, fun w' h => ?_⟩; clear h; cases zz <;> go_simp) (ag (ar trivial)))))))))))))))))))))))))))))))))))))))))))))))
 intro _ w10 H10
 clear H9
 refine rN (wp_ret ?_)
 repeat (first | refine zK ?_ | refine zH ?_)
 refine bodyPost_ret (v := .bool true) (by simp [results, Tryz.results3, go_sem, *]) rfl ?_
 exact ⟨rfl, H10.out.2⟩
theorem zero_2 {α : Type} {e0 e1 : α → Nat} {fa fs fm : α → α → α} {fi : α → α} {z u b : α} {tn : Value} (_C : Fd2 e0 e1 fa fs fm fi z) (w : World) (hm : Mm w [(2, dtab)]) :
  Calls Tryz.prog 99 #[.agg (G2 tn (e0 u) (e1 u) (e0 b) (e1 b)).toArray] w (Rt w (V [0, 0, e0 u, e1 u, 0, 0])) := by
 have H0 : Hid (_ ∧ _) := ⟨hm, Below.refl w.heap.size w⟩
 clear hm
 go_enter Tryz.func99, Tryz.ntmps99
 refine wp_seq ?_
 refine zB 2 [.made (G2 tn (e0 u) (e1 u) (e0 b) (e1 b)) 93, .made (cel [0, 0, 0, 0, 0, 0]) 129] (sB H0) ?ho1 ?he1
 case ho1 => exact am (zS rfl rfl) (am (ex_madeTE rfl) trivial)
 intro J w1 l hM hl
 have H1 : Hid (Mm w1 ([(J 0, G2 tn (e0 u) (e1 u) (e0 b) (e1 b)), (J 1, cel [0, 0, 0, 0, 0, 0])] ++ _) ∧ _) := wB H0 hM hl [0, 1]
 have o1_0 := vB H0 hM hl 0
 have o1_1 := vB H0 hM hl 1
 clear hM hl l
 generalize J 0 = J1_0 at H1 o1_0 ⊢
 generalize J 1 = J1_1 at H1 o1_1 ⊢
 clear J
 refine rN (wp_seq ?_)
 refine zC 4 [.q (PT J1_0 0), .q (PT J1_0 5), .q (V [e0 u, e1 u]), .q (V [0, 0, e0 u, e1 u, 0, 0])] H1 ?ho2 ?he2
 case ho2 => exact ag (ag (bT 0 Ai33 As33 (ak (fun J => ⟨rfl, fun w' _ => ex_buildTEy rfl rfl⟩) trivial)))
 intro _ w2 H2
 clear H1
 refine zF (l := [4]) rfl ?_
 refine sF 1 [0, 0, e0 u, e1 u, 0, 0] [_, _, _] H2 o1_1 As129 fun w3 H3 => ?_
 clear H2
 refine zE (zA (wp_ret ?_))
 repeat (first | refine zK ?_ | refine zH ?_)
 have hf0 := cel_var (k := 6) H3.out.1 1 rfl Ai129 As129 rfl
 refine bodyPost_ret (v := V [0, 0, e0 u, e1 u, 0, 0]) (by simp [results, Tryz.results99, asAddr, hf0]) rfl ?_
 exact ⟨rfl, H3.out.2⟩
theorem liftT_2 {α : Type} {e0 e1 : α → Nat} {fa fs fm : α → α → α} {fi : α → α} {z u b : α} {tn : Value} (C : Fd2 e0 e1 fa fs fm fi z) (x0 x1 y0 y1 : Nat) (w : World) (hm : Mm w [(2, dtab)]) :
  Calls Tryz.prog 84 #[.agg (G2 tn (e0 u) (e1 u) (e0 b) (e1 b)).toArray, .agg (pc2 x0 x1 y0 y1 true).toArray] w (Rt w (V [0, 0, e0 u, e1 u, 0, 0])) := by
 have H0 : Hid (_ ∧ _) := ⟨hm, Below.refl w.heap.size w⟩
 clear hm
 go_enter Tryz.func84, Tryz.ntmps84
 refine wp_seq ?_
 refine zB 3 [.made (G2 tn (e0 u) (e1 u) (e0 b) (e1 b)) 93, .made (pc2 x0 x1 y0 y1 true) 96, .made (cel [0, 0, 0, 0, 0, 0]) 129] (sB H0) ?ho1 ?he1
 case ho1 => exact am (zS rfl rfl) (am (zS rfl rfl) (am (ex_madeTE rfl) trivial))
 intro J w1 l hM hl
 have H1 : Hid (Mm w1 ([(J 0, G2 tn (e0 u) (e1 u) (e0 b) (e1 b)), (J 1, pc2 x0 x1 y0 y1 true), (J 2, cel [0, 0, 0, 0, 0, 0])] ++ _) ∧ _) := wB H0 hM hl [0, 1, 2]
 have o1_0 := vB H0 hM hl 0
 have o1_1 := vB H0 hM hl 1
 have o1_2 := vB H0 hM hl 2
 clear hM hl l
 generalize J 0 = J1_0 at H1 o1_0 ⊢
 generalize J 1 = J1_1 at H1 o1_1 ⊢
 generalize J 2 = J1_2 at H1 o1_2 ⊢
 clear J
 refine rN (wp_seq (wp_seq ?_))
 refine zC 2 [.q (PT J1_1 24), .q (.bool true)] H1 ?ho2 ?he2
 case ho2 => exact ag (bC 1 Ai4 trivial)
 intro _ w2 H2
 clear H1
 refine rN (wp_cond_true rfl (wp_seq ?_))
 refine zC 2 [.q (.agg (G2 tn (e0 u) (e1 u) (e0 b) (e1 b)).toArray), .call (V [0, 0, e0 u, e1 u, 0, 0])] H2 ?ho3 ?he3
 case ho3 => exact bT 0 Ai93 As93 (ac (fun w' h => eC call99 (zero_2 C w' (h.one 3 rfl))) trivial)
 intro _ w3 H3
 clear H2
 refine zF (l := [2]) rfl ?_
 refine sF 2 [0, 0, e0 u, e1 u, 0, 0] [_, _, _, _] H3 o1_2 As129 fun w4 H4 => ?_
 clear H3
 refine zE (zA (wp_ret ?_))
 repeat (first | refine zK ?_ | refine zH ?_)
 have hf0 := cel_var (k := 6) H4.out.1 2 rfl Ai129 As129 rfl
 refine bodyPost_ret (v := V [0, 0, e0 u, e1 u, 0, 0]) (by simp [results, Tryz.results84, asAddr, hf0]) rfl ?_
 exact ⟨rfl, H4.out.2⟩
theorem liftF_2 {α : Type} {e0 e1 : α → Nat} {fa fs fm : α → α → α} {fi : α → α} {z u b : α} {tn : Value} (_C : Fd2 e0 e1 fa fs fm fi z) (x0 x1 y0 y1 : Nat) (w : World) (hm : Mm w [(2, dtab)]) :
  Calls Tryz.prog 84 #[.agg (G2 tn (e0 u) (e1 u) (e0 b) (e1 b)).toArray, .agg (pc2 x0 x1 y0 y1 false).toArray] w (Rt w (V [x0, x1, y0, y1, e0 u, e1 u])) := by
 have H0 : Hid (_ ∧ _) := ⟨hm, Below.refl w.heap.size w⟩
 clear hm
 go_enter Tryz.func84, Tryz.ntmps84
 refine wp_seq ?_
 refine zB 3 [.made (G2 tn (e0 u) (e1 u) (e0 b) (e1 b)) 93, .made (pc2 x0 x1 y0 y1 false) 96, .made (cel [0, 0, 0, 0, 0, 0]) 129] (sB H0) ?ho1 ?he1
 case ho1 => exact am (zS rfl rfl) (am (zS rfl rfl) (am (ex_madeTE rfl) trivial))
 intro J w1 l hM hl
 have H1 : Hid (Mm w1 ([(J 0, G2 tn (e0 u) (e1 u) (e0 b) (e1 b)), (J 1, pc2 x0 x1 y0 y1 false), (J 2, cel [0, 0, 0, 0, 0, 0])] ++ _) ∧ _) := wB H0 hM hl [0, 1, 2]
 have o1_0 := vB H0 hM hl 0
 have o1_1 := vB H0 hM hl 1
 have o1_2 := vB H0 hM hl 2
 clear hM hl l
 generalize J 0 = J1_0 at H1 o1_0 ⊢
 generalize J 1 = J1_1 at H1 o1_1 ⊢
 generalize J 2 = J1_2 at H1 o1_2 ⊢
 clear J
 refine rN (wp_seq (wp_seq ?_))
 refine zC 2 [.q (PT J1_1 24), .q (.bool false)] H1 ?ho2 ?he2
 case ho2 => exact ag (bC 1 Ai4 trivial)
 intro _ w2 H2
 clear H1
 refine rN (wp_cond_false rfl ?_)
 refine wp_skip (zA (wp_seq ?_))
 refine zC 8 [.q (PT J1_1 0), .q (V [x0, x1]), .q (PT J1_1 12), .q (V [y0, y1]), .q (PT J1_0 0), .q (PT J1_0 5), .q (V [e0 u, e1 u]), .q (V [x0, x1, y0, y1, e0 u, e1 u])] H2 ?ho3 ?he3
 case ho3 => exact ag (bT 1 Ai33 As33 (ag (bT 1 Ai33 As33 (ag (ag (bT 0 Ai33 As33 (ak (fun J => ⟨rfl, fun w' _ => ex_buildTE rfl rfl rfl rfl⟩) trivial)))))))
 intro _ w3 H3
 clear H2
 refine zF (l := [8]) rfl ?_
 refine sF 2 [x0, x1, y0, y1, e0 u, e1 u] [_, _, _, _] H3 o1_2 As129 fun w4 H4 => ?_
 clear H3
 refine zE (zA (wp_ret ?_))
 repeat (first | refine zK ?_ | refine zH ?_)
 have hf0 := cel_var (k := 6) H4.out.1 2 rfl Ai129 As129 rfl
 refine bodyPost_ret (v := V [x0, x1, y0, y1, e0 u, e1 u]) (by simp [results, Tryz.results84, asAddr, hf0]) rfl ?_
 exact ⟨rfl, H4.out.2⟩
theorem isZero_2 (x0 x1 y0 y1 t0 t1 : Nat) (bz : Bool) (hz : ∀ w, (Op.equalIn 10000 33 (V [t0, t1]) (V [0, 0])).run Tryz.prog w = .ok bz w) (w : World) :
  Calls Tryz.prog 130 #[V [x0, x1, y0, y1, t0, t1]] w (Rt w (.bool bz)) := by
 have H0 : Hid (_ ∧ _) := ⟨Mm.nil w, Below.refl w.heap.size w⟩
 have HZ : Hid _ := hz
 clear hz
 go_enter Tryz.func130, Tryz.ntmps130
 refine wp_seq ?_
 refine zB 2 [.made (cel [x0, x1, y0, y1, t0, t1]) 129, .q (.bool false)] (sB H0) ?ho1 ?he1
 case ho1 => exact am (ex_boxA rfl rfl) (ar trivial)
 intro J w1 l hM hl
 have H1 : Hid (Mm w1 [(J 0, cel [x0, x1, y0, y1, t0, t1])] ∧ _) := wB H0 hM hl [0]
 have o1_0 := vB H0 hM hl 0
 clear hM hl l
 generalize J 0 = J1_0 at H1 o1_0 ⊢
 clear J
 refine rN (wp_seq ?_)
 refine zB 1 [.made (cel [0, 0]) 33] (sB H1) ?ho2 ?he2
 case ho2 => exact am (yB rfl) trivial
 intro J w2 l hM hl
 have H2 : Hid (Mm w2 ([(J 0, cel [0, 0])] ++ _) ∧ _) := wB H1 hM hl [0]
 have o2_0 := vB H1 hM hl 0
 clear hM hl l H1
 generalize J 0 = J2_0 at H2 o2_0 ⊢
 clear J
 refine rN (wp_seq ?_)
 refine zC 5 [.q (PT J1_0 24), .q (V [t0, t1]), .q (V [0, 0]), .q (.bool bz), .q (.bool bz)] H2 ?ho3 ?he3
 case ho3 => exact ag (bA 4 2 1 Ai33 As33 (bA 0 2 0 Ai33 As33 (ak (fun J => ⟨rfl, fun w' _ => exec_eqT33 HZ.out rfl rfl rfl⟩) (ar trivial))))
 intro _ w3 H3
 clear H2
 refine rN (wp_ret ?_)
 repeat (first | refine zK ?_ | refine zH ?_)
 refine bodyPost_ret (v := .bool bz) (by simp [results, Tryz.results130, go_sem, *]) rfl ?_
 exact ⟨rfl, H3.out.2⟩
theorem lowerT_2 {α : Type} {e0 e1 : α → Nat} {fa fs fm : α → α → α} {fi : α → α} {z u b : α} {tn : Value} (_C : Fd2 e0 e1 fa fs fm fi z) (x0 x1 y0 y1 t0 t1 : Nat) (hz : ∀ w, (Op.equalIn 10000 33 (V [t0, t1]) (V [0, 0])).run Tryz.prog w = .ok true w) (w : World) (hm : Mm w [(2, dtab)]) :
  Calls Tryz.prog 102 #[.agg (G2 tn (e0 u) (e1 u) (e0 b) (e1 b)).toArray, V [x0, x1, y0, y1, t0, t1]] w (Rt w (.agg (pc2 0 0 0 0 true).toArray)) := by
 have H0 : Hid (_ ∧ _) := ⟨hm, Below.refl w.heap.size w⟩
 clear hm
 have HZ : Hid _ := hz
 clear hz
 go_enter Tryz.func102, Tryz.ntmps102
 refine wp_seq ?_
 refine zB 3 [.made (G2 tn (e0 u) (e1 u) (e0 b) (e1 b)) 93, .made (cel [x0, x1, y0, y1, t0, t1]) 129, .made (pc2 0 0 0 0 false) 96] (sB H0) ?ho1 ?he1
 case ho1 => exact am (zS rfl rfl) (am (ex_boxA rfl rfl) (am (ex_madePE rfl) trivial))
 intro J w1 l hM hl
 have H1 : Hid (Mm w1 ([(J 0, G2 tn (e0 u) (e1 u) (e0 b) (e1 b)), (J 1, cel [x0, x1, y0, y1, t0, t1]), (J 2, pc2 0 0 0 0 false)] ++ _) ∧ _) := wB H0 hM hl [0, 1, 2]
 have o1_0 := vB H0 hM hl 0
 have o1_1 := vB H0 hM hl 1
 have o1_2 := vB H0 hM hl 2
 clear hM hl l
 generalize J 0 = J1_0 at H1 o1_0 ⊢
 generalize J 1 = J1_1 at H1 o1_1 ⊢
 generalize J 2 = J1_2 at H1 o1_2 ⊢
 clear J
 refine rN (wp_seq (wp_seq ?_))
 refine zC 2 [.q (V [x0, x1, y0, y1, t0, t1]), .call (.bool true)] H1 ?ho2 ?he2
 case ho2 => exact bA 0 6 1 Ai129 As129 (ac (fun w' h => eC call130 (isZero_2 _ _ _ _ _ _ true HZ.out w')) trivial)
 intro _ w2 H2
 clear H1
 refine rN (wp_cond_true rfl (wp_seq ?_))
 refine zC 1 [.q (.agg (pc2 0 0 0 0 true).toArray)] H2 ?ho3 ?he3
 case ho3 => exact ak (fun J => ⟨rfl, fun w' _ => ex_buildPEt rfl rfl⟩) trivial
 intro _ w3 H3
 clear H2
 refine zF (l := [1]) rfl ?_
 refine sG rfl (fun h => ex_storeT (vs := pc2 0 0 0 0 true) h 2 rfl rfl rfl rfl As96 rfl (Nat.le_of_ble_eq_true rfl)) 2 [_, _, (_, pc2 0 0 0 0 true), _] H3 o1_2 fun w4 H4 => ?_
 clear H3
 refine zE (zA (wp_ret ?_))
 repeat (first | refine zK ?_ | refine zH ?_)
 have hf0 := var_T H4.out.1 2 rfl Ai96 As96 rfl
 refine bodyPost_ret (v := .agg (pc2 0 0 0 0 true).toArray) (by simp [results, Tryz.results102, asAddr, hf0]) rfl ?_
 exact ⟨rfl, H4.out.2⟩
theorem lowerF_2 {α : Type} {e0 e1 : α → Nat} {fa fs fm : α → α → α} {fi : α → α} {z u b : α} {tn : Value} (C : Fd2 e0 e1 fa fs fm fi z) (x y t : α) (hz : ∀ w, (Op.equalIn 10000 33 (V [e0 t, e1 t]) (V [0, 0])).run Tryz.prog w = .ok false w) (ht : t ≠ z) (w : World) (hm : Mm w [(2, dtab)]) :
  Calls Tryz.prog 102 #[.agg (G2 tn (e0 u) (e1 u) (e0 b) (e1 b)).toArray, V [e0 x, e1 x, e0 y, e1 y, e0 t, e1 t]] w (Rt w (.agg (pc2 (e0 (fm x (fi t))) (e1 (fm x (fi t))) (e0 (fm y (fi t))) (e1 (fm y (fi t))) false).toArray)) := by
 have H0 : Hid (_ ∧ _) := ⟨hm, Below.refl w.heap.size w⟩
 clear hm
 have HZ : Hid _ := hz
 clear hz
 have HT : Hid _ := ht
 clear ht
 go_enter Tryz.func102, Tryz.ntmps102
 refine wp_seq ?_
 refine zB 3 [.made (G2 tn (e0 u) (e1 u) (e0 b) (e1 b)) 93, .made (cel [e0 x, e1 x, e0 y, e1 y, e0 t, e1 t]) 129, .made (pc2 0 0 0 0 false) 96] (sB H0) ?ho1 ?he1
 case ho1 => exact am (zS rfl rfl) (am (ex_boxA rfl rfl) (am (ex_madePE rfl) trivial))
 intro J w1 l hM hl
 have H1 : Hid (Mm w1 ([(J 0, G2 tn (e0 u) (e1 u) (e0 b) (e1 b)), (J 1, cel [e0 x, e1 x, e0 y, e1 y, e0 t, e1 t]), (J 2, pc2 0 0 0 0 false)] ++ _) ∧ _) := wB H0 hM hl [0, 1, 2]
 have o1_0 := vB H0 hM hl 0
 have o1_1 := vB H0 hM hl 1
 have o1_2 := vB H0 hM hl 2
 clear hM hl l
 generalize J 0 = J1_0 at H1 o1_0 ⊢
 generalize J 1 = J1_1 at H1 o1_1 ⊢
 generalize J 2 = J1_2 at H1 o1_2 ⊢
 clear J
 refine rN (wp_seq (wp_seq ?_))
 refine zC 2 [.q (V [e0 x, e1 x, e0 y, e1 y, e0 t, e1 t]), .call (.bool false)] H1 ?ho2 ?he2
 case ho2 => exact bA 0 6 1 Ai129 As129 (ac (fun w' h => eC call130 (isZero_2 _ _ _ _ _ _ false HZ.out w')) trivial)
 intro _ w2 H2
 clear H1
 refine rN (wp_cond_false rfl ?_)
 refine wp_skip (zA (wp_seq ?_))
 refine zB 12 [.q (PT J1_0 0), .q (PT J1_0 3), .q (.func (.func 80) #[] #[]), .q (PT J1_1 24), .q (V [e0 t, e1 t]), .call (.tuple #[V [e0 (fi t), e1 (fi t)], .int .i64 0]), .q (.tuple #[V [e0 (fi t), e1 (fi t)], .int .i64 0]), .q (V [e0 (fi t), e1 (fi t)]), .q (.int .i64 0), .made (cel [0, 0]) 33, .laid 9 (cel [0, 0]) (cel [e0 (fi t), e1 (fi t)]), .q (.int .i64 0)] (sB H2) ?ho3 ?he3 (hL := ?hL3)
 case hL3 => exact ⟨⟨_, rfl⟩, trivial⟩
 case ho3 => exact ag (ag (bC 0 Tryz.isAgg87 (ag (bA 4 2 1 Ai33 As33 (ac (fun w' h => ⟨80, #[V [e0 t, e1 t]], zJ rfl call80 rfl (mpn rfl) rfl, C.ci _ w' HT.out (h.one 3 rfl)⟩) (ar (ag (ag (am (yB rfl) (ak (fun J => ⟨rfl, rfl, rfl, fun w' h => ex_laidA h rfl As33 rfl rfl rfl⟩) (ar trivial)))))))))))
 intro J w3 l hM hl
 have H3 : Hid (Mm w3 ([(J 9, cel [e0 (fi t), e1 (fi t)])] ++ _) ∧ _) := wB H2 hM hl [9]
 have o3_9 := vB H2 hM hl 9
 clear hM hl l H2
 generalize J 9 = J3_9 at H3 o3_9 ⊢
 clear J
 refine rN (wp_seq ?_)
 refine zN 15 [.q (PT J1_0 0), .q (PT J1_0 2), .q (.func (.func 79) #[] #[]), .q (PT J1_1 0), .q (V [e0 x, e1 x]), .q (V [e0 (fi t), e1 (fi t)]), .call (V [e0 (fm x (fi t)), e1 (fm x (fi t))]), .q (PT J1_0 0), .q (PT J1_0 2), .q (.func (.func 79) #[] #[]), .q (PT J1_1 12), .q (V [e0 y, e1 y]), .q (V [e0 (fi t), e1 (fi t)]), .call (V [e0 (fm y (fi t)), e1 (fm y (fi t))]), .q (.agg (pc2 (e0 (fm x (fi t))) (e1 (fm x (fi t))) (e0 (fm y (fi t))) (e1 (fm y (fi t))) false).toArray)] H3 ?ho4 ?he4
 case ho4 => exact ag (ag (bC 1 Ai86 (ag (bA 0 2 2 Ai33 As33 (bA 0 2 0 Ai33 As33 (ac (fun w' h => ⟨79, #[V [e0 x, e1 x], V [e0 (fi t), e1 (fi t)]], zJ rfl call79 rfl (mpn rfl) rfl, C.cm _ _ w' (h.one 4 rfl)⟩) (ag (ag (bC 1 Ai86 (ag (bA 2 2 2 Ai33 As33 (bA 0 2 0 Ai33 As33 (ac (fun w' h => ⟨79, #[V [e0 y, e1 y], V [e0 (fi t), e1 (fi t)]], zJ rfl call79 rfl (mpn rfl) rfl, C.cm _ _ w' (h.one 4 rfl)⟩) (ak (fun J => ⟨rfl, fun w' _ => ex_buildPExy rfl rfl rfl⟩) trivial))))))))))))))
 intro _ w4 H4
 clear H3
 refine zF (l := [15]) rfl ?_
 refine sG rfl (fun h => ex_storeT (vs := pc2 (e0 (fm x (fi t))) (e1 (fm x (fi t))) (e0 (fm y (fi t))) (e1 (fm y (fi t))) false) h 3 rfl rfl rfl rfl As96 rfl (Nat.le_of_ble_eq_true rfl)) 3 [_, _, _, (_, pc2 (e0 (fm x (fi t))) (e1 (fm x (fi t))) (e0 (fm y (fi t))) (e1 (fm y (fi t))) false), _] H4 o1_2 fun w5 H5 => ?_
 clear H4
 refine zE (zA (wp_ret ?_))
 repeat (first | refine zK ?_ | refine zH ?_)
 have hf0 := var_T H5.out.1 3 rfl Ai96 As96 rfl
 refine bodyPost_ret (v := .agg (pc2 (e0 (fm x (fi t))) (e1 (fm x (fi t))) (e0 (fm y (fi t))) (e1 (fm y (fi t))) false).toArray) (by simp [results, Tryz.results102, asAddr, hf0]) rfl ?_
 exact ⟨rfl, H5.out.2⟩
set_option maxHeartbeats 4000000 in
theorem togetherV_2 {α : Type} {e0 e1 : α → Nat} {fa fs fm : α → α → α} {fi : α → α} {z u b : α} {tn : Value} (C : Fd2 e0 e1 fa fs fm fi z) (x1 y1 z1 x2 y2 z2 : α) (v1 v2 v3 v4 v5 v6 v7 v8 v9 v10 v11 v12 v13 v14 v15 v16 v17 v18 v19 v20 v21 v22 v23 v24 v25 v26 v27 v28 v29 v30 v31 v32 v33 v34 : α) (hv1 : fm x1 x2 = v1) (hv2 : fm y1 y2 = v2) (hv3 : fm z1 z2 = v3) (hv4 : fa x1 y1 = v4) (hv5 : fa x2 y2 = v5) (hv6 : fm v4 v5 = v6) (hv7 : fa v1 v2 = v7) (hv8 : fs v6 v7 = v8) (hv9 : fa y1 z1 = v9) (hv10 : fa y2 z2 = v10) (hv11 : fm v9 v10 = v11) (hv12 : fa v2 v3 = v12) (hv13 : fs v11 v12 = v13) (hv14 : fa x1 z1 = v14) (hv15 : fa x2 z2 = v15) (hv16 : fm v14 v15 = v16) (hv17 : fa v1 v3 = v17) (hv18 : fs v16 v17 = v18) (hv19 : fa (fa v1 v1) v1 = v19) (hv20 : fm b v18 = v20) (hv21 : fa (fa v20 v20) v20 = v21) (hv22 : fm b v3 = v22) (hv23 : fa (fa v22 v22) v22 = v23) (hv24 : fs v2 v23 = v24) (hv25 : fa v2 v23 = v25) (hv26 : fm v24 v8 = v26) (hv27 : fm v13 v21 = v27) (hv28 : fs v26 v27 = v28) (hv29 : fm v24 v25 = v29) (hv30 : fm v19 v21 = v30) (hv31 : fa v29 v30 = v31) (hv32 : fm v25 v13 = v32) (hv33 : fm v19 v8 = v33) (hv34 : fa v32 v33 = v34) (w : World) (hm : Mm w [(2, dtab)]) :
  Calls Tryz.prog 100 #[.agg (G2 tn (e0 u) (e1 u) (e0 b) (e1 b)).toArray, V [e0 x1, e1 x1, e0 y1, e1 y1, e0 z1, e1 z1], V [e0 x2, e1 x2, e0 y2, e1 y2, e0 z2, e1 z2]] w (Rt w (V [e0 v28, e1 v28, e0 v31, e1 v31, e0 v34, e1 v34])) := by
 have H0 : Hid (_ ∧ _) := ⟨hm, Below.refl w.heap.size w⟩
 clear hm
 have HV1 : Hid _ := hv1
 clear hv1
 have HV2 : Hid _ := hv2
 clear hv2
 have HV3 : Hid _ := hv3
 clear hv3
 have HV4 : Hid _ := hv4
 clear hv4
 have HV5 : Hid _ := hv5
 clear hv5
 have HV6 : Hid _ := hv6
 clear hv6
 have HV7 : Hid _ := hv7
 clear hv7
 have HV8 : Hid _ := hv8
 clear hv8
 have HV9 : Hid _ := hv9
 clear hv9
 have HV10 : Hid _ := hv10
 clear hv10
 have HV11 : Hid _ := hv11
 clear hv11
 have HV12 : Hid _ := hv12
 clear hv12
 have HV13 : Hid _ := hv13
 clear hv13
 have HV14 : Hid _ := hv14
 clear hv14
 have HV15 : Hid _ := hv15
 clear hv15
 have HV16 : Hid _ := hv16
 clear hv16
 have HV17 : Hid _ := hv17
 clear hv17
 have HV18 : Hid _ := hv18
 clear hv18
 have HV19 : Hid _ := hv19
 clear hv19
 have HV20 : Hid _ := hv20
 clear hv20
 have HV21 : Hid _ := hv21
 clear hv21
 have HV22 : Hid _ := hv22
 clear hv22
 have HV23 : Hid _ := hv23
 clear hv23
 have HV24 : Hid _ := hv24
 clear hv24
 have HV25 : Hid _ := hv25
 clear hv25
 have HV26 : Hid _ := hv26
 clear hv26
 have HV27 : Hid _ := hv27
 clear hv27
 have HV28 : Hid _ := hv28
 clear hv28
 have HV29 : Hid _ := hv29
 clear hv29
 have HV30 : Hid _ := hv30
 clear hv30
 have HV31 : Hid _ := hv31
 clear hv31
 have HV32 : Hid _ := hv32
 clear hv32
 have HV33 : Hid _ := hv33
 clear hv33
 have HV34 : Hid _ := hv34
 clear hv34
 go_enter Tryz.func100, Tryz.ntmps100
 refine wp_seq ?_
 refine zB 4 [.made (G2 tn (e0 u) (e1 u) (e0 b) (e1 b)) 93, .made (cel [e0 x1, e1 x1, e0 y1, e1 y1, e0 z1, e1 z1]) 129, .made (cel [e0 x2, e1 x2, e0 y2, e1 y2, e0 z2, e1 z2]) 129, .made (cel [0, 0, 0, 0, 0, 0]) 129] (sB H0) ?ho1 ?he1
 case ho1 => exact am (zS rfl rfl) (am (ex_boxA rfl rfl) (am (ex_boxA rfl rfl) (am (ex_madeTE rfl) trivial)))
 intro J w1 l hM hl
 have H1 : Hid (Mm w1 ([(J 0, G2 tn (e0 u) (e1 u) (e0 b) (e1 b)), (J 1, cel [e0 x1, e1 x1, e0 y1, e1 y1, e0 z1, e1 z1]), (J 2, cel [e0 x2, e1 x2, e0 y2, e1 y2, e0 z2, e1 z2]), (J 3, cel [0, 0, 0, 0, 0, 0])] ++ _) ∧ _) := wB H0 hM hl [0, 1, 2, 3]
 have o1_0 := vB H0 hM hl 0
 have o1_1 := vB H0 hM hl 1
 have o1_2 := vB H0 hM hl 2
 have o1_3 := vB H0 hM hl 3
 clear hM hl l
 generalize J 0 = J1_0 at H1 o1_0 ⊢
 generalize J 1 = J1_1 at H1 o1_1 ⊢
 generalize J 2 = J1_2 at H1 o1_2 ⊢
 generalize J 3 = J1_3 at H1 o1_3 ⊢
 clear J
 refine rN (wp_seq ?_)
 refine zQ 30 [.q (PT J1_0 0), .q (PT J1_0 2), .q (.func (.func 79) #[] #[]), .q (PT J1_1 0), .q (V [e0 x1, e1 x1]), .q (PT J1_2 0), .q (V [e0 x2, e1 x2]), .call (V [e0 v1, e1 v1]), .q (PT J1_0 0), .q (PT J1_0 2), .q (.func (.func 79) #[] #[]), .q (PT J1_1 12), .q (V [e0 y1, e1 y1]), .q (PT J1_2 12), .q (V [e0 y2, e1 y2]), .call (V [e0 v2, e1 v2]), .q (PT J1_0 0), .q (PT J1_0 2), .q (.func (.func 79) #[] #[]), .q (PT J1_1 24), .q (V [e0 z1, e1 z1]), .q (PT J1_2 24), .q (V [e0 z2, e1 z2]), .call (V [e0 v3, e1 v3]), .made (cel [0, 0]) 33, .made (cel [0, 0]) 33, .made (cel [0, 0]) 33, .laid 24 (cel [0, 0]) (cel [e0 v1, e1 v1]), .laid 25 (cel [0, 0]) (cel [e0 v2, e1 v2]), .laid 26 (cel [0, 0]) (cel [e0 v3, e1 v3])] (sB H1) ?ho2 ?he2 (hL := ?hL2)
 case hL2 => exact ⟨⟨_, rfl⟩, ⟨_, rfl⟩, ⟨_, rfl⟩, trivial⟩
 case ho2 => exact ag (ag (bC 0 Ai86 (ag (bA 0 2 1 Ai33 As33 (ag (bA 0 2 2 Ai33 As33 (ac (fun w' h => ⟨79, #[V [e0 x1, e1 x1], V [e0 x2, e1 x2]], zJ rfl call79 rfl (mpn rfl) rfl, C.km HV1.out w' (h.one 4 rfl)⟩) (ag (ag (bC 0 Ai86 (ag (bA 2 2 1 Ai33 As33 (ag (bA 2 2 2 Ai33 As33 (ac (fun w' h => ⟨79, #[V [e0 y1, e1 y1], V [e0 y2, e1 y2]], zJ rfl call79 rfl (mpn rfl) rfl, C.km HV2.out w' (h.one 4 rfl)⟩) (ag (ag (bC 0 Ai86 (ag (bA 4 2 1 Ai33 As33 (ag (bA 4 2 2 Ai33 As33 (ac (fun w' h => ⟨79, #[V [e0 z1, e1 z1], V [e0 z2, e1 z2]], zJ rfl call79 rfl (mpn rfl) rfl, C.km HV3.out w' (h.one 4 rfl)⟩) (am (yB rfl) (am (yB rfl) (am (yB rfl) (ak (fun J => ⟨rfl, rfl, rfl, fun w' h => ex_laidA h rfl As33 rfl rfl rfl⟩) (ak (fun J => ⟨rfl, rfl, rfl, fun w' h => ex_laidA h rfl As33 rfl rfl rfl⟩) (ak (fun J => ⟨rfl, rfl, rfl, fun w' h => ex_laidA h rfl As33 rfl rfl rfl⟩) trivial)))))))))))))))))))))))))))))
 intro J w2 l hM hl
 have H2 : Hid (Mm w2 ([(J 24, cel [e0 v1, e1 v1]), (J 25, cel [e0 v2, e1 v2]), (J 26, cel [e0 v3, e1 v3])] ++ _) ∧ _) := wB H1 hM hl [24, 25, 26]
 have o2_24 := vB H1 hM hl 24
 have o2_25 := vB H1 hM hl 25
 have o2_26 := vB H1 hM hl 26
 clear hM hl l H1
 generalize J 24 = J2_24 at H2 o2_24 ⊢
 generalize J 25 = J2_25 at H2 o2_25 ⊢
 generalize J 26 = J2_26 at H2 o2_26 ⊢
 clear J
 refine rN (wp_seq ?_)
 refine zQ 32 [.q (PT J1_0 0), .q (PT J1_0 1), .q (.func (.func 78) #[] #[]), .q (PT J1_0 0), .q (PT J1_0 2), .q (.func (.func 79) #[] #[]), .q (PT J1_0 0), .q (PT J1_0 0), .q (.func (.func 77) #[] #[]), .q (PT J1_1 0), .q (V [e0 x1, e1 x1]), .q (PT J1_1 12), .q (V [e0 y1, e1 y1]), .call (V [e0 v4, e1 v4]), .q (PT J1_0 0), .q (PT J1_0 0), .q (.func (.func 77) #[] #[]), .q (PT J1_2 0), .q (V [e0 x2, e1 x2]), .q (PT J1_2 12), .q (V [e0 y2, e1 y2]), .call (V [e0 v5, e1 v5]), .call (V [e0 v6, e1 v6]), .q (PT J1_0 0), .q (PT J1_0 0), .q (.func (.func 77) #[] #[]), .q (V [e0 v1, e1 v1]), .q (V [e0 v2, e1 v2]), .call (V [e0 v7, e1 v7]), .call (V [e0 v8, e1 v8]), .made (cel [0, 0]) 33, .laid 30 (cel [0, 0]) (cel [e0 v8, e1 v8])] (sB H2) ?ho3 ?he3 (hL := ?hL3)
 case hL3 => exact ⟨⟨_, rfl⟩, trivial⟩
 case ho3 => exact ag (ag (bC 3 Ai86 (ag (ag (bC 3 Ai86 (ag (ag (bC 3 Ai86 (ag (bA 0 2 4 Ai33 As33 (ag (bA 2 2 4 Ai33 As33 (ac (fun w' h => ⟨77, #[V [e0 x1, e1 x1], V [e0 y1, e1 y1]], zJ rfl call77 rfl (mpn rfl) rfl, C.ka HV4.out w' (h.one 7 rfl)⟩) (ag (ag (bC 3 Ai86 (ag (bA 0 2 5 Ai33 As33 (ag (bA 2 2 5 Ai33 As33 (ac (fun w' h => ⟨77, #[V [e0 x2, e1 x2], V [e0 y2, e1 y2]], zJ rfl call77 rfl (mpn rfl) rfl, C.ka HV5.out w' (h.one 7 rfl)⟩) (ac (fun w' h => ⟨79, #[V [e0 v4, e1 v4], V [e0 v5, e1 v5]], zJ rfl call79 rfl (mpn rfl) rfl, C.km HV6.out w' (h.one 7 rfl)⟩) (ag (ag (bC 3 Ai86 (bA 0 2 0 Ai33 As33 (bA 0 2 1 Ai33 As33 (ac (fun w' h => ⟨77, #[V [e0 v1, e1 v1], V [e0 v2, e1 v2]], zJ rfl call77 rfl (mpn rfl) rfl, C.ka HV7.out w' (h.one 7 rfl)⟩) (ac (fun w' h => ⟨78, #[V [e0 v6, e1 v6], V [e0 v7, e1 v7]], zJ rfl call78 rfl (mpn rfl) rfl, C.ks HV8.out w' (h.one 7 rfl)⟩) (am (yB rfl) (ak (fun J => ⟨rfl, rfl, rfl, fun w' h => ex_laidA h rfl As33 rfl rfl rfl⟩) trivial)))))))))))))))))))))))))))))))
 intro J w3 l hM hl
 have H3 : Hid (Mm w3 ([(J 30, cel [e0 v8, e1 v8])] ++ _) ∧ _) := wB H2 hM hl [30]
 have o3_30 := vB H2 hM hl 30
 clear hM hl l H2
 generalize J 30 = J3_30 at H3 o3_30 ⊢
 clear J
 refine rN (wp_seq ?_)
 refine zQ 32 [.q (PT J1_0 0), .q (PT J1_0 1), .q (.func (.func 78) #[] #[]), .q (PT J1_0 0), .q (PT J1_0 2), .q (.func (.func 79) #[] #[]), .q (PT J1_0 0), .q (PT J1_0 0), .q (.func (.func 77) #[] #[]), .q (PT J1_1 12), .q (V [e0 y1, e1 y1]), .q (PT J1_1 24), .q (V [e0 z1, e1 z1]), .call (V [e0 v9, e1 v9]), .q (PT J1_0 0), .q (PT J1_0 0), .q (.func (.func 77) #[] #[]), .q (PT J1_2 12), .q (V [e0 y2, e1 y2]), .q (PT J1_2 24), .q (V [e0 z2, e1 z2]), .call (V [e0 v10, e1 v10]), .call (V [e0 v11, e1 v11]), .q (PT J1_0 0), .q (PT J1_0 0), .q (.func (.func 77) #[] #[]), .q (V [e0 v2, e1 v2]), .q (V [e0 v3, e1 v3]), .call (V [e0 v12, e1 v12]), .call (V [e0 v13, e1 v13]), .made (cel [0, 0]) 33, .laid 30 (cel [0, 0]) (cel [e0 v13, e1 v13])] (sB H3) ?ho4 ?he4 (hL := ?hL4)
 case hL4 => exact ⟨⟨_, rfl⟩, trivial⟩
 case ho4 => exact ag (ag (bC 4 Ai86 (ag (ag (bC 4 Ai86 (ag (ag (bC 4 Ai86 (ag (bA 2 2 5 Ai33 As33 (ag (bA 4 2 5 Ai33 As33 (ac (fun w' h => ⟨77, #[V [e0 y1, e1 y1], V [e0 z1, e1 z1]], zJ rfl call77 rfl (mpn rfl) rfl, C.ka HV9.out w' (h.one 8 rfl)⟩) (ag (ag (bC 4 Ai86 (ag (bA 2 2 6 Ai33 As33 (ag (bA 4 2 6 Ai33 As33 (ac (fun w' h => ⟨77, #[V [e0 y2, e1 y2], V [e0 z2, e1 z2]], zJ rfl call77 rfl (mpn rfl) rfl, C.ka HV10.out w' (h.one 8 rfl)⟩) (ac (fun w' h => ⟨79, #[V [e0 v9, e1 v9], V [e0 v10, e1 v10]], zJ rfl call79 rfl (mpn rfl) rfl, C.km HV11.out w' (h.one 8 rfl)⟩) (ag (ag (bC 4 Ai86 (bA 0 2 2 Ai33 As33 (bA 0 2 3 Ai33 As33 (ac (fun w' h => ⟨77, #[V [e0 v2, e1 v2], V [e0 v3, e1 v3]], zJ rfl call77 rfl (mpn rfl) rfl, C.ka HV12.out w' (h.one 8 rfl)⟩) (ac (fun w' h => ⟨78, #[V [e0 v11, e1 v11], V [e0 v12, e1 v12]], zJ rfl call78 rfl (mpn rfl) rfl, C.ks HV13.out w' (h.one 8 rfl)⟩) (am (yB rfl) (ak (fun J => ⟨rfl, rfl, rfl, fun w' h => ex_laidA h rfl As33 rfl rfl rfl⟩) trivial)))))))))))))))))))))))))))))))
 intro J w4 l hM hl
 have H4 : Hid (Mm w4 ([(J 30, cel [e0 v13, e1 v13])] ++ _) ∧ _) := wB H3 hM hl [30]
 have o4_30 := vB H3 hM hl 30
 clear hM hl l H3
 generalize J 30 = J4_30 at H4 o4_30 ⊢
 clear J
 refine rN (wp_seq ?_)
 refine zQ 32 [.q (PT J1_0 0), .q (PT J1_0 1), .q (.func (.func 78) #[] #[]), .q (PT J1_0 0), .q (PT J1_0 2), .q (.func (.func 79) #[] #[]), .q (PT J1_0 0), .q (PT J1_0 0), .q (.func (.func 77) #[] #[]), .q (PT J1_1 0), .q (V [e0 x1, e1 x1]), .q (PT J1_1 24), .q (V [e0 z1, e1 z1]), .call (V [e0 v14, e1 v14]), .q (PT J1_0 0), .q (PT J1_0 0), .q (.func (.func 77) #[] #[]), .q (PT J1_2 0), .q (V [e0 x2, e1 x2]), .q (PT J1_2 24), .q (V [e0 z2, e1 z2]), .call (V [e0 v15, e1 v15]), .call (V [e0 v16, e1 v16]), .q (PT J1_0 0), .q (PT J1_0 0), .q (.func (.func 77) #[] #[]), .q (V [e0 v1, e1 v1]), .q (V [e0 v3, e1 v3]), .call (V [e0 v17, e1 v17]), .call (V [e0 v18, e1 v18]), .made (cel [0, 0]) 33, .laid 30 (cel [0, 0]) (cel [e0 v18, e1 v18])] (sB H4) ?ho5 ?he5 (hL := ?hL5)
 case hL5 => exact ⟨⟨_, rfl⟩, trivial⟩
 case ho5 => exact ag (ag (bC 5 Ai86 (ag (ag (bC 5 Ai86 (ag (ag (bC 5 Ai86 (ag (bA 0 2 6 Ai33 As33 (ag (bA 4 2 6 Ai33 As33 (ac (fun w' h => ⟨77, #[V [e0 x1, e1 x1], V [e0 z1, e1 z1]], zJ rfl call77 rfl (mpn rfl) rfl, C.ka HV14.out w' (h.one 9 rfl)⟩) (ag (ag (bC 5 Ai86 (ag (bA 0 2 7 Ai33 As33 (ag (bA 4 2 7 Ai33 As33 (ac (fun w' h => ⟨77, #[V [e0 x2, e1 x2], V [e0 z2, e1 z2]], zJ rfl call77 rfl (mpn rfl) rfl, C.ka HV15.out w' (h.one 9 rfl)⟩) (ac (fun w' h => ⟨79, #[V [e0 v14, e1 v14], V [e0 v15, e1 v15]], zJ rfl call79 rfl (mpn rfl) rfl, C.km HV16.out w' (h.one 9 rfl)⟩) (ag (ag (bC 5 Ai86 (bA 0 2 2 Ai33 As33 (bA 0 2 4 Ai33 As33 (ac (fun w' h => ⟨77, #[V [e0 v1, e1 v1], V [e0 v3, e1 v3]], zJ rfl call77 rfl (mpn rfl) rfl, C.ka HV17.out w' (h.one 9 rfl)⟩) (ac (fun w' h => ⟨78, #[V [e0 v16, e1 v16], V [e0 v17, e1 v17]], zJ rfl call78 rfl (mpn rfl) rfl, C.ks HV18.out w' (h.one 9 rfl)⟩) (am (yB rfl) (ak (fun J => ⟨rfl, rfl, rfl, fun w' h => ex_laidA h rfl As33 rfl rfl rfl⟩) trivial)))))))))))))))))))))))))))))))
 intro J w5 l hM hl
 have H5 : Hid (Mm w5 ([(J 30, cel [e0 v18, e1 v18])] ++ _) ∧ _) := wB H4 hM hl [30]
 have o5_30 := vB H4 hM hl 30
 clear hM hl l H4
 generalize J 30 = J5_30 at H5 o5_30 ⊢
 clear J
 refine rN (wp_seq ?_)
 refine zQ 27 [.q (.agg (G2 tn (e0 u) (e1 u) (e0 b) (e1 b)).toArray), .q (V [e0 v1, e1 v1]), .call (V [e0 v19, e1 v19]), .q (.agg (G2 tn (e0 u) (e1 u) (e0 b) (e1 b)).toArray), .q (PT J1_0 0), .q (PT J1_0 2), .q (.func (.func 79) #[] #[]), .q (PT J1_0 17), .q (V [e0 b, e1 b]), .q (V [e0 v18, e1 v18]), .call (V [e0 v20, e1 v20]), .call (V [e0 v21, e1 v21]), .q (.agg (G2 tn (e0 u) (e1 u) (e0 b) (e1 b)).toArray), .q (PT J1_0 0), .q (PT J1_0 2), .q (.func (.func 79) #[] #[]), .q (PT J1_0 17), .q (V [e0 b, e1 b]), .q (V [e0 v3, e1 v3]), .call (V [e0 v22, e1 v22]), .call (V [e0 v23, e1 v23]), .made (cel [0, 0]) 33, .made (cel [0, 0]) 33, .made (cel [0, 0]) 33, .laid 21 (cel [0, 0]) (cel [e0 v19, e1 v19]), .laid 22 (cel [0, 0]) (cel [e0 v21, e1 v21]), .laid 23 (cel [0, 0]) (cel [e0 v23, e1 v23])] (sB H5) ?ho6 ?he6 (hL := ?hL6)
 case hL6 => exact ⟨⟨_, rfl⟩, ⟨_, rfl⟩, ⟨_, rfl⟩, trivial⟩
 case ho6 => exact bT 6 Ai93 As93 (bA 0 2 3 Ai33 As33 (ac (fun w' h => eC call127 (thriceN_2 C HV19.out w' (h.one 10 rfl))) (bT 6 Ai93 As93 (ag (ag (bC 6 Ai86 (ag (bT 6 Ai33 As33 (bA 0 2 0 Ai33 As33 (ac (fun w' h => ⟨79, #[V [e0 b, e1 b], V [e0 v18, e1 v18]], zJ rfl call79 rfl (mpn rfl) rfl, C.km HV20.out w' (h.one 10 rfl)⟩) (ac (fun w' h => eC call127 (thriceN_2 C HV21.out w' (h.one 10 rfl))) (bT 6 Ai93 As93 (ag (ag (bC 6 Ai86 (ag (bT 6 Ai33 As33 (bA 0 2 5 Ai33 As33 (ac (fun w' h => ⟨79, #[V [e0 b, e1 b], V [e0 v3, e1 v3]], zJ rfl call79 rfl (mpn rfl) rfl, C.km HV22.out w' (h.one 10 rfl)⟩) (ac (fun w' h => eC call127 (thriceN_2 C HV23.out w' (h.one 10 rfl))) (am (yB rfl) (am (yB rfl) (am (yB rfl) (ak (fun J => ⟨rfl, rfl, rfl, fun w' h => ex_laidA h rfl As33 rfl rfl rfl⟩) (ak (fun J => ⟨rfl, rfl, rfl, fun w' h => ex_laidA h rfl As33 rfl rfl rfl⟩) (ak (fun J => ⟨rfl, rfl, rfl, fun w' h => ex_laidA h rfl As33 rfl rfl rfl⟩) trivial))))))))))))))))))))))))))
 intro J w6 l hM hl
 have H6 : Hid (Mm w6 ([(J 21, cel [e0 v19, e1 v19]), (J 22, cel [e0 v21, e1 v21]), (J 23, cel [e0 v23, e1 v23])] ++ _) ∧ _) := wB H5 hM hl [21, 22, 23]
 have o6_21 := vB H5 hM hl 21
 have o6_22 := vB H5 hM hl 22
 have o6_23 := vB H5 hM hl 23
 clear hM hl l H5
 generalize J 21 = J6_21 at H6 o6_21 ⊢
 generalize J 22 = J6_22 at H6 o6_22 ⊢
 generalize J 23 = J6_23 at H6 o6_23 ⊢
 clear J
 refine rN (wp_seq ?_)
 refine zQ 16 [.q (PT J1_0 0), .q (PT J1_0 1), .q (.func (.func 78) #[] #[]), .q (V [e0 v2, e1 v2]), .q (V [e0 v23, e1 v23]), .call (V [e0 v24, e1 v24]), .q (PT J1_0 0), .q (PT J1_0 0), .q (.func (.func 77) #[] #[]), .q (V [e0 v2, e1 v2]), .q (V [e0 v23, e1 v23]), .call (V [e0 v25, e1 v25]), .made (cel [0, 0]) 33, .made (cel [0, 0]) 33, .laid 12 (cel [0, 0]) (cel [e0 v24, e1 v24]), .laid 13 (cel [0, 0]) (cel [e0 v25, e1 v25])] (sB H6) ?ho7 ?he7 (hL := ?hL7)
 case hL7 => exact ⟨⟨_, rfl⟩, ⟨_, rfl⟩, trivial⟩
 case ho7 => exact ag (ag (bC 9 Ai86 (bA 0 2 7 Ai33 As33 (bA 0 2 2 Ai33 As33 (ac (fun w' h => ⟨78, #[V [e0 v2, e1 v2], V [e0 v23, e1 v23]], zJ rfl call78 rfl (mpn rfl) rfl, C.ks HV24.out w' (h.one 13 rfl)⟩) (ag (ag (bC 9 Ai86 (bA 0 2 7 Ai33 As33 (bA 0 2 2 Ai33 As33 (ac (fun w' h => ⟨77, #[V [e0 v2, e1 v2], V [e0 v23, e1 v23]], zJ rfl call77 rfl (mpn rfl) rfl, C.ka HV25.out w' (h.one 13 rfl)⟩) (am (yB rfl) (am (yB rfl) (ak (fun J => ⟨rfl, rfl, rfl, fun w' h => ex_laidA h rfl As33 rfl rfl rfl⟩) (ak (fun J => ⟨rfl, rfl, rfl, fun w' h => ex_laidA h rfl As33 rfl rfl rfl⟩) trivial)))))))))))))))
 intro J w7 l hM hl
 have H7 : Hid (Mm w7 ([(J 12, cel [e0 v24, e1 v24]), (J 13, cel [e0 v25, e1 v25])] ++ _) ∧ _) := wB H6 hM hl [12, 13]
 have o7_12 := vB H6 hM hl 12
 have o7_13 := vB H6 hM hl 13
 clear hM hl l H6
 generalize J 12 = J7_12 at H7 o7_12 ⊢
 generalize J 13 = J7_13 at H7 o7_13 ⊢
 clear J
 refine rN (wp_seq ?_)
 refine zN 49 [.q (PT J1_0 0), .q (PT J1_0 1), .q (.func (.func 78) #[] #[]), .q (PT J1_0 0), .q (PT J1_0 2), .q (.func (.func 79) #[] #[]), .q (V [e0 v24, e1 v24]), .q (V [e0 v8, e1 v8]), .call (V [e0 v26, e1 v26]), .q (PT J1_0 0), .q (PT J1_0 2), .q (.func (.func 79) #[] #[]), .q (V [e0 v13, e1 v13]), .q (V [e0 v21, e1 v21]), .call (V [e0 v27, e1 v27]), .call (V [e0 v28, e1 v28]), .q (PT J1_0 0), .q (PT J1_0 0), .q (.func (.func 77) #[] #[]), .q (PT J1_0 0), .q (PT J1_0 2), .q (.func (.func 79) #[] #[]), .q (V [e0 v24, e1 v24]), .q (V [e0 v25, e1 v25]), .call (V [e0 v29, e1 v29]), .q (PT J1_0 0), .q (PT J1_0 2), .q (.func (.func 79) #[] #[]), .q (V [e0 v19, e1 v19]), .q (V [e0 v21, e1 v21]), .call (V [e0 v30, e1 v30]), .call (V [e0 v31, e1 v31]), .q (PT J1_0 0), .q (PT J1_0 0), .q (.func (.func 77) #[] #[]), .q (PT J1_0 0), .q (PT J1_0 2), .q (.func (.func 79) #[] #[]), .q (V [e0 v25, e1 v25]), .q (V [e0 v13, e1 v13]), .call (V [e0 v32, e1 v32]), .q (PT J1_0 0), .q (PT J1_0 2), .q (.func (.func 79) #[] #[]), .q (V [e0 v19, e1 v19]), .q (V [e0 v8, e1 v8]), .call (V [e0 v33, e1 v33]), .call (V [e0 v34, e1 v34]), .q (V [e0 v28, e1 v28, e0 v31, e1 v31, e0 v34, e1 v34])] H7 ?ho8 ?he8 (hL := ?hL8)
 case hL8 => exact trivial
 case ho8 => exact ag (ag (bC 11 Ai86 (ag (ag (bC 11 Ai86 (bA 0 2 0 Ai33 As33 (bA 0 2 7 Ai33 As33 (ac (fun w' h => ⟨79, #[V [e0 v24, e1 v24], V [e0 v8, e1 v8]], zJ rfl call79 rfl (mpn rfl) rfl, C.km HV26.out w' (h.one 15 rfl)⟩) (ag (ag (bC 11 Ai86 (bA 0 2 6 Ai33 As33 (bA 0 2 3 Ai33 As33 (ac (fun w' h => ⟨79, #[V [e0 v13, e1 v13], V [e0 v21, e1 v21]], zJ rfl call79 rfl (mpn rfl) rfl, C.km HV27.out w' (h.one 15 rfl)⟩) (ac (fun w' h => ⟨78, #[V [e0 v26, e1 v26], V [e0 v27, e1 v27]], zJ rfl call78 rfl (mpn rfl) rfl, C.ks HV28.out w' (h.one 15 rfl)⟩) (ag (ag (bC 11 Ai86 (ag (ag (bC 11 Ai86 (bA 0 2 0 Ai33 As33 (bA 0 2 1 Ai33 As33 (ac (fun w' h => ⟨79, #[V [e0 v24, e1 v24], V [e0 v25, e1 v25]], zJ rfl call79 rfl (mpn rfl) rfl, C.km HV29.out w' (h.one 15 rfl)⟩) (ag (ag (bC 11 Ai86 (bA 0 2 2 Ai33 As33 (bA 0 2 3 Ai33 As33 (ac (fun w' h => ⟨79, #[V [e0 v19, e1 v19], V [e0 v21, e1 v21]], zJ rfl call79 rfl (mpn rfl) rfl, C.km HV30.out w' (h.one 15 rfl)⟩) (ac (fun w' h => ⟨77, #[V [e0 v29, e1 v29], V [e0 v30, e1 v30]], zJ rfl call77 rfl (mpn rfl) rfl, C.ka HV31.out w' (h.one 15 rfl)⟩) (ag (ag (bC 11 Ai86 (ag (ag (bC 11 Ai86 (bA 0 2 1 Ai33 As33 (bA 0 2 6 Ai33 As33 (ac (fun w' h => ⟨79, #[V [e0 v25, e1 v25], V [e0 v13, e1 v13]], zJ rfl call79 rfl (mpn rfl) rfl, C.km HV32.out w' (h.one 15 rfl)⟩) (ag (ag (bC 11 Ai86 (bA 0 2 2 Ai33 As33 (bA 0 2 7 Ai33 As33 (ac (fun w' h => ⟨79, #[V [e0 v19, e1 v19], V [e0 v8, e1 v8]], zJ rfl call79 rfl (mpn rfl) rfl, C.km HV33.out w' (h.one 15 rfl)⟩) (ac (fun w' h => ⟨77, #[V [e0 v32, e1 v32], V [e0 v33, e1 v33]], zJ rfl call77 rfl (mpn rfl) rfl, C.ka HV34.out w' (h.one 15 rfl)⟩) (ak (fun J => ⟨rfl, fun w' _ => ex_buildTE rfl rfl rfl rfl⟩) trivial))))))))))))))))))))))))))))))))))))))))))))))))
 intro _ w8 H8
 clear H7
 refine zF (l := [49]) rfl ?_
 refine sF 14 [e0 v28, e1 v28, e0 v31, e1 v31, e0 v34, e1 v34] [_, _, _, _, _, _, _, _, _, _, _, _, _, _, _, _] H8 o1_3 As129 fun w9 H9 => ?_
 clear H8
 refine zE (zA (wp_ret ?_))
 repeat (first | refine zK ?_ | refine zH ?_)
 have hf0 := cel_var (k := 6) H9.out.1 14 rfl Ai129 As129 rfl
 refine bodyPost_ret (v := V [e0 v28, e1 v28, e0 v31, e1 v31, e0 v34, e1 v34]) (by simp [results, Tryz.results100, asAddr, hf0]) rfl ?_
 exact ⟨rfl, H9.out.2⟩
theorem twiceT_2 {α : Type} {e0 e1 : α → Nat} {fa fs fm : α → α → α} {fi : α → α} {z u b : α} {tn : Value} (_C : Fd2 e0 e1 fa fs fm fi z) (x0 x1 y0 y1 t0 t1 : Nat) (hz : ∀ w, (Op.equalIn 10000 33 (V [t0, t1]) (V [0, 0])).run Tryz.prog w = .ok true w) (w : World) (hm : Mm w [(2, dtab)]) :
  Calls Tryz.prog 117 #[.agg (G2 tn (e0 u) (e1 u) (e0 b) (e1 b)).toArray, V [x0, x1, y0, y1, t0, t1]] w (Rt w (V [x0, x1, y0, y1, t0, t1])) := by
 have H0 : Hid (_ ∧ _) := ⟨hm, Below.refl w.heap.size w⟩
 clear hm
 have HZ : Hid _ := hz
 clear hz
 go_enter Tryz.func117, Tryz.ntmps117
 refine wp_seq ?_
 refine zB 3 [.made (G2 tn (e0 u) (e1 u) (e0 b) (e1 b)) 93, .made (cel [x0, x1, y0, y1, t0, t1]) 129, .made (cel [0, 0, 0, 0, 0, 0]) 129] (sB H0) ?ho1 ?he1
 case ho1 => exact am (zS rfl rfl) (am (ex_boxA rfl rfl) (am (ex_madeTE rfl) trivial))
 intro J w1 l hM hl
 have H1 : Hid (Mm w1 ([(J 0, G2 tn (e0 u) (e1 u) (e0 b) (e1 b)), (J 1, cel [x0, x1, y0, y1, t0, t1]), (J 2, cel [0, 0, 0, 0, 0, 0])] ++ _) ∧ _) := wB H0 hM hl [0, 1, 2]
 have o1_0 := vB H0 hM hl 0
 have o1_1 := vB H0 hM hl 1
 have o1_2 := vB H0 hM hl 2
 clear hM hl l
 generalize J 0 = J1_0 at H1 o1_0 ⊢
 generalize J 1 = J1_1 at H1 o1_1 ⊢
 generalize J 2 = J1_2 at H1 o1_2 ⊢
 clear J
 refine rN (wp_seq (wp_seq ?_))
 refine zC 2 [.q (V [x0, x1, y0, y1, t0, t1]), .call (.bool true)] H1 ?ho2 ?he2
 case ho2 => exact bA 0 6 1 Ai129 As129 (ac (fun w' h => eC call130 (isZero_2 _ _ _ _ _ _ true HZ.out w')) trivial)
 intro _ w2 H2
 clear H1
 refine rN (wp_cond_true rfl (wp_seq ?_))
 refine zC 1 [.q (V [x0, x1, y0, y1, t0, t1])] H2 ?ho3 ?he3
 case ho3 => exact bA 0 6 1 Ai129 As129 trivial
 intro _ w3 H3
 clear H2
 refine zF (l := [1]) rfl ?_
 refine sF 2 [x0, x1, y0, y1, t0, t1] [_, _, _, _] H3 o1_2 As129 fun w4 H4 => ?_
 clear H3
 refine zE (zA (wp_ret ?_))
 repeat (first | refine zK ?_ | refine zH ?_)
 have hf0 := cel_var (k := 6) H4.out.1 2 rfl Ai129 As129 rfl
 refine bodyPost_ret (v := V [x0, x1, y0, y1, t0, t1]) (by simp [results, Tryz.results117, asAddr, hf0]) rfl ?_
 exact ⟨rfl, H4.out.2⟩
set_option maxHeartbeats 4000000 in
theorem twiceV_2 {α : Type} {e0 e1 : α → Nat} {fa fs fm : α → α → α} {fi : α → α} {z u b : α} {tn : Value} (C : Fd2 e0 e1 fa fs fm fi z) (x y t : α) (hz : ∀ w, (Op.equalIn 10000 33 (V [e0 t, e1 t]) (V [0, 0])).run Tryz.prog w = .ok false w) (v1 v2 v3 v4 v5 v6 v7 v8 v9 v10 v11 v12 v13 v14 v15 v16 v17 v18 : α) (hv1 : fm y y = v1) (hv2 : fm y t = v2) (hv3 : fm t t = v3) (hv4 : fm b v3 = v4) (hv5 : fa (fa v4 v4) v4 = v5) (hv6 : fa v1 v1 = v6) (hv7 : fa v6 v6 = v7) (hv8 : fa v7 v7 = v8) (hv9 : fa (fa v5 v5) v5 = v9) (hv10 : fs v1 v9 = v10) (hv11 : fa v1 v5 = v11) (hv12 : fm x y = v12) (hv13 : fm v10 v12 = v13) (hv14 : fa v13 v13 = v14) (hv15 : fm v10 v11 = v15) (hv16 : fm v8 v5 = v16) (hv17 : fa v15 v16 = v17) (hv18 : fm v8 v2 = v18) (w : World) (hm : Mm w [(2, dtab)]) :
  Calls Tryz.prog 117 #[.agg (G2 tn (e0 u) (e1 u) (e0 b) (e1 b)).toArray, V [e0 x, e1 x, e0 y, e1 y, e0 t, e1 t]] w (Rt w (V [e0 v14, e1 v14, e0 v17, e1 v17, e0 v18, e1 v18])) := by
 have H0 : Hid (_ ∧ _) := ⟨hm, Below.refl w.heap.size w⟩
 clear hm
 have HZ : Hid _ := hz
 clear hz
 have HV1 : Hid _ := hv1
 clear hv1
 have HV2 : Hid _ := hv2
 clear hv2
 have HV3 : Hid _ := hv3
 clear hv3
 have HV4 : Hid _ := hv4
 clear hv4
 have HV5 : Hid _ := hv5
 clear hv5
 have HV6 : Hid _ := hv6
 clear hv6
 have HV7 : Hid _ := hv7
 clear hv7
 have HV8 : Hid _ := hv8
 clear hv8
 have HV9 : Hid _ := hv9
 clear hv9
 have HV10 : Hid _ := hv10
 clear hv10
 have HV11 : Hid _ := hv11
 clear hv11
 have HV12 : Hid _ := hv12
 clear hv12
 have HV13 : Hid _ := hv13
 clear hv13
 have HV14 : Hid _ := hv14
 clear hv14
 have HV15 : Hid _ := hv15
 clear hv15
 have HV16 : Hid _ := hv16
 clear hv16
 have HV17 : Hid _ := hv17
 clear hv17
 have HV18 : Hid _ := hv18
 clear hv18
 go_enter Tryz.func117, Tryz.ntmps117
 refine wp_seq ?_
 refine zB 3 [.made (G2 tn (e0 u) (e1 u) (e0 b) (e1 b)) 93, .made (cel [e0 x, e1 x, e0 y, e1 y, e0 t, e1 t]) 129, .made (cel [0, 0, 0, 0, 0, 0]) 129] (sB H0) ?ho1 ?he1
 case ho1 => exact am (zS rfl rfl) (am (ex_boxA rfl rfl) (am (ex_madeTE rfl) trivial))
 intro J w1 l hM hl
 have H1 : Hid (Mm w1 ([(J 0, G2 tn (e0 u) (e1 u) (e0 b) (e1 b)), (J 1, cel [e0 x, e1 x, e0 y, e1 y, e0 t, e1 t]), (J 2, cel [0, 0, 0, 0, 0, 0])] ++ _) ∧ _) := wB H0 hM hl [0, 1, 2]
 have o1_0 := vB H0 hM hl 0
 have o1_1 := vB H0 hM hl 1
 have o1_2 := vB H0 hM hl 2
 clear hM hl l
 generalize J 0 = J1_0 at H1 o1_0 ⊢
 generalize J 1 = J1_1 at H1 o1_1 ⊢
 generalize J 2 = J1_2 at H1 o1_2 ⊢
 clear J
 refine rN (wp_seq (wp_seq ?_))
 refine zC 2 [.q (V [e0 x, e1 x, e0 y, e1 y, e0 t, e1 t]), .call (.bool false)] H1 ?ho2 ?he2
 case ho2 => exact bA 0 6 1 Ai129 As129 (ac (fun w' h => eC call130 (isZero_2 _ _ _ _ _ _ false HZ.out w')) trivial)
 intro _ w2 H2
 clear H1
 refine rN (wp_cond_false rfl ?_)
 refine wp_skip (zA (wp_seq ?_))
 refine zQ 20 [.q (PT J1_0 0), .q (PT J1_0 2), .q (.func (.func 79) #[] #[]), .q (PT J1_1 12), .q (V [e0 y, e1 y]), .q (PT J1_1 12), .q (V [e0 y, e1 y]), .call (V [e0 v1, e1 v1]), .q (PT J1_0 0), .q (PT J1_0 2), .q (.func (.func 79) #[] #[]), .q (PT J1_1 12), .q (V [e0 y, e1 y]), .q (PT J1_1 24), .q (V [e0 t, e1 t]), .call (V [e0 v2, e1 v2]), .made (cel [0, 0]) 33, .made (cel [0, 0]) 33, .laid 16 (cel [0, 0]) (cel [e0 v1, e1 v1]), .laid 17 (cel [0, 0]) (cel [e0 v2, e1 v2])] (sB H2) ?ho3 ?he3 (hL := ?hL3)
 case hL3 => exact ⟨⟨_, rfl⟩, ⟨_, rfl⟩, trivial⟩
 case ho3 => exact ag (ag (bC 0 Ai86 (ag (bA 2 2 1 Ai33 As33 (ag (bA 2 2 1 Ai33 As33 (ac (fun w' h => ⟨79, #[V [e0 y, e1 y], V [e0 y, e1 y]], zJ rfl call79 rfl (mpn rfl) rfl, C.km HV1.out w' (h.one 3 rfl)⟩) (ag (ag (bC 0 Ai86 (ag (bA 2 2 1 Ai33 As33 (ag (bA 4 2 1 Ai33 As33 (ac (fun w' h => ⟨79, #[V [e0 y, e1 y], V [e0 t, e1 t]], zJ rfl call79 rfl (mpn rfl) rfl, C.km HV2.out w' (h.one 3 rfl)⟩) (am (yB rfl) (am (yB rfl) (ak (fun J => ⟨rfl, rfl, rfl, fun w' h => ex_laidA h rfl As33 rfl rfl rfl⟩) (ak (fun J => ⟨rfl, rfl, rfl, fun w' h => ex_laidA h rfl As33 rfl rfl rfl⟩) trivial)))))))))))))))))))
 intro J w3 l hM hl
 have H3 : Hid (Mm w3 ([(J 16, cel [e0 v1, e1 v1]), (J 17, cel [e0 v2, e1 v2])] ++ _) ∧ _) := wB H2 hM hl [16, 17]
 have o3_16 := vB H2 hM hl 16
 have o3_17 := vB H2 hM hl 17
 clear hM hl l H2
 generalize J 16 = J3_16 at H3 o3_16 ⊢
 generalize J 17 = J3_17 at H3 o3_17 ⊢
 clear J
 refine rN (wp_seq ?_)
 refine zQ 18 [.q (.agg (G2 tn (e0 u) (e1 u) (e0 b) (e1 b)).toArray), .q (PT J1_0 0), .q (PT J1_0 2), .q (.func (.func 79) #[] #[]), .q (PT J1_0 17), .q (V [e0 b, e1 b]), .q (PT J1_0 0), .q (PT J1_0 2), .q (.func (.func 79) #[] #[]), .q (PT J1_1 24), .q (V [e0 t, e1 t]), .q (PT J1_1 24), .q (V [e0 t, e1 t]), .call (V [e0 v3, e1 v3]), .call (V [e0 v4, e1 v4]), .call (V [e0 v5, e1 v5]), .made (cel [0, 0]) 33, .laid 16 (cel [0, 0]) (cel [e0 v5, e1 v5])] (sB H3) ?ho4 ?he4 (hL := ?hL4)
 case hL4 => exact ⟨⟨_, rfl⟩, trivial⟩
 case ho4 => exact bT 2 Ai93 As93 (ag (ag (bC 2 Ai86 (ag (bT 2 Ai33 As33 (ag (ag (bC 2 Ai86 (ag (bA 4 2 3 Ai33 As33 (ag (bA 4 2 3 Ai33 As33 (ac (fun w' h => ⟨79, #[V [e0 t, e1 t], V [e0 t, e1 t]], zJ rfl call79 rfl (mpn rfl) rfl, C.km HV3.out w' (h.one 5 rfl)⟩) (ac (fun w' h => ⟨79, #[V [e0 b, e1 b], V [e0 v3, e1 v3]], zJ rfl call79 rfl (mpn rfl) rfl, C.km HV4.out w' (h.one 5 rfl)⟩) (ac (fun w' h => eC call127 (thriceN_2 C HV5.out w' (h.one 5 rfl))) (am (yB rfl) (ak (fun J => ⟨rfl, rfl, rfl, fun w' h => ex_laidA h rfl As33 rfl rfl rfl⟩) trivial)))))))))))))))))
 intro J w4 l hM hl
 have H4 : Hid (Mm w4 ([(J 16, cel [e0 v5, e1 v5])] ++ _) ∧ _) := wB H3 hM hl [16]
 have o4_16 := vB H3 hM hl 16
 clear hM hl l H3
 generalize J 16 = J4_16 at H4 o4_16 ⊢
 clear J
 refine rN (wp_seq ?_)
 refine zQ 9 [.q (.agg (G2 tn (e0 u) (e1 u) (e0 b) (e1 b)).toArray), .q (.agg (G2 tn (e0 u) (e1 u) (e0 b) (e1 b)).toArray), .q (.agg (G2 tn (e0 u) (e1 u) (e0 b) (e1 b)).toArray), .q (V [e0 v1, e1 v1]), .call (V [e0 v6, e1 v6]), .call (V [e0 v7, e1 v7]), .call (V [e0 v8, e1 v8]), .made (cel [0, 0]) 33, .laid 7 (cel [0, 0]) (cel [e0 v8, e1 v8])] (sB H4) ?ho5 ?he5 (hL := ?hL5)
 case hL5 => exact ⟨⟨_, rfl⟩, trivial⟩
 case ho5 => exact bT 3 Ai93 As93 (bT 3 Ai93 As93 (bT 3 Ai93 As93 (bA 0 2 1 Ai33 As33 (ac (fun w' h => eC call141 (doubleN_2 C HV6.out w' (h.one 6 rfl))) (ac (fun w' h => eC call141 (doubleN_2 C HV7.out w' (h.one 6 rfl))) (ac (fun w' h => eC call141 (doubleN_2 C HV8.out w' (h.one 6 rfl))) (am (yB rfl) (ak (fun J => ⟨rfl, rfl, rfl, fun w' h => ex_laidA h rfl As33 rfl rfl rfl⟩) trivial))))))))
 intro J w5 l hM hl
 have H5 : Hid (Mm w5 ([(J 7, cel [e0 v8, e1 v8])] ++ _) ∧ _) := wB H4 hM hl [7]
 have o5_7 := vB H4 hM hl 7
 clear hM hl l H4
 generalize J 7 = J5_7 at H5 o5_7 ⊢
 clear J
 refine rN (wp_seq ?_)
 refine zQ 18 [.q (PT J1_0 0), .q (PT J1_0 1), .q (.func (.func 78) #[] #[]), .q (V [e0 v1, e1 v1]), .q (.agg (G2 tn (e0 u) (e1 u) (e0 b) (e1 b)).toArray), .q (V [e0 v5, e1 v5]), .call (V [e0 v9, e1 v9]), .call (V [e0 v10, e1 v10]), .q (PT J1_0 0), .q (PT J1_0 0), .q (.func (.func 77) #[] #[]), .q (V [e0 v1, e1 v1]), .q (V [e0 v5, e1 v5]), .call (V [e0 v11, e1 v11]), .made (cel [0, 0]) 33, .made (cel [0, 0]) 33, .laid 14 (cel [0, 0]) (cel [e0 v10, e1 v10]), .laid 15 (cel [0, 0]) (cel [e0 v11, e1 v11])] (sB H5) ?ho6 ?he6 (hL := ?hL6)
 case hL6 => exact ⟨⟨_, rfl⟩, ⟨_, rfl⟩, trivial⟩
 case ho6 => exact ag (ag (bC 4 Ai86 (bA 0 2 2 Ai33 As33 (bT 4 Ai93 As93 (bA 0 2 1 Ai33 As33 (ac (fun w' h => eC call127 (thriceN_2 C HV9.out w' (h.one 7 rfl))) (ac (fun w' h => ⟨78, #[V [e0 v1, e1 v1], V [e0 v9, e1 v9]], zJ rfl call78 rfl (mpn rfl) rfl, C.ks HV10.out w' (h.one 7 rfl)⟩) (ag (ag (bC 4 Ai86 (bA 0 2 2 Ai33 As33 (bA 0 2 1 Ai33 As33 (ac (fun w' h => ⟨77, #[V [e0 v1, e1 v1], V [e0 v5, e1 v5]], zJ rfl call77 rfl (mpn rfl) rfl, C.ka HV11.out w' (h.one 7 rfl)⟩) (am (yB rfl) (am (yB rfl) (ak (fun J => ⟨rfl, rfl, rfl, fun w' h => ex_laidA h rfl As33 rfl rfl rfl⟩) (ak (fun J => ⟨rfl, rfl, rfl, fun w' h => ex_laidA h rfl As33 rfl rfl rfl⟩) trivial)))))))))))))))))
 intro J w6 l hM hl
 have H6 : Hid (Mm w6 ([(J 14, cel [e0 v10, e1 v10]), (J 15, cel [e0 v11, e1 v11])] ++ _) ∧ _) := wB H5 hM hl [14, 15]
 have o6_14 := vB H5 hM hl 14
 have o6_15 := vB H5 hM hl 15
 clear hM hl l H5
 generalize J 14 = J6_14 at H6 o6_14 ⊢
 generalize J 15 = J6_15 at H6 o6_15 ⊢
 clear J
 refine rN (wp_seq ?_)
 refine zN 38 [.q (.agg (G2 tn (e0 u) (e1 u) (e0 b) (e1 b)).toArray), .q (PT J1_0 0), .q (PT J1_0 2), .q (.func (.func 79) #[] #[]), .q (V [e0 v10, e1 v10]), .q (PT J1_0 0), .q (PT J1_0 2), .q (.func (.func 79) #[] #[]), .q (PT J1_1 0), .q (V [e0 x, e1 x]), .q (PT J1_1 12), .q (V [e0 y, e1 y]), .call (V [e0 v12, e1 v12]), .call (V [e0 v13, e1 v13]), .call (V [e0 v14, e1 v14]), .q (PT J1_0 0), .q (PT J1_0 0), .q (.func (.func 77) #[] #[]), .q (PT J1_0 0), .q (PT J1_0 2), .q (.func (.func 79) #[] #[]), .q (V [e0 v10, e1 v10]), .q (V [e0 v11, e1 v11]), .call (V [e0 v15, e1 v15]), .q (PT J1_0 0), .q (PT J1_0 2), .q (.func (.func 79) #[] #[]), .q (V [e0 v8, e1 v8]), .q (V [e0 v5, e1 v5]), .call (V [e0 v16, e1 v16]), .call (V [e0 v17, e1 v17]), .q (PT J1_0 0), .q (PT J1_0 2), .q (.func (.func 79) #[] #[]), .q (V [e0 v8, e1 v8]), .q (V [e0 v2, e1 v2]), .call (V [e0 v18, e1 v18]), .q (V [e0 v14, e1 v14, e0 v17, e1 v17, e0 v18, e1 v18])] H6 ?ho7 ?he7 (hL := ?hL7)
 case hL7 => exact trivial
 case ho7 => exact bT 6 Ai93 As93 (ag (ag (bC 6 Ai86 (bA 0 2 0 Ai33 As33 (ag (ag (bC 6 Ai86 (ag (bA 0 2 7 Ai33 As33 (ag (bA 2 2 7 Ai33 As33 (ac (fun w' h => ⟨79, #[V [e0 x, e1 x], V [e0 y, e1 y]], zJ rfl call79 rfl (mpn rfl) rfl, C.km HV12.out w' (h.one 9 rfl)⟩) (ac (fun w' h => ⟨79, #[V [e0 v10, e1 v10], V [e0 v12, e1 v12]], zJ rfl call79 rfl (mpn rfl) rfl, C.km HV13.out w' (h.one 9 rfl)⟩) (ac (fun w' h => eC call141 (doubleN_2 C HV14.out w' (h.one 9 rfl))) (ag (ag (bC 6 Ai86 (ag (ag (bC 6 Ai86 (bA 0 2 0 Ai33 As33 (bA 0 2 1 Ai33 As33 (ac (fun w' h => ⟨79, #[V [e0 v10, e1 v10], V [e0 v11, e1 v11]], zJ rfl call79 rfl (mpn rfl) rfl, C.km HV15.out w' (h.one 9 rfl)⟩) (ag (ag (bC 6 Ai86 (bA 0 2 2 Ai33 As33 (bA 0 2 3 Ai33 As33 (ac (fun w' h => ⟨79, #[V [e0 v8, e1 v8], V [e0 v5, e1 v5]], zJ rfl call79 rfl (mpn rfl) rfl, C.km HV16.out w' (h.one 9 rfl)⟩) (ac (fun w' h => ⟨77, #[V [e0 v15, e1 v15], V [e0 v16, e1 v16]], zJ rfl call77 rfl (mpn rfl) rfl, C.ka HV17.out w' (h.one 9 rfl)⟩) (ag (ag (bC 6 Ai86 (bA 0 2 2 Ai33 As33 (bA 0 2 5 Ai33 As33 (ac (fun w' h => ⟨79, #[V [e0 v8, e1 v8], V [e0 v2, e1 v2]], zJ rfl call79 rfl (mpn rfl) rfl, C.km HV18.out w' (h.one 9 rfl)⟩) (ak (fun J => ⟨rfl, fun w' _ => ex_buildTE rfl rfl rfl rfl⟩) trivial)))))))))))))))))))))))))))))))))))))
 intro _ w7 H7
 clear H6
 refine zF (l := [38]) rfl ?_
 refine sF 8 [e0 v14, e1 v14, e0 v17, e1 v17, e0 v18, e1 v18] [_, _, _, _, _, _, _, _, _, _] H7 o1_2 As129 fun w8 H8 => ?_
 clear H7
 refine zE (zA (wp_ret ?_))
 repeat (first | refine zK ?_ | refine zH ?_)
 have hf0 := cel_var (k := 6) H8.out.1 8 rfl Ai129 As129 rfl
 refine bodyPost_ret (v := V [e0 v14, e1 v14, e0 v17, e1 v17, e0 v18, e1 v18]) (by simp [results, Tryz.results117, asAddr, hf0]) rfl ?_
 exact ⟨rfl, H8.out.2⟩
end Rg
end Go.Proofs.YtmanelnacifgcaaGreatDoor
end
