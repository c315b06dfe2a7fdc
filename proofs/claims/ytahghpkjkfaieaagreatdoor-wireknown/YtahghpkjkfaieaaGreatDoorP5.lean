/- Texts of the proof, joined. -/
import Derived.Test.YtahghpkjkfaieaaGreatDoorP4
import Derived.WalkKit
set_option maxRecDepth 100000
section
namespace Go.Proofs.YtahghpkjkfaieaaGreatDoor
open Go.RowKit
namespace Rg
theorem call117 : CO 117 := by intro args w; go_simp
theorem call116 : CO 116 := by intro args w; go_simp
theorem call165 : CO 165 := by intro args w; go_simp
theorem ex_loadI {ρ : Operand → Value} {o : Oper} {x : Operand} {g off : Nat} {v : Value} {cs : List Value} {w : World} {l : List (Nat × List Value)} (h : Mm w l) (k : Nat) (hk : l[k]? = some (g, cs)) (ho : o.op = .load 3 x) (hx : ρ x = PT g off) (hc : cs[off]? = some v) :
  (execOp ρ o).run Tryz.prog w = .ok (.value v) w := by
 have c0 := h.cell (List.mem_of_getElem? hk) hc
 clear h hk hc
 simp only [execOp, ho, hx]
 go_simp
theorem ex_loadB {ρ : Operand → Value} {o : Oper} {x : Operand} {g off : Nat} {v : Value} {cs : List Value} {w : World} {l : List (Nat × List Value)} (h : Mm w l) (k : Nat) (hk : l[k]? = some (g, cs)) (ho : o.op = .load 4 x) (hx : ρ x = PT g off) (hc : cs[off]? = some v) :
  (execOp ρ o).run Tryz.prog w = .ok (.value v) w := by
 have c0 := h.cell (List.mem_of_getElem? hk) hc
 clear h hk hc
 simp only [execOp, ho, hx]
 go_simp
/-- The table of math/bits. -/
def dtab : List Value := Lib.deBruijn64tab.map fun k => .int .u8 ((k : Nat) : Int)
theorem tab_at {w : World} (h : Mm w [(0, dtab)]) : TabAt 0 Lib.deBruijn64tab w := fun j hj => by
 refine h.get 0 rfl j ?_
 unfold dtab
 rw [List.getElem?_map, List.getElem?_eq_getElem hj, Option.map_some, List.getD_eq_getElem?_getD, List.getElem?_eq_getElem hj, Option.getD_some]
theorem tz_word (x : Nat) (hx : x < 18446744073709551616) (w : World) (ht : Mm w [(0, dtab)]) : Calls Tryz.prog 165 #[.int .u64 x] w (Rt w (.int .i64 (Lib.ctz 64 x))) :=
 (Any7.bits_TrailingZeros64 Tryz.lays29 x hx w (fun _ => tab_at ht)).mono fun _ _ ⟨h1, h2⟩ => ⟨h1, h2 ▸ Below.refl _ _⟩
/-- What stands in memory of a walk. -/
abbrev wkc (o r u v : Nat) (h : Int) (t : Bool) : List Value := [.int .u64 (wd o 0), .int .u64 (wd o 1), .int .u64 (wd o 2), .int .u64 (wd o 3), .int .u64 (wd o 4), .int .u64 (wd o 5), .int .u64 (wd r 0), .int .u64 (wd r 1), .int .u64 (wd r 2), .int .u64 (wd r 3), .int .u64 (wd r 4), .int .u64 (wd r 5), .int .u64 (wd u 0), .int .u64 (wd u 1), .int .u64 (wd u 2), .int .u64 (wd u 3), .int .u64 (wd u 4), .int .u64 (wd u 5), .int .u64 (wd v 0), .int .u64 (wd v 1), .int .u64 (wd v 2), .int .u64 (wd v 3), .int .u64 (wd v 4), .int .u64 (wd v 5), .int .i64 h, .bool t]
theorem trailing_gen (r m c : Nat) (hm6 : m < 6) (hc64 : c ≤ 64) (hz0 : ∀ j, j < m → wd r j = 0) (hm0 : wd r m ≠ 0)
  (c72 : ∀ w, Mm w [(0, dtab)] → Calls Tryz.prog 165 #[.int .u64 (wd r m)] w (Rt w (.int .i64 ((c : Nat) : Int)))) (w : World) (hm : Mm w [(0, dtab)]) :
  Calls Tryz.prog 116 #[N r] w (Rt w (.int .i64 ((64 * m + c : Nat) : Int))) := by
 have H0 : Hid (_ ∧ _) := ⟨hm, Below.refl w.heap.size w⟩
 clear hm
 have C72 : Hid _ := c72
 have HZ : Hid _ := hz0
 have HM : Hid _ := hm0
 clear c72 hz0 hm0
 go_enter Tryz.func116, Tryz.ntmps116
 refine wp_seq ?_
 refine zI 2 [.made (zE r) 24, .q (.int .i64 0)] (sB H0) ?ho1 ?he1
 case ho1 => exact am (ex_box6 rfl rfl) (ar trivial)
 intro J w1 l hM hl
 have H1 : Hid (Mm w1 ([(J 0, zE r)] ++ _) ∧ _) := wB H0 hM hl [0]
 have o1_0 := vB H0 hM hl 0
 clear hM hl l
 generalize J 0 = J1_0 at H1 o1_0 ⊢
 clear J
 refine rN (wp_seq (wp_seq ?_))
 refine zM 2 [.q (N r), .q (.int .i64 0)] H1 ?ho2 ?he2
 case ho2 => exact bN 0 (ar trivial)
 intro _ w2 H2
 clear H1
 refine rN (wp_block ?_)
 refine loop_ghost (α := Nat) (fun i a' w' => ∃ s0 : Nat → Value, a' = ⟨#[N r, PT J1_0 0, s0 2, s0 3, s0 4, N r, .int .i64 ((i : Nat) : Int), s0 7, s0 8, s0 9, s0 10, s0 11, s0 12, s0 13, s0 14, s0 15, s0 16, s0 17], []⟩ ∧ (Mm w' [(J1_0, zE r), (0, dtab)] ∧ Below w.heap.size w w') ∧ i ≤ m) (fun i => m - i) 0 ?st0 ?rd0
 case st0 => exact ⟨(slotfn [ud, ud, .int .i64 0, ud, ud, ud, ud, ud, ud, ud, ud, ud, ud, ud, ud, ud, ud, ud]), rfl, ⟨H2.out.1, H2.out.2⟩, by omega⟩
 intro i a' w3 hI
 obtain ⟨s0, rfl, hMB, hk0⟩ := hI
 have H3 : Hid (_ ∧ _) := hMB
 clear hMB H2
 have hi6 : i < 6 := by omega
 by_cases hz : wd r i = 0
 ·have hrd : True := trivial
  clear hrd
  have hz' : wd r i = 0 := hz
  refine wp_seq ?_
  refine zM 1 [.q (.bool true)] H3 ?ho3 ?he3
  case ho3 => exact ak (by refine fun J => ⟨rfl, fun w' h => ?_⟩; clear h; go_simp <;> omega) trivial
  intro _ w4 H4
  clear H3
  refine rN (wp_seq ?_)
  refine wp_cond_true rfl (wp_skip ?_)
  refine zB (wp_seq ?_)
  refine wp_block (wp_seq ?_)
  refine zM 4 [.q (.int .i64 ((i : Nat) : Int)), .q (.int .u64 (wd r i)), .q (.int .i64 ((i : Nat) : Int)), .q (.int .u64 (wd r i))] H4 ?ho4 ?he4
  case ho4 => exact ar (ak (fun J => ⟨rfl, fun w' _ => ex_index6 rfl rfl rfl hi6⟩) (ar (ar trivial)))
  intro _ w5 H5
  clear H4
  refine rN (wp_seq ?_)
  refine zM 2 [.q (.int .u64 (wd r i)), .q (.bool false)] H5 ?ho5 ?he5
  case ho5 => exact ar (ak (by refine fun J => ⟨rfl, fun w' h => ?_⟩; clear h; go_simp <;> omega) trivial)
  intro _ w6 H6
  clear H5
  refine rN (wp_cond_false rfl ?_)
  refine wp_skip (zS (zB ?_))
  refine zM 1 [.q (.int .i64 ((i + 1 : Nat) : Int))] H6 ?ho6 ?he6
  case ho6 => exact ak (by refine fun J => ⟨rfl, fun w' h => ?_⟩; clear h; go_simp; rw [IntKind.wrap_i64]; omega) trivial
  intro _ w7 H7
  clear H6
  refine zR (l := [1]) rfl ?_
  refine zA (d := 6) rfl rfl rfl rfl ?_
  simp only [Act.put, sa, sz, ss]
  refine zC (zB ?_)
  exact ⟨i + 1, ⟨(slotfn [ud, ud, s0 2, .int .i64 ((i : Nat) : Int), .int .u64 (wd r i), ud, ud, .bool true, .int .i64 ((i : Nat) : Int), .int .u64 (wd r i), .int .u64 (wd r i), .bool false, s0 12, s0 13, s0 14, s0 15, s0 16, .int .i64 ((i + 1 : Nat) : Int)]), rfl, ⟨H7.out.1, H7.out.2⟩, by have h1 : i ≠ m := fun e => HM.out (e ▸ hz'); omega⟩, by have h1 : i ≠ m := fun e => HM.out (e ▸ hz'); omega⟩
 ·have hrd : True := trivial
  clear hrd
  have hij : i = m := by
   apply Classical.byContradiction
   intro hne
   exact hz (HZ.out i (by omega))
  subst hij
  refine wp_seq ?_
  refine zM 1 [.q (.bool true)] H3 ?ho7 ?he7
  case ho7 => exact ak (by refine fun J => ⟨rfl, fun w' h => ?_⟩; clear h; go_simp <;> omega) trivial
  intro _ w8 H8
  clear H3
  refine rN (wp_seq ?_)
  refine wp_cond_true rfl (wp_skip ?_)
  refine zB (wp_seq ?_)
  refine wp_block (wp_seq ?_)
  refine zM 4 [.q (.int .i64 ((i : Nat) : Int)), .q (.int .u64 (wd r i)), .q (.int .i64 ((i : Nat) : Int)), .q (.int .u64 (wd r i))] H8 ?ho8 ?he8
  case ho8 => exact ar (ak (fun J => ⟨rfl, fun w' _ => ex_index6 rfl rfl rfl hi6⟩) (ar (ar trivial)))
  intro _ w9 H9
  clear H8
  refine rN (wp_seq ?_)
  refine zM 2 [.q (.int .u64 (wd r i)), .q (.bool true)] H9 ?ho9 ?he9
  case ho9 => exact ar (ak (by refine fun J => ⟨rfl, fun w' h => ?_⟩; clear h; go_simp <;> omega) trivial)
  intro _ w10 H10
  clear H9
  refine rN (wp_cond_true rfl (wp_seq ?_))
  refine zM 6 [.q (.int .i64 ((i : Nat) : Int)), .q (.int .i64 ((64 * i : Nat) : Int)), .q (.int .u64 (wd r i)), .call (.int .i64 ((c : Nat) : Int)), .q (.int .i64 ((64 * i + c : Nat) : Int)), .q (.int .i64 ((64 * i + c : Nat) : Int))] H10 ?ho10 ?he10
  case ho10 => exact ar (ak (by refine fun J => ⟨rfl, fun w' h => ?_⟩; clear h; go_simp; rw [IntKind.wrap_i64]; omega) (ar (ac (fun w' h => eC call165 (C72.out w' (h.one 1 rfl))) (ak (by refine fun J => ⟨rfl, fun w' h => ?_⟩; clear h; go_simp; rw [IntKind.wrap_i64]; omega) (ar trivial)))))
  intro _ w11 H11
  clear H10
  refine rN (wp_ret ?_)
  repeat (first | refine zL ?_ | refine zK ?_)
  refine bodyPost_ret (v := .int .i64 ((64 * i + c : Nat) : Int)) (by simp [results, Tryz.results116, go_sem, *]) rfl ?_
  exact ⟨rfl, H11.out.2⟩
theorem halve_gen (g o r u v k r' u' : Nat) (h : Int) (t : Bool) (hk : k < 384) (h0 : 0 ≤ h) (h1 : h < 10000)
  (c66 : ∀ w, Mm w [(0, dtab)] → Calls Tryz.prog 116 #[N r] w (Rt w (.int .i64 ((k : Nat) : Int))))
  (c53 : ∀ w, Calls Tryz.prog 117 #[N r, .int .i64 (-((k : Nat) : Int))] w (Rt w (N r')))
  (d53 : ∀ w, Calls Tryz.prog 117 #[N u, .int .i64 ((k : Nat) : Int)] w (Rt w (N u'))) (w : World) (hm : Mm w [(g, wkc o r u v h t), (0, dtab)]) :
  Calls Tryz.prog 81 #[PT g 0] w fun e w' => e = .returned (.tuple #[]) ∧ Mm w' [(g, wkc o r' u' v (h + ((k : Nat) : Int)) t)] ∧ Kp g w w' := by
 have H0 : Hid (_ ∧ _) := ⟨hm, Kp.refl g w⟩
 clear hm
 have C66 : Hid _ := c66
 have C53 : Hid _ := c53
 have D53 : Hid _ := d53
 clear c66 c53 d53
 go_enter Tryz.func81, Tryz.ntmps81
 refine wp_seq ?_
 refine zI 6 [.q (PT g 0), .q (PT g 0), .q (PT g 6), .q (N r), .call (.int .i64 ((k : Nat) : Int)), .q (.int .i64 ((k : Nat) : Int))] (sB H0) ?ho1 ?he1
 case ho1 => exact ar (ak (by refine fun J => ⟨rfl, fun w' hh => ?_⟩; clear hh; go_simp) (ak (by refine fun J => ⟨rfl, fun w' hh => ?_⟩; clear hh; go_simp) (ak (fun J => ⟨rfl, fun w' hh => ex_load6 hh 0 rfl rfl rfl rfl⟩) (ak (fun J => ⟨rfl, fun w' hh => eC call116 (C66.out w' (hh.one 1 rfl))⟩) (ar trivial)))))
 intro J w1 l hM hl
 have H1 := keepK H0 hM.below
 clear hM hl l J
 refine rN (wp_seq ?_)
 refine zI 10 [.q (PT g 0), .q (PT g 0), .q (PT g 0), .q (PT g 6), .q (N r), .q (.int .i64 ((k : Nat) : Int)), .q (.int .i64 (-((k : Nat) : Int))), .call (N r'), .q (PT g 0), .q (PT g 6)] (sB H1) ?ho2 ?he2
 case ho2 => exact ar (ar (ak (by refine fun J => ⟨rfl, fun w' hh => ?_⟩; clear hh; go_simp) (ak (by refine fun J => ⟨rfl, fun w' hh => ?_⟩; clear hh; go_simp) (ak (fun J => ⟨rfl, fun w' hh => ex_load6 hh 0 rfl rfl rfl rfl⟩) (ar (ak (by refine fun J => ⟨rfl, fun w' hh => ?_⟩; clear hh; go_simp; rw [IntKind.wrap_i64]; omega) (ak (fun J => ⟨rfl, fun w' hh => eC call117 (C53.out w')⟩) (ak (by refine fun J => ⟨rfl, fun w' hh => ?_⟩; clear hh; go_simp) (ak (by refine fun J => ⟨rfl, fun w' hh => ?_⟩; clear hh; go_simp) trivial)))))))))
 intro J w2 l hM hl
 have H2 := keepK H1 hM.below
 clear hM hl l H1 J
 refine zR (l := [10]) rfl ?_
 refine sH rfl (fun h => zQ h 0 rfl rfl rfl rfl (Nat.le_of_ble_eq_true rfl)) 0 [(_, wkc o r' u v h t), _] H2 (Or.inl rfl) fun w3 H3 => ?_
 clear H2
 refine zC (zB (wp_seq ?_))
 refine zI 9 [.q (PT g 0), .q (PT g 0), .q (PT g 0), .q (PT g 12), .q (N u), .q (.int .i64 ((k : Nat) : Int)), .call (N u'), .q (PT g 0), .q (PT g 12)] (sB H3) ?ho3 ?he3
 case ho3 => exact ar (ar (ak (by refine fun J => ⟨rfl, fun w' hh => ?_⟩; clear hh; go_simp) (ak (by refine fun J => ⟨rfl, fun w' hh => ?_⟩; clear hh; go_simp) (ak (fun J => ⟨rfl, fun w' hh => ex_load6 hh 0 rfl rfl rfl rfl⟩) (ar (ak (fun J => ⟨rfl, fun w' hh => eC call117 (D53.out w')⟩) (ak (by refine fun J => ⟨rfl, fun w' hh => ?_⟩; clear hh; go_simp) (ak (by refine fun J => ⟨rfl, fun w' hh => ?_⟩; clear hh; go_simp) trivial))))))))
 intro J w4 l hM hl
 have H4 := keepK H3 hM.below
 clear hM hl l H3 J
 refine zR (l := [9]) rfl ?_
 refine sH rfl (fun h => zQ h 0 rfl rfl rfl rfl (Nat.le_of_ble_eq_true rfl)) 0 [(_, wkc o r' u' v h t), _] H4 (Or.inl rfl) fun w5 H5 => ?_
 clear H4
 refine zC (zB ?_)
 refine zI 8 [.q (PT g 0), .q (PT g 0), .q (PT g 24), .q (.int .i64 h), .q (.int .i64 ((k : Nat) : Int)), .q (.int .i64 (h + ((k : Nat) : Int))), .q (PT g 0), .q (PT g 24)] (sB H5) ?ho4 ?he4
 case ho4 => exact ar (ak (by refine fun J => ⟨rfl, fun w' hh => ?_⟩; clear hh; go_simp) (ak (by refine fun J => ⟨rfl, fun w' hh => ?_⟩; clear hh; go_simp) (ak (fun J => ⟨rfl, fun w' hh => ex_loadI hh 0 rfl rfl rfl rfl⟩) (ar (ak (by refine fun J => ⟨rfl, fun w' hh => ?_⟩; clear hh; go_simp; rw [IntKind.wrap_i64]; omega) (ak (by refine fun J => ⟨rfl, fun w' hh => ?_⟩; clear hh; go_simp) (ak (by refine fun J => ⟨rfl, fun w' hh => ?_⟩; clear hh; go_simp) trivial)))))))
 intro J w6 l hM hl
 have H6 := keepK H5 hM.below
 clear hM hl l H5 J
 refine zR (l := [8]) rfl ?_
 refine sH rfl (fun h => ex_storeI h 0 rfl rfl As3 rfl rfl (Nat.le_of_ble_eq_true rfl)) 0 [(_, wkc o r' u' v (h + ((k : Nat) : Int)) t), _] H6 (Or.inl rfl) fun w7 H7 => ?_
 clear H6
 refine zC ?_
 refine bodyPost_end (v := .tuple #[]) (by simp [results, Tryz.results81, go_sem]) rfl ?_
 exact ⟨rfl, H7.out.1.one 0 rfl, H7.out.2⟩
theorem subtract_1 (g o r u v x y : Nat) (h : Int) (t : Bool)
  (c31 : ∀ w, Calls Tryz.prog 85 #[N r, N o] w (Rt w (.int .i64 (-1))))
  (c40 : ∀ w, Calls Tryz.prog 113 #[N o, N r] w (Rt w (.tuple #[N x, .bool false])))
  (c45 : ∀ w, Calls Tryz.prog 78 #[N u, N v] w (Rt w (.tuple #[N y, .bool false]))) (w : World) (hm : Mm w [(g, wkc o r u v h t)]) :
  Calls Tryz.prog 82 #[PT g 0] w fun e w' => e = .returned (.tuple #[]) ∧ Mm w' [(g, wkc r x v y h (!t))] ∧ Kp g w w' := by
 have H0 : Hid (_ ∧ _) := ⟨hm, Kp.refl g w⟩
 clear hm
 have C31 : Hid _ := c31
 have C40 : Hid _ := c40
 have C45 : Hid _ := c45
 clear c31 c40 c45
 go_enter Tryz.func82, Tryz.ntmps82
 refine wp_seq (wp_seq ?_)
 refine walk_anyA 10 [.q (PT g 0), .q (PT g 0), .q (PT g 6), .q (N r), .q (PT g 0), .q (PT g 0), .q (PT g 0), .q (N o), .call (.int .i64 (-1)), .q (.bool true)] (sB H0) ?ho1 ?he1
 case ho1 => exact ar (ak (by refine fun J => ⟨rfl, fun w' hh => ?_⟩; clear hh; go_simp) (ak (by refine fun J => ⟨rfl, fun w' hh => ?_⟩; clear hh; go_simp) (ak (fun J => ⟨rfl, fun w' hh => ex_load6 hh 0 rfl rfl rfl rfl⟩) (ar (ak (by refine fun J => ⟨rfl, fun w' hh => ?_⟩; clear hh; go_simp) (ak (by refine fun J => ⟨rfl, fun w' hh => ?_⟩; clear hh; go_simp) (ak (fun J => ⟨rfl, fun w' hh => ex_load6 hh 0 rfl rfl rfl rfl⟩) (ak (fun J => ⟨rfl, fun w' hh => eC call85 (C31.out w')⟩) (ak (by refine fun J => ⟨rfl, fun w' hh => ?_⟩; clear hh; go_simp) trivial)))))))))
 intro J w1 l hM hl
 have H1 := keepK H0 hM.below
 clear hM hl l J
 refine rN (wp_cond_true rfl (wp_seq ?_))
 refine walk_put (by kernel_rfl) 12 [1] [.q (PT g 0), .q (PT g 0), .q (PT g 0), .q (PT g 0), .q (PT g 6), .q (N r), .q (PT g 0), .q (PT g 0), .q (PT g 0), .q (N o), .q (PT g 0), .q (PT g 0)] _ ?pre2 ?F2 _ ?hpre2 (fun J => ?hF2) (by kernel_rfl) rfl trivial (sB H1) ?ho2 ?hla2 ?he2
 case hpre2 => simp only [tk, tz]; rfl
 case hF2 => simp only [zY, Kind.val, Act.put, sa, sz, ss]; rfl
 case ho2 =>
  refine ar ?_
  refine ar ?_
  refine ar ?_
  refine ak (by refine fun J => ⟨rfl, fun w' hh => ?_⟩; clear hh; go_simp) ?_
  refine ak (by refine fun J => ⟨rfl, fun w' hh => ?_⟩; clear hh; go_simp) ?_
  refine ak (fun J => ⟨rfl, fun w' hh => ex_load6 hh 0 rfl rfl rfl rfl⟩) ?_
  refine ar ?_
  refine ak (by refine fun J => ⟨rfl, fun w' hh => ?_⟩; clear hh; go_simp) ?_
  refine ak (by refine fun J => ⟨rfl, fun w' hh => ?_⟩; clear hh; go_simp) ?_
  refine ak (fun J => ⟨rfl, fun w' hh => ex_load6 hh 0 rfl rfl rfl rfl⟩) ?_
  refine ak (by refine fun J => ⟨rfl, fun w' hh => ?_⟩; clear hh; go_simp) ?_
  refine ak (by refine fun J => ⟨rfl, fun w' hh => ?_⟩; clear hh; go_simp) ?_
  exact trivial
 case hla2 => exact ⟨⟨_, _, rfl, rfl, fun J => ⟨rfl, fun w' => by first | rfl | go_simp⟩⟩, trivial⟩
 intro J w2 l hM hl
 have H2 := keepK H1 hM.below
 clear hM hl l H1 J
 refine ⟨_, zQ H2.out.1 0 rfl rfl rfl rfl (Nat.le_of_ble_eq_true rfl), ?_⟩
 have H3 : Hid (Mm (w2.setCells g 0 (zE r)) [(g, wkc r r u v h t)] ∧ Kp g w (w2.setCells g 0 (zE r))) := ⟨H2.out.1.put 0 (off := 0) (vs := zE r) rfl (Nat.le_of_ble_eq_true rfl), H2.out.2.put (Or.inl rfl)⟩
 clear H2
 generalize hgw : World.setCells _ _ _ _ = w3 at H3 ⊢
 clear hgw
 refine zR (l := [13, 14, 15]) rfl ?_
 refine zA (d := 24) (v := PT g 0) (w' := w3) rfl rfl rfl (by go_simp) ?_
 simp only [Act.put, sa, sz, ss]
 refine zA (d := 25) (v := PT g 6) (w' := w3) rfl rfl rfl (by go_simp) ?_
 simp only [Act.put, sa, sz, ss]
 refine sH rfl (fun h => zQ h 0 rfl rfl rfl rfl (Nat.le_of_ble_eq_true rfl)) 0 [(_, wkc r o u v h t)] H3 (Or.inl rfl) fun w4 H4 => ?_
 clear H3
 refine zC (zB (wp_seq ?_))
 refine walk_put (by kernel_rfl) 12 [1] [.q (PT g 0), .q (PT g 0), .q (PT g 0), .q (PT g 0), .q (PT g 18), .q (N v), .q (PT g 0), .q (PT g 0), .q (PT g 12), .q (N u), .q (PT g 0), .q (PT g 12)] _ ?pre3 ?F3 _ ?hpre3 (fun J => ?hF3) (by kernel_rfl) rfl trivial (sB H4) ?ho3 ?hla3 ?he3
 case hpre3 => simp only [tk, tz]; rfl
 case hF3 => simp only [zY, Kind.val, Act.put, sa, sz, ss]; rfl
 case ho3 =>
  refine ar ?_
  refine ar ?_
  refine ar ?_
  refine ak (by refine fun J => ⟨rfl, fun w' hh => ?_⟩; clear hh; go_simp) ?_
  refine ak (by refine fun J => ⟨rfl, fun w' hh => ?_⟩; clear hh; go_simp) ?_
  refine ak (fun J => ⟨rfl, fun w' hh => ex_load6 hh 0 rfl rfl rfl rfl⟩) ?_
  refine ar ?_
  refine ak (by refine fun J => ⟨rfl, fun w' hh => ?_⟩; clear hh; go_simp) ?_
  refine ak (by refine fun J => ⟨rfl, fun w' hh => ?_⟩; clear hh; go_simp) ?_
  refine ak (fun J => ⟨rfl, fun w' hh => ex_load6 hh 0 rfl rfl rfl rfl⟩) ?_
  refine ak (by refine fun J => ⟨rfl, fun w' hh => ?_⟩; clear hh; go_simp) ?_
  refine ak (by refine fun J => ⟨rfl, fun w' hh => ?_⟩; clear hh; go_simp) ?_
  exact trivial
 case hla3 => exact ⟨⟨_, _, rfl, rfl, fun J => ⟨rfl, fun w' => by first | rfl | go_simp⟩⟩, trivial⟩
 intro J w5 l hM hl
 have H5 := keepK H4 hM.below
 clear hM hl l H4 J
 refine ⟨_, zQ H5.out.1 0 rfl rfl rfl rfl (Nat.le_of_ble_eq_true rfl), ?_⟩
 have H6 : Hid (Mm (w5.setCells g 12 (zE v)) [(g, wkc r o v v h t)] ∧ Kp g w (w5.setCells g 12 (zE v))) := ⟨H5.out.1.put 0 (off := 12) (vs := zE v) rfl (Nat.le_of_ble_eq_true rfl), H5.out.2.put (Or.inl rfl)⟩
 clear H5
 generalize hgw : World.setCells _ _ _ _ = w6 at H6 ⊢
 clear hgw
 refine zR (l := [13, 14, 15]) rfl ?_
 refine zA (d := 38) (v := PT g 0) (w' := w6) rfl rfl rfl (by go_simp) ?_
 simp only [Act.put, sa, sz, ss]
 refine zA (d := 39) (v := PT g 18) (w' := w6) rfl rfl rfl (by go_simp) ?_
 simp only [Act.put, sa, sz, ss]
 refine sH rfl (fun h => zQ h 0 rfl rfl rfl rfl (Nat.le_of_ble_eq_true rfl)) 0 [(_, wkc r o v u h t)] H6 (Or.inl rfl) fun w7 H7 => ?_
 clear H6
 refine zC (zB ?_)
 refine zI 8 [.q (PT g 0), .q (PT g 0), .q (PT g 0), .q (PT g 25), .q (.bool t), .q (.bool (!t)), .q (PT g 0), .q (PT g 25)] (sB H7) ?ho4 ?he4
 case ho4 => exact ar (ar (ak (by refine fun J => ⟨rfl, fun w' hh => ?_⟩; clear hh; go_simp) (ak (by refine fun J => ⟨rfl, fun w' hh => ?_⟩; clear hh; go_simp) (ak (fun J => ⟨rfl, fun w' hh => ex_loadB hh 0 rfl rfl rfl rfl⟩) (ak (by refine fun J => ⟨rfl, fun w' hh => ?_⟩; clear hh; go_simp) (ak (by refine fun J => ⟨rfl, fun w' hh => ?_⟩; clear hh; go_simp) (ak (by refine fun J => ⟨rfl, fun w' hh => ?_⟩; clear hh; go_simp) trivial)))))))
 intro J w8 l hM hl
 have H8 := keepK H7 hM.below
 clear hM hl l H7 J
 refine zR (l := [8]) rfl ?_
 refine sH rfl (fun h => ex_storeB h 0 rfl rfl As4 rfl rfl (Nat.le_of_ble_eq_true rfl)) 0 [(_, wkc r o v u h (!t))] H8 (Or.inl rfl) fun w9 H9 => ?_
 clear H8
 refine zC (zB (wp_seq ?_))
 refine walk_put (by kernel_rfl) 15 [12] [.q (PT g 0), .q (PT g 0), .q (PT g 0), .q (PT g 6), .q (N o), .q (PT g 0), .q (PT g 0), .q (PT g 0), .q (N r), .call (.tuple #[N x, .bool false]), .q (.tuple #[N x, .bool false]), .q (N x), .q (.bool false), .q (PT g 0), .q (PT g 6)] _ ?pre5 ?F5 _ ?hpre5 (fun J => ?hF5) (by kernel_rfl) rfl trivial (sB H9) ?ho5 ?hla5 ?he5
 case hpre5 => simp only [tk, tz]; rfl
 case hF5 => simp only [zY, Kind.val, Act.put, sa, sz, ss]; rfl
 case ho5 =>
  refine ar ?_
  refine ar ?_
  refine ak (by refine fun J => ⟨rfl, fun w' hh => ?_⟩; clear hh; go_simp) ?_
  refine ak (by refine fun J => ⟨rfl, fun w' hh => ?_⟩; clear hh; go_simp) ?_
  refine ak (fun J => ⟨rfl, fun w' hh => ex_load6 hh 0 rfl rfl rfl rfl⟩) ?_
  refine ar ?_
  refine ak (by refine fun J => ⟨rfl, fun w' hh => ?_⟩; clear hh; go_simp) ?_
  refine ak (by refine fun J => ⟨rfl, fun w' hh => ?_⟩; clear hh; go_simp) ?_
  refine ak (fun J => ⟨rfl, fun w' hh => ex_load6 hh 0 rfl rfl rfl rfl⟩) ?_
  refine ak (fun J => ⟨rfl, fun w' hh => eC call113 (C40.out w')⟩) ?_
  refine ar ?_
  refine ak (by refine fun J => ⟨rfl, fun w' hh => ?_⟩; clear hh; go_simp) ?_
  refine ak (by refine fun J => ⟨rfl, fun w' hh => ?_⟩; clear hh; go_simp) ?_
  refine ak (by refine fun J => ⟨rfl, fun w' hh => ?_⟩; clear hh; go_simp) ?_
  refine ak (by refine fun J => ⟨rfl, fun w' hh => ?_⟩; clear hh; go_simp) ?_
  exact trivial
 case hla5 => exact ⟨⟨_, _, rfl, rfl, fun J => ⟨rfl, fun w' => by first | rfl | go_simp⟩⟩, trivial⟩
 intro J w10 l hM hl
 have H10 := keepK H9 hM.below
 clear hM hl l H9 J
 refine ⟨_, zQ H10.out.1 0 rfl rfl rfl rfl (Nat.le_of_ble_eq_true rfl), ?_⟩
 have H11 : Hid (Mm (w10.setCells g 6 (zE x)) [(g, wkc r x v u h (!t))] ∧ Kp g w (w10.setCells g 6 (zE x))) := ⟨H10.out.1.put 0 (off := 6) (vs := zE x) rfl (Nat.le_of_ble_eq_true rfl), H10.out.2.put (Or.inl rfl)⟩
 clear H10
 generalize hgw : World.setCells _ _ _ _ = w11 at H11 ⊢
 clear hgw
 refine rN ?_
 refine walk_put (by kernel_rfl) 15 [12] [.q (PT g 0), .q (PT g 0), .q (PT g 0), .q (PT g 18), .q (N u), .q (PT g 0), .q (PT g 0), .q (PT g 12), .q (N v), .call (.tuple #[N y, .bool false]), .q (.tuple #[N y, .bool false]), .q (N y), .q (.bool false), .q (PT g 0), .q (PT g 18)] _ ?pre6 ?F6 _ ?hpre6 (fun J => ?hF6) (by kernel_rfl) rfl trivial (sB H11) ?ho6 ?hla6 ?he6
 case hpre6 => simp only [tk, tz]; rfl
 case hF6 => simp only [zY, Kind.val, Act.put, sa, sz, ss]; rfl
 case ho6 =>
  refine ar ?_
  refine ar ?_
  refine ak (by refine fun J => ⟨rfl, fun w' hh => ?_⟩; clear hh; go_simp) ?_
  refine ak (by refine fun J => ⟨rfl, fun w' hh => ?_⟩; clear hh; go_simp) ?_
  refine ak (fun J => ⟨rfl, fun w' hh => ex_load6 hh 0 rfl rfl rfl rfl⟩) ?_
  refine ar ?_
  refine ak (by refine fun J => ⟨rfl, fun w' hh => ?_⟩; clear hh; go_simp) ?_
  refine ak (by refine fun J => ⟨rfl, fun w' hh => ?_⟩; clear hh; go_simp) ?_
  refine ak (fun J => ⟨rfl, fun w' hh => ex_load6 hh 0 rfl rfl rfl rfl⟩) ?_
  refine ak (fun J => ⟨rfl, fun w' hh => eC call78 (C45.out w')⟩) ?_
  refine ar ?_
  refine ak (by refine fun J => ⟨rfl, fun w' hh => ?_⟩; clear hh; go_simp) ?_
  refine ak (by refine fun J => ⟨rfl, fun w' hh => ?_⟩; clear hh; go_simp) ?_
  refine ak (by refine fun J => ⟨rfl, fun w' hh => ?_⟩; clear hh; go_simp) ?_
  refine ak (by refine fun J => ⟨rfl, fun w' hh => ?_⟩; clear hh; go_simp) ?_
  exact trivial
 case hla6 => exact ⟨⟨_, _, rfl, rfl, fun J => ⟨rfl, fun w' => by first | rfl | go_simp⟩⟩, trivial⟩
 intro J w12 l hM hl
 have H12 := keepK H11 hM.below
 clear hM hl l H11 J
 refine ⟨_, zQ H12.out.1 0 rfl rfl rfl rfl (Nat.le_of_ble_eq_true rfl), ?_⟩
 have H13 : Hid (Mm (w12.setCells g 18 (zE y)) [(g, wkc r x v y h (!t))] ∧ Kp g w (w12.setCells g 18 (zE y))) := ⟨H12.out.1.put 0 (off := 18) (vs := zE y) rfl (Nat.le_of_ble_eq_true rfl), H12.out.2.put (Or.inl rfl)⟩
 clear H12
 generalize hgw : World.setCells _ _ _ _ = w13 at H13 ⊢
 clear hgw
 refine rest0 rfl ?_
 refine bodyPost_end (v := .tuple #[]) (by simp [results, Tryz.results82, go_sem]) rfl ?_
 exact ⟨rfl, H13.out.1.one 0 rfl, H13.out.2⟩
theorem subtract_2 (g o r u v x y : Nat) (h : Int) (t : Bool) (c : Int) (hc : ¬ c < 0)
  (c31 : ∀ w, Calls Tryz.prog 85 #[N r, N o] w (Rt w (.int .i64 c)))
  (c40 : ∀ w, Calls Tryz.prog 113 #[N r, N o] w (Rt w (.tuple #[N x, .bool false])))
  (c45 : ∀ w, Calls Tryz.prog 78 #[N v, N u] w (Rt w (.tuple #[N y, .bool false]))) (w : World) (hm : Mm w [(g, wkc o r u v h t)]) :
  Calls Tryz.prog 82 #[PT g 0] w fun e w' => e = .returned (.tuple #[]) ∧ Mm w' [(g, wkc o x u y h t)] ∧ Kp g w w' := by
 have H0 : Hid (_ ∧ _) := ⟨hm, Kp.refl g w⟩
 clear hm
 have C31 : Hid _ := c31
 have C40 : Hid _ := c40
 have C45 : Hid _ := c45
 clear c31 c40 c45
 go_enter Tryz.func82, Tryz.ntmps82
 refine wp_seq (wp_seq ?_)
 refine walk_anyA 10 [.q (PT g 0), .q (PT g 0), .q (PT g 6), .q (N r), .q (PT g 0), .q (PT g 0), .q (PT g 0), .q (N o), .call (.int .i64 c), .q (.bool false)] (sB H0) ?ho1 ?he1
 case ho1 => exact ar (ak (by refine fun J => ⟨rfl, fun w' hh => ?_⟩; clear hh; go_simp) (ak (by refine fun J => ⟨rfl, fun w' hh => ?_⟩; clear hh; go_simp) (ak (fun J => ⟨rfl, fun w' hh => ex_load6 hh 0 rfl rfl rfl rfl⟩) (ar (ak (by refine fun J => ⟨rfl, fun w' hh => ?_⟩; clear hh; go_simp) (ak (by refine fun J => ⟨rfl, fun w' hh => ?_⟩; clear hh; go_simp) (ak (fun J => ⟨rfl, fun w' hh => ex_load6 hh 0 rfl rfl rfl rfl⟩) (ak (fun J => ⟨rfl, fun w' hh => eC call85 (C31.out w')⟩) (ak (by refine fun J => ⟨rfl, fun w' hh => ?_⟩; clear hh; go_simp) trivial)))))))))
 intro J w1 l hM hl
 have H1 := keepK H0 hM.below
 clear hM hl l J
 refine rN (wp_cond_false rfl ?_)
 refine wp_skip (zB (wp_seq ?_))
 refine walk_put (by kernel_rfl) 15 [12] [.q (PT g 0), .q (PT g 0), .q (PT g 0), .q (PT g 6), .q (N r), .q (PT g 0), .q (PT g 0), .q (PT g 0), .q (N o), .call (.tuple #[N x, .bool false]), .q (.tuple #[N x, .bool false]), .q (N x), .q (.bool false), .q (PT g 0), .q (PT g 6)] _ ?pre2 ?F2 _ ?hpre2 (fun J => ?hF2) (by kernel_rfl) rfl trivial (sB H1) ?ho2 ?hla2 ?he2
 case hpre2 => simp only [tk, tz]; rfl
 case hF2 => simp only [zY, Kind.val, Act.put, sa, sz, ss]; rfl
 case ho2 =>
  refine ar ?_
  refine ar ?_
  refine ak (by refine fun J => ⟨rfl, fun w' hh => ?_⟩; clear hh; go_simp) ?_
  refine ak (by refine fun J => ⟨rfl, fun w' hh => ?_⟩; clear hh; go_simp) ?_
  refine ak (fun J => ⟨rfl, fun w' hh => ex_load6 hh 0 rfl rfl rfl rfl⟩) ?_
  refine ar ?_
  refine ak (by refine fun J => ⟨rfl, fun w' hh => ?_⟩; clear hh; go_simp) ?_
  refine ak (by refine fun J => ⟨rfl, fun w' hh => ?_⟩; clear hh; go_simp) ?_
  refine ak (fun J => ⟨rfl, fun w' hh => ex_load6 hh 0 rfl rfl rfl rfl⟩) ?_
  refine ak (fun J => ⟨rfl, fun w' hh => eC call113 (C40.out w')⟩) ?_
  refine ar ?_
  refine ak (by refine fun J => ⟨rfl, fun w' hh => ?_⟩; clear hh; go_simp) ?_
  refine ak (by refine fun J => ⟨rfl, fun w' hh => ?_⟩; clear hh; go_simp) ?_
  refine ak (by refine fun J => ⟨rfl, fun w' hh => ?_⟩; clear hh; go_simp) ?_
  refine ak (by refine fun J => ⟨rfl, fun w' hh => ?_⟩; clear hh; go_simp) ?_
  exact trivial
 case hla2 => exact ⟨⟨_, _, rfl, rfl, fun J => ⟨rfl, fun w' => by first | rfl | go_simp⟩⟩, trivial⟩
 intro J w2 l hM hl
 have H2 := keepK H1 hM.below
 clear hM hl l H1 J
 refine ⟨_, zQ H2.out.1 0 rfl rfl rfl rfl (Nat.le_of_ble_eq_true rfl), ?_⟩
 have H3 : Hid (Mm (w2.setCells g 6 (zE x)) [(g, wkc o x u v h t)] ∧ Kp g w (w2.setCells g 6 (zE x))) := ⟨H2.out.1.put 0 (off := 6) (vs := zE x) rfl (Nat.le_of_ble_eq_true rfl), H2.out.2.put (Or.inl rfl)⟩
 clear H2
 generalize hgw : World.setCells _ _ _ _ = w3 at H3 ⊢
 clear hgw
 refine rN ?_
 refine walk_put (by kernel_rfl) 15 [12] [.q (PT g 0), .q (PT g 0), .q (PT g 0), .q (PT g 18), .q (N v), .q (PT g 0), .q (PT g 0), .q (PT g 12), .q (N u), .call (.tuple #[N y, .bool false]), .q (.tuple #[N y, .bool false]), .q (N y), .q (.bool false), .q (PT g 0), .q (PT g 18)] _ ?pre3 ?F3 _ ?hpre3 (fun J => ?hF3) (by kernel_rfl) rfl trivial (sB H3) ?ho3 ?hla3 ?he3
 case hpre3 => simp only [tk, tz]; rfl
 case hF3 => simp only [zY, Kind.val, Act.put, sa, sz, ss]; rfl
 case ho3 =>
  refine ar ?_
  refine ar ?_
  refine ak (by refine fun J => ⟨rfl, fun w' hh => ?_⟩; clear hh; go_simp) ?_
  refine ak (by refine fun J => ⟨rfl, fun w' hh => ?_⟩; clear hh; go_simp) ?_
  refine ak (fun J => ⟨rfl, fun w' hh => ex_load6 hh 0 rfl rfl rfl rfl⟩) ?_
  refine ar ?_
  refine ak (by refine fun J => ⟨rfl, fun w' hh => ?_⟩; clear hh; go_simp) ?_
  refine ak (by refine fun J => ⟨rfl, fun w' hh => ?_⟩; clear hh; go_simp) ?_
  refine ak (fun J => ⟨rfl, fun w' hh => ex_load6 hh 0 rfl rfl rfl rfl⟩) ?_
  refine ak (fun J => ⟨rfl, fun w' hh => eC call78 (C45.out w')⟩) ?_
  refine ar ?_
  refine ak (by refine fun J => ⟨rfl, fun w' hh => ?_⟩; clear hh; go_simp) ?_
  refine ak (by refine fun J => ⟨rfl, fun w' hh => ?_⟩; clear hh; go_simp) ?_
  refine ak (by refine fun J => ⟨rfl, fun w' hh => ?_⟩; clear hh; go_simp) ?_
  refine ak (by refine fun J => ⟨rfl, fun w' hh => ?_⟩; clear hh; go_simp) ?_
  exact trivial
 case hla3 => exact ⟨⟨_, _, rfl, rfl, fun J => ⟨rfl, fun w' => by first | rfl | go_simp⟩⟩, trivial⟩
 intro J w4 l hM hl
 have H4 := keepK H3 hM.below
 clear hM hl l H3 J
 refine ⟨_, zQ H4.out.1 0 rfl rfl rfl rfl (Nat.le_of_ble_eq_true rfl), ?_⟩
 have H5 : Hid (Mm (w4.setCells g 18 (zE y)) [(g, wkc o x u y h t)] ∧ Kp g w (w4.setCells g 18 (zE y))) := ⟨H4.out.1.put 0 (off := 18) (vs := zE y) rfl (Nat.le_of_ble_eq_true rfl), H4.out.2.put (Or.inl rfl)⟩
 clear H4
 generalize hgw : World.setCells _ _ _ _ = w5 at H5 ⊢
 clear hgw
 refine rest0 rfl ?_
 refine bodyPost_end (v := .tuple #[]) (by simp [results, Tryz.results82, go_sem]) rfl ?_
 exact ⟨rfl, H5.out.1.one 0 rfl, H5.out.2⟩
structure WS where
 o : Nat
 r : Nat
 u : Nat
 v : Nat
 h : Nat
 t : Bool
/-- What is known at each round's beginning. -/
structure WI (n a : Nat) (z : WS) : Prop where
 odd : z.o % 2 = 1
 sum : z.o * z.v + z.r * z.u = n
 un : z.u < n
 vpos : 1 ≤ z.v
 rn : z.r ≤ n
 gcd : Nat.gcd z.o z.r = Nat.gcd n a
 hb : 2 ^ z.h * (z.o * z.r) ≤ n * n
 hb1 : 2 ^ z.h ≤ n * n
 c1 : if z.t = true then Cg n (z.o * 2 ^ z.h) (z.u * a) else Cg n (z.o * 2 ^ z.h + z.u * a) 0
 c2 : if z.t = true then Cg n (z.r * 2 ^ z.h + z.v * a) 0 else Cg n (z.r * 2 ^ z.h) (z.v * a)
theorem WI.start {n a : Nat} (ok : Ok n) : WI n a ⟨n, a % n, 0, 1, 0, false⟩ := by
 have h3 := ok.three
 have hl := Nat.mod_lt a ok.pos
 refine ⟨ok.odd, by simp, ok.pos, Nat.le_refl _, Nat.le_of_lt hl, ?_, ?_, ?_, ?_, ?_⟩
 ·show Nat.gcd n (a % n) = Nat.gcd n a
  rw [Nat.gcd_comm n (a % n), ← Nat.gcd_rec, Nat.gcd_comm]
 ·show 2 ^ 0 * (n * (a % n)) ≤ n * n
  rw [Nat.pow_zero, Nat.one_mul]
  exact Nat.mul_le_mul_left _ (Nat.le_of_lt hl)
 ·show 2 ^ 0 ≤ n * n
  have := Nat.mul_le_mul h3 h3
  rw [Nat.pow_zero]; omega
 ·show Cg n (n * 2 ^ 0 + 0 * a) 0
  rw [Nat.pow_zero, Nat.zero_mul, Nat.add_zero, Nat.mul_one]
  have := Cg.zero n 1
  rwa [Nat.one_mul] at this
 ·show Cg n (a % n * 2 ^ 0) (1 * a)
  rw [Nat.pow_zero, Nat.mul_one, Nat.one_mul]
  exact Cg.mod n a
theorem gcd_halve {o r1 k : Nat} (ho : o % 2 = 1) : Nat.gcd o (r1 * 2 ^ k) = Nat.gcd o r1 := by
 have hc : Nat.Coprime o (2 ^ k) := by
  apply Nat.Coprime.pow_right
  rw [Nat.coprime_comm]
  show Nat.gcd 2 o = 1
  rw [Nat.gcd_rec, ho]
  rfl
 exact Nat.Coprime.gcd_mul_right_cancel_right r1 hc.symm
theorem gcd_less {o r1 : Nat} (h : r1 ≤ o) : Nat.gcd r1 (o - r1) = Nat.gcd o r1 := by
 rw [Nat.gcd_comm o r1]
 have e : o = (o - r1) + r1 := by omega
 generalize o - r1 = d at e ⊢
 rw [e, Nat.gcd_add_self_right]
theorem WI.facts {n a o r u v h k r1 : Nat} {t : Bool} (I : WI n a ⟨o, r, u, v, h, t⟩) (hr : r ≠ 0) (er : r = r1 * 2 ^ k) : 1 ≤ r1 ∧ 1 ≤ o ∧ o ≤ n ∧ r1 ≤ n ∧ o * v + r1 * (u * 2 ^ k) = n ∧ u * 2 ^ k < n ∧ v + u * 2 ^ k ≤ n := by
 have hs := I.sum
 have hv := I.vpos
 have ho := I.odd
 have hrn := I.rn
 simp only at hs hv ho hrn
 have h1 : 1 ≤ r1 := by
  rcases Nat.eq_zero_or_pos r1 with e | e
  ·rw [e, Nat.zero_mul] at er; exact absurd er hr
  ·exact e
 have ho1 : 1 ≤ o := by omega
 have h2 : o * 1 ≤ o * v := Nat.mul_le_mul_left o hv
 have e1 : r * u = r1 * (u * 2 ^ k) := by rw [er, Nat.mul_assoc, Nat.mul_comm (2 ^ k)]
 rw [e1] at hs
 have h3 : 1 * (u * 2 ^ k) ≤ r1 * (u * 2 ^ k) := Nat.mul_le_mul_right _ h1
 have h4 : r1 * 1 ≤ r1 * 2 ^ k := Nat.mul_le_mul_left r1 (Nat.two_pow_pos k)
 have h5 : 1 * v ≤ o * v := Nat.mul_le_mul_right _ ho1
 refine ⟨h1, ho1, by omega, by omega, hs, by omega, by omega⟩
theorem cg_scale {n x y : Nat} (h : Cg n x y) (k : Nat) : Cg n (x * 2 ^ k) (y * 2 ^ k) := h.mulR _
theorem WI.conf {n a o r u v h k r1 : Nat} {t : Bool} (I : WI n a ⟨o, r, u, v, h, t⟩) (er : r = r1 * 2 ^ k) :
  (if t = true then Cg n (o * 2 ^ (h + k)) (u * 2 ^ k * a) else Cg n (o * 2 ^ (h + k) + u * 2 ^ k * a) 0) ∧ (if t = true then Cg n (r1 * 2 ^ (h + k) + v * a) 0 else Cg n (r1 * 2 ^ (h + k)) (v * a)) := by
 have h1 := I.c1
 have h2 := I.c2
 simp only at h1 h2
 have e1 : o * 2 ^ (h + k) = o * 2 ^ h * 2 ^ k := by rw [Nat.pow_add, Nat.mul_assoc]
 have e2 : u * 2 ^ k * a = u * a * 2 ^ k := Nat.mul_right_comm ..
 have e3 : r1 * 2 ^ (h + k) = r * 2 ^ h := by rw [er, Nat.pow_add, Nat.mul_assoc, Nat.mul_comm (2 ^ h)]
 rw [e1, e2, e3]
 refine ⟨?_, h2⟩
 cases t with
 | true => exact cg_scale h1 k
 | false =>
  have h3 := cg_scale h1 k
  rw [Nat.zero_mul, Nat.add_mul] at h3
  exact h3
theorem WI.next {n a o r u v h k r1 : Nat} {t : Bool} (I : WI n a ⟨o, r, u, v, h, t⟩) (hr : r ≠ 0) (er : r = r1 * 2 ^ k) (h1 : r1 % 2 = 1) :
  (r1 < o → WI n a ⟨r1, o - r1, v, u * 2 ^ k + v, h + k, !t⟩) ∧ (¬ r1 < o → WI n a ⟨o, r1 - o, u * 2 ^ k, v + u * 2 ^ k, h + k, t⟩) := by
 obtain ⟨p1, p2, p3, p4, p5, p6, p7⟩ := I.facts hr er
 obtain ⟨q1, q2⟩ := I.conf er
 have hv := I.vpos
 have ho := I.odd
 have hg := I.gcd
 have hb := I.hb
 simp only at hv ho hg hb
 rw [er, gcd_halve ho] at hg
 have eb : 2 ^ (h + k) * (o * r1) = 2 ^ h * (o * r) := by
  rw [er, Nat.pow_add]; simp only [Nat.mul_assoc, Nat.mul_comm, Nat.mul_left_comm]
 have hb2 : 2 ^ (h + k) * (o * r1) ≤ n * n := by rw [eb]; exact hb
 have hor : 1 ≤ o * r1 := Nat.mul_pos p2 p1
 have hb1 : 2 ^ (h + k) ≤ n * n := Nat.le_trans (by have := Nat.mul_le_mul_left (2 ^ (h + k)) hor; omega) hb2
 generalize hH : 2 ^ (h + k) = H at q1 q2 hb2 hb1
 generalize hU : u * 2 ^ k = U at q1 q2 p5 p6 p7 ⊢
 constructor
 ·intro hl
  refine ⟨h1, ?_, ?_, by show 1 ≤ U + v; omega, by show o - r1 ≤ n; omega, ?_, ?_, by show 2 ^ (h + k) ≤ n * n; rw [hH]; exact hb1, ?_, ?_⟩
  ·show r1 * (U + v) + (o - r1) * v = n
   have e : r1 * v + (o - r1) * v = o * v := by rw [← Nat.add_mul, show r1 + (o - r1) = o by omega]
   rw [Nat.mul_add]; omega
  ·show v < n
   rcases Nat.eq_zero_or_pos U with e | e
   ·rw [e, Nat.mul_zero, Nat.add_zero] at p5
    have : 2 * v ≤ o * v := Nat.mul_le_mul_right _ (by omega)
    omega
   ·have h5 : 1 * v ≤ o * v := Nat.mul_le_mul_right _ p2
    have h6 : 1 * 1 ≤ r1 * U := Nat.mul_le_mul p1 e
    omega
  ·show Nat.gcd r1 (o - r1) = Nat.gcd n a
   rw [gcd_less (by omega), hg]
  ·show 2 ^ (h + k) * (r1 * (o - r1)) ≤ n * n
   rw [hH]
   refine Nat.le_trans (Nat.mul_le_mul_left H ?_) hb2
   rw [Nat.mul_comm o r1]
   exact Nat.mul_le_mul_left r1 (by omega)
  ·cases t with
   | true =>
    show Cg n (r1 * 2 ^ (h + k) + v * a) 0
    rw [hH]; exact q2
   | false =>
    show Cg n (r1 * 2 ^ (h + k)) (v * a)
    rw [hH]; exact q2
  ·have e : (o - r1) * H + r1 * H = o * H := by rw [← Nat.add_mul, show o - r1 + r1 = o by omega]
   cases t with
   | true =>
    show Cg n ((o - r1) * 2 ^ (h + k)) ((U + v) * a)
    rw [hH, Nat.add_mul]
    have s1 : Cg n ((o - r1) * H + (r1 * H + v * a)) ((o - r1) * H + 0) := Cg.addL _ q2
    rw [Nat.add_zero, ← Nat.add_assoc, e] at s1
    exact s1.symm.trans (Cg.addR _ q1)
   | false =>
    show Cg n ((o - r1) * 2 ^ (h + k) + (U + v) * a) 0
    rw [hH, Nat.add_mul]
    have s1 : Cg n ((o - r1) * H + U * a + r1 * H) ((o - r1) * H + U * a + v * a) := Cg.addL _ q2
    have e2 : (o - r1) * H + U * a + r1 * H = o * H + U * a := by omega
    rw [e2] at s1
    have s2 := s1.symm.trans q1
    rwa [Nat.add_assoc] at s2
 ·intro hl
  refine ⟨ho, ?_, p6, by show 1 ≤ v + U; omega, by show r1 - o ≤ n; omega, ?_, ?_, by show 2 ^ (h + k) ≤ n * n; rw [hH]; exact hb1, ?_, ?_⟩
  ·show o * (v + U) + (r1 - o) * U = n
   have e : o * U + (r1 - o) * U = r1 * U := by rw [← Nat.add_mul, show o + (r1 - o) = r1 by omega]
   rw [Nat.mul_add]; omega
  ·show Nat.gcd o (r1 - o) = Nat.gcd n a
   rw [gcd_less (by omega), Nat.gcd_comm, hg]
  ·show 2 ^ (h + k) * (o * (r1 - o)) ≤ n * n
   rw [hH]
   exact Nat.le_trans (Nat.mul_le_mul_left H (Nat.mul_le_mul_left o (by omega))) hb2
  ·cases t with
   | true =>
    show Cg n (o * 2 ^ (h + k)) (U * a)
    rw [hH]; exact q1
   | false =>
    show Cg n (o * 2 ^ (h + k) + U * a) 0
    rw [hH]; exact q1
  ·have e : (r1 - o) * H + o * H = r1 * H := by rw [← Nat.add_mul, show r1 - o + o = r1 by omega]
   cases t with
   | true =>
    show Cg n ((r1 - o) * 2 ^ (h + k) + (v + U) * a) 0
    rw [hH, Nat.add_mul]
    have s1 : Cg n ((r1 - o) * H + v * a + o * H) ((r1 - o) * H + v * a + U * a) := Cg.addL _ q1
    have e2 : (r1 - o) * H + v * a + o * H = r1 * H + v * a := by omega
    rw [e2] at s1
    have s2 := s1.symm.trans q2
    rwa [Nat.add_assoc] at s2
   | false =>
    show Cg n ((r1 - o) * 2 ^ (h + k)) ((v + U) * a)
    rw [hH, Nat.add_mul]
    have s1 : Cg n ((r1 - o) * H + (o * H + U * a)) ((r1 - o) * H + 0) := Cg.addL _ q1
    rw [Nat.add_zero, ← Nat.add_assoc, e] at s1
    exact s1.symm.trans (Cg.addR _ q2)
/-- What is left when the walk ends. -/
def dv (n a i : Nat) : Nat := a * hf n ^ i % n
theorem end_true {n a o u v h : Nat} (ok : Ok n) (I : WI n a ⟨o, 0, u, v, h, true⟩) (ho : o = 1) : dv n u h * a % n = 1 := by
 have h1 := I.c1
 simp only [if_true] at h1
 rw [ho, Nat.one_mul] at h1
 have s : Cg n (dv n u h * a) 1 := by
  have s1 : Cg n (dv n u h * a) (u * hf n ^ h * a) := (Cg.mod _ _).mulR a
  rw [Nat.mul_right_comm] at s1
  exact s1.trans ((h1.symm.mulR _).trans (hf_pow n h ok.odd))
 unfold Cg at s
 rw [s, Nat.mod_eq_of_lt (by have := ok.three; omega)]
theorem end_false {n a o u v h : Nat} (ok : Ok n) (I : WI n a ⟨o, 0, u, v, h, false⟩) (ho : o = 1) : dv n (subm n 0 u) h * a % n = 1 := by
 have h1 := I.c1
 simp only [Bool.false_eq_true, if_false] at h1
 rw [ho, Nat.one_mul] at h1
 have hu := I.un
 simp only at hu
 have h2 : Cg n (subm n 0 u * a) (2 ^ h) := by
  have e1 : Cg n (subm n 0 u + u) 0 := by
   unfold subm
   rw [Nat.zero_add, Nat.mod_eq_of_lt hu]
   refine ((Cg.mod n (n - u)).addR u).trans ?_
   rw [show n - u + u = 1 * n by omega]
   exact Cg.zero n 1
  have e2 := e1.mulR a
  rw [Nat.zero_mul, Nat.add_mul] at e2
  have e3 : Cg n (subm n 0 u * a + (u * a + 2 ^ h)) (subm n 0 u * a + 0) := Cg.addL _ (by rw [Nat.add_comm]; exact h1)
  rw [Nat.add_zero, ← Nat.add_assoc] at e3
  have e4 := e2.addR (2 ^ h)
  rw [Nat.zero_add] at e4
  exact e3.symm.trans e4
 have s : Cg n (dv n (subm n 0 u) h * a) 1 := by
  have s1 : Cg n (dv n (subm n 0 u) h * a) (subm n 0 u * hf n ^ h * a) := (Cg.mod _ _).mulR a
  rw [Nat.mul_right_comm] at s1
  exact s1.trans ((h2.mulR _).trans (hf_pow n h ok.odd))
 unfold Cg at s
 rw [s, Nat.mod_eq_of_lt (by have := ok.three; omega)]
theorem WI.hlt {n a : Nat} {z : WS} (ok : Ok n) (I : WI n a z) : z.h < 768 := by
 have h1 := I.hb1
 have h2 := ok.top
 obtain ⟨m, hm, e⟩ := big_pow
 rcases Nat.lt_or_ge z.h 768 with h' | h'
 ·exact h'
 ·have h3 : 2 ^ (64 * m + 64 * m) ≤ 2 ^ z.h := Nat.pow_le_pow_right (by decide) (by omega)
  rw [Nat.pow_add, ← e] at h3
  have h4 : n * n < big * big := Nat.mul_lt_mul_of_lt_of_lt ok.big ok.big
  omega
theorem first_word (r : Nat) : ∀ m, r % 2 ^ (64 * m) ≠ 0 → ∃ i, i < m ∧ (∀ j, j < i → wd r j = 0) ∧ wd r i ≠ 0 := by
 intro m
 induction m with
 | zero => intro h; rw [Nat.mul_zero, Nat.pow_zero, Nat.mod_one] at h; exact absurd rfl h
 | succ m ih =>
  intro h
  by_cases h0 : r % 2 ^ (64 * m) = 0
  ·by_cases h1 : wd r m = 0
   ·exfalso
    apply h
    rw [mod_step, h0]
    have : wn r m = 0 := by have := wd_wn r m; omega
    rw [this]; simp
   ·refine ⟨m, by omega, fun j hj => ?_, h1⟩
    unfold wd
    have e : 2 ^ (64 * m) = 2 ^ (64 * j) * (18446744073709551616 * 2 ^ (64 * (m - j - 1))) := by
     have : 64 * m = 64 * j + (64 + 64 * (m - j - 1)) := by omega
     rw [this, Nat.pow_add, Nat.pow_add]
    obtain ⟨q, hq⟩ := Nat.dvd_of_mod_eq_zero h0
    rw [hq, e, Nat.mul_assoc, Nat.mul_div_cancel_left _ (pow_pos' j), Nat.mul_assoc, Nat.mul_mod_right]
    rfl
  ·obtain ⟨i, h1, h2, h3⟩ := ih h0
   exact ⟨i, by omega, h2, h3⟩
theorem low_zero (r : Nat) : ∀ m, (∀ j, j < m → wd r j = 0) → r % 2 ^ (64 * m) = 0 := by
 intro m
 induction m with
 | zero => intro _; rw [Nat.mul_zero, Nat.pow_zero, Nat.mod_one]
 | succ m ih =>
  intro h
  have : wn r m = 0 := by have := wd_wn r m; have := h m (by omega); omega
  rw [mod_step, ih (fun j hj => h j (by omega)), this]; simp
theorem trailing_any {r : Nat} (hr : r < big) (h0 : r ≠ 0) : ∃ k r1, k < 384 ∧ r = r1 * 2 ^ k ∧ r1 % 2 = 1 ∧ ∀ w, Mm w [(0, dtab)] → Calls Tryz.prog 116 #[N r] w (Rt w (.int .i64 ((k : Nat) : Int))) := by
 obtain ⟨m, hm, hz, hx⟩ := first_word r 6 (by rw [← big_eq, Nat.mod_eq_of_lt hr]; exact h0)
 have hx0 : wn r m ≠ 0 := by have := wd_wn r m; omega
 have hxl := wn_lt r m
 have hct : Lib.ctz 64 (wn r m) = Lib.ctzFrom 64 (wn r m) := by unfold Lib.ctz; rw [if_neg hx0]
 obtain ⟨q, hq, hc⟩ := Lib.ctzFrom_spec 64 (wn r m) (by omega) hxl
 rw [← hct] at hq hc
 generalize hcd : Lib.ctz 64 (wn r m) = c at hq hc
 have hlow := low_zero r m hz
 have hdm := Nat.div_add_mod r (2 ^ (64 * m))
 rw [hlow, Nat.add_zero] at hdm
 have hR := Nat.div_add_mod (r / 2 ^ (64 * m)) 18446744073709551616
 have hR2 : r / 2 ^ (64 * m) % 18446744073709551616 = wn r m := rfl
 rw [hR2] at hR
 obtain ⟨d, hd⟩ : ∃ d, 64 = c + (d + 1) := ⟨64 - c - 1, by omega⟩
 have h64 : 18446744073709551616 = 2 ^ c * (2 ^ d * 2) := by
  rw [← Nat.pow_succ, ← Nat.pow_add, ← hd]
 refine ⟨64 * m + c, 2 ^ d * 2 * (r / 2 ^ (64 * m) / 18446744073709551616) + (2 * q + 1), by omega, ?_, ?_, fun w ht => ?_⟩
 ·have e : r / 2 ^ (64 * m) = (2 ^ d * 2 * (r / 2 ^ (64 * m) / 18446744073709551616) + (2 * q + 1)) * 2 ^ c := by
   have e1 : 18446744073709551616 * (r / 2 ^ (64 * m) / 18446744073709551616) = 2 ^ d * 2 * (r / 2 ^ (64 * m) / 18446744073709551616) * 2 ^ c := by
    generalize r / 2 ^ (64 * m) / 18446744073709551616 = y
    rw [h64, Nat.mul_assoc (2 ^ c), Nat.mul_comm (2 ^ c)]
   rw [Nat.add_mul, ← e1, Nat.mul_comm (2 * q + 1), ← hq]
   exact hR.symm
  rw [Nat.pow_add, Nat.mul_comm (2 ^ (64 * m)), ← Nat.mul_assoc, ← e, Nat.mul_comm]
  exact hdm.symm
 ·rw [Nat.mul_right_comm]; omega
 ·refine trailing_gen r m c hm (by omega) hz hx (fun w ht => ?_) w ht
  have := tz_word (wn r m) hxl w ht
  rw [hcd] at this
  exact this
theorem dbp_1 (g n o s a K j : Nat) (hK : K < 1000) (hj : j = 0) (f : Nat → Nat) (f0 : f 0 = a)
  (co : ∀ w, Calls Tryz.prog 7 #[.int .u64 1] w (Rt w (N 1)))
  (cf : ∀ k w, Mm w [(g, zW n o s)] → Calls Tryz.prog 115 #[PT g 0, N 1, N (f k)] w (Rt w (N (f (k + 1))))) (w : World) (hm : Mm w [(g, zW n o s)]) :
  Calls Tryz.prog 83 #[PT g 0, N a, .int .i64 ((384 * K + j : Nat) : Int)] w (Rt w (N (f K))) := by
 have H0 : Hid (_ ∧ _) := ⟨hm, Below.refl w.heap.size w⟩
 clear hm
 have CO : Hid _ := co
 have CF : Hid _ := cf
 have F0 : Hid _ := f0
 clear co cf f0
 go_enter Tryz.func83, Tryz.ntmps83
 refine wp_seq ?_
 refine zI 2 [.made (zE a) 24, .made zero6 24] (sB H0) ?ho1 ?he1
 case ho1 => exact am (ex_box6 rfl rfl) (am (zO rfl) trivial)
 intro J w1 l hM hl
 have H1 : Hid (Mm w1 ([(J 0, zE a), (J 1, zero6)] ++ _) ∧ _) := wB H0 hM hl [0, 1]
 have o1_0 := vB H0 hM hl 0
 have o1_1 := vB H0 hM hl 1
 clear hM hl l
 generalize J 0 = J1_0 at H1 o1_0 ⊢
 generalize J 1 = J1_1 at H1 o1_1 ⊢
 clear J
 refine rN (wp_seq (wp_block ?_))
 refine loop_ghost (α := Nat) (fun k a' w' => ∃ s0 : Nat → Value, a' = ⟨#[PT g 0, N a, .int .i64 ((384 * (K - k) + j : Nat) : Int), ud, PT J1_0 0, ud, PT J1_1 0, s0 7, s0 8, s0 9, s0 10, s0 11, s0 12, s0 13, s0 14, ud, ud, ud, ud, ud, ud, ud, ud, ud, ud], []⟩ ∧ (Mm w' [(J1_0, zE (f k)), (J1_1, zero6), (g, zW n o s)] ∧ Below w.heap.size w w') ∧ k ≤ K) (fun k => K - k) 0 ?st0 ?rd0
 case st0 => exact ⟨(slotfn [ud, ud, ud, ud, ud, ud, ud, ud, ud, ud, ud, ud, ud, ud, ud]), rfl, ⟨H1.out.1.at0 (by rw [F0.out]), H1.out.2⟩, by omega⟩
 intro k a' w2 hI
 obtain ⟨s0, rfl, hMB, hk0⟩ := hI
 have H2 : Hid (_ ∧ _) := hMB
 clear hMB H1
 by_cases hlt : k < K
 ·have hrd : True := trivial
  clear hrd
  refine wp_seq (wp_seq ?_)
  refine zM 2 [.q (.int .i64 ((384 * (K - k) + j : Nat) : Int)), .q (.bool true)] H2 ?ho2 ?he2
  case ho2 => exact ar (ak (by refine fun J => ⟨rfl, fun w' h => ?_⟩; clear h; go_simp <;> omega) trivial)
  intro _ w3 H3
  clear H2
  refine rN (wp_cond_true rfl ?_)
  refine wp_skip (zB ?_)
  refine wp_block (wp_seq ?_)
  refine walk_anyB 4 [.q (PT g 0), .call (N 1), .q (N (f k)), .call (N (f (k + 1)))] H3 ?ho3 ?he3
  case ho3 => exact ar (ac (fun w' h => eC call7 (CO.out w')) (bN 0 (ac (fun w' h => eC call115 (CF.out k w' (h.one 2 rfl))) trivial)))
  intro _ w4 H4
  clear H3
  refine zR (l := [4]) rfl ?_
  refine sG rfl (fun h => zQ h 0 rfl rfl rfl rfl (Nat.le_of_ble_eq_true rfl)) 0 [(_, zE (f (k + 1))), _, _] H4 o1_0 fun w5 H5 => ?_
  clear H4
  refine zC (zB ?_)
  refine zM 2 [.q (.int .i64 ((384 * (K - k) + j : Nat) : Int)), .q (.int .i64 ((384 * (K - (k + 1)) + j : Nat) : Int))] H5 ?ho4 ?he4
  case ho4 => exact ar (ak (by refine fun J => ⟨rfl, fun w' h => ?_⟩; clear h; go_simp; rw [IntKind.wrap_i64]; omega) trivial)
  intro _ w6 H6
  clear H5
  refine zR (l := [2]) rfl ?_
  refine zA (d := 2) rfl rfl rfl rfl ?_
  simp only [Act.put, sa, sz, ss]
  refine zC (zS (zB ?_))
  exact ⟨k + 1, ⟨(slotfn [ud, ud, ud, ud, ud, ud, ud, .int .i64 ((384 * (K - k) + j : Nat) : Int), .bool true, PT g 0, N 1, N (f k), N (f (k + 1)), .int .i64 ((384 * (K - k) + j : Nat) : Int), .int .i64 ((384 * (K - (k + 1)) + j : Nat) : Int)]), rfl, ⟨H6.out.1, H6.out.2⟩, by omega⟩, by omega⟩
 have hkK : k = K := by omega
 subst hkK
 refine wp_seq (wp_seq ?_)
 refine zM 2 [.q (.int .i64 ((384 * (k - k) + j : Nat) : Int)), .q (.bool false)] H2 ?ho5 ?he5
 case ho5 => exact ar (ak (by refine fun J => ⟨rfl, fun w' h => ?_⟩; clear h; go_simp <;> omega) trivial)
 intro _ w7 H7
 clear H2
 refine rN (wp_cond_false rfl ?_)
 refine wp_exit ?_
 repeat refine zX ?_
 refine zT ?_
 refine zB (wp_seq (wp_seq ?_))
 refine zM 2 [.q (.int .i64 ((384 * (k - k) + j : Nat) : Int)), .q (.bool true)] H7 ?ho6 ?he6
 case ho6 => exact ar (ak (by refine fun J => ⟨rfl, fun w' h => ?_⟩; clear h; go_simp <;> omega) trivial)
 intro _ w8 H8
 clear H7
 refine rN (wp_cond_true rfl (wp_seq ?_))
 refine zM 1 [.q (N (f k))] H8 ?ho7 ?he7
 case ho7 => exact bN 0 trivial
 intro _ w9 H9
 clear H8
 refine zR (l := [1]) rfl ?_
 refine sG rfl (fun h => zQ h 1 rfl rfl rfl rfl (Nat.le_of_ble_eq_true rfl)) 1 [_, (_, zE (f k)), _] H9 o1_1 fun w10 H10 => ?_
 clear H9
 refine zC (zB (wp_ret ?_))
 repeat (first | refine zL ?_ | refine zK ?_)
 have c0 := H10.out.1.get 1 rfl 0 rfl
 have c1 := H10.out.1.get 1 rfl 1 rfl
 have c2 := H10.out.1.get 1 rfl 2 rfl
 have c3 := H10.out.1.get 1 rfl 3 rfl
 have c4 := H10.out.1.get 1 rfl 4 rfl
 have c5 := H10.out.1.get 1 rfl 5 rfl
 refine bodyPost_ret (v := N (f k)) (by simp [results, Tryz.results83, go_sem, *]) rfl ?_
 exact ⟨rfl, H10.out.2⟩
theorem dbp_2 (g n o s a K j y x : Nat) (hK : K < 1000) (hj : 0 < j) (hj4 : j < 384) (f : Nat → Nat) (f0 : f 0 = a)
  (co : ∀ w, Calls Tryz.prog 7 #[.int .u64 1] w (Rt w (N 1)))
  (cf : ∀ k w, Mm w [(g, zW n o s)] → Calls Tryz.prog 115 #[PT g 0, N 1, N (f k)] w (Rt w (N (f (k + 1)))))
  (ch : ∀ w, Calls Tryz.prog 117 #[N 1, .int .i64 ((384 - j : Nat) : Int)] w (Rt w (N y)))
  (cx : ∀ w, Mm w [(g, zW n o s)] → Calls Tryz.prog 115 #[PT g 0, N y, N (f K)] w (Rt w (N x))) (w : World) (hm : Mm w [(g, zW n o s)]) :
  Calls Tryz.prog 83 #[PT g 0, N a, .int .i64 ((384 * K + j : Nat) : Int)] w (Rt w (N x)) := by
 have H0 : Hid (_ ∧ _) := ⟨hm, Below.refl w.heap.size w⟩
 clear hm
 have CO : Hid _ := co
 have CF : Hid _ := cf
 have F0 : Hid _ := f0
 clear co cf f0
 have CH : Hid _ := ch
 have CX : Hid _ := cx
 clear ch cx
 go_enter Tryz.func83, Tryz.ntmps83
 refine wp_seq ?_
 refine zI 2 [.made (zE a) 24, .made zero6 24] (sB H0) ?ho1 ?he1
 case ho1 => exact am (ex_box6 rfl rfl) (am (zO rfl) trivial)
 intro J w1 l hM hl
 have H1 : Hid (Mm w1 ([(J 0, zE a), (J 1, zero6)] ++ _) ∧ _) := wB H0 hM hl [0, 1]
 have o1_0 := vB H0 hM hl 0
 have o1_1 := vB H0 hM hl 1
 clear hM hl l
 generalize J 0 = J1_0 at H1 o1_0 ⊢
 generalize J 1 = J1_1 at H1 o1_1 ⊢
 clear J
 refine rN (wp_seq (wp_block ?_))
 refine loop_ghost (α := Nat) (fun k a' w' => ∃ s0 : Nat → Value, a' = ⟨#[PT g 0, N a, .int .i64 ((384 * (K - k) + j : Nat) : Int), ud, PT J1_0 0, ud, PT J1_1 0, s0 7, s0 8, s0 9, s0 10, s0 11, s0 12, s0 13, s0 14, ud, ud, ud, ud, ud, ud, ud, ud, ud, ud], []⟩ ∧ (Mm w' [(J1_0, zE (f k)), (J1_1, zero6), (g, zW n o s)] ∧ Below w.heap.size w w') ∧ k ≤ K) (fun k => K - k) 0 ?st0 ?rd0
 case st0 => exact ⟨(slotfn [ud, ud, ud, ud, ud, ud, ud, ud, ud, ud, ud, ud, ud, ud, ud]), rfl, ⟨H1.out.1.at0 (by rw [F0.out]), H1.out.2⟩, by omega⟩
 intro k a' w2 hI
 obtain ⟨s0, rfl, hMB, hk0⟩ := hI
 have H2 : Hid (_ ∧ _) := hMB
 clear hMB H1
 by_cases hlt : k < K
 ·have hrd : True := trivial
  clear hrd
  refine wp_seq (wp_seq ?_)
  refine zM 2 [.q (.int .i64 ((384 * (K - k) + j : Nat) : Int)), .q (.bool true)] H2 ?ho2 ?he2
  case ho2 => exact ar (ak (by refine fun J => ⟨rfl, fun w' h => ?_⟩; clear h; go_simp <;> omega) trivial)
  intro _ w3 H3
  clear H2
  refine rN (wp_cond_true rfl ?_)
  refine wp_skip (zB ?_)
  refine wp_block (wp_seq ?_)
  refine walk_anyB 4 [.q (PT g 0), .call (N 1), .q (N (f k)), .call (N (f (k + 1)))] H3 ?ho3 ?he3
  case ho3 => exact ar (ac (fun w' h => eC call7 (CO.out w')) (bN 0 (ac (fun w' h => eC call115 (CF.out k w' (h.one 2 rfl))) trivial)))
  intro _ w4 H4
  clear H3
  refine zR (l := [4]) rfl ?_
  refine sG rfl (fun h => zQ h 0 rfl rfl rfl rfl (Nat.le_of_ble_eq_true rfl)) 0 [(_, zE (f (k + 1))), _, _] H4 o1_0 fun w5 H5 => ?_
  clear H4
  refine zC (zB ?_)
  refine zM 2 [.q (.int .i64 ((384 * (K - k) + j : Nat) : Int)), .q (.int .i64 ((384 * (K - (k + 1)) + j : Nat) : Int))] H5 ?ho4 ?he4
  case ho4 => exact ar (ak (by refine fun J => ⟨rfl, fun w' h => ?_⟩; clear h; go_simp; rw [IntKind.wrap_i64]; omega) trivial)
  intro _ w6 H6
  clear H5
  refine zR (l := [2]) rfl ?_
  refine zA (d := 2) rfl rfl rfl rfl ?_
  simp only [Act.put, sa, sz, ss]
  refine zC (zS (zB ?_))
  exact ⟨k + 1, ⟨(slotfn [ud, ud, ud, ud, ud, ud, ud, .int .i64 ((384 * (K - k) + j : Nat) : Int), .bool true, PT g 0, N 1, N (f k), N (f (k + 1)), .int .i64 ((384 * (K - k) + j : Nat) : Int), .int .i64 ((384 * (K - (k + 1)) + j : Nat) : Int)]), rfl, ⟨H6.out.1, H6.out.2⟩, by omega⟩, by omega⟩
 have hkK : k = K := by omega
 subst hkK
 refine wp_seq (wp_seq ?_)
 refine zM 2 [.q (.int .i64 ((384 * (k - k) + j : Nat) : Int)), .q (.bool false)] H2 ?ho5 ?he5
 case ho5 => exact ar (ak (by refine fun J => ⟨rfl, fun w' h => ?_⟩; clear h; go_simp <;> omega) trivial)
 intro _ w7 H7
 clear H2
 refine rN (wp_cond_false rfl ?_)
 refine wp_exit ?_
 repeat refine zX ?_
 refine zT ?_
 refine zB (wp_seq (wp_seq ?_))
 refine zM 2 [.q (.int .i64 ((384 * (k - k) + j : Nat) : Int)), .q (.bool false)] H7 ?ho6 ?he6
 case ho6 => exact ar (ak (by refine fun J => ⟨rfl, fun w' h => ?_⟩; clear h; go_simp <;> omega) trivial)
 intro _ w8 H8
 clear H7
 refine rN (wp_cond_false rfl ?_)
 refine wp_skip (zB (wp_seq ?_))
 refine walk_anyB 7 [.q (PT g 0), .call (N 1), .q (.int .i64 ((384 * (k - k) + j : Nat) : Int)), .q (.int .i64 ((384 - j : Nat) : Int)), .call (N y), .q (N (f k)), .call (N x)] H8 ?ho7 ?he7
 case ho7 => exact ar (ac (fun w' h => eC call7 (CO.out w')) (ar (ak (by refine fun J => ⟨rfl, fun w' h => ?_⟩; clear h; go_simp; rw [IntKind.wrap_i64]; omega) (ac (fun w' h => eC call117 (CH.out w')) (bN 0 (ac (fun w' h => eC call115 (CX.out w' (h.one 2 rfl))) trivial))))))
 intro _ w9 H9
 clear H8
 refine zR (l := [7]) rfl ?_
 refine sG rfl (fun h => zQ h 1 rfl rfl rfl rfl (Nat.le_of_ble_eq_true rfl)) 1 [_, (_, zE x), _] H9 o1_1 fun w10 H10 => ?_
 clear H9
 refine zC (zB (wp_ret ?_))
 repeat (first | refine zL ?_ | refine zK ?_)
 have c0 := H10.out.1.get 1 rfl 0 rfl
 have c1 := H10.out.1.get 1 rfl 1 rfl
 have c2 := H10.out.1.get 1 rfl 2 rfl
 have c3 := H10.out.1.get 1 rfl 3 rfl
 have c4 := H10.out.1.get 1 rfl 4 rfl
 have c5 := H10.out.1.get 1 rfl 5 rfl
 refine bodyPost_ret (v := N x) (by simp [results, Tryz.results83, go_sem, *]) rfl ?_
 exact ⟨rfl, H10.out.2⟩
theorem dbp_any {g n : Nat} (ok : Ok n) {a i : Nat} (ha : a < n) (hi : i < 768) (w : World) (hm : Mm w [(g, modc n)]) :
  Calls Tryz.prog 83 #[PT g 0, N a, .int .i64 ((i : Nat) : Int)] w (Rt w (N (dv n a i))) := by
 have hdm := Nat.div_add_mod i 384
 generalize i / 384 = K at hdm
 have hjl := Nat.mod_lt i (show 0 < 384 by decide)
 generalize i % 384 = j at hdm hjl
 have hl : ∀ k, a * ri n ^ k % n < n := fun k => Nat.mod_lt _ ok.pos
 have cf : ∀ k w, Mm w [(g, modc n)] → Calls Tryz.prog 115 #[PT g 0, N 1, N (a * ri n ^ k % n)] w (Rt w (N (a * ri n ^ (k + 1) % n))) := fun k w hm => by
  have h := product_any g n (big % n) (big * big % n) 1 (a * ri n ^ k % n) ok (small_big 1 (by decide)) (hl k) w hm
  have e : mont n 1 (a * ri n ^ k % n) = a * ri n ^ (k + 1) % n := by
   refine Cg.eq_mod (n := n) ((mont_cg n _ _).trans ?_) (mont_lt _ _ _ ok.pos)
   rw [Nat.one_mul, Nat.pow_succ, ← Nat.mul_assoc]
   exact (Cg.mod _ _).mulR _
  rw [e] at h
  exact h
 have f0 : a * ri n ^ 0 % n = a := by rw [Nat.pow_zero, Nat.mul_one, Nat.mod_eq_of_lt ha]
 rw [← hdm]
 have er : ∀ K, ri n ^ K = hf n ^ (384 * K) := fun K => by
  unfold ri
  obtain ⟨e, he⟩ : ∃ e, e = 64 * 6 := ⟨_, rfl⟩
  rw [← he, show 384 * K = e * K by rw [he], Nat.pow_mul]
 by_cases hj : j = 0
 ·have h := dbp_1 g n _ _ a K j (by omega) hj (fun k => a * ri n ^ k % n) f0 (fun w => of_any 1 (by decide) w) cf w hm
  have e : dv n a (384 * K + j) = a * ri n ^ K % n := by unfold dv; rw [hj, Nat.add_zero, er]
  rw [e]
  exact h
 ·have ch := fun w => shift_up 1 (384 - j) (by omega) w
  have hy : 1 * 2 ^ (384 - j) % big = 2 ^ (384 - j) := by
   rw [Nat.one_mul]
   refine Nat.mod_eq_of_lt ?_
   obtain ⟨m, hm, e⟩ := big_pow
   rw [e]
   exact Nat.pow_lt_pow_right (by decide) (by omega)
  rw [hy] at ch
  have hyb : 2 ^ (384 - j) < big := by rw [← hy]; exact Nat.mod_lt _ big_pos
  have cx := fun w hm => product_any g n (big % n) (big * big % n) (2 ^ (384 - j)) (a * ri n ^ K % n) ok hyb (hl K) w hm
  have e : mont n (2 ^ (384 - j)) (a * ri n ^ K % n) = dv n a (384 * K + j) := by
   refine Cg.eq_mod (n := n) ((mont_cg n _ _).trans ?_) (mont_lt _ _ _ ok.pos)
   have h1 := ((Cg.mod n (a * ri n ^ K)).mulL (2 ^ (384 - j))).mulR (ri n)
   refine h1.trans ?_
   have h2 := (hf_pow n (384 - j) ok.odd).mulL (a * ri n ^ K * hf n ^ j)
   rw [Nat.mul_one] at h2
   have e1 : 2 ^ (384 - j) * (a * ri n ^ K) * ri n = a * ri n ^ K * hf n ^ j * (2 ^ (384 - j) * hf n ^ (384 - j)) := by
    have e2 : ri n = hf n ^ j * hf n ^ (384 - j) := by
     have := er 1
     rw [Nat.pow_one, Nat.mul_one] at this
     rw [this, ← Nat.pow_add]
     congr 1
     omega
    generalize ri n ^ K = z
    rw [e2]
    simp only [Nat.mul_assoc, Nat.mul_comm, Nat.mul_left_comm]
   rw [e1]
   refine h2.trans ?_
   rw [er, Nat.mul_assoc, ← Nat.pow_add]
   exact Cg.refl _ _
  rw [e] at cx
  exact dbp_2 g n _ _ a K j _ _ (by omega) (by omega) hjl (fun k => a * ri n ^ k % n) f0 (fun w => of_any 1 (by decide) w) cf ch cx w hm
theorem call27 : CO 27 := by intro args w; go_simp
theorem call81 : CO 81 := by intro args w; go_simp
theorem call82 : CO 82 := by intro args w; go_simp
theorem call83 : CO 83 := by intro args w; go_simp
abbrev zero26 : List Value := [.int .u64 0, .int .u64 0, .int .u64 0, .int .u64 0, .int .u64 0, .int .u64 0, .int .u64 0, .int .u64 0, .int .u64 0, .int .u64 0, .int .u64 0, .int .u64 0, .int .u64 0, .int .u64 0, .int .u64 0, .int .u64 0, .int .u64 0, .int .u64 0, .int .u64 0, .int .u64 0, .int .u64 0, .int .u64 0, .int .u64 0, .int .u64 0, .int .i64 0, .bool false]
abbrev wkv (o r u v : Nat) (h : Int) (t : Bool) : Value := .agg (wkc o r u v h t).toArray
theorem ex_made58 {ρ : Operand → Value} {o : Oper} {w : World} (ho : o.op = .alloc 141) :
  (execOp ρ o).run Tryz.prog w = .ok (.value (.pointer (some ⟨w.heap.size, 0, none⟩))) (w.alloc (.cells zero26.toArray 141)) := by
 simp only [execOp, ho]
 go_simp
theorem ex_build58 {ρ : Operand → Value} {o : Oper} {x y z : Operand} {n r z0 c1 : Nat} {w : World} (h0 : z0 = 0) (ho : o.op = .build 141 #[(0, x), (1, y), (3, z)]) (hx : ρ x = N n) (hy : ρ y = N r) (hz : ρ z = N c1) : (execOp ρ o).run Tryz.prog w = .ok (.value (wkv n r z0 c1 0 false)) w := by
 subst h0
 simp only [execOp, ho]
 go_simp
 simp [wd_zero]
theorem ex_laidT {ρ : Operand → Value} {o : Oper} {x y : Operand} {g : Nat} {t : TypeId} {zs cs : List Value} {w : World} (hb : Blk w g zs) (hl : zs.length = cs.length) (h1 : cs.all Value.oneCell' = true) (hs : ∀ w, (sizeOf t).run Tryz.prog w = .ok cs.length w) (ho : o.op = .store t x y) (hx : ρ x = .pointer (some ⟨g, 0, none⟩)) (hy : ρ y = .agg cs.toArray) :
  (execOp ρ o).run Tryz.prog w = .ok .skip (w.setCells g 0 cs) := by
 have hk : ∀ k, k < cs.length → ∃ u, zs[k]? = some u := fun k hk => ⟨_, List.getElem?_eq_getElem (by omega)⟩
 have hst := run_storeCells_cells (P := Tryz.prog) g 0 cs 0 w (fun k hkl => by
  obtain ⟨u, hu⟩ := hk k hkl
  rw [show 0 + 0 + k = k by omega, (hb k u hu).1]; rfl) (fun k hkl => by
  obtain ⟨u, hu⟩ := hk k hkl
  rw [show 0 + 0 + k = k by omega]; exact (hb k u hu).2) (List.all_eq_true.1 h1)
 clear hb hk h1 hl
 simp only [execOp, ho, hx, hy]
 go_simp
theorem ex_laid58 {ρ : Operand → Value} {o : Oper} {x y : Operand} {g n r u v : Nat} {h : Int} {t : Bool} {w : World} (hb : Blk w g zero26) (ho : o.op = .store 141 x y) (hx : ρ x = .pointer (some ⟨g, 0, none⟩)) (hy : ρ y = wkv n r u v h t) :
  (execOp ρ o).run Tryz.prog w = .ok .skip (w.setCells g 0 (wkc n r u v h t)) := ex_laidT hb rfl rfl Tryz.sizeOf141 ho hx hy
theorem shift_neg' (a m : Nat) (ha : a < big) (h : m < 384) (w : World) :
  Calls Tryz.prog 117 #[N a, .int .i64 (-((m : Nat) : Int))] w (Rt w (N (a / 2 ^ m))) := by
 by_cases h0 : m = 0
 ·subst h0
  have := shift_up a 0 (by decide) w
  rw [Nat.pow_zero, Nat.mul_one, Nat.mod_eq_of_lt ha] at this
  rw [Nat.pow_zero, Nat.div_one]
  exact this
 ·have := shift_down a (-(m : Int)) ha (by omega) (by omega) w
  rw [show (- -(m : Int)).toNat = m by omega] at this
  exact this
set_option maxHeartbeats 4000000 in
theorem inv_good {g n a : Nat} (ok : Ok n) (ha : a < big) (hg : Nat.gcd n a = 1) (w : World) (hm : Mm w [(g, modc n), (0, dtab)]) :
  Calls Tryz.prog 31 #[PT g 0, N a] w fun e w' => ∃ x, e = .returned (.tuple #[N x, .int .i64 0]) ∧ x < n ∧ x * a % n = 1 ∧ Below w.heap.size w w' := by
 have H0 : Hid (_ ∧ _) := ⟨hm, Below.refl w.heap.size w⟩
 clear hm
 obtain ⟨r0, hr0⟩ : ∃ r0, r0 = a % n := ⟨_, rfl⟩
 have cm := fun w hm => madeC (g := g) ok w hm
 have cr := fun w hm => reduce_any (g := g) ok ha w hm
 rw [← hr0] at cr
 have CM : Hid _ := cm
 have CR : Hid _ := cr
 obtain ⟨z0, hz0⟩ : ∃ z0, z0 = 0 := ⟨_, rfl⟩
 obtain ⟨c1, hc1⟩ : ∃ c1, c1 = 1 := ⟨_, rfl⟩
 have HC1 : Hid _ := hc1
 have CO : Hid (∀ w, Calls Tryz.prog 7 #[.int .u64 1] w (Rt w (N c1))) := fun w => by
  have h := of_any 1 (by decide) w
  rw [HC1.out]
  exact h
 have HZ0 : Hid _ := hz0
 have HR : Hid _ := hr0
 clear cm cr hr0 ha hz0 hc1
 go_enter Tryz.func31, Tryz.ntmps31
 refine wp_seq ?_
 refine zI 3 [.made (zE a) 24, .made zero6 24, .q (.int .i64 0)] (sB H0) ?ho1 ?he1
 case ho1 => exact am (ex_box6 rfl rfl) (am (zO rfl) (ar trivial))
 intro J w1 l hM hl
 have H1 : Hid (Mm w1 ([(J 0, zE a), (J 1, zero6)] ++ _) ∧ _) := wB H0 hM hl [0, 1]
 have o1_0 := vB H0 hM hl 0
 have o1_1 := vB H0 hM hl 1
 clear hM hl l
 generalize J 0 = J1_0 at H1 o1_0 ⊢
 generalize J 1 = J1_1 at H1 o1_1 ⊢
 clear J
 refine rN (wp_seq (wp_seq ?_))
 refine zM 3 [.q (PT g 0), .call (.bool true), .q (.bool false)] H1 ?ho2 ?he2
 case ho2 => exact ar (ak (fun J => ⟨rfl, fun w' h' => eC call77 (CM.out w' (h'.one 2 rfl))⟩) (ak (by refine fun J => ⟨rfl, fun w' h' => ?_⟩; clear h'; go_simp) trivial))
 intro _ w2 H2
 clear H1
 refine rN (wp_cond_false rfl ?_)
 refine wp_skip (zB (wp_seq ?_))
 refine walk_anyA 11 [.q (PT g 0), .q (PT g 0), .q (PT g 0), .q (N n), .q (PT g 0), .q (N a), .call (N r0), .call (N c1), .q (wkv n r0 z0 c1 0 false), .made zero26 141, .laid 9 zero26 (wkc n r0 z0 c1 0 false)] (sB H2) ?ho3 ?he3 (hL := ?hL3)
 case hL3 => exact ⟨⟨_, rfl⟩, trivial⟩
 case ho3 => exact ar (ak (by refine fun J => ⟨rfl, fun w' h' => ?_⟩; clear h'; go_simp) (ak (by refine fun J => ⟨rfl, fun w' h' => ?_⟩; clear h'; go_simp) (ak (fun J => ⟨rfl, fun w' h' => ex_load6 h' 2 rfl rfl rfl rfl⟩) (ar (ak (fun J => ⟨rfl, fun w' h' => ex_load6 h' 0 rfl rfl rfl rfl⟩) (ak (fun J => ⟨rfl, fun w' h' => eC call79 (CR.out w' (h'.one 2 rfl))⟩) (ak (fun J => ⟨rfl, fun w' h' => eC call7 (CO.out w')⟩) (ak (fun J => ⟨rfl, fun w' _ => ex_build58 HZ0.out rfl rfl rfl rfl⟩) (am (ex_made58 rfl) (ak (fun J => ⟨rfl, rfl, rfl, fun w' h' => ex_laid58 h' rfl rfl rfl⟩) trivial))))))))))
 intro J w3 l hM hl
 have H3 : Hid (Mm w3 ([(J 9, wkc n r0 z0 c1 0 false)] ++ _) ∧ _) := wB H2 hM hl [9]
 have o3_9 := vB H2 hM hl 9
 clear hM hl l H2
 generalize J 9 = J3_9 at H3 o3_9 ⊢
 clear J
 refine rN (wp_seq (wp_block ?_))
 refine loop_ghost (α := WS) (fun z a' w' => ∃ s0 : Nat → Value, a' = ⟨#[PT g 0, N a, ud, PT J1_0 0, PT J1_1 0, .int .i64 0, PT J3_9 0, ud, PT g 0, .bool true, .bool false, ud, PT g 0, PT g 0, PT g 0, N n, PT g 0, N a, N r0, N c1, wkv n r0 z0 c1 0 false, s0 21, s0 22, s0 23, s0 24, s0 25, s0 26, ud, ud, ud, ud, ud, ud, ud, ud, ud, ud, ud, ud, ud, ud, ud, ud, ud, ud], []⟩ ∧ (Mm w' [(J3_9, wkc z.o z.r z.u z.v ((z.h : Nat) : Int) z.t), (J1_0, zE a), (J1_1, zero6), (g, modc n), (0, dtab)] ∧ Below w.heap.size w w') ∧ WI n a z) (fun z => z.o + z.r) ⟨n, r0, z0, c1, 0, false⟩ ?st0 ?rd0
 case st0 => exact ⟨(slotfn [ud, ud, ud, ud, ud, ud, ud, ud, ud, ud, ud, ud, ud, ud, ud, ud, ud, ud, ud, ud, ud, ud, ud, ud, ud, ud, ud]), rfl, ⟨H3.out.1, H3.out.2⟩, by rw [HR.out, HZ0.out, HC1.out]; exact WI.start ok⟩
 intro z a' w4 hI
 obtain ⟨s0, rfl, hMB, hk0⟩ := hI
 have H4 : Hid (_ ∧ _) := hMB
 clear hMB H3
 by_cases hlt : z.r ≠ 0
 ·have hrd : True := trivial
  clear hrd
  obtain ⟨o, r, u, v, h, t⟩ := z
  have I : WI n a ⟨o, r, u, v, h, t⟩ := hk0
  have hrz : r ≠ 0 := hlt
  have hrb : r < big := by have h1 : r ≤ n := I.rn; have := ok.big; omega
  obtain ⟨k, r1, hk, er, hr1, ctz⟩ := trailing_any hrb hrz
  obtain ⟨p1, p2, p3, p4, p5, p6, p7⟩ := I.facts hrz er
  obtain ⟨i1, i2⟩ := I.next hrz er hr1
  have hh : h < 768 := I.hlt ok
  have hbn := ok.big
  have e0 := fun w => run_eqN r 0 hrb big_pos w
  rw [decide_eq_false hrz] at e0
  obtain ⟨U, hU⟩ : ∃ U, U = u * 2 ^ k := ⟨_, rfl⟩
  rw [← hU] at p6 p7 i1 i2
  have hun : u < n := I.un
  have c53 := fun w => shift_neg' r k hrb hk w
  rw [show r / 2 ^ k = r1 by rw [er, Nat.mul_div_cancel _ (Nat.two_pow_pos k)]] at c53
  have d53 := fun w => shift_up u k hk w
  rw [← hU, Nat.mod_eq_of_lt (show U < big by omega)] at d53
  have ch : ∀ w, Mm w [(J3_9, wkc o r u v ((h : Nat) : Int) t), (0, dtab)] → Calls Tryz.prog 81 #[PT J3_9 0] w fun e w' => e = .returned (.tuple #[]) ∧ Mm w' [(J3_9, wkc o r1 U v (((h : Nat) : Int) + ((k : Nat) : Int)) t)] ∧ Kp J3_9 w w' := fun w hm => halve_gen J3_9 o r u v k r1 U ((h : Nat) : Int) t hk (by omega) (by omega) ctz c53 d53 w hm
  have CH : Hid _ := ch
  have I1 : Hid _ := i1
  have I2 : Hid _ := i2
  have R1 : Hid (r1 ≤ r) := (by rw [er]; exact Nat.le_mul_of_pos_right _ (Nat.two_pow_pos k) : r1 ≤ r)
  clear ch c53 d53 ctz i1 i2 er hr1 hU I hk0
  by_cases hl : r1 < o
  ·have hrd : True := trivial
   clear hrd
   have cs : ∀ w, Mm w [(J3_9, wkc o r1 U v (((h : Nat) : Int) + ((k : Nat) : Int)) t)] → Calls Tryz.prog 82 #[PT J3_9 0] w fun e w' => e = .returned (.tuple #[]) ∧ Mm w' [(J3_9, wkc r1 (o - r1) v (U + v) (((h : Nat) : Int) + ((k : Nat) : Int)) (!t))] ∧ Kp J3_9 w w' := fun w hm => by
    have c31 := fun w => compare_any r1 o (by omega) (by omega) w
    rw [cmp_lt hl] at c31
    have c40 := fun w => sub_any o r1 (by omega) (by omega) w
    rw [decide_eq_false (by omega), show o + big - r1 = o - r1 + big by omega, Nat.add_mod_right, Nat.mod_eq_of_lt (show o - r1 < big by omega)] at c40
    have c45 := fun w => add_any U v (by omega) (by omega) w
    rw [decide_eq_false (by omega), Nat.mod_eq_of_lt (show U + v < big by omega)] at c45
    exact subtract_1 J3_9 o r1 U v _ _ (((h : Nat) : Int) + ((k : Nat) : Int)) t c31 c40 c45 w hm
   have CS : Hid _ := cs
   clear cs
   refine wp_seq (wp_seq ?_)
   refine zM 4 [.q (PT J3_9 6), .q (N r), .q (N 0), .q (.bool true)] H4 ?ho4 ?he4
   case ho4 => exact ak (by refine fun J => ⟨rfl, fun w' h' => ?_⟩; clear h'; go_simp) (ak (fun J => ⟨rfl, fun w' h' => ex_load6 h' 0 rfl rfl rfl rfl⟩) (ak (by refine fun J => ⟨rfl, fun w' h' => ?_⟩; clear h'; exact ex_zero6 rfl) (ak (fun J => ⟨rfl, fun w' _ => exec_neq6 e0 rfl rfl rfl⟩) trivial)))
   intro _ w5 H5
   clear H4
   refine rN (wp_cond_true rfl ?_)
   refine wp_skip (zB ?_)
   refine wp_block (wp_seq ?_)
   refine zM 0 [] H5 ?ho5 ?he5
   case ho5 => exact trivial
   intro _ w6 H6
   clear H5
   refine zR (l := [0]) rfl ?_
   refine zF (d := 25) (R := fun vv w' => vv = .tuple #[] ∧ Mm w' [(J3_9, wkc o r1 U v (((h : Nat) : Int) + ((k : Nat) : Int)) t)] ∧ Kp J3_9 w6 w') rfl rfl rfl (zG (args := #[PT J3_9 0]) rfl call81 rfl (mpn rfl)) (Calls.mono (CH.out w6 (H6.out.1.two 0 4 rfl rfl (by decide))) (fun e w2 hh => ⟨_, hh.1, rfl, hh.2⟩)) ?_
   rintro _ w7 ⟨rfl, hn, hp⟩
   have H7 : Hid (Mm w7 [(J3_9, wkc o r1 U v (((h : Nat) : Int) + ((k : Nat) : Int)) t), (J1_0, zE a), (J1_1, zero6), (g, modc n), (0, dtab)] ∧ Below w.heap.size w w7) := ⟨H6.out.1.change 0 rfl hp hn, Below.kp H6.out.2 hp o3_9.out H6.out.2.size⟩
   clear hn hp H6
   simp only [Act.put, sa, sz, ss]
   refine zC (zB ?_)
   refine zM 0 [] H7 ?ho6 ?he6
   case ho6 => exact trivial
   intro _ w8 H8
   clear H7
   refine zR (l := [0]) rfl ?_
   refine zF (d := 26) (R := fun vv w' => vv = .tuple #[] ∧ Mm w' [(J3_9, wkc r1 (o - r1) v (U + v) (((h : Nat) : Int) + ((k : Nat) : Int)) (!t))] ∧ Kp J3_9 w8 w') rfl rfl rfl (zG (args := #[PT J3_9 0]) rfl call82 rfl (mpn rfl)) (Calls.mono (CS.out w8 (H8.out.1.one 0 rfl)) (fun e w2 hh => ⟨_, hh.1, rfl, hh.2⟩)) ?_
   rintro _ w9 ⟨rfl, hn, hp⟩
   have H9 : Hid (Mm w9 [(J3_9, wkc r1 (o - r1) v (U + v) (((h : Nat) : Int) + ((k : Nat) : Int)) (!t)), (J1_0, zE a), (J1_1, zero6), (g, modc n), (0, dtab)] ∧ Below w.heap.size w w9) := ⟨H8.out.1.change 0 rfl hp hn, Below.kp H8.out.2 hp o3_9.out H8.out.2.size⟩
   clear hn hp H8
   simp only [Act.put, sa, sz, ss]
   refine zC (zS (zB ?_))
   exact ⟨⟨r1, o - r1, v, U + v, h + k, !t⟩, ⟨(slotfn [ud, ud, ud, ud, ud, ud, ud, ud, ud, ud, ud, ud, ud, ud, ud, ud, ud, ud, ud, ud, ud, PT J3_9 6, N r, N 0, .bool true, .tuple #[], .tuple #[]]), rfl, ⟨by rw [Int.natCast_add]; exact H9.out.1, H9.out.2⟩, I1.out hl⟩, (by show r1 + (o - r1) < o + r; have h4 : r1 ≤ r := R1.out; omega)⟩
  ·have hrd : True := trivial
   clear hrd
   have cs : ∀ w, Mm w [(J3_9, wkc o r1 U v (((h : Nat) : Int) + ((k : Nat) : Int)) t)] → Calls Tryz.prog 82 #[PT J3_9 0] w fun e w' => e = .returned (.tuple #[]) ∧ Mm w' [(J3_9, wkc o (r1 - o) U (v + U) (((h : Nat) : Int) + ((k : Nat) : Int)) t)] ∧ Kp J3_9 w w' := fun w hm => by
    have c31 := fun w => compare_any r1 o (by omega) (by omega) w
    have c40 := fun w => sub_any r1 o (by omega) (by omega) w
    rw [decide_eq_false (by omega), show r1 + big - o = r1 - o + big by omega, Nat.add_mod_right, Nat.mod_eq_of_lt (show r1 - o < big by omega)] at c40
    have c45 := fun w => add_any v U (by omega) (by omega) w
    rw [decide_eq_false (by omega), Nat.mod_eq_of_lt (show v + U < big by omega)] at c45
    exact subtract_2 J3_9 o r1 U v _ _ (((h : Nat) : Int) + ((k : Nat) : Int)) t _ (cmp_ge hl) c31 c40 c45 w hm
   have CS : Hid _ := cs
   clear cs
   refine wp_seq (wp_seq ?_)
   refine zM 4 [.q (PT J3_9 6), .q (N r), .q (N 0), .q (.bool true)] H4 ?ho7 ?he7
   case ho7 => exact ak (by refine fun J => ⟨rfl, fun w' h' => ?_⟩; clear h'; go_simp) (ak (fun J => ⟨rfl, fun w' h' => ex_load6 h' 0 rfl rfl rfl rfl⟩) (ak (by refine fun J => ⟨rfl, fun w' h' => ?_⟩; clear h'; exact ex_zero6 rfl) (ak (fun J => ⟨rfl, fun w' _ => exec_neq6 e0 rfl rfl rfl⟩) trivial)))
   intro _ w10 H10
   clear H4
   refine rN (wp_cond_true rfl ?_)
   refine wp_skip (zB ?_)
   refine wp_block (wp_seq ?_)
   refine zM 0 [] H10 ?ho8 ?he8
   case ho8 => exact trivial
   intro _ w11 H11
   clear H10
   refine zR (l := [0]) rfl ?_
   refine zF (d := 25) (R := fun vv w' => vv = .tuple #[] ∧ Mm w' [(J3_9, wkc o r1 U v (((h : Nat) : Int) + ((k : Nat) : Int)) t)] ∧ Kp J3_9 w11 w') rfl rfl rfl (zG (args := #[PT J3_9 0]) rfl call81 rfl (mpn rfl)) (Calls.mono (CH.out w11 (H11.out.1.two 0 4 rfl rfl (by decide))) (fun e w2 hh => ⟨_, hh.1, rfl, hh.2⟩)) ?_
   rintro _ w12 ⟨rfl, hn, hp⟩
   have H12 : Hid (Mm w12 [(J3_9, wkc o r1 U v (((h : Nat) : Int) + ((k : Nat) : Int)) t), (J1_0, zE a), (J1_1, zero6), (g, modc n), (0, dtab)] ∧ Below w.heap.size w w12) := ⟨H11.out.1.change 0 rfl hp hn, Below.kp H11.out.2 hp o3_9.out H11.out.2.size⟩
   clear hn hp H11
   simp only [Act.put, sa, sz, ss]
   refine zC (zB ?_)
   refine zM 0 [] H12 ?ho9 ?he9
   case ho9 => exact trivial
   intro _ w13 H13
   clear H12
   refine zR (l := [0]) rfl ?_
   refine zF (d := 26) (R := fun vv w' => vv = .tuple #[] ∧ Mm w' [(J3_9, wkc o (r1 - o) U (v + U) (((h : Nat) : Int) + ((k : Nat) : Int)) t)] ∧ Kp J3_9 w13 w') rfl rfl rfl (zG (args := #[PT J3_9 0]) rfl call82 rfl (mpn rfl)) (Calls.mono (CS.out w13 (H13.out.1.one 0 rfl)) (fun e w2 hh => ⟨_, hh.1, rfl, hh.2⟩)) ?_
   rintro _ w14 ⟨rfl, hn, hp⟩
   have H14 : Hid (Mm w14 [(J3_9, wkc o (r1 - o) U (v + U) (((h : Nat) : Int) + ((k : Nat) : Int)) t), (J1_0, zE a), (J1_1, zero6), (g, modc n), (0, dtab)] ∧ Below w.heap.size w w14) := ⟨H13.out.1.change 0 rfl hp hn, Below.kp H13.out.2 hp o3_9.out H13.out.2.size⟩
   clear hn hp H13
   simp only [Act.put, sa, sz, ss]
   refine zC (zS (zB ?_))
   exact ⟨⟨o, r1 - o, U, v + U, h + k, t⟩, ⟨(slotfn [ud, ud, ud, ud, ud, ud, ud, ud, ud, ud, ud, ud, ud, ud, ud, ud, ud, ud, ud, ud, ud, PT J3_9 6, N r, N 0, .bool true, .tuple #[], .tuple #[]]), rfl, ⟨by rw [Int.natCast_add]; exact H14.out.1, H14.out.2⟩, I2.out hl⟩, (by show o + (r1 - o) < o + r; have h4 : r1 ≤ r := R1.out; omega)⟩
 obtain ⟨o, r, u, v, h, t⟩ := z
 have I : WI n a ⟨o, r, u, v, h, t⟩ := hk0
 have hr0 : r = 0 := Classical.byContradiction hlt
 have hh : h < 768 := I.hlt ok
 have hun : u < n := I.un
 have hog : o = Nat.gcd n a := by have h1 : Nat.gcd o r = Nat.gcd n a := I.gcd; rwa [hr0, Nat.gcd_zero_right] at h1
 have e0 := fun w => run_eqN r 0 (by rw [hr0]; exact big_pos) big_pos w
 rw [decide_eq_true hr0] at e0
 have HR0 : Hid _ := hr0
 clear hr0
 have ho1 : o = 1 := by rw [hog]; exact hg
 have e1 := fun w => run_eqN o c1 (by rw [ho1]; exact small_big 1 (by decide)) (by rw [HC1.out]; exact small_big 1 (by decide)) w
 rw [decide_eq_true (by rw [ho1, HC1.out])] at e1
 have HO : Hid _ := ho1
 clear ho1
 have II : Hid _ := I
 clear I hk0 hog hlt
 cases t
 ·have IT : Hid _ := II.out
  clear II
  have cn := fun w hm => negm_any (g := g) ok (show u < big by have := ok.big; omega) w hm
  have cd := fun w hm => dbp_any (g := g) ok (subm_lt_n ok.pos 0 u) hh w hm
  have CN : Hid _ := cn
  have CD : Hid _ := cd
  clear cn cd
  refine wp_seq (wp_seq ?_)
  refine zM 4 [.q (PT J3_9 6), .q (N r), .q (N 0), .q (.bool false)] H4 ?ho10f ?he10f
  case ho10f => exact ak (by refine fun J => ⟨rfl, fun w' h' => ?_⟩; clear h'; go_simp) (ak (fun J => ⟨rfl, fun w' h' => ex_load6 h' 0 rfl rfl rfl rfl⟩) (ak (by refine fun J => ⟨rfl, fun w' h' => ?_⟩; clear h'; exact ex_zero6 rfl) (ak (fun J => ⟨rfl, fun w' _ => exec_neq6 e0 rfl rfl rfl⟩) trivial)))
  intro _ w15 H15
  clear H4
  refine rN (wp_cond_false rfl ?_)
  refine wp_exit ?_
  repeat refine zX ?_
  refine zT ?_
  refine zB (wp_seq (wp_seq ?_))
  refine walk_anyB 4 [.q (PT J3_9 0), .q (N o), .call (N c1), .q (.bool false)] H15 ?ho11f ?he11f
  case ho11f => exact ak (by refine fun J => ⟨rfl, fun w' h' => ?_⟩; clear h'; go_simp) (ak (fun J => ⟨rfl, fun w' h' => ex_load6 h' 0 rfl rfl rfl rfl⟩) (ak (fun J => ⟨rfl, fun w' h' => eC call7 (CO.out w')⟩) (ak (fun J => ⟨rfl, fun w' _ => exec_neq6 e1 rfl rfl rfl⟩) trivial)))
  intro _ w16 H16
  clear H15
  refine rN (wp_cond_false rfl ?_)
  refine wp_skip (zB (wp_seq ?_))
  refine zI 4 [.q (PT J3_9 12), .q (N u), .made zero6 24, .laid 2 zero6 (zE u)] (sB H16) ?ho12f ?he12f (hL := ?hL12f)
  case hL12f => exact ⟨⟨_, rfl⟩, trivial⟩
  case ho12f => exact ak (by refine fun J => ⟨rfl, fun w' h' => ?_⟩; clear h'; go_simp) (ak (fun J => ⟨rfl, fun w' h' => ex_load6 h' 0 rfl rfl rfl rfl⟩) (am (zO rfl) (ak (fun J => ⟨rfl, rfl, rfl, fun w' h' => exec_laid6 h' rfl rfl rfl⟩) trivial)))
  intro J w17 l hM hl
  have H17 : Hid (Mm w17 ([(J 2, zE u)] ++ _) ∧ _) := wB H16 hM hl [2]
  have o12_2 := vB H16 hM hl 2
  clear hM hl l H16
  generalize J 2 = J12_2 at H17 o12_2 ⊢
  clear J
  refine rN (wp_seq (wp_seq ?_))
  refine zM 3 [.q (PT J3_9 25), .q (.bool false), .q (.bool true)] H17 ?ho13f ?he13f
  case ho13f => exact ak (by refine fun J => ⟨rfl, fun w' h' => ?_⟩; clear h'; go_simp) (ak (fun J => ⟨rfl, fun w' h' => ex_loadB h' 1 rfl rfl rfl rfl⟩) (ak (by refine fun J => ⟨rfl, fun w' h' => ?_⟩; clear h'; go_simp) trivial))
  intro _ w18 H18
  clear H17
  refine rN (wp_cond_true rfl ?_)
  refine zM 3 [.q (PT g 0), .q (N u), .call (N (subm n 0 u))] H18 ?ho14f ?he14f
  case ho14f => exact ar (ak (fun J => ⟨rfl, fun w' h' => ex_load6 h' 0 rfl rfl rfl rfl⟩) (ak (fun J => ⟨rfl, fun w' h' => eC call27 (CN.out w' (h'.one 4 rfl))⟩) trivial))
  intro _ w19 H19
  clear H18
  refine zR (l := [3]) rfl ?_
  refine sG rfl (fun h => zQ h 0 rfl rfl rfl rfl (Nat.le_of_ble_eq_true rfl)) 0 [(_, zE (subm n 0 u)), _, _, _, _, _] H19 o12_2 fun w20 H20 => ?_
  clear H19
  refine zC (zB (wp_seq ?_))
  refine zM 5 [.q (PT g 0), .q (N (subm n 0 u)), .q (PT J3_9 24), .q (.int .i64 ((h : Nat) : Int)), .call (N (dv n (subm n 0 u) h))] H20 ?ho15f ?he15f
  case ho15f => exact ar (ak (fun J => ⟨rfl, fun w' h' => ex_load6 h' 0 rfl rfl rfl rfl⟩) (ak (by refine fun J => ⟨rfl, fun w' h' => ?_⟩; clear h'; go_simp) (ak (fun J => ⟨rfl, fun w' h' => ex_loadI h' 1 rfl rfl rfl rfl⟩) (ak (fun J => ⟨rfl, fun w' h' => eC call83 (CD.out w' (h'.one 4 rfl))⟩) trivial))))
  intro _ w21 H21
  clear H20
  refine zR (l := [5, 6]) rfl ?_
  refine sG rfl (fun h => zQ h 3 rfl rfl rfl rfl (Nat.le_of_ble_eq_true rfl)) 3 [_, _, _, (_, zE (dv n (subm n 0 u) h)), _, _] H21 o1_1 fun w22 H22 => ?_
  clear H21
  refine zA (d := 5) rfl rfl rfl rfl ?_
  simp only [Act.put, sa, sz, ss]
  refine zC (zB (wp_ret ?_))
  repeat (first | refine zL ?_ | refine zK ?_)
  have c0 := H22.out.1.get 3 rfl 0 rfl
  have c1 := H22.out.1.get 3 rfl 1 rfl
  have c2 := H22.out.1.get 3 rfl 2 rfl
  have c3 := H22.out.1.get 3 rfl 3 rfl
  have c4 := H22.out.1.get 3 rfl 4 rfl
  have c5 := H22.out.1.get 3 rfl 5 rfl
  refine bodyPost_ret (v := .tuple #[N (dv n (subm n 0 u) h), .int .i64 0]) (by simp [results, Tryz.results31, go_sem, *]) rfl ?_
  exact ⟨_, rfl, Nat.mod_lt _ ok.pos, end_false ok (by have h3 := IT.out; rw [HR0.out] at h3; exact h3) HO.out, H22.out.2⟩
 ·have IT : Hid _ := II.out
  clear II
  have cd := fun w hm => dbp_any (g := g) ok hun hh w hm
  have CD : Hid _ := cd
  clear cd
  refine wp_seq (wp_seq ?_)
  refine zM 4 [.q (PT J3_9 6), .q (N r), .q (N 0), .q (.bool false)] H4 ?ho10t ?he10t
  case ho10t => exact ak (by refine fun J => ⟨rfl, fun w' h' => ?_⟩; clear h'; go_simp) (ak (fun J => ⟨rfl, fun w' h' => ex_load6 h' 0 rfl rfl rfl rfl⟩) (ak (by refine fun J => ⟨rfl, fun w' h' => ?_⟩; clear h'; exact ex_zero6 rfl) (ak (fun J => ⟨rfl, fun w' _ => exec_neq6 e0 rfl rfl rfl⟩) trivial)))
  intro _ w15 H15
  clear H4
  refine rN (wp_cond_false rfl ?_)
  refine wp_exit ?_
  repeat refine zX ?_
  refine zT ?_
  refine zB (wp_seq (wp_seq ?_))
  refine walk_anyB 4 [.q (PT J3_9 0), .q (N o), .call (N c1), .q (.bool false)] H15 ?ho11t ?he11t
  case ho11t => exact ak (by refine fun J => ⟨rfl, fun w' h' => ?_⟩; clear h'; go_simp) (ak (fun J => ⟨rfl, fun w' h' => ex_load6 h' 0 rfl rfl rfl rfl⟩) (ak (fun J => ⟨rfl, fun w' h' => eC call7 (CO.out w')⟩) (ak (fun J => ⟨rfl, fun w' _ => exec_neq6 e1 rfl rfl rfl⟩) trivial)))
  intro _ w16 H16
  clear H15
  refine rN (wp_cond_false rfl ?_)
  refine wp_skip (zB (wp_seq ?_))
  refine zI 4 [.q (PT J3_9 12), .q (N u), .made zero6 24, .laid 2 zero6 (zE u)] (sB H16) ?ho12t ?he12t (hL := ?hL12t)
  case hL12t => exact ⟨⟨_, rfl⟩, trivial⟩
  case ho12t => exact ak (by refine fun J => ⟨rfl, fun w' h' => ?_⟩; clear h'; go_simp) (ak (fun J => ⟨rfl, fun w' h' => ex_load6 h' 0 rfl rfl rfl rfl⟩) (am (zO rfl) (ak (fun J => ⟨rfl, rfl, rfl, fun w' h' => exec_laid6 h' rfl rfl rfl⟩) trivial)))
  intro J w17 l hM hl
  have H17 : Hid (Mm w17 ([(J 2, zE u)] ++ _) ∧ _) := wB H16 hM hl [2]
  have o12_2 := vB H16 hM hl 2
  clear hM hl l H16
  generalize J 2 = J12_2 at H17 o12_2 ⊢
  clear J
  refine rN (wp_seq (wp_seq ?_))
  refine zM 3 [.q (PT J3_9 25), .q (.bool true), .q (.bool false)] H17 ?ho13t ?he13t
  case ho13t => exact ak (by refine fun J => ⟨rfl, fun w' h' => ?_⟩; clear h'; go_simp) (ak (fun J => ⟨rfl, fun w' h' => ex_loadB h' 1 rfl rfl rfl rfl⟩) (ak (by refine fun J => ⟨rfl, fun w' h' => ?_⟩; clear h'; go_simp) trivial))
  intro _ w18 H18
  clear H17
  refine rN (wp_cond_false rfl ?_)
  refine wp_skip (zB (wp_seq ?_))
  refine zM 5 [.q (PT g 0), .q (N u), .q (PT J3_9 24), .q (.int .i64 ((h : Nat) : Int)), .call (N (dv n u h))] H18 ?ho14t ?he14t
  case ho14t => exact ar (ak (fun J => ⟨rfl, fun w' h' => ex_load6 h' 0 rfl rfl rfl rfl⟩) (ak (by refine fun J => ⟨rfl, fun w' h' => ?_⟩; clear h'; go_simp) (ak (fun J => ⟨rfl, fun w' h' => ex_loadI h' 1 rfl rfl rfl rfl⟩) (ak (fun J => ⟨rfl, fun w' h' => eC call83 (CD.out w' (h'.one 4 rfl))⟩) trivial))))
  intro _ w19 H19
  clear H18
  refine zR (l := [5, 6]) rfl ?_
  refine sG rfl (fun h => zQ h 3 rfl rfl rfl rfl (Nat.le_of_ble_eq_true rfl)) 3 [_, _, _, (_, zE (dv n u h)), _, _] H19 o1_1 fun w20 H20 => ?_
  clear H19
  refine zA (d := 5) rfl rfl rfl rfl ?_
  simp only [Act.put, sa, sz, ss]
  refine zC (zB (wp_ret ?_))
  repeat (first | refine zL ?_ | refine zK ?_)
  have c0 := H20.out.1.get 3 rfl 0 rfl
  have c1 := H20.out.1.get 3 rfl 1 rfl
  have c2 := H20.out.1.get 3 rfl 2 rfl
  have c3 := H20.out.1.get 3 rfl 3 rfl
  have c4 := H20.out.1.get 3 rfl 4 rfl
  have c5 := H20.out.1.get 3 rfl 5 rfl
  refine bodyPost_ret (v := .tuple #[N (dv n u h), .int .i64 0]) (by simp [results, Tryz.results31, go_sem, *]) rfl ?_
  exact ⟨_, rfl, Nat.mod_lt _ ok.pos, end_true ok (by have h3 := IT.out; rw [HR0.out] at h3; exact h3) HO.out, H20.out.2⟩
theorem call75 : CO 75 := by intro args w; go_simp
theorem call126 : CO 126 := by intro args w; go_simp
/-- The number that makes 1 with a. -/
def invm (n a : Nat) : Nat := ((List.range n).find? fun x => x * a % n == 1).getD 0
theorem inv_unique {n a x y : Nat} (hx : x < n) (hy : y < n) (h1 : x * a % n = 1) (h2 : y * a % n = 1) : x = y := by
 have hn : 1 < n := by
  rcases Nat.lt_or_ge 1 n with h | h
  ·exact h
  ·have : x * a % n < 1 := Nat.lt_of_lt_of_le (Nat.mod_lt _ (by omega)) h
   omega
 have e1 : Cg n (x * a) 1 := by unfold Cg; rw [h1, Nat.mod_eq_of_lt hn]
 have e2 : Cg n (y * a) 1 := by unfold Cg; rw [h2, Nat.mod_eq_of_lt hn]
 have s1 := e2.mulL x
 have s2 := e1.mulL y
 rw [Nat.mul_one] at s1 s2
 have e3 : x * (y * a) = y * (x * a) := Nat.mul_left_comm ..
 rw [e3] at s1
 exact (s1.symm.trans s2).eq_of_lt hx hy
theorem invm_eq {n a x : Nat} (hx : x < n) (h1 : x * a % n = 1) : invm n a = x := by
 unfold invm
 cases hf : (List.range n).find? fun x => x * a % n == 1 with
 | none =>
  have := List.find?_eq_none.1 hf x (List.mem_range.2 hx)
  simp [h1] at this
 | some y =>
  have h2 := List.find?_some hf
  have h3 := List.mem_range.1 (List.mem_of_find?_eq_some hf)
  exact inv_unique h3 hx (by simpa using h2) h1
theorem inv_ok {g n a : Nat} (ok : Ok n) (ha : a < big) (hg : Nat.gcd n a = 1) (w : World) (hm : Mm w [(g, modc n), (0, dtab)]) :
  Calls Tryz.prog 31 #[PT g 0, N a] w (Rt w (.tuple #[N (invm n a), .int .i64 0])) := by
 refine (inv_good ok ha hg w hm).mono fun e w' h => ?_
 obtain ⟨x, rfl, hx, h1, hb⟩ := h
 rw [invm_eq hx h1]
 exact ⟨rfl, hb⟩
theorem call8 : CO 8 := by intro args w; go_simp
theorem call13 : CO 13 := by intro args w; go_simp
theorem call29 : CO 29 := by intro args w; go_simp
theorem call30 : CO 30 := by intro args w; go_simp
theorem call40 : CO 40 := by intro args w; go_simp
theorem call84 : CO 84 := by intro args w; go_simp
theorem call90 : CO 90 := by intro args w; go_simp
theorem call94 : CO 94 := by intro args w; go_simp
theorem call96 : CO 96 := by intro args w; go_simp
theorem call112 : CO 112 := by intro args w; go_simp
theorem call118 : CO 118 := by intro args w; go_simp
theorem call125 : CO 125 := by intro args w; go_simp
theorem call127 : CO 127 := by intro args w; go_simp
theorem call129 : CO 129 := by intro args w; go_simp
theorem call144 : CO 144 := by intro args w; go_simp
theorem call160 : CO 160 := by intro args w; go_simp
theorem call194 : CO 194 := by intro args w; go_simp
theorem call211 : CO 211 := by intro args w; go_simp
theorem call212 : CO 212 := by intro args w; go_simp
theorem call213 : CO 213 := by intro args w; go_simp
theorem mod_low (P k : Nat) (hk : k ≤ 6) : P % big % 2 ^ (64 * k) = P % 2 ^ (64 * k) := by
 obtain ⟨n, hn, e⟩ := big_pow
 rw [e]
 exact Nat.mod_mod_of_dvd P (Nat.pow_dvd_pow 2 (by omega))
theorem brw_low (L P k : Nat) (hk : k ≤ 6) : brw L (P % big) k = brw L P k := by unfold brw; rw [mod_low P k hk]
/-- What is left, the lowest k words less P. -/
def tkf (L P k m : Nat) : Int := if m < k then wd (L + big - P % big) m else wd L m
theorem tkf_at {L P k b : Nat} (hk : k < 6) : (lec b (tkf L P k))[6 + k]? = some (.int .u64 (wd L k)) := by
 rw [lec_hi hk]
 unfold tkf
 rw [if_neg (by omega)]
theorem tkf_step {L P k b : Nat} {v : Int} (h : v = wd (L + big - P % big) k) : lec b (upd (tkf L P k) k v) = lec b (tkf L P (k + 1)) := lec_congr fun j _ => by
 unfold upd tkf
 by_cases h1 : j = k
 ·subst h1; rw [if_pos rfl, if_pos (by omega), h]
 ·rw [if_neg h1]
  by_cases h2 : j < k
  ·rw [if_pos h2, if_pos (by omega)]
  ·rw [if_neg h2, if_neg (by omega)]
theorem tkf_start (L P b : Nat) : lec b (wd L) = lec b (tkf L P 0) := lec_congr fun j _ => by
 unfold tkf
 rw [if_neg (by omega)]
theorem tkf_end (L P b : Nat) : lec b (tkf L P 6) = lec b (wd ((L + big - P % big) % big)) := lec_congr fun j hj => by
 unfold tkf
 rw [if_pos hj, wd_mod _ _ hj]
theorem big_pos2 : 0 < big := by rw [big_eq]; exact pow_pos' 6
theorem take_word (L P k : Nat) (hk : k < 6) : subLo (wd L k) (wd P k) (brw L P k) = wd (L + big - P % big) k := by
 rw [← sub_word L (P % big) k hk (Nat.mod_lt _ big_pos2), wd_mod _ _ hk, brw_low _ _ _ (by omega)]
theorem mulLo_comm (x y m c : Int) : mulLo x y m c = mulLo y x m c := by unfold mulLo; rw [Int.mul_comm]
theorem mulHi_comm (x y m c : Int) : mulHi x y m c = mulHi y x m c := by unfold mulHi; rw [Int.mul_comm]
set_option maxHeartbeats 1000000 in
theorem take_gen (g b L t P T : Nat) (hT : IntKind.u64.wrap (((cc 0 t b 6 : Nat) : Int) + brw L P 6) = ((T : Nat) : Int))
  (c0 : ((0 : Nat) : Int) = ((cc 0 t b 0 : Nat) : Int)) (d0 : (0 : Int) = brw L P 0)
  (cm : ∀ k w, Calls Tryz.prog 163 #[.int .u64 (wd b k), .int .u64 ((t : Nat) : Int), .int .u64 0, .int .u64 ((cc 0 t b k : Nat) : Int)] w (Rt w (.tuple #[.int .u64 (wd P k), .int .u64 ((cc 0 t b (k + 1) : Nat) : Int)])))
  (cs : ∀ k w, (callFunc 161 #[.int .u64 (wd L k), .int .u64 (wd P k), .int .u64 (brw L P k)]).run Tryz.prog w = .ok (.value (.tuple #[.int .u64 (subLo (wd L k) (wd P k) (brw L P k)), .int .u64 (brw L P (k + 1))])) w) (w : World) (hm : Mm w [(g, lec b (wd L))]) :
  Calls Tryz.prog 212 #[PT g 0, .int .u64 ((t : Nat) : Int)] w fun e w' => e = .returned (.int .u64 ((T : Nat) : Int)) ∧ Mm w' [(g, lec b (tkf L P 6))] ∧ Kp g w w' := by
 have H0 : Hid (_ ∧ _) := ⟨hm, Kp.refl g w⟩
 clear hm
 have CM : Hid _ := cm
 have CS : Hid _ := cs
 clear cm cs
 go_enter Tryz.func212, Tryz.ntmps212
 refine wp_seq ?_
 refine zI 1 [.q (.int .u64 0)] (sB H0) ?ho1 ?he1
 case ho1 => exact ar trivial
 intro J w1 l hM hl
 have H1 := keepK H0 hM.below
 clear hM hl l J
 refine rN (wp_seq ?_)
 refine zI 3 [.q (.int .u64 0), .q (.int .u64 0), .q (.int .u64 0)] (sB H1) ?ho2 ?he2
 case ho2 => exact ar (ar (ar trivial))
 intro J w2 l hM hl
 have H2 := keepK H1 hM.below
 clear hM hl l H1 J
 refine rN (wp_seq (wp_seq ?_))
 refine zI 1 [.q (.int .i64 0)] (sB H2) ?ho3 ?he3
 case ho3 => exact ar trivial
 intro J w3 l hM hl
 have H3 := keepK H2 hM.below
 clear hM hl l H2 J
 refine rN (wp_block ?_)
 refine loop_ghost (α := Nat) (fun k a' w' => ∃ s0 : Nat → Value, a' = ⟨#[PT g 0, .int .u64 ((t : Nat) : Int), ud, ud, .int .u64 0, s0 5, .int .u64 ((cc 0 t b k : Nat) : Int), .int .u64 (brw L P k), s0 8, .int .i64 ((k : Nat) : Int), s0 10, s0 11, s0 12, s0 13, s0 14, s0 15, s0 16, s0 17, s0 18, s0 19, s0 20, s0 21, s0 22, s0 23, s0 24, s0 25, s0 26, s0 27, s0 28, s0 29, s0 30, s0 31, s0 32, s0 33, s0 34, s0 35, s0 36, s0 37, s0 38, s0 39, s0 40, s0 41, ud, ud, ud], []⟩ ∧ (Mm w' [(g, lec b (tkf L P k))] ∧ Kp g w w') ∧ k ≤ 6) (fun k => 6 - k) 0 ?st0 ?rd0
 case st0 => exact ⟨(slotfn [ud, ud, ud, ud, ud, .int .u64 0, ud, ud, ud, ud, ud, ud, ud, ud, ud, ud, ud, ud, ud, ud, ud, ud, ud, ud, ud, ud, ud, ud, ud, ud, ud, ud, ud, ud, ud, ud, ud, ud, ud, ud, ud, ud]), by rw [← c0, ← d0]; rfl, ⟨H3.out.1.at0 (tkf_start L P b), H3.out.2⟩, by omega⟩
 intro k a' w4 hI
 obtain ⟨s0, rfl, hMB, hk0⟩ := hI
 have H4 : Hid (_ ∧ _) := hMB
 clear hMB H3
 by_cases hlt : k < 6
 ·have hrd : True := trivial
  clear hrd
  refine wp_seq ?_
  refine zI 1 [.q (.bool true)] (sB H4) ?ho4 ?he4
  case ho4 => exact ak (by refine fun J => ⟨rfl, fun w' h => ?_⟩; clear h; go_simp <;> omega) trivial
  intro J w5 l hM hl
  have H5 := keepK H4 hM.below
  clear hM hl l H4 J
  refine rN (wp_seq ?_)
  refine wp_cond_true rfl (wp_skip ?_)
  refine zB (wp_seq ?_)
  refine wp_block (wp_seq ?_)
  refine zI 2 [.q (.int .i64 ((k : Nat) : Int)), .q (.int .i64 ((k : Nat) : Int))] (sB H5) ?ho5 ?he5
  case ho5 => exact ar (ar trivial)
  intro J w6 l hM hl
  have H6 := keepK H5 hM.below
  clear hM hl l H5 J
  refine rN (wp_seq ?_)
  refine zI 13 [.q (PT g 0), .q (.int .i64 ((k : Nat) : Int)), .q (PT g 0), .q (PT g 0), .q (PT g (0 + k)), .q (.int .u64 (wd b k)), .q (.int .u64 ((t : Nat) : Int)), .q (.int .u64 ((cc 0 t b k : Nat) : Int)), .call (.tuple #[.int .u64 (wd P k), .int .u64 ((cc 0 t b (k + 1) : Nat) : Int)]), .q (.tuple #[.int .u64 (wd P k), .int .u64 ((cc 0 t b (k + 1) : Nat) : Int)]), .q (.int .u64 (wd P k)), .q (.int .u64 ((cc 0 t b (k + 1) : Nat) : Int)), .q (.int .u64 (wd P k))] (sB H6) ?ho6 ?he6
  case ho6 => exact ar (ar (ag (ag (ak (fun J => ⟨rfl, fun w' _ => ex_indexAddr6 rfl rfl rfl hlt⟩) (aq (fun w' h => ex_load1 h 0 rfl rfl rfl (lec_lo hlt)) (ar (ar (ac (fun w' h => eC call163 (CM.out k w')) (ar (ag (ag (ar trivial))))))))))))
  intro J w7 l hM hl
  have H7 := keepK H6 hM.below
  clear hM hl l H6 J
  refine zR (l := [13]) rfl ?_
  refine zA (d := 6) rfl rfl rfl rfl ?_
  simp only [Act.put, sa, sz, ss]
  refine zC (zB ?_)
  refine walk_put (by kernel_rfl) 17 [13] [.q (PT g 0), .q (.int .i64 ((k : Nat) : Int)), .q (PT g 0), .q (.int .i64 ((k : Nat) : Int)), .q (PT g 0), .q (PT g 6), .q (PT g (6 + k)), .q (.int .u64 (wd L k)), .q (.int .u64 (wd P k)), .q (.int .u64 (brw L P k)), .q (.tuple #[.int .u64 (subLo (wd L k) (wd P k) (brw L P k)), .int .u64 (brw L P (k + 1))]), .q (.tuple #[.int .u64 (subLo (wd L k) (wd P k) (brw L P k)), .int .u64 (brw L P (k + 1))]), .q (.int .u64 (subLo (wd L k) (wd P k) (brw L P k))), .q (.int .u64 (brw L P (k + 1))), .q (PT g 0), .q (PT g 6), .q (PT g (6 + k))] _ ?pre7 ?F7 _ ?hpre7 (fun J => ?hF7) (by kernel_rfl) rfl trivial (sB H7) ?ho7 ?hla7 ?he7
  case hpre7 => simp only [tk, tz]; rfl
  case hF7 => simp only [zY, Kind.val, Act.put, sa, sz, ss]; rfl
  case ho7 =>
   refine ar ?_
   refine ar ?_
   refine ar ?_
   refine ar ?_
   refine ag ?_
   refine ag ?_
   refine ak (fun J => ⟨rfl, fun w' _ => ex_indexAddr6 rfl rfl rfl hlt⟩) ?_
   refine aq (fun w' h => ex_load1 h 0 rfl rfl rfl (tkf_at hlt)) ?_
   refine ar ?_
   refine ar ?_
   refine aq (fun w' h => ex_extern rfl (CS.out k w') rfl (mpn rfl)) ?_
   refine ar ?_
   refine ag ?_
   refine ag ?_
   refine ag ?_
   refine ag ?_
   refine ak (fun J => ⟨rfl, fun w' _ => ex_indexAddr6 rfl rfl rfl hlt⟩) ?_
   exact trivial
  case hla7 => exact ⟨⟨_, _, rfl, rfl, fun J => ⟨rfl, fun w' => by first | rfl | go_simp⟩⟩, trivial⟩
  intro J w8 l hM hl
  have H8 := keepK H7 hM.below
  clear hM hl l H7 J
  refine ⟨_, ex_storeI H8.out.1 0 rfl rfl As22 rfl rfl (lec_bd hlt), ?_⟩
  have H9 : Hid (Mm (w8.setCells g (6 + k) [.int .u64 (subLo (wd L k) (wd P k) (brw L P k))]) [(g, lec b (tkf L P (k + 1)))] ∧ Kp g w (w8.setCells g (6 + k) [.int .u64 (subLo (wd L k) (wd P k) (brw L P k))])) := ⟨by
   have h := H8.out.1.put 0 (off := (6 + k)) (vs := [.int .u64 (subLo (wd L k) (wd P k) (brw L P k))]) rfl (lec_bd hlt)
   rw [lec_put hlt, tkf_step (take_word L P k hlt)] at h
   exact h, H8.out.2.put (Or.inl rfl)⟩
  clear H8
  generalize hgw : World.setCells _ _ _ _ = w9 at H9 ⊢
  clear hgw
  refine zR (l := [18]) rfl ?_
  refine zA (d := 7) rfl rfl rfl rfl ?_
  simp only [Act.put, sa, sz, ss]
  refine zC (zS (zB ?_))
  refine zI 1 [.q (.int .i64 ((k + 1 : Nat) : Int))] (sB H9) ?ho8 ?he8
  case ho8 => exact ak (by refine fun J => ⟨rfl, fun w' h => ?_⟩; clear h; go_simp; rw [IntKind.wrap_i64]; omega) trivial
  intro J w10 l hM hl
  have H10 := keepK H9 hM.below
  clear hM hl l H9 J
  refine zR (l := [1]) rfl ?_
  refine zA (d := 9) rfl rfl rfl rfl ?_
  simp only [Act.put, sa, sz, ss]
  refine zC (zB ?_)
  exact ⟨k + 1, ⟨(slotfn [ud, ud, ud, ud, ud, .int .u64 (wd P k), ud, ud, .int .i64 ((k : Nat) : Int), ud, .bool true, .int .i64 ((k : Nat) : Int), .tuple #[.int .u64 (wd P k), .int .u64 ((cc 0 t b (k + 1) : Nat) : Int)], PT g 0, .int .i64 ((k : Nat) : Int), PT g 0, PT g 0, PT g (0 + k), .int .u64 (wd b k), .int .u64 ((t : Nat) : Int), .int .u64 ((cc 0 t b k : Nat) : Int), .tuple #[.int .u64 (wd P k), .int .u64 ((cc 0 t b (k + 1) : Nat) : Int)], .int .u64 (wd P k), .int .u64 ((cc 0 t b (k + 1) : Nat) : Int), .tuple #[.int .u64 (subLo (wd L k) (wd P k) (brw L P k)), .int .u64 (brw L P (k + 1))], PT g 0, .int .i64 ((k : Nat) : Int), PT g 0, .int .i64 ((k : Nat) : Int), PT g 0, PT g 6, PT g (6 + k), .int .u64 (wd L k), .int .u64 (wd P k), .int .u64 (brw L P k), .tuple #[.int .u64 (subLo (wd L k) (wd P k) (brw L P k)), .int .u64 (brw L P (k + 1))], .int .u64 (subLo (wd L k) (wd P k) (brw L P k)), .int .u64 (brw L P (k + 1)), PT g 0, PT g 6, PT g (6 + k), .int .i64 ((k + 1 : Nat) : Int)]), rfl, ⟨H10.out.1, H10.out.2⟩, by omega⟩, by omega⟩
 have hk6 : k = 6 := by omega
 subst hk6
 refine wp_seq ?_
 refine zI 1 [.q (.bool false)] (sB H4) ?ho9 ?he9
 case ho9 => exact ak (by refine fun J => ⟨rfl, fun w' h => ?_⟩; clear h; go_simp <;> omega) trivial
 intro J w11 l hM hl
 have H11 := keepK H4 hM.below
 clear hM hl l H4 J
 refine rN (wp_seq (wp_cond_false rfl ?_))
 refine wp_exit ?_
 repeat refine zX ?_
 refine zT ?_
 refine zB (wp_seq ?_)
 refine zI 4 [.q (.int .u64 ((cc 0 t b 6 : Nat) : Int)), .q (.int .u64 (brw L P 6)), .q (.int .u64 ((T : Nat) : Int)), .q (.int .u64 ((T : Nat) : Int))] (sB H11) ?ho10 ?he10
 case ho10 => exact ar (ar (ag (ar trivial)))
 intro J w12 l hM hl
 have H12 := keepK H11 hM.below
 clear hM hl l H11 J
 refine rN (wp_ret ?_)
 repeat (first | refine zL ?_ | refine zK ?_)
 refine bodyPost_ret (v := .int .u64 ((T : Nat) : Int)) (by simp [results, Tryz.results212, go_sem, *]) rfl ?_
 exact ⟨rfl, H12.out.1.one 0 rfl, H12.out.2⟩
theorem cc_any (t b k : Nat) : cc 0 t b k = t * (b % 2 ^ (64 * k)) / 2 ^ (64 * k) := by unfold cc; rw [Nat.zero_mod, Nat.zero_add]
theorem cc_six (t b : Nat) (hb : b < big) : cc 0 t b 6 = t * b / big := by
 obtain ⟨m, hm, e⟩ := big_pow
 rw [← hm, cc_any, ← e, Nat.mod_eq_of_lt hb]
theorem brw_six (L P : Nat) (hL : L < big) : brw L P 6 = (((if L < P % big then 1 else 0 : Nat)) : Int) := by
 obtain ⟨m, hm, e⟩ := big_pow
 rw [← hm]
 unfold brw
 rw [← e, Nat.mod_eq_of_lt hL]
 split <;> rfl
/-- What taking lacks above. -/
def tkT (L t b : Nat) : Nat := t * b / big + (if L < t * b % big then 1 else 0)
theorem takeL_any (g b L t : Nat) (hL : L < big) (hb : b < big) (ht : t < 18446744073709551616) (w : World) (hm : Mm w [(g, lec b (wd L))]) :
  Calls Tryz.prog 212 #[PT g 0, .int .u64 ((t : Nat) : Int)] w fun e w' => e = .returned (.int .u64 ((tkT L t b : Nat) : Int)) ∧ Mm w' [(g, lec b (wd ((L + big - t * b % big) % big)))] ∧ Kp g w w' := by
 have hcl : ∀ k, cc 0 t b k < 18446744073709551616 := fun k => cc_lt 0 t b k ht
 have h6 := cc_six t b hb
 have hb6 := brw_six L (t * b) hL
 have hT : IntKind.u64.wrap (((cc 0 t b 6 : Nat) : Int) + brw L (t * b) 6) = ((tkT L t b : Nat) : Int) := by
  have h1 : t * b / big < 18446744073709551615 := by
   rw [Nat.div_lt_iff_lt_mul big_pos2]
   rcases Nat.eq_zero_or_pos t with h | h
   ·rw [h, Nat.zero_mul]; exact Nat.mul_pos (by decide) big_pos2
   ·have : t * b < t * big := Nat.mul_lt_mul_of_pos_left hb h
    exact Nat.lt_of_lt_of_le this (Nat.mul_le_mul (by omega) (Nat.le_refl big))
  rw [IntKind.wrap_u64, h6, hb6]
  unfold tkT
  generalize t * b / big = q at h1
  split <;> omega
 have cm : ∀ k w, Calls Tryz.prog 163 #[.int .u64 (wd b k), .int .u64 ((t : Nat) : Int), .int .u64 0, .int .u64 ((cc 0 t b k : Nat) : Int)] w (Rt w (.tuple #[.int .u64 (wd (t * b) k), .int .u64 ((cc 0 t b (k + 1) : Nat) : Int)])) := fun k w => by
  have h := mulAddM_any (wd b k) ((t : Nat) : Int) 0 ((cc 0 t b k : Nat) : Int) (wd_bd _ _).1 (wd_bd _ _).2 (Int.natCast_nonneg _) (by omega) (by omega) (by omega) (Int.natCast_nonneg _) (by have := hcl k; omega) w
  have e1 := cc_lo 0 t b k
  have e2 := cc_hi 0 t b k
  rw [Nat.zero_add, wd_zero] at e1
  rw [wd_zero] at e2
  rw [mulLo_comm, mulHi_comm, e1, e2] at h
  exact h.mono fun e w2 ⟨h1, h2⟩ => ⟨h1, h2 ▸ Below.refl _ _⟩
 have cs : ∀ k w, (callFunc 161 #[.int .u64 (wd L k), .int .u64 (wd (t * b) k), .int .u64 (brw L (t * b) k)]).run Tryz.prog w = .ok (.value (.tuple #[.int .u64 (subLo (wd L k) (wd (t * b) k) (brw L (t * b) k)), .int .u64 (brw L (t * b) (k + 1))])) w := fun k w => by
  have h := sub64' (wd L k) (wd (t * b) k) (brw L (t * b) k) (wd_bd _ _).1 (wd_bd _ _).1 (wd_bd _ _).2 (brw_bd _ _ _).1 (brw_bd _ _ _).2 w
  rw [sub_cry] at h
  exact h
 have h := take_gen g b L t (t * b) (tkT L t b) hT (by rw [cc_zero]) (by unfold brw; simp [Nat.mod_one]) cm cs w hm
 rw [tkf_end] at h
 exact h
set_option maxHeartbeats 1000000 in
theorem step_gen (g b L L1 a0 t T D : Nat) (i : Int) (f : Nat → Nat) (A : Nat → Int) (cr : Nat → Bool)
  (h00 : A 0 = 0) (hN : ∀ x, x + 1 ≤ D → ¬ A (x + 1) = 0) (hD : IntKind.u64.wrap (((a0 : Nat) : Int) - ((T : Nat) : Int)) = A D)
  (hT : ∀ x, cr x = true → IntKind.u64.wrap (A (x + 1) + 1) = A x) (hF : ∀ x, cr x = false → A (x + 1) = A x)
  (cs : ∀ w, Mm w [(g, lec b (wd L))] → Calls Tryz.prog 211 #[PT g 0, .int .i64 i] w fun e w' => e = .returned (.int .u64 ((a0 : Nat) : Int)) ∧ Mm w' [(g, lec b (wd L1))] ∧ Kp g w w')
  (cg : ∀ w, Calls Tryz.prog 213 #[.int .u64 ((a0 : Nat) : Int), .int .u64 (wd L1 5), .int .u64 (wd b 5)] w (Rt w (.int .u64 ((t : Nat) : Int))))
  (ct : ∀ w, Mm w [(g, lec b (wd L1))] → Calls Tryz.prog 212 #[PT g 0, .int .u64 ((t : Nat) : Int)] w fun e w' => e = .returned (.int .u64 ((T : Nat) : Int)) ∧ Mm w' [(g, lec b (wd (f D)))] ∧ Kp g w w')
  (ca : ∀ x w, Calls Tryz.prog 78 #[N (f (x + 1)), N b] w (Rt w (.tuple #[N (f x), .bool (cr x)]))) (w : World) (hm : Mm w [(g, lec b (wd L))]) :
  Calls Tryz.prog 194 #[PT g 0, .int .i64 i] w fun e w' => e = .returned (.tuple #[]) ∧ Mm w' [(g, lec b (wd (f 0)))] ∧ Kp g w w' := by
 have H0 : Hid (_ ∧ _) := ⟨hm, Kp.refl g w⟩
 clear hm
 have CS : Hid _ := cs
 have CG : Hid _ := cg
 have CT : Hid _ := ct
 have CA : Hid _ := ca
 have HN : Hid _ := hN
 have H00 : Hid _ := h00
 have HT : Hid _ := hT
 have HF : Hid _ := hF
 clear cs cg ct ca hN h00 hT hF
 go_enter Tryz.func194, Tryz.ntmps194
 refine wp_seq ?_
 refine zI 2 [.q (PT g 0), .q (.int .i64 i)] (sB H0) ?ho1 ?he1
 case ho1 => exact ar (ar trivial)
 intro J w1 l hM hl
 have H1 := keepK H0 hM.below
 clear hM hl l J
 refine zR (l := [2, 3]) rfl ?_
 refine zF (d := 10) (R := fun vv w' => vv = .int .u64 ((a0 : Nat) : Int) ∧ Mm w' [(g, lec b (wd L1))] ∧ Kp g w1 w') rfl rfl rfl (zG (args := #[PT g 0, .int .i64 i]) rfl call211 rfl (mpn rfl)) (Calls.mono (CS.out w1 (H1.out.1.one 0 rfl)) (fun e w2 hh => ⟨_, hh.1, rfl, hh.2⟩)) ?_
 rintro _ w2 ⟨rfl, hn, hp⟩
 have H2 : Hid (Mm w2 [(g, lec b (wd L1))] ∧ Kp g w w2) := ⟨H1.out.1.change 0 rfl hp hn, H1.out.2.join hp⟩
 clear hn hp H1
 simp only [Act.put, sa, sz, ss]
 refine zA (d := 4) rfl rfl rfl rfl ?_
 simp only [Act.put, sa, sz, ss]
 refine zC (zB (wp_seq ?_))
 refine zI 1 [.q (.int .i64 5)] (sB H2) ?ho2 ?he2
 case ho2 => exact ar trivial
 intro J w3 l hM hl
 have H3 := keepK H2 hM.below
 clear hM hl l H2 J
 refine rN (wp_seq ?_)
 refine walk_enter (by kernel_rfl) 16 [0] [.q (.int .u64 ((a0 : Nat) : Int)), .q (PT g 0), .q (.int .u64 ((a0 : Nat) : Int)), .q (PT g 0), .q (.int .i64 5), .q (PT g 0), .q (PT g 6), .q (PT g 11), .q (.int .u64 (wd L1 5)), .q (PT g 0), .q (.int .i64 5), .q (PT g 0), .q (PT g 0), .q (PT g 5), .q (.int .u64 (wd b 5)), .call (.int .u64 ((t : Nat) : Int))] _ ?pre3 ?F3 ?G3 _ 27 (.int .u64 ((T : Nat) : Int)) ?hpre3 (fun J => ?hF3) (fun J => ?hG3) (by kernel_rfl) rfl trivial (sB H3) ?ho3 ?hla3 ?he3
 case hpre3 => simp only [tk, tz]; rfl
 case hF3 => simp only [zY, Kind.val, Act.put, sa, sz, ss]; rfl
 case hG3 => simp only [zY, Kind.val, Act.put, sa, sz, ss]; rfl
 case ho3 =>
  refine ar ?_
  refine ar ?_
  refine ar ?_
  refine ar ?_
  refine ar ?_
  refine ag ?_
  refine ag ?_
  refine ag ?_
  refine aq (fun w' h => ex_load1 h 0 rfl rfl rfl rfl) ?_
  refine ar ?_
  refine ar ?_
  refine ag ?_
  refine ag ?_
  refine ag ?_
  refine aq (fun w' h => ex_load1 h 0 rfl rfl rfl rfl) ?_
  refine ak (fun J => ⟨rfl, fun w' h => eC call213 (CG.out w')⟩) ?_
  exact trivial
 case hla3 => exact ⟨⟨_, _, rfl, rfl, fun J => ⟨rfl, fun w' => by first | rfl | go_simp⟩⟩, trivial⟩
 intro J w4 l hM hl
 have H4 := keepK H3 hM.below
 clear hM hl l H3 J
 refine ⟨212, #[PT g 0, .int .u64 ((t : Nat) : Int)], (fun w' => Mm w' [(g, lec b (wd (f D)))] ∧ Kp g w4 w'), zG (args := #[PT g 0, .int .u64 ((t : Nat) : Int)]) rfl call212 rfl (mpn rfl), CT.out w4 (H4.out.1.one 0 rfl), ?_⟩
 rintro w5 ⟨hn, hp⟩
 have H5 : Hid (Mm w5 [(g, lec b (wd (f D)))] ∧ Kp g w w5) := ⟨H4.out.1.change 0 rfl hp hn, H4.out.2.join hp⟩
 clear hn hp H4
 refine zR (l := [17, 18]) rfl ?_
 refine zA (d := 28) (v := .int .u64 (A D)) (w' := w5) rfl rfl rfl (by go_simp) ?_
 simp only [Act.put, sa, sz, ss]
 refine zA (d := 4) rfl rfl rfl rfl ?_
 simp only [Act.put, sa, sz, ss]
 refine zC (zB (wp_block ?_))
 refine loop_ghost (α := Nat) (fun d a' w' => ∃ s0 : Nat → Value, a' = ⟨#[PT g 0, .int .i64 i, undef, undef, .int .u64 (A d), .int .i64 5, s0 6, s0 7, PT g 0, .int .i64 i, .int .u64 ((a0 : Nat) : Int), .int .u64 ((a0 : Nat) : Int), PT g 0, .int .u64 ((a0 : Nat) : Int), PT g 0, .int .i64 5, PT g 0, PT g 6, PT g 11, .int .u64 (wd L1 5), PT g 0, .int .i64 5, PT g 0, PT g 0, PT g 5, .int .u64 (wd b 5), .int .u64 ((t : Nat) : Int), .int .u64 ((T : Nat) : Int), .int .u64 (A D), s0 29, s0 30, s0 31, s0 32, s0 33, s0 34, s0 35, s0 36, s0 37, s0 38, s0 39, s0 40, s0 41, s0 42, s0 43, s0 44, s0 45, s0 46, s0 47, s0 48, s0 49], []⟩ ∧ (Mm w' [(g, lec b (wd (f d)))] ∧ Kp g w w') ∧ d ≤ D) (fun d => d) D ?st0 ?rd0
 case st0 => exact ⟨(slotfn [ud, ud, ud, ud, ud, ud, ud, ud, ud, ud, ud, ud, ud, ud, ud, ud, ud, ud, ud, ud, ud, ud, ud, ud, ud, ud, ud, ud, ud, ud, ud, ud, ud, ud, ud, ud, ud, ud, ud, ud, ud, ud, ud, ud, ud, ud, ud, ud, ud, ud]), rfl, ⟨H5.out.1, H5.out.2⟩, by omega⟩
 intro d a' w6 hI
 obtain ⟨s0, rfl, hMB, hk0⟩ := hI
 have H6 : Hid (_ ∧ _) := hMB
 clear hMB H5
 by_cases hlt : 0 < d
 ·have hrd : True := trivial
  clear hrd
  obtain ⟨x, hx⟩ : ∃ x, d = x + 1 := ⟨d - 1, by omega⟩
  subst hx
  have hne := HN.out x (by omega)
  rcases Bool.eq_false_or_eq_true (cr x) with hcr | hcr
  ·have hrd : True := trivial
   clear hrd
   have cA := CA.out x
   rw [hcr] at cA
   have CA1 : Hid _ := cA
   have hAt := HT.out x hcr
   clear cA
   refine wp_seq (wp_seq ?_)
   refine zI 2 [.q (.int .u64 (A (x + 1))), .q (.bool true)] (sB H6) ?ho4 ?he4
   case ho4 => exact ar (ak (by refine fun J => ⟨rfl, fun w' h => ?_⟩; clear h; go_simp <;> omega) trivial)
   intro J w7 l hM hl
   have H7 := keepK H6 hM.below
   clear hM hl l H6 J
   refine rN (wp_cond_true rfl ?_)
   refine wp_skip (zB ?_)
   refine wp_block (wp_seq ?_)
   refine walk_anyA 15 [.q (PT g 0), .q (PT g 0), .q (PT g 6), .q (N (f (x + 1))), .q (PT g 0), .q (PT g 0), .q (PT g 0), .q (N b), .call (.tuple #[N (f x), .bool true]), .q (.tuple #[N (f x), .bool true]), .q (N (f x)), .q (.bool true), .made zero6 24, .laid 12 zero6 (zE (f x)), .q (.bool true)] (sB H7) ?ho5 ?he5 (hL := ?hL5)
   case hL5 => exact ⟨⟨_, rfl⟩, trivial⟩
   case ho5 => exact ar (ag (ag (bN 0 (ar (ag (ag (bN 0 (ac (fun w' h => eC call78 (CA1.out w')) (ar (ag (ag (am (zO rfl) (ak (fun J => ⟨rfl, rfl, rfl, fun w' h => exec_laid6 h rfl rfl rfl⟩) (ar trivial))))))))))))))
   intro J w8 l hM hl
   have H8 : Hid (Mm w8 ([(J 12, zE (f x))] ++ _) ∧ _) := wK H7 hM hl [12]
   have o5_12 := vK H7 hM hl 12
   clear hM hl l H7
   generalize J 12 = J5_12 at H8 o5_12 ⊢
   clear J
   refine rN (wp_seq ?_)
   refine zI 4 [.q (PT g 0), .q (N (f x)), .q (PT g 0), .q (PT g 6)] (sB H8) ?ho6 ?he6
   case ho6 => exact ar (bN 0 (ag (ag trivial)))
   intro J w9 l hM hl
   have H9 := keepK H8 hM.below
   clear hM hl l H8 J
   refine zR (l := [4]) rfl ?_
   refine sH rfl (fun h => zQ h 1 rfl rfl rfl rfl (Nat.le_of_ble_eq_true rfl)) 1 [_, (_, lec b (wd (f x)))] H9 (Or.inl rfl) fun w10 H10 => ?_
   clear H9
   refine zC (zB (wp_seq ?_))
   refine zI 1 [.q (.bool true)] (sB H10) ?ho7 ?he7
   case ho7 => exact ar trivial
   intro J w11 l hM hl
   have H11 := keepK H10 hM.below
   clear hM hl l H10 J
   refine rN (wp_cond_true rfl ?_)
   refine zI 2 [.q (.int .u64 (A (x + 1))), .q (.int .u64 (A x))] (sB H11) ?ho8 ?he8
   case ho8 => exact ar (ak (by refine fun J => ⟨rfl, fun w' h => ?_⟩; clear h; go_simp; try exact hAt) trivial)
   intro J w12 l hM hl
   have H12 := keepK H11 hM.below
   clear hM hl l H11 J
   refine zR (l := [2]) rfl ?_
   refine zA (d := 4) rfl rfl rfl rfl ?_
   simp only [Act.put, sa, sz, ss]
   refine zC (zS (zB ?_))
   exact ⟨x, ⟨(slotfn [ud, ud, ud, ud, ud, ud, PT J5_12 0, .bool true, ud, ud, ud, ud, ud, ud, ud, ud, ud, ud, ud, ud, ud, ud, ud, ud, ud, ud, ud, ud, ud, .int .u64 (A (x + 1)), .bool true, .tuple #[N (f x), .bool true], PT g 0, PT g 0, PT g 6, N (f (x + 1)), PT g 0, PT g 0, PT g 0, N b, .tuple #[N (f x), .bool true], N (f x), .bool true, PT g 0, N (f x), PT g 0, PT g 6, .bool true, .int .u64 (A (x + 1)), .int .u64 (A x)]), rfl, ⟨H12.out.1.tail, H12.out.2⟩, by omega⟩, by omega⟩
  ·have hrd : True := trivial
   clear hrd
   have cA := CA.out x
   rw [hcr] at cA
   have CA1 : Hid _ := cA
   have hAf := HF.out x hcr
   clear cA
   rw [hAf]
   rw [hAf] at hne
   refine wp_seq (wp_seq ?_)
   refine zI 2 [.q (.int .u64 (A x)), .q (.bool true)] (sB H6) ?ho9 ?he9
   case ho9 => exact ar (ak (by refine fun J => ⟨rfl, fun w' h => ?_⟩; clear h; go_simp <;> omega) trivial)
   intro J w13 l hM hl
   have H13 := keepK H6 hM.below
   clear hM hl l H6 J
   refine rN (wp_cond_true rfl ?_)
   refine wp_skip (zB ?_)
   refine wp_block (wp_seq ?_)
   refine walk_anyA 15 [.q (PT g 0), .q (PT g 0), .q (PT g 6), .q (N (f (x + 1))), .q (PT g 0), .q (PT g 0), .q (PT g 0), .q (N b), .call (.tuple #[N (f x), .bool false]), .q (.tuple #[N (f x), .bool false]), .q (N (f x)), .q (.bool false), .made zero6 24, .laid 12 zero6 (zE (f x)), .q (.bool false)] (sB H13) ?ho10 ?he10 (hL := ?hL10)
   case hL10 => exact ⟨⟨_, rfl⟩, trivial⟩
   case ho10 => exact ar (ag (ag (bN 0 (ar (ag (ag (bN 0 (ac (fun w' h => eC call78 (CA1.out w')) (ar (ag (ag (am (zO rfl) (ak (fun J => ⟨rfl, rfl, rfl, fun w' h => exec_laid6 h rfl rfl rfl⟩) (ar trivial))))))))))))))
   intro J w14 l hM hl
   have H14 : Hid (Mm w14 ([(J 12, zE (f x))] ++ _) ∧ _) := wK H13 hM hl [12]
   have o10_12 := vK H13 hM hl 12
   clear hM hl l H13
   generalize J 12 = J10_12 at H14 o10_12 ⊢
   clear J
   refine rN (wp_seq ?_)
   refine zI 4 [.q (PT g 0), .q (N (f x)), .q (PT g 0), .q (PT g 6)] (sB H14) ?ho11 ?he11
   case ho11 => exact ar (bN 0 (ag (ag trivial)))
   intro J w15 l hM hl
   have H15 := keepK H14 hM.below
   clear hM hl l H14 J
   refine zR (l := [4]) rfl ?_
   refine sH rfl (fun h => zQ h 1 rfl rfl rfl rfl (Nat.le_of_ble_eq_true rfl)) 1 [_, (_, lec b (wd (f x)))] H15 (Or.inl rfl) fun w16 H16 => ?_
   clear H15
   refine zC (zB (wp_seq ?_))
   refine zI 1 [.q (.bool false)] (sB H16) ?ho12 ?he12
   case ho12 => exact ar trivial
   intro J w17 l hM hl
   have H17 := keepK H16 hM.below
   clear hM hl l H16 J
   refine rN (wp_cond_false rfl ?_)
   refine wp_skip (zS (zB ?_))
   exact ⟨x, ⟨(slotfn [ud, ud, ud, ud, ud, ud, PT J10_12 0, .bool false, ud, ud, ud, ud, ud, ud, ud, ud, ud, ud, ud, ud, ud, ud, ud, ud, ud, ud, ud, ud, ud, .int .u64 (A x), .bool true, .tuple #[N (f x), .bool false], PT g 0, PT g 0, PT g 6, N (f (x + 1)), PT g 0, PT g 0, PT g 0, N b, .tuple #[N (f x), .bool false], N (f x), .bool false, PT g 0, N (f x), PT g 0, PT g 6, .bool false, s0 48, s0 49]), rfl, ⟨H17.out.1.tail, H17.out.2⟩, by omega⟩, by omega⟩
 have hd0 : d = 0 := by omega
 subst hd0
 have hA0 := H00.out
 refine wp_seq (wp_seq ?_)
 refine zI 2 [.q (.int .u64 (A 0)), .q (.bool false)] (sB H6) ?ho13 ?he13
 case ho13 => exact ar (ak (by refine fun J => ⟨rfl, fun w' h => ?_⟩; clear h; go_simp <;> omega) trivial)
 intro J w18 l hM hl
 have H18 := keepK H6 hM.below
 clear hM hl l H6 J
 refine rN (wp_cond_false rfl ?_)
 refine wp_exit ?_
 repeat refine zX ?_
 refine zT ?_
 refine bodyPost_end (v := .tuple #[]) (by simp [results, Tryz.results194, go_sem]) rfl ?_
 exact ⟨rfl, H18.out.1.one 0 rfl, H18.out.2⟩
set_option maxHeartbeats 1000000 in
theorem double_gen (g b L1 K j : Nat) (f : Nat → Nat) (hK : K < 1000) (hj : j ≤ 64) (hKj : 0 < K → 0 < j)
  (cf : ∀ k w, Mm w [(g, lec b (wd (f k)))] → Calls Tryz.prog 194 #[PT g 0, .int .i64 64] w fun e w' => e = .returned (.tuple #[]) ∧ Mm w' [(g, lec b (wd (f (k + 1))))] ∧ Kp g w w')
  (cl : ∀ w, Mm w [(g, lec b (wd (f K)))] → Calls Tryz.prog 194 #[PT g 0, .int .i64 ((64 * (K - K) + j : Nat) : Int)] w fun e w' => e = .returned (.tuple #[]) ∧ Mm w' [(g, lec b (wd L1))] ∧ Kp g w w') (w : World) (hm : Mm w [(g, lec b (wd (f 0)))]) :
  Calls Tryz.prog 160 #[PT g 0, .int .i64 ((64 * (K - 0) + j : Nat) : Int)] w fun e w' => e = .returned (.tuple #[]) ∧ Mm w' [(g, lec b (wd L1))] ∧ Kp g w w' := by
 have H0 : Hid (_ ∧ _) := ⟨hm, Kp.refl g w⟩
 clear hm
 have CF : Hid _ := cf
 have CL : Hid _ := cl
 clear cf cl
 go_enter Tryz.func160, Tryz.ntmps160
 refine wp_seq (wp_block ?_)
 refine loop_ghost (α := Nat) (fun k a' w' => ∃ s0 : Nat → Value, a' = ⟨#[PT g 0, .int .i64 ((64 * (K - k) + j : Nat) : Int), ud, ud, s0 4, s0 5, s0 6, s0 7, s0 8, s0 9, ud, ud, ud], []⟩ ∧ (Mm w' [(g, lec b (wd (f k)))] ∧ Kp g w w') ∧ k ≤ K) (fun k => K - k) 0 ?st0 ?rd0
 case st0 => exact ⟨(slotfn [ud, ud, ud, ud, ud, ud, ud, ud, ud, ud]), rfl, ⟨H0.out.1, H0.out.2⟩, by omega⟩
 intro k a' w1 hI
 obtain ⟨s0, rfl, hMB, hk0⟩ := hI
 have H1 : Hid (_ ∧ _) := hMB
 clear hMB
 by_cases hlt : k < K
 ·have hrd : True := trivial
  clear hrd
  refine wp_seq (wp_seq ?_)
  refine zI 2 [.q (.int .i64 ((64 * (K - k) + j : Nat) : Int)), .q (.bool true)] (sB H1) ?ho1 ?he1
  case ho1 => exact ar (ak (by refine fun J => ⟨rfl, fun w' h => ?_⟩; clear h; go_simp <;> omega) trivial)
  intro J w2 l hM hl
  have H2 := keepK H1 hM.below
  clear hM hl l H1 J
  refine rN (wp_cond_true rfl ?_)
  refine wp_skip (zB ?_)
  refine wp_seq (wp_block ?_)
  refine zI 1 [.q (PT g 0)] (sB H2) ?ho2 ?he2
  case ho2 => exact ar trivial
  intro J w3 l hM hl
  have H3 := keepK H2 hM.below
  clear hM hl l H2 J
  refine zR (l := [1]) rfl ?_
  refine zF (d := 9) (R := fun vv w' => vv = .tuple #[] ∧ Mm w' [(g, lec b (wd (f (k + 1))))] ∧ Kp g w3 w') rfl rfl rfl (zG (args := #[PT g 0, .int .i64 64]) rfl call194 rfl (mpn rfl)) (Calls.mono (CF.out k w3 (H3.out.1.one 0 rfl)) (fun e w2 hh => ⟨_, hh.1, rfl, hh.2⟩)) ?_
  rintro _ w4 ⟨rfl, hn, hp⟩
  have H4 : Hid (Mm w4 [(g, lec b (wd (f (k + 1))))] ∧ Kp g w w4) := ⟨H3.out.1.change 0 rfl hp hn, H3.out.2.join hp⟩
  clear hn hp H3
  simp only [Act.put, sa, sz, ss]
  refine zC (zS (zB ?_))
  refine zI 2 [.q (.int .i64 ((64 * (K - k) + j : Nat) : Int)), .q (.int .i64 ((64 * (K - (k + 1)) + j : Nat) : Int))] (sB H4) ?ho3 ?he3
  case ho3 => exact ar (ak (by refine fun J => ⟨rfl, fun w' h => ?_⟩; clear h; go_simp; rw [IntKind.wrap_i64]; omega) trivial)
  intro J w5 l hM hl
  have H5 := keepK H4 hM.below
  clear hM hl l H4 J
  refine zR (l := [2]) rfl ?_
  refine zA (d := 1) rfl rfl rfl rfl ?_
  simp only [Act.put, sa, sz, ss]
  refine zC (zB ?_)
  exact ⟨k + 1, ⟨(slotfn [ud, ud, ud, ud, .int .i64 ((64 * (K - k) + j : Nat) : Int), .bool true, .int .i64 ((64 * (K - k) + j : Nat) : Int), .int .i64 ((64 * (K - (k + 1)) + j : Nat) : Int), PT g 0, .tuple #[]]), rfl, ⟨H5.out.1, H5.out.2⟩, by omega⟩, by omega⟩
 have hkK : k = K := by omega
 subst hkK
 refine wp_seq (wp_seq ?_)
 refine zI 2 [.q (.int .i64 ((64 * (k - k) + j : Nat) : Int)), .q (.bool false)] (sB H1) ?ho4 ?he4
 case ho4 => exact ar (ak (by refine fun J => ⟨rfl, fun w' h => ?_⟩; clear h; go_simp <;> omega) trivial)
 intro J w6 l hM hl
 have H6 := keepK H1 hM.below
 clear hM hl l H1 J
 refine rN (wp_cond_false rfl ?_)
 refine wp_exit ?_
 repeat refine zX ?_
 refine zT ?_
 refine zB ?_
 refine zI 2 [.q (PT g 0), .q (.int .i64 ((64 * (k - k) + j : Nat) : Int))] (sB H6) ?ho5 ?he5
 case ho5 => exact ar (ar trivial)
 intro J w7 l hM hl
 have H7 := keepK H6 hM.below
 clear hM hl l H6 J
 refine zR (l := [2]) rfl ?_
 refine zF (d := 12) (R := fun vv w' => vv = .tuple #[] ∧ Mm w' [(g, lec b (wd L1))] ∧ Kp g w7 w') rfl rfl rfl (zG (args := #[PT g 0, .int .i64 ((64 * (k - k) + j : Nat) : Int)]) rfl call194 rfl (mpn rfl)) (Calls.mono (CL.out w7 (H7.out.1.one 0 rfl)) (fun e w2 hh => ⟨_, hh.1, rfl, hh.2⟩)) ?_
 rintro _ w8 ⟨rfl, hn, hp⟩
 have H8 : Hid (Mm w8 [(g, lec b (wd L1))] ∧ Kp g w w8) := ⟨H7.out.1.change 0 rfl hp hn, H7.out.2.join hp⟩
 clear hn hp H7
 simp only [Act.put, sa, sz, ss]
 refine zC ?_
 refine bodyPost_end (v := .tuple #[]) (by simp [results, Tryz.results160, go_sem]) rfl ?_
 exact ⟨rfl, H8.out.1.one 0 rfl, H8.out.2⟩
theorem unq {u B k m : Int} (hB : 0 < B) (e : u = B * k + m) (h0 : 0 ≤ m) (h1 : m < B) : u / B = k ∧ u % B = m :=
 (Int.ediv_emod_unique hB).2 ⟨by omega, h0, h1⟩
/-- What is left less d times the divisor. -/
def zst (r b d : Nat) : Int := (r : Int) - (d : Int) * (b : Int)
def zl (r b d : Nat) : Nat := (zst r b d % (big : Int)).toNat
def za (r b d : Nat) : Int := zst r b d / (big : Int) % 18446744073709551616
theorem bigI : (0 : Int) < (big : Int) := by have := big_pos2; omega
theorem zl_cast (r b d : Nat) : ((zl r b d : Nat) : Int) = zst r b d % (big : Int) := Int.toNat_of_nonneg (Int.emod_nonneg _ (by have := bigI; omega))
theorem zl_lt (r b d : Nat) : zl r b d < big := by
 have h := zl_cast r b d
 have h2 := Int.emod_lt_of_pos (zst r b d) bigI
 omega
theorem zst_succ (r b d : Nat) : zst r b d = zst r b (d + 1) + b := by
 unfold zst
 rw [Int.natCast_add, Int.add_mul]
 omega
theorem z_step (r b d : Nat) (hb : b < big) : (if big ≤ zl r b (d + 1) + b then zst r b (d + 1) / (big : Int) + 1 else zst r b (d + 1) / (big : Int)) = zst r b d / (big : Int) ∧ (zl r b (d + 1) + b) % big = zl r b d := by
 have h1 := zl_cast r b (d + 1)
 have h2 := zl_cast r b d
 have h3 := zl_lt r b (d + 1)
 have hm := Int.mul_ediv_add_emod (zst r b (d + 1)) (big : Int)
 rw [← h1] at hm
 have e := zst_succ r b d
 by_cases hc : big ≤ zl r b (d + 1) + b
 ·rw [if_pos hc]
  obtain ⟨u1, u2⟩ := unq (u := zst r b d) (k := zst r b (d + 1) / (big : Int) + 1) (m := (zl r b (d + 1) : Int) + b - big) bigI (by rw [e, Int.mul_add, Int.mul_one]; omega) (by omega) (by omega)
  refine ⟨u1.symm, ?_⟩
  rw [u2] at h2
  rw [Nat.mod_eq_sub_mod hc, Nat.mod_eq_of_lt (by omega)]
  omega
 ·rw [if_neg hc]
  obtain ⟨u1, u2⟩ := unq (u := zst r b d) (k := zst r b (d + 1) / (big : Int)) (m := (zl r b (d + 1) : Int) + b) bigI (by rw [e]; omega) (by omega) (by omega)
  refine ⟨u1.symm, ?_⟩
  rw [u2] at h2
  rw [Nat.mod_eq_of_lt (by omega)]
  omega
theorem za_zero (r b : Nat) (hr : r < big) : za r b 0 = 0 := by
 unfold za zst
 rw [Int.natCast_zero, Int.zero_mul, Int.sub_zero, Int.ediv_eq_zero_of_lt (by omega) (by omega)]; rfl
theorem zl_zero (r b : Nat) (hr : r < big) : zl r b 0 = r := by
 have h := zl_cast r b 0
 unfold zst at h
 rw [Int.natCast_zero, Int.zero_mul, Int.sub_zero, Int.emod_eq_of_lt (by omega) (by omega)] at h
 omega
theorem za_ne (r b d : Nat) (hr : r < b) (hb : b < big) (hd : d < 18446744073709551616) (h0 : 0 < d) : ¬ za r b d = 0 := by
 unfold za
 have h1 : zst r b d < 0 := by
  unfold zst
  have : (b : Int) ≤ (d : Int) * (b : Int) := by
   have := Nat.mul_le_mul (show 1 ≤ d from h0) (Nat.le_refl b)
   rw [← Int.natCast_mul]; omega
  omega
 have h2 : -(18446744073709551615 * (big : Int)) ≤ zst r b d := by
  unfold zst
  have h3 : d * b ≤ 18446744073709551615 * big := Nat.mul_le_mul (by omega) (by omega)
  rw [← Int.natCast_mul]; omega
 have h3 : zst r b d / (big : Int) < 0 := Int.ediv_neg_of_neg_of_pos h1 bigI
 have h4 : -18446744073709551615 ≤ zst r b d / (big : Int) := by
  rw [Int.le_ediv_iff_mul_le bigI]; omega
 omega
theorem guess_ge (X b : Nat) (hb : b < big) (hX : X < 18446744073709551616 * b) : X / b ≤ gs (X / big) (wn (X % big) 5) (wn b 5) := by
 have hb0 : 0 < b := by
  rcases Nat.eq_zero_or_pos b with h | h
  ·rw [h, Nat.mul_zero] at hX; omega
  ·exact h
 unfold gs
 by_cases c : wn b 5 ≤ X / big
 ·rw [if_pos c]
  have : X / b < 18446744073709551616 := by rw [Nat.div_lt_iff_lt_mul hb0]; exact hX
  omega
 ·rw [if_neg c]
  obtain ⟨j, hj⟩ : ∃ j, j = 5 := ⟨5, rfl⟩
  have hbj := big_j j hj
  rw [← hj] at c ⊢
  have e1 : wn b j = b / 2 ^ (64 * j) := by
   have := wd_last b j (by rw [← hbj]; exact hb)
   rw [wd_wn] at this; omega
  have e2 : X / big * 18446744073709551616 + wn (X % big) j = X / 2 ^ (64 * j) := by
   have h1 : wn (X % big) j = X % big / 2 ^ (64 * j) := by
    have := wd_last (X % big) j (by rw [← hbj]; exact Nat.mod_lt _ big_pos2)
    rw [wd_wn] at this; omega
   rw [h1]
   have h2 := Nat.div_add_mod X big
   generalize X % big = m at h2 ⊢
   generalize X / big = k at h2 ⊢
   rw [← h2, hbj, pow_step, Nat.mul_assoc, Nat.mul_add_div (pow_pos' j), Nat.mul_comm k]
  rw [e2, e1]
  have hq : 0 < b / 2 ^ (64 * j) := by rw [← e1]; omega
  rw [Nat.le_div_iff_mul_le hq, Nat.le_div_iff_mul_le (pow_pos' j)]
  have h3 : b / 2 ^ (64 * j) * 2 ^ (64 * j) ≤ b := Nat.div_mul_le_self _ _
  have h4 : X / b * b ≤ X := Nat.div_mul_le_self _ _
  rw [Nat.mul_assoc]
  exact Nat.le_trans (Nat.mul_le_mul (Nat.le_refl _) h3) h4
theorem take_z (X b t : Nat) (ht : X / b ≤ t) : zst (X % b) b (t - X / b) / (big : Int) = ((X / big : Nat) : Int) - ((tkT (X % big) t b : Nat) : Int) ∧ zl (X % b) b (t - X / b) = (X % big + big - t * b % big) % big := by
 have h1 : zst (X % b) b (t - X / b) = (X : Int) - (t : Int) * (b : Int) := by
  unfold zst
  have e := Nat.div_add_mod X b
  have e2 : ((t - X / b : Nat) : Int) = (t : Int) - ((X / b : Nat) : Int) := by omega
  rw [e2, Int.sub_mul]
  have e3 : ((X / b : Nat) : Int) * (b : Int) = ((b * (X / b) : Nat) : Int) := by rw [Int.natCast_mul, Int.mul_comm]
  rw [e3]; omega
 have e4 := Nat.div_add_mod X big
 have e5 := Nat.div_add_mod (t * b) big
 have l1 := Nat.mod_lt X big_pos2
 have l2 := Nat.mod_lt (t * b) big_pos2
 have hzl := zl_cast (X % b) b (t - X / b)
 rw [← Int.natCast_mul] at h1
 unfold tkT
 generalize X % big = m at *
 generalize t * b % big = u at *
 generalize hP : t * b = P at *
 by_cases hc : m < u
 ·rw [if_pos hc]
  obtain ⟨u1, u2⟩ := unq (u := zst (X % b) b (t - X / b)) (k := ((X / big : Nat) : Int) - ((P / big + 1 : Nat) : Int)) (m := (m : Int) + big - u) bigI (by
   rw [h1, Int.mul_sub, ← Int.natCast_mul, ← Int.natCast_mul, Nat.mul_add, Nat.mul_one]; omega) (by omega) (by omega)
  refine ⟨u1, ?_⟩
  rw [u2] at hzl
  rw [Nat.mod_eq_of_lt (show m + big - u < big by omega)]; omega
 ·rw [if_neg hc]
  obtain ⟨u1, u2⟩ := unq (u := zst (X % b) b (t - X / b)) (k := ((X / big : Nat) : Int) - ((P / big + 0 : Nat) : Int)) (m := (m : Int) - u) bigI (by
   rw [h1, Int.mul_sub, ← Int.natCast_mul, ← Int.natCast_mul, Nat.add_zero]; omega) (by omega) (by omega)
  refine ⟨u1, ?_⟩
  rw [u2] at hzl
  rw [Nat.mod_eq_sub_mod (show big ≤ m + big - u by omega), Nat.mod_eq_of_lt (show m + big - u - big < big by omega)]; omega
theorem stepL_any (g b L i : Nat) (hi : i ≤ 64) (hb : b < big) (hL : L < b) (w : World) (hm : Mm w [(g, lec b (wd L))]) :
  Calls Tryz.prog 194 #[PT g 0, .int .i64 ((i : Nat) : Int)] w fun e w' => e = .returned (.tuple #[]) ∧ Mm w' [(g, lec b (wd (L * 2 ^ i % b)))] ∧ Kp g w w' := by
 have hLb : L < big := by omega
 have hb0 : 0 < b := by omega
 have hX : L * 2 ^ i < 18446744073709551616 * b := by
  have h1 : 2 ^ i ≤ 18446744073709551616 := by
   have := Nat.pow_le_pow_right (show 0 < 2 by decide) hi
   exact this
  have h2 : L * 2 ^ i ≤ L * 18446744073709551616 := Nat.mul_le_mul (Nat.le_refl _) h1
  omega
 have cs := fun w hm => shiftL_any g b L i hi hLb w hm
 generalize L * 2 ^ i = X at cs hX ⊢
 have hge := guess_ge X b hb hX
 have hlt := gs_bd (X / big) (wn (X % big) 5) (wn b 5) (wn_lt _ _)
 have cg := fun w => guessM_any (X / big) (wn (X % big) 5) (wn b 5) (wn_lt _ _) (wn_lt _ _) w
 generalize gs (X / big) (wn (X % big) 5) (wn b 5) = t at hge hlt cg
 have ct := fun w hm => takeL_any g b (X % big) t (Nat.mod_lt _ big_pos2) hb hlt w hm
 obtain ⟨z1, z2⟩ := take_z X b t hge
 have hr := Nat.mod_lt X hb0
 rw [← z2] at ct
 have h := step_gen g b L (X % big) (X / big) t (tkT (X % big) t b) (t - X / b) ((i : Nat) : Int) (zl (X % b) b) (za (X % b) b) (fun x => decide (big ≤ zl (X % b) b (x + 1) + b))
  (za_zero _ _ (by omega)) (fun x hx => za_ne _ _ _ hr hb (by have := Nat.sub_le t (X / b); omega) (by omega)) (by rw [IntKind.wrap_u64, ← z1]; rfl)
  (fun x hx => by
   have hz := (z_step (X % b) b x hb).1
   rw [if_pos (of_decide_eq_true hx)] at hz
   unfold za
   rw [IntKind.wrap_u64, ← hz]; omega)
  (fun x hx => by
   have hz := (z_step (X % b) b x hb).1
   rw [if_neg (of_decide_eq_false hx)] at hz
   unfold za
   rw [hz])
  cs cg ct (fun x w => by
   have h := add_any (zl (X % b) b (x + 1)) b (zl_lt _ _ _) hb w
   rw [(z_step (X % b) b x hb).2] at h
   exact h) w hm
 rw [zl_zero _ _ (by omega)] at h
 exact h
theorem doubleL_any (g b L n : Nat) (hn : n ≤ 384) (hb : b < big) (hL : L < b) (w : World) (hm : Mm w [(g, lec b (wd L))]) :
  Calls Tryz.prog 160 #[PT g 0, .int .i64 ((n : Nat) : Int)] w fun e w' => e = .returned (.tuple #[]) ∧ Mm w' [(g, lec b (wd (L * 2 ^ n % b)))] ∧ Kp g w w' := by
 obtain ⟨K, j, hK, hj, hKj, e⟩ : ∃ K j, K < 1000 ∧ j ≤ 64 ∧ (0 < K → 0 < j) ∧ n = 64 * (K - 0) + j := by
  by_cases h0 : n = 0
  ·exact ⟨0, 0, by omega, by omega, by omega, by omega⟩
  ·exact ⟨(n - 1) / 64, n - 64 * ((n - 1) / 64), by omega, by omega, by omega, by omega⟩
 have hb0 : 0 < b := by omega
 have ef : ∀ k m, L * 2 ^ (64 * k) % b * 2 ^ m % b = L * 2 ^ (64 * k + m) % b := fun k m => by
  rw [Nat.mul_mod, Nat.mod_mod, ← Nat.mul_mod, Nat.mul_assoc, ← Nat.pow_add]
 have cf : ∀ k w, Mm w [(g, lec b (wd (L * 2 ^ (64 * k) % b)))] → Calls Tryz.prog 194 #[PT g 0, .int .i64 64] w fun e w' => e = .returned (.tuple #[]) ∧ Mm w' [(g, lec b (wd (L * 2 ^ (64 * (k + 1)) % b)))] ∧ Kp g w w' := fun k w hm => by
  have h := stepL_any g b (L * 2 ^ (64 * k) % b) 64 (Nat.le_refl _) hb (Nat.mod_lt _ hb0) w hm
  rw [ef k 64, show 64 * k + 64 = 64 * (k + 1) by omega] at h
  exact h
 have cl : ∀ w, Mm w [(g, lec b (wd (L * 2 ^ (64 * K) % b)))] → Calls Tryz.prog 194 #[PT g 0, .int .i64 ((64 * (K - K) + j : Nat) : Int)] w fun e w' => e = .returned (.tuple #[]) ∧ Mm w' [(g, lec b (wd (L * 2 ^ n % b)))] ∧ Kp g w w' := fun w hm => by
  have h := stepL_any g b (L * 2 ^ (64 * K) % b) j hj hb (Nat.mod_lt _ hb0) w hm
  rw [ef K j, show 64 * K + j = n by omega] at h
  rw [show 64 * (K - K) + j = j by omega]
  exact h
 have h0 : L * 2 ^ (64 * 0) % b = L := by rw [Nat.mul_zero, Nat.pow_zero, Nat.mul_one, Nat.mod_eq_of_lt hL]
 have h := double_gen g b (L * 2 ^ n % b) K j (fun k => L * 2 ^ (64 * k) % b) hK hj hKj cf cl w (by rw [h0]; exact hm)
 rw [← e] at h
 exact h
abbrev zero12 : List Value := [.int .u64 0, .int .u64 0, .int .u64 0, .int .u64 0, .int .u64 0, .int .u64 0, .int .u64 0, .int .u64 0, .int .u64 0, .int .u64 0, .int .u64 0, .int .u64 0]
abbrev lev (b L : Nat) : Value := .agg (lec b (wd L)).toArray
theorem ex_madeL {ρ : Operand → Value} {o : Oper} {w : World} (ho : o.op = .alloc 227) :
  (execOp ρ o).run Tryz.prog w = .ok (.value (.pointer (some ⟨w.heap.size, 0, none⟩))) (w.alloc (.cells zero12.toArray 227)) := by
 simp only [execOp, ho]
 go_simp
theorem ex_buildL {ρ : Operand → Value} {o : Oper} {x : Operand} {b z : Nat} {w : World} (hz : z = 0) (ho : o.op = .build 227 #[(0, x)]) (hx : ρ x = N b) : (execOp ρ o).run Tryz.prog w = .ok (.value (lev b z)) w := by
 subst hz
 simp only [execOp, ho]
 go_simp
 simp [wd_zero]
theorem ex_laidL {ρ : Operand → Value} {o : Oper} {x y : Operand} {g b L : Nat} {w : World} (hb : Blk w g zero12) (ho : o.op = .store 227 x y) (hx : ρ x = .pointer (some ⟨g, 0, none⟩)) (hy : ρ y = lev b L) :
  (execOp ρ o).run Tryz.prog w = .ok .skip (w.setCells g 0 (lec b (wd L))) := ex_laidT hb rfl rfl Tryz.sizeOf227 ho hx hy
set_option maxHeartbeats 2000000 in
theorem powersOf_gen (n l s B z L0 L1 L2 o q : Nat) (cB : Bool) (hz : z = 0) (hl : l ≤ 384) (hs : s = 384 - l)
  (cl : ∀ w, Calls Tryz.prog 110 #[N n] w (Rt w (.int .i64 ((l : Nat) : Int))))
  (cb : ∀ w, Calls Tryz.prog 117 #[N n, .int .i64 ((s : Nat) : Int)] w (Rt w (N B)))
  (cs : ∀ w, Calls Tryz.prog 113 #[N 0, N B] w (Rt w (.tuple #[N L0, .bool cB])))
  (d1 : ∀ g w, Mm w [(g, lec B (wd L0))] → Calls Tryz.prog 160 #[PT g 0, .int .i64 ((s : Nat) : Int)] w fun e w' => e = .returned (.tuple #[]) ∧ Mm w' [(g, lec B (wd L1))] ∧ Kp g w w')
  (co : ∀ w, Calls Tryz.prog 117 #[N L1, .int .i64 (-((s : Nat) : Int))] w (Rt w (N o)))
  (d2 : ∀ g w, Mm w [(g, lec B (wd L1))] → Calls Tryz.prog 160 #[PT g 0, .int .i64 384] w fun e w' => e = .returned (.tuple #[]) ∧ Mm w' [(g, lec B (wd L2))] ∧ Kp g w w')
  (cq : ∀ w, Calls Tryz.prog 117 #[N L2, .int .i64 (-((s : Nat) : Int))] w (Rt w (N q))) (w : World) :
  Calls Tryz.prog 112 #[N n] w (Rt w (.tuple #[N o, N q])) := by
 have H0 : Hid (_ ∧ _) := ⟨Mm.nil w, Below.refl w.heap.size w⟩
 have CL : Hid _ := cl
 have CB : Hid _ := cb
 have CS : Hid _ := cs
 have CD1 : Hid _ := d1
 have CO : Hid _ := co
 have CD2 : Hid _ := d2
 have CQ : Hid _ := cq
 have HZ : Hid _ := hz
 clear cl cb cs d1 co d2 cq hz
 go_enter Tryz.func112, Tryz.ntmps112
 refine wp_seq ?_
 refine zI 3 [.made (zE n) 24, .made zero6 24, .made zero6 24] (sB H0) ?ho1 ?he1
 case ho1 => exact am (ex_box6 rfl rfl) (am (zO rfl) (am (zO rfl) trivial))
 intro J w1 l hM hl
 have H1 : Hid (Mm w1 [(J 0, zE n), (J 1, zero6), (J 2, zero6)] ∧ _) := wB H0 hM hl [0, 1, 2]
 have o1_0 := vB H0 hM hl 0
 have o1_1 := vB H0 hM hl 1
 have o1_2 := vB H0 hM hl 2
 clear hM hl l
 generalize J 0 = J1_0 at H1 o1_0 ⊢
 generalize J 1 = J1_1 at H1 o1_1 ⊢
 generalize J 2 = J1_2 at H1 o1_2 ⊢
 clear J
 refine rN (wp_seq ?_)
 refine zM 4 [.q (N n), .call (.int .i64 ((l : Nat) : Int)), .q (.int .i64 ((s : Nat) : Int)), .q (.int .i64 ((s : Nat) : Int))] H1 ?ho2 ?he2
 case ho2 => exact bN 0 (ac (fun w' h => eC call110 (CL.out w')) (ak (by refine fun J => ⟨rfl, fun w' h => ?_⟩; clear h; go_simp; rw [IntKind.wrap_i64]; omega) (ar trivial)))
 intro _ w2 H2
 clear H1
 refine rN (wp_seq ?_)
 refine zI 6 [.q (N n), .q (.int .i64 ((s : Nat) : Int)), .call (N B), .q (lev B z), .made zero12 227, .laid 4 zero12 (lec B (wd z))] (sB H2) ?ho3 ?he3 (hL := ?hL3)
 case hL3 => exact ⟨⟨_, rfl⟩, trivial⟩
 case ho3 => exact bN 0 (ar (ac (fun w' h => eC call117 (CB.out w')) (ak (fun J => ⟨rfl, fun w' _ => ex_buildL HZ.out rfl rfl⟩) (am (ex_madeL rfl) (ak (fun J => ⟨rfl, rfl, rfl, fun w' h => ex_laidL h rfl rfl rfl⟩) trivial)))))
 intro J w3 l hM hl
 have H3 : Hid (Mm w3 ([(J 4, lec B (wd z))] ++ _) ∧ _) := wB H2 hM hl [4]
 have o3_4 := vB H2 hM hl 4
 clear hM hl l H2
 generalize J 4 = J3_4 at H3 o3_4 ⊢
 clear J
 refine rN (wp_seq ?_)
 refine zM 8 [.q (N 0), .q (PT J3_4 0), .q (N B), .call (.tuple #[N L0, .bool cB]), .q (.tuple #[N L0, .bool cB]), .q (N L0), .q (.bool cB), .q (PT J3_4 6)] H3 ?ho4 ?he4
 case ho4 => exact ak (by refine fun J => ⟨rfl, fun w' h => ?_⟩; clear h; exact ex_zero6 rfl) (ag (bN 0 (ac (fun w' h => eC call113 (CS.out w')) (ar (ag (ag (ag trivial)))))))
 intro _ w4 H4
 clear H3
 refine zR (l := [8]) rfl ?_
 refine sG rfl (fun h => zQ h 0 rfl rfl rfl rfl (Nat.le_of_ble_eq_true rfl)) 0 [(_, lec B (wd L0)), _, _, _] H4 o3_4 fun w5 H5 => ?_
 clear H4
 refine zC (zB (wp_seq ?_))
 refine zM 1 [.q (.int .i64 ((s : Nat) : Int))] H5 ?ho5 ?he5
 case ho5 => exact ar trivial
 intro _ w6 H6
 clear H5
 refine zR (l := [1]) rfl ?_
 refine zF (d := 22) (R := fun vv w' => vv = .tuple #[] ∧ Mm w' [(J3_4, lec B (wd L1))] ∧ Kp J3_4 w6 w') rfl rfl rfl (zG (args := #[PT J3_4 0, .int .i64 ((s : Nat) : Int)]) rfl call160 rfl (mpn rfl)) (Calls.mono (CD1.out J3_4 w6 (H6.out.1.one 0 rfl)) (fun e w2 hh => ⟨_, hh.1, rfl, hh.2⟩)) ?_
 rintro _ w7 ⟨rfl, hn, hp⟩
 have H7 : Hid (Mm w7 [(J3_4, lec B (wd L1)), (J1_0, zE n), (J1_1, zero6), (J1_2, zero6)] ∧ Below w.heap.size w w7) := ⟨H6.out.1.change 0 rfl hp hn, Below.kp H6.out.2 hp o3_4.out H6.out.2.size⟩
 clear hn hp H6
 simp only [Act.put, sa, sz, ss]
 refine zC (zB (wp_seq ?_))
 refine zM 5 [.q (PT J3_4 6), .q (N L1), .q (.int .i64 ((s : Nat) : Int)), .q (.int .i64 (-((s : Nat) : Int))), .call (N o)] H7 ?ho6 ?he6
 case ho6 => exact ag (bN 0 (ar (ak (by refine fun J => ⟨rfl, fun w' h => ?_⟩; clear h; go_simp; rw [IntKind.wrap_i64]; omega) (ac (fun w' h => eC call117 (CO.out w')) trivial))))
 intro _ w8 H8
 clear H7
 refine zR (l := [5]) rfl ?_
 refine sG rfl (fun h => zQ h 2 rfl rfl rfl rfl (Nat.le_of_ble_eq_true rfl)) 2 [_, _, (_, zE o), _] H8 o1_1 fun w9 H9 => ?_
 clear H8
 refine zC (zB (wp_seq ?_))
 refine zM 0 [] H9 ?ho7 ?he7
 case ho7 => exact trivial
 intro _ w10 H10
 clear H9
 refine zR (l := [0]) rfl ?_
 refine zF (d := 28) (R := fun vv w' => vv = .tuple #[] ∧ Mm w' [(J3_4, lec B (wd L2))] ∧ Kp J3_4 w10 w') rfl rfl rfl (zG (args := #[PT J3_4 0, .int .i64 384]) rfl call160 rfl (mpn rfl)) (Calls.mono (CD2.out J3_4 w10 (H10.out.1.one 0 rfl)) (fun e w2 hh => ⟨_, hh.1, rfl, hh.2⟩)) ?_
 rintro _ w11 ⟨rfl, hn, hp⟩
 have H11 : Hid (Mm w11 [(J3_4, lec B (wd L2)), (J1_0, zE n), (J1_1, zE o), (J1_2, zero6)] ∧ Below w.heap.size w w11) := ⟨H10.out.1.change 0 rfl hp hn, Below.kp H10.out.2 hp o3_4.out H10.out.2.size⟩
 clear hn hp H10
 simp only [Act.put, sa, sz, ss]
 refine zC (zB (wp_seq ?_))
 refine zM 5 [.q (PT J3_4 6), .q (N L2), .q (.int .i64 ((s : Nat) : Int)), .q (.int .i64 (-((s : Nat) : Int))), .call (N q)] H11 ?ho8 ?he8
 case ho8 => exact ag (bN 0 (ar (ak (by refine fun J => ⟨rfl, fun w' h => ?_⟩; clear h; go_simp; rw [IntKind.wrap_i64]; omega) (ac (fun w' h => eC call117 (CQ.out w')) trivial))))
 intro _ w12 H12
 clear H11
 refine zR (l := [5]) rfl ?_
 refine sG rfl (fun h => zQ h 3 rfl rfl rfl rfl (Nat.le_of_ble_eq_true rfl)) 3 [_, _, _, (_, zE q)] H12 o1_2 fun w13 H13 => ?_
 clear H12
 refine zC (zB (wp_seq ?_))
 refine walk_put2 (by kernel_rfl) 2 [1] [.q (N o), .q (N q)] _ ?pre9 ?F9 _ ?hpre9 (fun J => ?hF9) (by kernel_rfl) rfl trivial (sB H13) ?ho9 ?hla9 ?he9
 case hpre9 => simp only [tk, tz]; rfl
 case hF9 => simp only [zY, Kind.val, Act.put, sa, sz, ss]; rfl
 case ho9 =>
  refine bN 2 ?_
  refine bN 3 ?_
  exact trivial
 case hla9 => exact rfl
 intro J w14 l hM hl
 have H14 := keepB H13 hM.below
 clear hM hl l H13 J
 have H15 : Hid (Mm (w14.setCells J1_1 0 (zE o)) [(J3_4, lec B (wd L2)), (J1_0, zE n), (J1_1, zE o), (J1_2, zE q)] ∧ Below w.heap.size w (w14.setCells J1_1 0 (zE o))) := ⟨H14.out.1.put 2 (off := 0) (vs := zE o) rfl (Nat.le_of_ble_eq_true rfl), below_setCells _ o1_1.out _ _ _ H14.out.2⟩
 refine ⟨_, zQ H14.out.1 2 rfl rfl rfl rfl (Nat.le_of_ble_eq_true rfl), ⟨⟨_, _, rfl, rfl, rfl, ex_load6 H15.out.1 3 rfl rfl rfl rfl⟩, trivial⟩, ?_⟩
 clear H14
 generalize hgw : World.setCells _ _ _ _ = w15 at H15 ⊢
 clear hgw
 refine zR (l := [3]) rfl ?_
 refine sG rfl (fun h => zQ h 3 rfl rfl rfl rfl (Nat.le_of_ble_eq_true rfl)) 3 [_, _, _, (_, zE q)] H15 o1_2 fun w16 H16 => ?_
 clear H15
 refine zC (zB (wp_ret ?_))
 repeat (first | refine zL ?_ | refine zK ?_)
 have c0 := H16.out.1.get 2 rfl 0 rfl
 have c1 := H16.out.1.get 2 rfl 1 rfl
 have c2 := H16.out.1.get 2 rfl 2 rfl
 have c3 := H16.out.1.get 2 rfl 3 rfl
 have c4 := H16.out.1.get 2 rfl 4 rfl
 have c5 := H16.out.1.get 2 rfl 5 rfl
 have c1_0 := H16.out.1.get 3 rfl 0 rfl
 have c1_1 := H16.out.1.get 3 rfl 1 rfl
 have c1_2 := H16.out.1.get 3 rfl 2 rfl
 have c1_3 := H16.out.1.get 3 rfl 3 rfl
 have c1_4 := H16.out.1.get 3 rfl 4 rfl
 have c1_5 := H16.out.1.get 3 rfl 5 rfl
 refine bodyPost_ret (v := .tuple #[N o, N q]) (by simp [results, Tryz.results112, go_sem, *]) rfl ?_
 exact ⟨rfl, H16.out.2⟩
theorem lead_facts {n : Nat} (ok : Ok n) : ∃ l s, l = bl n ∧ l ≤ 384 ∧ s = 384 - l ∧ s < 384 ∧ n * 2 ^ s < big ∧ big < n * 2 ^ s + n * 2 ^ s := by
 have h0 : n ≠ 0 := by have := ok.three; omega
 have h1 := bl_lt n
 have h2 := bl_le n h0
 have h3 := bl_pos n h0
 have h4 := len_ok ok
 have hl : bl n ≤ 382 := by omega
 refine ⟨bl n, 384 - bl n, rfl, by omega, rfl, by omega, ?_, ?_⟩
 ·obtain ⟨m, hm, e⟩ := big_pow
  have hs : 64 * m = bl n + (384 - bl n) := by omega
  rw [e, hs, Nat.pow_add]
  exact Nat.mul_lt_mul_of_pos_right h1 (Nat.two_pow_pos _)
 ·obtain ⟨m, hm, e⟩ := big_pow
  have hs : 64 * m = (bl n - 1) + 1 + (384 - bl n) := by omega
  have hne : 2 ^ (bl n - 1) ≠ n := by
   intro h
   rcases Nat.lt_or_ge (bl n - 1) 1 with g | g
   ·have : bl n - 1 = 0 := by omega
    rw [this, Nat.pow_zero] at h
    have := ok.three; omega
   ·obtain ⟨k, hk⟩ : ∃ k, bl n - 1 = k + 1 := ⟨bl n - 1 - 1, by omega⟩
    rw [hk, Nat.pow_succ] at h
    have := ok.odd; omega
  have hlt : 2 ^ (bl n - 1) < n := by omega
  have h5 := Nat.mul_lt_mul_of_pos_right hlt (Nat.two_pow_pos (384 - bl n))
  rw [e, hs, Nat.pow_add, Nat.pow_succ, Nat.mul_right_comm]
  omega
theorem powersOf_any {n : Nat} (ok : Ok n) (w : World) : Calls Tryz.prog 112 #[N n] w (Rt w (.tuple #[N (big % n), N (big * big % n)])) := by
 obtain ⟨l, s, hl, hl2, hs, hs2, hB, hB2⟩ := lead_facts ok
 have cb := fun w => shift_up n s hs2 w
 rw [Nat.mod_eq_of_lt hB] at cb
 have hBp : 0 < n * 2 ^ s := by omega
 have cl := fun w => len_any n ok.big w
 rw [← hl] at cl
 obtain ⟨B, hBe⟩ : ∃ B, B = n * 2 ^ s := ⟨_, rfl⟩
 rw [← hBe] at cb hB hB2 hBp
 have cs := fun w => sub_any 0 B big_pos2 hB w
 rw [Nat.zero_add, Nat.mod_eq_of_lt (show big - B < big by omega)] at cs
 have hL0 : big - B < B := by omega
 have hmod : big % B = big - B := by
  rw [Nat.mod_eq_sub_mod (by omega), Nat.mod_eq_of_lt hL0]
 have d1 := fun g w hm => doubleL_any g B (big - B) s (by omega) hB hL0 w hm
 have e1 : (big - B) * 2 ^ s % B = big % n * 2 ^ s := by
  rw [← hmod, Nat.mul_mod, Nat.mod_mod, ← Nat.mul_mod, hBe, Nat.mul_mod_mul_right]
 rw [e1] at d1
 have hp := Nat.two_pow_pos s
 have hL1 : big % n * 2 ^ s < B := by
  rw [hBe]; exact Nat.mul_lt_mul_of_pos_right (Nat.mod_lt _ ok.pos) hp
 obtain ⟨k, hk⟩ : ∃ k : Nat, k = 384 := ⟨_, rfl⟩
 have d2 := fun g w hm => doubleL_any g B (big % n * 2 ^ s) k (by omega) hB hL1 w hm
 have e2 : big % n * 2 ^ s * 2 ^ k % B = big * big % n * 2 ^ s := by
  rw [pow_is k (by omega), Nat.mul_right_comm, hBe, Nat.mul_mod_mul_right, Nat.mul_mod, Nat.mod_mod, ← Nat.mul_mod]
 rw [e2] at d2
 have hL2 : big * big % n * 2 ^ s < B := by
  rw [hBe]; exact Nat.mul_lt_mul_of_pos_right (Nat.mod_lt _ ok.pos) hp
 have ek : ((k : Nat) : Int) = 384 := by omega
 rw [ek] at d2
 have co := fun w => shift_neg' (big % n * 2 ^ s) s (by omega) hs2 w
 have cq := fun w => shift_neg' (big * big % n * 2 ^ s) s (by omega) hs2 w
 rw [Nat.mul_div_cancel _ hp] at co cq
 exact powersOf_gen n l s B 0 (big - B) _ _ _ _ _ rfl hl2 hs cl cb cs d1 co d2 cq w
theorem new_4 (n o s : Nat) (L : Int) (hr : (wd n 0).tmod 2 = 1)
  (e1 : ∀ w, (Op.equalIn 10000 24 (N n) (N 1)).run Tryz.prog w = .ok false w) (hL : ¬ (382 : Int) < L)
  (c29 : ∀ w, Calls Tryz.prog 7 #[.int .u64 1] w (Rt w (N 1)))
  (c33 : ∀ w, Calls Tryz.prog 110 #[N n] w (Rt w (.int .i64 L)))
  (c34 : ∀ w, Calls Tryz.prog 111 #[.int .u64 (wd n 0)] w (Rt w (.int .u64 (wrapZ (wd n 0)))))
  (c35 : ∀ w, Calls Tryz.prog 112 #[N n] w (Rt w (.tuple #[N o, N s]))) (w : World) :
  Calls Tryz.prog 75 #[N n] w fun e w' => Below w.heap.size w w' ∧ ∃ g, e = .returned (.tuple #[PT g 0, .int .i64 0]) ∧ w.heap.size ≤ g ∧ g < w'.heap.size ∧ Blk w' g (zW n o s) := by
 have H0 : Hid (_ ∧ _) := ⟨Mm.nil w, Below.refl w.heap.size w⟩
 have C29 : Hid _ := c29
 have C33 : Hid _ := c33
 have C34 : Hid _ := c34
 have C35 : Hid _ := c35
 clear c29 c33 c34 c35
 go_enter Tryz.func75, Tryz.ntmps75
 refine wp_seq ?_
 refine zI 3 [.made (zE n) 24, .q (.pointer none), .q (.int .i64 0)] (sB H0) ?ho1 ?he1
 case ho1 => exact am (ex_box6 rfl rfl) (ar (ar trivial))
 intro J w1 l hM hl
 have H1 : Hid (Mm w1 [(J 0, zE n)] ∧ _) := wB H0 hM hl [0]
 have o1_0 := vB H0 hM hl 0
 clear hM hl l
 generalize J 0 = J1_0 at H1 o1_0 ⊢
 clear J
 refine rN (wp_seq (wp_seq ?_))
 refine walk_anyB 14 [.q (PT J1_0 0), .q (.int .u64 (wd n 0)), .q (.int .u64 1), .q (.bool false), .q (.bool false), .q (N n), .call (N 1), .q (.bool false), .q (.bool false), .q (.bool false), .q (N n), .call (.int .i64 L), .q (.bool false), .q (.bool false)] H1 ?ho2 ?he2
 case ho2 => exact ag (aq (fun w' h => ex_load1 h 0 rfl rfl rfl rfl) (ag (ag (ar (bN 0 (ac (fun w' h => eC call7 (C29.out w')) (ak (fun J => ⟨rfl, fun w' _ => exec_eq6 e1 rfl rfl rfl⟩) (ag (ar (bN 0 (ac (fun w' h => eC call110 (C33.out w')) (ag (ag trivial)))))))))))))
 intro _ w2 H2
 clear H1
 refine rN (wp_cond_false rfl ?_)
 refine wp_skip (zB (wp_seq ?_))
 refine walk_anyA 6 [.q (N n), .q (PT J1_0 0), .q (.int .u64 (wd n 0)), .call (.int .u64 (wrapZ (wd n 0))), .q (modv n 0 0), .made (zW n 0 0) 139] (sB H2) ?ho3 ?he3
 case ho3 => exact bN 0 (ag (aq (fun w' h => ex_load1 h 0 rfl rfl rfl rfl) (ac (fun w' h => eC call111 (C34.out w')) (ak (fun J => ⟨rfl, fun w' _ => ex_build39 rfl rfl rfl⟩) (am (ex_box39 rfl rfl) trivial)))))
 intro J w3 l hM hl
 have H3 : Hid (Mm w3 ([(J 5, zW n 0 0)] ++ _) ∧ _) := wB H2 hM hl [5]
 have o3_5 := vB H2 hM hl 5
 clear hM hl l H2
 generalize J 5 = J3_5 at H3 o3_5 ⊢
 clear J
 refine zR (l := [6]) rfl ?_
 refine zA (d := 4) rfl rfl rfl rfl ?_
 simp only [Act.put, sa, sz, ss]
 refine zC (zB (wp_seq ?_))
 refine zM 9 [.q (PT J3_5 0), .q (PT J3_5 0), .q (N n), .call (.tuple #[N o, N s]), .q (.tuple #[N o, N s]), .q (N o), .q (N s), .q (PT J3_5 0), .q (PT J3_5 7)] H3 ?ho4 ?he4
 case ho4 => exact ar (ar (bN 1 (ac (fun w' h => eC call112 (C35.out w')) (ar (ag (ag (ag (ag trivial))))))))
 intro _ w4 H4
 clear H3
 refine zR (l := [9, 10, 11, 12]) rfl ?_
 refine sG rfl (fun h => zQ h 0 rfl rfl rfl rfl (Nat.le_of_ble_eq_true rfl)) 0 [(_, zW n o 0), _] H4 o3_5 fun w5 H5 => ?_
 clear H4
 refine zA (d := 34) (v := PT J3_5 0) (w' := w5) rfl rfl rfl (by go_simp) ?_
 simp only [Act.put, sa, sz, ss]
 refine zA (d := 35) (v := PT J3_5 13) (w' := w5) rfl rfl rfl (by go_simp) ?_
 simp only [Act.put, sa, sz, ss]
 refine sG rfl (fun h => zQ h 0 rfl rfl rfl rfl (Nat.le_of_ble_eq_true rfl)) 0 [(_, zW n o s), _] H5 o3_5 fun w6 H6 => ?_
 clear H5
 refine zC (zB (wp_seq ?_))
 refine zM 3 [.q (PT J3_5 0), .q (PT J3_5 0), .q (.int .i64 0)] H6 ?ho5 ?he5
 case ho5 => exact ar (ar (ar trivial))
 intro _ w7 H7
 clear H6
 refine rN (wp_ret ?_)
 repeat (first | refine zL ?_ | refine zK ?_)
 refine bodyPost_ret (v := .tuple #[PT J3_5 0, .int .i64 0]) (by simp [results, Tryz.results75, go_sem, *]) rfl ?_
 exact ⟨H7.out.2, J3_5, rfl, o3_5.out, H7.out.1.lt (List.mem_of_getElem? (i := 0) rfl), (H7.out.1.blk _ (List.mem_of_getElem? (i := 0) rfl)).2⟩
theorem new_ok {n : Nat} (ok : Ok n) (w : World) : Calls Tryz.prog 75 #[N n] w fun e w' => Below w.heap.size w w' ∧ ∃ g, e = .returned (.tuple #[PT g 0, .int .i64 0]) ∧ w.heap.size ≤ g ∧ g < w'.heap.size ∧ Blk w' g (modc n) := by
 have hw := word_mod n
 rw [ok.odd] at hw
 have e1 := fun w => run_eqN n 1 ok.big (small_big 1 (by decide)) w
 rw [decide_eq_false (by have := ok.three; omega)] at e1
 exact new_4 n (big % n) (big * big % n) _ hw e1 (len_ok ok) (fun w => of_any 1 (by decide) w) (fun w => len_any n ok.big w) (fun w => (wrapOf_any (wd n 0) w).mono fun e w' ⟨h1, h2⟩ => ⟨h1, h2 ▸ Below.refl _ _⟩) (fun w => powersOf_any ok w) w
/-! Numbers side by side. -/
def cel : List Nat → List Value
 | [] => []
 | a :: l => zE a ++ cel l
abbrev V (l : List Nat) : Value := .agg (cel l).toArray
theorem cel_zero (k : Nat) : cel (List.replicate k 0) = List.replicate (6 * k) (.int .u64 0) := by
 induction k with
 | zero => rfl
 | succ k ih =>
  rw [List.replicate_succ]
  show zE 0 ++ cel (List.replicate k 0) = _
  rw [ih, cells_zero, show 6 * (k + 1) = 6 + 6 * k by omega, ← List.replicate_append_replicate]
  rfl
end Rg
end Go.Proofs.YtahghpkjkfaieaaGreatDoor
end
section
namespace Go.Proofs.YtahghpkjkfaieaaGreatDoor
namespace NT
/-- A prime. -/
def Prm (p : Nat) : Prop := 1 < p ∧ ∀ d, d ∣ p → d = 1 ∨ d = p
theorem Prm.cop {p : Nat} (h : Prm p) {a : Nat} (ha : ¬ p ∣ a) : Nat.Coprime p a := by
 rcases h.2 (Nat.gcd p a) (Nat.gcd_dvd_left p a) with h1 | h1
 ·exact h1
 ·exact absurd (h1 ▸ Nat.gcd_dvd_right p a) ha
theorem Prm.mul {p a b : Nat} (h : Prm p) (hd : p ∣ a * b) : p ∣ a ∨ p ∣ b := by
 by_cases ha : p ∣ a
 ·exact Or.inl ha
 ·exact Or.inr ((h.cop ha).dvd_of_dvd_mul_left hd)
theorem Prm.pos {p : Nat} (h : Prm p) : 0 < p := by have := h.1; omega
/-- Each number above 1 has a prime that divides it. -/
theorem prm_dvd (n : Nat) (h : 1 < n) : ∃ q, Prm q ∧ q ∣ n := by
 induction n using Nat.strongRecOn with
 | ind n ih =>
  by_cases hp : ∃ d, d ∣ n ∧ d ≠ 1 ∧ d ≠ n
  ·obtain ⟨d, hd, h1, h2⟩ := hp
   have hle := Nat.le_of_dvd (by omega) hd
   have h0 : d ≠ 0 := by
    intro e; rw [e] at hd; have := Nat.eq_zero_of_zero_dvd hd; omega
   obtain ⟨q, hq, hqd⟩ := ih d (by omega) (by omega)
   exact ⟨q, hq, Nat.dvd_trans hqd hd⟩
  ·refine ⟨n, ⟨h, ?_⟩, Nat.dvd_refl n⟩
   intro d hd
   by_cases h1 : d = 1
   ·exact Or.inl h1
   ·by_cases h2 : d = n
    ·exact Or.inr h2
    ·exact absurd ⟨d, hd, h1, h2⟩ hp
/-! Binomials. -/
def ch : Nat → Nat → Nat
 | _, 0 => 1
 | 0, _ + 1 => 0
 | n + 1, k + 1 => ch n k + ch n (k + 1)
theorem ch_zero (n : Nat) : ch n 0 = 1 := by cases n <;> rfl
theorem ch_big (n : Nat) : ∀ k, n < k → ch n k = 0 := by
 induction n with
 | zero => intro k hk; cases k with
  | zero => omega
  | succ k => rfl
 | succ n ih => intro k hk; cases k with
  | zero => omega
  | succ k => show ch n k + ch n (k + 1) = 0; rw [ih k (by omega), ih (k + 1) (by omega)]
theorem ch_self (n : Nat) : ch n n = 1 := by
 induction n with
 | zero => rfl
 | succ n ih => show ch n n + ch n (n + 1) = 1; rw [ih, ch_big n (n + 1) (by omega)]
theorem ch_absorb (n : Nat) : ∀ k, (k + 1) * ch (n + 1) (k + 1) = (n + 1) * ch n k := by
 induction n with
 | zero =>
  intro k
  cases k with
  | zero => rfl
  | succ k =>
   rw [ch_big 1 (k + 1 + 1) (by omega), ch_big 0 (k + 1) (by omega)]; omega
 | succ n ih =>
  intro k
  cases k with
  | zero =>
   have h := ih 0
   show (0 + 1) * (ch (n + 1) 0 + ch (n + 1) (0 + 1)) = _
   rw [Nat.mul_add, h, ch_zero, ch_zero]; omega
  | succ k =>
   have h1 := ih k
   have h2 := ih (k + 1)
   show (k + 1 + 1) * (ch (n + 1) (k + 1) + ch (n + 1) (k + 1 + 1)) = (n + 1 + 1) * (ch (n + 1) (k + 1))
   rw [Nat.mul_add, h2]
   have e : ch (n + 1) (k + 1) = ch n k + ch n (k + 1) := rfl
   rw [Nat.add_mul (k + 1) 1, h1, Nat.add_mul (n + 1) 1 (ch (n + 1) (k + 1))]
   have e' : (n + 1) * ch (n + 1) (k + 1) = (n + 1) * ch n k + (n + 1) * ch n (k + 1) := by rw [e, Nat.mul_add]
   omega
theorem ch_dvd {p : Nat} (hp : Prm p) (k : Nat) (h0 : 0 < k) (hk : k < p) : p ∣ ch p k := by
 obtain ⟨k, rfl⟩ : ∃ j, k = j + 1 := ⟨k - 1, by omega⟩
 obtain ⟨n, rfl⟩ : ∃ j, p = j + 1 := ⟨p - 1, by omega⟩
 have h : n + 1 ∣ (k + 1) * ch (n + 1) (k + 1) := ⟨ch n k, ch_absorb n k⟩
 rcases hp.mul h with h1 | h1
 ·have := Nat.le_of_dvd (by omega) h1; omega
 ·exact h1
def sm (f : Nat → Nat) : Nat → Nat
 | 0 => 0
 | n + 1 => sm f n + f n
theorem sm_first (f : Nat → Nat) (n : Nat) : sm f (n + 1) = f 0 + sm (fun k => f (k + 1)) n := by
 induction n with
 | zero => simp [sm]
 | succ n ih => rw [sm, ih]; simp only [sm]; omega
theorem sm_add (f g : Nat → Nat) (n : Nat) : sm (fun k => f k + g k) n = sm f n + sm g n := by
 induction n with
 | zero => rfl
 | succ n ih => simp only [sm]; rw [ih]; omega
theorem sm_mul (f : Nat → Nat) (c n : Nat) : sm (fun k => c * f k) n = c * sm f n := by
 induction n with
 | zero => rfl
 | succ n ih => simp only [sm]; rw [ih, Nat.mul_add]
theorem sm_congr (f g : Nat → Nat) (n : Nat) (h : ∀ k, k < n → f k = g k) : sm f n = sm g n := by
 induction n with
 | zero => rfl
 | succ n ih => simp only [sm]; rw [ih (fun k hk => h k (by omega)), h n (by omega)]
theorem sm_dvd (f : Nat → Nat) (p n : Nat) (h : ∀ k, k < n → p ∣ f k) : p ∣ sm f n := by
 induction n with
 | zero => exact Nat.dvd_zero p
 | succ n ih => exact Nat.dvd_add (ih (fun k hk => h k (by omega))) (h n (by omega))
theorem binom (a n : Nat) : (a + 1) ^ n = sm (fun k => ch n k * a ^ k) (n + 1) := by
 induction n with
 | zero => simp [sm, ch]
 | succ n ih =>
  rw [Nat.pow_succ, ih, Nat.mul_add, Nat.mul_one]
  rw [sm_first (fun k => ch (n + 1) k * a ^ k) (n + 1)]
  have e : ∀ k, ch (n + 1) (k + 1) * a ^ (k + 1) = a * (ch n k * a ^ k) + ch n (k + 1) * a ^ (k + 1) := by
   intro k
   show (ch n k + ch n (k + 1)) * a ^ (k + 1) = _
   rw [Nat.add_mul, Nat.pow_succ]
   congr 1
   rw [Nat.mul_comm (a ^ k) a, Nat.mul_left_comm]
  have e1 : sm (fun k => ch (n + 1) (k + 1) * a ^ (k + 1)) (n + 1)
    = a * sm (fun k => ch n k * a ^ k) (n + 1) + sm (fun k => ch n (k + 1) * a ^ (k + 1)) (n + 1) := by
   rw [← sm_mul, ← sm_add]
   exact sm_congr _ _ _ (fun k _ => e k)
  rw [e1]
  have e2 : sm (fun k => ch n k * a ^ k) (n + 1) = 1 + sm (fun k => ch n (k + 1) * a ^ (k + 1)) (n + 1) := by
   rw [sm_first (fun k => ch n k * a ^ k) n]
   have : sm (fun k => ch n (k + 1) * a ^ (k + 1)) (n + 1) = sm (fun k => ch n (k + 1) * a ^ (k + 1)) n + ch n (n + 1) * a ^ (n + 1) := rfl
   rw [this, ch_big n (n + 1) (by omega), ch_zero]
   simp
  rw [ch_zero, Nat.pow_zero, Nat.mul_comm _ a]
  omega
theorem dream {p : Nat} (hp : Prm p) (a : Nat) : (a + 1) ^ p % p = (a ^ p + 1) % p := by
 obtain ⟨n, rfl⟩ : ∃ j, p = j + 1 := ⟨p - 1, by have := hp.1; omega⟩
 rw [binom, sm, sm_first]
 obtain ⟨c, hc⟩ := sm_dvd (fun k => ch (n + 1) (k + 1) * a ^ (k + 1)) (n + 1) n
  (fun k hk => Nat.dvd_trans (ch_dvd hp (k + 1) (by omega) (by omega)) (Nat.dvd_mul_right _ _))
 rw [hc, ch_self, ch_zero, Nat.pow_zero]
 have : 1 * 1 + (n + 1) * c + 1 * a ^ (n + 1) = (a ^ (n + 1) + 1) + (n + 1) * c := by omega
 rw [this, Nat.add_mul_mod_self_left]
theorem fermat {p : Nat} (hp : Prm p) (a : Nat) : a ^ p % p = a % p := by
 induction a with
 | zero => rw [Nat.zero_pow hp.pos]
 | succ a ih => rw [dream hp, Nat.add_mod, ih, ← Nat.add_mod]
theorem fermat1 {p : Nat} (hp : Prm p) (a : Nat) (ha : ¬ p ∣ a) : a ^ (p - 1) % p = 1 := by
 have h := fermat hp a
 obtain ⟨n, rfl⟩ : ∃ j, p = j + 1 := ⟨p - 1, by have := hp.1; omega⟩
 rw [Nat.add_sub_cancel]
 rw [Nat.pow_succ] at h
 have hn : 0 < n := by have := hp.1; omega
 have h1 : 1 ≤ a ^ n := Nat.one_le_iff_ne_zero.mpr (fun e => by
  rcases Nat.pow_eq_zero.mp e with ⟨e1, -⟩
  rw [e1] at ha; exact ha (Nat.dvd_zero _))
 have h2 : n + 1 ∣ (a ^ n - 1) * a := by
  rw [Nat.sub_mul, Nat.one_mul]
  exact Nat.dvd_of_mod_eq_zero (Nat.sub_mod_eq_zero_of_mod_eq h)
 rcases hp.mul h2 with h3 | h3
 ·obtain ⟨c, hc⟩ := h3
  have : a ^ n = 1 + (n + 1) * c := by omega
  rw [this, Nat.add_mul_mod_self_left, Nat.mod_eq_of_lt hp.1]
 ·exact absurd h3 ha
/-! Orders. -/
theorem least (P : Nat → Prop) (n : Nat) (h : P n) : ∃ m, P m ∧ ∀ k, k < m → ¬ P k := by
 induction n using Nat.strongRecOn with
 | ind n ih =>
  by_cases hk : ∃ k, k < n ∧ P k
  ·obtain ⟨k, h1, h2⟩ := hk
   exact ih k h1 h2
  ·exact ⟨n, h, fun k h1 h2 => hk ⟨k, h1, h2⟩⟩
theorem order {d : Nat} (hd : Prm d) (a : Nat) (ha : ¬ d ∣ a) :
  ∃ e, e ∣ d - 1 ∧ a ^ e % d = 1 ∧ ∀ m, a ^ m % d = 1 → e ∣ m := by
 obtain ⟨e, ⟨h0, h1⟩, h2⟩ := least (fun e => 0 < e ∧ a ^ e % d = 1) (d - 1) ⟨by have := hd.1; omega, fermat1 hd a ha⟩
 have h3 : ∀ m, a ^ m % d = 1 → e ∣ m := by
  intro m hm
  by_cases hr : m % e = 0
  ·exact Nat.dvd_of_mod_eq_zero hr
  ·exfalso
   refine h2 (m % e) (Nat.mod_lt _ h0) ⟨by omega, ?_⟩
   have e1 : a ^ m = (a ^ e) ^ (m / e) * a ^ (m % e) := by
    rw [← Nat.pow_mul, ← Nat.pow_add, Nat.div_add_mod]
   rw [e1, Nat.mul_mod, Nat.pow_mod, h1, Nat.one_pow, Nat.mod_eq_of_lt hd.1, Nat.one_mul, Nat.mod_mod] at hm
   exact hm
 exact ⟨e, h3 _ (fermat1 hd a ha), h1, h3⟩
/-- Pocklington: each prime that divides N leaves 1 by F. -/
theorem pock {N M F a d : Nat} (qs : List Nat) (hM : N = M + 1) (hF : F ∣ M) (hd : Prm d) (hdN : d ∣ N) (h1 : a ^ M % N = 1)
  (hc : ∀ t, (∀ q, q ∈ qs → Nat.Coprime q t) → Nat.Coprime F t)
  (hq : ∀ q, q ∈ qs → Prm q ∧ q ∣ M ∧ Nat.Coprime (a ^ (M / q) % N + M) N) : F ∣ d - 1 := by
 have hmod : ∀ x, x % N % d = x % d := fun x => Nat.mod_mod_of_dvd x hdN
 have h1d : a ^ M % d = 1 := by rw [← hmod, h1, Nat.mod_eq_of_lt hd.1]
 have hM0 : M ≠ 0 := by
  intro e; rw [e] at hM; rw [hM] at hdN; have := Nat.dvd_one.mp hdN; have := hd.1; omega
 have ha : ¬ d ∣ a := by
  intro h
  have h2 : d ∣ a ^ M := Nat.dvd_trans h (by
   obtain ⟨k, hk⟩ : ∃ k, M = k + 1 := ⟨M - 1, by omega⟩
   rw [hk, Nat.pow_succ]; exact Nat.dvd_mul_left _ _)
  have := Nat.mod_eq_zero_of_dvd h2
  omega
 obtain ⟨e, h2, h3, h4⟩ := order hd a ha
 obtain ⟨t, ht⟩ := h4 M h1d
 have hcop : Nat.Coprime F t := by
  refine hc t (fun q hqm => ?_)
  obtain ⟨g1, g2, g3⟩ := hq q hqm
  refine g1.cop (fun hqt => ?_)
  obtain ⟨s, hs⟩ := hqt
  have g4 : M / q = e * s := by
   rw [ht, hs, Nat.mul_left_comm, Nat.mul_div_cancel_left _ g1.pos]
  have g5 : a ^ (M / q) % d = 1 := by
   rw [g4, Nat.pow_mul, Nat.pow_mod, h3, Nat.one_pow, Nat.mod_eq_of_lt hd.1]
  have g6 : d ∣ a ^ (M / q) % N + M := by
   refine Nat.dvd_of_mod_eq_zero ?_
   rw [Nat.add_mod, hmod, g5, ← Nat.mod_eq_of_lt hd.1, ← Nat.add_mod, Nat.add_comm 1 M, ← hM]
   exact Nat.mod_eq_zero_of_dvd hdN
  have g7 := Nat.dvd_gcd g6 hdN
  rw [g3] at g7
  have := Nat.dvd_one.mp g7; have := hd.1; omega
 have h5 : F ∣ e := hcop.dvd_of_dvd_mul_right (ht ▸ hF)
 exact Nat.dvd_trans h5 h2
/-- A number whose prime divisors all leave 1 by F, F F above it, is prime. -/
theorem prm_of {N F : Nat} (hN : 1 < N) (hF : N < F * F) (h : ∀ d, Prm d → d ∣ N → F ∣ d - 1) : Prm N := by
 obtain ⟨d, hd, hdN⟩ := prm_dvd N hN
 by_cases e : d = N
 ·exact e ▸ hd
 ·exfalso
  obtain ⟨c, hc⟩ := hdN
  have hc1 : 1 < c := by
   rcases c with _ | _ | c
   ·omega
   ·omega
   ·omega
  obtain ⟨d', hd', hdc⟩ := prm_dvd c hc1
  have g1 : F ≤ d - 1 := Nat.le_of_dvd (by have := hd.1; omega) (h d hd ⟨c, hc⟩)
  have g2 : F ≤ d' - 1 := Nat.le_of_dvd (by have := hd'.1; omega) (h d' hd' (Nat.dvd_trans hdc ⟨d, by rw [hc, Nat.mul_comm]⟩))
  have g3 := Nat.le_of_dvd (by omega) hdc
  have g4 : F * F ≤ d * c := Nat.mul_le_mul (by omega) (by omega)
  omega
/-- All divisors leave 1 by F. -/
theorem all_one {N F : Nat} (h : ∀ d, Prm d → d ∣ N → F ∣ d - 1) : ∀ c, 0 < c → c ∣ N → F ∣ c - 1 := by
 intro c
 induction c using Nat.strongRecOn with
 | ind c ih =>
  intro h0 hc
  by_cases h1 : c = 1
  ·rw [h1]; exact Nat.dvd_zero F
  ·obtain ⟨d, hd, hdc⟩ := prm_dvd c (by omega)
   obtain ⟨b, hb⟩ := hdc
   have hb0 : 0 < b := by
    rcases b with _ | b
    ·omega
    ·omega
   have g1 := h d hd (Nat.dvd_trans ⟨b, hb⟩ hc)
   have hlt : b < c := by
    have := hd.1
    have : 2 * b ≤ d * b := Nat.mul_le_mul (by omega) (Nat.le_refl b)
    omega
   have g2 := ih b hlt hb0 (Nat.dvd_trans ⟨d, by rw [hb, Nat.mul_comm]⟩ hc)
   obtain ⟨x, hx⟩ := g1
   obtain ⟨y, hy⟩ := g2
   have ed : d = F * x + 1 := by have := hd.1; omega
   have eb : b = F * y + 1 := by omega
   refine ⟨F * x * y + x + y, ?_⟩
   have : (F * x + 1) * (F * y + 1) = F * (F * x * y + x + y) + 1 := by grind
   rw [hb, ed, eb, this, Nat.add_sub_cancel]
/-- Of a number below F F F: with c1, c2 its digits by F, and c1 c1 - 4 c2 no square, it is prime. -/
theorem prm_cube {N F c1 c2 s : Nat} (hN : 1 < N) (hF : 1 < F) (e : N = 1 + F * c1 + F * F * c2) (h1 : c1 < F) (h2 : c2 + 1 < F)
  (hs : s * s + 4 * c2 < c1 * c1) (hs2 : c1 * c1 < (s + 1) * (s + 1) + 4 * c2)
  (h : ∀ d, Prm d → d ∣ N → F ∣ d - 1) : Prm N := by
 have hall := all_one h
 refine ⟨hN, fun d hd => ?_⟩
 obtain ⟨c, hc⟩ := hd
 have hd0 : 0 < d := by
  rcases d with _ | d
  ·rw [Nat.zero_mul] at hc; omega
  ·omega
 have hc0 : 0 < c := by
  rcases c with _ | c
  ·rw [Nat.mul_zero] at hc; omega
  ·omega
 obtain ⟨x, hx⟩ := hall d hd0 ⟨c, hc⟩
 obtain ⟨y, hy⟩ := hall c hc0 ⟨d, by rw [hc, Nat.mul_comm]⟩
 have ed : d = F * x + 1 := by omega
 have ec : c = F * y + 1 := by omega
 by_cases hx0 : x = 0
 ·left; rw [ed, hx0]; omega
 by_cases hy0 : y = 0
 ·right; rw [hc, ec, hy0]; simp
 exfalso
 have e1 : 1 + F * c1 + F * F * c2 = 1 + F * (x + y) + F * F * (x * y) := by
  rw [← e, hc, ed, ec]
  grind
 have e2 : c1 + F * c2 = (x + y) + F * (x * y) := by
  have : F * (c1 + F * c2) = F * ((x + y) + F * (x * y)) := by
   grind
  exact Nat.eq_of_mul_eq_mul_left (by omega) this
 -- x y is at most c2 + something: bring both below F
 have hxy : x * y ≤ c2 := by
  rcases Nat.lt_or_ge c2 (x * y) with h5 | h5
  ·exfalso
   have : F * (c2 + 1) ≤ F * (x * y) := Nat.mul_le_mul (Nat.le_refl F) h5
   have : F * (c2 + 1) = F * c2 + F := by rw [Nat.mul_add, Nat.mul_one]
   omega
  ·exact h5
 have hsum : x + y ≤ x * y + 1 := by
  obtain ⟨x', rfl⟩ : ∃ k, x = k + 1 := ⟨x - 1, by omega⟩
  obtain ⟨y', rfl⟩ : ∃ k, y = k + 1 := ⟨y - 1, by omega⟩
  have : (x' + 1) * (y' + 1) = x' * y' + x' + y' + 1 := by grind
  omega
 have hxye : x * y = c2 := by
  rcases Nat.lt_or_ge (x * y) c2 with h5 | h5
  ·exfalso
   have : F * (x * y + 1) ≤ F * c2 := Nat.mul_le_mul (Nat.le_refl F) h5
   have : F * (x * y + 1) = F * (x * y) + F := by rw [Nat.mul_add, Nat.mul_one]
   omega
  ·omega
 have hs1 : x + y = c1 := by rw [hxye] at e2; omega
 -- (x - y)^2 = c1 c1 - 4 c2
 rcases Nat.le_total x y with hle | hle
 ·obtain ⟨k, hk⟩ : ∃ k, y = x + k := ⟨y - x, by omega⟩
  have hsq : c1 * c1 = k * k + 4 * c2 := by rw [← hs1, ← hxye, hk]; grind
  have a1 : s * s < k * k := by omega
  have a2 : k * k < (s + 1) * (s + 1) := by omega
  have b1 : s < k := Nat.mul_self_lt_mul_self_iff.mp a1
  have b2 : k < s + 1 := Nat.mul_self_lt_mul_self_iff.mp a2
  omega
 ·obtain ⟨k, hk⟩ : ∃ k, x = y + k := ⟨x - y, by omega⟩
  have hsq : c1 * c1 = k * k + 4 * c2 := by rw [← hs1, ← hxye, hk]; grind
  have a1 : s * s < k * k := by omega
  have a2 : k * k < (s + 1) * (s + 1) := by omega
  have b1 : s < k := Nat.mul_self_lt_mul_self_iff.mp a1
  have b2 : k < s + 1 := Nat.mul_self_lt_mul_self_iff.mp a2
  omega
/-! Powers by squaring, for the kernel. -/
def pm (N : Nat) : Nat → Nat → Nat → Nat → Nat
 | 0, _, _, acc => acc
 | f + 1, b, e, acc => pm N f (b * b % N) (e / 2) (if e % 2 = 1 then acc * b % N else acc)
theorem pm_spec (N : Nat) (f : Nat) : ∀ b e acc, e < 2 ^ f → pm N f b e acc % N = acc * b ^ e % N := by
 induction f with
 | zero =>
  intro b e acc h
  have : e = 0 := by simpa using h
  rw [this, Nat.pow_zero, Nat.mul_one]; rfl
 | succ f ih =>
  intro b e acc h
  show pm N f (b * b % N) (e / 2) (if e % 2 = 1 then acc * b % N else acc) % N = _
  rw [ih _ _ _ (by rw [Nat.pow_succ] at h; omega)]
  have h1 : (b * b % N) ^ (e / 2) % N = b ^ (2 * (e / 2)) % N := by
   rw [← Nat.pow_mod, Nat.pow_mul, Nat.pow_two]
  rw [Nat.mul_mod, h1, ← Nat.mul_mod]
  by_cases he : e % 2 = 1
  ·rw [if_pos he, Nat.mul_mod, Nat.mod_mod, ← Nat.mul_mod, Nat.mul_assoc, ← Nat.pow_add_one']
   have : 2 * (e / 2) + 1 = e := by omega
   rw [this]
  ·rw [if_neg he]
   have : 2 * (e / 2) = e := by omega
   rw [this]
theorem pm_spec2 (N g h b e acc : Nat) (hh : e < 2 ^ g * 2 ^ h) : pm N (g + h) b e acc % N = acc * b ^ e % N :=
 pm_spec N (g + h) b e acc (by rw [Nat.pow_add]; exact hh)
theorem pm_eq {N a e c : Nat} (h : e < 2 ^ 256 * 2 ^ 256 ∧ pm N 512 a e 1 % N = c) : a ^ e % N = c := by
 have := pm_spec2 N 256 256 a e 1 h.1
 rw [Nat.one_mul] at this
 rw [← this]; exact h.2
theorem cop_pm {N a e M : Nat} (h : e < 2 ^ 256 * 2 ^ 256 ∧ Nat.gcd (pm N 512 a e 1 % N + M) N = 1) : Nat.Coprime (a ^ e % N + M) N := by
 have := pm_eq (N := N) (a := a) (e := e) ⟨h.1, rfl⟩
 rw [this]; exact h.2
/-! Trial division. -/
def tr (n : Nat) : Nat → Nat → Bool
 | 0, _ => true
 | f + 1, d => if n % d = 0 then false else tr n f (d + 1)
theorem tr_spec (n : Nat) (f : Nat) : ∀ d, tr n f d = true → ∀ c, d ≤ c → c < d + f → ¬ c ∣ n := by
 induction f with
 | zero => intro d _ c h1 h2; omega
 | succ f ih =>
  intro d h c h1 h2 hc
  unfold tr at h
  by_cases h0 : n % d = 0
  ·rw [if_pos h0] at h; exact absurd h (by decide)
  ·rw [if_neg h0] at h
   by_cases e : c = d
   ·rw [e] at hc; exact h0 (Nat.mod_eq_zero_of_dvd hc)
   ·exact ih (d + 1) h c (by omega) (by omega) hc
theorem prm_trial (n f : Nat) (h1 : 1 < n) (h2 : n < (f + 2) * (f + 2)) (h : n < 4 ∨ tr n f 2 = true) : Prm n := by
 refine ⟨h1, fun d hd => ?_⟩
 obtain ⟨c, hc⟩ := hd
 rcases h with h | h
 ·have hd2 : d = 1 ∨ d = n := by
   have hle := Nat.le_of_dvd (by omega) (⟨c, hc⟩ : d ∣ n)
   have h0 : d ≠ 0 := by
    intro e; rw [e, Nat.zero_mul] at hc; omega
   rcases d with _ | _ | _ | d
   ·exact absurd rfl h0
   ·left; rfl
   ·right
    have : n = 2 ∨ n = 3 := by omega
    rcases this with e | e
    ·omega
    ·omega
   ·right; omega
  exact hd2
 ·have key : ∀ x y, n = x * y → x ≤ y → x = 1 ∨ x = 0 := by
   intro x y e hle
   rcases Nat.lt_or_ge x 2 with g | g
   ·omega
   ·exfalso
    refine tr_spec n f 2 h x g ?_ ⟨y, e⟩
    rcases Nat.lt_or_ge x (2 + f) with g2 | g2
    ·exact g2
    ·exfalso
     have : (f + 2) * (f + 2) ≤ x * y := Nat.mul_le_mul (by omega) (by omega)
     omega
  rcases Nat.le_total d c with hle | hle
  ·rcases key d c hc hle with e | e
   ·exact Or.inl e
   ·rw [e, Nat.zero_mul] at hc; omega
  ·rcases key c d (by rw [hc, Nat.mul_comm]) hle with e | e
   ·right; rw [hc, e, Nat.mul_one]
   ·rw [e, Nat.mul_zero] at hc; omega
theorem pockp {N M F a d : Nat} (qs : List Nat) (hM : N = M + 1) (hF : F ∣ M) (hd : Prm d) (hdN : d ∣ N) (h1 : M < 2 ^ 256 * 2 ^ 256 ∧ pm N 512 a M 1 % N = 1)
  (hc : ∀ t, (∀ q, q ∈ qs → Nat.Coprime q t) → Nat.Coprime F t)
  (hq : ∀ q, q ∈ qs → Prm q ∧ q ∣ M ∧ M / q < 2 ^ 256 * 2 ^ 256 ∧ Nat.gcd (pm N 512 a (M / q) 1 % N + M) N = 1) : F ∣ d - 1 :=
 pock qs hM hF hd hdN (pm_eq h1) hc (fun q h => ⟨(hq q h).1, (hq q h).2.1, cop_pm (hq q h).2.2⟩)
theorem prm_7577 : Prm 7577 := prm_trial 7577 88 (by decide) (by decide) (by decide +kernel)
theorem prm_582767 : Prm 582767 := prm_trial 582767 764 (by decide) (by decide) (by decide +kernel)
theorem fac_9272813673901 : ∀ d, Prm d → d ∣ 9272813673901 → 4415625559 ∣ d - 1 := by
 intro d hd hdN
 refine pockp (N := 9272813673901) (M := 9272813673900) (F := 4415625559) (a := 2) [7577, 582767] (by decide) (by decide +kernel) hd hdN (by decide +kernel) ?_ ?_
 ·intro t h
  have e : 4415625559 = (7577 * 582767) := by decide
  rw [e]
  exact Nat.Coprime.mul_left ((h 7577 (by decide))) ((h 582767 (by decide)))
 ·intro q hq
  simp only [List.mem_cons, List.not_mem_nil, or_false] at hq
  rcases hq with rfl | rfl
  ·exact ⟨prm_7577, by decide +kernel, by decide +kernel⟩
  ·exact ⟨prm_582767, by decide +kernel, by decide +kernel⟩
theorem prm_9272813673901 : Prm 9272813673901 := prm_of (by decide) (by decide) fac_9272813673901
theorem fac_1928745244171409 : ∀ d, Prm d → d ∣ 1928745244171409 → 9272813673901 ∣ d - 1 := by
 intro d hd hdN
 refine pockp (N := 1928745244171409) (M := 1928745244171408) (F := 9272813673901) (a := 2) [9272813673901] (by decide) (by decide +kernel) hd hdN (by decide +kernel) ?_ ?_
 ·intro t h
  have e : 9272813673901 = 9272813673901 := by decide
  rw [e]
  exact (h 9272813673901 (by decide))
 ·intro q hq
  simp only [List.mem_cons, List.not_mem_nil, or_false] at hq
  subst hq
  ·exact ⟨prm_9272813673901, by decide +kernel, by decide +kernel⟩
theorem prm_1928745244171409 : Prm 1928745244171409 := prm_of (by decide) (by decide) fac_1928745244171409
theorem fac_7259797099061183477 : ∀ d, Prm d → d ∣ 7259797099061183477 → 1928745244171409 ∣ d - 1 := by
 intro d hd hdN
 refine pockp (N := 7259797099061183477) (M := 7259797099061183476) (F := 1928745244171409) (a := 2) [1928745244171409] (by decide) (by decide +kernel) hd hdN (by decide +kernel) ?_ ?_
 ·intro t h
  have e : 1928745244171409 = 1928745244171409 := by decide
  rw [e]
  exact (h 1928745244171409 (by decide))
 ·intro q hq
  simp only [List.mem_cons, List.not_mem_nil, or_false] at hq
  subst hq
  ·exact ⟨prm_1928745244171409, by decide +kernel, by decide +kernel⟩
theorem prm_7259797099061183477 : Prm 7259797099061183477 := prm_of (by decide) (by decide) fac_7259797099061183477
theorem fac_2584487767265781317813 : ∀ d, Prm d → d ∣ 2584487767265781317813 → 7259797099061183477 ∣ d - 1 := by
 intro d hd hdN
 refine pockp (N := 2584487767265781317813) (M := 2584487767265781317812) (F := 7259797099061183477) (a := 2) [7259797099061183477] (by decide) (by decide +kernel) hd hdN (by decide +kernel) ?_ ?_
 ·intro t h
  have e : 7259797099061183477 = 7259797099061183477 := by decide
  rw [e]
  exact (h 7259797099061183477 (by decide))
 ·intro q hq
  simp only [List.mem_cons, List.not_mem_nil, or_false] at hq
  subst hq
  ·exact ⟨prm_7259797099061183477, by decide +kernel, by decide +kernel⟩
theorem prm_2584487767265781317813 : Prm 2584487767265781317813 := prm_of (by decide) (by decide) fac_2584487767265781317813
theorem prm_2 : Prm 2 := prm_trial 2 2 (by decide) (by decide) (by decide +kernel)
theorem prm_3 : Prm 3 := prm_trial 3 2 (by decide) (by decide) (by decide +kernel)
theorem prm_11 : Prm 11 := prm_trial 11 4 (by decide) (by decide) (by decide +kernel)
theorem prm_23 : Prm 23 := prm_trial 23 5 (by decide) (by decide) (by decide +kernel)
theorem prm_47 : Prm 47 := prm_trial 47 7 (by decide) (by decide) (by decide +kernel)
theorem prm_10177 : Prm 10177 := prm_trial 10177 101 (by decide) (by decide) (by decide +kernel)
theorem prm_859267 : Prm 859267 := prm_trial 859267 927 (by decide) (by decide) (by decide +kernel)
theorem prm_52437899 : Prm 52437899 := prm_trial 52437899 7242 (by decide) (by decide) (by decide +kernel)
theorem fac_p : ∀ d, Prm d → d ∣ 4002409555221667393417789825735904156556882819939007885332058136124031650490837864442687629129015664037894272559787 → 253663835868735594330404923636534084567099854 ∣ d - 1 := by
 intro d hd hdN
 refine pockp (N := 4002409555221667393417789825735904156556882819939007885332058136124031650490837864442687629129015664037894272559787) (M := 4002409555221667393417789825735904156556882819939007885332058136124031650490837864442687629129015664037894272559786) (F := 253663835868735594330404923636534084567099854) (a := 2) [2, 3, 11, 23, 47, 10177, 859267, 52437899, 2584487767265781317813] (by decide) (by decide +kernel) hd hdN (by decide +kernel) ?_ ?_
 ·intro t h
  have e : 253663835868735594330404923636534084567099854 = (2 * (3 ^ 2 * (11 * (23 * (47 * (10177 * (859267 * (52437899 * 2584487767265781317813)))))))) := by decide
  rw [e]
  exact Nat.Coprime.mul_left ((h 2 (by decide))) (Nat.Coprime.mul_left (Nat.Coprime.pow_left 2 (h 3 (by decide))) (Nat.Coprime.mul_left ((h 11 (by decide))) (Nat.Coprime.mul_left ((h 23 (by decide))) (Nat.Coprime.mul_left ((h 47 (by decide))) (Nat.Coprime.mul_left ((h 10177 (by decide))) (Nat.Coprime.mul_left ((h 859267 (by decide))) (Nat.Coprime.mul_left ((h 52437899 (by decide))) ((h 2584487767265781317813 (by decide))))))))))
 ·intro q hq
  simp only [List.mem_cons, List.not_mem_nil, or_false] at hq
  rcases hq with rfl | rfl | rfl | rfl | rfl | rfl | rfl | rfl | rfl
  ·exact ⟨prm_2, by decide +kernel, by decide +kernel⟩
  ·exact ⟨prm_3, by decide +kernel, by decide +kernel⟩
  ·exact ⟨prm_11, by decide +kernel, by decide +kernel⟩
  ·exact ⟨prm_23, by decide +kernel, by decide +kernel⟩
  ·exact ⟨prm_47, by decide +kernel, by decide +kernel⟩
  ·exact ⟨prm_10177, by decide +kernel, by decide +kernel⟩
  ·exact ⟨prm_859267, by decide +kernel, by decide +kernel⟩
  ·exact ⟨prm_52437899, by decide +kernel, by decide +kernel⟩
  ·exact ⟨prm_2584487767265781317813, by decide +kernel, by decide +kernel⟩
theorem prm_p : Prm 4002409555221667393417789825735904156556882819939007885332058136124031650490837864442687629129015664037894272559787 := prm_cube (F := 253663835868735594330404923636534084567099854) (c1 := 41045055325326579460269857981194636858402675) (c2 := 62202009562450627810769096) (s := 41045055325326579460269857981194636858402674) (by decide) (by decide) (by decide) (by decide) (by decide) (by decide) (by decide) fac_p
end NT
end Go.Proofs.YtahghpkjkfaieaaGreatDoor
end