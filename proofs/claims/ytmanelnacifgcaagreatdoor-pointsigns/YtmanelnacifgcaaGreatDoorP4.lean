/- Texts of the proof, joined. -/
import Derived.Test.YtmanelnacifgcaaGreatDoorP3
set_option maxRecDepth 100000
section
namespace Go.Proofs.YtmanelnacifgcaaGreatDoor
open Go.RowKit
namespace Rg
theorem call61 : CO 61 := by intro args w; go_simp
theorem call134 : CO 134 := by intro args w; go_simp
theorem call146 : CO 146 := by intro args w; go_simp
theorem ex_loadI {ρ : Operand → Value} {o : Oper} {x : Operand} {g off : Nat} {v : Value} {cs : List Value} {w : World} {l : List (Nat × List Value)} (h : Mm w l) (k : Nat) (hk : l[k]? = some (g, cs)) (ho : o.op = .load 3 x) (hx : ρ x = PT g off) (hc : cs[off]? = some v) :
  (execOp ρ o).run Tryz.prog w = .ok (.value v) w := by
 have c0 := h.cell (List.mem_of_getElem? hk) hc
 clear h hk hc
 simp only [execOp, ho, hx]
 go_simp
theorem ex_loadB {ρ : Operand → Value} {o : Oper} {x : Operand} {g off : Nat} {v : Value} {cs : List Value} {w : World} {l : List (Nat × List Value)} (h : Mm w l) (k : Nat) (hk : l[k]? = some (g, cs)) (ho : o.op = .load 4 x) (hx : ρ x = PT g off) (hc : cs[off]? = some v) :
  (execOp ρ o).run Tryz.prog w = .ok (.value v) w := by
 have c0 := h.cell (List.mem_of_getElem? hk) hc
 clear h hk hc
 simp only [execOp, ho, hx]
 go_simp
/-- The table of math/bits. -/
def dtab : List Value := Lib.deBruijn64tab.map fun k => .int .u8 ((k : Nat) : Int)
theorem tab_at {w : World} (h : Mm w [(2, dtab)]) : TabAt 2 Lib.deBruijn64tab w := fun j hj => by
 refine h.get 0 rfl j ?_
 unfold dtab
 rw [List.getElem?_map, List.getElem?_eq_getElem hj, Option.map_some, List.getD_eq_getElem?_getD, List.getElem?_eq_getElem hj, Option.getD_some]
theorem tz_word (x : Nat) (hx : x < 18446744073709551616) (w : World) (ht : Mm w [(2, dtab)]) : Calls Tryz.prog 146 #[.int .u64 x] w (Rt w (.int .i64 (Lib.ctz 64 x))) :=
 (Any7.bits_TrailingZeros64 Tryz.lays29 x hx w (fun _ => tab_at ht)).mono fun _ _ ⟨h1, h2⟩ => ⟨h1, h2 ▸ Below.refl _ _⟩
/-- What stands in memory of a walk. -/
abbrev wkc (o r u v : Nat) (h : Int) (t : Bool) : List Value := [.int .u64 (wd o 0), .int .u64 (wd o 1), .int .u64 (wd o 2), .int .u64 (wd o 3), .int .u64 (wd o 4), .int .u64 (wd o 5), .int .u64 (wd r 0), .int .u64 (wd r 1), .int .u64 (wd r 2), .int .u64 (wd r 3), .int .u64 (wd r 4), .int .u64 (wd r 5), .int .u64 (wd u 0), .int .u64 (wd u 1), .int .u64 (wd u 2), .int .u64 (wd u 3), .int .u64 (wd u 4), .int .u64 (wd u 5), .int .u64 (wd v 0), .int .u64 (wd v 1), .int .u64 (wd v 2), .int .u64 (wd v 3), .int .u64 (wd v 4), .int .u64 (wd v 5), .int .i64 h, .bool t]
theorem trailing_gen (r m c : Nat) (hm6 : m < 6) (hc64 : c ≤ 64) (hz0 : ∀ j, j < m → wd r j = 0) (hm0 : wd r m ≠ 0)
  (c72 : ∀ w, Mm w [(2, dtab)] → Calls Tryz.prog 146 #[.int .u64 (wd r m)] w (Rt w (.int .i64 ((c : Nat) : Int)))) (w : World) (hm : Mm w [(2, dtab)]) :
  Calls Tryz.prog 134 #[N r] w (Rt w (.int .i64 ((64 * m + c : Nat) : Int))) := by
 have H0 : Hid (_ ∧ _) := ⟨hm, Below.refl w.heap.size w⟩
 clear hm
 have C72 : Hid _ := c72
 have HZ : Hid _ := hz0
 have HM : Hid _ := hm0
 clear c72 hz0 hm0
 go_enter Tryz.func134, Tryz.ntmps134
 refine wp_seq ?_
 refine zC 2 [.made (zB r) 24, .q (.int .i64 0)] (sB H0) ?ho1 ?he1
 case ho1 => exact am (zU rfl rfl) (ar trivial)
 intro J w1 l hM hl
 have H1 : Hid (Mm w1 ([(J 0, zB r)] ++ _) ∧ _) := wB H0 hM hl [0]
 have o1_0 := vB H0 hM hl 0
 clear hM hl l
 generalize J 0 = J1_0 at H1 o1_0 ⊢
 clear J
 refine rN (wp_seq (wp_seq ?_))
 refine zD 2 [.q (N r), .q (.int .i64 0)] H1 ?ho2 ?he2
 case ho2 => exact bN 0 (ar trivial)
 intro _ w2 H2
 clear H1
 refine rN (wp_block ?_)
 refine loop_ghost (α := Nat) (fun i a' w' => ∃ s0 : Nat → Value, a' = ⟨#[N r, PT J1_0 0, s0 2, s0 3, s0 4, N r, .int .i64 ((i : Nat) : Int), s0 7, s0 8, s0 9, s0 10, s0 11, s0 12, s0 13, s0 14, s0 15, s0 16, s0 17], []⟩ ∧ (Mm w' [(J1_0, zB r), (2, dtab)] ∧ Below w.heap.size w w') ∧ i ≤ m) (fun i => m - i) 0 ?st0 ?rd0
 case st0 => exact ⟨(slotfn [ud, ud, .int .i64 0, ud, ud, ud, ud, ud, ud, ud, ud, ud, ud, ud, ud, ud, ud, ud]), rfl, ⟨H2.out.1, H2.out.2⟩, by omega⟩
 intro i a' w3 hI
 obtain ⟨s0, rfl, hMB, hk0⟩ := hI
 have H3 : Hid (_ ∧ _) := hMB
 clear hMB H2
 have hi6 : i < 6 := by omega
 by_cases hz : wd r i = 0
 ·have hrd : True := trivial
  clear hrd
  have hz' : wd r i = 0 := hz
  refine wp_seq ?_
  refine zD 1 [.q (.bool true)] H3 ?ho3 ?he3
  case ho3 => exact ak (by refine fun J => ⟨rfl, fun w' h => ?_⟩; clear h; go_simp <;> omega) trivial
  intro _ w4 H4
  clear H3
  refine rN (wp_seq ?_)
  refine wp_cond_true rfl (wp_skip ?_)
  refine zA (wp_seq ?_)
  refine wp_block (wp_seq ?_)
  refine zD 4 [.q (.int .i64 ((i : Nat) : Int)), .q (.int .u64 (wd r i)), .q (.int .i64 ((i : Nat) : Int)), .q (.int .u64 (wd r i))] H4 ?ho4 ?he4
  case ho4 => exact ar (ak (fun J => ⟨rfl, fun w' _ => ex_index6 rfl rfl rfl hi6⟩) (ar (ar trivial)))
  intro _ w5 H5
  clear H4
  refine rN (wp_seq ?_)
  refine zD 2 [.q (.int .u64 (wd r i)), .q (.bool false)] H5 ?ho5 ?he5
  case ho5 => exact ar (ak (by refine fun J => ⟨rfl, fun w' h => ?_⟩; clear h; go_simp <;> omega) trivial)
  intro _ w6 H6
  clear H5
  refine rN (wp_cond_false rfl ?_)
  refine wp_skip (zY (zA ?_))
  refine zD 1 [.q (.int .i64 ((i + 1 : Nat) : Int))] H6 ?ho6 ?he6
  case ho6 => exact ak (by refine fun J => ⟨rfl, fun w' h => ?_⟩; clear h; go_simp; rw [IntKind.wrap_i64]; omega) trivial
  intro _ w7 H7
  clear H6
  refine zH (l := [1]) rfl ?_
  refine zF (d := 6) rfl rfl rfl rfl ?_
  simp only [Act.put, sa, sz, ss]
  refine zE (zA ?_)
  exact ⟨i + 1, ⟨(slotfn [ud, ud, s0 2, .int .i64 ((i : Nat) : Int), .int .u64 (wd r i), ud, ud, .bool true, .int .i64 ((i : Nat) : Int), .int .u64 (wd r i), .int .u64 (wd r i), .bool false, s0 12, s0 13, s0 14, s0 15, s0 16, .int .i64 ((i + 1 : Nat) : Int)]), rfl, ⟨H7.out.1, H7.out.2⟩, by have h1 : i ≠ m := fun e => HM.out (e ▸ hz'); omega⟩, by have h1 : i ≠ m := fun e => HM.out (e ▸ hz'); omega⟩
 ·have hrd : True := trivial
  clear hrd
  have hij : i = m := by
   apply Classical.byContradiction
   intro hne
   exact hz (HZ.out i (by omega))
  subst hij
  refine wp_seq ?_
  refine zD 1 [.q (.bool true)] H3 ?ho7 ?he7
  case ho7 => exact ak (by refine fun J => ⟨rfl, fun w' h => ?_⟩; clear h; go_simp <;> omega) trivial
  intro _ w8 H8
  clear H3
  refine rN (wp_seq ?_)
  refine wp_cond_true rfl (wp_skip ?_)
  refine zA (wp_seq ?_)
  refine wp_block (wp_seq ?_)
  refine zD 4 [.q (.int .i64 ((i : Nat) : Int)), .q (.int .u64 (wd r i)), .q (.int .i64 ((i : Nat) : Int)), .q (.int .u64 (wd r i))] H8 ?ho8 ?he8
  case ho8 => exact ar (ak (fun J => ⟨rfl, fun w' _ => ex_index6 rfl rfl rfl hi6⟩) (ar (ar trivial)))
  intro _ w9 H9
  clear H8
  refine rN (wp_seq ?_)
  refine zD 2 [.q (.int .u64 (wd r i)), .q (.bool true)] H9 ?ho9 ?he9
  case ho9 => exact ar (ak (by refine fun J => ⟨rfl, fun w' h => ?_⟩; clear h; go_simp <;> omega) trivial)
  intro _ w10 H10
  clear H9
  refine rN (wp_cond_true rfl (wp_seq ?_))
  refine zD 6 [.q (.int .i64 ((i : Nat) : Int)), .q (.int .i64 ((64 * i : Nat) : Int)), .q (.int .u64 (wd r i)), .call (.int .i64 ((c : Nat) : Int)), .q (.int .i64 ((64 * i + c : Nat) : Int)), .q (.int .i64 ((64 * i + c : Nat) : Int))] H10 ?ho10 ?he10
  case ho10 => exact ar (ak (by refine fun J => ⟨rfl, fun w' h => ?_⟩; clear h; go_simp; rw [IntKind.wrap_i64]; omega) (ar (ac (fun w' h => eC call146 (C72.out w' (h.one 1 rfl))) (ak (by refine fun J => ⟨rfl, fun w' h => ?_⟩; clear h; go_simp; rw [IntKind.wrap_i64]; omega) (ar trivial)))))
  intro _ w11 H11
  clear H10
  refine rN (wp_ret ?_)
  repeat (first | refine zJ ?_ | refine zI ?_)
  refine bodyPost_ret (v := .int .i64 ((64 * i + c : Nat) : Int)) (by simp [results, Tryz.results134, go_sem, *]) rfl ?_
  exact ⟨rfl, H11.out.2⟩
theorem halve_gen (g o r u v k r' u' : Nat) (h : Int) (t : Bool) (hk : k < 384) (h0 : 0 ≤ h) (h1 : h < 10000)
  (c66 : ∀ w, Mm w [(2, dtab)] → Calls Tryz.prog 134 #[N r] w (Rt w (.int .i64 ((k : Nat) : Int))))
  (c53 : ∀ w, Calls Tryz.prog 61 #[N r, .int .i64 (-((k : Nat) : Int))] w (Rt w (N r')))
  (d53 : ∀ w, Calls Tryz.prog 61 #[N u, .int .i64 ((k : Nat) : Int)] w (Rt w (N u'))) (w : World) (hm : Mm w [(g, wkc o r u v h t), (2, dtab)]) :
  Calls Tryz.prog 106 #[PT g 0] w fun e w' => e = .returned (.tuple #[]) ∧ Mm w' [(g, wkc o r' u' v (h + ((k : Nat) : Int)) t)] ∧ Kp g w w' := by
 have H0 : Hid (_ ∧ _) := ⟨hm, Kp.refl g w⟩
 clear hm
 have C66 : Hid _ := c66
 have C53 : Hid _ := c53
 have D53 : Hid _ := d53
 clear c66 c53 d53
 go_enter Tryz.func106, Tryz.ntmps106
 refine wp_seq ?_
 refine zC 6 [.q (PT g 0), .q (PT g 0), .q (PT g 6), .q (N r), .call (.int .i64 ((k : Nat) : Int)), .q (.int .i64 ((k : Nat) : Int))] (sB H0) ?ho1 ?he1
 case ho1 => exact ar (ak (by refine fun J => ⟨rfl, fun w' hh => ?_⟩; clear hh; go_simp) (ak (by refine fun J => ⟨rfl, fun w' hh => ?_⟩; clear hh; go_simp) (ak (fun J => ⟨rfl, fun w' hh => ex_load6 hh 0 rfl rfl rfl rfl⟩) (ak (fun J => ⟨rfl, fun w' hh => eC call134 (C66.out w' (hh.one 1 rfl))⟩) (ar trivial)))))
 intro J w1 l hM hl
 have H1 := keepK H0 hM.below
 clear hM hl l J
 refine rN (wp_seq ?_)
 refine zC 10 [.q (PT g 0), .q (PT g 0), .q (PT g 0), .q (PT g 6), .q (N r), .q (.int .i64 ((k : Nat) : Int)), .q (.int .i64 (-((k : Nat) : Int))), .call (N r'), .q (PT g 0), .q (PT g 6)] (sB H1) ?ho2 ?he2
 case ho2 => exact ar (ar (ak (by refine fun J => ⟨rfl, fun w' hh => ?_⟩; clear hh; go_simp) (ak (by refine fun J => ⟨rfl, fun w' hh => ?_⟩; clear hh; go_simp) (ak (fun J => ⟨rfl, fun w' hh => ex_load6 hh 0 rfl rfl rfl rfl⟩) (ar (ak (by refine fun J => ⟨rfl, fun w' hh => ?_⟩; clear hh; go_simp; rw [IntKind.wrap_i64]; omega) (ak (fun J => ⟨rfl, fun w' hh => eC call61 (C53.out w')⟩) (ak (by refine fun J => ⟨rfl, fun w' hh => ?_⟩; clear hh; go_simp) (ak (by refine fun J => ⟨rfl, fun w' hh => ?_⟩; clear hh; go_simp) trivial)))))))))
 intro J w2 l hM hl
 have H2 := keepK H1 hM.below
 clear hM hl l H1 J
 refine zH (l := [10]) rfl ?_
 refine sH rfl (fun h => zL h 0 rfl rfl rfl rfl (Nat.le_of_ble_eq_true rfl)) 0 [(_, wkc o r' u v h t), _] H2 (Or.inl rfl) fun w3 H3 => ?_
 clear H2
 refine zE (zA (wp_seq ?_))
 refine zC 9 [.q (PT g 0), .q (PT g 0), .q (PT g 0), .q (PT g 12), .q (N u), .q (.int .i64 ((k : Nat) : Int)), .call (N u'), .q (PT g 0), .q (PT g 12)] (sB H3) ?ho3 ?he3
 case ho3 => exact ar (ar (ak (by refine fun J => ⟨rfl, fun w' hh => ?_⟩; clear hh; go_simp) (ak (by refine fun J => ⟨rfl, fun w' hh => ?_⟩; clear hh; go_simp) (ak (fun J => ⟨rfl, fun w' hh => ex_load6 hh 0 rfl rfl rfl rfl⟩) (ar (ak (fun J => ⟨rfl, fun w' hh => eC call61 (D53.out w')⟩) (ak (by refine fun J => ⟨rfl, fun w' hh => ?_⟩; clear hh; go_simp) (ak (by refine fun J => ⟨rfl, fun w' hh => ?_⟩; clear hh; go_simp) trivial))))))))
 intro J w4 l hM hl
 have H4 := keepK H3 hM.below
 clear hM hl l H3 J
 refine zH (l := [9]) rfl ?_
 refine sH rfl (fun h => zL h 0 rfl rfl rfl rfl (Nat.le_of_ble_eq_true rfl)) 0 [(_, wkc o r' u' v h t), _] H4 (Or.inl rfl) fun w5 H5 => ?_
 clear H4
 refine zE (zA ?_)
 refine zC 8 [.q (PT g 0), .q (PT g 0), .q (PT g 24), .q (.int .i64 h), .q (.int .i64 ((k : Nat) : Int)), .q (.int .i64 (h + ((k : Nat) : Int))), .q (PT g 0), .q (PT g 24)] (sB H5) ?ho4 ?he4
 case ho4 => exact ar (ak (by refine fun J => ⟨rfl, fun w' hh => ?_⟩; clear hh; go_simp) (ak (by refine fun J => ⟨rfl, fun w' hh => ?_⟩; clear hh; go_simp) (ak (fun J => ⟨rfl, fun w' hh => ex_loadI hh 0 rfl rfl rfl rfl⟩) (ar (ak (by refine fun J => ⟨rfl, fun w' hh => ?_⟩; clear hh; go_simp; rw [IntKind.wrap_i64]; omega) (ak (by refine fun J => ⟨rfl, fun w' hh => ?_⟩; clear hh; go_simp) (ak (by refine fun J => ⟨rfl, fun w' hh => ?_⟩; clear hh; go_simp) trivial)))))))
 intro J w6 l hM hl
 have H6 := keepK H5 hM.below
 clear hM hl l H5 J
 refine zH (l := [8]) rfl ?_
 refine sH rfl (fun h => ex_storeI h 0 rfl rfl Tryz.sizeOf3 rfl rfl (Nat.le_of_ble_eq_true rfl)) 0 [(_, wkc o r' u' v (h + ((k : Nat) : Int)) t), _] H6 (Or.inl rfl) fun w7 H7 => ?_
 clear H6
 refine zE ?_
 refine bodyPost_end (v := .tuple #[]) (by simp [results, Tryz.results106, go_sem]) rfl ?_
 exact ⟨rfl, H7.out.1.one 0 rfl, H7.out.2⟩
theorem subtract_1 (g o r u v x y : Nat) (h : Int) (t : Bool)
  (c31 : ∀ w, Calls Tryz.prog 38 #[N r, N o] w (Rt w (.int .i64 (-1))))
  (c40 : ∀ w, Calls Tryz.prog 39 #[N o, N r] w (Rt w (.tuple #[N x, .bool false])))
  (c45 : ∀ w, Calls Tryz.prog 21 #[N u, N v] w (Rt w (.tuple #[N y, .bool false]))) (w : World) (hm : Mm w [(g, wkc o r u v h t)]) :
  Calls Tryz.prog 107 #[PT g 0] w fun e w' => e = .returned (.tuple #[]) ∧ Mm w' [(g, wkc r x v y h (!t))] ∧ Kp g w w' := by
 have H0 : Hid (_ ∧ _) := ⟨hm, Kp.refl g w⟩
 clear hm
 have C31 : Hid _ := c31
 have C40 : Hid _ := c40
 have C45 : Hid _ := c45
 clear c31 c40 c45
 go_enter Tryz.func107, Tryz.ntmps107
 refine wp_seq (wp_seq ?_)
 refine zP 10 [.q (PT g 0), .q (PT g 0), .q (PT g 6), .q (N r), .q (PT g 0), .q (PT g 0), .q (PT g 0), .q (N o), .call (.int .i64 (-1)), .q (.bool true)] (sB H0) ?ho1 ?he1
 case ho1 => exact ar (ak (by refine fun J => ⟨rfl, fun w' hh => ?_⟩; clear hh; go_simp) (ak (by refine fun J => ⟨rfl, fun w' hh => ?_⟩; clear hh; go_simp) (ak (fun J => ⟨rfl, fun w' hh => ex_load6 hh 0 rfl rfl rfl rfl⟩) (ar (ak (by refine fun J => ⟨rfl, fun w' hh => ?_⟩; clear hh; go_simp) (ak (by refine fun J => ⟨rfl, fun w' hh => ?_⟩; clear hh; go_simp) (ak (fun J => ⟨rfl, fun w' hh => ex_load6 hh 0 rfl rfl rfl rfl⟩) (ak (fun J => ⟨rfl, fun w' hh => eC call38 (C31.out w')⟩) (ak (by refine fun J => ⟨rfl, fun w' hh => ?_⟩; clear hh; go_simp) trivial)))))))))
 intro J w1 l hM hl
 have H1 := keepK H0 hM.below
 clear hM hl l J
 refine rN (wp_cond_true rfl (wp_seq ?_))
 refine walk_put (by kernel_rfl) 12 [1] [.q (PT g 0), .q (PT g 0), .q (PT g 0), .q (PT g 0), .q (PT g 6), .q (N r), .q (PT g 0), .q (PT g 0), .q (PT g 0), .q (N o), .q (PT g 0), .q (PT g 0)] _ ?pre2 ?F2 _ ?hpre2 (fun J => ?hF2) (by kernel_rfl) rfl trivial (sB H1) ?ho2 ?hla2 ?he2
 case hpre2 => simp only [tk, tz]; rfl
 case hF2 => simp only [zZ, Kind.val, Act.put, sa, sz, ss]; rfl
 case ho2 =>
  refine ar ?_
  refine ar ?_
  refine ar ?_
  refine ak (by refine fun J => ⟨rfl, fun w' hh => ?_⟩; clear hh; go_simp) ?_
  refine ak (by refine fun J => ⟨rfl, fun w' hh => ?_⟩; clear hh; go_simp) ?_
  refine ak (fun J => ⟨rfl, fun w' hh => ex_load6 hh 0 rfl rfl rfl rfl⟩) ?_
  refine ar ?_
  refine ak (by refine fun J => ⟨rfl, fun w' hh => ?_⟩; clear hh; go_simp) ?_
  refine ak (by refine fun J => ⟨rfl, fun w' hh => ?_⟩; clear hh; go_simp) ?_
  refine ak (fun J => ⟨rfl, fun w' hh => ex_load6 hh 0 rfl rfl rfl rfl⟩) ?_
  refine ak (by refine fun J => ⟨rfl, fun w' hh => ?_⟩; clear hh; go_simp) ?_
  refine ak (by refine fun J => ⟨rfl, fun w' hh => ?_⟩; clear hh; go_simp) ?_
  exact trivial
 case hla2 => exact ⟨⟨_, _, rfl, rfl, fun J => ⟨rfl, fun w' => by first | rfl | go_simp⟩⟩, trivial⟩
 intro J w2 l hM hl
 have H2 := keepK H1 hM.below
 clear hM hl l H1 J
 refine ⟨_, zL H2.out.1 0 rfl rfl rfl rfl (Nat.le_of_ble_eq_true rfl), ?_⟩
 have H3 : Hid (Mm (w2.setCells g 0 (zB r)) [(g, wkc r r u v h t)] ∧ Kp g w (w2.setCells g 0 (zB r))) := ⟨H2.out.1.put 0 (off := 0) (vs := zB r) rfl (Nat.le_of_ble_eq_true rfl), H2.out.2.put (Or.inl rfl)⟩
 clear H2
 generalize hgw : World.setCells _ _ _ _ = w3 at H3 ⊢
 clear hgw
 refine zH (l := [13, 14, 15]) rfl ?_
 refine zF (d := 24) (v := PT g 0) (w' := w3) rfl rfl rfl (by go_simp) ?_
 simp only [Act.put, sa, sz, ss]
 refine zF (d := 25) (v := PT g 6) (w' := w3) rfl rfl rfl (by go_simp) ?_
 simp only [Act.put, sa, sz, ss]
 refine sH rfl (fun h => zL h 0 rfl rfl rfl rfl (Nat.le_of_ble_eq_true rfl)) 0 [(_, wkc r o u v h t)] H3 (Or.inl rfl) fun w4 H4 => ?_
 clear H3
 refine zE (zA (wp_seq ?_))
 refine walk_put (by kernel_rfl) 12 [1] [.q (PT g 0), .q (PT g 0), .q (PT g 0), .q (PT g 0), .q (PT g 18), .q (N v), .q (PT g 0), .q (PT g 0), .q (PT g 12), .q (N u), .q (PT g 0), .q (PT g 12)] _ ?pre3 ?F3 _ ?hpre3 (fun J => ?hF3) (by kernel_rfl) rfl trivial (sB H4) ?ho3 ?hla3 ?he3
 case hpre3 => simp only [tk, tz]; rfl
 case hF3 => simp only [zZ, Kind.val, Act.put, sa, sz, ss]; rfl
 case ho3 =>
  refine ar ?_
  refine ar ?_
  refine ar ?_
  refine ak (by refine fun J => ⟨rfl, fun w' hh => ?_⟩; clear hh; go_simp) ?_
  refine ak (by refine fun J => ⟨rfl, fun w' hh => ?_⟩; clear hh; go_simp) ?_
  refine ak (fun J => ⟨rfl, fun w' hh => ex_load6 hh 0 rfl rfl rfl rfl⟩) ?_
  refine ar ?_
  refine ak (by refine fun J => ⟨rfl, fun w' hh => ?_⟩; clear hh; go_simp) ?_
  refine ak (by refine fun J => ⟨rfl, fun w' hh => ?_⟩; clear hh; go_simp) ?_
  refine ak (fun J => ⟨rfl, fun w' hh => ex_load6 hh 0 rfl rfl rfl rfl⟩) ?_
  refine ak (by refine fun J => ⟨rfl, fun w' hh => ?_⟩; clear hh; go_simp) ?_
  refine ak (by refine fun J => ⟨rfl, fun w' hh => ?_⟩; clear hh; go_simp) ?_
  exact trivial
 case hla3 => exact ⟨⟨_, _, rfl, rfl, fun J => ⟨rfl, fun w' => by first | rfl | go_simp⟩⟩, trivial⟩
 intro J w5 l hM hl
 have H5 := keepK H4 hM.below
 clear hM hl l H4 J
 refine ⟨_, zL H5.out.1 0 rfl rfl rfl rfl (Nat.le_of_ble_eq_true rfl), ?_⟩
 have H6 : Hid (Mm (w5.setCells g 12 (zB v)) [(g, wkc r o v v h t)] ∧ Kp g w (w5.setCells g 12 (zB v))) := ⟨H5.out.1.put 0 (off := 12) (vs := zB v) rfl (Nat.le_of_ble_eq_true rfl), H5.out.2.put (Or.inl rfl)⟩
 clear H5
 generalize hgw : World.setCells _ _ _ _ = w6 at H6 ⊢
 clear hgw
 refine zH (l := [13, 14, 15]) rfl ?_
 refine zF (d := 38) (v := PT g 0) (w' := w6) rfl rfl rfl (by go_simp) ?_
 simp only [Act.put, sa, sz, ss]
 refine zF (d := 39) (v := PT g 18) (w' := w6) rfl rfl rfl (by go_simp) ?_
 simp only [Act.put, sa, sz, ss]
 refine sH rfl (fun h => zL h 0 rfl rfl rfl rfl (Nat.le_of_ble_eq_true rfl)) 0 [(_, wkc r o v u h t)] H6 (Or.inl rfl) fun w7 H7 => ?_
 clear H6
 refine zE (zA ?_)
 refine zC 8 [.q (PT g 0), .q (PT g 0), .q (PT g 0), .q (PT g 25), .q (.bool t), .q (.bool (!t)), .q (PT g 0), .q (PT g 25)] (sB H7) ?ho4 ?he4
 case ho4 => exact ar (ar (ak (by refine fun J => ⟨rfl, fun w' hh => ?_⟩; clear hh; go_simp) (ak (by refine fun J => ⟨rfl, fun w' hh => ?_⟩; clear hh; go_simp) (ak (fun J => ⟨rfl, fun w' hh => ex_loadB hh 0 rfl rfl rfl rfl⟩) (ak (by refine fun J => ⟨rfl, fun w' hh => ?_⟩; clear hh; go_simp) (ak (by refine fun J => ⟨rfl, fun w' hh => ?_⟩; clear hh; go_simp) (ak (by refine fun J => ⟨rfl, fun w' hh => ?_⟩; clear hh; go_simp) trivial)))))))
 intro J w8 l hM hl
 have H8 := keepK H7 hM.below
 clear hM hl l H7 J
 refine zH (l := [8]) rfl ?_
 refine sH rfl (fun h => ex_storeB h 0 rfl rfl Tryz.sizeOf4 rfl rfl (Nat.le_of_ble_eq_true rfl)) 0 [(_, wkc r o v u h (!t))] H8 (Or.inl rfl) fun w9 H9 => ?_
 clear H8
 refine zE (zA (wp_seq ?_))
 refine walk_put (by kernel_rfl) 15 [12] [.q (PT g 0), .q (PT g 0), .q (PT g 0), .q (PT g 6), .q (N o), .q (PT g 0), .q (PT g 0), .q (PT g 0), .q (N r), .call (.tuple #[N x, .bool false]), .q (.tuple #[N x, .bool false]), .q (N x), .q (.bool false), .q (PT g 0), .q (PT g 6)] _ ?pre5 ?F5 _ ?hpre5 (fun J => ?hF5) (by kernel_rfl) rfl trivial (sB H9) ?ho5 ?hla5 ?he5
 case hpre5 => simp only [tk, tz]; rfl
 case hF5 => simp only [zZ, Kind.val, Act.put, sa, sz, ss]; rfl
 case ho5 =>
  refine ar ?_
  refine ar ?_
  refine ak (by refine fun J => ⟨rfl, fun w' hh => ?_⟩; clear hh; go_simp) ?_
  refine ak (by refine fun J => ⟨rfl, fun w' hh => ?_⟩; clear hh; go_simp) ?_
  refine ak (fun J => ⟨rfl, fun w' hh => ex_load6 hh 0 rfl rfl rfl rfl⟩) ?_
  refine ar ?_
  refine ak (by refine fun J => ⟨rfl, fun w' hh => ?_⟩; clear hh; go_simp) ?_
  refine ak (by refine fun J => ⟨rfl, fun w' hh => ?_⟩; clear hh; go_simp) ?_
  refine ak (fun J => ⟨rfl, fun w' hh => ex_load6 hh 0 rfl rfl rfl rfl⟩) ?_
  refine ak (fun J => ⟨rfl, fun w' hh => eC call39 (C40.out w')⟩) ?_
  refine ar ?_
  refine ak (by refine fun J => ⟨rfl, fun w' hh => ?_⟩; clear hh; go_simp) ?_
  refine ak (by refine fun J => ⟨rfl, fun w' hh => ?_⟩; clear hh; go_simp) ?_
  refine ak (by refine fun J => ⟨rfl, fun w' hh => ?_⟩; clear hh; go_simp) ?_
  refine ak (by refine fun J => ⟨rfl, fun w' hh => ?_⟩; clear hh; go_simp) ?_
  exact trivial
 case hla5 => exact ⟨⟨_, _, rfl, rfl, fun J => ⟨rfl, fun w' => by first | rfl | go_simp⟩⟩, trivial⟩
 intro J w10 l hM hl
 have H10 := keepK H9 hM.below
 clear hM hl l H9 J
 refine ⟨_, zL H10.out.1 0 rfl rfl rfl rfl (Nat.le_of_ble_eq_true rfl), ?_⟩
 have H11 : Hid (Mm (w10.setCells g 6 (zB x)) [(g, wkc r x v u h (!t))] ∧ Kp g w (w10.setCells g 6 (zB x))) := ⟨H10.out.1.put 0 (off := 6) (vs := zB x) rfl (Nat.le_of_ble_eq_true rfl), H10.out.2.put (Or.inl rfl)⟩
 clear H10
 generalize hgw : World.setCells _ _ _ _ = w11 at H11 ⊢
 clear hgw
 refine rN ?_
 refine walk_put (by kernel_rfl) 15 [12] [.q (PT g 0), .q (PT g 0), .q (PT g 0), .q (PT g 18), .q (N u), .q (PT g 0), .q (PT g 0), .q (PT g 12), .q (N v), .call (.tuple #[N y, .bool false]), .q (.tuple #[N y, .bool false]), .q (N y), .q (.bool false), .q (PT g 0), .q (PT g 18)] _ ?pre6 ?F6 _ ?hpre6 (fun J => ?hF6) (by kernel_rfl) rfl trivial (sB H11) ?ho6 ?hla6 ?he6
 case hpre6 => simp only [tk, tz]; rfl
 case hF6 => simp only [zZ, Kind.val, Act.put, sa, sz, ss]; rfl
 case ho6 =>
  refine ar ?_
  refine ar ?_
  refine ak (by refine fun J => ⟨rfl, fun w' hh => ?_⟩; clear hh; go_simp) ?_
  refine ak (by refine fun J => ⟨rfl, fun w' hh => ?_⟩; clear hh; go_simp) ?_
  refine ak (fun J => ⟨rfl, fun w' hh => ex_load6 hh 0 rfl rfl rfl rfl⟩) ?_
  refine ar ?_
  refine ak (by refine fun J => ⟨rfl, fun w' hh => ?_⟩; clear hh; go_simp) ?_
  refine ak (by refine fun J => ⟨rfl, fun w' hh => ?_⟩; clear hh; go_simp) ?_
  refine ak (fun J => ⟨rfl, fun w' hh => ex_load6 hh 0 rfl rfl rfl rfl⟩) ?_
  refine ak (fun J => ⟨rfl, fun w' hh => eC call21 (C45.out w')⟩) ?_
  refine ar ?_
  refine ak (by refine fun J => ⟨rfl, fun w' hh => ?_⟩; clear hh; go_simp) ?_
  refine ak (by refine fun J => ⟨rfl, fun w' hh => ?_⟩; clear hh; go_simp) ?_
  refine ak (by refine fun J => ⟨rfl, fun w' hh => ?_⟩; clear hh; go_simp) ?_
  refine ak (by refine fun J => ⟨rfl, fun w' hh => ?_⟩; clear hh; go_simp) ?_
  exact trivial
 case hla6 => exact ⟨⟨_, _, rfl, rfl, fun J => ⟨rfl, fun w' => by first | rfl | go_simp⟩⟩, trivial⟩
 intro J w12 l hM hl
 have H12 := keepK H11 hM.below
 clear hM hl l H11 J
 refine ⟨_, zL H12.out.1 0 rfl rfl rfl rfl (Nat.le_of_ble_eq_true rfl), ?_⟩
 have H13 : Hid (Mm (w12.setCells g 18 (zB y)) [(g, wkc r x v y h (!t))] ∧ Kp g w (w12.setCells g 18 (zB y))) := ⟨H12.out.1.put 0 (off := 18) (vs := zB y) rfl (Nat.le_of_ble_eq_true rfl), H12.out.2.put (Or.inl rfl)⟩
 clear H12
 generalize hgw : World.setCells _ _ _ _ = w13 at H13 ⊢
 clear hgw
 refine rest0 rfl ?_
 refine bodyPost_end (v := .tuple #[]) (by simp [results, Tryz.results107, go_sem]) rfl ?_
 exact ⟨rfl, H13.out.1.one 0 rfl, H13.out.2⟩
theorem subtract_2 (g o r u v x y : Nat) (h : Int) (t : Bool) (c : Int) (hc : ¬ c < 0)
  (c31 : ∀ w, Calls Tryz.prog 38 #[N r, N o] w (Rt w (.int .i64 c)))
  (c40 : ∀ w, Calls Tryz.prog 39 #[N r, N o] w (Rt w (.tuple #[N x, .bool false])))
  (c45 : ∀ w, Calls Tryz.prog 21 #[N v, N u] w (Rt w (.tuple #[N y, .bool false]))) (w : World) (hm : Mm w [(g, wkc o r u v h t)]) :
  Calls Tryz.prog 107 #[PT g 0] w fun e w' => e = .returned (.tuple #[]) ∧ Mm w' [(g, wkc o x u y h t)] ∧ Kp g w w' := by
 have H0 : Hid (_ ∧ _) := ⟨hm, Kp.refl g w⟩
 clear hm
 have C31 : Hid _ := c31
 have C40 : Hid _ := c40
 have C45 : Hid _ := c45
 clear c31 c40 c45
 go_enter Tryz.func107, Tryz.ntmps107
 refine wp_seq (wp_seq ?_)
 refine zP 10 [.q (PT g 0), .q (PT g 0), .q (PT g 6), .q (N r), .q (PT g 0), .q (PT g 0), .q (PT g 0), .q (N o), .call (.int .i64 c), .q (.bool false)] (sB H0) ?ho1 ?he1
 case ho1 => exact ar (ak (by refine fun J => ⟨rfl, fun w' hh => ?_⟩; clear hh; go_simp) (ak (by refine fun J => ⟨rfl, fun w' hh => ?_⟩; clear hh; go_simp) (ak (fun J => ⟨rfl, fun w' hh => ex_load6 hh 0 rfl rfl rfl rfl⟩) (ar (ak (by refine fun J => ⟨rfl, fun w' hh => ?_⟩; clear hh; go_simp) (ak (by refine fun J => ⟨rfl, fun w' hh => ?_⟩; clear hh; go_simp) (ak (fun J => ⟨rfl, fun w' hh => ex_load6 hh 0 rfl rfl rfl rfl⟩) (ak (fun J => ⟨rfl, fun w' hh => eC call38 (C31.out w')⟩) (ak (by refine fun J => ⟨rfl, fun w' hh => ?_⟩; clear hh; go_simp) trivial)))))))))
 intro J w1 l hM hl
 have H1 := keepK H0 hM.below
 clear hM hl l J
 refine rN (wp_cond_false rfl ?_)
 refine wp_skip (zA (wp_seq ?_))
 refine walk_put (by kernel_rfl) 15 [12] [.q (PT g 0), .q (PT g 0), .q (PT g 0), .q (PT g 6), .q (N r), .q (PT g 0), .q (PT g 0), .q (PT g 0), .q (N o), .call (.tuple #[N x, .bool false]), .q (.tuple #[N x, .bool false]), .q (N x), .q (.bool false), .q (PT g 0), .q (PT g 6)] _ ?pre2 ?F2 _ ?hpre2 (fun J => ?hF2) (by kernel_rfl) rfl trivial (sB H1) ?ho2 ?hla2 ?he2
 case hpre2 => simp only [tk, tz]; rfl
 case hF2 => simp only [zZ, Kind.val, Act.put, sa, sz, ss]; rfl
 case ho2 =>
  refine ar ?_
  refine ar ?_
  refine ak (by refine fun J => ⟨rfl, fun w' hh => ?_⟩; clear hh; go_simp) ?_
  refine ak (by refine fun J => ⟨rfl, fun w' hh => ?_⟩; clear hh; go_simp) ?_
  refine ak (fun J => ⟨rfl, fun w' hh => ex_load6 hh 0 rfl rfl rfl rfl⟩) ?_
  refine ar ?_
  refine ak (by refine fun J => ⟨rfl, fun w' hh => ?_⟩; clear hh; go_simp) ?_
  refine ak (by refine fun J => ⟨rfl, fun w' hh => ?_⟩; clear hh; go_simp) ?_
  refine ak (fun J => ⟨rfl, fun w' hh => ex_load6 hh 0 rfl rfl rfl rfl⟩) ?_
  refine ak (fun J => ⟨rfl, fun w' hh => eC call39 (C40.out w')⟩) ?_
  refine ar ?_
  refine ak (by refine fun J => ⟨rfl, fun w' hh => ?_⟩; clear hh; go_simp) ?_
  refine ak (by refine fun J => ⟨rfl, fun w' hh => ?_⟩; clear hh; go_simp) ?_
  refine ak (by refine fun J => ⟨rfl, fun w' hh => ?_⟩; clear hh; go_simp) ?_
  refine ak (by refine fun J => ⟨rfl, fun w' hh => ?_⟩; clear hh; go_simp) ?_
  exact trivial
 case hla2 => exact ⟨⟨_, _, rfl, rfl, fun J => ⟨rfl, fun w' => by first | rfl | go_simp⟩⟩, trivial⟩
 intro J w2 l hM hl
 have H2 := keepK H1 hM.below
 clear hM hl l H1 J
 refine ⟨_, zL H2.out.1 0 rfl rfl rfl rfl (Nat.le_of_ble_eq_true rfl), ?_⟩
 have H3 : Hid (Mm (w2.setCells g 6 (zB x)) [(g, wkc o x u v h t)] ∧ Kp g w (w2.setCells g 6 (zB x))) := ⟨H2.out.1.put 0 (off := 6) (vs := zB x) rfl (Nat.le_of_ble_eq_true rfl), H2.out.2.put (Or.inl rfl)⟩
 clear H2
 generalize hgw : World.setCells _ _ _ _ = w3 at H3 ⊢
 clear hgw
 refine rN ?_
 refine walk_put (by kernel_rfl) 15 [12] [.q (PT g 0), .q (PT g 0), .q (PT g 0), .q (PT g 18), .q (N v), .q (PT g 0), .q (PT g 0), .q (PT g 12), .q (N u), .call (.tuple #[N y, .bool false]), .q (.tuple #[N y, .bool false]), .q (N y), .q (.bool false), .q (PT g 0), .q (PT g 18)] _ ?pre3 ?F3 _ ?hpre3 (fun J => ?hF3) (by kernel_rfl) rfl trivial (sB H3) ?ho3 ?hla3 ?he3
 case hpre3 => simp only [tk, tz]; rfl
 case hF3 => simp only [zZ, Kind.val, Act.put, sa, sz, ss]; rfl
 case ho3 =>
  refine ar ?_
  refine ar ?_
  refine ak (by refine fun J => ⟨rfl, fun w' hh => ?_⟩; clear hh; go_simp) ?_
  refine ak (by refine fun J => ⟨rfl, fun w' hh => ?_⟩; clear hh; go_simp) ?_
  refine ak (fun J => ⟨rfl, fun w' hh => ex_load6 hh 0 rfl rfl rfl rfl⟩) ?_
  refine ar ?_
  refine ak (by refine fun J => ⟨rfl, fun w' hh => ?_⟩; clear hh; go_simp) ?_
  refine ak (by refine fun J => ⟨rfl, fun w' hh => ?_⟩; clear hh; go_simp) ?_
  refine ak (fun J => ⟨rfl, fun w' hh => ex_load6 hh 0 rfl rfl rfl rfl⟩) ?_
  refine ak (fun J => ⟨rfl, fun w' hh => eC call21 (C45.out w')⟩) ?_
  refine ar ?_
  refine ak (by refine fun J => ⟨rfl, fun w' hh => ?_⟩; clear hh; go_simp) ?_
  refine ak (by refine fun J => ⟨rfl, fun w' hh => ?_⟩; clear hh; go_simp) ?_
  refine ak (by refine fun J => ⟨rfl, fun w' hh => ?_⟩; clear hh; go_simp) ?_
  refine ak (by refine fun J => ⟨rfl, fun w' hh => ?_⟩; clear hh; go_simp) ?_
  exact trivial
 case hla3 => exact ⟨⟨_, _, rfl, rfl, fun J => ⟨rfl, fun w' => by first | rfl | go_simp⟩⟩, trivial⟩
 intro J w4 l hM hl
 have H4 := keepK H3 hM.below
 clear hM hl l H3 J
 refine ⟨_, zL H4.out.1 0 rfl rfl rfl rfl (Nat.le_of_ble_eq_true rfl), ?_⟩
 have H5 : Hid (Mm (w4.setCells g 18 (zB y)) [(g, wkc o x u y h t)] ∧ Kp g w (w4.setCells g 18 (zB y))) := ⟨H4.out.1.put 0 (off := 18) (vs := zB y) rfl (Nat.le_of_ble_eq_true rfl), H4.out.2.put (Or.inl rfl)⟩
 clear H4
 generalize hgw : World.setCells _ _ _ _ = w5 at H5 ⊢
 clear hgw
 refine rest0 rfl ?_
 refine bodyPost_end (v := .tuple #[]) (by simp [results, Tryz.results107, go_sem]) rfl ?_
 exact ⟨rfl, H5.out.1.one 0 rfl, H5.out.2⟩
structure WS where
 o : Nat
 r : Nat
 u : Nat
 v : Nat
 h : Nat
 t : Bool
/-- What is known at each round's beginning. -/
structure WI (n a : Nat) (z : WS) : Prop where
 odd : z.o % 2 = 1
 sum : z.o * z.v + z.r * z.u = n
 un : z.u < n
 vpos : 1 ≤ z.v
 rn : z.r ≤ n
 gcd : Nat.gcd z.o z.r = Nat.gcd n a
 hb : 2 ^ z.h * (z.o * z.r) ≤ n * n
 hb1 : 2 ^ z.h ≤ n * n
 c1 : if z.t = true then Cg n (z.o * 2 ^ z.h) (z.u * a) else Cg n (z.o * 2 ^ z.h + z.u * a) 0
 c2 : if z.t = true then Cg n (z.r * 2 ^ z.h + z.v * a) 0 else Cg n (z.r * 2 ^ z.h) (z.v * a)
theorem WI.start {n a : Nat} (ok : Ok n) : WI n a ⟨n, a % n, 0, 1, 0, false⟩ := by
 have h3 := ok.three
 have hl := Nat.mod_lt a ok.pos
 refine ⟨ok.odd, by simp, ok.pos, Nat.le_refl _, Nat.le_of_lt hl, ?_, ?_, ?_, ?_, ?_⟩
 ·show Nat.gcd n (a % n) = Nat.gcd n a
  rw [Nat.gcd_comm n (a % n), ← Nat.gcd_rec, Nat.gcd_comm]
 ·show 2 ^ 0 * (n * (a % n)) ≤ n * n
  rw [Nat.pow_zero, Nat.one_mul]
  exact Nat.mul_le_mul_left _ (Nat.le_of_lt hl)
 ·show 2 ^ 0 ≤ n * n
  have := Nat.mul_le_mul h3 h3
  rw [Nat.pow_zero]; omega
 ·show Cg n (n * 2 ^ 0 + 0 * a) 0
  rw [Nat.pow_zero, Nat.zero_mul, Nat.add_zero, Nat.mul_one]
  have := Cg.zero n 1
  rwa [Nat.one_mul] at this
 ·show Cg n (a % n * 2 ^ 0) (1 * a)
  rw [Nat.pow_zero, Nat.mul_one, Nat.one_mul]
  exact Cg.mod n a
theorem gcd_halve {o r1 k : Nat} (ho : o % 2 = 1) : Nat.gcd o (r1 * 2 ^ k) = Nat.gcd o r1 := by
 have hc : Nat.Coprime o (2 ^ k) := by
  apply Nat.Coprime.pow_right
  rw [Nat.coprime_comm]
  show Nat.gcd 2 o = 1
  rw [Nat.gcd_rec, ho]
  rfl
 exact Nat.Coprime.gcd_mul_right_cancel_right r1 hc.symm
theorem gcd_less {o r1 : Nat} (h : r1 ≤ o) : Nat.gcd r1 (o - r1) = Nat.gcd o r1 := by
 rw [Nat.gcd_comm o r1]
 have e : o = (o - r1) + r1 := by omega
 generalize o - r1 = d at e ⊢
 rw [e, Nat.gcd_add_self_right]
theorem WI.facts {n a o r u v h k r1 : Nat} {t : Bool} (I : WI n a ⟨o, r, u, v, h, t⟩) (hr : r ≠ 0) (er : r = r1 * 2 ^ k) : 1 ≤ r1 ∧ 1 ≤ o ∧ o ≤ n ∧ r1 ≤ n ∧ o * v + r1 * (u * 2 ^ k) = n ∧ u * 2 ^ k < n ∧ v + u * 2 ^ k ≤ n := by
 have hs := I.sum
 have hv := I.vpos
 have ho := I.odd
 have hrn := I.rn
 simp only at hs hv ho hrn
 have h1 : 1 ≤ r1 := by
  rcases Nat.eq_zero_or_pos r1 with e | e
  ·rw [e, Nat.zero_mul] at er; exact absurd er hr
  ·exact e
 have ho1 : 1 ≤ o := by omega
 have h2 : o * 1 ≤ o * v := Nat.mul_le_mul_left o hv
 have e1 : r * u = r1 * (u * 2 ^ k) := by rw [er, Nat.mul_assoc, Nat.mul_comm (2 ^ k)]
 rw [e1] at hs
 have h3 : 1 * (u * 2 ^ k) ≤ r1 * (u * 2 ^ k) := Nat.mul_le_mul_right _ h1
 have h4 : r1 * 1 ≤ r1 * 2 ^ k := Nat.mul_le_mul_left r1 (Nat.two_pow_pos k)
 have h5 : 1 * v ≤ o * v := Nat.mul_le_mul_right _ ho1
 refine ⟨h1, ho1, by omega, by omega, hs, by omega, by omega⟩
theorem cg_scale {n x y : Nat} (h : Cg n x y) (k : Nat) : Cg n (x * 2 ^ k) (y * 2 ^ k) := h.mulR _
theorem WI.conf {n a o r u v h k r1 : Nat} {t : Bool} (I : WI n a ⟨o, r, u, v, h, t⟩) (er : r = r1 * 2 ^ k) :
  (if t = true then Cg n (o * 2 ^ (h + k)) (u * 2 ^ k * a) else Cg n (o * 2 ^ (h + k) + u * 2 ^ k * a) 0) ∧ (if t = true then Cg n (r1 * 2 ^ (h + k) + v * a) 0 else Cg n (r1 * 2 ^ (h + k)) (v * a)) := by
 have h1 := I.c1
 have h2 := I.c2
 simp only at h1 h2
 have e1 : o * 2 ^ (h + k) = o * 2 ^ h * 2 ^ k := by rw [Nat.pow_add, Nat.mul_assoc]
 have e2 : u * 2 ^ k * a = u * a * 2 ^ k := Nat.mul_right_comm ..
 have e3 : r1 * 2 ^ (h + k) = r * 2 ^ h := by rw [er, Nat.pow_add, Nat.mul_assoc, Nat.mul_comm (2 ^ h)]
 rw [e1, e2, e3]
 refine ⟨?_, h2⟩
 cases t with
 | true => exact cg_scale h1 k
 | false =>
  have h3 := cg_scale h1 k
  rw [Nat.zero_mul, Nat.add_mul] at h3
  exact h3
theorem WI.next {n a o r u v h k r1 : Nat} {t : Bool} (I : WI n a ⟨o, r, u, v, h, t⟩) (hr : r ≠ 0) (er : r = r1 * 2 ^ k) (h1 : r1 % 2 = 1) :
  (r1 < o → WI n a ⟨r1, o - r1, v, u * 2 ^ k + v, h + k, !t⟩) ∧ (¬ r1 < o → WI n a ⟨o, r1 - o, u * 2 ^ k, v + u * 2 ^ k, h + k, t⟩) := by
 obtain ⟨p1, p2, p3, p4, p5, p6, p7⟩ := I.facts hr er
 obtain ⟨q1, q2⟩ := I.conf er
 have hv := I.vpos
 have ho := I.odd
 have hg := I.gcd
 have hb := I.hb
 simp only at hv ho hg hb
 rw [er, gcd_halve ho] at hg
 have eb : 2 ^ (h + k) * (o * r1) = 2 ^ h * (o * r) := by
  rw [er, Nat.pow_add]; simp only [Nat.mul_assoc, Nat.mul_comm, Nat.mul_left_comm]
 have hb2 : 2 ^ (h + k) * (o * r1) ≤ n * n := by rw [eb]; exact hb
 have hor : 1 ≤ o * r1 := Nat.mul_pos p2 p1
 have hb1 : 2 ^ (h + k) ≤ n * n := Nat.le_trans (by have := Nat.mul_le_mul_left (2 ^ (h + k)) hor; omega) hb2
 generalize hH : 2 ^ (h + k) = H at q1 q2 hb2 hb1
 generalize hU : u * 2 ^ k = U at q1 q2 p5 p6 p7 ⊢
 constructor
 ·intro hl
  refine ⟨h1, ?_, ?_, by show 1 ≤ U + v; omega, by show o - r1 ≤ n; omega, ?_, ?_, by show 2 ^ (h + k) ≤ n * n; rw [hH]; exact hb1, ?_, ?_⟩
  ·show r1 * (U + v) + (o - r1) * v = n
   have e : r1 * v + (o - r1) * v = o * v := by rw [← Nat.add_mul, show r1 + (o - r1) = o by omega]
   rw [Nat.mul_add]; omega
  ·show v < n
   rcases Nat.eq_zero_or_pos U with e | e
   ·rw [e, Nat.mul_zero, Nat.add_zero] at p5
    have : 2 * v ≤ o * v := Nat.mul_le_mul_right _ (by omega)
    omega
   ·have h5 : 1 * v ≤ o * v := Nat.mul_le_mul_right _ p2
    have h6 : 1 * 1 ≤ r1 * U := Nat.mul_le_mul p1 e
    omega
  ·show Nat.gcd r1 (o - r1) = Nat.gcd n a
   rw [gcd_less (by omega), hg]
  ·show 2 ^ (h + k) * (r1 * (o - r1)) ≤ n * n
   rw [hH]
   refine Nat.le_trans (Nat.mul_le_mul_left H ?_) hb2
   rw [Nat.mul_comm o r1]
   exact Nat.mul_le_mul_left r1 (by omega)
  ·cases t with
   | true =>
    show Cg n (r1 * 2 ^ (h + k) + v * a) 0
    rw [hH]; exact q2
   | false =>
    show Cg n (r1 * 2 ^ (h + k)) (v * a)
    rw [hH]; exact q2
  ·have e : (o - r1) * H + r1 * H = o * H := by rw [← Nat.add_mul, show o - r1 + r1 = o by omega]
   cases t with
   | true =>
    show Cg n ((o - r1) * 2 ^ (h + k)) ((U + v) * a)
    rw [hH, Nat.add_mul]
    have s1 : Cg n ((o - r1) * H + (r1 * H + v * a)) ((o - r1) * H + 0) := Cg.addL _ q2
    rw [Nat.add_zero, ← Nat.add_assoc, e] at s1
    exact s1.symm.trans (Cg.addR _ q1)
   | false =>
    show Cg n ((o - r1) * 2 ^ (h + k) + (U + v) * a) 0
    rw [hH, Nat.add_mul]
    have s1 : Cg n ((o - r1) * H + U * a + r1 * H) ((o - r1) * H + U * a + v * a) := Cg.addL _ q2
    have e2 : (o - r1) * H + U * a + r1 * H = o * H + U * a := by omega
    rw [e2] at s1
    have s2 := s1.symm.trans q1
    rwa [Nat.add_assoc] at s2
 ·intro hl
  refine ⟨ho, ?_, p6, by show 1 ≤ v + U; omega, by show r1 - o ≤ n; omega, ?_, ?_, by show 2 ^ (h + k) ≤ n * n; rw [hH]; exact hb1, ?_, ?_⟩
  ·show o * (v + U) + (r1 - o) * U = n
   have e : o * U + (r1 - o) * U = r1 * U := by rw [← Nat.add_mul, show o + (r1 - o) = r1 by omega]
   rw [Nat.mul_add]; omega
  ·show Nat.gcd o (r1 - o) = Nat.gcd n a
   rw [gcd_less (by omega), Nat.gcd_comm, hg]
  ·show 2 ^ (h + k) * (o * (r1 - o)) ≤ n * n
   rw [hH]
   exact Nat.le_trans (Nat.mul_le_mul_left H (Nat.mul_le_mul_left o (by omega))) hb2
  ·cases t with
   | true =>
    show Cg n (o * 2 ^ (h + k)) (U * a)
    rw [hH]; exact q1
   | false =>
    show Cg n (o * 2 ^ (h + k) + U * a) 0
    rw [hH]; exact q1
  ·have e : (r1 - o) * H + o * H = r1 * H := by rw [← Nat.add_mul, show r1 - o + o = r1 by omega]
   cases t with
   | true =>
    show Cg n ((r1 - o) * 2 ^ (h + k) + (v + U) * a) 0
    rw [hH, Nat.add_mul]
    have s1 : Cg n ((r1 - o) * H + v * a + o * H) ((r1 - o) * H + v * a + U * a) := Cg.addL _ q1
    have e2 : (r1 - o) * H + v * a + o * H = r1 * H + v * a := by omega
    rw [e2] at s1
    have s2 := s1.symm.trans q2
    rwa [Nat.add_assoc] at s2
   | false =>
    show Cg n ((r1 - o) * 2 ^ (h + k)) ((v + U) * a)
    rw [hH, Nat.add_mul]
    have s1 : Cg n ((r1 - o) * H + (o * H + U * a)) ((r1 - o) * H + 0) := Cg.addL _ q1
    rw [Nat.add_zero, ← Nat.add_assoc, e] at s1
    exact s1.symm.trans (Cg.addR _ q2)
/-- What is left when the walk ends. -/
def dv (n a i : Nat) : Nat := a * hf n ^ i % n
theorem end_true {n a o u v h : Nat} (ok : Ok n) (I : WI n a ⟨o, 0, u, v, h, true⟩) (ho : o = 1) : dv n u h * a % n = 1 := by
 have h1 := I.c1
 simp only [if_true] at h1
 rw [ho, Nat.one_mul] at h1
 have s : Cg n (dv n u h * a) 1 := by
  have s1 : Cg n (dv n u h * a) (u * hf n ^ h * a) := (Cg.mod _ _).mulR a
  rw [Nat.mul_right_comm] at s1
  exact s1.trans ((h1.symm.mulR _).trans (hf_pow n h ok.odd))
 unfold Cg at s
 rw [s, Nat.mod_eq_of_lt (by have := ok.three; omega)]
theorem end_false {n a o u v h : Nat} (ok : Ok n) (I : WI n a ⟨o, 0, u, v, h, false⟩) (ho : o = 1) : dv n (subm n 0 u) h * a % n = 1 := by
 have h1 := I.c1
 simp only [Bool.false_eq_true, if_false] at h1
 rw [ho, Nat.one_mul] at h1
 have hu := I.un
 simp only at hu
 have h2 : Cg n (subm n 0 u * a) (2 ^ h) := by
  have e1 : Cg n (subm n 0 u + u) 0 := by
   unfold subm
   rw [Nat.zero_add, Nat.mod_eq_of_lt hu]
   refine ((Cg.mod n (n - u)).addR u).trans ?_
   rw [show n - u + u = 1 * n by omega]
   exact Cg.zero n 1
  have e2 := e1.mulR a
  rw [Nat.zero_mul, Nat.add_mul] at e2
  have e3 : Cg n (subm n 0 u * a + (u * a + 2 ^ h)) (subm n 0 u * a + 0) := Cg.addL _ (by rw [Nat.add_comm]; exact h1)
  rw [Nat.add_zero, ← Nat.add_assoc] at e3
  have e4 := e2.addR (2 ^ h)
  rw [Nat.zero_add] at e4
  exact e3.symm.trans e4
 have s : Cg n (dv n (subm n 0 u) h * a) 1 := by
  have s1 : Cg n (dv n (subm n 0 u) h * a) (subm n 0 u * hf n ^ h * a) := (Cg.mod _ _).mulR a
  rw [Nat.mul_right_comm] at s1
  exact s1.trans ((h2.mulR _).trans (hf_pow n h ok.odd))
 unfold Cg at s
 rw [s, Nat.mod_eq_of_lt (by have := ok.three; omega)]
theorem WI.hlt {n a : Nat} {z : WS} (ok : Ok n) (I : WI n a z) : z.h < 768 := by
 have h1 := I.hb1
 have h2 := ok.top
 obtain ⟨m, hm, e⟩ := big_pow
 rcases Nat.lt_or_ge z.h 768 with h' | h'
 ·exact h'
 ·have h3 : 2 ^ (64 * m + 64 * m) ≤ 2 ^ z.h := Nat.pow_le_pow_right (by decide) (by omega)
  rw [Nat.pow_add, ← e] at h3
  have h4 : n * n < big * big := Nat.mul_lt_mul_of_lt_of_lt ok.big ok.big
  omega
theorem first_word (r : Nat) : ∀ m, r % 2 ^ (64 * m) ≠ 0 → ∃ i, i < m ∧ (∀ j, j < i → wd r j = 0) ∧ wd r i ≠ 0 := by
 intro m
 induction m with
 | zero => intro h; rw [Nat.mul_zero, Nat.pow_zero, Nat.mod_one] at h; exact absurd rfl h
 | succ m ih =>
  intro h
  by_cases h0 : r % 2 ^ (64 * m) = 0
  ·by_cases h1 : wd r m = 0
   ·exfalso
    apply h
    rw [mod_step, h0]
    have : wn r m = 0 := by have := wd_wn r m; omega
    rw [this]; simp
   ·refine ⟨m, by omega, fun j hj => ?_, h1⟩
    unfold wd
    have e : 2 ^ (64 * m) = 2 ^ (64 * j) * (18446744073709551616 * 2 ^ (64 * (m - j - 1))) := by
     have : 64 * m = 64 * j + (64 + 64 * (m - j - 1)) := by omega
     rw [this, Nat.pow_add, Nat.pow_add]
    obtain ⟨q, hq⟩ := Nat.dvd_of_mod_eq_zero h0
    rw [hq, e, Nat.mul_assoc, Nat.mul_div_cancel_left _ (pow_pos' j), Nat.mul_assoc, Nat.mul_mod_right]
    rfl
  ·obtain ⟨i, h1, h2, h3⟩ := ih h0
   exact ⟨i, by omega, h2, h3⟩
theorem low_zero (r : Nat) : ∀ m, (∀ j, j < m → wd r j = 0) → r % 2 ^ (64 * m) = 0 := by
 intro m
 induction m with
 | zero => intro _; rw [Nat.mul_zero, Nat.pow_zero, Nat.mod_one]
 | succ m ih =>
  intro h
  have : wn r m = 0 := by have := wd_wn r m; have := h m (by omega); omega
  rw [mod_step, ih (fun j hj => h j (by omega)), this]; simp
theorem trailing_any {r : Nat} (hr : r < big) (h0 : r ≠ 0) : ∃ k r1, k < 384 ∧ r = r1 * 2 ^ k ∧ r1 % 2 = 1 ∧ ∀ w, Mm w [(2, dtab)] → Calls Tryz.prog 134 #[N r] w (Rt w (.int .i64 ((k : Nat) : Int))) := by
 obtain ⟨m, hm, hz, hx⟩ := first_word r 6 (by rw [← big_eq, Nat.mod_eq_of_lt hr]; exact h0)
 have hx0 : wn r m ≠ 0 := by have := wd_wn r m; omega
 have hxl := wn_lt r m
 have hct : Lib.ctz 64 (wn r m) = Lib.ctzFrom 64 (wn r m) := by unfold Lib.ctz; rw [if_neg hx0]
 obtain ⟨q, hq, hc⟩ := Lib.ctzFrom_spec 64 (wn r m) (by omega) hxl
 rw [← hct] at hq hc
 generalize hcd : Lib.ctz 64 (wn r m) = c at hq hc
 have hlow := low_zero r m hz
 have hdm := Nat.div_add_mod r (2 ^ (64 * m))
 rw [hlow, Nat.add_zero] at hdm
 have hR := Nat.div_add_mod (r / 2 ^ (64 * m)) 18446744073709551616
 have hR2 : r / 2 ^ (64 * m) % 18446744073709551616 = wn r m := rfl
 rw [hR2] at hR
 obtain ⟨d, hd⟩ : ∃ d, 64 = c + (d + 1) := ⟨64 - c - 1, by omega⟩
 have h64 : 18446744073709551616 = 2 ^ c * (2 ^ d * 2) := by
  rw [← Nat.pow_succ, ← Nat.pow_add, ← hd]
 refine ⟨64 * m + c, 2 ^ d * 2 * (r / 2 ^ (64 * m) / 18446744073709551616) + (2 * q + 1), by omega, ?_, ?_, fun w ht => ?_⟩
 ·have e : r / 2 ^ (64 * m) = (2 ^ d * 2 * (r / 2 ^ (64 * m) / 18446744073709551616) + (2 * q + 1)) * 2 ^ c := by
   have e1 : 18446744073709551616 * (r / 2 ^ (64 * m) / 18446744073709551616) = 2 ^ d * 2 * (r / 2 ^ (64 * m) / 18446744073709551616) * 2 ^ c := by
    generalize r / 2 ^ (64 * m) / 18446744073709551616 = y
    rw [h64, Nat.mul_assoc (2 ^ c), Nat.mul_comm (2 ^ c)]
   rw [Nat.add_mul, ← e1, Nat.mul_comm (2 * q + 1), ← hq]
   exact hR.symm
  rw [Nat.pow_add, Nat.mul_comm (2 ^ (64 * m)), ← Nat.mul_assoc, ← e, Nat.mul_comm]
  exact hdm.symm
 ·rw [Nat.mul_right_comm]; omega
 ·refine trailing_gen r m c hm (by omega) hz hx (fun w ht => ?_) w ht
  have := tz_word (wn r m) hxl w ht
  rw [hcd] at this
  exact this
theorem dbp_1 (g n o s a K j : Nat) (hK : K < 1000) (hj : j = 0) (f : Nat → Nat) (f0 : f 0 = a)
  (co : ∀ w, Calls Tryz.prog 17 #[.int .u64 1] w (Rt w (N 1)))
  (cf : ∀ k w, Mm w [(g, zN n o s)] → Calls Tryz.prog 40 #[PT g 0, N 1, N (f k)] w (Rt w (N (f (k + 1))))) (w : World) (hm : Mm w [(g, zN n o s)]) :
  Calls Tryz.prog 108 #[PT g 0, N a, .int .i64 ((384 * K + j : Nat) : Int)] w (Rt w (N (f K))) := by
 have H0 : Hid (_ ∧ _) := ⟨hm, Below.refl w.heap.size w⟩
 clear hm
 have CO : Hid _ := co
 have CF : Hid _ := cf
 have F0 : Hid _ := f0
 clear co cf f0
 go_enter Tryz.func108, Tryz.ntmps108
 refine wp_seq ?_
 refine zC 2 [.made (zB a) 24, .made zero6 24] (sB H0) ?ho1 ?he1
 case ho1 => exact am (zU rfl rfl) (am (zG rfl) trivial)
 intro J w1 l hM hl
 have H1 : Hid (Mm w1 ([(J 0, zB a), (J 1, zero6)] ++ _) ∧ _) := wB H0 hM hl [0, 1]
 have o1_0 := vB H0 hM hl 0
 have o1_1 := vB H0 hM hl 1
 clear hM hl l
 generalize J 0 = J1_0 at H1 o1_0 ⊢
 generalize J 1 = J1_1 at H1 o1_1 ⊢
 clear J
 refine rN (wp_seq (wp_block ?_))
 refine loop_ghost (α := Nat) (fun k a' w' => ∃ s0 : Nat → Value, a' = ⟨#[PT g 0, N a, .int .i64 ((384 * (K - k) + j : Nat) : Int), ud, PT J1_0 0, ud, PT J1_1 0, s0 7, s0 8, s0 9, s0 10, s0 11, s0 12, s0 13, s0 14, ud, ud, ud, ud, ud, ud, ud, ud, ud, ud], []⟩ ∧ (Mm w' [(J1_0, zB (f k)), (J1_1, zero6), (g, zN n o s)] ∧ Below w.heap.size w w') ∧ k ≤ K) (fun k => K - k) 0 ?st0 ?rd0
 case st0 => exact ⟨(slotfn [ud, ud, ud, ud, ud, ud, ud, ud, ud, ud, ud, ud, ud, ud, ud]), rfl, ⟨H1.out.1.at0 (by rw [F0.out]), H1.out.2⟩, by omega⟩
 intro k a' w2 hI
 obtain ⟨s0, rfl, hMB, hk0⟩ := hI
 have H2 : Hid (_ ∧ _) := hMB
 clear hMB H1
 by_cases hlt : k < K
 ·have hrd : True := trivial
  clear hrd
  refine wp_seq (wp_seq ?_)
  refine zD 2 [.q (.int .i64 ((384 * (K - k) + j : Nat) : Int)), .q (.bool true)] H2 ?ho2 ?he2
  case ho2 => exact ar (ak (by refine fun J => ⟨rfl, fun w' h => ?_⟩; clear h; go_simp <;> omega) trivial)
  intro _ w3 H3
  clear H2
  refine rN (wp_cond_true rfl ?_)
  refine wp_skip (zA ?_)
  refine wp_block (wp_seq ?_)
  refine zS 4 [.q (PT g 0), .call (N 1), .q (N (f k)), .call (N (f (k + 1)))] H3 ?ho3 ?he3
  case ho3 => exact ar (ac (fun w' h => eC call17 (CO.out w')) (bN 0 (ac (fun w' h => eC call40 (CF.out k w' (h.one 2 rfl))) trivial)))
  intro _ w4 H4
  clear H3
  refine zH (l := [4]) rfl ?_
  refine sG rfl (fun h => zL h 0 rfl rfl rfl rfl (Nat.le_of_ble_eq_true rfl)) 0 [(_, zB (f (k + 1))), _, _] H4 o1_0 fun w5 H5 => ?_
  clear H4
  refine zE (zA ?_)
  refine zD 2 [.q (.int .i64 ((384 * (K - k) + j : Nat) : Int)), .q (.int .i64 ((384 * (K - (k + 1)) + j : Nat) : Int))] H5 ?ho4 ?he4
  case ho4 => exact ar (ak (by refine fun J => ⟨rfl, fun w' h => ?_⟩; clear h; go_simp; rw [IntKind.wrap_i64]; omega) trivial)
  intro _ w6 H6
  clear H5
  refine zH (l := [2]) rfl ?_
  refine zF (d := 2) rfl rfl rfl rfl ?_
  simp only [Act.put, sa, sz, ss]
  refine zE (zY (zA ?_))
  exact ⟨k + 1, ⟨(slotfn [ud, ud, ud, ud, ud, ud, ud, .int .i64 ((384 * (K - k) + j : Nat) : Int), .bool true, PT g 0, N 1, N (f k), N (f (k + 1)), .int .i64 ((384 * (K - k) + j : Nat) : Int), .int .i64 ((384 * (K - (k + 1)) + j : Nat) : Int)]), rfl, ⟨H6.out.1, H6.out.2⟩, by omega⟩, by omega⟩
 have hkK : k = K := by omega
 subst hkK
 refine wp_seq (wp_seq ?_)
 refine zD 2 [.q (.int .i64 ((384 * (k - k) + j : Nat) : Int)), .q (.bool false)] H2 ?ho5 ?he5
 case ho5 => exact ar (ak (by refine fun J => ⟨rfl, fun w' h => ?_⟩; clear h; go_simp <;> omega) trivial)
 intro _ w7 H7
 clear H2
 refine rN (wp_cond_false rfl ?_)
 refine wp_exit ?_
 repeat refine then_exit ?_
 refine block_exit ?_
 refine zA (wp_seq (wp_seq ?_))
 refine zD 2 [.q (.int .i64 ((384 * (k - k) + j : Nat) : Int)), .q (.bool true)] H7 ?ho6 ?he6
 case ho6 => exact ar (ak (by refine fun J => ⟨rfl, fun w' h => ?_⟩; clear h; go_simp <;> omega) trivial)
 intro _ w8 H8
 clear H7
 refine rN (wp_cond_true rfl (wp_seq ?_))
 refine zD 1 [.q (N (f k))] H8 ?ho7 ?he7
 case ho7 => exact bN 0 trivial
 intro _ w9 H9
 clear H8
 refine zH (l := [1]) rfl ?_
 refine sG rfl (fun h => zL h 1 rfl rfl rfl rfl (Nat.le_of_ble_eq_true rfl)) 1 [_, (_, zB (f k)), _] H9 o1_1 fun w10 H10 => ?_
 clear H9
 refine zE (zA (wp_ret ?_))
 repeat (first | refine zJ ?_ | refine zI ?_)
 have c0 := H10.out.1.get 1 rfl 0 rfl
 have c1 := H10.out.1.get 1 rfl 1 rfl
 have c2 := H10.out.1.get 1 rfl 2 rfl
 have c3 := H10.out.1.get 1 rfl 3 rfl
 have c4 := H10.out.1.get 1 rfl 4 rfl
 have c5 := H10.out.1.get 1 rfl 5 rfl
 refine bodyPost_ret (v := N (f k)) (by simp [results, Tryz.results108, go_sem, *]) rfl ?_
 exact ⟨rfl, H10.out.2⟩
theorem dbp_2 (g n o s a K j y x : Nat) (hK : K < 1000) (hj : 0 < j) (hj4 : j < 384) (f : Nat → Nat) (f0 : f 0 = a)
  (co : ∀ w, Calls Tryz.prog 17 #[.int .u64 1] w (Rt w (N 1)))
  (cf : ∀ k w, Mm w [(g, zN n o s)] → Calls Tryz.prog 40 #[PT g 0, N 1, N (f k)] w (Rt w (N (f (k + 1)))))
  (ch : ∀ w, Calls Tryz.prog 61 #[N 1, .int .i64 ((384 - j : Nat) : Int)] w (Rt w (N y)))
  (cx : ∀ w, Mm w [(g, zN n o s)] → Calls Tryz.prog 40 #[PT g 0, N y, N (f K)] w (Rt w (N x))) (w : World) (hm : Mm w [(g, zN n o s)]) :
  Calls Tryz.prog 108 #[PT g 0, N a, .int .i64 ((384 * K + j : Nat) : Int)] w (Rt w (N x)) := by
 have H0 : Hid (_ ∧ _) := ⟨hm, Below.refl w.heap.size w⟩
 clear hm
 have CO : Hid _ := co
 have CF : Hid _ := cf
 have F0 : Hid _ := f0
 clear co cf f0
 have CH : Hid _ := ch
 have CX : Hid _ := cx
 clear ch cx
 go_enter Tryz.func108, Tryz.ntmps108
 refine wp_seq ?_
 refine zC 2 [.made (zB a) 24, .made zero6 24] (sB H0) ?ho1 ?he1
 case ho1 => exact am (zU rfl rfl) (am (zG rfl) trivial)
 intro J w1 l hM hl
 have H1 : Hid (Mm w1 ([(J 0, zB a), (J 1, zero6)] ++ _) ∧ _) := wB H0 hM hl [0, 1]
 have o1_0 := vB H0 hM hl 0
 have o1_1 := vB H0 hM hl 1
 clear hM hl l
 generalize J 0 = J1_0 at H1 o1_0 ⊢
 generalize J 1 = J1_1 at H1 o1_1 ⊢
 clear J
 refine rN (wp_seq (wp_block ?_))
 refine loop_ghost (α := Nat) (fun k a' w' => ∃ s0 : Nat → Value, a' = ⟨#[PT g 0, N a, .int .i64 ((384 * (K - k) + j : Nat) : Int), ud, PT J1_0 0, ud, PT J1_1 0, s0 7, s0 8, s0 9, s0 10, s0 11, s0 12, s0 13, s0 14, ud, ud, ud, ud, ud, ud, ud, ud, ud, ud], []⟩ ∧ (Mm w' [(J1_0, zB (f k)), (J1_1, zero6), (g, zN n o s)] ∧ Below w.heap.size w w') ∧ k ≤ K) (fun k => K - k) 0 ?st0 ?rd0
 case st0 => exact ⟨(slotfn [ud, ud, ud, ud, ud, ud, ud, ud, ud, ud, ud, ud, ud, ud, ud]), rfl, ⟨H1.out.1.at0 (by rw [F0.out]), H1.out.2⟩, by omega⟩
 intro k a' w2 hI
 obtain ⟨s0, rfl, hMB, hk0⟩ := hI
 have H2 : Hid (_ ∧ _) := hMB
 clear hMB H1
 by_cases hlt : k < K
 ·have hrd : True := trivial
  clear hrd
  refine wp_seq (wp_seq ?_)
  refine zD 2 [.q (.int .i64 ((384 * (K - k) + j : Nat) : Int)), .q (.bool true)] H2 ?ho2 ?he2
  case ho2 => exact ar (ak (by refine fun J => ⟨rfl, fun w' h => ?_⟩; clear h; go_simp <;> omega) trivial)
  intro _ w3 H3
  clear H2
  refine rN (wp_cond_true rfl ?_)
  refine wp_skip (zA ?_)
  refine wp_block (wp_seq ?_)
  refine zS 4 [.q (PT g 0), .call (N 1), .q (N (f k)), .call (N (f (k + 1)))] H3 ?ho3 ?he3
  case ho3 => exact ar (ac (fun w' h => eC call17 (CO.out w')) (bN 0 (ac (fun w' h => eC call40 (CF.out k w' (h.one 2 rfl))) trivial)))
  intro _ w4 H4
  clear H3
  refine zH (l := [4]) rfl ?_
  refine sG rfl (fun h => zL h 0 rfl rfl rfl rfl (Nat.le_of_ble_eq_true rfl)) 0 [(_, zB (f (k + 1))), _, _] H4 o1_0 fun w5 H5 => ?_
  clear H4
  refine zE (zA ?_)
  refine zD 2 [.q (.int .i64 ((384 * (K - k) + j : Nat) : Int)), .q (.int .i64 ((384 * (K - (k + 1)) + j : Nat) : Int))] H5 ?ho4 ?he4
  case ho4 => exact ar (ak (by refine fun J => ⟨rfl, fun w' h => ?_⟩; clear h; go_simp; rw [IntKind.wrap_i64]; omega) trivial)
  intro _ w6 H6
  clear H5
  refine zH (l := [2]) rfl ?_
  refine zF (d := 2) rfl rfl rfl rfl ?_
  simp only [Act.put, sa, sz, ss]
  refine zE (zY (zA ?_))
  exact ⟨k + 1, ⟨(slotfn [ud, ud, ud, ud, ud, ud, ud, .int .i64 ((384 * (K - k) + j : Nat) : Int), .bool true, PT g 0, N 1, N (f k), N (f (k + 1)), .int .i64 ((384 * (K - k) + j : Nat) : Int), .int .i64 ((384 * (K - (k + 1)) + j : Nat) : Int)]), rfl, ⟨H6.out.1, H6.out.2⟩, by omega⟩, by omega⟩
 have hkK : k = K := by omega
 subst hkK
 refine wp_seq (wp_seq ?_)
 refine zD 2 [.q (.int .i64 ((384 * (k - k) + j : Nat) : Int)), .q (.bool false)] H2 ?ho5 ?he5
 case ho5 => exact ar (ak (by refine fun J => ⟨rfl, fun w' h => ?_⟩; clear h; go_simp <;> omega) trivial)
 intro _ w7 H7
 clear H2
 refine rN (wp_cond_false rfl ?_)
 refine wp_exit ?_
 repeat refine then_exit ?_
 refine block_exit ?_
 refine zA (wp_seq (wp_seq ?_))
 refine zD 2 [.q (.int .i64 ((384 * (k - k) + j : Nat) : Int)), .q (.bool false)] H7 ?ho6 ?he6
 case ho6 => exact ar (ak (by refine fun J => ⟨rfl, fun w' h => ?_⟩; clear h; go_simp <;> omega) trivial)
 intro _ w8 H8
 clear H7
 refine rN (wp_cond_false rfl ?_)
 refine wp_skip (zA (wp_seq ?_))
 refine zS 7 [.q (PT g 0), .call (N 1), .q (.int .i64 ((384 * (k - k) + j : Nat) : Int)), .q (.int .i64 ((384 - j : Nat) : Int)), .call (N y), .q (N (f k)), .call (N x)] H8 ?ho7 ?he7
 case ho7 => exact ar (ac (fun w' h => eC call17 (CO.out w')) (ar (ak (by refine fun J => ⟨rfl, fun w' h => ?_⟩; clear h; go_simp; rw [IntKind.wrap_i64]; omega) (ac (fun w' h => eC call61 (CH.out w')) (bN 0 (ac (fun w' h => eC call40 (CX.out w' (h.one 2 rfl))) trivial))))))
 intro _ w9 H9
 clear H8
 refine zH (l := [7]) rfl ?_
 refine sG rfl (fun h => zL h 1 rfl rfl rfl rfl (Nat.le_of_ble_eq_true rfl)) 1 [_, (_, zB x), _] H9 o1_1 fun w10 H10 => ?_
 clear H9
 refine zE (zA (wp_ret ?_))
 repeat (first | refine zJ ?_ | refine zI ?_)
 have c0 := H10.out.1.get 1 rfl 0 rfl
 have c1 := H10.out.1.get 1 rfl 1 rfl
 have c2 := H10.out.1.get 1 rfl 2 rfl
 have c3 := H10.out.1.get 1 rfl 3 rfl
 have c4 := H10.out.1.get 1 rfl 4 rfl
 have c5 := H10.out.1.get 1 rfl 5 rfl
 refine bodyPost_ret (v := N x) (by simp [results, Tryz.results108, go_sem, *]) rfl ?_
 exact ⟨rfl, H10.out.2⟩
theorem dbp_any {g n : Nat} (ok : Ok n) {a i : Nat} (ha : a < n) (hi : i < 768) (w : World) (hm : Mm w [(g, zT n)]) :
  Calls Tryz.prog 108 #[PT g 0, N a, .int .i64 ((i : Nat) : Int)] w (Rt w (N (dv n a i))) := by
 have hdm := Nat.div_add_mod i 384
 generalize i / 384 = K at hdm
 have hjl := Nat.mod_lt i (show 0 < 384 by decide)
 generalize i % 384 = j at hdm hjl
 have hl : ∀ k, a * ri n ^ k % n < n := fun k => Nat.mod_lt _ ok.pos
 have cf : ∀ k w, Mm w [(g, zT n)] → Calls Tryz.prog 40 #[PT g 0, N 1, N (a * ri n ^ k % n)] w (Rt w (N (a * ri n ^ (k + 1) % n))) := fun k w hm => by
  have h := product_any g n (big % n) (big * big % n) 1 (a * ri n ^ k % n) ok (small_big 1 (by decide)) (hl k) w hm
  have e : mont n 1 (a * ri n ^ k % n) = a * ri n ^ (k + 1) % n := by
   refine Cg.eq_mod (n := n) ((mont_cg n _ _).trans ?_) (mont_lt _ _ _ ok.pos)
   rw [Nat.one_mul, Nat.pow_succ, ← Nat.mul_assoc]
   exact (Cg.mod _ _).mulR _
  rw [e] at h
  exact h
 have f0 : a * ri n ^ 0 % n = a := by rw [Nat.pow_zero, Nat.mul_one, Nat.mod_eq_of_lt ha]
 rw [← hdm]
 have er : ∀ K, ri n ^ K = hf n ^ (384 * K) := fun K => by
  unfold ri
  obtain ⟨e, he⟩ : ∃ e, e = 64 * 6 := ⟨_, rfl⟩
  rw [← he, show 384 * K = e * K by rw [he], Nat.pow_mul]
 by_cases hj : j = 0
 ·have h := dbp_1 g n _ _ a K j (by omega) hj (fun k => a * ri n ^ k % n) f0 (fun w => of_any 1 (by decide) w) cf w hm
  have e : dv n a (384 * K + j) = a * ri n ^ K % n := by unfold dv; rw [hj, Nat.add_zero, er]
  rw [e]
  exact h
 ·have ch := fun w => shift_up 1 (384 - j) (by omega) w
  have hy : 1 * 2 ^ (384 - j) % big = 2 ^ (384 - j) := by
   rw [Nat.one_mul]
   refine Nat.mod_eq_of_lt ?_
   obtain ⟨m, hm, e⟩ := big_pow
   rw [e]
   exact Nat.pow_lt_pow_right (by decide) (by omega)
  rw [hy] at ch
  have hyb : 2 ^ (384 - j) < big := by rw [← hy]; exact Nat.mod_lt _ big_pos
  have cx := fun w hm => product_any g n (big % n) (big * big % n) (2 ^ (384 - j)) (a * ri n ^ K % n) ok hyb (hl K) w hm
  have e : mont n (2 ^ (384 - j)) (a * ri n ^ K % n) = dv n a (384 * K + j) := by
   refine Cg.eq_mod (n := n) ((mont_cg n _ _).trans ?_) (mont_lt _ _ _ ok.pos)
   have h1 := ((Cg.mod n (a * ri n ^ K)).mulL (2 ^ (384 - j))).mulR (ri n)
   refine h1.trans ?_
   have h2 := (hf_pow n (384 - j) ok.odd).mulL (a * ri n ^ K * hf n ^ j)
   rw [Nat.mul_one] at h2
   have e1 : 2 ^ (384 - j) * (a * ri n ^ K) * ri n = a * ri n ^ K * hf n ^ j * (2 ^ (384 - j) * hf n ^ (384 - j)) := by
    have e2 : ri n = hf n ^ j * hf n ^ (384 - j) := by
     have := er 1
     rw [Nat.pow_one, Nat.mul_one] at this
     rw [this, ← Nat.pow_add]
     congr 1
     omega
    generalize ri n ^ K = z
    rw [e2]
    simp only [Nat.mul_assoc, Nat.mul_comm, Nat.mul_left_comm]
   rw [e1]
   refine h2.trans ?_
   rw [er, Nat.mul_assoc, ← Nat.pow_add]
   exact Cg.refl _ _
  rw [e] at cx
  exact dbp_2 g n _ _ a K j _ _ (by omega) (by omega) hjl (fun k => a * ri n ^ k % n) f0 (fun w => of_any 1 (by decide) w) cf ch cx w hm
theorem call95 : CO 95 := by intro args w; go_simp
theorem call106 : CO 106 := by intro args w; go_simp
theorem call107 : CO 107 := by intro args w; go_simp
theorem call108 : CO 108 := by intro args w; go_simp
abbrev zero26 : List Value := [.int .u64 0, .int .u64 0, .int .u64 0, .int .u64 0, .int .u64 0, .int .u64 0, .int .u64 0, .int .u64 0, .int .u64 0, .int .u64 0, .int .u64 0, .int .u64 0, .int .u64 0, .int .u64 0, .int .u64 0, .int .u64 0, .int .u64 0, .int .u64 0, .int .u64 0, .int .u64 0, .int .u64 0, .int .u64 0, .int .u64 0, .int .u64 0, .int .i64 0, .bool false]
abbrev wkv (o r u v : Nat) (h : Int) (t : Bool) : Value := .agg (wkc o r u v h t).toArray
theorem ex_made58 {ρ : Operand → Value} {o : Oper} {w : World} (ho : o.op = .alloc 153) :
  (execOp ρ o).run Tryz.prog w = .ok (.value (.pointer (some ⟨w.heap.size, 0, none⟩))) (w.alloc (.cells zero26.toArray 153)) := by
 simp only [execOp, ho]
 go_simp
theorem ex_build58 {ρ : Operand → Value} {o : Oper} {x y z : Operand} {n r z0 c1 : Nat} {w : World} (h0 : z0 = 0) (ho : o.op = .build 153 #[(0, x), (1, y), (3, z)]) (hx : ρ x = N n) (hy : ρ y = N r) (hz : ρ z = N c1) : (execOp ρ o).run Tryz.prog w = .ok (.value (wkv n r z0 c1 0 false)) w := by
 subst h0
 simp only [execOp, ho]
 go_simp
 simp [wd_zero]
theorem ex_laidT {ρ : Operand → Value} {o : Oper} {x y : Operand} {g : Nat} {t : TypeId} {zs cs : List Value} {w : World} (hb : Blk w g zs) (hl : zs.length = cs.length) (h1 : cs.all Value.oneCell' = true) (hs : ∀ w, (sizeOf t).run Tryz.prog w = .ok cs.length w) (ho : o.op = .store t x y) (hx : ρ x = .pointer (some ⟨g, 0, none⟩)) (hy : ρ y = .agg cs.toArray) :
  (execOp ρ o).run Tryz.prog w = .ok .skip (w.setCells g 0 cs) := by
 have hk : ∀ k, k < cs.length → ∃ u, zs[k]? = some u := fun k hk => ⟨_, List.getElem?_eq_getElem (by omega)⟩
 have hst := run_storeCells_cells (P := Tryz.prog) g 0 cs 0 w (fun k hkl => by
  obtain ⟨u, hu⟩ := hk k hkl
  rw [show 0 + 0 + k = k by omega, (hb k u hu).1]; rfl) (fun k hkl => by
  obtain ⟨u, hu⟩ := hk k hkl
  rw [show 0 + 0 + k = k by omega]; exact (hb k u hu).2) (List.all_eq_true.1 h1)
 clear hb hk h1 hl
 simp only [execOp, ho, hx, hy]
 go_simp
theorem ex_laid58 {ρ : Operand → Value} {o : Oper} {x y : Operand} {g n r u v : Nat} {h : Int} {t : Bool} {w : World} (hb : Blk w g zero26) (ho : o.op = .store 153 x y) (hx : ρ x = .pointer (some ⟨g, 0, none⟩)) (hy : ρ y = wkv n r u v h t) :
  (execOp ρ o).run Tryz.prog w = .ok .skip (w.setCells g 0 (wkc n r u v h t)) := ex_laidT hb rfl rfl Tryz.sizeOf153 ho hx hy
theorem shift_neg' (a m : Nat) (ha : a < big) (h : m < 384) (w : World) :
  Calls Tryz.prog 61 #[N a, .int .i64 (-((m : Nat) : Int))] w (Rt w (N (a / 2 ^ m))) := by
 by_cases h0 : m = 0
 ·subst h0
  have := shift_up a 0 (by decide) w
  rw [Nat.pow_zero, Nat.mul_one, Nat.mod_eq_of_lt ha] at this
  rw [Nat.pow_zero, Nat.div_one]
  exact this
 ·have := shift_down a (-(m : Int)) ha (by omega) (by omega) w
  rw [show (- -(m : Int)).toNat = m by omega] at this
  exact this
set_option maxHeartbeats 4000000 in
theorem inv_good {g n a : Nat} (ok : Ok n) (ha : a < big) (hg : Nat.gcd n a = 1) (w : World) (hm : Mm w [(g, zT n), (2, dtab)]) :
  Calls Tryz.prog 71 #[PT g 0, N a] w fun e w' => ∃ x, e = .returned (.tuple #[N x, .int .i64 0]) ∧ x < n ∧ x * a % n = 1 ∧ Below w.heap.size w w' := by
 have H0 : Hid (_ ∧ _) := ⟨hm, Below.refl w.heap.size w⟩
 clear hm
 obtain ⟨r0, hr0⟩ : ∃ r0, r0 = a % n := ⟨_, rfl⟩
 have cm := fun w hm => madeC (g := g) ok w hm
 have cr := fun w hm => reduce_any (g := g) ok ha w hm
 rw [← hr0] at cr
 have CM : Hid _ := cm
 have CR : Hid _ := cr
 obtain ⟨z0, hz0⟩ : ∃ z0, z0 = 0 := ⟨_, rfl⟩
 obtain ⟨c1, hc1⟩ : ∃ c1, c1 = 1 := ⟨_, rfl⟩
 have HC1 : Hid _ := hc1
 have CO : Hid (∀ w, Calls Tryz.prog 17 #[.int .u64 1] w (Rt w (N c1))) := fun w => by
  have h := of_any 1 (by decide) w
  rw [HC1.out]
  exact h
 have HZ0 : Hid _ := hz0
 have HR : Hid _ := hr0
 clear cm cr hr0 ha hz0 hc1
 go_enter Tryz.func71, Tryz.ntmps71
 refine wp_seq ?_
 refine zC 3 [.made (zB a) 24, .made zero6 24, .q (.int .i64 0)] (sB H0) ?ho1 ?he1
 case ho1 => exact am (zU rfl rfl) (am (zG rfl) (ar trivial))
 intro J w1 l hM hl
 have H1 : Hid (Mm w1 ([(J 0, zB a), (J 1, zero6)] ++ _) ∧ _) := wB H0 hM hl [0, 1]
 have o1_0 := vB H0 hM hl 0
 have o1_1 := vB H0 hM hl 1
 clear hM hl l
 generalize J 0 = J1_0 at H1 o1_0 ⊢
 generalize J 1 = J1_1 at H1 o1_1 ⊢
 clear J
 refine rN (wp_seq (wp_seq ?_))
 refine zD 3 [.q (PT g 0), .call (.bool true), .q (.bool false)] H1 ?ho2 ?he2
 case ho2 => exact ar (ak (fun J => ⟨rfl, fun w' h' => eC call37 (CM.out w' (h'.one 2 rfl))⟩) (ak (by refine fun J => ⟨rfl, fun w' h' => ?_⟩; clear h'; go_simp) trivial))
 intro _ w2 H2
 clear H1
 refine rN (wp_cond_false rfl ?_)
 refine wp_skip (zA (wp_seq ?_))
 refine zP 11 [.q (PT g 0), .q (PT g 0), .q (PT g 0), .q (N n), .q (PT g 0), .q (N a), .call (N r0), .call (N c1), .q (wkv n r0 z0 c1 0 false), .made zero26 153, .laid 9 zero26 (wkc n r0 z0 c1 0 false)] (sB H2) ?ho3 ?he3 (hL := ?hL3)
 case hL3 => exact ⟨⟨_, rfl⟩, trivial⟩
 case ho3 => exact ar (ak (by refine fun J => ⟨rfl, fun w' h' => ?_⟩; clear h'; go_simp) (ak (by refine fun J => ⟨rfl, fun w' h' => ?_⟩; clear h'; go_simp) (ak (fun J => ⟨rfl, fun w' h' => ex_load6 h' 2 rfl rfl rfl rfl⟩) (ar (ak (fun J => ⟨rfl, fun w' h' => ex_load6 h' 0 rfl rfl rfl rfl⟩) (ak (fun J => ⟨rfl, fun w' h' => eC call14 (CR.out w' (h'.one 2 rfl))⟩) (ak (fun J => ⟨rfl, fun w' h' => eC call17 (CO.out w')⟩) (ak (fun J => ⟨rfl, fun w' _ => ex_build58 HZ0.out rfl rfl rfl rfl⟩) (am (ex_made58 rfl) (ak (fun J => ⟨rfl, rfl, rfl, fun w' h' => ex_laid58 h' rfl rfl rfl⟩) trivial))))))))))
 intro J w3 l hM hl
 have H3 : Hid (Mm w3 ([(J 9, wkc n r0 z0 c1 0 false)] ++ _) ∧ _) := wB H2 hM hl [9]
 have o3_9 := vB H2 hM hl 9
 clear hM hl l H2
 generalize J 9 = J3_9 at H3 o3_9 ⊢
 clear J
 refine rN (wp_seq (wp_block ?_))
 refine loop_ghost (α := WS) (fun z a' w' => ∃ s0 : Nat → Value, a' = ⟨#[PT g 0, N a, ud, PT J1_0 0, PT J1_1 0, .int .i64 0, PT J3_9 0, ud, PT g 0, .bool true, .bool false, ud, PT g 0, PT g 0, PT g 0, N n, PT g 0, N a, N r0, N c1, wkv n r0 z0 c1 0 false, s0 21, s0 22, s0 23, s0 24, s0 25, s0 26, ud, ud, ud, ud, ud, ud, ud, ud, ud, ud, ud, ud, ud, ud, ud, ud, ud, ud], []⟩ ∧ (Mm w' [(J3_9, wkc z.o z.r z.u z.v ((z.h : Nat) : Int) z.t), (J1_0, zB a), (J1_1, zero6), (g, zT n), (2, dtab)] ∧ Below w.heap.size w w') ∧ WI n a z) (fun z => z.o + z.r) ⟨n, r0, z0, c1, 0, false⟩ ?st0 ?rd0
 case st0 => exact ⟨(slotfn [ud, ud, ud, ud, ud, ud, ud, ud, ud, ud, ud, ud, ud, ud, ud, ud, ud, ud, ud, ud, ud, ud, ud, ud, ud, ud, ud]), rfl, ⟨H3.out.1, H3.out.2⟩, by rw [HR.out, HZ0.out, HC1.out]; exact WI.start ok⟩
 intro z a' w4 hI
 obtain ⟨s0, rfl, hMB, hk0⟩ := hI
 have H4 : Hid (_ ∧ _) := hMB
 clear hMB H3
 by_cases hlt : z.r ≠ 0
 ·have hrd : True := trivial
  clear hrd
  obtain ⟨o, r, u, v, h, t⟩ := z
  have I : WI n a ⟨o, r, u, v, h, t⟩ := hk0
  have hrz : r ≠ 0 := hlt
  have hrb : r < big := by have h1 : r ≤ n := I.rn; have := ok.big; omega
  obtain ⟨k, r1, hk, er, hr1, ctz⟩ := trailing_any hrb hrz
  obtain ⟨p1, p2, p3, p4, p5, p6, p7⟩ := I.facts hrz er
  obtain ⟨i1, i2⟩ := I.next hrz er hr1
  have hh : h < 768 := I.hlt ok
  have hbn := ok.big
  have e0 := fun w => run_eqN r 0 hrb big_pos w
  rw [decide_eq_false hrz] at e0
  obtain ⟨U, hU⟩ : ∃ U, U = u * 2 ^ k := ⟨_, rfl⟩
  rw [← hU] at p6 p7 i1 i2
  have hun : u < n := I.un
  have c53 := fun w => shift_neg' r k hrb hk w
  rw [show r / 2 ^ k = r1 by rw [er, Nat.mul_div_cancel _ (Nat.two_pow_pos k)]] at c53
  have d53 := fun w => shift_up u k hk w
  rw [← hU, Nat.mod_eq_of_lt (show U < big by omega)] at d53
  have ch : ∀ w, Mm w [(J3_9, wkc o r u v ((h : Nat) : Int) t), (2, dtab)] → Calls Tryz.prog 106 #[PT J3_9 0] w fun e w' => e = .returned (.tuple #[]) ∧ Mm w' [(J3_9, wkc o r1 U v (((h : Nat) : Int) + ((k : Nat) : Int)) t)] ∧ Kp J3_9 w w' := fun w hm => halve_gen J3_9 o r u v k r1 U ((h : Nat) : Int) t hk (by omega) (by omega) ctz c53 d53 w hm
  have CH : Hid _ := ch
  have I1 : Hid _ := i1
  have I2 : Hid _ := i2
  have R1 : Hid (r1 ≤ r) := (by rw [er]; exact Nat.le_mul_of_pos_right _ (Nat.two_pow_pos k) : r1 ≤ r)
  clear ch c53 d53 ctz i1 i2 er hr1 hU I hk0
  by_cases hl : r1 < o
  ·have hrd : True := trivial
   clear hrd
   have cs : ∀ w, Mm w [(J3_9, wkc o r1 U v (((h : Nat) : Int) + ((k : Nat) : Int)) t)] → Calls Tryz.prog 107 #[PT J3_9 0] w fun e w' => e = .returned (.tuple #[]) ∧ Mm w' [(J3_9, wkc r1 (o - r1) v (U + v) (((h : Nat) : Int) + ((k : Nat) : Int)) (!t))] ∧ Kp J3_9 w w' := fun w hm => by
    have c31 := fun w => compare_any r1 o (by omega) (by omega) w
    rw [cmp_lt hl] at c31
    have c40 := fun w => sub_any o r1 (by omega) (by omega) w
    rw [decide_eq_false (by omega), show o + big - r1 = o - r1 + big by omega, Nat.add_mod_right, Nat.mod_eq_of_lt (show o - r1 < big by omega)] at c40
    have c45 := fun w => add_any U v (by omega) (by omega) w
    rw [decide_eq_false (by omega), Nat.mod_eq_of_lt (show U + v < big by omega)] at c45
    exact subtract_1 J3_9 o r1 U v _ _ (((h : Nat) : Int) + ((k : Nat) : Int)) t c31 c40 c45 w hm
   have CS : Hid _ := cs
   clear cs
   refine wp_seq (wp_seq ?_)
   refine zD 4 [.q (PT J3_9 6), .q (N r), .q (N 0), .q (.bool true)] H4 ?ho4 ?he4
   case ho4 => exact ak (by refine fun J => ⟨rfl, fun w' h' => ?_⟩; clear h'; go_simp) (ak (fun J => ⟨rfl, fun w' h' => ex_load6 h' 0 rfl rfl rfl rfl⟩) (ak (by refine fun J => ⟨rfl, fun w' h' => ?_⟩; clear h'; exact ex_zero6 rfl) (ak (fun J => ⟨rfl, fun w' _ => exec_neq6 e0 rfl rfl rfl⟩) trivial)))
   intro _ w5 H5
   clear H4
   refine rN (wp_cond_true rfl ?_)
   refine wp_skip (zA ?_)
   refine wp_block (wp_seq ?_)
   refine zD 0 [] H5 ?ho5 ?he5
   case ho5 => exact trivial
   intro _ w6 H6
   clear H5
   refine zH (l := [0]) rfl ?_
   refine rest_enter (d := 25) (R := fun vv w' => vv = .tuple #[] ∧ Mm w' [(J3_9, wkc o r1 U v (((h : Nat) : Int) + ((k : Nat) : Int)) t)] ∧ Kp J3_9 w6 w') rfl rfl rfl (exec_call (args := #[PT J3_9 0]) rfl call106 rfl (mpn rfl)) (Calls.mono (CH.out w6 (H6.out.1.two 0 4 rfl rfl (by decide))) (fun e w2 hh => ⟨_, hh.1, rfl, hh.2⟩)) ?_
   rintro _ w7 ⟨rfl, hn, hp⟩
   have H7 : Hid (Mm w7 [(J3_9, wkc o r1 U v (((h : Nat) : Int) + ((k : Nat) : Int)) t), (J1_0, zB a), (J1_1, zero6), (g, zT n), (2, dtab)] ∧ Below w.heap.size w w7) := ⟨H6.out.1.change 0 rfl hp hn, Below.kp H6.out.2 hp o3_9.out H6.out.2.size⟩
   clear hn hp H6
   simp only [Act.put, sa, sz, ss]
   refine zE (zA ?_)
   refine zD 0 [] H7 ?ho6 ?he6
   case ho6 => exact trivial
   intro _ w8 H8
   clear H7
   refine zH (l := [0]) rfl ?_
   refine rest_enter (d := 26) (R := fun vv w' => vv = .tuple #[] ∧ Mm w' [(J3_9, wkc r1 (o - r1) v (U + v) (((h : Nat) : Int) + ((k : Nat) : Int)) (!t))] ∧ Kp J3_9 w8 w') rfl rfl rfl (exec_call (args := #[PT J3_9 0]) rfl call107 rfl (mpn rfl)) (Calls.mono (CS.out w8 (H8.out.1.one 0 rfl)) (fun e w2 hh => ⟨_, hh.1, rfl, hh.2⟩)) ?_
   rintro _ w9 ⟨rfl, hn, hp⟩
   have H9 : Hid (Mm w9 [(J3_9, wkc r1 (o - r1) v (U + v) (((h : Nat) : Int) + ((k : Nat) : Int)) (!t)), (J1_0, zB a), (J1_1, zero6), (g, zT n), (2, dtab)] ∧ Below w.heap.size w w9) := ⟨H8.out.1.change 0 rfl hp hn, Below.kp H8.out.2 hp o3_9.out H8.out.2.size⟩
   clear hn hp H8
   simp only [Act.put, sa, sz, ss]
   refine zE (zY (zA ?_))
   exact ⟨⟨r1, o - r1, v, U + v, h + k, !t⟩, ⟨(slotfn [ud, ud, ud, ud, ud, ud, ud, ud, ud, ud, ud, ud, ud, ud, ud, ud, ud, ud, ud, ud, ud, PT J3_9 6, N r, N 0, .bool true, .tuple #[], .tuple #[]]), rfl, ⟨by rw [Int.natCast_add]; exact H9.out.1, H9.out.2⟩, I1.out hl⟩, (by show r1 + (o - r1) < o + r; have h4 : r1 ≤ r := R1.out; omega)⟩
  ·have hrd : True := trivial
   clear hrd
   have cs : ∀ w, Mm w [(J3_9, wkc o r1 U v (((h : Nat) : Int) + ((k : Nat) : Int)) t)] → Calls Tryz.prog 107 #[PT J3_9 0] w fun e w' => e = .returned (.tuple #[]) ∧ Mm w' [(J3_9, wkc o (r1 - o) U (v + U) (((h : Nat) : Int) + ((k : Nat) : Int)) t)] ∧ Kp J3_9 w w' := fun w hm => by
    have c31 := fun w => compare_any r1 o (by omega) (by omega) w
    have c40 := fun w => sub_any r1 o (by omega) (by omega) w
    rw [decide_eq_false (by omega), show r1 + big - o = r1 - o + big by omega, Nat.add_mod_right, Nat.mod_eq_of_lt (show r1 - o < big by omega)] at c40
    have c45 := fun w => add_any v U (by omega) (by omega) w
    rw [decide_eq_false (by omega), Nat.mod_eq_of_lt (show v + U < big by omega)] at c45
    exact subtract_2 J3_9 o r1 U v _ _ (((h : Nat) : Int) + ((k : Nat) : Int)) t _ (cmp_ge hl) c31 c40 c45 w hm
   have CS : Hid _ := cs
   clear cs
   refine wp_seq (wp_seq ?_)
   refine zD 4 [.q (PT J3_9 6), .q (N r), .q (N 0), .q (.bool true)] H4 ?ho7 ?he7
   case ho7 => exact ak (by refine fun J => ⟨rfl, fun w' h' => ?_⟩; clear h'; go_simp) (ak (fun J => ⟨rfl, fun w' h' => ex_load6 h' 0 rfl rfl rfl rfl⟩) (ak (by refine fun J => ⟨rfl, fun w' h' => ?_⟩; clear h'; exact ex_zero6 rfl) (ak (fun J => ⟨rfl, fun w' _ => exec_neq6 e0 rfl rfl rfl⟩) trivial)))
   intro _ w10 H10
   clear H4
   refine rN (wp_cond_true rfl ?_)
   refine wp_skip (zA ?_)
   refine wp_block (wp_seq ?_)
   refine zD 0 [] H10 ?ho8 ?he8
   case ho8 => exact trivial
   intro _ w11 H11
   clear H10
   refine zH (l := [0]) rfl ?_
   refine rest_enter (d := 25) (R := fun vv w' => vv = .tuple #[] ∧ Mm w' [(J3_9, wkc o r1 U v (((h : Nat) : Int) + ((k : Nat) : Int)) t)] ∧ Kp J3_9 w11 w') rfl rfl rfl (exec_call (args := #[PT J3_9 0]) rfl call106 rfl (mpn rfl)) (Calls.mono (CH.out w11 (H11.out.1.two 0 4 rfl rfl (by decide))) (fun e w2 hh => ⟨_, hh.1, rfl, hh.2⟩)) ?_
   rintro _ w12 ⟨rfl, hn, hp⟩
   have H12 : Hid (Mm w12 [(J3_9, wkc o r1 U v (((h : Nat) : Int) + ((k : Nat) : Int)) t), (J1_0, zB a), (J1_1, zero6), (g, zT n), (2, dtab)] ∧ Below w.heap.size w w12) := ⟨H11.out.1.change 0 rfl hp hn, Below.kp H11.out.2 hp o3_9.out H11.out.2.size⟩
   clear hn hp H11
   simp only [Act.put, sa, sz, ss]
   refine zE (zA ?_)
   refine zD 0 [] H12 ?ho9 ?he9
   case ho9 => exact trivial
   intro _ w13 H13
   clear H12
   refine zH (l := [0]) rfl ?_
   refine rest_enter (d := 26) (R := fun vv w' => vv = .tuple #[] ∧ Mm w' [(J3_9, wkc o (r1 - o) U (v + U) (((h : Nat) : Int) + ((k : Nat) : Int)) t)] ∧ Kp J3_9 w13 w') rfl rfl rfl (exec_call (args := #[PT J3_9 0]) rfl call107 rfl (mpn rfl)) (Calls.mono (CS.out w13 (H13.out.1.one 0 rfl)) (fun e w2 hh => ⟨_, hh.1, rfl, hh.2⟩)) ?_
   rintro _ w14 ⟨rfl, hn, hp⟩
   have H14 : Hid (Mm w14 [(J3_9, wkc o (r1 - o) U (v + U) (((h : Nat) : Int) + ((k : Nat) : Int)) t), (J1_0, zB a), (J1_1, zero6), (g, zT n), (2, dtab)] ∧ Below w.heap.size w w14) := ⟨H13.out.1.change 0 rfl hp hn, Below.kp H13.out.2 hp o3_9.out H13.out.2.size⟩
   clear hn hp H13
   simp only [Act.put, sa, sz, ss]
   refine zE (zY (zA ?_))
   exact ⟨⟨o, r1 - o, U, v + U, h + k, t⟩, ⟨(slotfn [ud, ud, ud, ud, ud, ud, ud, ud, ud, ud, ud, ud, ud, ud, ud, ud, ud, ud, ud, ud, ud, PT J3_9 6, N r, N 0, .bool true, .tuple #[], .tuple #[]]), rfl, ⟨by rw [Int.natCast_add]; exact H14.out.1, H14.out.2⟩, I2.out hl⟩, (by show o + (r1 - o) < o + r; have h4 : r1 ≤ r := R1.out; omega)⟩
 obtain ⟨o, r, u, v, h, t⟩ := z
 have I : WI n a ⟨o, r, u, v, h, t⟩ := hk0
 have hr0 : r = 0 := Classical.byContradiction hlt
 have hh : h < 768 := I.hlt ok
 have hun : u < n := I.un
 have hog : o = Nat.gcd n a := by have h1 : Nat.gcd o r = Nat.gcd n a := I.gcd; rwa [hr0, Nat.gcd_zero_right] at h1
 have e0 := fun w => run_eqN r 0 (by rw [hr0]; exact big_pos) big_pos w
 rw [decide_eq_true hr0] at e0
 have HR0 : Hid _ := hr0
 clear hr0
 have ho1 : o = 1 := by rw [hog]; exact hg
 have e1 := fun w => run_eqN o c1 (by rw [ho1]; exact small_big 1 (by decide)) (by rw [HC1.out]; exact small_big 1 (by decide)) w
 rw [decide_eq_true (by rw [ho1, HC1.out])] at e1
 have HO : Hid _ := ho1
 clear ho1
 have II : Hid _ := I
 clear I hk0 hog hlt
 cases t
 ·have IT : Hid _ := II.out
  clear II
  have cn := fun w hm => negm_any (g := g) ok (show u < big by have := ok.big; omega) w hm
  have cd := fun w hm => dbp_any (g := g) ok (subm_lt_n ok.pos 0 u) hh w hm
  have CN : Hid _ := cn
  have CD : Hid _ := cd
  clear cn cd
  refine wp_seq (wp_seq ?_)
  refine zD 4 [.q (PT J3_9 6), .q (N r), .q (N 0), .q (.bool false)] H4 ?ho10f ?he10f
  case ho10f => exact ak (by refine fun J => ⟨rfl, fun w' h' => ?_⟩; clear h'; go_simp) (ak (fun J => ⟨rfl, fun w' h' => ex_load6 h' 0 rfl rfl rfl rfl⟩) (ak (by refine fun J => ⟨rfl, fun w' h' => ?_⟩; clear h'; exact ex_zero6 rfl) (ak (fun J => ⟨rfl, fun w' _ => exec_neq6 e0 rfl rfl rfl⟩) trivial)))
  intro _ w15 H15
  clear H4
  refine rN (wp_cond_false rfl ?_)
  refine wp_exit ?_
  repeat refine then_exit ?_
  refine block_exit ?_
  refine zA (wp_seq (wp_seq ?_))
  refine zS 4 [.q (PT J3_9 0), .q (N o), .call (N c1), .q (.bool false)] H15 ?ho11f ?he11f
  case ho11f => exact ak (by refine fun J => ⟨rfl, fun w' h' => ?_⟩; clear h'; go_simp) (ak (fun J => ⟨rfl, fun w' h' => ex_load6 h' 0 rfl rfl rfl rfl⟩) (ak (fun J => ⟨rfl, fun w' h' => eC call17 (CO.out w')⟩) (ak (fun J => ⟨rfl, fun w' _ => exec_neq6 e1 rfl rfl rfl⟩) trivial)))
  intro _ w16 H16
  clear H15
  refine rN (wp_cond_false rfl ?_)
  refine wp_skip (zA (wp_seq ?_))
  refine zC 4 [.q (PT J3_9 12), .q (N u), .made zero6 24, .laid 2 zero6 (zB u)] (sB H16) ?ho12f ?he12f (hL := ?hL12f)
  case hL12f => exact ⟨⟨_, rfl⟩, trivial⟩
  case ho12f => exact ak (by refine fun J => ⟨rfl, fun w' h' => ?_⟩; clear h'; go_simp) (ak (fun J => ⟨rfl, fun w' h' => ex_load6 h' 0 rfl rfl rfl rfl⟩) (am (zG rfl) (ak (fun J => ⟨rfl, rfl, rfl, fun w' h' => zK h' rfl rfl rfl⟩) trivial)))
  intro J w17 l hM hl
  have H17 : Hid (Mm w17 ([(J 2, zB u)] ++ _) ∧ _) := wB H16 hM hl [2]
  have o12_2 := vB H16 hM hl 2
  clear hM hl l H16
  generalize J 2 = J12_2 at H17 o12_2 ⊢
  clear J
  refine rN (wp_seq (wp_seq ?_))
  refine zD 3 [.q (PT J3_9 25), .q (.bool false), .q (.bool true)] H17 ?ho13f ?he13f
  case ho13f => exact ak (by refine fun J => ⟨rfl, fun w' h' => ?_⟩; clear h'; go_simp) (ak (fun J => ⟨rfl, fun w' h' => ex_loadB h' 1 rfl rfl rfl rfl⟩) (ak (by refine fun J => ⟨rfl, fun w' h' => ?_⟩; clear h'; go_simp) trivial))
  intro _ w18 H18
  clear H17
  refine rN (wp_cond_true rfl ?_)
  refine zD 3 [.q (PT g 0), .q (N u), .call (N (subm n 0 u))] H18 ?ho14f ?he14f
  case ho14f => exact ar (ak (fun J => ⟨rfl, fun w' h' => ex_load6 h' 0 rfl rfl rfl rfl⟩) (ak (fun J => ⟨rfl, fun w' h' => eC call95 (CN.out w' (h'.one 4 rfl))⟩) trivial))
  intro _ w19 H19
  clear H18
  refine zH (l := [3]) rfl ?_
  refine sG rfl (fun h => zL h 0 rfl rfl rfl rfl (Nat.le_of_ble_eq_true rfl)) 0 [(_, zB (subm n 0 u)), _, _, _, _, _] H19 o12_2 fun w20 H20 => ?_
  clear H19
  refine zE (zA (wp_seq ?_))
  refine zD 5 [.q (PT g 0), .q (N (subm n 0 u)), .q (PT J3_9 24), .q (.int .i64 ((h : Nat) : Int)), .call (N (dv n (subm n 0 u) h))] H20 ?ho15f ?he15f
  case ho15f => exact ar (ak (fun J => ⟨rfl, fun w' h' => ex_load6 h' 0 rfl rfl rfl rfl⟩) (ak (by refine fun J => ⟨rfl, fun w' h' => ?_⟩; clear h'; go_simp) (ak (fun J => ⟨rfl, fun w' h' => ex_loadI h' 1 rfl rfl rfl rfl⟩) (ak (fun J => ⟨rfl, fun w' h' => eC call108 (CD.out w' (h'.one 4 rfl))⟩) trivial))))
  intro _ w21 H21
  clear H20
  refine zH (l := [5, 6]) rfl ?_
  refine sG rfl (fun h => zL h 3 rfl rfl rfl rfl (Nat.le_of_ble_eq_true rfl)) 3 [_, _, _, (_, zB (dv n (subm n 0 u) h)), _, _] H21 o1_1 fun w22 H22 => ?_
  clear H21
  refine zF (d := 5) rfl rfl rfl rfl ?_
  simp only [Act.put, sa, sz, ss]
  refine zE (zA (wp_ret ?_))
  repeat (first | refine zJ ?_ | refine zI ?_)
  have c0 := H22.out.1.get 3 rfl 0 rfl
  have c1 := H22.out.1.get 3 rfl 1 rfl
  have c2 := H22.out.1.get 3 rfl 2 rfl
  have c3 := H22.out.1.get 3 rfl 3 rfl
  have c4 := H22.out.1.get 3 rfl 4 rfl
  have c5 := H22.out.1.get 3 rfl 5 rfl
  refine bodyPost_ret (v := .tuple #[N (dv n (subm n 0 u) h), .int .i64 0]) (by simp [results, Tryz.results71, go_sem, *]) rfl ?_
  exact ⟨_, rfl, Nat.mod_lt _ ok.pos, end_false ok (by have h3 := IT.out; rw [HR0.out] at h3; exact h3) HO.out, H22.out.2⟩
 ·have IT : Hid _ := II.out
  clear II
  have cd := fun w hm => dbp_any (g := g) ok hun hh w hm
  have CD : Hid _ := cd
  clear cd
  refine wp_seq (wp_seq ?_)
  refine zD 4 [.q (PT J3_9 6), .q (N r), .q (N 0), .q (.bool false)] H4 ?ho10t ?he10t
  case ho10t => exact ak (by refine fun J => ⟨rfl, fun w' h' => ?_⟩; clear h'; go_simp) (ak (fun J => ⟨rfl, fun w' h' => ex_load6 h' 0 rfl rfl rfl rfl⟩) (ak (by refine fun J => ⟨rfl, fun w' h' => ?_⟩; clear h'; exact ex_zero6 rfl) (ak (fun J => ⟨rfl, fun w' _ => exec_neq6 e0 rfl rfl rfl⟩) trivial)))
  intro _ w15 H15
  clear H4
  refine rN (wp_cond_false rfl ?_)
  refine wp_exit ?_
  repeat refine then_exit ?_
  refine block_exit ?_
  refine zA (wp_seq (wp_seq ?_))
  refine zS 4 [.q (PT J3_9 0), .q (N o), .call (N c1), .q (.bool false)] H15 ?ho11t ?he11t
  case ho11t => exact ak (by refine fun J => ⟨rfl, fun w' h' => ?_⟩; clear h'; go_simp) (ak (fun J => ⟨rfl, fun w' h' => ex_load6 h' 0 rfl rfl rfl rfl⟩) (ak (fun J => ⟨rfl, fun w' h' => eC call17 (CO.out w')⟩) (ak (fun J => ⟨rfl, fun w' _ => exec_neq6 e1 rfl rfl rfl⟩) trivial)))
  intro _ w16 H16
  clear H15
  refine rN (wp_cond_false rfl ?_)
  refine wp_skip (zA (wp_seq ?_))
  refine zC 4 [.q (PT J3_9 12), .q (N u), .made zero6 24, .laid 2 zero6 (zB u)] (sB H16) ?ho12t ?he12t (hL := ?hL12t)
  case hL12t => exact ⟨⟨_, rfl⟩, trivial⟩
  case ho12t => exact ak (by refine fun J => ⟨rfl, fun w' h' => ?_⟩; clear h'; go_simp) (ak (fun J => ⟨rfl, fun w' h' => ex_load6 h' 0 rfl rfl rfl rfl⟩) (am (zG rfl) (ak (fun J => ⟨rfl, rfl, rfl, fun w' h' => zK h' rfl rfl rfl⟩) trivial)))
  intro J w17 l hM hl
  have H17 : Hid (Mm w17 ([(J 2, zB u)] ++ _) ∧ _) := wB H16 hM hl [2]
  have o12_2 := vB H16 hM hl 2
  clear hM hl l H16
  generalize J 2 = J12_2 at H17 o12_2 ⊢
  clear J
  refine rN (wp_seq (wp_seq ?_))
  refine zD 3 [.q (PT J3_9 25), .q (.bool true), .q (.bool false)] H17 ?ho13t ?he13t
  case ho13t => exact ak (by refine fun J => ⟨rfl, fun w' h' => ?_⟩; clear h'; go_simp) (ak (fun J => ⟨rfl, fun w' h' => ex_loadB h' 1 rfl rfl rfl rfl⟩) (ak (by refine fun J => ⟨rfl, fun w' h' => ?_⟩; clear h'; go_simp) trivial))
  intro _ w18 H18
  clear H17
  refine rN (wp_cond_false rfl ?_)
  refine wp_skip (zA (wp_seq ?_))
  refine zD 5 [.q (PT g 0), .q (N u), .q (PT J3_9 24), .q (.int .i64 ((h : Nat) : Int)), .call (N (dv n u h))] H18 ?ho14t ?he14t
  case ho14t => exact ar (ak (fun J => ⟨rfl, fun w' h' => ex_load6 h' 0 rfl rfl rfl rfl⟩) (ak (by refine fun J => ⟨rfl, fun w' h' => ?_⟩; clear h'; go_simp) (ak (fun J => ⟨rfl, fun w' h' => ex_loadI h' 1 rfl rfl rfl rfl⟩) (ak (fun J => ⟨rfl, fun w' h' => eC call108 (CD.out w' (h'.one 4 rfl))⟩) trivial))))
  intro _ w19 H19
  clear H18
  refine zH (l := [5, 6]) rfl ?_
  refine sG rfl (fun h => zL h 3 rfl rfl rfl rfl (Nat.le_of_ble_eq_true rfl)) 3 [_, _, _, (_, zB (dv n u h)), _, _] H19 o1_1 fun w20 H20 => ?_
  clear H19
  refine zF (d := 5) rfl rfl rfl rfl ?_
  simp only [Act.put, sa, sz, ss]
  refine zE (zA (wp_ret ?_))
  repeat (first | refine zJ ?_ | refine zI ?_)
  have c0 := H20.out.1.get 3 rfl 0 rfl
  have c1 := H20.out.1.get 3 rfl 1 rfl
  have c2 := H20.out.1.get 3 rfl 2 rfl
  have c3 := H20.out.1.get 3 rfl 3 rfl
  have c4 := H20.out.1.get 3 rfl 4 rfl
  have c5 := H20.out.1.get 3 rfl 5 rfl
  refine bodyPost_ret (v := .tuple #[N (dv n u h), .int .i64 0]) (by simp [results, Tryz.results71, go_sem, *]) rfl ?_
  exact ⟨_, rfl, Nat.mod_lt _ ok.pos, end_true ok (by have h3 := IT.out; rw [HR0.out] at h3; exact h3) HO.out, H20.out.2⟩
theorem call12 : CO 12 := by intro args w; go_simp
theorem call70 : CO 70 := by intro args w; go_simp
theorem call71 : CO 71 := by intro args w; go_simp
/-- The number that makes 1 with a. -/
def invm (n a : Nat) : Nat := ((List.range n).find? fun x => x * a % n == 1).getD 0
theorem inv_unique {n a x y : Nat} (hx : x < n) (hy : y < n) (h1 : x * a % n = 1) (h2 : y * a % n = 1) : x = y := by
 have hn : 1 < n := by
  rcases Nat.lt_or_ge 1 n with h | h
  ·exact h
  ·have : x * a % n < 1 := Nat.lt_of_lt_of_le (Nat.mod_lt _ (by omega)) h
   omega
 have e1 : Cg n (x * a) 1 := by unfold Cg; rw [h1, Nat.mod_eq_of_lt hn]
 have e2 : Cg n (y * a) 1 := by unfold Cg; rw [h2, Nat.mod_eq_of_lt hn]
 have s1 := e2.mulL x
 have s2 := e1.mulL y
 rw [Nat.mul_one] at s1 s2
 have e3 : x * (y * a) = y * (x * a) := Nat.mul_left_comm ..
 rw [e3] at s1
 exact (s1.symm.trans s2).eq_of_lt hx hy
theorem invm_eq {n a x : Nat} (hx : x < n) (h1 : x * a % n = 1) : invm n a = x := by
 unfold invm
 cases hf : (List.range n).find? fun x => x * a % n == 1 with
 | none =>
  have := List.find?_eq_none.1 hf x (List.mem_range.2 hx)
  simp [h1] at this
 | some y =>
  have h2 := List.find?_some hf
  have h3 := List.mem_range.1 (List.mem_of_find?_eq_some hf)
  exact inv_unique h3 hx (by simpa using h2) h1
theorem inv_ok {g n a : Nat} (ok : Ok n) (ha : a < big) (hg : Nat.gcd n a = 1) (w : World) (hm : Mm w [(g, zT n), (2, dtab)]) :
  Calls Tryz.prog 71 #[PT g 0, N a] w (Rt w (.tuple #[N (invm n a), .int .i64 0])) := by
 refine (inv_good ok ha hg w hm).mono fun e w' h => ?_
 obtain ⟨x, rfl, hx, h1, hb⟩ := h
 rw [invm_eq hx h1]
 exact ⟨rfl, hb⟩
theorem call9 : CO 9 := by intro args w; go_simp
theorem call15 : CO 15 := by intro args w; go_simp
theorem call18 : CO 18 := by intro args w; go_simp
theorem call19 : CO 19 := by intro args w; go_simp
theorem call24 : CO 24 := by intro args w; go_simp
theorem call25 : CO 25 := by intro args w; go_simp
theorem call26 : CO 26 := by intro args w; go_simp
theorem call27 : CO 27 := by intro args w; go_simp
theorem call29 : CO 29 := by intro args w; go_simp
theorem call30 : CO 30 := by intro args w; go_simp
theorem call31 : CO 31 := by intro args w; go_simp
theorem call32 : CO 32 := by intro args w; go_simp
theorem call36 : CO 36 := by intro args w; go_simp
theorem call41 : CO 41 := by intro args w; go_simp
theorem call42 : CO 42 := by intro args w; go_simp
theorem call43 : CO 43 := by intro args w; go_simp
theorem call45 : CO 45 := by intro args w; go_simp
theorem call46 : CO 46 := by intro args w; go_simp
theorem call50 : CO 50 := by intro args w; go_simp
theorem call51 : CO 51 := by intro args w; go_simp
theorem call52 : CO 52 := by intro args w; go_simp
theorem call53 : CO 53 := by intro args w; go_simp
theorem call54 : CO 54 := by intro args w; go_simp
theorem call56 : CO 56 := by intro args w; go_simp
theorem call57 : CO 57 := by intro args w; go_simp
theorem call58 : CO 58 := by intro args w; go_simp
theorem call62 : CO 62 := by intro args w; go_simp
theorem call67 : CO 67 := by intro args w; go_simp
theorem call72 : CO 72 := by intro args w; go_simp
theorem call73 : CO 73 := by intro args w; go_simp
theorem call74 : CO 74 := by intro args w; go_simp
theorem call75 : CO 75 := by intro args w; go_simp
theorem call76 : CO 76 := by intro args w; go_simp
theorem call77 : CO 77 := by intro args w; go_simp
theorem call78 : CO 78 := by intro args w; go_simp
theorem call79 : CO 79 := by intro args w; go_simp
theorem call81 : CO 81 := by intro args w; go_simp
theorem call86 : CO 86 := by intro args w; go_simp
theorem call88 : CO 88 := by intro args w; go_simp
theorem call89 : CO 89 := by intro args w; go_simp
theorem call91 : CO 91 := by intro args w; go_simp
theorem call92 : CO 92 := by intro args w; go_simp
theorem call93 : CO 93 := by intro args w; go_simp
theorem call94 : CO 94 := by intro args w; go_simp
theorem call105 : CO 105 := by intro args w; go_simp
theorem call109 : CO 109 := by intro args w; go_simp
theorem call110 : CO 110 := by intro args w; go_simp
theorem call111 : CO 111 := by intro args w; go_simp
theorem call112 : CO 112 := by intro args w; go_simp
theorem call113 : CO 113 := by intro args w; go_simp
theorem call114 : CO 114 := by intro args w; go_simp
theorem call115 : CO 115 := by intro args w; go_simp
theorem call116 : CO 116 := by intro args w; go_simp
theorem call118 : CO 118 := by intro args w; go_simp
theorem call119 : CO 119 := by intro args w; go_simp
theorem call124 : CO 124 := by intro args w; go_simp
theorem call125 : CO 125 := by intro args w; go_simp
theorem call131 : CO 131 := by intro args w; go_simp
theorem call132 : CO 132 := by intro args w; go_simp
theorem call133 : CO 133 := by intro args w; go_simp
theorem call135 : CO 135 := by intro args w; go_simp
theorem call136 : CO 136 := by intro args w; go_simp
theorem call137 : CO 137 := by intro args w; go_simp
theorem call138 : CO 138 := by intro args w; go_simp
theorem call139 : CO 139 := by intro args w; go_simp
theorem call140 : CO 140 := by intro args w; go_simp
theorem call142 : CO 142 := by intro args w; go_simp
theorem call147 : CO 147 := by intro args w; go_simp
theorem call148 : CO 148 := by intro args w; go_simp
theorem call149 : CO 149 := by intro args w; go_simp
theorem call150 : CO 150 := by intro args w; go_simp
theorem call156 : CO 156 := by intro args w; go_simp
theorem call157 : CO 157 := by intro args w; go_simp
theorem call159 : CO 159 := by intro args w; go_simp
theorem mod_low (P k : Nat) (hk : k ≤ 6) : P % big % 2 ^ (64 * k) = P % 2 ^ (64 * k) := by
 obtain ⟨n, hn, e⟩ := big_pow
 rw [e]
 exact Nat.mod_mod_of_dvd P (Nat.pow_dvd_pow 2 (by omega))
theorem brw_low (L P k : Nat) (hk : k ≤ 6) : brw L (P % big) k = brw L P k := by unfold brw; rw [mod_low P k hk]
/-- What is left, the lowest k words less P. -/
def tkf (L P k m : Nat) : Int := if m < k then wd (L + big - P % big) m else wd L m
theorem tkf_at {L P k b : Nat} (hk : k < 6) : (lec b (tkf L P k))[6 + k]? = some (.int .u64 (wd L k)) := by
 rw [lec_hi hk]
 unfold tkf
 rw [if_neg (by omega)]
theorem tkf_step {L P k b : Nat} {v : Int} (h : v = wd (L + big - P % big) k) : lec b (upd (tkf L P k) k v) = lec b (tkf L P (k + 1)) := lec_congr fun j _ => by
 unfold upd tkf
 by_cases h1 : j = k
 ·subst h1; rw [if_pos rfl, if_pos (by omega), h]
 ·rw [if_neg h1]
  by_cases h2 : j < k
  ·rw [if_pos h2, if_pos (by omega)]
  ·rw [if_neg h2, if_neg (by omega)]
theorem tkf_start (L P b : Nat) : lec b (wd L) = lec b (tkf L P 0) := lec_congr fun j _ => by
 unfold tkf
 rw [if_neg (by omega)]
theorem tkf_end (L P b : Nat) : lec b (tkf L P 6) = lec b (wd ((L + big - P % big) % big)) := lec_congr fun j hj => by
 unfold tkf
 rw [if_pos hj, wd_mod _ _ hj]
theorem big_pos2 : 0 < big := by rw [big_eq]; exact pow_pos' 6
theorem take_word (L P k : Nat) (hk : k < 6) : subLo (wd L k) (wd P k) (brw L P k) = wd (L + big - P % big) k := by
 rw [← sub_word L (P % big) k hk (Nat.mod_lt _ big_pos2), wd_mod _ _ hk, brw_low _ _ _ (by omega)]
theorem mulLo_comm (x y m c : Int) : mulLo x y m c = mulLo y x m c := by unfold mulLo; rw [Int.mul_comm]
theorem mulHi_comm (x y m c : Int) : mulHi x y m c = mulHi y x m c := by unfold mulHi; rw [Int.mul_comm]
set_option maxHeartbeats 1000000 in
theorem take_gen (g b L t P T : Nat) (hT : IntKind.u64.wrap (((cc 0 t b 6 : Nat) : Int) + brw L P 6) = ((T : Nat) : Int))
  (c0 : ((0 : Nat) : Int) = ((cc 0 t b 0 : Nat) : Int)) (d0 : (0 : Int) = brw L P 0)
  (cm : ∀ k w, Calls Tryz.prog 65 #[.int .u64 (wd b k), .int .u64 ((t : Nat) : Int), .int .u64 0, .int .u64 ((cc 0 t b k : Nat) : Int)] w (Rt w (.tuple #[.int .u64 (wd P k), .int .u64 ((cc 0 t b (k + 1) : Nat) : Int)])))
  (cs : ∀ k w, (callFunc 63 #[.int .u64 (wd L k), .int .u64 (wd P k), .int .u64 (brw L P k)]).run Tryz.prog w = .ok (.value (.tuple #[.int .u64 (subLo (wd L k) (wd P k) (brw L P k)), .int .u64 (brw L P (k + 1))])) w) (w : World) (hm : Mm w [(g, lec b (wd L))]) :
  Calls Tryz.prog 132 #[PT g 0, .int .u64 ((t : Nat) : Int)] w fun e w' => e = .returned (.int .u64 ((T : Nat) : Int)) ∧ Mm w' [(g, lec b (tkf L P 6))] ∧ Kp g w w' := by
 have H0 : Hid (_ ∧ _) := ⟨hm, Kp.refl g w⟩
 clear hm
 have CM : Hid _ := cm
 have CS : Hid _ := cs
 clear cm cs
 go_enter Tryz.func132, Tryz.ntmps132
 refine wp_seq ?_
 refine zC 1 [.q (.int .u64 0)] (sB H0) ?ho1 ?he1
 case ho1 => exact ar trivial
 intro J w1 l hM hl
 have H1 := keepK H0 hM.below
 clear hM hl l J
 refine rN (wp_seq ?_)
 refine zC 3 [.q (.int .u64 0), .q (.int .u64 0), .q (.int .u64 0)] (sB H1) ?ho2 ?he2
 case ho2 => exact ar (ar (ar trivial))
 intro J w2 l hM hl
 have H2 := keepK H1 hM.below
 clear hM hl l H1 J
 refine rN (wp_seq (wp_seq ?_))
 refine zC 1 [.q (.int .i64 0)] (sB H2) ?ho3 ?he3
 case ho3 => exact ar trivial
 intro J w3 l hM hl
 have H3 := keepK H2 hM.below
 clear hM hl l H2 J
 refine rN (wp_block ?_)
 refine loop_ghost (α := Nat) (fun k a' w' => ∃ s0 : Nat → Value, a' = ⟨#[PT g 0, .int .u64 ((t : Nat) : Int), ud, ud, .int .u64 0, s0 5, .int .u64 ((cc 0 t b k : Nat) : Int), .int .u64 (brw L P k), s0 8, .int .i64 ((k : Nat) : Int), s0 10, s0 11, s0 12, s0 13, s0 14, s0 15, s0 16, s0 17, s0 18, s0 19, s0 20, s0 21, s0 22, s0 23, s0 24, s0 25, s0 26, s0 27, s0 28, s0 29, s0 30, s0 31, s0 32, s0 33, s0 34, s0 35, s0 36, s0 37, s0 38, s0 39, s0 40, s0 41, ud, ud, ud], []⟩ ∧ (Mm w' [(g, lec b (tkf L P k))] ∧ Kp g w w') ∧ k ≤ 6) (fun k => 6 - k) 0 ?st0 ?rd0
 case st0 => exact ⟨(slotfn [ud, ud, ud, ud, ud, .int .u64 0, ud, ud, ud, ud, ud, ud, ud, ud, ud, ud, ud, ud, ud, ud, ud, ud, ud, ud, ud, ud, ud, ud, ud, ud, ud, ud, ud, ud, ud, ud, ud, ud, ud, ud, ud, ud]), by rw [← c0, ← d0]; rfl, ⟨H3.out.1.at0 (tkf_start L P b), H3.out.2⟩, by omega⟩
 intro k a' w4 hI
 obtain ⟨s0, rfl, hMB, hk0⟩ := hI
 have H4 : Hid (_ ∧ _) := hMB
 clear hMB H3
 by_cases hlt : k < 6
 ·have hrd : True := trivial
  clear hrd
  refine wp_seq ?_
  refine zC 1 [.q (.bool true)] (sB H4) ?ho4 ?he4
  case ho4 => exact ak (by refine fun J => ⟨rfl, fun w' h => ?_⟩; clear h; go_simp <;> omega) trivial
  intro J w5 l hM hl
  have H5 := keepK H4 hM.below
  clear hM hl l H4 J
  refine rN (wp_seq ?_)
  refine wp_cond_true rfl (wp_skip ?_)
  refine zA (wp_seq ?_)
  refine wp_block (wp_seq ?_)
  refine zC 2 [.q (.int .i64 ((k : Nat) : Int)), .q (.int .i64 ((k : Nat) : Int))] (sB H5) ?ho5 ?he5
  case ho5 => exact ar (ar trivial)
  intro J w6 l hM hl
  have H6 := keepK H5 hM.below
  clear hM hl l H5 J
  refine rN (wp_seq ?_)
  refine zC 13 [.q (PT g 0), .q (.int .i64 ((k : Nat) : Int)), .q (PT g 0), .q (PT g 0), .q (PT g (0 + k)), .q (.int .u64 (wd b k)), .q (.int .u64 ((t : Nat) : Int)), .q (.int .u64 ((cc 0 t b k : Nat) : Int)), .call (.tuple #[.int .u64 (wd P k), .int .u64 ((cc 0 t b (k + 1) : Nat) : Int)]), .q (.tuple #[.int .u64 (wd P k), .int .u64 ((cc 0 t b (k + 1) : Nat) : Int)]), .q (.int .u64 (wd P k)), .q (.int .u64 ((cc 0 t b (k + 1) : Nat) : Int)), .q (.int .u64 (wd P k))] (sB H6) ?ho6 ?he6
  case ho6 => exact ar (ar (ag (ag (ak (fun J => ⟨rfl, fun w' _ => zX rfl rfl rfl hlt⟩) (aq (fun w' h => ex_load1 h 0 rfl rfl rfl (lec_lo hlt)) (ar (ar (ac (fun w' h => eC call65 (CM.out k w')) (ar (ag (ag (ar trivial))))))))))))
  intro J w7 l hM hl
  have H7 := keepK H6 hM.below
  clear hM hl l H6 J
  refine zH (l := [13]) rfl ?_
  refine zF (d := 6) rfl rfl rfl rfl ?_
  simp only [Act.put, sa, sz, ss]
  refine zE (zA ?_)
  refine walk_put (by kernel_rfl) 17 [13] [.q (PT g 0), .q (.int .i64 ((k : Nat) : Int)), .q (PT g 0), .q (.int .i64 ((k : Nat) : Int)), .q (PT g 0), .q (PT g 6), .q (PT g (6 + k)), .q (.int .u64 (wd L k)), .q (.int .u64 (wd P k)), .q (.int .u64 (brw L P k)), .q (.tuple #[.int .u64 (subLo (wd L k) (wd P k) (brw L P k)), .int .u64 (brw L P (k + 1))]), .q (.tuple #[.int .u64 (subLo (wd L k) (wd P k) (brw L P k)), .int .u64 (brw L P (k + 1))]), .q (.int .u64 (subLo (wd L k) (wd P k) (brw L P k))), .q (.int .u64 (brw L P (k + 1))), .q (PT g 0), .q (PT g 6), .q (PT g (6 + k))] _ ?pre7 ?F7 _ ?hpre7 (fun J => ?hF7) (by kernel_rfl) rfl trivial (sB H7) ?ho7 ?hla7 ?he7
  case hpre7 => simp only [tk, tz]; rfl
  case hF7 => simp only [zZ, Kind.val, Act.put, sa, sz, ss]; rfl
  case ho7 =>
   refine ar ?_
   refine ar ?_
   refine ar ?_
   refine ar ?_
   refine ag ?_
   refine ag ?_
   refine ak (fun J => ⟨rfl, fun w' _ => zX rfl rfl rfl hlt⟩) ?_
   refine aq (fun w' h => ex_load1 h 0 rfl rfl rfl (tkf_at hlt)) ?_
   refine ar ?_
   refine ar ?_
   refine aq (fun w' h => ex_extern rfl (CS.out k w') rfl (mpn rfl)) ?_
   refine ar ?_
   refine ag ?_
   refine ag ?_
   refine ag ?_
   refine ag ?_
   refine ak (fun J => ⟨rfl, fun w' _ => zX rfl rfl rfl hlt⟩) ?_
   exact trivial
  case hla7 => exact ⟨⟨_, _, rfl, rfl, fun J => ⟨rfl, fun w' => by first | rfl | go_simp⟩⟩, trivial⟩
  intro J w8 l hM hl
  have H8 := keepK H7 hM.below
  clear hM hl l H7 J
  refine ⟨_, ex_storeI H8.out.1 0 rfl rfl As22 rfl rfl (lec_bd hlt), ?_⟩
  have H9 : Hid (Mm (w8.setCells g (6 + k) [.int .u64 (subLo (wd L k) (wd P k) (brw L P k))]) [(g, lec b (tkf L P (k + 1)))] ∧ Kp g w (w8.setCells g (6 + k) [.int .u64 (subLo (wd L k) (wd P k) (brw L P k))])) := ⟨by
   have h := H8.out.1.put 0 (off := (6 + k)) (vs := [.int .u64 (subLo (wd L k) (wd P k) (brw L P k))]) rfl (lec_bd hlt)
   rw [lec_put hlt, tkf_step (take_word L P k hlt)] at h
   exact h, H8.out.2.put (Or.inl rfl)⟩
  clear H8
  generalize hgw : World.setCells _ _ _ _ = w9 at H9 ⊢
  clear hgw
  refine zH (l := [18]) rfl ?_
  refine zF (d := 7) rfl rfl rfl rfl ?_
  simp only [Act.put, sa, sz, ss]
  refine zE (zY (zA ?_))
  refine zC 1 [.q (.int .i64 ((k + 1 : Nat) : Int))] (sB H9) ?ho8 ?he8
  case ho8 => exact ak (by refine fun J => ⟨rfl, fun w' h => ?_⟩; clear h; go_simp; rw [IntKind.wrap_i64]; omega) trivial
  intro J w10 l hM hl
  have H10 := keepK H9 hM.below
  clear hM hl l H9 J
  refine zH (l := [1]) rfl ?_
  refine zF (d := 9) rfl rfl rfl rfl ?_
  simp only [Act.put, sa, sz, ss]
  refine zE (zA ?_)
  exact ⟨k + 1, ⟨(slotfn [ud, ud, ud, ud, ud, .int .u64 (wd P k), ud, ud, .int .i64 ((k : Nat) : Int), ud, .bool true, .int .i64 ((k : Nat) : Int), .tuple #[.int .u64 (wd P k), .int .u64 ((cc 0 t b (k + 1) : Nat) : Int)], PT g 0, .int .i64 ((k : Nat) : Int), PT g 0, PT g 0, PT g (0 + k), .int .u64 (wd b k), .int .u64 ((t : Nat) : Int), .int .u64 ((cc 0 t b k : Nat) : Int), .tuple #[.int .u64 (wd P k), .int .u64 ((cc 0 t b (k + 1) : Nat) : Int)], .int .u64 (wd P k), .int .u64 ((cc 0 t b (k + 1) : Nat) : Int), .tuple #[.int .u64 (subLo (wd L k) (wd P k) (brw L P k)), .int .u64 (brw L P (k + 1))], PT g 0, .int .i64 ((k : Nat) : Int), PT g 0, .int .i64 ((k : Nat) : Int), PT g 0, PT g 6, PT g (6 + k), .int .u64 (wd L k), .int .u64 (wd P k), .int .u64 (brw L P k), .tuple #[.int .u64 (subLo (wd L k) (wd P k) (brw L P k)), .int .u64 (brw L P (k + 1))], .int .u64 (subLo (wd L k) (wd P k) (brw L P k)), .int .u64 (brw L P (k + 1)), PT g 0, PT g 6, PT g (6 + k), .int .i64 ((k + 1 : Nat) : Int)]), rfl, ⟨H10.out.1, H10.out.2⟩, by omega⟩, by omega⟩
 have hk6 : k = 6 := by omega
 subst hk6
 refine wp_seq ?_
 refine zC 1 [.q (.bool false)] (sB H4) ?ho9 ?he9
 case ho9 => exact ak (by refine fun J => ⟨rfl, fun w' h => ?_⟩; clear h; go_simp <;> omega) trivial
 intro J w11 l hM hl
 have H11 := keepK H4 hM.below
 clear hM hl l H4 J
 refine rN (wp_seq (wp_cond_false rfl ?_))
 refine wp_exit ?_
 repeat refine then_exit ?_
 refine block_exit ?_
 refine zA (wp_seq ?_)
 refine zC 4 [.q (.int .u64 ((cc 0 t b 6 : Nat) : Int)), .q (.int .u64 (brw L P 6)), .q (.int .u64 ((T : Nat) : Int)), .q (.int .u64 ((T : Nat) : Int))] (sB H11) ?ho10 ?he10
 case ho10 => exact ar (ar (ag (ar trivial)))
 intro J w12 l hM hl
 have H12 := keepK H11 hM.below
 clear hM hl l H11 J
 refine rN (wp_ret ?_)
 repeat (first | refine zJ ?_ | refine zI ?_)
 refine bodyPost_ret (v := .int .u64 ((T : Nat) : Int)) (by simp [results, Tryz.results132, go_sem, *]) rfl ?_
 exact ⟨rfl, H12.out.1.one 0 rfl, H12.out.2⟩
theorem cc_any (t b k : Nat) : cc 0 t b k = t * (b % 2 ^ (64 * k)) / 2 ^ (64 * k) := by unfold cc; rw [Nat.zero_mod, Nat.zero_add]
theorem cc_six (t b : Nat) (hb : b < big) : cc 0 t b 6 = t * b / big := by
 obtain ⟨m, hm, e⟩ := big_pow
 rw [← hm, cc_any, ← e, Nat.mod_eq_of_lt hb]
theorem brw_six (L P : Nat) (hL : L < big) : brw L P 6 = (((if L < P % big then 1 else 0 : Nat)) : Int) := by
 obtain ⟨m, hm, e⟩ := big_pow
 rw [← hm]
 unfold brw
 rw [← e, Nat.mod_eq_of_lt hL]
 split <;> rfl
/-- What taking lacks above. -/
def tkT (L t b : Nat) : Nat := t * b / big + (if L < t * b % big then 1 else 0)
theorem takeL_any (g b L t : Nat) (hL : L < big) (hb : b < big) (ht : t < 18446744073709551616) (w : World) (hm : Mm w [(g, lec b (wd L))]) :
  Calls Tryz.prog 132 #[PT g 0, .int .u64 ((t : Nat) : Int)] w fun e w' => e = .returned (.int .u64 ((tkT L t b : Nat) : Int)) ∧ Mm w' [(g, lec b (wd ((L + big - t * b % big) % big)))] ∧ Kp g w w' := by
 have hcl : ∀ k, cc 0 t b k < 18446744073709551616 := fun k => cc_lt 0 t b k ht
 have h6 := cc_six t b hb
 have hb6 := brw_six L (t * b) hL
 have hT : IntKind.u64.wrap (((cc 0 t b 6 : Nat) : Int) + brw L (t * b) 6) = ((tkT L t b : Nat) : Int) := by
  have h1 : t * b / big < 18446744073709551615 := by
   rw [Nat.div_lt_iff_lt_mul big_pos2]
   rcases Nat.eq_zero_or_pos t with h | h
   ·rw [h, Nat.zero_mul]; exact Nat.mul_pos (by decide) big_pos2
   ·have : t * b < t * big := Nat.mul_lt_mul_of_pos_left hb h
    exact Nat.lt_of_lt_of_le this (Nat.mul_le_mul (by omega) (Nat.le_refl big))
  rw [IntKind.wrap_u64, h6, hb6]
  unfold tkT
  generalize t * b / big = q at h1
  split <;> omega
 have cm : ∀ k w, Calls Tryz.prog 65 #[.int .u64 (wd b k), .int .u64 ((t : Nat) : Int), .int .u64 0, .int .u64 ((cc 0 t b k : Nat) : Int)] w (Rt w (.tuple #[.int .u64 (wd (t * b) k), .int .u64 ((cc 0 t b (k + 1) : Nat) : Int)])) := fun k w => by
  have h := mulAddM_any (wd b k) ((t : Nat) : Int) 0 ((cc 0 t b k : Nat) : Int) (wd_bd _ _).1 (wd_bd _ _).2 (Int.natCast_nonneg _) (by omega) (by omega) (by omega) (Int.natCast_nonneg _) (by have := hcl k; omega) w
  have e1 := cc_lo 0 t b k
  have e2 := cc_hi 0 t b k
  rw [Nat.zero_add, wd_zero] at e1
  rw [wd_zero] at e2
  rw [mulLo_comm, mulHi_comm, e1, e2] at h
  exact h.mono fun e w2 ⟨h1, h2⟩ => ⟨h1, h2 ▸ Below.refl _ _⟩
 have cs : ∀ k w, (callFunc 63 #[.int .u64 (wd L k), .int .u64 (wd (t * b) k), .int .u64 (brw L (t * b) k)]).run Tryz.prog w = .ok (.value (.tuple #[.int .u64 (subLo (wd L k) (wd (t * b) k) (brw L (t * b) k)), .int .u64 (brw L (t * b) (k + 1))])) w := fun k w => by
  have h := sub64' (wd L k) (wd (t * b) k) (brw L (t * b) k) (wd_bd _ _).1 (wd_bd _ _).1 (wd_bd _ _).2 (brw_bd _ _ _).1 (brw_bd _ _ _).2 w
  rw [sub_cry] at h
  exact h
 have h := take_gen g b L t (t * b) (tkT L t b) hT (by rw [cc_zero]) (by unfold brw; simp [Nat.mod_one]) cm cs w hm
 rw [tkf_end] at h
 exact h
theorem Kp.join {g : Nat} {a b c : World} (h : Kp g a b) (k : Kp g b c) : Kp g a c :=
 ⟨k.os.trans h.os, k.tape.trans h.tape, k.output.trans h.output, Nat.le_trans h.size k.size, fun i hi hg => (k.block i (Nat.lt_of_lt_of_le hi h.size) hg).trans (h.block i hi hg)⟩
set_option maxHeartbeats 1000000 in
theorem step_gen (g b L L1 a0 t T D : Nat) (i : Int) (f : Nat → Nat) (A : Nat → Int) (cr : Nat → Bool)
  (h00 : A 0 = 0) (hN : ∀ x, x + 1 ≤ D → ¬ A (x + 1) = 0) (hD : IntKind.u64.wrap (((a0 : Nat) : Int) - ((T : Nat) : Int)) = A D)
  (hT : ∀ x, cr x = true → IntKind.u64.wrap (A (x + 1) + 1) = A x) (hF : ∀ x, cr x = false → A (x + 1) = A x)
  (cs : ∀ w, Mm w [(g, lec b (wd L))] → Calls Tryz.prog 131 #[PT g 0, .int .i64 i] w fun e w' => e = .returned (.int .u64 ((a0 : Nat) : Int)) ∧ Mm w' [(g, lec b (wd L1))] ∧ Kp g w w')
  (cg : ∀ w, Calls Tryz.prog 133 #[.int .u64 ((a0 : Nat) : Int), .int .u64 (wd L1 5), .int .u64 (wd b 5)] w (Rt w (.int .u64 ((t : Nat) : Int))))
  (ct : ∀ w, Mm w [(g, lec b (wd L1))] → Calls Tryz.prog 132 #[PT g 0, .int .u64 ((t : Nat) : Int)] w fun e w' => e = .returned (.int .u64 ((T : Nat) : Int)) ∧ Mm w' [(g, lec b (wd (f D)))] ∧ Kp g w w')
  (ca : ∀ x w, Calls Tryz.prog 21 #[N (f (x + 1)), N b] w (Rt w (.tuple #[N (f x), .bool (cr x)]))) (w : World) (hm : Mm w [(g, lec b (wd L))]) :
  Calls Tryz.prog 105 #[PT g 0, .int .i64 i] w fun e w' => e = .returned (.tuple #[]) ∧ Mm w' [(g, lec b (wd (f 0)))] ∧ Kp g w w' := by
 have H0 : Hid (_ ∧ _) := ⟨hm, Kp.refl g w⟩
 clear hm
 have CS : Hid _ := cs
 have CG : Hid _ := cg
 have CT : Hid _ := ct
 have CA : Hid _ := ca
 have HN : Hid _ := hN
 have H00 : Hid _ := h00
 have HT : Hid _ := hT
 have HF : Hid _ := hF
 clear cs cg ct ca hN h00 hT hF
 go_enter Tryz.func105, Tryz.ntmps105
 refine wp_seq ?_
 refine zC 2 [.q (PT g 0), .q (.int .i64 i)] (sB H0) ?ho1 ?he1
 case ho1 => exact ar (ar trivial)
 intro J w1 l hM hl
 have H1 := keepK H0 hM.below
 clear hM hl l J
 refine zH (l := [2, 3]) rfl ?_
 refine rest_enter (d := 10) (R := fun vv w' => vv = .int .u64 ((a0 : Nat) : Int) ∧ Mm w' [(g, lec b (wd L1))] ∧ Kp g w1 w') rfl rfl rfl (exec_call (args := #[PT g 0, .int .i64 i]) rfl call131 rfl (mpn rfl)) (Calls.mono (CS.out w1 (H1.out.1.one 0 rfl)) (fun e w2 hh => ⟨_, hh.1, rfl, hh.2⟩)) ?_
 rintro _ w2 ⟨rfl, hn, hp⟩
 have H2 : Hid (Mm w2 [(g, lec b (wd L1))] ∧ Kp g w w2) := ⟨H1.out.1.change 0 rfl hp hn, H1.out.2.join hp⟩
 clear hn hp H1
 simp only [Act.put, sa, sz, ss]
 refine zF (d := 4) rfl rfl rfl rfl ?_
 simp only [Act.put, sa, sz, ss]
 refine zE (zA (wp_seq ?_))
 refine zC 1 [.q (.int .i64 5)] (sB H2) ?ho2 ?he2
 case ho2 => exact ar trivial
 intro J w3 l hM hl
 have H3 := keepK H2 hM.below
 clear hM hl l H2 J
 refine rN (wp_seq ?_)
 refine walk_enter (by kernel_rfl) 16 [0] [.q (.int .u64 ((a0 : Nat) : Int)), .q (PT g 0), .q (.int .u64 ((a0 : Nat) : Int)), .q (PT g 0), .q (.int .i64 5), .q (PT g 0), .q (PT g 6), .q (PT g 11), .q (.int .u64 (wd L1 5)), .q (PT g 0), .q (.int .i64 5), .q (PT g 0), .q (PT g 0), .q (PT g 5), .q (.int .u64 (wd b 5)), .call (.int .u64 ((t : Nat) : Int))] _ ?pre3 ?F3 ?G3 _ 27 (.int .u64 ((T : Nat) : Int)) ?hpre3 (fun J => ?hF3) (fun J => ?hG3) (by kernel_rfl) rfl trivial (sB H3) ?ho3 ?hla3 ?he3
 case hpre3 => simp only [tk, tz]; rfl
 case hF3 => simp only [zZ, Kind.val, Act.put, sa, sz, ss]; rfl
 case hG3 => simp only [zZ, Kind.val, Act.put, sa, sz, ss]; rfl
 case ho3 =>
  refine ar ?_
  refine ar ?_
  refine ar ?_
  refine ar ?_
  refine ar ?_
  refine ag ?_
  refine ag ?_
  refine ag ?_
  refine aq (fun w' h => ex_load1 h 0 rfl rfl rfl rfl) ?_
  refine ar ?_
  refine ar ?_
  refine ag ?_
  refine ag ?_
  refine ag ?_
  refine aq (fun w' h => ex_load1 h 0 rfl rfl rfl rfl) ?_
  refine ak (fun J => ⟨rfl, fun w' h => eC call133 (CG.out w')⟩) ?_
  exact trivial
 case hla3 => exact ⟨⟨_, _, rfl, rfl, fun J => ⟨rfl, fun w' => by first | rfl | go_simp⟩⟩, trivial⟩
 intro J w4 l hM hl
 have H4 := keepK H3 hM.below
 clear hM hl l H3 J
 refine ⟨132, #[PT g 0, .int .u64 ((t : Nat) : Int)], (fun w' => Mm w' [(g, lec b (wd (f D)))] ∧ Kp g w4 w'), exec_call (args := #[PT g 0, .int .u64 ((t : Nat) : Int)]) rfl call132 rfl (mpn rfl), CT.out w4 (H4.out.1.one 0 rfl), ?_⟩
 rintro w5 ⟨hn, hp⟩
 have H5 : Hid (Mm w5 [(g, lec b (wd (f D)))] ∧ Kp g w w5) := ⟨H4.out.1.change 0 rfl hp hn, H4.out.2.join hp⟩
 clear hn hp H4
 refine zH (l := [17, 18]) rfl ?_
 refine zF (d := 28) (v := .int .u64 (A D)) (w' := w5) rfl rfl rfl (by go_simp) ?_
 simp only [Act.put, sa, sz, ss]
 refine zF (d := 4) rfl rfl rfl rfl ?_
 simp only [Act.put, sa, sz, ss]
 refine zE (zA (wp_block ?_))
 refine loop_ghost (α := Nat) (fun d a' w' => ∃ s0 : Nat → Value, a' = ⟨#[PT g 0, .int .i64 i, undef, undef, .int .u64 (A d), .int .i64 5, s0 6, s0 7, PT g 0, .int .i64 i, .int .u64 ((a0 : Nat) : Int), .int .u64 ((a0 : Nat) : Int), PT g 0, .int .u64 ((a0 : Nat) : Int), PT g 0, .int .i64 5, PT g 0, PT g 6, PT g 11, .int .u64 (wd L1 5), PT g 0, .int .i64 5, PT g 0, PT g 0, PT g 5, .int .u64 (wd b 5), .int .u64 ((t : Nat) : Int), .int .u64 ((T : Nat) : Int), .int .u64 (A D), s0 29, s0 30, s0 31, s0 32, s0 33, s0 34, s0 35, s0 36, s0 37, s0 38, s0 39, s0 40, s0 41, s0 42, s0 43, s0 44, s0 45, s0 46, s0 47, s0 48, s0 49], []⟩ ∧ (Mm w' [(g, lec b (wd (f d)))] ∧ Kp g w w') ∧ d ≤ D) (fun d => d) D ?st0 ?rd0
 case st0 => exact ⟨(slotfn [ud, ud, ud, ud, ud, ud, ud, ud, ud, ud, ud, ud, ud, ud, ud, ud, ud, ud, ud, ud, ud, ud, ud, ud, ud, ud, ud, ud, ud, ud, ud, ud, ud, ud, ud, ud, ud, ud, ud, ud, ud, ud, ud, ud, ud, ud, ud, ud, ud, ud]), rfl, ⟨H5.out.1, H5.out.2⟩, by omega⟩
 intro d a' w6 hI
 obtain ⟨s0, rfl, hMB, hk0⟩ := hI
 have H6 : Hid (_ ∧ _) := hMB
 clear hMB H5
 by_cases hlt : 0 < d
 ·have hrd : True := trivial
  clear hrd
  obtain ⟨x, hx⟩ : ∃ x, d = x + 1 := ⟨d - 1, by omega⟩
  subst hx
  have hne := HN.out x (by omega)
  rcases Bool.eq_false_or_eq_true (cr x) with hcr | hcr
  ·have hrd : True := trivial
   clear hrd
   have cA := CA.out x
   rw [hcr] at cA
   have CA1 : Hid _ := cA
   have hAt := HT.out x hcr
   clear cA
   refine wp_seq (wp_seq ?_)
   refine zC 2 [.q (.int .u64 (A (x + 1))), .q (.bool true)] (sB H6) ?ho4 ?he4
   case ho4 => exact ar (ak (by refine fun J => ⟨rfl, fun w' h => ?_⟩; clear h; go_simp <;> omega) trivial)
   intro J w7 l hM hl
   have H7 := keepK H6 hM.below
   clear hM hl l H6 J
   refine rN (wp_cond_true rfl ?_)
   refine wp_skip (zA ?_)
   refine wp_block (wp_seq ?_)
   refine zP 15 [.q (PT g 0), .q (PT g 0), .q (PT g 6), .q (N (f (x + 1))), .q (PT g 0), .q (PT g 0), .q (PT g 0), .q (N b), .call (.tuple #[N (f x), .bool true]), .q (.tuple #[N (f x), .bool true]), .q (N (f x)), .q (.bool true), .made zero6 24, .laid 12 zero6 (zB (f x)), .q (.bool true)] (sB H7) ?ho5 ?he5 (hL := ?hL5)
   case hL5 => exact ⟨⟨_, rfl⟩, trivial⟩
   case ho5 => exact ar (ag (ag (bN 0 (ar (ag (ag (bN 0 (ac (fun w' h => eC call21 (CA1.out w')) (ar (ag (ag (am (zG rfl) (ak (fun J => ⟨rfl, rfl, rfl, fun w' h => zK h rfl rfl rfl⟩) (ar trivial))))))))))))))
   intro J w8 l hM hl
   have H8 : Hid (Mm w8 ([(J 12, zB (f x))] ++ _) ∧ _) := wK H7 hM hl [12]
   have o5_12 := vK H7 hM hl 12
   clear hM hl l H7
   generalize J 12 = J5_12 at H8 o5_12 ⊢
   clear J
   refine rN (wp_seq ?_)
   refine zC 4 [.q (PT g 0), .q (N (f x)), .q (PT g 0), .q (PT g 6)] (sB H8) ?ho6 ?he6
   case ho6 => exact ar (bN 0 (ag (ag trivial)))
   intro J w9 l hM hl
   have H9 := keepK H8 hM.below
   clear hM hl l H8 J
   refine zH (l := [4]) rfl ?_
   refine sH rfl (fun h => zL h 1 rfl rfl rfl rfl (Nat.le_of_ble_eq_true rfl)) 1 [_, (_, lec b (wd (f x)))] H9 (Or.inl rfl) fun w10 H10 => ?_
   clear H9
   refine zE (zA (wp_seq ?_))
   refine zC 1 [.q (.bool true)] (sB H10) ?ho7 ?he7
   case ho7 => exact ar trivial
   intro J w11 l hM hl
   have H11 := keepK H10 hM.below
   clear hM hl l H10 J
   refine rN (wp_cond_true rfl ?_)
   refine zC 2 [.q (.int .u64 (A (x + 1))), .q (.int .u64 (A x))] (sB H11) ?ho8 ?he8
   case ho8 => exact ar (ak (by refine fun J => ⟨rfl, fun w' h => ?_⟩; clear h; go_simp; try exact hAt) trivial)
   intro J w12 l hM hl
   have H12 := keepK H11 hM.below
   clear hM hl l H11 J
   refine zH (l := [2]) rfl ?_
   refine zF (d := 4) rfl rfl rfl rfl ?_
   simp only [Act.put, sa, sz, ss]
   refine zE (zY (zA ?_))
   exact ⟨x, ⟨(slotfn [ud, ud, ud, ud, ud, ud, PT J5_12 0, .bool true, ud, ud, ud, ud, ud, ud, ud, ud, ud, ud, ud, ud, ud, ud, ud, ud, ud, ud, ud, ud, ud, .int .u64 (A (x + 1)), .bool true, .tuple #[N (f x), .bool true], PT g 0, PT g 0, PT g 6, N (f (x + 1)), PT g 0, PT g 0, PT g 0, N b, .tuple #[N (f x), .bool true], N (f x), .bool true, PT g 0, N (f x), PT g 0, PT g 6, .bool true, .int .u64 (A (x + 1)), .int .u64 (A x)]), rfl, ⟨H12.out.1.tail, H12.out.2⟩, by omega⟩, by omega⟩
  ·have hrd : True := trivial
   clear hrd
   have cA := CA.out x
   rw [hcr] at cA
   have CA1 : Hid _ := cA
   have hAf := HF.out x hcr
   clear cA
   rw [hAf]
   rw [hAf] at hne
   refine wp_seq (wp_seq ?_)
   refine zC 2 [.q (.int .u64 (A x)), .q (.bool true)] (sB H6) ?ho9 ?he9
   case ho9 => exact ar (ak (by refine fun J => ⟨rfl, fun w' h => ?_⟩; clear h; go_simp <;> omega) trivial)
   intro J w13 l hM hl
   have H13 := keepK H6 hM.below
   clear hM hl l H6 J
   refine rN (wp_cond_true rfl ?_)
   refine wp_skip (zA ?_)
   refine wp_block (wp_seq ?_)
   refine zP 15 [.q (PT g 0), .q (PT g 0), .q (PT g 6), .q (N (f (x + 1))), .q (PT g 0), .q (PT g 0), .q (PT g 0), .q (N b), .call (.tuple #[N (f x), .bool false]), .q (.tuple #[N (f x), .bool false]), .q (N (f x)), .q (.bool false), .made zero6 24, .laid 12 zero6 (zB (f x)), .q (.bool false)] (sB H13) ?ho10 ?he10 (hL := ?hL10)
   case hL10 => exact ⟨⟨_, rfl⟩, trivial⟩
   case ho10 => exact ar (ag (ag (bN 0 (ar (ag (ag (bN 0 (ac (fun w' h => eC call21 (CA1.out w')) (ar (ag (ag (am (zG rfl) (ak (fun J => ⟨rfl, rfl, rfl, fun w' h => zK h rfl rfl rfl⟩) (ar trivial))))))))))))))
   intro J w14 l hM hl
   have H14 : Hid (Mm w14 ([(J 12, zB (f x))] ++ _) ∧ _) := wK H13 hM hl [12]
   have o10_12 := vK H13 hM hl 12
   clear hM hl l H13
   generalize J 12 = J10_12 at H14 o10_12 ⊢
   clear J
   refine rN (wp_seq ?_)
   refine zC 4 [.q (PT g 0), .q (N (f x)), .q (PT g 0), .q (PT g 6)] (sB H14) ?ho11 ?he11
   case ho11 => exact ar (bN 0 (ag (ag trivial)))
   intro J w15 l hM hl
   have H15 := keepK H14 hM.below
   clear hM hl l H14 J
   refine zH (l := [4]) rfl ?_
   refine sH rfl (fun h => zL h 1 rfl rfl rfl rfl (Nat.le_of_ble_eq_true rfl)) 1 [_, (_, lec b (wd (f x)))] H15 (Or.inl rfl) fun w16 H16 => ?_
   clear H15
   refine zE (zA (wp_seq ?_))
   refine zC 1 [.q (.bool false)] (sB H16) ?ho12 ?he12
   case ho12 => exact ar trivial
   intro J w17 l hM hl
   have H17 := keepK H16 hM.below
   clear hM hl l H16 J
   refine rN (wp_cond_false rfl ?_)
   refine wp_skip (zY (zA ?_))
   exact ⟨x, ⟨(slotfn [ud, ud, ud, ud, ud, ud, PT J10_12 0, .bool false, ud, ud, ud, ud, ud, ud, ud, ud, ud, ud, ud, ud, ud, ud, ud, ud, ud, ud, ud, ud, ud, .int .u64 (A x), .bool true, .tuple #[N (f x), .bool false], PT g 0, PT g 0, PT g 6, N (f (x + 1)), PT g 0, PT g 0, PT g 0, N b, .tuple #[N (f x), .bool false], N (f x), .bool false, PT g 0, N (f x), PT g 0, PT g 6, .bool false, s0 48, s0 49]), rfl, ⟨H17.out.1.tail, H17.out.2⟩, by omega⟩, by omega⟩
 have hd0 : d = 0 := by omega
 subst hd0
 have hA0 := H00.out
 refine wp_seq (wp_seq ?_)
 refine zC 2 [.q (.int .u64 (A 0)), .q (.bool false)] (sB H6) ?ho13 ?he13
 case ho13 => exact ar (ak (by refine fun J => ⟨rfl, fun w' h => ?_⟩; clear h; go_simp <;> omega) trivial)
 intro J w18 l hM hl
 have H18 := keepK H6 hM.below
 clear hM hl l H6 J
 refine rN (wp_cond_false rfl ?_)
 refine wp_exit ?_
 repeat refine then_exit ?_
 refine block_exit ?_
 refine bodyPost_end (v := .tuple #[]) (by simp [results, Tryz.results105, go_sem]) rfl ?_
 exact ⟨rfl, H18.out.1.one 0 rfl, H18.out.2⟩
set_option maxHeartbeats 1000000 in
theorem double_gen (g b L1 K j : Nat) (f : Nat → Nat) (hK : K < 1000) (hj : j ≤ 64) (hKj : 0 < K → 0 < j)
  (cf : ∀ k w, Mm w [(g, lec b (wd (f k)))] → Calls Tryz.prog 105 #[PT g 0, .int .i64 64] w fun e w' => e = .returned (.tuple #[]) ∧ Mm w' [(g, lec b (wd (f (k + 1))))] ∧ Kp g w w')
  (cl : ∀ w, Mm w [(g, lec b (wd (f K)))] → Calls Tryz.prog 105 #[PT g 0, .int .i64 ((64 * (K - K) + j : Nat) : Int)] w fun e w' => e = .returned (.tuple #[]) ∧ Mm w' [(g, lec b (wd L1))] ∧ Kp g w w') (w : World) (hm : Mm w [(g, lec b (wd (f 0)))]) :
  Calls Tryz.prog 62 #[PT g 0, .int .i64 ((64 * (K - 0) + j : Nat) : Int)] w fun e w' => e = .returned (.tuple #[]) ∧ Mm w' [(g, lec b (wd L1))] ∧ Kp g w w' := by
 have H0 : Hid (_ ∧ _) := ⟨hm, Kp.refl g w⟩
 clear hm
 have CF : Hid _ := cf
 have CL : Hid _ := cl
 clear cf cl
 go_enter Tryz.func62, Tryz.ntmps62
 refine wp_seq (wp_block ?_)
 refine loop_ghost (α := Nat) (fun k a' w' => ∃ s0 : Nat → Value, a' = ⟨#[PT g 0, .int .i64 ((64 * (K - k) + j : Nat) : Int), ud, ud, s0 4, s0 5, s0 6, s0 7, s0 8, s0 9, ud, ud, ud], []⟩ ∧ (Mm w' [(g, lec b (wd (f k)))] ∧ Kp g w w') ∧ k ≤ K) (fun k => K - k) 0 ?st0 ?rd0
 case st0 => exact ⟨(slotfn [ud, ud, ud, ud, ud, ud, ud, ud, ud, ud]), rfl, ⟨H0.out.1, H0.out.2⟩, by omega⟩
 intro k a' w1 hI
 obtain ⟨s0, rfl, hMB, hk0⟩ := hI
 have H1 : Hid (_ ∧ _) := hMB
 clear hMB
 by_cases hlt : k < K
 ·have hrd : True := trivial
  clear hrd
  refine wp_seq (wp_seq ?_)
  refine zC 2 [.q (.int .i64 ((64 * (K - k) + j : Nat) : Int)), .q (.bool true)] (sB H1) ?ho1 ?he1
  case ho1 => exact ar (ak (by refine fun J => ⟨rfl, fun w' h => ?_⟩; clear h; go_simp <;> omega) trivial)
  intro J w2 l hM hl
  have H2 := keepK H1 hM.below
  clear hM hl l H1 J
  refine rN (wp_cond_true rfl ?_)
  refine wp_skip (zA ?_)
  refine wp_seq (wp_block ?_)
  refine zC 1 [.q (PT g 0)] (sB H2) ?ho2 ?he2
  case ho2 => exact ar trivial
  intro J w3 l hM hl
  have H3 := keepK H2 hM.below
  clear hM hl l H2 J
  refine zH (l := [1]) rfl ?_
  refine rest_enter (d := 9) (R := fun vv w' => vv = .tuple #[] ∧ Mm w' [(g, lec b (wd (f (k + 1))))] ∧ Kp g w3 w') rfl rfl rfl (exec_call (args := #[PT g 0, .int .i64 64]) rfl call105 rfl (mpn rfl)) (Calls.mono (CF.out k w3 (H3.out.1.one 0 rfl)) (fun e w2 hh => ⟨_, hh.1, rfl, hh.2⟩)) ?_
  rintro _ w4 ⟨rfl, hn, hp⟩
  have H4 : Hid (Mm w4 [(g, lec b (wd (f (k + 1))))] ∧ Kp g w w4) := ⟨H3.out.1.change 0 rfl hp hn, H3.out.2.join hp⟩
  clear hn hp H3
  simp only [Act.put, sa, sz, ss]
  refine zE (zY (zA ?_))
  refine zC 2 [.q (.int .i64 ((64 * (K - k) + j : Nat) : Int)), .q (.int .i64 ((64 * (K - (k + 1)) + j : Nat) : Int))] (sB H4) ?ho3 ?he3
  case ho3 => exact ar (ak (by refine fun J => ⟨rfl, fun w' h => ?_⟩; clear h; go_simp; rw [IntKind.wrap_i64]; omega) trivial)
  intro J w5 l hM hl
  have H5 := keepK H4 hM.below
  clear hM hl l H4 J
  refine zH (l := [2]) rfl ?_
  refine zF (d := 1) rfl rfl rfl rfl ?_
  simp only [Act.put, sa, sz, ss]
  refine zE (zA ?_)
  exact ⟨k + 1, ⟨(slotfn [ud, ud, ud, ud, .int .i64 ((64 * (K - k) + j : Nat) : Int), .bool true, .int .i64 ((64 * (K - k) + j : Nat) : Int), .int .i64 ((64 * (K - (k + 1)) + j : Nat) : Int), PT g 0, .tuple #[]]), rfl, ⟨H5.out.1, H5.out.2⟩, by omega⟩, by omega⟩
 have hkK : k = K := by omega
 subst hkK
 refine wp_seq (wp_seq ?_)
 refine zC 2 [.q (.int .i64 ((64 * (k - k) + j : Nat) : Int)), .q (.bool false)] (sB H1) ?ho4 ?he4
 case ho4 => exact ar (ak (by refine fun J => ⟨rfl, fun w' h => ?_⟩; clear h; go_simp <;> omega) trivial)
 intro J w6 l hM hl
 have H6 := keepK H1 hM.below
 clear hM hl l H1 J
 refine rN (wp_cond_false rfl ?_)
 refine wp_exit ?_
 repeat refine then_exit ?_
 refine block_exit ?_
 refine zA ?_
 refine zC 2 [.q (PT g 0), .q (.int .i64 ((64 * (k - k) + j : Nat) : Int))] (sB H6) ?ho5 ?he5
 case ho5 => exact ar (ar trivial)
 intro J w7 l hM hl
 have H7 := keepK H6 hM.below
 clear hM hl l H6 J
 refine zH (l := [2]) rfl ?_
 refine rest_enter (d := 12) (R := fun vv w' => vv = .tuple #[] ∧ Mm w' [(g, lec b (wd L1))] ∧ Kp g w7 w') rfl rfl rfl (exec_call (args := #[PT g 0, .int .i64 ((64 * (k - k) + j : Nat) : Int)]) rfl call105 rfl (mpn rfl)) (Calls.mono (CL.out w7 (H7.out.1.one 0 rfl)) (fun e w2 hh => ⟨_, hh.1, rfl, hh.2⟩)) ?_
 rintro _ w8 ⟨rfl, hn, hp⟩
 have H8 : Hid (Mm w8 [(g, lec b (wd L1))] ∧ Kp g w w8) := ⟨H7.out.1.change 0 rfl hp hn, H7.out.2.join hp⟩
 clear hn hp H7
 simp only [Act.put, sa, sz, ss]
 refine zE ?_
 refine bodyPost_end (v := .tuple #[]) (by simp [results, Tryz.results62, go_sem]) rfl ?_
 exact ⟨rfl, H8.out.1.one 0 rfl, H8.out.2⟩
theorem unq {u B k m : Int} (hB : 0 < B) (e : u = B * k + m) (h0 : 0 ≤ m) (h1 : m < B) : u / B = k ∧ u % B = m :=
 (Int.ediv_emod_unique hB).2 ⟨by omega, h0, h1⟩
/-- What is left less d times the divisor. -/
def zst (r b d : Nat) : Int := (r : Int) - (d : Int) * (b : Int)
def zl (r b d : Nat) : Nat := (zst r b d % (big : Int)).toNat
def za (r b d : Nat) : Int := zst r b d / (big : Int) % 18446744073709551616
theorem bigI : (0 : Int) < (big : Int) := by have := big_pos2; omega
theorem zl_cast (r b d : Nat) : ((zl r b d : Nat) : Int) = zst r b d % (big : Int) := Int.toNat_of_nonneg (Int.emod_nonneg _ (by have := bigI; omega))
theorem zl_lt (r b d : Nat) : zl r b d < big := by
 have h := zl_cast r b d
 have h2 := Int.emod_lt_of_pos (zst r b d) bigI
 omega
theorem zst_succ (r b d : Nat) : zst r b d = zst r b (d + 1) + b := by
 unfold zst
 rw [Int.natCast_add, Int.add_mul]
 omega
theorem z_step (r b d : Nat) (hb : b < big) : (if big ≤ zl r b (d + 1) + b then zst r b (d + 1) / (big : Int) + 1 else zst r b (d + 1) / (big : Int)) = zst r b d / (big : Int) ∧ (zl r b (d + 1) + b) % big = zl r b d := by
 have h1 := zl_cast r b (d + 1)
 have h2 := zl_cast r b d
 have h3 := zl_lt r b (d + 1)
 have hm := Int.mul_ediv_add_emod (zst r b (d + 1)) (big : Int)
 rw [← h1] at hm
 have e := zst_succ r b d
 by_cases hc : big ≤ zl r b (d + 1) + b
 ·rw [if_pos hc]
  obtain ⟨u1, u2⟩ := unq (u := zst r b d) (k := zst r b (d + 1) / (big : Int) + 1) (m := (zl r b (d + 1) : Int) + b - big) bigI (by rw [e, Int.mul_add, Int.mul_one]; omega) (by omega) (by omega)
  refine ⟨u1.symm, ?_⟩
  rw [u2] at h2
  rw [Nat.mod_eq_sub_mod hc, Nat.mod_eq_of_lt (by omega)]
  omega
 ·rw [if_neg hc]
  obtain ⟨u1, u2⟩ := unq (u := zst r b d) (k := zst r b (d + 1) / (big : Int)) (m := (zl r b (d + 1) : Int) + b) bigI (by rw [e]; omega) (by omega) (by omega)
  refine ⟨u1.symm, ?_⟩
  rw [u2] at h2
  rw [Nat.mod_eq_of_lt (by omega)]
  omega
theorem za_zero (r b : Nat) (hr : r < big) : za r b 0 = 0 := by
 unfold za zst
 rw [Int.natCast_zero, Int.zero_mul, Int.sub_zero, Int.ediv_eq_zero_of_lt (by omega) (by omega)]; rfl
theorem zl_zero (r b : Nat) (hr : r < big) : zl r b 0 = r := by
 have h := zl_cast r b 0
 unfold zst at h
 rw [Int.natCast_zero, Int.zero_mul, Int.sub_zero, Int.emod_eq_of_lt (by omega) (by omega)] at h
 omega
theorem za_ne (r b d : Nat) (hr : r < b) (hb : b < big) (hd : d < 18446744073709551616) (h0 : 0 < d) : ¬ za r b d = 0 := by
 unfold za
 have h1 : zst r b d < 0 := by
  unfold zst
  have : (b : Int) ≤ (d : Int) * (b : Int) := by
   have := Nat.mul_le_mul (show 1 ≤ d from h0) (Nat.le_refl b)
   rw [← Int.natCast_mul]; omega
  omega
 have h2 : -(18446744073709551615 * (big : Int)) ≤ zst r b d := by
  unfold zst
  have h3 : d * b ≤ 18446744073709551615 * big := Nat.mul_le_mul (by omega) (by omega)
  rw [← Int.natCast_mul]; omega
 have h3 : zst r b d / (big : Int) < 0 := Int.ediv_neg_of_neg_of_pos h1 bigI
 have h4 : -18446744073709551615 ≤ zst r b d / (big : Int) := by
  rw [Int.le_ediv_iff_mul_le bigI]; omega
 omega
theorem guess_ge (X b : Nat) (hb : b < big) (hX : X < 18446744073709551616 * b) : X / b ≤ gs (X / big) (wn (X % big) 5) (wn b 5) := by
 have hb0 : 0 < b := by
  rcases Nat.eq_zero_or_pos b with h | h
  ·rw [h, Nat.mul_zero] at hX; omega
  ·exact h
 unfold gs
 by_cases c : wn b 5 ≤ X / big
 ·rw [if_pos c]
  have : X / b < 18446744073709551616 := by rw [Nat.div_lt_iff_lt_mul hb0]; exact hX
  omega
 ·rw [if_neg c]
  obtain ⟨j, hj⟩ : ∃ j, j = 5 := ⟨5, rfl⟩
  have hbj := big_j j hj
  rw [← hj] at c ⊢
  have e1 : wn b j = b / 2 ^ (64 * j) := by
   have := wd_last b j (by rw [← hbj]; exact hb)
   rw [wd_wn] at this; omega
  have e2 : X / big * 18446744073709551616 + wn (X % big) j = X / 2 ^ (64 * j) := by
   have h1 : wn (X % big) j = X % big / 2 ^ (64 * j) := by
    have := wd_last (X % big) j (by rw [← hbj]; exact Nat.mod_lt _ big_pos2)
    rw [wd_wn] at this; omega
   rw [h1]
   have h2 := Nat.div_add_mod X big
   generalize X % big = m at h2 ⊢
   generalize X / big = k at h2 ⊢
   rw [← h2, hbj, pow_step, Nat.mul_assoc, Nat.mul_add_div (pow_pos' j), Nat.mul_comm k]
  rw [e2, e1]
  have hq : 0 < b / 2 ^ (64 * j) := by rw [← e1]; omega
  rw [Nat.le_div_iff_mul_le hq, Nat.le_div_iff_mul_le (pow_pos' j)]
  have h3 : b / 2 ^ (64 * j) * 2 ^ (64 * j) ≤ b := Nat.div_mul_le_self _ _
  have h4 : X / b * b ≤ X := Nat.div_mul_le_self _ _
  rw [Nat.mul_assoc]
  exact Nat.le_trans (Nat.mul_le_mul (Nat.le_refl _) h3) h4
theorem take_z (X b t : Nat) (ht : X / b ≤ t) : zst (X % b) b (t - X / b) / (big : Int) = ((X / big : Nat) : Int) - ((tkT (X % big) t b : Nat) : Int) ∧ zl (X % b) b (t - X / b) = (X % big + big - t * b % big) % big := by
 have h1 : zst (X % b) b (t - X / b) = (X : Int) - (t : Int) * (b : Int) := by
  unfold zst
  have e := Nat.div_add_mod X b
  have e2 : ((t - X / b : Nat) : Int) = (t : Int) - ((X / b : Nat) : Int) := by omega
  rw [e2, Int.sub_mul]
  have e3 : ((X / b : Nat) : Int) * (b : Int) = ((b * (X / b) : Nat) : Int) := by rw [Int.natCast_mul, Int.mul_comm]
  rw [e3]; omega
 have e4 := Nat.div_add_mod X big
 have e5 := Nat.div_add_mod (t * b) big
 have l1 := Nat.mod_lt X big_pos2
 have l2 := Nat.mod_lt (t * b) big_pos2
 have hzl := zl_cast (X % b) b (t - X / b)
 rw [← Int.natCast_mul] at h1
 unfold tkT
 generalize X % big = m at *
 generalize t * b % big = u at *
 generalize hP : t * b = P at *
 by_cases hc : m < u
 ·rw [if_pos hc]
  obtain ⟨u1, u2⟩ := unq (u := zst (X % b) b (t - X / b)) (k := ((X / big : Nat) : Int) - ((P / big + 1 : Nat) : Int)) (m := (m : Int) + big - u) bigI (by
   rw [h1, Int.mul_sub, ← Int.natCast_mul, ← Int.natCast_mul, Nat.mul_add, Nat.mul_one]; omega) (by omega) (by omega)
  refine ⟨u1, ?_⟩
  rw [u2] at hzl
  rw [Nat.mod_eq_of_lt (show m + big - u < big by omega)]; omega
 ·rw [if_neg hc]
  obtain ⟨u1, u2⟩ := unq (u := zst (X % b) b (t - X / b)) (k := ((X / big : Nat) : Int) - ((P / big + 0 : Nat) : Int)) (m := (m : Int) - u) bigI (by
   rw [h1, Int.mul_sub, ← Int.natCast_mul, ← Int.natCast_mul, Nat.add_zero]; omega) (by omega) (by omega)
  refine ⟨u1, ?_⟩
  rw [u2] at hzl
  rw [Nat.mod_eq_sub_mod (show big ≤ m + big - u by omega), Nat.mod_eq_of_lt (show m + big - u - big < big by omega)]; omega
theorem stepL_any (g b L i : Nat) (hi : i ≤ 64) (hb : b < big) (hL : L < b) (w : World) (hm : Mm w [(g, lec b (wd L))]) :
  Calls Tryz.prog 105 #[PT g 0, .int .i64 ((i : Nat) : Int)] w fun e w' => e = .returned (.tuple #[]) ∧ Mm w' [(g, lec b (wd (L * 2 ^ i % b)))] ∧ Kp g w w' := by
 have hLb : L < big := by omega
 have hb0 : 0 < b := by omega
 have hX : L * 2 ^ i < 18446744073709551616 * b := by
  have h1 : 2 ^ i ≤ 18446744073709551616 := by
   have := Nat.pow_le_pow_right (show 0 < 2 by decide) hi
   exact this
  have h2 : L * 2 ^ i ≤ L * 18446744073709551616 := Nat.mul_le_mul (Nat.le_refl _) h1
  omega
 have cs := fun w hm => shiftL_any g b L i hi hLb w hm
 generalize L * 2 ^ i = X at cs hX ⊢
 have hge := guess_ge X b hb hX
 have hlt := gs_bd (X / big) (wn (X % big) 5) (wn b 5) (wn_lt _ _)
 have cg := fun w => guessM_any (X / big) (wn (X % big) 5) (wn b 5) (wn_lt _ _) (wn_lt _ _) w
 generalize gs (X / big) (wn (X % big) 5) (wn b 5) = t at hge hlt cg
 have ct := fun w hm => takeL_any g b (X % big) t (Nat.mod_lt _ big_pos2) hb hlt w hm
 obtain ⟨z1, z2⟩ := take_z X b t hge
 have hr := Nat.mod_lt X hb0
 rw [← z2] at ct
 have h := step_gen g b L (X % big) (X / big) t (tkT (X % big) t b) (t - X / b) ((i : Nat) : Int) (zl (X % b) b) (za (X % b) b) (fun x => decide (big ≤ zl (X % b) b (x + 1) + b))
  (za_zero _ _ (by omega)) (fun x hx => za_ne _ _ _ hr hb (by have := Nat.sub_le t (X / b); omega) (by omega)) (by rw [IntKind.wrap_u64, ← z1]; rfl)
  (fun x hx => by
   have hz := (z_step (X % b) b x hb).1
   rw [if_pos (of_decide_eq_true hx)] at hz
   unfold za
   rw [IntKind.wrap_u64, ← hz]; omega)
  (fun x hx => by
   have hz := (z_step (X % b) b x hb).1
   rw [if_neg (of_decide_eq_false hx)] at hz
   unfold za
   rw [hz])
  cs cg ct (fun x w => by
   have h := add_any (zl (X % b) b (x + 1)) b (zl_lt _ _ _) hb w
   rw [(z_step (X % b) b x hb).2] at h
   exact h) w hm
 rw [zl_zero _ _ (by omega)] at h
 exact h
theorem doubleL_any (g b L n : Nat) (hn : n ≤ 384) (hb : b < big) (hL : L < b) (w : World) (hm : Mm w [(g, lec b (wd L))]) :
  Calls Tryz.prog 62 #[PT g 0, .int .i64 ((n : Nat) : Int)] w fun e w' => e = .returned (.tuple #[]) ∧ Mm w' [(g, lec b (wd (L * 2 ^ n % b)))] ∧ Kp g w w' := by
 obtain ⟨K, j, hK, hj, hKj, e⟩ : ∃ K j, K < 1000 ∧ j ≤ 64 ∧ (0 < K → 0 < j) ∧ n = 64 * (K - 0) + j := by
  by_cases h0 : n = 0
  ·exact ⟨0, 0, by omega, by omega, by omega, by omega⟩
  ·exact ⟨(n - 1) / 64, n - 64 * ((n - 1) / 64), by omega, by omega, by omega, by omega⟩
 have hb0 : 0 < b := by omega
 have ef : ∀ k m, L * 2 ^ (64 * k) % b * 2 ^ m % b = L * 2 ^ (64 * k + m) % b := fun k m => by
  rw [Nat.mul_mod, Nat.mod_mod, ← Nat.mul_mod, Nat.mul_assoc, ← Nat.pow_add]
 have cf : ∀ k w, Mm w [(g, lec b (wd (L * 2 ^ (64 * k) % b)))] → Calls Tryz.prog 105 #[PT g 0, .int .i64 64] w fun e w' => e = .returned (.tuple #[]) ∧ Mm w' [(g, lec b (wd (L * 2 ^ (64 * (k + 1)) % b)))] ∧ Kp g w w' := fun k w hm => by
  have h := stepL_any g b (L * 2 ^ (64 * k) % b) 64 (Nat.le_refl _) hb (Nat.mod_lt _ hb0) w hm
  rw [ef k 64, show 64 * k + 64 = 64 * (k + 1) by omega] at h
  exact h
 have cl : ∀ w, Mm w [(g, lec b (wd (L * 2 ^ (64 * K) % b)))] → Calls Tryz.prog 105 #[PT g 0, .int .i64 ((64 * (K - K) + j : Nat) : Int)] w fun e w' => e = .returned (.tuple #[]) ∧ Mm w' [(g, lec b (wd (L * 2 ^ n % b)))] ∧ Kp g w w' := fun w hm => by
  have h := stepL_any g b (L * 2 ^ (64 * K) % b) j hj hb (Nat.mod_lt _ hb0) w hm
  rw [ef K j, show 64 * K + j = n by omega] at h
  rw [show 64 * (K - K) + j = j by omega]
  exact h
 have h0 : L * 2 ^ (64 * 0) % b = L := by rw [Nat.mul_zero, Nat.pow_zero, Nat.mul_one, Nat.mod_eq_of_lt hL]
 have h := double_gen g b (L * 2 ^ n % b) K j (fun k => L * 2 ^ (64 * k) % b) hK hj hKj cf cl w (by rw [h0]; exact hm)
 rw [← e] at h
 exact h
end Rg
end Go.Proofs.YtmanelnacifgcaaGreatDoor
end
section
namespace Go.Proofs.YtmanelnacifgcaaGreatDoor
open Go.RowKit
namespace Rg
section
variable {P : Program} {ops : Array Oper} {ks : List Kind} {a₀ : Act} {w₀ : World} {Q : Exit → Act → World → Prop}
/-- An operation that the store need not wait for: it tells its value behind it. -/
def LateAt (P : Program) (ops : Array Oper) (ks : List Kind) (a : Act) (w : World) : List Nat → Prop
 | [] => True
 | i :: r => (∃ o v, ops[i]? = some o ∧ ks[i]? = some (.q v) ∧ Region.wanted o (yielded ops a.tmps) = true ∧ (execOp a.eval o).run P w = .ok (.value v) w) ∧ LateAt P ops ks a w r
theorem LateAt.at {a : Act} {w : World} : ∀ {late : List Nat}, LateAt P ops ks a w late → ∀ {i : Nat}, i ∈ late → ∃ o v, ops[i]? = some o ∧ ks[i]? = some (.q v) ∧ Region.wanted o (yielded ops a.tmps) = true ∧ (execOp a.eval o).run P w = .ok (.value v) w
 | [], _, _, h => by cases h
 | j :: r, hl, i, h => by
  rcases List.mem_cons.1 h with e | h
  ·subst e; exact hl.1
  ·exact hl.2.at h
def isQuiet : Option Kind → Bool
 | some ((Sum.inl _)) => true
 | _ => false
theorem isQuiet_spec {k : Option Kind} (h : isQuiet k = true) : ∃ v, k = some (.q v) := by
 cases k with
 | none => cases h
 | some k => cases k using Kind.each <;> first | exact ⟨_, rfl⟩ | cases h
theorem mem_late2 {J : Nat → Nat} {w : World} : ∀ {late : List Nat} {l : Array Bool}, (late.all fun i => isQuiet ks[i]?) = true → Mem ks w₀ l J w → ∃ l', Mem ks w₀ l' J w ∧ l'.size = l.size ∧ (∀ i, l.getD i false = true → l'.getD i false = true) ∧ ∀ i ∈ late, i < l.size → l'.getD i false = true
 | [], l, _, h => ⟨l, h, rfl, fun _ h => h, fun _ h => by cases h⟩
 | j :: r, l, hl, h => by
  simp only [List.all_cons, Bool.and_eq_true] at hl
  obtain ⟨v, hk⟩ := isQuiet_spec hl.1
  obtain ⟨l', h1, h2, h3, h4⟩ := mem_late2 (late := r) hl.2 (h.still (Below.refl _ _) hk rfl (fun _ _ _ h => by cases h))
  refine ⟨l', h1, by rw [h2]; simp, fun i hi => h3 i (getD_true hi), fun i hi hlt => ?_⟩
  rcases List.mem_cons.1 hi with e | hi
  ·subst e
   exact h3 i (by simp [hlt])
  ·exact h4 i hi (by simpa using hlt)
theorem after_put2 {full : Array Oper} {n p : Nat} (hO : Orderly ops ks n) (hn : n = a₀.tmps.size) (hp : ops.size = p) (hpf : p + 1 ≤ full.size) (hfull : ∀ i, i < p → full[i]? = ops[i]?) (hgd : ∀ {i : Nat} {o : Oper} {g : Nat} {b : Bool}, ops[i]? = some o → o.guard = some (g, b) → g < p)
  (hup : ∀ {i : Nat} {o : Oper}, full[i]? = some o → ∀ e ∈ o.after, Region.binds .any e = true → e.on < i)
  (hwt : ∀ {i : Nat} {o : Oper}, full[i]? = some o → p + 1 ≤ i → ∀ j, j < i → waitsT full 4 o j = true)
  {late : List Nat} {J : Nat → Nat} {w : World} (hlate : LateAt P ops ks (zZ J 0 ops.toList ks a₀) w late) (hQ : wpOps P full Q (List.range' (p + 1) (full.size - (p + 1))) (zZ J 0 ops.toList ks a₀) w) :
  ∀ (fuel : Nat) (l : Array Bool) (a : Act), l.size = full.size → l.toList.count false ≤ fuel → Closed full l → (∀ i, i ≤ p → l.getD i true = false → i ∈ late) → (∀ i, p + 1 ≤ i → i < full.size → l.getD i true = false) → Agree ops ks a₀ l J a → wpAny P .any full Q fuel l a w := by
 intro fuel
 induction fuel with
 | zero =>
  intro l a hsz hc hcl hu ht hA
  have hall : ∀ i, i < full.size → l.getD i false = true := fun i hi => by
   cases hb : l.getD i true with
   | false => have := count_set hb; omega
   | true =>
    have hi' : i < l.size := by omega
    simpa [hi'] using hb
  rw [hA.whole (fun i hi => hall i (by omega))]
  have h0 := tail_count full.size (full.size - (p + 1)) l hsz (by omega) (fun i hi1 hi2 => ht i (by omega) hi2)
  exact rest_anyT (p + 1) hup hwt (full.size - (p + 1)) 0 (p + 1) l _ w (by omega) (Nat.le_refl _) hsz (by omega) hcl (fun i hi => hall i (by omega)) ht hQ
 | succ fuel ih =>
  intro l a hsz hc hcl hu ht hA
  by_cases hall : ∀ i, i < p + 1 → l.getD i false = true
  ·rw [hA.whole (fun i hi => hall i (by omega))]
   have h0 := tail_count full.size (full.size - (p + 1)) l hsz (by omega) (fun i hi1 hi2 => ht i (by omega) hi2)
   exact rest_anyT (p + 1) hup hwt (full.size - (p + 1)) (fuel + 1) (p + 1) l _ w (by omega) (Nat.le_refl _) hsz (by omega) hcl hall ht hQ
  ·have hex : ∃ x, x < p + 1 ∧ l.getD x false = false := by
    apply Classical.byContradiction
    intro hno
    apply hall
    intro i hi
    cases hb : l.getD i false with
    | true => rfl
    | false => exact absurd ⟨i, hi, hb⟩ hno
   obtain ⟨x, hx, hxf⟩ := hex
   refine ⟨fun hr => ?_, fun i hi => ?_⟩
   ·have := ready_all hup hsz hr x (by omega)
    rw [hxf] at this
    cases this
   ·obtain ⟨hun, o, ho, hedge⟩ := mem_ready.1 hi
    have hilt : i < full.size := (Array.getElem?_eq_some_iff.1 ho).1
    have hip1 : i < p + 1 := by
     rcases Nat.lt_or_ge i (p + 1) with h' | h'
     ·exact h'
     ·have := waitsT_spec hcl 4 o (hwt ho h' x (by omega)) hedge
      rw [hxf] at this
      cases this
    obtain ⟨o', v, ho', hk, hxq⟩ := hlate.at (hu i (by omega) hun)
    have hip : i < p := by rw [← hp]; exact (Array.getElem?_eq_some_iff.1 ho').1
    have hof := ho
    rw [hfull i hip, ho'] at ho
    injection ho with ho
    subst ho
    obtain ⟨he, hw0⟩ := hA.sees hO ho' hedge
    have hy : ∀ ts, Region.wanted o' (yielded full ts) = Region.wanted o' (yielded ops ts) := fun ts => by
     unfold Region.wanted
     cases hg : o'.guard with
     | none => rfl
     | some gw =>
      obtain ⟨g, want⟩ := gw
      have : yielded full ts g = yielded ops ts g := by unfold yielded; rw [hfull g (hgd ho' hg)]
      simp only [this]
    have hc' := count_set hun
    refine wpOp_step hof (fun K' hK => ?_)
    rw [hy, hw0, if_pos hxq.1]
    unfold Oper.wp
    rw [he, hxq.2]
    refine hK _ _ (ih _ _ (by simp [hsz]) (by omega) (hcl.step hof hedge) (fun j hj hj2 => ?_) (fun j hj hj2 => ?_) (hA.step hO hn ho' hk (fun _ _ _ _ => rfl)))
    ·by_cases e : i = j
     ·subst e
      have hi' : i < l.size := by omega
      simp [hi'] at hj2
     ·rw [getD_set_ne true e] at hj2
      exact hu j hj hj2
    ·rw [getD_set_ne true (by omega)]
     exact ht j hj hj2
theorem first_put2 {full : Array Oper} {n p : Nat} {op : Oper} (hO : Orderly ops ks n) (hn : n = a₀.tmps.size) (hL : LaidOk ks ks) {S : World → Prop} (hS : ∀ w, Below w₀.heap.size w₀ w → S w)
  (hp : ops.size = p) (hpf : p + 1 ≤ full.size) (hfull : ∀ i, i < p → full[i]? = ops[i]?) (hgd : ∀ {i : Nat} {o : Oper} {g : Nat} {b : Bool}, ops[i]? = some o → o.guard = some (g, b) → g < p)
  (hup : ∀ {i : Nat} {o : Oper}, full[i]? = some o → ∀ e ∈ o.after, Region.binds .any e = true → e.on < i)
  (hop : full[p]? = some op) (hdst : op.dst = none) (hgu : op.guard = none) (hsel : ∀ cs b, op.op ≠ .select cs b)
  {late : List Nat} (hwp : ∀ j, j < p → waitsT full 4 op j = true ∨ j ∈ late) (hlook : ∀ d ∈ op.looksAt full, ∀ j oj, ops[j]? = some oj → oj.dst = some d → waitsT full 4 op j = true)
  (hwt : ∀ {i : Nat} {o : Oper}, full[i]? = some o → p + 1 ≤ i → ∀ j, j < i → waitsT full 4 o j = true)
  (hlate : (late.all fun i => isQuiet ks[i]?) = true)
  (hops : AllOk P ops S (fun J => zZ J 0 ops.toList ks a₀) ops.toList ks)
  (hend : ∀ J w l, Mem ks w₀ l J w → (∀ i, i < p → l.getD i false = true) → ∃ w', (execOp (zZ J 0 ops.toList ks a₀).eval op).run P w = .ok .skip w' ∧ LateAt P ops ks (zZ J 0 ops.toList ks a₀) w' late ∧ wpOps P full Q (List.range' (p + 1) (full.size - (p + 1))) (zZ J 0 ops.toList ks a₀) w') :
  ∀ (fuel : Nat) (l : Array Bool) (J : Nat → Nat) (a : Act) (w : World), l.size = full.size → l.toList.count false ≤ fuel → Closed full l → (∀ i, p ≤ i → i < full.size → l.getD i true = false) → Agree ops ks a₀ l J a → Mem ks w₀ l J w → wpAny P .any full Q fuel l a w := by
 intro fuel
 induction fuel with
 | zero =>
  intro l J a w hsz hc hcl ht hA hM
  have := count_set (ht p (Nat.le_refl _) (by omega))
  omega
 | succ fuel ih =>
  intro l J a w hsz hc hcl ht hA hM
  have hpu := ht p (Nat.le_refl _) (by omega)
  refine ⟨fun hr => ?_, fun i hi => ?_⟩
  ·have := ready_all hup hsz hr p (by omega)
   rw [(getD_same hpu).1] at this
   cases this
  ·obtain ⟨hun, o, ho, hedge⟩ := mem_ready.1 hi
   have hilt : i < full.size := (Array.getElem?_eq_some_iff.1 ho).1
   have hc' := count_set hun
   have hip1 : i < p + 1 := by
    rcases Nat.lt_or_ge i (p + 1) with h' | h'
    ·exact h'
    ·have := waitsT_spec hcl 4 o (hwt ho h' p (by omega)) hedge
     rw [(getD_same hpu).1] at this
     cases this
   by_cases hip : i = p
   ·subst hip
    have ho2 := ho
    rw [hop] at ho
    injection ho with ho
    subst ho
    have hbefore : ∀ j, j < i → j ∉ late → l.getD j false = true := fun j hj hnl => by
     rcases hwp j hj with h | h
     ·exact waitsT_spec hcl 4 _ h hedge
     ·exact absurd h hnl
    obtain ⟨l', hM', hs', hl1, hl2⟩ := mem_late2 hlate hM
    have hfin : ∀ j, j < i → l'.getD j false = true := fun j hj => by
     by_cases h : j ∈ late
     ·exact hl2 j h (by omega)
     ·exact hl1 j (hbefore j hj h)
    obtain ⟨w', hx, hla, hQ⟩ := hend J w l' hM' hfin
    have he := see_all (full := full) hA hsel (fun d hd j oj hj hdj => waitsT_spec hcl 4 _ (hlook d hd j oj hj hdj) hedge)
    refine wpOp_step hop (fun K' hK => ?_)
    have hwn : Region.wanted op (yielded full a.tmps) = true := by unfold Region.wanted; rw [hgu]
    rw [if_pos hwn]
    unfold Oper.wp
    rw [he, hx]
    have hA' : Agree ops ks a₀ (l.setIfInBounds i true) J (a.put op.dst undef) := by
     rw [hdst]
     refine ⟨hA.defers, hA.size, fun d hd => hA.slots d (fun j oj hj hdj => ?_)⟩
     have h1 := hd j oj hj hdj
     have hj' : j < i := by rw [← hp]; exact (Array.getElem?_eq_some_iff.1 hj).1
     rwa [getD_set_ne false (by omega)] at h1
    refine hK _ _ (after_put2 hO hn hp hpf hfull hgd hup hwt hla hQ fuel _ _ (by simp [hsz]) (by omega) (hcl.step ho2 hedge) (fun j hj hj2 => ?_) (fun j hj hj2 => ?_) hA')
    ·by_cases e : i = j
     ·subst e
      have hi' : i < l.size := by omega
      simp [hi'] at hj2
     ·rw [getD_set_ne true e] at hj2
      apply Classical.byContradiction
      intro hnl
      have := hbefore j (by omega) hnl
      rw [(getD_same hj2).1] at this
      cases this
    ·rw [getD_set_ne true (by omega)]
     exact ht j (by omega) hj2
   ·have hlt : i < p := by omega
    have ho' : ops[i]? = some o := by rw [← hfull i hlt]; exact ho
    refine kind_step hO hn hL hS hfull hgd hops hA hM hlt ho' hun hedge (fun J' a' w' hA' hM' => ?_)
    exact ih _ J' a' w' (by simp [hsz]) (by omega) (hcl.step ho hedge) (fun j hj hj2 => by rw [getD_set_ne true (by omega)]; exact ht j hj hj2) hA' hM'
/-- **The law of such a region.** -/
theorem walk_put2 {full : Array Oper} {a : Act} {w : World} {id : Nat} (hm : P.follows .mixedOrders = true) (p : Nat) (late : List Nat) (ks : List Kind) (S : World → Prop) (pre : List Oper) (F : (Nat → Nat) → Act) (op : Oper) (hpre : full.toList.take p = pre)
  (hF : ∀ J, zZ J 0 pre ks a = F J) (hor : (orderly pre.toArray ks a.tmps.size && guarded pre.toArray p && putly full p late) = true) (hop : full[p]? = some op) (hL : LaidOk ks ks) (hS : ∀ w', Below w.heap.size w w' → S w')
  (hops : AllOk P pre.toArray S F pre ks) (hlate : (late.all fun i => isQuiet ks[i]?) = true)
  (hend : ∀ J w' l, Mem ks w l J w' → (∀ i, i < p → l.getD i false = true) → ∃ w'', (execOp (F J).eval op).run P w' = .ok .skip w'' ∧ LateAt P pre.toArray ks (F J) w'' late ∧ wpOps P full Q (List.range' (p + 1) (full.size - (p + 1))) (F J) w'') :
  (Code.region id full true).wp P Q a w := by
 subst hpre
 obtain rfl : (fun J => zZ J 0 (full.toList.take p) ks a) = F := funext hF
 simp only [Bool.and_eq_true] at hor
 obtain ⟨⟨h1, h2⟩, h3⟩ := hor
 unfold putly at h3
 rw [hop] at h3
 simp only [Bool.and_eq_true, decide_eq_true_eq, Option.isNone_iff_eq_none] at h3
 obtain ⟨⟨⟨⟨h5, h6⟩, h7⟩, ⟨⟨h8, h9⟩, h10⟩, h11⟩, h12⟩ := h3
 have hsz : (full.toList.take p).toArray.size = p := by simp; omega
 have hfu : ∀ i, i < p → full[i]? = (full.toList.take p).toArray[i]? := fun i hi => by rw [← take_arr]; exact first_full hi
 refine wp_region_any hm (first_put2 (ops := (full.toList.take p).toArray) (Orderly.of h1) rfl hL hS hsz h6 hfu (fun ho hg => guarded_spec h2 ho hg) (fun ho e he hb => ?_) hop h8 h9 (fun cs b => Region.noSelect_spec h7 p op cs b hop) (late := late) (fun j hj => ?_) (fun d hd j oj hj hdj => ?_) (fun ho hi j hj => ?_) hlate hops hend full.size _ (fun _ => 0) a w.drew (by simp) (by simp) (Closed.none _ _) (fun i _ hi => none_listed' hi) (start_agree _ _) (start_mem _ _ (Below.refl _ _).drew))
 ·have := Array.all_eq_true_iff_forall_mem.1 (zR h5 ho) e he
  simpa [hb] using this
 ·have := List.all_eq_true.1 h10 j (List.mem_range.2 hj)
  simpa using this
 ·have hj' : j < p := by rw [← hsz]; exact (Array.getElem?_eq_some_iff.1 hj).1
  have := zR (List.all_eq_true.1 h11 d hd) (by rw [hfu j hj']; exact hj)
  simp only [hdj, bne_self_eq_false, Bool.false_or, Bool.or_eq_true, decide_eq_true_eq] at this
  rcases this with h | h
  ·exact h
  ·omega
 ·have := zR h12 ho
  simp only [Bool.or_eq_true, decide_eq_true_eq] at this
  rcases this with h | h
  ·omega
  ·exact List.all_eq_true.1 h j (List.mem_range.2 hj)
end
end Rg
end Go.Proofs.YtmanelnacifgcaaGreatDoor
end
section
namespace Go.Proofs.YtmanelnacifgcaaGreatDoor
open Go.RowKit
namespace Rg
abbrev zero12 : List Value := [.int .u64 0, .int .u64 0, .int .u64 0, .int .u64 0, .int .u64 0, .int .u64 0, .int .u64 0, .int .u64 0, .int .u64 0, .int .u64 0, .int .u64 0, .int .u64 0]
abbrev lev (b L : Nat) : Value := .agg (lec b (wd L)).toArray
theorem ex_madeL {ρ : Operand → Value} {o : Oper} {w : World} (ho : o.op = .alloc 119) :
  (execOp ρ o).run Tryz.prog w = .ok (.value (.pointer (some ⟨w.heap.size, 0, none⟩))) (w.alloc (.cells zero12.toArray 119)) := by
 simp only [execOp, ho]
 go_simp
theorem ex_buildL {ρ : Operand → Value} {o : Oper} {x : Operand} {b z : Nat} {w : World} (hz : z = 0) (ho : o.op = .build 119 #[(0, x)]) (hx : ρ x = N b) : (execOp ρ o).run Tryz.prog w = .ok (.value (lev b z)) w := by
 subst hz
 simp only [execOp, ho]
 go_simp
 simp [wd_zero]
theorem ex_laidL {ρ : Operand → Value} {o : Oper} {x y : Operand} {g b L : Nat} {w : World} (hb : Blk w g zero12) (ho : o.op = .store 119 x y) (hx : ρ x = .pointer (some ⟨g, 0, none⟩)) (hy : ρ y = lev b L) :
  (execOp ρ o).run Tryz.prog w = .ok .skip (w.setCells g 0 (lec b (wd L))) := ex_laidT hb rfl rfl Tryz.sizeOf119 ho hx hy
set_option maxHeartbeats 2000000 in
theorem powersOf_gen (n l s B z L0 L1 L2 o q : Nat) (cB : Bool) (hz : z = 0) (hl : l ≤ 384) (hs : s = 384 - l)
  (cl : ∀ w, Calls Tryz.prog 34 #[N n] w (Rt w (.int .i64 ((l : Nat) : Int))))
  (cb : ∀ w, Calls Tryz.prog 61 #[N n, .int .i64 ((s : Nat) : Int)] w (Rt w (N B)))
  (cs : ∀ w, Calls Tryz.prog 39 #[N 0, N B] w (Rt w (.tuple #[N L0, .bool cB])))
  (d1 : ∀ g w, Mm w [(g, lec B (wd L0))] → Calls Tryz.prog 62 #[PT g 0, .int .i64 ((s : Nat) : Int)] w fun e w' => e = .returned (.tuple #[]) ∧ Mm w' [(g, lec B (wd L1))] ∧ Kp g w w')
  (co : ∀ w, Calls Tryz.prog 61 #[N L1, .int .i64 (-((s : Nat) : Int))] w (Rt w (N o)))
  (d2 : ∀ g w, Mm w [(g, lec B (wd L1))] → Calls Tryz.prog 62 #[PT g 0, .int .i64 384] w fun e w' => e = .returned (.tuple #[]) ∧ Mm w' [(g, lec B (wd L2))] ∧ Kp g w w')
  (cq : ∀ w, Calls Tryz.prog 61 #[N L2, .int .i64 (-((s : Nat) : Int))] w (Rt w (N q))) (w : World) :
  Calls Tryz.prog 36 #[N n] w (Rt w (.tuple #[N o, N q])) := by
 have H0 : Hid (_ ∧ _) := ⟨Mm.nil w, Below.refl w.heap.size w⟩
 have CL : Hid _ := cl
 have CB : Hid _ := cb
 have CS : Hid _ := cs
 have CD1 : Hid _ := d1
 have CO : Hid _ := co
 have CD2 : Hid _ := d2
 have CQ : Hid _ := cq
 have HZ : Hid _ := hz
 clear cl cb cs d1 co d2 cq hz
 go_enter Tryz.func36, Tryz.ntmps36
 refine wp_seq ?_
 refine zC 3 [.made (zB n) 24, .made zero6 24, .made zero6 24] (sB H0) ?ho1 ?he1
 case ho1 => exact am (zU rfl rfl) (am (zG rfl) (am (zG rfl) trivial))
 intro J w1 l hM hl
 have H1 : Hid (Mm w1 [(J 0, zB n), (J 1, zero6), (J 2, zero6)] ∧ _) := wB H0 hM hl [0, 1, 2]
 have o1_0 := vB H0 hM hl 0
 have o1_1 := vB H0 hM hl 1
 have o1_2 := vB H0 hM hl 2
 clear hM hl l
 generalize J 0 = J1_0 at H1 o1_0 ⊢
 generalize J 1 = J1_1 at H1 o1_1 ⊢
 generalize J 2 = J1_2 at H1 o1_2 ⊢
 clear J
 refine rN (wp_seq ?_)
 refine zD 4 [.q (N n), .call (.int .i64 ((l : Nat) : Int)), .q (.int .i64 ((s : Nat) : Int)), .q (.int .i64 ((s : Nat) : Int))] H1 ?ho2 ?he2
 case ho2 => exact bN 0 (ac (fun w' h => eC call34 (CL.out w')) (ak (by refine fun J => ⟨rfl, fun w' h => ?_⟩; clear h; go_simp; rw [IntKind.wrap_i64]; omega) (ar trivial)))
 intro _ w2 H2
 clear H1
 refine rN (wp_seq ?_)
 refine zC 6 [.q (N n), .q (.int .i64 ((s : Nat) : Int)), .call (N B), .q (lev B z), .made zero12 119, .laid 4 zero12 (lec B (wd z))] (sB H2) ?ho3 ?he3 (hL := ?hL3)
 case hL3 => exact ⟨⟨_, rfl⟩, trivial⟩
 case ho3 => exact bN 0 (ar (ac (fun w' h => eC call61 (CB.out w')) (ak (fun J => ⟨rfl, fun w' _ => ex_buildL HZ.out rfl rfl⟩) (am (ex_madeL rfl) (ak (fun J => ⟨rfl, rfl, rfl, fun w' h => ex_laidL h rfl rfl rfl⟩) trivial)))))
 intro J w3 l hM hl
 have H3 : Hid (Mm w3 ([(J 4, lec B (wd z))] ++ _) ∧ _) := wB H2 hM hl [4]
 have o3_4 := vB H2 hM hl 4
 clear hM hl l H2
 generalize J 4 = J3_4 at H3 o3_4 ⊢
 clear J
 refine rN (wp_seq ?_)
 refine zD 8 [.q (N 0), .q (PT J3_4 0), .q (N B), .call (.tuple #[N L0, .bool cB]), .q (.tuple #[N L0, .bool cB]), .q (N L0), .q (.bool cB), .q (PT J3_4 6)] H3 ?ho4 ?he4
 case ho4 => exact ak (by refine fun J => ⟨rfl, fun w' h => ?_⟩; clear h; exact ex_zero6 rfl) (ag (bN 0 (ac (fun w' h => eC call39 (CS.out w')) (ar (ag (ag (ag trivial)))))))
 intro _ w4 H4
 clear H3
 refine zH (l := [8]) rfl ?_
 refine sG rfl (fun h => zL h 0 rfl rfl rfl rfl (Nat.le_of_ble_eq_true rfl)) 0 [(_, lec B (wd L0)), _, _, _] H4 o3_4 fun w5 H5 => ?_
 clear H4
 refine zE (zA (wp_seq ?_))
 refine zD 1 [.q (.int .i64 ((s : Nat) : Int))] H5 ?ho5 ?he5
 case ho5 => exact ar trivial
 intro _ w6 H6
 clear H5
 refine zH (l := [1]) rfl ?_
 refine rest_enter (d := 22) (R := fun vv w' => vv = .tuple #[] ∧ Mm w' [(J3_4, lec B (wd L1))] ∧ Kp J3_4 w6 w') rfl rfl rfl (exec_call (args := #[PT J3_4 0, .int .i64 ((s : Nat) : Int)]) rfl call62 rfl (mpn rfl)) (Calls.mono (CD1.out J3_4 w6 (H6.out.1.one 0 rfl)) (fun e w2 hh => ⟨_, hh.1, rfl, hh.2⟩)) ?_
 rintro _ w7 ⟨rfl, hn, hp⟩
 have H7 : Hid (Mm w7 [(J3_4, lec B (wd L1)), (J1_0, zB n), (J1_1, zero6), (J1_2, zero6)] ∧ Below w.heap.size w w7) := ⟨H6.out.1.change 0 rfl hp hn, Below.kp H6.out.2 hp o3_4.out H6.out.2.size⟩
 clear hn hp H6
 simp only [Act.put, sa, sz, ss]
 refine zE (zA (wp_seq ?_))
 refine zD 5 [.q (PT J3_4 6), .q (N L1), .q (.int .i64 ((s : Nat) : Int)), .q (.int .i64 (-((s : Nat) : Int))), .call (N o)] H7 ?ho6 ?he6
 case ho6 => exact ag (bN 0 (ar (ak (by refine fun J => ⟨rfl, fun w' h => ?_⟩; clear h; go_simp; rw [IntKind.wrap_i64]; omega) (ac (fun w' h => eC call61 (CO.out w')) trivial))))
 intro _ w8 H8
 clear H7
 refine zH (l := [5]) rfl ?_
 refine sG rfl (fun h => zL h 2 rfl rfl rfl rfl (Nat.le_of_ble_eq_true rfl)) 2 [_, _, (_, zB o), _] H8 o1_1 fun w9 H9 => ?_
 clear H8
 refine zE (zA (wp_seq ?_))
 refine zD 0 [] H9 ?ho7 ?he7
 case ho7 => exact trivial
 intro _ w10 H10
 clear H9
 refine zH (l := [0]) rfl ?_
 refine rest_enter (d := 28) (R := fun vv w' => vv = .tuple #[] ∧ Mm w' [(J3_4, lec B (wd L2))] ∧ Kp J3_4 w10 w') rfl rfl rfl (exec_call (args := #[PT J3_4 0, .int .i64 384]) rfl call62 rfl (mpn rfl)) (Calls.mono (CD2.out J3_4 w10 (H10.out.1.one 0 rfl)) (fun e w2 hh => ⟨_, hh.1, rfl, hh.2⟩)) ?_
 rintro _ w11 ⟨rfl, hn, hp⟩
 have H11 : Hid (Mm w11 [(J3_4, lec B (wd L2)), (J1_0, zB n), (J1_1, zB o), (J1_2, zero6)] ∧ Below w.heap.size w w11) := ⟨H10.out.1.change 0 rfl hp hn, Below.kp H10.out.2 hp o3_4.out H10.out.2.size⟩
 clear hn hp H10
 simp only [Act.put, sa, sz, ss]
 refine zE (zA (wp_seq ?_))
 refine zD 5 [.q (PT J3_4 6), .q (N L2), .q (.int .i64 ((s : Nat) : Int)), .q (.int .i64 (-((s : Nat) : Int))), .call (N q)] H11 ?ho8 ?he8
 case ho8 => exact ag (bN 0 (ar (ak (by refine fun J => ⟨rfl, fun w' h => ?_⟩; clear h; go_simp; rw [IntKind.wrap_i64]; omega) (ac (fun w' h => eC call61 (CQ.out w')) trivial))))
 intro _ w12 H12
 clear H11
 refine zH (l := [5]) rfl ?_
 refine sG rfl (fun h => zL h 3 rfl rfl rfl rfl (Nat.le_of_ble_eq_true rfl)) 3 [_, _, _, (_, zB q)] H12 o1_2 fun w13 H13 => ?_
 clear H12
 refine zE (zA (wp_seq ?_))
 refine walk_put2 (by kernel_rfl) 2 [1] [.q (N o), .q (N q)] _ ?pre9 ?F9 _ ?hpre9 (fun J => ?hF9) (by kernel_rfl) rfl trivial (sB H13) ?ho9 ?hla9 ?he9
 case hpre9 => simp only [tk, tz]; rfl
 case hF9 => simp only [zZ, Kind.val, Act.put, sa, sz, ss]; rfl
 case ho9 =>
  refine bN 2 ?_
  refine bN 3 ?_
  exact trivial
 case hla9 => exact rfl
 intro J w14 l hM hl
 have H14 := keepB H13 hM.below
 clear hM hl l H13 J
 have H15 : Hid (Mm (w14.setCells J1_1 0 (zB o)) [(J3_4, lec B (wd L2)), (J1_0, zB n), (J1_1, zB o), (J1_2, zB q)] ∧ Below w.heap.size w (w14.setCells J1_1 0 (zB o))) := ⟨H14.out.1.put 2 (off := 0) (vs := zB o) rfl (Nat.le_of_ble_eq_true rfl), zV _ o1_1.out _ _ _ H14.out.2⟩
 refine ⟨_, zL H14.out.1 2 rfl rfl rfl rfl (Nat.le_of_ble_eq_true rfl), ⟨⟨_, _, rfl, rfl, rfl, ex_load6 H15.out.1 3 rfl rfl rfl rfl⟩, trivial⟩, ?_⟩
 clear H14
 generalize hgw : World.setCells _ _ _ _ = w15 at H15 ⊢
 clear hgw
 refine zH (l := [3]) rfl ?_
 refine sG rfl (fun h => zL h 3 rfl rfl rfl rfl (Nat.le_of_ble_eq_true rfl)) 3 [_, _, _, (_, zB q)] H15 o1_2 fun w16 H16 => ?_
 clear H15
 refine zE (zA (wp_ret ?_))
 repeat (first | refine zJ ?_ | refine zI ?_)
 have c0 := H16.out.1.get 2 rfl 0 rfl
 have c1 := H16.out.1.get 2 rfl 1 rfl
 have c2 := H16.out.1.get 2 rfl 2 rfl
 have c3 := H16.out.1.get 2 rfl 3 rfl
 have c4 := H16.out.1.get 2 rfl 4 rfl
 have c5 := H16.out.1.get 2 rfl 5 rfl
 have c1_0 := H16.out.1.get 3 rfl 0 rfl
 have c1_1 := H16.out.1.get 3 rfl 1 rfl
 have c1_2 := H16.out.1.get 3 rfl 2 rfl
 have c1_3 := H16.out.1.get 3 rfl 3 rfl
 have c1_4 := H16.out.1.get 3 rfl 4 rfl
 have c1_5 := H16.out.1.get 3 rfl 5 rfl
 refine bodyPost_ret (v := .tuple #[N o, N q]) (by simp [results, Tryz.results36, go_sem, *]) rfl ?_
 exact ⟨rfl, H16.out.2⟩
theorem lead_facts {n : Nat} (ok : Ok n) : ∃ l s, l = bl n ∧ l ≤ 384 ∧ s = 384 - l ∧ s < 384 ∧ n * 2 ^ s < big ∧ big < n * 2 ^ s + n * 2 ^ s := by
 have h0 : n ≠ 0 := by have := ok.three; omega
 have h1 := bl_lt n
 have h2 := bl_le n h0
 have h3 := bl_pos n h0
 have h4 := len_ok ok
 have hl : bl n ≤ 382 := by omega
 refine ⟨bl n, 384 - bl n, rfl, by omega, rfl, by omega, ?_, ?_⟩
 ·obtain ⟨m, hm, e⟩ := big_pow
  have hs : 64 * m = bl n + (384 - bl n) := by omega
  rw [e, hs, Nat.pow_add]
  exact Nat.mul_lt_mul_of_pos_right h1 (Nat.two_pow_pos _)
 ·obtain ⟨m, hm, e⟩ := big_pow
  have hs : 64 * m = (bl n - 1) + 1 + (384 - bl n) := by omega
  have hne : 2 ^ (bl n - 1) ≠ n := by
   intro h
   rcases Nat.lt_or_ge (bl n - 1) 1 with g | g
   ·have : bl n - 1 = 0 := by omega
    rw [this, Nat.pow_zero] at h
    have := ok.three; omega
   ·obtain ⟨k, hk⟩ : ∃ k, bl n - 1 = k + 1 := ⟨bl n - 1 - 1, by omega⟩
    rw [hk, Nat.pow_succ] at h
    have := ok.odd; omega
  have hlt : 2 ^ (bl n - 1) < n := by omega
  have h5 := Nat.mul_lt_mul_of_pos_right hlt (Nat.two_pow_pos (384 - bl n))
  rw [e, hs, Nat.pow_add, Nat.pow_succ, Nat.mul_right_comm]
  omega
theorem powersOf_any {n : Nat} (ok : Ok n) (w : World) : Calls Tryz.prog 36 #[N n] w (Rt w (.tuple #[N (big % n), N (big * big % n)])) := by
 obtain ⟨l, s, hl, hl2, hs, hs2, hB, hB2⟩ := lead_facts ok
 have cb := fun w => shift_up n s hs2 w
 rw [Nat.mod_eq_of_lt hB] at cb
 have hBp : 0 < n * 2 ^ s := by omega
 have cl := fun w => len_any n ok.big w
 rw [← hl] at cl
 obtain ⟨B, hBe⟩ : ∃ B, B = n * 2 ^ s := ⟨_, rfl⟩
 rw [← hBe] at cb hB hB2 hBp
 have cs := fun w => sub_any 0 B big_pos2 hB w
 rw [Nat.zero_add, Nat.mod_eq_of_lt (show big - B < big by omega)] at cs
 have hL0 : big - B < B := by omega
 have hmod : big % B = big - B := by
  rw [Nat.mod_eq_sub_mod (by omega), Nat.mod_eq_of_lt hL0]
 have d1 := fun g w hm => doubleL_any g B (big - B) s (by omega) hB hL0 w hm
 have e1 : (big - B) * 2 ^ s % B = big % n * 2 ^ s := by
  rw [← hmod, Nat.mul_mod, Nat.mod_mod, ← Nat.mul_mod, hBe, Nat.mul_mod_mul_right]
 rw [e1] at d1
 have hp := Nat.two_pow_pos s
 have hL1 : big % n * 2 ^ s < B := by
  rw [hBe]; exact Nat.mul_lt_mul_of_pos_right (Nat.mod_lt _ ok.pos) hp
 obtain ⟨k, hk⟩ : ∃ k : Nat, k = 384 := ⟨_, rfl⟩
 have d2 := fun g w hm => doubleL_any g B (big % n * 2 ^ s) k (by omega) hB hL1 w hm
 have e2 : big % n * 2 ^ s * 2 ^ k % B = big * big % n * 2 ^ s := by
  rw [pow_is k (by omega), Nat.mul_right_comm, hBe, Nat.mul_mod_mul_right, Nat.mul_mod, Nat.mod_mod, ← Nat.mul_mod]
 rw [e2] at d2
 have hL2 : big * big % n * 2 ^ s < B := by
  rw [hBe]; exact Nat.mul_lt_mul_of_pos_right (Nat.mod_lt _ ok.pos) hp
 have ek : ((k : Nat) : Int) = 384 := by omega
 rw [ek] at d2
 have co := fun w => shift_neg' (big % n * 2 ^ s) s (by omega) hs2 w
 have cq := fun w => shift_neg' (big * big % n * 2 ^ s) s (by omega) hs2 w
 rw [Nat.mul_div_cancel _ hp] at co cq
 exact powersOf_gen n l s B 0 (big - B) _ _ _ _ _ rfl hl2 hs cl cb cs d1 co d2 cq w
theorem new_4 (n o s : Nat) (L : Int) (hr : (wd n 0).tmod 2 = 1)
  (e1 : ∀ w, (Op.equalIn 10000 24 (N n) (N 1)).run Tryz.prog w = .ok false w) (hL : ¬ (382 : Int) < L)
  (c29 : ∀ w, Calls Tryz.prog 17 #[.int .u64 1] w (Rt w (N 1)))
  (c33 : ∀ w, Calls Tryz.prog 34 #[N n] w (Rt w (.int .i64 L)))
  (c34 : ∀ w, Calls Tryz.prog 35 #[.int .u64 (wd n 0)] w (Rt w (.int .u64 (wrapZ (wd n 0)))))
  (c35 : ∀ w, Calls Tryz.prog 36 #[N n] w (Rt w (.tuple #[N o, N s]))) (w : World) :
  Calls Tryz.prog 12 #[N n] w fun e w' => Below w.heap.size w w' ∧ ∃ g, e = .returned (.tuple #[PT g 0, .int .i64 0]) ∧ w.heap.size ≤ g ∧ g < w'.heap.size ∧ Blk w' g (zN n o s) := by
 have H0 : Hid (_ ∧ _) := ⟨Mm.nil w, Below.refl w.heap.size w⟩
 have C29 : Hid _ := c29
 have C33 : Hid _ := c33
 have C34 : Hid _ := c34
 have C35 : Hid _ := c35
 clear c29 c33 c34 c35
 go_enter Tryz.func12, Tryz.ntmps12
 refine wp_seq ?_
 refine zC 3 [.made (zB n) 24, .q (.pointer none), .q (.int .i64 0)] (sB H0) ?ho1 ?he1
 case ho1 => exact am (zU rfl rfl) (ar (ar trivial))
 intro J w1 l hM hl
 have H1 : Hid (Mm w1 [(J 0, zB n)] ∧ _) := wB H0 hM hl [0]
 have o1_0 := vB H0 hM hl 0
 clear hM hl l
 generalize J 0 = J1_0 at H1 o1_0 ⊢
 clear J
 refine rN (wp_seq (wp_seq ?_))
 refine zS 14 [.q (PT J1_0 0), .q (.int .u64 (wd n 0)), .q (.int .u64 1), .q (.bool false), .q (.bool false), .q (N n), .call (N 1), .q (.bool false), .q (.bool false), .q (.bool false), .q (N n), .call (.int .i64 L), .q (.bool false), .q (.bool false)] H1 ?ho2 ?he2
 case ho2 => exact ag (aq (fun w' h => ex_load1 h 0 rfl rfl rfl rfl) (ag (ag (ar (bN 0 (ac (fun w' h => eC call17 (C29.out w')) (ak (fun J => ⟨rfl, fun w' _ => exec_eq6 e1 rfl rfl rfl⟩) (ag (ar (bN 0 (ac (fun w' h => eC call34 (C33.out w')) (ag (ag trivial)))))))))))))
 intro _ w2 H2
 clear H1
 refine rN (wp_cond_false rfl ?_)
 refine wp_skip (zA (wp_seq ?_))
 refine zP 6 [.q (N n), .q (PT J1_0 0), .q (.int .u64 (wd n 0)), .call (.int .u64 (wrapZ (wd n 0))), .q (modv n 0 0), .made (zN n 0 0) 72] (sB H2) ?ho3 ?he3
 case ho3 => exact bN 0 (ag (aq (fun w' h => ex_load1 h 0 rfl rfl rfl rfl) (ac (fun w' h => eC call35 (C34.out w')) (ak (fun J => ⟨rfl, fun w' _ => ex_build39 rfl rfl rfl⟩) (am (ex_box39 rfl rfl) trivial)))))
 intro J w3 l hM hl
 have H3 : Hid (Mm w3 ([(J 5, zN n 0 0)] ++ _) ∧ _) := wB H2 hM hl [5]
 have o3_5 := vB H2 hM hl 5
 clear hM hl l H2
 generalize J 5 = J3_5 at H3 o3_5 ⊢
 clear J
 refine zH (l := [6]) rfl ?_
 refine zF (d := 4) rfl rfl rfl rfl ?_
 simp only [Act.put, sa, sz, ss]
 refine zE (zA (wp_seq ?_))
 refine zD 9 [.q (PT J3_5 0), .q (PT J3_5 0), .q (N n), .call (.tuple #[N o, N s]), .q (.tuple #[N o, N s]), .q (N o), .q (N s), .q (PT J3_5 0), .q (PT J3_5 7)] H3 ?ho4 ?he4
 case ho4 => exact ar (ar (bN 1 (ac (fun w' h => eC call36 (C35.out w')) (ar (ag (ag (ag (ag trivial))))))))
 intro _ w4 H4
 clear H3
 refine zH (l := [9, 10, 11, 12]) rfl ?_
 refine sG rfl (fun h => zL h 0 rfl rfl rfl rfl (Nat.le_of_ble_eq_true rfl)) 0 [(_, zN n o 0), _] H4 o3_5 fun w5 H5 => ?_
 clear H4
 refine zF (d := 34) (v := PT J3_5 0) (w' := w5) rfl rfl rfl (by go_simp) ?_
 simp only [Act.put, sa, sz, ss]
 refine zF (d := 35) (v := PT J3_5 13) (w' := w5) rfl rfl rfl (by go_simp) ?_
 simp only [Act.put, sa, sz, ss]
 refine sG rfl (fun h => zL h 0 rfl rfl rfl rfl (Nat.le_of_ble_eq_true rfl)) 0 [(_, zN n o s), _] H5 o3_5 fun w6 H6 => ?_
 clear H5
 refine zE (zA (wp_seq ?_))
 refine zD 3 [.q (PT J3_5 0), .q (PT J3_5 0), .q (.int .i64 0)] H6 ?ho5 ?he5
 case ho5 => exact ar (ar (ar trivial))
 intro _ w7 H7
 clear H6
 refine rN (wp_ret ?_)
 repeat (first | refine zJ ?_ | refine zI ?_)
 refine bodyPost_ret (v := .tuple #[PT J3_5 0, .int .i64 0]) (by simp [results, Tryz.results12, go_sem, *]) rfl ?_
 exact ⟨H7.out.2, J3_5, rfl, o3_5.out, H7.out.1.lt (List.mem_of_getElem? (i := 0) rfl), (H7.out.1.blk _ (List.mem_of_getElem? (i := 0) rfl)).2⟩
theorem new_ok {n : Nat} (ok : Ok n) (w : World) : Calls Tryz.prog 12 #[N n] w fun e w' => Below w.heap.size w w' ∧ ∃ g, e = .returned (.tuple #[PT g 0, .int .i64 0]) ∧ w.heap.size ≤ g ∧ g < w'.heap.size ∧ Blk w' g (zT n) := by
 have hw := word_mod n
 rw [ok.odd] at hw
 have e1 := fun w => run_eqN n 1 ok.big (small_big 1 (by decide)) w
 rw [decide_eq_false (by have := ok.three; omega)] at e1
 exact new_4 n (big % n) (big * big % n) _ hw e1 (len_ok ok) (fun w => of_any 1 (by decide) w) (fun w => len_any n ok.big w) (fun w => (wrapOf_any (wd n 0) w).mono fun e w' ⟨h1, h2⟩ => ⟨h1, h2 ▸ Below.refl _ _⟩) (fun w => powersOf_any ok w) w
end Rg
end Go.Proofs.YtmanelnacifgcaaGreatDoor
end
