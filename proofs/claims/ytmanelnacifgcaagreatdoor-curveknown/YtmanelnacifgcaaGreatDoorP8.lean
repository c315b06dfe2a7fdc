/- Texts of the proof, joined. -/
import Derived.Test.YtmanelnacifgcaaGreatDoorP7
set_option maxRecDepth 100000
section
namespace Go.Proofs.YtmanelnacifgcaaGreatDoor
namespace EC
/-- The bits of a word, from the highest; what stands ahead of them. -/
def wbit (s k : Nat) : Nat := s * 2 ^ k % 18446744073709551616 / 9223372036854775808
def wtop (s k : Nat) : Nat := s * 2 ^ k / 18446744073709551616
theorem wtop_next (s k : Nat) : wtop s (k + 1) = 2 * wtop s k + wbit s k := by
 unfold wtop wbit
 rw [Nat.pow_succ, ← Nat.mul_assoc]
 generalize s * 2 ^ k = q
 omega
theorem wbit_le (s k : Nat) : wbit s k ≤ 1 := by
 unfold wbit
 generalize s * 2 ^ k = q
 omega
theorem wtop_0 {s : Nat} (h : s < 18446744073709551616) : wtop s 0 = 0 := by
 unfold wtop
 omega
theorem wtop_64 (s : Nat) : wtop s 64 = s := by
 unfold wtop
 rw [show (2 : Nat) ^ 64 = 18446744073709551616 from rfl]
 omega
section
variable {α : Type} (C : Crv α)
theorem Crv.rep_tst {S : Tri α} {P : Option (α × α)} (h : C.rep S P) (x y : α) :
  (S.1 = C.R.mul x S.2.2 ∧ S.2.1 = C.R.mul (osub (rops C.R) C.R.zero y) S.2.2) ↔ P = some (x, C.R.neg y) := by
 have hy : osub (rops C.R) C.R.zero y = C.R.neg y := C.R.zero_add _
 rw [hy]
 obtain ⟨c, hc, rfl⟩ := h
 rcases P with _ | ⟨u, v⟩
 ·refine ⟨fun h => ?_, fun h => by cases h⟩
  exfalso
  have h2 : C.R.mul c C.R.one = C.R.mul (C.R.neg y) (C.R.mul c C.R.zero) := h.2
  rw [C.R.mul_one, C.R.mul_zero, C.R.mul_zero] at h2
  exact hc h2
 ·show (C.R.mul c u = C.R.mul x (C.R.mul c C.R.one) ∧ C.R.mul c v = C.R.mul (C.R.neg y) (C.R.mul c C.R.one)) ↔ _
  rw [C.R.mul_one, C.R.mul_comm x c, C.R.mul_comm (C.R.neg y) c]
  refine ⟨fun h => ?_, fun h => ?_⟩
  ·rw [C.can hc h.1, C.can hc h.2]
  ·cases h
   exact ⟨rfl, rfl⟩
end
section
variable {α : Type} [DecidableEq α] (C : Crv α)
def Crv.bw (s : Nat) (T : Tri α) : Nat → Tri α
 | 0 => C.lift none
 | k + 1 => if wbit s k = 1 then C.tog (C.twice (Crv.bw s T k)) T else C.twice (Crv.bw s T k)
theorem Crv.rep_bw {T : Tri α} {P : Option (α × α)} (hT : C.rep T P) (hP : C.on P) {s : Nat} (hs : s < 18446744073709551616) : ∀ k, C.rep (C.bw s T k) (C.times P (wtop s k))
 | 0 => by
  rw [wtop_0 hs]
  exact C.rep_lift none
 | k + 1 => by
  have h1 := C.rep_twice (Crv.rep_bw hT hP hs k) (C.times_on hP _)
  rw [C.times_two hP] at h1
  unfold Crv.bw
  rw [wtop_next]
  split
  ·rename_i hb
   rw [hb]
   exact C.rep_tog h1 hT (C.times_on hP _) hP
  ·rename_i hb
   have : wbit s k = 0 := by have := wbit_le s k; omega
   rw [this]
   exact h1
theorem Crv.bw_times {T : Tri α} {P : Option (α × α)} (hT : C.rep T P) (hP : C.on P) {s : Nat} (hs : s < 18446744073709551616) : C.rep (C.bw s T 64) (C.times P s) := by
 have h := C.rep_bw hT hP hs 64
 rw [wtop_64] at h
 exact h
/-- Whether a point is of the group, as the program tells it: n words in a row multiply it, and it is held against the turned one. -/
def Crv.ws (s : Nat) (T : Tri α) : Nat → Tri α
 | 0 => T
 | n + 1 => C.bw s (Crv.ws s T n) 64
theorem Crv.ws_rep {T : Tri α} {P : Option (α × α)} (hT : C.rep T P) (hP : C.on P) {s : Nat} (hs : s < 18446744073709551616) : ∀ n, C.rep (C.ws s T n) (C.times P (s ^ n))
 | 0 => by
  show C.rep T (C.times P 1)
  rw [C.times_one hP]
  exact hT
 | n + 1 => by
  have h := C.bw_times (Crv.ws_rep hT hP hs n) (C.times_on hP _) hs
  rw [← C.times_mul hP] at h
  exact h
end
end EC
end Go.Proofs.YtmanelnacifgcaaGreatDoor
end
section
namespace Go.Proofs.YtmanelnacifgcaaGreatDoor
open Go.RowKit
namespace Rg
theorem checkZ_1 {α : Type} {en : α → Nat} {fa fs fm : α → α → α} {fi : α → α} {z u b : α} {g : Nat} {tn : Value} (_C : Fd1 g en fa fs fm fi z) (x y : Nat) (be : Bool) (he : ∀ w, (Op.equalIn 10000 85 (.agg (zO x y true).toArray) (.agg (zO 0 0 true).toArray)).run Tryz.prog w = .ok be w) (w : World) (hm : Mm w [(g, zT pB), (2, dtab)]) :
  Calls Tryz.prog 45 #[.agg (G1 g tn (en u) (en b)).toArray, .agg (zO x y true).toArray] w (Rt w (.bool be)) := by
 have H0 : Hid (_ ∧ _) := ⟨hm, Below.refl w.heap.size w⟩
 clear hm
 have HE : Hid _ := he
 clear he
 go_enter Tryz.func45, Tryz.ntmps45
 refine wp_seq ?_
 refine zB 3 [.made (G1 g tn (en u) (en b)) 82, .made (zO x y true) 85, .q (.bool false)] (sB H0) ?ho1 ?he1
 case ho1 => exact am (zV rfl rfl) (am (zV rfl rfl) (ar trivial))
 intro J w1 l hM hl
 have H1 : Hid (Mm w1 ([(J 0, G1 g tn (en u) (en b)), (J 1, zO x y true)] ++ _) ∧ _) := wB H0 hM hl [0, 1]
 have o1_0 := vB H0 hM hl 0
 have o1_1 := vB H0 hM hl 1
 clear hM hl l
 generalize J 0 = J1_0 at H1 o1_0 ⊢
 generalize J 1 = J1_1 at H1 o1_1 ⊢
 clear J
 refine rN (wp_seq (wp_seq ?_))
 refine zD 2 [.q (PT J1_1 12), .q (.bool true)] H1 ?ho2 ?he2
 case ho2 => exact ag (bC 1 Ai4 trivial)
 intro _ w2 H2
 clear H1
 refine rN (wp_cond_true rfl (wp_seq ?_))
 refine zD 4 [.q (.agg (zO x y true).toArray), .q (.agg (zO 0 0 true).toArray), .q (.bool be), .q (.bool be)] H2 ?ho3 ?he3
 case ho3 => exact bT 1 Ai85 As85 (ak (fun J => ⟨rfl, fun w' _ => ex_buildPNt rfl rfl⟩) (ak (fun J => ⟨rfl, fun w' _ => exec_eqT85 HE.out rfl rfl rfl⟩) (ar trivial)))
 intro _ w3 H3
 clear H2
 refine rN (wp_ret ?_)
 repeat (first | refine zL ?_ | refine zH ?_)
 refine bodyPost_ret (v := .bool be) (by simp [results, Tryz.results45, go_sem, *]) rfl ?_
 exact ⟨rfl, H3.out.2⟩
theorem checkX_1 {α : Type} {en : α → Nat} {fa fs fm : α → α → α} {fi : α → α} {z u b : α} {g : Nat} {tn : Value} (_C : Fd1 g en fa fs fm fi z) (x y : Nat) (cx : ∀ w, Mm w [(g, zT pB), (2, dtab)] → Calls Tryz.prog 72 #[N x] w (Rt w (.bool false))) (w : World) (hm : Mm w [(g, zT pB), (2, dtab)]) :
  Calls Tryz.prog 45 #[.agg (G1 g tn (en u) (en b)).toArray, .agg (zO x y false).toArray] w (Rt w (.bool false)) := by
 have H0 : Hid (_ ∧ _) := ⟨hm, Below.refl w.heap.size w⟩
 clear hm
 have CX : Hid _ := cx
 clear cx
 go_enter Tryz.func45, Tryz.ntmps45
 refine wp_seq ?_
 refine zB 3 [.made (G1 g tn (en u) (en b)) 82, .made (zO x y false) 85, .q (.bool false)] (sB H0) ?ho1 ?he1
 case ho1 => exact am (zV rfl rfl) (am (zV rfl rfl) (ar trivial))
 intro J w1 l hM hl
 have H1 : Hid (Mm w1 ([(J 0, G1 g tn (en u) (en b)), (J 1, zO x y false)] ++ _) ∧ _) := wB H0 hM hl [0, 1]
 have o1_0 := vB H0 hM hl 0
 have o1_1 := vB H0 hM hl 1
 clear hM hl l
 generalize J 0 = J1_0 at H1 o1_0 ⊢
 generalize J 1 = J1_1 at H1 o1_1 ⊢
 clear J
 refine rN (wp_seq (wp_seq ?_))
 refine zD 2 [.q (PT J1_1 12), .q (.bool false)] H1 ?ho2 ?he2
 case ho2 => exact ag (bC 1 Ai4 trivial)
 intro _ w2 H2
 clear H1
 refine rN (wp_cond_false rfl ?_)
 refine wp_skip (zA (wp_seq ?_))
 refine zN 46 [.q (PT J1_0 0), .q (PT J1_0 4), .q (.func (.func 72) #[] #[]), .q (PT J1_1 0), .q (N x), .call (.bool false), .q (.bool false), .gone, .gone, .gone, .gone, .gone, .gone, .q (.bool false), .q (.bool false), .gone, .gone, .gone, .gone, .gone, .gone, .gone, .gone, .gone, .gone, .gone, .gone, .gone, .gone, .gone, .gone, .gone, .gone, .gone, .gone, .gone, .gone, .gone, .gone, .gone, .gone, .gone, .gone, .gone, .q (.bool false), .q (.bool false)] H2 ?ho3 ?he3 (hL := ?hL3)
 case hL3 => exact trivial
 case ho3 => exact ag (ag (bC 0 Ai46 (ag (bN 1 (ac (fun w' h => ⟨72, #[N x], zK rfl call72 rfl (mpn rfl) rfl, CX.out w' (h.two 2 3 rfl rfl (by decide))⟩) (ar (ak (fun J => rfl) (ak (fun J => rfl) (ak (fun J => rfl) (ak (fun J => rfl) (ak (fun J => rfl) (ak (fun J => rfl) (ag (ar (ak (fun J => rfl) (ak (fun J => rfl) (ak (fun J => rfl) (ak (fun J => rfl) (ak (fun J => rfl) (ak (fun J => rfl) (ak (fun J => rfl) (ak (fun J => rfl) (ak (fun J => rfl) (ak (fun J => rfl) (ak (fun J => rfl) (ak (fun J => rfl) (ak (fun J => rfl) (ak (fun J => rfl) (ak (fun J => rfl) (ak (fun J => rfl) (ak (fun J => rfl) (ak (fun J => rfl) (ak (fun J => rfl) (ak (fun J => rfl) (ak (fun J => rfl) (ak (fun J => rfl) (ak (fun J => rfl) (ak (fun J => rfl) (ak (fun J => rfl) (ak (fun J => rfl) (ak (fun J => rfl) (ak (fun J => rfl) (ak (fun J => rfl) (ag (ar trivial)))))))))))))))))))))))))))))))))))))))))))))
 intro _ w3 H3
 clear H2
 refine rN (wp_ret ?_)
 repeat (first | refine zL ?_ | refine zH ?_)
 refine bodyPost_ret (v := .bool false) (by simp [results, Tryz.results45, go_sem, *]) rfl ?_
 exact ⟨rfl, H3.out.2⟩
theorem checkY_1 {α : Type} {en : α → Nat} {fa fs fm : α → α → α} {fi : α → α} {z u b : α} {g : Nat} {tn : Value} (_C : Fd1 g en fa fs fm fi z) (x y : Nat) (cx : ∀ w, Mm w [(g, zT pB), (2, dtab)] → Calls Tryz.prog 72 #[N x] w (Rt w (.bool true))) (cy : ∀ w, Mm w [(g, zT pB), (2, dtab)] → Calls Tryz.prog 72 #[N y] w (Rt w (.bool false))) (w : World) (hm : Mm w [(g, zT pB), (2, dtab)]) :
  Calls Tryz.prog 45 #[.agg (G1 g tn (en u) (en b)).toArray, .agg (zO x y false).toArray] w (Rt w (.bool false)) := by
 have H0 : Hid (_ ∧ _) := ⟨hm, Below.refl w.heap.size w⟩
 clear hm
 have CX : Hid _ := cx
 clear cx
 have CY : Hid _ := cy
 clear cy
 go_enter Tryz.func45, Tryz.ntmps45
 refine wp_seq ?_
 refine zB 3 [.made (G1 g tn (en u) (en b)) 82, .made (zO x y false) 85, .q (.bool false)] (sB H0) ?ho1 ?he1
 case ho1 => exact am (zV rfl rfl) (am (zV rfl rfl) (ar trivial))
 intro J w1 l hM hl
 have H1 : Hid (Mm w1 ([(J 0, G1 g tn (en u) (en b)), (J 1, zO x y false)] ++ _) ∧ _) := wB H0 hM hl [0, 1]
 have o1_0 := vB H0 hM hl 0
 have o1_1 := vB H0 hM hl 1
 clear hM hl l
 generalize J 0 = J1_0 at H1 o1_0 ⊢
 generalize J 1 = J1_1 at H1 o1_1 ⊢
 clear J
 refine rN (wp_seq (wp_seq ?_))
 refine zD 2 [.q (PT J1_1 12), .q (.bool false)] H1 ?ho2 ?he2
 case ho2 => exact ag (bC 1 Ai4 trivial)
 intro _ w2 H2
 clear H1
 refine rN (wp_cond_false rfl ?_)
 refine wp_skip (zA (wp_seq ?_))
 refine zN 46 [.q (PT J1_0 0), .q (PT J1_0 4), .q (.func (.func 72) #[] #[]), .q (PT J1_1 0), .q (N x), .call (.bool true), .q (.bool true), .q (PT J1_0 0), .q (PT J1_0 4), .q (.func (.func 72) #[] #[]), .q (PT J1_1 6), .q (N y), .call (.bool false), .q (.bool false), .q (.bool false), .gone, .gone, .gone, .gone, .gone, .gone, .gone, .gone, .gone, .gone, .gone, .gone, .gone, .gone, .gone, .gone, .gone, .gone, .gone, .gone, .gone, .gone, .gone, .gone, .gone, .gone, .gone, .gone, .gone, .q (.bool false), .q (.bool false)] H2 ?ho3 ?he3 (hL := ?hL3)
 case hL3 => exact trivial
 case ho3 => exact ag (ag (bC 0 Ai46 (ag (bN 1 (ac (fun w' h => ⟨72, #[N x], zK rfl call72 rfl (mpn rfl) rfl, CX.out w' (h.two 2 3 rfl rfl (by decide))⟩) (ar (ag (ag (bC 0 Ai46 (ag (bN 1 (ac (fun w' h => ⟨72, #[N y], zK rfl call72 rfl (mpn rfl) rfl, CY.out w' (h.two 2 3 rfl rfl (by decide))⟩) (ag (ar (ak (fun J => rfl) (ak (fun J => rfl) (ak (fun J => rfl) (ak (fun J => rfl) (ak (fun J => rfl) (ak (fun J => rfl) (ak (fun J => rfl) (ak (fun J => rfl) (ak (fun J => rfl) (ak (fun J => rfl) (ak (fun J => rfl) (ak (fun J => rfl) (ak (fun J => rfl) (ak (fun J => rfl) (ak (fun J => rfl) (ak (fun J => rfl) (ak (fun J => rfl) (ak (fun J => rfl) (ak (fun J => rfl) (ak (fun J => rfl) (ak (fun J => rfl) (ak (fun J => rfl) (ak (fun J => rfl) (ak (fun J => rfl) (ak (fun J => rfl) (ak (fun J => rfl) (ak (fun J => rfl) (ak (fun J => rfl) (ak (fun J => rfl) (ag (ar trivial)))))))))))))))))))))))))))))))))))))))))))))
 intro _ w3 H3
 clear H2
 refine rN (wp_ret ?_)
 repeat (first | refine zL ?_ | refine zH ?_)
 refine bodyPost_ret (v := .bool false) (by simp [results, Tryz.results45, go_sem, *]) rfl ?_
 exact ⟨rfl, H3.out.2⟩
set_option maxHeartbeats 4000000 in
theorem checkB_1 {α : Type} {en : α → Nat} {fa fs fm : α → α → α} {fi : α → α} {z u b : α} {g : Nat} {tn : Value} (C : Fd1 g en fa fs fm fi z) (x y : α) (be : Bool) (cx : ∀ w, Mm w [(g, zT pB), (2, dtab)] → Calls Tryz.prog 72 #[N (en x)] w (Rt w (.bool true))) (cy : ∀ w, Mm w [(g, zT pB), (2, dtab)] → Calls Tryz.prog 72 #[N (en y)] w (Rt w (.bool true))) (he : ∀ w, (Op.equalIn 10000 24 (N (en (fm y y))) (N (en (fa (fm x (fm x x)) b)))).run Tryz.prog w = .ok be w) (w : World) (hm : Mm w [(g, zT pB), (2, dtab)]) :
  Calls Tryz.prog 45 #[.agg (G1 g tn (en u) (en b)).toArray, .agg (zO (en x) (en y) false).toArray] w (Rt w (.bool be)) := by
 have H0 : Hid (_ ∧ _) := ⟨hm, Below.refl w.heap.size w⟩
 clear hm
 have CX : Hid _ := cx
 clear cx
 have CY : Hid _ := cy
 clear cy
 have HE : Hid _ := he
 clear he
 go_enter Tryz.func45, Tryz.ntmps45
 refine wp_seq ?_
 refine zB 3 [.made (G1 g tn (en u) (en b)) 82, .made (zO (en x) (en y) false) 85, .q (.bool false)] (sB H0) ?ho1 ?he1
 case ho1 => exact am (zV rfl rfl) (am (zV rfl rfl) (ar trivial))
 intro J w1 l hM hl
 have H1 : Hid (Mm w1 ([(J 0, G1 g tn (en u) (en b)), (J 1, zO (en x) (en y) false)] ++ _) ∧ _) := wB H0 hM hl [0, 1]
 have o1_0 := vB H0 hM hl 0
 have o1_1 := vB H0 hM hl 1
 clear hM hl l
 generalize J 0 = J1_0 at H1 o1_0 ⊢
 generalize J 1 = J1_1 at H1 o1_1 ⊢
 clear J
 refine rN (wp_seq (wp_seq ?_))
 refine zD 2 [.q (PT J1_1 12), .q (.bool false)] H1 ?ho2 ?he2
 case ho2 => exact ag (bC 1 Ai4 trivial)
 intro _ w2 H2
 clear H1
 refine rN (wp_cond_false rfl ?_)
 refine wp_skip (zA (wp_seq ?_))
 refine zN 46 [.q (PT J1_0 0), .q (PT J1_0 4), .q (.func (.func 72) #[] #[]), .q (PT J1_1 0), .q (N (en x)), .call (.bool true), .q (.bool true), .q (PT J1_0 0), .q (PT J1_0 4), .q (.func (.func 72) #[] #[]), .q (PT J1_1 6), .q (N (en y)), .call (.bool true), .q (.bool true), .q (.bool true), .q (PT J1_0 0), .q (PT J1_0 2), .q (.func (.func 70) #[PT g 0] #[]), .q (PT J1_1 6), .q (N (en y)), .q (PT J1_1 6), .q (N (en y)), .call (N (en (fm y y))), .q (PT J1_0 0), .q (PT J1_0 0), .q (.func (.func 68) #[PT g 0] #[]), .q (PT J1_0 0), .q (PT J1_0 2), .q (.func (.func 70) #[PT g 0] #[]), .q (PT J1_1 0), .q (N (en x)), .q (PT J1_0 0), .q (PT J1_0 2), .q (.func (.func 70) #[PT g 0] #[]), .q (PT J1_1 0), .q (N (en x)), .q (PT J1_1 0), .q (N (en x)), .call (N (en (fm x x))), .call (N (en (fm x (fm x x)))), .q (PT J1_0 11), .q (N (en b)), .call (N (en (fa (fm x (fm x x)) b))), .q (.bool be), .q (.bool be), .q (.bool be)] H2 ?ho3 ?he3 (hL := ?hL3)
 case hL3 => exact trivial
 case ho3 => exact ag (ag (bC 0 Ai46 (ag (bN 1 (ac (fun w' h => ⟨72, #[N (en x)], zK rfl call72 rfl (mpn rfl) rfl, CX.out w' (h.two 2 3 rfl rfl (by decide))⟩) (ar (ag (ag (bC 0 Ai46 (ag (bN 1 (ac (fun w' h => ⟨72, #[N (en y)], zK rfl call72 rfl (mpn rfl) rfl, CY.out w' (h.two 2 3 rfl rfl (by decide))⟩) (ag (ar (ag (ag (bC 0 Ai76 (ag (bN 1 (ag (bN 1 (ac (fun w' h => ⟨70, #[PT g 0, N (en y), N (en y)], zK rfl call70 rfl (mpn rfl) rfl, C.cm _ _ w' (h.two 2 3 rfl rfl (by decide))⟩) (ag (ag (bC 0 Ai76 (ag (ag (bC 0 Ai76 (ag (bN 1 (ag (ag (bC 0 Ai76 (ag (bN 1 (ag (bN 1 (ac (fun w' h => ⟨70, #[PT g 0, N (en x), N (en x)], zK rfl call70 rfl (mpn rfl) rfl, C.cm _ _ w' (h.two 2 3 rfl rfl (by decide))⟩) (ac (fun w' h => ⟨70, #[PT g 0, N (en x), N (en (fm x x))], zK rfl call70 rfl (mpn rfl) rfl, C.cm _ _ w' (h.two 2 3 rfl rfl (by decide))⟩) (ag (bN 0 (ac (fun w' h => ⟨68, #[PT g 0, N (en (fm x (fm x x))), N (en b)], zK rfl call68 rfl (mpn rfl) rfl, C.ca _ _ w' (h.two 2 3 rfl rfl (by decide))⟩) (ak (fun J => ⟨rfl, fun w' _ => exec_eq6 HE.out rfl rfl rfl⟩) (ag (ar trivial)))))))))))))))))))))))))))))))))))))))))))))
 intro _ w3 H3
 clear H2
 refine rN (wp_ret ?_)
 repeat (first | refine zL ?_ | refine zH ?_)
 refine bodyPost_ret (v := .bool be) (by simp [results, Tryz.results45, go_sem, *]) rfl ?_
 exact ⟨rfl, H3.out.2⟩
theorem negY_1 {α : Type} {en : α → Nat} {fa fs fm : α → α → α} {fi : α → α} {z u b : α} {g : Nat} {tn : Value} (C : Fd1 g en fa fs fm fi z) (x : Nat) (y : α) (zb : Bool) (ck : ∀ w, Mm w [(g, zT pB), (2, dtab)] → Calls Tryz.prog 45 #[.agg (G1 g tn (en u) (en b)).toArray, .agg (zO x (en y) zb).toArray] w (Rt w (.bool true))) (w : World) (hm : Mm w [(g, zT pB), (2, dtab)]) :
  Calls Tryz.prog 46 #[.agg (G1 g tn (en u) (en b)).toArray, .agg (zO x (en y) zb).toArray] w (Rt w (.tuple #[.agg (zO x (en (fs z y)) zb).toArray, .int .i64 0])) := by
 have H0 : Hid (_ ∧ _) := ⟨hm, Below.refl w.heap.size w⟩
 clear hm
 have CK : Hid _ := ck
 clear ck
 go_enter Tryz.func46, Tryz.ntmps46
 refine wp_seq ?_
 refine zB 4 [.made (G1 g tn (en u) (en b)) 82, .made (zO x (en y) zb) 85, .made (zO 0 0 false) 85, .q (.int .i64 0)] (sB H0) ?ho1 ?he1
 case ho1 => exact am (zV rfl rfl) (am (zV rfl rfl) (am (ex_madePN rfl) (ar trivial)))
 intro J w1 l hM hl
 have H1 : Hid (Mm w1 ([(J 0, G1 g tn (en u) (en b)), (J 1, zO x (en y) zb), (J 2, zO 0 0 false)] ++ _) ∧ _) := wB H0 hM hl [0, 1, 2]
 have o1_0 := vB H0 hM hl 0
 have o1_1 := vB H0 hM hl 1
 have o1_2 := vB H0 hM hl 2
 clear hM hl l
 generalize J 0 = J1_0 at H1 o1_0 ⊢
 generalize J 1 = J1_1 at H1 o1_1 ⊢
 generalize J 2 = J1_2 at H1 o1_2 ⊢
 clear J
 refine rN (wp_seq (wp_seq ?_))
 refine zD 4 [.q (.agg (G1 g tn (en u) (en b)).toArray), .q (.agg (zO x (en y) zb).toArray), .call (.bool true), .q (.bool false)] H1 ?ho2 ?he2
 case ho2 => exact bT 0 Ai82 As82 (bT 1 Ai85 As85 (ac (fun w' h => eC call45 (CK.out w' (h.two 3 4 rfl rfl (by decide)))) (ag trivial)))
 intro _ w2 H2
 clear H1
 refine rN (wp_cond_false rfl ?_)
 refine wp_skip (zA (wp_seq ?_))
 refine zD 5 [.q (.agg (G1 g tn (en u) (en b)).toArray), .q (PT J1_1 6), .q (N (en y)), .call (N (en (fs z y))), .q (PT J1_1 6)] H2 ?ho3 ?he3
 case ho3 => exact bT 0 Ai82 As82 (ag (bN 1 (ac (fun w' h => eC call76 (minus_1 C _ w' (h.two 3 4 rfl rfl (by decide)))) (ag trivial))))
 intro _ w3 H3
 clear H2
 refine zF (l := [5]) rfl ?_
 refine sG rfl (fun h => ex_storeT (vs := cel [en (fs z y)]) h 1 rfl rfl rfl rfl Tryz.sizeOf24 rfl (Nat.le_of_ble_eq_true rfl)) 1 [_, (_, zO x (en (fs z y)) zb), _, _, _] H3 o1_1 fun w4 H4 => ?_
 clear H3
 refine zE (zA (wp_seq ?_))
 refine zD 1 [.q (.agg (zO x (en (fs z y)) zb).toArray)] H4 ?ho4 ?he4
 case ho4 => exact bT 1 Ai85 As85 trivial
 intro _ w5 H5
 clear H4
 refine zF (l := [1, 2]) rfl ?_
 refine sG rfl (fun h => ex_storeT (vs := zO x (en (fs z y)) zb) h 2 rfl rfl rfl rfl As85 rfl (Nat.le_of_ble_eq_true rfl)) 2 [_, _, (_, zO x (en (fs z y)) zb), _, _] H5 o1_2 fun w6 H6 => ?_
 clear H5
 refine zG (d := 5) rfl rfl rfl rfl ?_
 simp only [Act.put, sa, sz, ss]
 refine zE (zA (wp_ret ?_))
 repeat (first | refine zL ?_ | refine zH ?_)
 have hf0 := var_T H6.out.1 2 rfl Ai85 As85 rfl
 refine bodyPost_ret (v := .tuple #[.agg (zO x (en (fs z y)) zb).toArray, .int .i64 0]) (by simp [results, Tryz.results46, asAddr, Act.eval, hf0]) rfl ?_
 exact ⟨rfl, H6.out.2⟩
theorem joinM_1 {α : Type} {en : α → Nat} {fa fs fm : α → α → α} {fi : α → α} {z u b : α} {g : Nat} {tn : Value} (_C : Fd1 g en fa fs fm fi z) (x y v s : Nat) (zb zc : Bool) (ck : ∀ w, Mm w [(g, zT pB), (2, dtab)] → Calls Tryz.prog 45 #[.agg (G1 g tn (en u) (en b)).toArray, .agg (zO x y zb).toArray] w (Rt w (.bool true))) (cl : ∀ w, Mm w [(g, zT pB), (2, dtab)] → Calls Tryz.prog 45 #[.agg (G1 g tn (en u) (en b)).toArray, .agg (zO v s zc).toArray] w (Rt w (.bool false))) (w : World) (hm : Mm w [(g, zT pB), (2, dtab)]) :
  Calls Tryz.prog 47 #[.agg (G1 g tn (en u) (en b)).toArray, .agg (zO x y zb).toArray, .agg (zO v s zc).toArray] w (Rt w (.tuple #[.agg (zO 0 0 false).toArray, .int .i64 5])) := by
 have H0 : Hid (_ ∧ _) := ⟨hm, Below.refl w.heap.size w⟩
 clear hm
 have CK : Hid _ := ck
 clear ck
 have CL : Hid _ := cl
 clear cl
 go_enter Tryz.func47, Tryz.ntmps47
 refine wp_seq ?_
 refine zB 5 [.made (G1 g tn (en u) (en b)) 82, .made (zO x y zb) 85, .made (zO v s zc) 85, .made (zO 0 0 false) 85, .q (.int .i64 0)] (sB H0) ?ho1 ?he1
 case ho1 => exact am (zV rfl rfl) (am (zV rfl rfl) (am (zV rfl rfl) (am (ex_madePN rfl) (ar trivial))))
 intro J w1 l hM hl
 have H1 : Hid (Mm w1 ([(J 0, G1 g tn (en u) (en b)), (J 1, zO x y zb), (J 2, zO v s zc), (J 3, zO 0 0 false)] ++ _) ∧ _) := wB H0 hM hl [0, 1, 2, 3]
 have o1_0 := vB H0 hM hl 0
 have o1_1 := vB H0 hM hl 1
 have o1_2 := vB H0 hM hl 2
 have o1_3 := vB H0 hM hl 3
 clear hM hl l
 generalize J 0 = J1_0 at H1 o1_0 ⊢
 generalize J 1 = J1_1 at H1 o1_1 ⊢
 generalize J 2 = J1_2 at H1 o1_2 ⊢
 generalize J 3 = J1_3 at H1 o1_3 ⊢
 clear J
 refine rN (wp_seq (wp_seq ?_))
 refine zD 10 [.q (.agg (G1 g tn (en u) (en b)).toArray), .q (.agg (zO x y zb).toArray), .call (.bool true), .q (.bool false), .q (.bool false), .q (.agg (G1 g tn (en u) (en b)).toArray), .q (.agg (zO v s zc).toArray), .call (.bool false), .q (.bool true), .q (.bool true)] H1 ?ho2 ?he2
 case ho2 => exact bT 0 Ai82 As82 (bT 1 Ai85 As85 (ac (fun w' h => eC call45 (CK.out w' (h.two 4 5 rfl rfl (by decide)))) (ag (ar (bT 0 Ai82 As82 (bT 2 Ai85 As85 (ac (fun w' h => eC call45 (CL.out w' (h.two 4 5 rfl rfl (by decide)))) (ag (ag trivial)))))))))
 intro _ w2 H2
 clear H1
 refine rN (wp_cond_true rfl (wp_seq ?_))
 refine zD 1 [.q (.agg (zO 0 0 false).toArray)] H2 ?ho3 ?he3
 case ho3 => exact ak (fun J => ⟨rfl, fun w' _ => ex_buildPNz rfl⟩) trivial
 intro _ w3 H3
 clear H2
 refine zF (l := [1, 2]) rfl ?_
 refine sG rfl (fun h => ex_storeT (vs := zO 0 0 false) h 3 rfl rfl rfl rfl As85 rfl (Nat.le_of_ble_eq_true rfl)) 3 [_, _, _, (_, zO 0 0 false), _, _] H3 o1_3 fun w4 H4 => ?_
 clear H3
 refine zG (d := 7) rfl rfl rfl rfl ?_
 simp only [Act.put, sa, sz, ss]
 refine zE (zA (wp_ret ?_))
 repeat (first | refine zL ?_ | refine zH ?_)
 have hf0 := var_T H4.out.1 3 rfl Ai85 As85 rfl
 refine bodyPost_ret (v := .tuple #[.agg (zO 0 0 false).toArray, .int .i64 5]) (by simp [results, Tryz.results47, asAddr, Act.eval, hf0]) rfl ?_
 exact ⟨rfl, H4.out.2⟩
theorem joinY_1 {α : Type} {en : α → Nat} {fa fs fm : α → α → α} {fi : α → α} {z u b : α} {g : Nat} {tn : Value} (_C : Fd1 g en fa fs fm fi z) (x y v s : Nat) (zb zc zr : Bool) (a1 a2 a3 b1 b2 b3 t1 t2 t3 : α) (r k : Nat) (ck : ∀ w, Mm w [(g, zT pB), (2, dtab)] → Calls Tryz.prog 45 #[.agg (G1 g tn (en u) (en b)).toArray, .agg (zO x y zb).toArray] w (Rt w (.bool true))) (cl : ∀ w, Mm w [(g, zT pB), (2, dtab)] → Calls Tryz.prog 45 #[.agg (G1 g tn (en u) (en b)).toArray, .agg (zO v s zc).toArray] w (Rt w (.bool true))) (cp : ∀ w, Mm w [(g, zT pB), (2, dtab)] → Calls Tryz.prog 74 #[.agg (G1 g tn (en u) (en b)).toArray, .agg (zO x y zb).toArray] w (Rt w (V [en a1, en a2, en a3]))) (cq : ∀ w, Mm w [(g, zT pB), (2, dtab)] → Calls Tryz.prog 74 #[.agg (G1 g tn (en u) (en b)).toArray, .agg (zO v s zc).toArray] w (Rt w (V [en b1, en b2, en b3]))) (ct : ∀ w, Mm w [(g, zT pB), (2, dtab)] → Calls Tryz.prog 88 #[.agg (G1 g tn (en u) (en b)).toArray, V [en a1, en a2, en a3], V [en b1, en b2, en b3]] w (Rt w (V [en t1, en t2, en t3]))) (cw : ∀ w, Mm w [(g, zT pB), (2, dtab)] → Calls Tryz.prog 87 #[.agg (G1 g tn (en u) (en b)).toArray, V [en t1, en t2, en t3]] w (Rt w (.agg (zO r k zr).toArray))) (w : World) (hm : Mm w [(g, zT pB), (2, dtab)]) :
  Calls Tryz.prog 47 #[.agg (G1 g tn (en u) (en b)).toArray, .agg (zO x y zb).toArray, .agg (zO v s zc).toArray] w (Rt w (.tuple #[.agg (zO r k zr).toArray, .int .i64 0])) := by
 have H0 : Hid (_ ∧ _) := ⟨hm, Below.refl w.heap.size w⟩
 clear hm
 have CK : Hid _ := ck
 clear ck
 have CL : Hid _ := cl
 clear cl
 have CP : Hid _ := cp
 clear cp
 have CQ : Hid _ := cq
 clear cq
 have CT : Hid _ := ct
 clear ct
 have CW : Hid _ := cw
 clear cw
 go_enter Tryz.func47, Tryz.ntmps47
 refine wp_seq ?_
 refine zB 5 [.made (G1 g tn (en u) (en b)) 82, .made (zO x y zb) 85, .made (zO v s zc) 85, .made (zO 0 0 false) 85, .q (.int .i64 0)] (sB H0) ?ho1 ?he1
 case ho1 => exact am (zV rfl rfl) (am (zV rfl rfl) (am (zV rfl rfl) (am (ex_madePN rfl) (ar trivial))))
 intro J w1 l hM hl
 have H1 : Hid (Mm w1 ([(J 0, G1 g tn (en u) (en b)), (J 1, zO x y zb), (J 2, zO v s zc), (J 3, zO 0 0 false)] ++ _) ∧ _) := wB H0 hM hl [0, 1, 2, 3]
 have o1_0 := vB H0 hM hl 0
 have o1_1 := vB H0 hM hl 1
 have o1_2 := vB H0 hM hl 2
 have o1_3 := vB H0 hM hl 3
 clear hM hl l
 generalize J 0 = J1_0 at H1 o1_0 ⊢
 generalize J 1 = J1_1 at H1 o1_1 ⊢
 generalize J 2 = J1_2 at H1 o1_2 ⊢
 generalize J 3 = J1_3 at H1 o1_3 ⊢
 clear J
 refine rN (wp_seq (wp_seq ?_))
 refine zD 10 [.q (.agg (G1 g tn (en u) (en b)).toArray), .q (.agg (zO x y zb).toArray), .call (.bool true), .q (.bool false), .q (.bool false), .q (.agg (G1 g tn (en u) (en b)).toArray), .q (.agg (zO v s zc).toArray), .call (.bool true), .q (.bool false), .q (.bool false)] H1 ?ho2 ?he2
 case ho2 => exact bT 0 Ai82 As82 (bT 1 Ai85 As85 (ac (fun w' h => eC call45 (CK.out w' (h.two 4 5 rfl rfl (by decide)))) (ag (ar (bT 0 Ai82 As82 (bT 2 Ai85 As85 (ac (fun w' h => eC call45 (CL.out w' (h.two 4 5 rfl rfl (by decide)))) (ag (ag trivial)))))))))
 intro _ w2 H2
 clear H1
 refine rN (wp_cond_false rfl ?_)
 refine wp_skip (zA (wp_seq ?_))
 refine zN 10 [.q (.agg (G1 g tn (en u) (en b)).toArray), .q (.agg (G1 g tn (en u) (en b)).toArray), .q (.agg (G1 g tn (en u) (en b)).toArray), .q (.agg (zO x y zb).toArray), .call (V [en a1, en a2, en a3]), .q (.agg (G1 g tn (en u) (en b)).toArray), .q (.agg (zO v s zc).toArray), .call (V [en b1, en b2, en b3]), .call (V [en t1, en t2, en t3]), .call (.agg (zO r k zr).toArray)] H2 ?ho3 ?he3
 case ho3 => exact bT 0 Ai82 As82 (bT 0 Ai82 As82 (bT 0 Ai82 As82 (bT 1 Ai85 As85 (ac (fun w' h => eC call74 (CP.out w' (h.two 4 5 rfl rfl (by decide)))) (bT 0 Ai82 As82 (bT 2 Ai85 As85 (ac (fun w' h => eC call74 (CQ.out w' (h.two 4 5 rfl rfl (by decide)))) (ac (fun w' h => eC call88 (CT.out w' (h.two 4 5 rfl rfl (by decide)))) (ac (fun w' h => eC call87 (CW.out w' (h.two 4 5 rfl rfl (by decide)))) trivial)))))))))
 intro _ w3 H3
 clear H2
 refine zF (l := [10, 11]) rfl ?_
 refine sG rfl (fun h => ex_storeT (vs := zO r k zr) h 3 rfl rfl rfl rfl As85 rfl (Nat.le_of_ble_eq_true rfl)) 3 [_, _, _, (_, zO r k zr), _, _] H3 o1_3 fun w4 H4 => ?_
 clear H3
 refine zG (d := 7) rfl rfl rfl rfl ?_
 simp only [Act.put, sa, sz, ss]
 refine zE (zA (wp_ret ?_))
 repeat (first | refine zL ?_ | refine zH ?_)
 have hf0 := var_T H4.out.1 3 rfl Ai85 As85 rfl
 refine bodyPost_ret (v := .tuple #[.agg (zO r k zr).toArray, .int .i64 0]) (by simp [results, Tryz.results47, asAddr, Act.eval, hf0]) rfl ?_
 exact ⟨rfl, H4.out.2⟩
theorem checkZ_2 {α : Type} {e0 e1 : α → Nat} {fa fs fm : α → α → α} {fi : α → α} {z u b : α} {tn : Value} (_C : Fd2 e0 e1 fa fs fm fi z) (x0 x1 y0 y1 : Nat) (be : Bool) (he : ∀ w, (Op.equalIn 10000 96 (.agg (pc2 x0 x1 y0 y1 true).toArray) (.agg (pc2 0 0 0 0 true).toArray)).run Tryz.prog w = .ok be w) (w : World) (hm : Mm w [(2, dtab)]) :
  Calls Tryz.prog 57 #[.agg (G2 tn (e0 u) (e1 u) (e0 b) (e1 b)).toArray, .agg (pc2 x0 x1 y0 y1 true).toArray] w (Rt w (.bool be)) := by
 have H0 : Hid (_ ∧ _) := ⟨hm, Below.refl w.heap.size w⟩
 clear hm
 have HE : Hid _ := he
 clear he
 go_enter Tryz.func57, Tryz.ntmps57
 refine wp_seq ?_
 refine zB 3 [.made (G2 tn (e0 u) (e1 u) (e0 b) (e1 b)) 93, .made (pc2 x0 x1 y0 y1 true) 96, .q (.bool false)] (sB H0) ?ho1 ?he1
 case ho1 => exact am (zV rfl rfl) (am (zV rfl rfl) (ar trivial))
 intro J w1 l hM hl
 have H1 : Hid (Mm w1 ([(J 0, G2 tn (e0 u) (e1 u) (e0 b) (e1 b)), (J 1, pc2 x0 x1 y0 y1 true)] ++ _) ∧ _) := wB H0 hM hl [0, 1]
 have o1_0 := vB H0 hM hl 0
 have o1_1 := vB H0 hM hl 1
 clear hM hl l
 generalize J 0 = J1_0 at H1 o1_0 ⊢
 generalize J 1 = J1_1 at H1 o1_1 ⊢
 clear J
 refine rN (wp_seq (wp_seq ?_))
 refine zD 2 [.q (PT J1_1 24), .q (.bool true)] H1 ?ho2 ?he2
 case ho2 => exact ag (bC 1 Ai4 trivial)
 intro _ w2 H2
 clear H1
 refine rN (wp_cond_true rfl (wp_seq ?_))
 refine zD 4 [.q (.agg (pc2 x0 x1 y0 y1 true).toArray), .q (.agg (pc2 0 0 0 0 true).toArray), .q (.bool be), .q (.bool be)] H2 ?ho3 ?he3
 case ho3 => exact bT 1 Ai96 As96 (ak (fun J => ⟨rfl, fun w' _ => ex_buildPEt rfl rfl⟩) (ak (fun J => ⟨rfl, fun w' _ => exec_eqT96 HE.out rfl rfl rfl⟩) (ar trivial)))
 intro _ w3 H3
 clear H2
 refine rN (wp_ret ?_)
 repeat (first | refine zL ?_ | refine zH ?_)
 refine bodyPost_ret (v := .bool be) (by simp [results, Tryz.results57, go_sem, *]) rfl ?_
 exact ⟨rfl, H3.out.2⟩
theorem checkX_2 {α : Type} {e0 e1 : α → Nat} {fa fs fm : α → α → α} {fi : α → α} {z u b : α} {tn : Value} (_C : Fd2 e0 e1 fa fs fm fi z) (x0 x1 y0 y1 : Nat) (cx : ∀ w, Mm w [(2, dtab)] → Calls Tryz.prog 81 #[V [x0, x1]] w (Rt w (.bool false))) (w : World) (hm : Mm w [(2, dtab)]) :
  Calls Tryz.prog 57 #[.agg (G2 tn (e0 u) (e1 u) (e0 b) (e1 b)).toArray, .agg (pc2 x0 x1 y0 y1 false).toArray] w (Rt w (.bool false)) := by
 have H0 : Hid (_ ∧ _) := ⟨hm, Below.refl w.heap.size w⟩
 clear hm
 have CX : Hid _ := cx
 clear cx
 go_enter Tryz.func57, Tryz.ntmps57
 refine wp_seq ?_
 refine zB 3 [.made (G2 tn (e0 u) (e1 u) (e0 b) (e1 b)) 93, .made (pc2 x0 x1 y0 y1 false) 96, .q (.bool false)] (sB H0) ?ho1 ?he1
 case ho1 => exact am (zV rfl rfl) (am (zV rfl rfl) (ar trivial))
 intro J w1 l hM hl
 have H1 : Hid (Mm w1 ([(J 0, G2 tn (e0 u) (e1 u) (e0 b) (e1 b)), (J 1, pc2 x0 x1 y0 y1 false)] ++ _) ∧ _) := wB H0 hM hl [0, 1]
 have o1_0 := vB H0 hM hl 0
 have o1_1 := vB H0 hM hl 1
 clear hM hl l
 generalize J 0 = J1_0 at H1 o1_0 ⊢
 generalize J 1 = J1_1 at H1 o1_1 ⊢
 clear J
 refine rN (wp_seq (wp_seq ?_))
 refine zD 2 [.q (PT J1_1 24), .q (.bool false)] H1 ?ho2 ?he2
 case ho2 => exact ag (bC 1 Ai4 trivial)
 intro _ w2 H2
 clear H1
 refine rN (wp_cond_false rfl ?_)
 refine wp_skip (zA (wp_seq ?_))
 refine zN 46 [.q (PT J1_0 0), .q (PT J1_0 4), .q (.func (.func 81) #[] #[]), .q (PT J1_1 0), .q (V [x0, x1]), .call (.bool false), .q (.bool false), .gone, .gone, .gone, .gone, .gone, .gone, .q (.bool false), .q (.bool false), .gone, .gone, .gone, .gone, .gone, .gone, .gone, .gone, .gone, .gone, .gone, .gone, .gone, .gone, .gone, .gone, .gone, .gone, .gone, .gone, .gone, .gone, .gone, .gone, .gone, .gone, .gone, .gone, .gone, .q (.bool false), .q (.bool false)] H2 ?ho3 ?he3 (hL := ?hL3)
 case hL3 => exact trivial
 case ho3 => exact ag (ag (bC 0 Ai88 (ag (bT 1 Ai33 As33 (ac (fun w' h => ⟨81, #[V [x0, x1]], zK rfl call81 rfl (mpn rfl) rfl, CX.out w' (h.one 2 rfl)⟩) (ar (ak (fun J => rfl) (ak (fun J => rfl) (ak (fun J => rfl) (ak (fun J => rfl) (ak (fun J => rfl) (ak (fun J => rfl) (ag (ar (ak (fun J => rfl) (ak (fun J => rfl) (ak (fun J => rfl) (ak (fun J => rfl) (ak (fun J => rfl) (ak (fun J => rfl) (ak (fun J => rfl) (ak (fun J => rfl) (ak (fun J => rfl) (ak (fun J => rfl) (ak (fun J => rfl) (ak (fun J => rfl) (ak (fun J => rfl) (ak (fun J => rfl) (ak (fun J => rfl) (ak (fun J => rfl) (ak (fun J => rfl) (ak (fun J => rfl) (ak (fun J => rfl) (ak (fun J => rfl) (ak (fun J => rfl) (ak (fun J => rfl) (ak (fun J => rfl) (ak (fun J => rfl) (ak (fun J => rfl) (ak (fun J => rfl) (ak (fun J => rfl) (ak (fun J => rfl) (ak (fun J => rfl) (ag (ar trivial)))))))))))))))))))))))))))))))))))))))))))))
 intro _ w3 H3
 clear H2
 refine rN (wp_ret ?_)
 repeat (first | refine zL ?_ | refine zH ?_)
 refine bodyPost_ret (v := .bool false) (by simp [results, Tryz.results57, go_sem, *]) rfl ?_
 exact ⟨rfl, H3.out.2⟩
theorem checkY_2 {α : Type} {e0 e1 : α → Nat} {fa fs fm : α → α → α} {fi : α → α} {z u b : α} {tn : Value} (_C : Fd2 e0 e1 fa fs fm fi z) (x0 x1 y0 y1 : Nat) (cx : ∀ w, Mm w [(2, dtab)] → Calls Tryz.prog 81 #[V [x0, x1]] w (Rt w (.bool true))) (cy : ∀ w, Mm w [(2, dtab)] → Calls Tryz.prog 81 #[V [y0, y1]] w (Rt w (.bool false))) (w : World) (hm : Mm w [(2, dtab)]) :
  Calls Tryz.prog 57 #[.agg (G2 tn (e0 u) (e1 u) (e0 b) (e1 b)).toArray, .agg (pc2 x0 x1 y0 y1 false).toArray] w (Rt w (.bool false)) := by
 have H0 : Hid (_ ∧ _) := ⟨hm, Below.refl w.heap.size w⟩
 clear hm
 have CX : Hid _ := cx
 clear cx
 have CY : Hid _ := cy
 clear cy
 go_enter Tryz.func57, Tryz.ntmps57
 refine wp_seq ?_
 refine zB 3 [.made (G2 tn (e0 u) (e1 u) (e0 b) (e1 b)) 93, .made (pc2 x0 x1 y0 y1 false) 96, .q (.bool false)] (sB H0) ?ho1 ?he1
 case ho1 => exact am (zV rfl rfl) (am (zV rfl rfl) (ar trivial))
 intro J w1 l hM hl
 have H1 : Hid (Mm w1 ([(J 0, G2 tn (e0 u) (e1 u) (e0 b) (e1 b)), (J 1, pc2 x0 x1 y0 y1 false)] ++ _) ∧ _) := wB H0 hM hl [0, 1]
 have o1_0 := vB H0 hM hl 0
 have o1_1 := vB H0 hM hl 1
 clear hM hl l
 generalize J 0 = J1_0 at H1 o1_0 ⊢
 generalize J 1 = J1_1 at H1 o1_1 ⊢
 clear J
 refine rN (wp_seq (wp_seq ?_))
 refine zD 2 [.q (PT J1_1 24), .q (.bool false)] H1 ?ho2 ?he2
 case ho2 => exact ag (bC 1 Ai4 trivial)
 intro _ w2 H2
 clear H1
 refine rN (wp_cond_false rfl ?_)
 refine wp_skip (zA (wp_seq ?_))
 refine zN 46 [.q (PT J1_0 0), .q (PT J1_0 4), .q (.func (.func 81) #[] #[]), .q (PT J1_1 0), .q (V [x0, x1]), .call (.bool true), .q (.bool true), .q (PT J1_0 0), .q (PT J1_0 4), .q (.func (.func 81) #[] #[]), .q (PT J1_1 12), .q (V [y0, y1]), .call (.bool false), .q (.bool false), .q (.bool false), .gone, .gone, .gone, .gone, .gone, .gone, .gone, .gone, .gone, .gone, .gone, .gone, .gone, .gone, .gone, .gone, .gone, .gone, .gone, .gone, .gone, .gone, .gone, .gone, .gone, .gone, .gone, .gone, .gone, .q (.bool false), .q (.bool false)] H2 ?ho3 ?he3 (hL := ?hL3)
 case hL3 => exact trivial
 case ho3 => exact ag (ag (bC 0 Ai88 (ag (bT 1 Ai33 As33 (ac (fun w' h => ⟨81, #[V [x0, x1]], zK rfl call81 rfl (mpn rfl) rfl, CX.out w' (h.one 2 rfl)⟩) (ar (ag (ag (bC 0 Ai88 (ag (bT 1 Ai33 As33 (ac (fun w' h => ⟨81, #[V [y0, y1]], zK rfl call81 rfl (mpn rfl) rfl, CY.out w' (h.one 2 rfl)⟩) (ag (ar (ak (fun J => rfl) (ak (fun J => rfl) (ak (fun J => rfl) (ak (fun J => rfl) (ak (fun J => rfl) (ak (fun J => rfl) (ak (fun J => rfl) (ak (fun J => rfl) (ak (fun J => rfl) (ak (fun J => rfl) (ak (fun J => rfl) (ak (fun J => rfl) (ak (fun J => rfl) (ak (fun J => rfl) (ak (fun J => rfl) (ak (fun J => rfl) (ak (fun J => rfl) (ak (fun J => rfl) (ak (fun J => rfl) (ak (fun J => rfl) (ak (fun J => rfl) (ak (fun J => rfl) (ak (fun J => rfl) (ak (fun J => rfl) (ak (fun J => rfl) (ak (fun J => rfl) (ak (fun J => rfl) (ak (fun J => rfl) (ak (fun J => rfl) (ag (ar trivial)))))))))))))))))))))))))))))))))))))))))))))
 intro _ w3 H3
 clear H2
 refine rN (wp_ret ?_)
 repeat (first | refine zL ?_ | refine zH ?_)
 refine bodyPost_ret (v := .bool false) (by simp [results, Tryz.results57, go_sem, *]) rfl ?_
 exact ⟨rfl, H3.out.2⟩
set_option maxHeartbeats 4000000 in
theorem checkB_2 {α : Type} {e0 e1 : α → Nat} {fa fs fm : α → α → α} {fi : α → α} {z u b : α} {tn : Value} (C : Fd2 e0 e1 fa fs fm fi z) (x y : α) (be : Bool) (cx : ∀ w, Mm w [(2, dtab)] → Calls Tryz.prog 81 #[V [e0 x, e1 x]] w (Rt w (.bool true))) (cy : ∀ w, Mm w [(2, dtab)] → Calls Tryz.prog 81 #[V [e0 y, e1 y]] w (Rt w (.bool true))) (he : ∀ w, (Op.equalIn 10000 33 (V [e0 (fm y y), e1 (fm y y)]) (V [e0 (fa (fm x (fm x x)) b), e1 (fa (fm x (fm x x)) b)])).run Tryz.prog w = .ok be w) (w : World) (hm : Mm w [(2, dtab)]) :
  Calls Tryz.prog 57 #[.agg (G2 tn (e0 u) (e1 u) (e0 b) (e1 b)).toArray, .agg (pc2 (e0 x) (e1 x) (e0 y) (e1 y) false).toArray] w (Rt w (.bool be)) := by
 have H0 : Hid (_ ∧ _) := ⟨hm, Below.refl w.heap.size w⟩
 clear hm
 have CX : Hid _ := cx
 clear cx
 have CY : Hid _ := cy
 clear cy
 have HE : Hid _ := he
 clear he
 go_enter Tryz.func57, Tryz.ntmps57
 refine wp_seq ?_
 refine zB 3 [.made (G2 tn (e0 u) (e1 u) (e0 b) (e1 b)) 93, .made (pc2 (e0 x) (e1 x) (e0 y) (e1 y) false) 96, .q (.bool false)] (sB H0) ?ho1 ?he1
 case ho1 => exact am (zV rfl rfl) (am (zV rfl rfl) (ar trivial))
 intro J w1 l hM hl
 have H1 : Hid (Mm w1 ([(J 0, G2 tn (e0 u) (e1 u) (e0 b) (e1 b)), (J 1, pc2 (e0 x) (e1 x) (e0 y) (e1 y) false)] ++ _) ∧ _) := wB H0 hM hl [0, 1]
 have o1_0 := vB H0 hM hl 0
 have o1_1 := vB H0 hM hl 1
 clear hM hl l
 generalize J 0 = J1_0 at H1 o1_0 ⊢
 generalize J 1 = J1_1 at H1 o1_1 ⊢
 clear J
 refine rN (wp_seq (wp_seq ?_))
 refine zD 2 [.q (PT J1_1 24), .q (.bool false)] H1 ?ho2 ?he2
 case ho2 => exact ag (bC 1 Ai4 trivial)
 intro _ w2 H2
 clear H1
 refine rN (wp_cond_false rfl ?_)
 refine wp_skip (zA (wp_seq ?_))
 refine zN 46 [.q (PT J1_0 0), .q (PT J1_0 4), .q (.func (.func 81) #[] #[]), .q (PT J1_1 0), .q (V [e0 x, e1 x]), .call (.bool true), .q (.bool true), .q (PT J1_0 0), .q (PT J1_0 4), .q (.func (.func 81) #[] #[]), .q (PT J1_1 12), .q (V [e0 y, e1 y]), .call (.bool true), .q (.bool true), .q (.bool true), .q (PT J1_0 0), .q (PT J1_0 2), .q (.func (.func 79) #[] #[]), .q (PT J1_1 12), .q (V [e0 y, e1 y]), .q (PT J1_1 12), .q (V [e0 y, e1 y]), .call (V [e0 (fm y y), e1 (fm y y)]), .q (PT J1_0 0), .q (PT J1_0 0), .q (.func (.func 77) #[] #[]), .q (PT J1_0 0), .q (PT J1_0 2), .q (.func (.func 79) #[] #[]), .q (PT J1_1 0), .q (V [e0 x, e1 x]), .q (PT J1_0 0), .q (PT J1_0 2), .q (.func (.func 79) #[] #[]), .q (PT J1_1 0), .q (V [e0 x, e1 x]), .q (PT J1_1 0), .q (V [e0 x, e1 x]), .call (V [e0 (fm x x), e1 (fm x x)]), .call (V [e0 (fm x (fm x x)), e1 (fm x (fm x x))]), .q (PT J1_0 17), .q (V [e0 b, e1 b]), .call (V [e0 (fa (fm x (fm x x)) b), e1 (fa (fm x (fm x x)) b)]), .q (.bool be), .q (.bool be), .q (.bool be)] H2 ?ho3 ?he3 (hL := ?hL3)
 case hL3 => exact trivial
 case ho3 => exact ag (ag (bC 0 Ai88 (ag (bT 1 Ai33 As33 (ac (fun w' h => ⟨81, #[V [e0 x, e1 x]], zK rfl call81 rfl (mpn rfl) rfl, CX.out w' (h.one 2 rfl)⟩) (ar (ag (ag (bC 0 Ai88 (ag (bT 1 Ai33 As33 (ac (fun w' h => ⟨81, #[V [e0 y, e1 y]], zK rfl call81 rfl (mpn rfl) rfl, CY.out w' (h.one 2 rfl)⟩) (ag (ar (ag (ag (bC 0 Ai86 (ag (bT 1 Ai33 As33 (ag (bT 1 Ai33 As33 (ac (fun w' h => ⟨79, #[V [e0 y, e1 y], V [e0 y, e1 y]], zK rfl call79 rfl (mpn rfl) rfl, C.cm _ _ w' (h.one 2 rfl)⟩) (ag (ag (bC 0 Ai86 (ag (ag (bC 0 Ai86 (ag (bT 1 Ai33 As33 (ag (ag (bC 0 Ai86 (ag (bT 1 Ai33 As33 (ag (bT 1 Ai33 As33 (ac (fun w' h => ⟨79, #[V [e0 x, e1 x], V [e0 x, e1 x]], zK rfl call79 rfl (mpn rfl) rfl, C.cm _ _ w' (h.one 2 rfl)⟩) (ac (fun w' h => ⟨79, #[V [e0 x, e1 x], V [e0 (fm x x), e1 (fm x x)]], zK rfl call79 rfl (mpn rfl) rfl, C.cm _ _ w' (h.one 2 rfl)⟩) (ag (bT 0 Ai33 As33 (ac (fun w' h => ⟨77, #[V [e0 (fm x (fm x x)), e1 (fm x (fm x x))], V [e0 b, e1 b]], zK rfl call77 rfl (mpn rfl) rfl, C.ca _ _ w' (h.one 2 rfl)⟩) (ak (fun J => ⟨rfl, fun w' _ => exec_eqT33 HE.out rfl rfl rfl⟩) (ag (ar trivial)))))))))))))))))))))))))))))))))))))))))))))
 intro _ w3 H3
 clear H2
 refine rN (wp_ret ?_)
 repeat (first | refine zL ?_ | refine zH ?_)
 refine bodyPost_ret (v := .bool be) (by simp [results, Tryz.results57, go_sem, *]) rfl ?_
 exact ⟨rfl, H3.out.2⟩
/-! Elements of twelve parts over the integers: number j of them is a j; w to the power 6 is 1 + i. -/
def m0 (a b : Nat → Int) (i j : Nat) : Int := a (2 * i) * b (2 * j) - a (2 * i + 1) * b (2 * j + 1)
def m1 (a b : Nat → Int) (i j : Nat) : Int := a (2 * i) * b (2 * j + 1) + a (2 * i + 1) * b (2 * j)
end Rg
end Go.Proofs.YtmanelnacifgcaaGreatDoor
end
section
namespace Go.Proofs.YtmanelnacifgcaaGreatDoor
open Go.RowKit
namespace Rg
open NT
/-! What p divides. -/
def Dv (x : Int) : Prop := (pB : Int) ∣ x
theorem pz_iff (x y : Int) : pz x = pz y ↔ Dv (x - y) := by
 have hx := pz_cast x
 have hy := pz_cast y
 constructor
 ·intro h
  exact Int.dvd_of_emod_eq_zero (Int.emod_eq_emod_iff_emod_sub_eq_zero.1 (by rw [← hx, ← hy, h]))
 ·intro h
  exact pz_congr (Int.emod_eq_emod_iff_emod_sub_eq_zero.2 (Int.emod_eq_zero_of_dvd h))
theorem pz_zero_iff (x : Int) : pz x = 0 ↔ Dv x := by
 rw [← pz_zero, pz_iff, Int.sub_zero]
theorem Dv.add {x y : Int} (h : Dv x) (k : Dv y) : Dv (x + y) := Int.dvd_add h k
theorem Dv.sub {x y : Int} (h : Dv x) (k : Dv y) : Dv (x - y) := Int.dvd_sub h k
theorem Dv.mul {x : Int} (h : Dv x) (y : Int) : Dv (y * x) := Int.dvd_trans h (Int.dvd_mul_left y x)
theorem Dv.mulr {x : Int} (h : Dv x) (y : Int) : Dv (x * y) := Int.dvd_trans h (Int.dvd_mul_right x y)
theorem Dv.of {x y : Int} (h : Dv x) (e : x = y) : Dv y := e ▸ h
theorem dv_zero : Dv 0 := Int.dvd_zero _
theorem pB_prm : Prm pB := prm_p
theorem dv_nat (x : Int) : Dv x ↔ pB ∣ x.natAbs := Int.ofNat_dvd_left
theorem Dv.prime {x y : Int} (h : Dv (x * y)) : Dv x ∨ Dv y := by
 rw [dv_nat, Int.natAbs_mul] at h
 rw [dv_nat, dv_nat]
 exact pB_prm.mul h
/-- A number for an integer, with the power that leaves 1. -/
theorem unit_pow {x : Int} (h : ¬ Dv x) : pz x ^ (pB - 1) % pB = 1 :=
 fermat1 pB_prm (pz x) (fun hd => h (by
  rw [← pz_zero_iff]
  obtain ⟨k, hk⟩ := hd
  have := pz_lt x
  rcases Nat.eq_zero_or_pos k with h0 | h0
  ·rw [hk, h0, Nat.mul_zero]
  ·have := Nat.mul_le_mul (Nat.le_refl pB) h0
   omega))
theorem pow_dv {x : Int} (h : Dv x) : ∀ n, 0 < n → pz x ^ n % pB = 0 := fun n hn => by
 rw [(pz_zero_iff x).2 h, Nat.zero_pow hn, Nat.zero_mod]
def eP : Nat := 1000602388805416848354447456433976039139220704984751971333014534031007912622709466110671907282253916009473568139946
theorem pB_four : pB - 1 = 2 * (2 * eP + 1) := by decide +kernel
theorem pz_mod (x y : Int) (h : Dv (x - y)) : pz x = pz y := (pz_iff x y).2 h
theorem pz_mulN (x y : Int) : pz (x * y) = pz x * pz y % pB := by
 rw [← pz_mul, ← Int.natCast_mul, pz_nat]
theorem pz_addN (x y : Int) : pz (x + y) = (pz x + pz y) % pB := by
 rw [← pz_add, ← Int.natCast_add, pz_nat]
/-- No sum of two squares is left without a rest. -/
theorem norm0 {x y : Int} (h : Dv (x * x + y * y)) : Dv x ∧ Dv y := by
 have hp := pB_prm
 by_cases hx : Dv x
 ·refine ⟨hx, ?_⟩
  have h2 : Dv (y * y) := (h.sub (hx.mul x)).of (by omega)
  rcases h2.prime with h3 | h3 <;> exact h3
 ·by_cases hy : Dv y
  ·have h2 : Dv (x * x) := (h.sub (hy.mul y)).of (by omega)
   rcases h2.prime with h3 | h3 <;> exact absurd h3 hx
  ·exfalso
   have ux := unit_pow hx
   have uy := unit_pow hy
   have e : (pz x * pz x + pz y * pz y) % pB = 0 := by
    have h1 := (pz_zero_iff _).2 h
    rw [pz_addN, pz_mulN, pz_mulN, ← Nat.add_mod] at h1
    exact h1
   have ev := even_pow e eP
   rw [pB_four, Nat.pow_mul, Nat.pow_succ, Nat.pow_two] at ux uy
   rw [Nat.mul_mod, ev, ← Nat.mul_mod] at ux
   have s : ((pz y * pz y) ^ (2 * eP) * (pz x * pz x) + (pz y * pz y) ^ (2 * eP) * (pz y * pz y)) % pB = 0 := by
    rw [← Nat.mul_add, Nat.mul_mod, e, Nat.mul_zero, Nat.zero_mod]
   rw [Nat.add_mod, ux, uy] at s
   revert s
   decide +kernel
def eT : Nat := 1334136518407222464472596608578634718852294273313002628444019378708010550163612621480895876376338554679298090853262
theorem pB_three : pB - 1 = 3 * eT := by decide +kernel
theorem two_third : 2 ^ eT % pB = 793479390729215512621379701633421447060886740281060493010456487427281649075476305620758731620350 := pm_eq (by decide +kernel)
/-- 2 is no cube. -/
theorem two_cb {m k : Int} (h : Dv (m * (m * m) - 2 * (k * (k * k)))) : Dv k := by
 by_cases hk : Dv k
 ·exact hk
 ·exfalso
  have uk := unit_pow hk
  have e : pz m * (pz m * pz m) % pB = 2 * (pz k * (pz k * pz k)) % pB := by
   have h1 := pz_mod _ _ h
   rw [pz_mulN, pz_mulN, pz_mulN, pz_mulN, pz_mulN, Nat.mul_mod_mod, Nat.mul_mod_mod] at h1
   rw [h1, show pz 2 = 2 by decide +kernel, Nat.mul_mod 2, Nat.mul_mod_mod (pz k), ← Nat.mul_mod 2]
  have c3 : ∀ x : Nat, x * (x * x) = x ^ 3 := fun x => by rw [Nat.pow_succ, Nat.pow_two, Nat.mul_assoc]
  rw [c3, c3] at e
  have e2 : (pz m ^ 3) ^ eT % pB = (2 * (pz k ^ 3)) ^ eT % pB := by rw [Nat.pow_mod, e, ← Nat.pow_mod]
  rw [Nat.mul_pow 2, Nat.mul_mod, two_third, ← Nat.pow_mul, ← Nat.pow_mul, ← pB_three, uk] at e2
  by_cases hm : Dv m
  ·rw [pow_dv hm _ (by decide +kernel)] at e2
   revert e2
   decide +kernel
  ·rw [unit_pow hm] at e2
   revert e2
   decide +kernel
/-! Pairs. -/
abbrev Z2 := Int × Int
def cm (a b : Z2) : Z2 := (a.1 * b.1 - a.2 * b.2, a.1 * b.2 + a.2 * b.1)
def ca (a b : Z2) : Z2 := (a.1 + b.1, a.2 + b.2)
def cs (a b : Z2) : Z2 := (a.1 - b.1, a.2 - b.2)
def cn (a : Z2) : Int := a.1 * a.1 + a.2 * a.2
def xi : Z2 := (1, 1)
def O2 (a : Z2) : Prop := Dv a.1 ∧ Dv a.2
theorem O2.mul {a : Z2} (h : O2 a) (b : Z2) : O2 (cm b a) := ⟨(h.1.mul b.1).sub (h.2.mul b.2), (h.2.mul b.1).add (h.1.mul b.2)⟩
theorem O2.add {a b : Z2} (h : O2 a) (k : O2 b) : O2 (ca a b) := ⟨h.1.add k.1, h.2.add k.2⟩
theorem O2.sub {a b : Z2} (h : O2 a) (k : O2 b) : O2 (cs a b) := ⟨h.1.sub k.1, h.2.sub k.2⟩
theorem O2.of {a b : Z2} (h : O2 a) (e : a = b) : O2 b := e ▸ h
theorem O2.cn {a : Z2} (h : O2 a) : Dv (cn a) := (h.1.mul a.1).add (h.2.mul a.2)
/-! Three parts: v v v is 1 + i. -/
def d0 (x y z : Z2) : Z2 := cs (cm x x) (cm xi (cm y z))
def d1 (x y z : Z2) : Z2 := cs (cm xi (cm z z)) (cm x y)
def d2 (x y z : Z2) : Z2 := cs (cm y y) (cm x z)
end Rg
end Go.Proofs.YtmanelnacifgcaaGreatDoor
end
section
namespace Go.Proofs.YtmanelnacifgcaaGreatDoor
open Go.RowKit
namespace Rg
theorem inv_ex {n a : Nat} (ok : Ok n) (hg : Nat.gcd n a = 1) : ∃ x, x < n ∧ x * a % n = 1 := by
 have key : ∀ (m : Nat) (z : WS), z.o + z.r = m → WI n a z → ∃ x, x < n ∧ x * a % n = 1 := by
  intro m
  induction m using Nat.strongRecOn with
  | _ m ih =>
   intro z hz I
   obtain ⟨o, r, u, v, h, t⟩ := z
   simp only at hz
   by_cases hr : r = 0
   ·subst hr
    have ho : o = 1 := by
     have h1 : Nat.gcd o 0 = Nat.gcd n a := I.gcd
     rw [Nat.gcd_zero_right] at h1
     rw [h1]; exact hg
    cases t with
    | true => exact ⟨_, Nat.mod_lt _ ok.pos, end_true ok I ho⟩
    | false => exact ⟨_, Nat.mod_lt _ ok.pos, end_false ok I ho⟩
   ·have hrb : r < big := by have h1 : r ≤ n := I.rn; have := ok.big; omega
    obtain ⟨k, r1, hk, er, hr1, _⟩ := trailing_any hrb hr
    obtain ⟨p1, p2, _⟩ := I.facts hr er
    obtain ⟨i1, i2⟩ := I.next hr er hr1
    have hle : r1 ≤ r := by rw [er]; exact Nat.le_mul_of_pos_right _ (Nat.two_pow_pos k)
    by_cases hl : r1 < o
    ·exact ih (r1 + (o - r1)) (by omega) _ rfl (i1 hl)
    ·exact ih (o + (r1 - o)) (by omega) _ rfl (i2 hl)
 exact key _ ⟨n, a % n, 0, 1, 0, false⟩ rfl (WI.start ok)
theorem invm_spec {n a : Nat} (ok : Ok n) (hg : Nat.gcd n a = 1) : invm n a < n ∧ invm n a * a % n = 1 := by
 obtain ⟨x, hx, h1⟩ := inv_ex ok hg
 rw [invm_eq hx h1]
 exact ⟨hx, h1⟩
end Rg
end Go.Proofs.YtmanelnacifgcaaGreatDoor
end
section
namespace Go.Proofs.YtmanelnacifgcaaGreatDoor
open Go.RowKit
namespace Rg
open NT
abbrev Fp := {n : Nat // n < pB}
theorem pB_pos : 0 < pB := pB_prm.pos
theorem pB_one : 1 < pB := pB_prm.1
theorem pB_four_lt : 4 < pB := by decide +kernel
def fpR : EC.Rng Fp where
 add := fun a b => ⟨(a.1 + b.1) % pB, Nat.mod_lt _ pB_pos⟩
 mul := fun a b => ⟨a.1 * b.1 % pB, Nat.mod_lt _ pB_pos⟩
 zero := ⟨0, pB_pos⟩
 one := ⟨1, pB_one⟩
 neg := fun a => ⟨(pB - a.1) % pB, Nat.mod_lt _ pB_pos⟩
 add_comm := fun a b => Subtype.ext (by dsimp only; rw [Nat.add_comm])
 add_assoc := fun a b c => Subtype.ext (by dsimp only; rw [Nat.mod_add_mod, Nat.add_mod_mod, Nat.add_assoc])
 zero_add := fun a => Subtype.ext (by dsimp only; rw [Nat.zero_add, Nat.mod_eq_of_lt a.2])
 neg_add := fun a => Subtype.ext (by
  dsimp only
  rw [Nat.mod_add_mod, Nat.sub_add_cancel (Nat.le_of_lt a.2), Nat.mod_self])
 mul_comm := fun a b => Subtype.ext (by dsimp only; rw [Nat.mul_comm])
 mul_assoc := fun a b c => Subtype.ext (by dsimp only; rw [Nat.mod_mul_mod, Nat.mul_mod_mod, Nat.mul_assoc])
 one_mul := fun a => Subtype.ext (by dsimp only; rw [Nat.one_mul, Nat.mod_eq_of_lt a.2])
 mul_add := fun a b c => Subtype.ext (by dsimp only; rw [Nat.mul_mod_mod, Nat.mul_add, Nat.add_mod])
def fpI (a : Fp) : Fp := ⟨invm pB a.1 % pB, Nat.mod_lt _ pB_pos⟩
theorem fp_gcd {a : Fp} (h : a ≠ fpR.zero) : Nat.gcd pB a.1 = 1 := by
 refine pB_prm.cop (fun hd => h ?_)
 refine Subtype.ext ?_
 show a.1 = 0
 have h2 := a.2
 rcases Nat.eq_zero_or_pos a.1 with h0 | h0
 ·exact h0
 ·have := Nat.le_of_dvd h0 hd
  omega
theorem fpI_val {a : Fp} (h : a ≠ fpR.zero) : (fpI a).1 = invm pB a.1 := Nat.mod_eq_of_lt (invm_spec pB_ok (fp_gcd h)).1
theorem fpI_mul (a : Fp) (h : a ≠ fpR.zero) : fpR.mul (fpI a) a = fpR.one := by
 refine Subtype.ext ?_
 show (fpI a).1 * a.1 % pB = 1
 rw [fpI_val h]
 exact (invm_spec pB_ok (fp_gcd h)).2
def fp4 : Fp := ⟨4, pB_four_lt⟩
theorem not_dv {k : Nat} (h0 : 0 < k) (h : k < pB) : ¬ Dv (k : Int) := fun hd => by
 have := Nat.le_of_dvd h0 ((dv_nat (k : Int)).1 hd)
 omega
theorem side_dv {t : Fp} (h : EC.side fpR fp4 t = fpR.zero) : Dv ((t.1 : Int) * ((t.1 : Int) * t.1) + 4) := by
 have e : (t.1 * (t.1 * t.1 % pB) % pB + 4) % pB = 0 := congrArg Subtype.val h
 rw [Nat.mul_mod_mod, Nat.mod_add_mod] at e
 have hd : (pB : Int) ∣ ((t.1 * (t.1 * t.1) + 4 : Nat) : Int) := Int.ofNat_dvd.2 (Nat.dvd_of_mod_eq_zero e)
 rw [Int.natCast_add, Int.natCast_mul, Int.natCast_mul] at hd
 exact hd
theorem fp_cube (t : Fp) : EC.side fpR fp4 t ≠ fpR.zero := fun h => by
 have hd := side_dv h
 have h2 : Dv (2 : Int) := two_cb (m := (t.1 : Int) * t.1) (k := 2) ((hd.mul ((t.1 : Int) * ((t.1 : Int) * t.1) - 4)).of (by grind))
 exact not_dv (k := 2) (by decide) (by decide +kernel) h2
theorem fp_two : fpR.add fpR.one fpR.one ≠ fpR.zero := fun h => by
 have e : (1 + 1) % pB = 0 := congrArg Subtype.val h
 revert e
 decide +kernel
theorem fp_one : fpR.one ≠ fpR.zero := fun h => absurd (congrArg Subtype.val h) (by decide)
/-- The first curve. -/
def zX (I : Fp → Fp) : Prop := ∀ a, a ≠ fpR.zero → fpR.mul (I a) a = fpR.one
theorem inv1_ex : ∃ I, zX I := ⟨fpI, fpI_mul⟩
def K1 {I : Fp → Fp} (hI : zX I) : EC.Crv Fp := ⟨fpR, I, fp4, hI, fp_cube, fp_one, fp_two⟩
/-! Pairs. -/
abbrev Fq := Fp × Fp
theorem fp_norm (x y : Fp) (h : fpR.add (fpR.mul x x) (fpR.mul y y) = fpR.zero) : x = fpR.zero ∧ y = fpR.zero := by
 have e : (x.1 * x.1 % pB + y.1 * y.1 % pB) % pB = 0 := congrArg Subtype.val h
 rw [Nat.mod_add_mod, Nat.add_mod_mod] at e
 have hd : (pB : Int) ∣ ((x.1 * x.1 + y.1 * y.1 : Nat) : Int) := Int.ofNat_dvd.2 (Nat.dvd_of_mod_eq_zero e)
 rw [Int.natCast_add, Int.natCast_mul, Int.natCast_mul] at hd
 obtain ⟨h1, h2⟩ := norm0 (x := (x.1 : Int)) (y := (y.1 : Int)) hd
 have z : ∀ a : Fp, Dv (a.1 : Int) → a = fpR.zero := fun a ha => by
  refine Subtype.ext ?_
  show a.1 = 0
  rcases Nat.eq_zero_or_pos a.1 with h0 | h0
  ·exact h0
  ·exact absurd ha (not_dv h0 a.2)
 exact ⟨z x h1, z y h2⟩
def fqR : EC.Rng Fq := EC.pairR fpR
def fq4 : Fq := (fp4, fp4)
theorem fpz (a b : Fp) : (((fpR.add a b).1 : Nat) : Int) % pB = ((a.1 : Int) + b.1) % pB := by
 show (((a.1 + b.1) % pB : Nat) : Int) % pB = _
 rw [Int.natCast_emod, Int.emod_emod, Int.natCast_add]
theorem fpm (a b : Fp) : (((fpR.mul a b).1 : Nat) : Int) % pB = ((a.1 : Int) * b.1) % pB := by
 show (((a.1 * b.1) % pB : Nat) : Int) % pB = _
 rw [Int.natCast_emod, Int.emod_emod, Int.natCast_mul]
theorem fpn (a : Fp) : (((fpR.neg a).1 : Nat) : Int) % pB = (-(a.1 : Int)) % pB := by
 show (((pB - a.1) % pB : Nat) : Int) % pB = _
 rw [Int.natCast_emod, Int.emod_emod, Int.ofNat_sub (Nat.le_of_lt a.2), Int.sub_eq_add_neg, Int.add_emod_left]
/-- A number of the field is congruent to an integer. -/
def Cg (a : Fp) (x : Int) : Prop := Dv ((a.1 : Int) - x)
theorem cg_of {a : Fp} {x : Int} (h : ((a.1 : Nat) : Int) % pB = x % pB) : Cg a x := Int.dvd_of_emod_eq_zero (Int.emod_eq_emod_iff_emod_sub_eq_zero.1 h)
theorem cg_self (a : Fp) : Cg a a.1 := cg_of rfl
theorem Cg.add {a b : Fp} {x y : Int} (h : Cg a x) (k : Cg b y) : Cg (fpR.add a b) (x + y) := by
 have e : Dv (((fpR.add a b).1 : Int) - ((a.1 : Int) + b.1)) := cg_of (fpz a b)
 have h1 : Dv ((a.1 : Int) - x) := h
 have h2 : Dv ((b.1 : Int) - y) := k
 exact Dv.of ((e.add h1).add h2) (by omega)
theorem Cg.mul {a b : Fp} {x y : Int} (h : Cg a x) (k : Cg b y) : Cg (fpR.mul a b) (x * y) := by
 show Dv (((fpR.mul a b).1 : Int) - x * y)
 have e : Dv (((fpR.mul a b).1 : Int) - ((a.1 : Int) * b.1)) := cg_of (fpm a b)
 have h1 : Dv ((a.1 : Int) - x) := h
 have h2 : Dv ((b.1 : Int) - y) := k
 have h3 := h1.mulr (b.1 : Int)
 have h4 := h2.mul x
 clear h k h1 h2
 generalize ((fpR.mul a b).1 : Int) = m at *
 generalize (a.1 : Int) = u at *
 generalize (b.1 : Int) = v at *
 exact Dv.of ((e.add h3).add h4) (by grind)
theorem Cg.neg {a : Fp} {x : Int} (h : Cg a x) : Cg (fpR.neg a) (-x) := by
 have e : Dv (((fpR.neg a).1 : Int) - -(a.1 : Int)) := cg_of (fpn a)
 have h1 : Dv ((a.1 : Int) - x) := h
 exact Dv.of (e.sub h1) (by omega)
theorem Cg.zero {a : Fp} {x : Int} (h : Cg a x) (e : a = fpR.zero) : Dv x := by
 subst e
 exact ((dv_zero).sub h).of (by show 0 - (((0 : Nat) : Int) - x) = x; omega)
theorem fq_cube (t : Fq) : EC.side fqR fq4 t ≠ fqR.zero := fun h => by
 obtain ⟨x, y⟩ := t
 have cx := cg_self x
 have cy := cg_self y
 generalize (x.1 : Int) = X at cx
 generalize (y.1 : Int) = Y at cy
 have c4 : Cg fp4 4 := cg_self fp4
 have h1 := Cg.zero (((cx.mul ((cx.mul cx).add (cy.mul cy).neg)).add (cy.mul ((cx.mul cy).add (cy.mul cx))).neg).add c4) (congrArg Prod.fst h)
 have h2 := Cg.zero (((cx.mul ((cx.mul cy).add (cy.mul cx))).add (cy.mul ((cx.mul cx).add (cy.mul cy).neg))).add c4) (congrArg Prod.snd h)
 clear cx cy c4 h
 have h8 : Dv (8 : Int) := two_cb (m := (X * X + Y * Y) * (X * X + Y * Y)) (k := 8) (by
  have e := (h1.mulr (X * (X * X + -(Y * Y)) + -(Y * (X * Y + Y * X)) - 4)).add (h2.mulr (X * (X * Y + Y * X) + Y * (X * X + -(Y * Y)) - 4))
  have e2 := e.mulr ((X * X + Y * Y) * (X * X + Y * Y) * (X * X + Y * Y) + 32)
  exact e2.of (by grind))
 exact not_dv (k := 8) (by decide) (by decide +kernel) h8
theorem fq_one : fqR.one ≠ fqR.zero := fun h => fp_one (congrArg Prod.fst h)
theorem fq_two : fqR.add fqR.one fqR.one ≠ fqR.zero := fun h => fp_two (congrArg Prod.fst h)
/-- The second curve. -/
def K2 {I : Fp → Fp} (hI : zX I) : EC.Crv Fq := ⟨fqR, EC.pinv fpR I, fq4, fun a h => EC.pinv_mul fpR I hI fp_norm a h, fq_cube, fq_one, fq_two⟩
end Rg
end Go.Proofs.YtmanelnacifgcaaGreatDoor
end
section
namespace Go.Proofs.YtmanelnacifgcaaGreatDoor
open Go.RowKit
namespace Rg
set_option maxHeartbeats 1000000 in
theorem norm_gen (g n o s a0 a1 f0 f1 q0 q1 z0 z1 r : Nat)
  (c0 : ∀ w, Calls Tryz.prog 148 #[N a0, N a0] w (Rt w (V [f0, f1])))
  (c1 : ∀ w, Calls Tryz.prog 148 #[N a1, N a1] w (Rt w (V [q0, q1])))
  (c2 : ∀ w, Calls Tryz.prog 150 #[V [f0, f1], V [q0, q1]] w (Rt w (V [z0, z1])))
  (c3 : ∀ w, Mm w [(g, zY n o s)] → Calls Tryz.prog 147 #[.agg #[PT g 0], V [z0, z1]] w (Rt w (N r))) (w : World) (hm : Mm w [(g, zY n o s)]) :
  Calls Tryz.prog 140 #[.agg #[PT g 0], V [a0, a1]] w (Rt w (N r)) := by
 have H0 : Hid (_ ∧ _) := ⟨hm, Below.refl w.heap.size w⟩
 clear hm
 have C0 : Hid _ := c0
 have C1 : Hid _ := c1
 have C2 : Hid _ := c2
 have C3 : Hid _ := c3
 clear c0 c1 c2 c3
 go_enter Tryz.func140, Tryz.ntmps140
 refine wp_seq ?_
 refine zB 3 [.made [PT g 0] 156, .made (cel [a0, a1]) 33, .made zero6 24] (sB H0) ?ho1 ?he1
 case ho1 => exact am (ex_boxF rfl rfl) (am (ex_boxA rfl rfl) (am (zJ rfl) trivial))
 intro J w1 l hM hl
 have H1 : Hid (Mm w1 ([(J 0, [PT g 0]), (J 1, cel [a0, a1]), (J 2, zero6)] ++ _) ∧ _) := wB H0 hM hl [0, 1, 2]
 have o1_0 := vB H0 hM hl 0
 have o1_1 := vB H0 hM hl 1
 have o1_2 := vB H0 hM hl 2
 clear hM hl l
 generalize J 0 = J1_0 at H1 o1_0 ⊢
 generalize J 1 = J1_1 at H1 o1_1 ⊢
 generalize J 2 = J1_2 at H1 o1_2 ⊢
 clear J
 refine rN (wp_seq ?_)
 refine zN 13 [.q (.agg #[PT g 0]), .q (PT J1_1 0), .q (N a0), .q (PT J1_1 0), .q (N a0), .call (V [f0, f1]), .q (PT J1_1 6), .q (N a1), .q (PT J1_1 6), .q (N a1), .call (V [q0, q1]), .call (V [z0, z1]), .call (N r)] H1 ?ho2 ?he2
 case ho2 => exact aq (fun w' h => ex_loadF h 0 rfl rfl rfl rfl) (ag (aq (fun w' h => zU (i := 0) h 1 rfl rfl rfl rfl) (ag (aq (fun w' h => zU (i := 0) h 1 rfl rfl rfl rfl) (ac (fun w' h => eC call148 (C0.out w')) (ag (aq (fun w' h => zU (i := 1) h 1 rfl rfl rfl rfl) (ag (aq (fun w' h => zU (i := 1) h 1 rfl rfl rfl rfl) (ac (fun w' h => eC call148 (C1.out w')) (ac (fun w' h => eC call150 (C2.out w')) (ac (fun w' h => eC call147 (C3.out w' (h.one 3 rfl))) trivial))))))))))))
 intro _ w2 H2
 clear H1
 refine zF (l := [13]) rfl ?_
 refine sG rfl (fun h => zQ h 2 rfl rfl rfl rfl (Nat.le_of_ble_eq_true rfl)) 2 [_, _, (_, zC r), _] H2 o1_2 fun w3 H3 => ?_
 clear H2
 refine zE (zA (wp_ret ?_))
 repeat (first | refine zL ?_ | refine zH ?_)
 have c0 := H3.out.1.get 2 rfl 0 rfl
 have c1 := H3.out.1.get 2 rfl 1 rfl
 have c2 := H3.out.1.get 2 rfl 2 rfl
 have c3 := H3.out.1.get 2 rfl 3 rfl
 have c4 := H3.out.1.get 2 rfl 4 rfl
 have c5 := H3.out.1.get 2 rfl 5 rfl
 refine bodyPost_ret (v := N r) (by simp [results, Tryz.results140, go_sem, *]) rfl ?_
 exact ⟨rfl, H3.out.2⟩
set_option maxHeartbeats 1000000 in
theorem inv2_ok (g n o s a0 a1 q x d r0 r1 : Nat)
  (c0 : ∀ w, Mm w [(g, zY n o s)] → Calls Tryz.prog 140 #[.agg #[PT g 0], V [a0, a1]] w (Rt w (N q)))
  (c1 : ∀ w, Mm w [(g, zY n o s), (2, dtab)] → Calls Tryz.prog 71 #[PT g 0, N q] w (Rt w (.tuple #[N x, .int .i64 0])))
  (c2 : ∀ w, Mm w [(g, zY n o s)] → Calls Tryz.prog 70 #[PT g 0, N a0, N x] w (Rt w (N r0)))
  (c3 : ∀ w, Calls Tryz.prog 116 #[N a1] w (Rt w (N d)))
  (c4 : ∀ w, Mm w [(g, zY n o s)] → Calls Tryz.prog 70 #[PT g 0, N d, N x] w (Rt w (N r1))) (w : World) (hm : Mm w [(g, zY n o s), (2, dtab)]) :
  Calls Tryz.prog 115 #[.agg #[PT g 0], V [a0, a1]] w (Rt w (.tuple #[V [r0, r1], .int .i64 0])) := by
 have H0 : Hid (_ ∧ _) := ⟨hm, Below.refl w.heap.size w⟩
 clear hm
 have C0 : Hid _ := c0
 have C1 : Hid _ := c1
 have C2 : Hid _ := c2
 have C3 : Hid _ := c3
 have C4 : Hid _ := c4
 clear c0 c1 c2 c3 c4
 go_enter Tryz.func115, Tryz.ntmps115
 refine wp_seq ?_
 refine zB 4 [.made [PT g 0] 156, .made (cel [a0, a1]) 33, .made (cel [0, 0]) 33, .q (.int .i64 0)] (sB H0) ?ho1 ?he1
 case ho1 => exact am (ex_boxF rfl rfl) (am (ex_boxA rfl rfl) (am (ex_madeE2 rfl) (ar trivial)))
 intro J w1 l hM hl
 have H1 : Hid (Mm w1 ([(J 0, [PT g 0]), (J 1, cel [a0, a1]), (J 2, cel [0, 0])] ++ _) ∧ _) := wB H0 hM hl [0, 1, 2]
 have o1_0 := vB H0 hM hl 0
 have o1_1 := vB H0 hM hl 1
 have o1_2 := vB H0 hM hl 2
 clear hM hl l
 generalize J 0 = J1_0 at H1 o1_0 ⊢
 generalize J 1 = J1_1 at H1 o1_1 ⊢
 generalize J 2 = J1_2 at H1 o1_2 ⊢
 clear J
 refine rN (wp_seq ?_)
 refine zR 12 [.q (PT J1_0 0), .q (PT g 0), .q (.agg #[PT g 0]), .q (V [a0, a1]), .call (N q), .call (.tuple #[N x, .int .i64 0]), .q (.tuple #[N x, .int .i64 0]), .q (N x), .q (.int .i64 0), .made zero6 24, .laid 9 zero6 (zC x), .q (.int .i64 0)] (sB H1) ?ho2 ?he2 (hL := ?hL2)
 case hL2 => exact ⟨⟨_, rfl⟩, trivial⟩
 case ho2 => exact ag (aq (fun w' h => ex_loadQ h 0 rfl rfl rfl rfl) (aq (fun w' h => ex_loadF h 0 rfl rfl rfl rfl) (bA 0 2 1 Ai33 As33 (ac (fun w' h => eC call140 (C0.out w' (h.one 3 rfl))) (ac (fun w' h => eC call71 (C1.out w' (h.two 3 4 rfl rfl (by decide)))) (ar (ag (ag (am (zJ rfl) (ak (fun J => ⟨rfl, rfl, rfl, fun w' h => zS h rfl rfl rfl⟩) (ar trivial)))))))))))
 intro J w2 l hM hl
 have H2 : Hid (Mm w2 ([(J 9, zC x)] ++ _) ∧ _) := wB H1 hM hl [9]
 have o2_9 := vB H1 hM hl 9
 clear hM hl l H1
 generalize J 9 = J2_9 at H2 o2_9 ⊢
 clear J
 refine rN (wp_seq (wp_seq ?_))
 refine zD 2 [.q (.int .i64 0), .q (.bool false)] H2 ?ho3 ?he3
 case ho3 => exact ar (ag trivial)
 intro _ w3 H3
 clear H2
 refine rN (wp_cond_false rfl ?_)
 refine wp_skip (zA (wp_seq ?_))
 refine zN 14 [.q (PT J1_0 0), .q (PT g 0), .q (PT J1_1 0), .q (N a0), .q (N x), .call (N r0), .q (PT J1_0 0), .q (PT g 0), .q (PT J1_1 6), .q (N a1), .call (N d), .q (N x), .call (N r1), .q (V [r0, r1])] H3 ?ho4 ?he4
 case ho4 => exact ag (aq (fun w' h => ex_loadQ h 1 rfl rfl rfl rfl) (ag (aq (fun w' h => zU (i := 0) h 2 rfl rfl rfl rfl) (bN 0 (ac (fun w' h => eC call70 (C2.out w' (h.one 4 rfl))) (ag (aq (fun w' h => ex_loadQ h 1 rfl rfl rfl rfl) (ag (aq (fun w' h => zU (i := 1) h 2 rfl rfl rfl rfl) (ac (fun w' h => eC call116 (C3.out w')) (bN 0 (ac (fun w' h => eC call70 (C4.out w' (h.one 4 rfl))) (ak (fun J => ⟨rfl, fun w' _ => ex_buildE2 rfl rfl rfl⟩) trivial)))))))))))))
 intro _ w4 H4
 clear H3
 refine zF (l := [14, 15]) rfl ?_
 refine sF 3 [r0, r1] [_, _, _, _, _, _] H4 o1_2 As33 fun w5 H5 => ?_
 clear H4
 refine zG (d := 5) rfl rfl rfl rfl ?_
 simp only [Act.put, sa, sz, ss]
 refine zE (zA (wp_ret ?_))
 repeat (first | refine zL ?_ | refine zH ?_)
 have hf0 := cel_var (k := 2) H5.out.1 3 rfl Ai33 As33 rfl
 refine bodyPost_ret (v := .tuple #[V [r0, r1], .int .i64 0]) (by simp [results, Tryz.results115, asAddr, Act.eval, hf0]) rfl ?_
 exact ⟨rfl, H5.out.2⟩
set_option maxHeartbeats 1000000 in
theorem invT_ok (n a0 a1 m0 m1 r0 r1 : Nat)
  (c0 : ∀ w, Calls Tryz.prog 113 #[] w fun e w' => Below w.heap.size w w' ∧ ∃ g, e = .returned (.agg #[PT g 0]) ∧ w.heap.size ≤ g ∧ g < w'.heap.size ∧ Blk w' g (zT n))
  (c1 : ∀ w, Calls Tryz.prog 110 #[V [a0, a1]] w (Rt w (V [m0, m1])))
  (c2 : ∀ g w, Mm w [(g, zT n), (2, dtab)] → Calls Tryz.prog 115 #[.agg #[PT g 0], V [m0, m1]] w (Rt w (.tuple #[V [r0, r1], .int .i64 0]))) (w : World) (hm : Mm w [(2, dtab)]) :
  Calls Tryz.prog 80 #[V [a0, a1]] w (Rt w (.tuple #[V [r0, r1], .int .i64 0])) := by
 have H0 : Hid (_ ∧ _) := ⟨hm, Below.refl w.heap.size w⟩
 clear hm
 have C0 : Hid _ := c0
 have C1 : Hid _ := c1
 have C2 : Hid _ := c2
 clear c0 c1 c2
 go_enter Tryz.func80, Tryz.ntmps80
 refine wp_seq ?_
 refine zB 3 [.made (cel [a0, a1]) 33, .made (cel [0, 0]) 33, .q (.int .i64 0)] (sB H0) ?ho1 ?he1
 case ho1 => exact am (ex_boxA rfl rfl) (am (ex_madeE2 rfl) (ar trivial))
 intro J w1 l hM hl
 have H1 : Hid (Mm w1 ([(J 0, cel [a0, a1]), (J 1, cel [0, 0])] ++ _) ∧ _) := wB H0 hM hl [0, 1]
 have o1_0 := vB H0 hM hl 0
 have o1_1 := vB H0 hM hl 1
 clear hM hl l
 generalize J 0 = J1_0 at H1 o1_0 ⊢
 generalize J 1 = J1_1 at H1 o1_1 ⊢
 clear J
 refine rN (wp_seq ?_)
 refine zR 6 [.born (fun g => .agg #[PT g 0]) (zT n), .q (V [a0, a1]), .call (V [m0, m1]), .over (.tuple #[V [r0, r1], .int .i64 0]) 0 (zT n), .q (V [r0, r1]), .q (.int .i64 0)] (sB H1) ?ho2 ?he2 (hL := ?hL2)
 case hL2 => exact ⟨⟨_, rfl⟩, trivial⟩
 case ho2 => exact ak (fun J => ⟨rfl, fun w' h => eC call113 (C0.out w')⟩) (bA 0 2 0 Ai33 As33 (ak (fun J => ⟨rfl, fun w' h => eC call110 (C1.out w')⟩) (ak (fun J => ⟨rfl, fun u w' h0 hge h1 hb hlt => by have h := Mm.over h0 hge h1 hb hlt; exact eC call115 (C2.out _ w' (h.two 0 3 rfl rfl (by decide)))⟩) (ag (ag trivial)))))
 intro J w2 l hM hl
 have H2 : Hid (Mm w2 ([(J 0, zT n)] ++ _) ∧ _) := wB H1 hM hl [0]
 have o2_0 := vB H1 hM hl 0
 clear hM hl l H1
 generalize J 0 = J2_0 at H2 o2_0 ⊢
 clear J
 refine zF (l := [6, 7]) rfl ?_
 refine sF 2 [r0, r1] [_, _, _, _] H2 o1_1 As33 fun w3 H3 => ?_
 clear H2
 refine zG (d := 3) rfl rfl rfl rfl ?_
 simp only [Act.put, sa, sz, ss]
 refine zE (zA (wp_ret ?_))
 repeat (first | refine zL ?_ | refine zH ?_)
 have hf0 := cel_var (k := 2) H3.out.1 2 rfl Ai33 As33 rfl
 refine bodyPost_ret (v := .tuple #[V [r0, r1], .int .i64 0]) (by simp [results, Tryz.results80, asAddr, Act.eval, hf0]) rfl ?_
 exact ⟨rfl, H3.out.2⟩
end Rg
end Go.Proofs.YtmanelnacifgcaaGreatDoor
end
section
namespace Go.Proofs.YtmanelnacifgcaaGreatDoor
open Go.RowKit
namespace Rg
open NT
theorem pz_big (x : Int) : pz x < big := Nat.lt_trans (pz_lt x) pB_lt
theorem pz_pair (x y : Int) : 0 ≤ (pz x : Int) * (pz y : Int) ∧ (pz x : Int) * (pz y : Int) ≤ (pB : Int) * pB := by
 have h := Nat.mul_le_mul (Nat.le_of_lt (pz_lt x)) (Nat.le_of_lt (pz_lt y))
 rw [← Int.natCast_mul, ← Int.natCast_mul]
 omega
theorem pz_small {i : Nat} (h : i < pB) : pz (i : Int) = i := by rw [pz_nat, Nat.mod_eq_of_lt h]
theorem pz_times (x : Int) {i : Nat} (h : i < pB) : pz x * i % pB = pz (x * (i : Int)) := by rw [pz_mulN, pz_small h]
theorem norm_any {g : Nat} (x y : Int) (w : World) (hm : Mm w [(g, zT pB)]) : Calls Tryz.prog 140 #[.agg #[PT g 0], V [pz x, pz y]] w (Rt w (N (pz (x * x + y * y)))) := by
 have w0 : Wi ((pz x : Int) * pz x + (pz y : Int) * pz y) := by have := pz_pair x x; have := pz_pair y y; unfold Wi; omega
 have c4 := fun w hm => restF_any (g := g) _ w0 w hm
 rw [pz_addmul] at c4
 exact norm_gen g pB _ _ (pz x) (pz y) _ _ _ _ _ _ _ (fun w => timesZ_any (pz x) (pz x) (pz_big x) (pz_big x) w) (fun w => timesZ_any (pz y) (pz y) (pz_big y) (pz_big y) w) (fun w => plusZ_any _ _ w) c4 w hm
theorem unit_gcd {x : Int} (h : ¬ Dv x) : Nat.gcd pB (pz x) = 1 := by
 refine pB_prm.cop (fun hd => h ?_)
 rw [← pz_zero_iff]
 obtain ⟨k, hk⟩ := hd
 have := pz_lt x
 rcases Nat.eq_zero_or_pos k with h0 | h0
 ·rw [hk, h0, Nat.mul_zero]
 ·have := Nat.mul_le_mul (Nat.le_refl pB) h0
  omega
/-- The inverse of what is left of x. -/
def iv (x : Int) : Nat := invm pB (pz x)
theorem iv_lt {x : Int} (h : ¬ Dv x) : iv x < pB := (invm_spec pB_ok (unit_gcd h)).1
theorem inv2F_ok {g : Nat} (x y : Int) (h : ¬ Dv (x * x + y * y)) (w : World) (hm : Mm w [(g, zT pB), (2, dtab)]) : Calls Tryz.prog 115 #[.agg #[PT g 0], V [pz x, pz y]] w (Rt w (.tuple #[V [pz (x * (iv (x * x + y * y) : Int)), pz (-y * (iv (x * x + y * y) : Int))], .int .i64 0])) := by
 have hi := iv_lt h
 have c1 := fun w hm => inv_ok (g := g) pB_ok (pz_big (x * x + y * y)) (unit_gcd h) w hm
 have e1 : invm pB (pz (x * x + y * y)) = iv (x * x + y * y) := rfl
 rw [e1] at c1
 generalize iv (x * x + y * y) = i at *
 have c2 := fun w hm => mulm_any (g := g) pB_ok (pz_big x) (Nat.lt_trans hi pB_lt) w hm
 have c4 := fun w hm => mulm_any (g := g) pB_ok (pz_big (-y)) (Nat.lt_trans hi pB_lt) w hm
 rw [pz_times _ hi] at c2 c4
 exact inv2_ok g pB _ _ (pz x) (pz y) _ i _ _ _ (fun w hm => norm_any x y w hm) c1 c2 (fun w => negated_any y w) c4 w hm
theorem invT_good (a0 a1 : Nat) (h0 : a0 < big) (h1 : a1 < big) (h : ¬ Dv ((a0 : Int) * a0 + (a1 : Int) * a1)) (w : World) (hm : Mm w [(2, dtab)]) : Calls Tryz.prog 80 #[V [a0, a1]] w (Rt w (.tuple #[V [pz ((a0 : Int) * (iv ((a0 : Int) * a0 + (a1 : Int) * a1) : Int)), pz (-(a1 : Int) * (iv ((a0 : Int) * a0 + (a1 : Int) * a1) : Int))], .int .i64 0])) :=
 invT_ok pB a0 a1 _ _ _ _ great_any (fun w => left2_any a0 a1 h0 h1 w) (fun g w hm => inv2F_ok (g := g) _ _ h w hm) w hm
end Rg
end Go.Proofs.YtmanelnacifgcaaGreatDoor
end
section
namespace Go.Proofs.YtmanelnacifgcaaGreatDoor
open Go.RowKit
namespace Rg
open NT
def p0 (a : Fp) : Nat := a.1
def q0 (a : Fq) : Nat := a.1.1
def q1 (a : Fq) : Nat := a.2.1
theorem p0_big (a : Fp) : p0 a < big := Nat.lt_trans a.2 pB_lt
theorem q0_big (a : Fq) : q0 a < big := Nat.lt_trans a.1.2 pB_lt
theorem q1_big (a : Fq) : q1 a < big := Nat.lt_trans a.2.2 pB_lt
theorem sub_val {I : Fp → Fp} (hI : zX I) (x y : Fp) : subm pB (p0 x) (p0 y) = p0 (EC.osub (EC.rops (K1 hI).R) x y) := by
 show (x.1 + (pB - y.1 % pB)) % pB = (x.1 + (pB - y.1) % pB) % pB
 rw [Nat.mod_eq_of_lt y.2, Nat.add_mod_mod]
theorem iv_I {I : Fp → Fp} (hI : zX I) {x : Fp} (hx : x ≠ fpR.zero) : invm pB (p0 x) = p0 ((K1 hI).inv x) := invm_eq (I x).2 (congrArg Subtype.val (hI x hx))
theorem va_1 {I : Fp → Fp} (hI : zX I) (x y : Fp) : (p0 x + p0 y) % pB = p0 ((K1 hI).R.add x y) := rfl
theorem vm_1 {I : Fp → Fp} (hI : zX I) (x y : Fp) : p0 x * p0 y % pB = p0 ((K1 hI).R.mul x y) := rfl
theorem vz_1 {I : Fp → Fp} (hI : zX I) : p0 (K1 hI).R.zero = 0 := rfl
theorem fd1 {I : Fp → Fp} (hI : zX I) (g : Nat) : Fd1 g p0 (K1 hI).R.add (EC.osub (EC.rops (K1 hI).R)) (K1 hI).R.mul (K1 hI).inv (K1 hI).R.zero where
 ca := fun x y w hm => by
  have h := addm_any (g := g) pB_ok (p0_big x) (p0_big y) w (hm.one 0 rfl)
  rw [va_1 hI] at h
  exact h
 cs := fun x y w hm => by
  have h := subm_any (g := g) pB_ok (p0_big x) (p0_big y) w (hm.one 0 rfl)
  rw [sub_val hI] at h
  exact h
 cm := fun x y w hm => by
  have h := mulm_any (g := g) pB_ok (p0_big x) (p0_big y) w (hm.one 0 rfl)
  rw [vm_1 hI] at h
  exact h
 cz := fun x w hm => by
  have h := subm_any (g := g) pB_ok (p0_big (K1 hI).R.zero) (p0_big x) w (hm.one 0 rfl)
  rw [sub_val hI, vz_1 hI] at h
  exact h
 ci := fun x w hx hm => by
  have h := inv_ok (g := g) pB_ok (p0_big x) (fp_gcd hx) w hm
  rw [iv_I hI hx] at h
  exact h
theorem cg_pz {a : Fp} {x : Int} (h : Cg a x) : pz x = a.1 := by
 have e := (pz_iff (a.1 : Int) x).2 h
 rw [← e, pz_nat, Nat.mod_eq_of_lt a.2]
theorem fq_zero {a : Fq} (h : a ≠ fqR.zero) : ¬ Dv ((q0 a : Int) * q0 a + (q1 a : Int) * q1 a) := fun hd => h (by
 obtain ⟨h1, h2⟩ := norm0 hd
 have z : ∀ c : Fp, Dv (c.1 : Int) → c = fpR.zero := fun c hc => by
  refine Subtype.ext ?_
  show c.1 = 0
  rcases Nat.eq_zero_or_pos c.1 with h0 | h0
  ·exact h0
  ·exact absurd hc (not_dv h0 c.2)
 exact Prod.ext (z a.1 h1) (z a.2 h2))
theorem cq0 (x : Fq) : Cg x.1 (q0 x : Int) := cg_self x.1
theorem cq1 (x : Fq) : Cg x.2 (q1 x : Int) := cg_self x.2
theorem va0 {I : Fp → Fp} (hI : zX I) (x y : Fq) : pz ((q0 x : Int) + q0 y) = q0 ((K2 hI).R.add x y) := cg_pz ((cq0 x).add (cq0 y))
theorem va1 {I : Fp → Fp} (hI : zX I) (x y : Fq) : pz ((q1 x : Int) + q1 y) = q1 ((K2 hI).R.add x y) := cg_pz ((cq1 x).add (cq1 y))
theorem vs0 {I : Fp → Fp} (hI : zX I) (x y : Fq) : pz ((q0 x : Int) - q0 y) = q0 (EC.osub (EC.rops (K2 hI).R) x y) := by
 rw [Int.sub_eq_add_neg]
 exact cg_pz ((cq0 x).add (cq0 y).neg)
theorem vs1 {I : Fp → Fp} (hI : zX I) (x y : Fq) : pz ((q1 x : Int) - q1 y) = q1 (EC.osub (EC.rops (K2 hI).R) x y) := by
 rw [Int.sub_eq_add_neg]
 exact cg_pz ((cq1 x).add (cq1 y).neg)
theorem vm0 {I : Fp → Fp} (hI : zX I) (x y : Fq) : pz ((q0 x : Int) * q0 y - (q1 x : Int) * q1 y) = q0 ((K2 hI).R.mul x y) := by
 rw [Int.sub_eq_add_neg]
 exact cg_pz (((cq0 x).mul (cq0 y)).add ((cq1 x).mul (cq1 y)).neg)
theorem vm1 {I : Fp → Fp} (hI : zX I) (x y : Fq) : pz ((q0 x : Int) * q1 y + (q1 x : Int) * q0 y) = q1 ((K2 hI).R.mul x y) := cg_pz (((cq0 x).mul (cq1 y)).add ((cq1 x).mul (cq0 y)))
theorem vz0 {I : Fp → Fp} (hI : zX I) : q0 (K2 hI).R.zero = 0 := rfl
theorem vz1 {I : Fp → Fp} (hI : zX I) : q1 (K2 hI).R.zero = 0 := rfl
theorem vn (x : Fq) : Cg (fpR.add (fpR.mul x.1 x.1) (fpR.mul x.2 x.2)) ((q0 x : Int) * q0 x + (q1 x : Int) * q1 x) := ((cq0 x).mul (cq0 x)).add ((cq1 x).mul (cq1 x))
theorem vi {I : Fp → Fp} (hI : zX I) {x : Fq} (hx : x ≠ fqR.zero) : iv ((q0 x : Int) * q0 x + (q1 x : Int) * q1 x) = p0 (I (fpR.add (fpR.mul x.1 x.1) (fpR.mul x.2 x.2))) := by
 have hn : fpR.add (fpR.mul x.1 x.1) (fpR.mul x.2 x.2) ≠ fpR.zero := fun e => fq_zero hx ((vn x).zero e)
 unfold iv
 rw [cg_pz (vn x)]
 exact iv_I hI hn
theorem vi0 {I : Fp → Fp} (hI : zX I) (x : Fq) : pz ((q0 x : Int) * (p0 (I (fpR.add (fpR.mul x.1 x.1) (fpR.mul x.2 x.2))) : Int)) = q0 ((K2 hI).inv x) := cg_pz ((cq0 x).mul (cg_self (I (fpR.add (fpR.mul x.1 x.1) (fpR.mul x.2 x.2)))))
theorem vi1 {I : Fp → Fp} (hI : zX I) (x : Fq) : pz (-(q1 x : Int) * (p0 (I (fpR.add (fpR.mul x.1 x.1) (fpR.mul x.2 x.2))) : Int)) = q1 ((K2 hI).inv x) := by
 rw [Int.neg_mul]
 exact cg_pz ((cq1 x).mul (cg_self (I (fpR.add (fpR.mul x.1 x.1) (fpR.mul x.2 x.2))))).neg
theorem fd2 {I : Fp → Fp} (hI : zX I) : Fd2 q0 q1 (K2 hI).R.add (EC.osub (EC.rops (K2 hI).R)) (K2 hI).R.mul (K2 hI).inv (K2 hI).R.zero where
 ca := fun x y w _ => by
  have h := add2_any (q0 x) (q1 x) (q0 y) (q1 y) (q0_big x) (q1_big x) (q0_big y) (q1_big y) w
  rw [va0 hI, va1 hI] at h
  exact h
 cs := fun x y w _ => by
  have h := sub2_any (q0 x) (q1 x) (q0 y) (q1 y) (q0_big x) (q1_big x) (q0_big y) (q1_big y) w
  rw [vs0 hI, vs1 hI] at h
  exact h
 cm := fun x y w _ => by
  have h := mulT_any (q0 x) (q1 x) (q0 y) (q1 y) (q0_big x) (q1_big x) (q0_big y) (q1_big y) w
  rw [vm0 hI, vm1 hI] at h
  exact h
 cz := fun x w _ => by
  have h := sub2_any (q0 (K2 hI).R.zero) (q1 (K2 hI).R.zero) (q0 x) (q1 x) (q0_big _) (q1_big _) (q0_big x) (q1_big x) w
  rw [vs0 hI, vs1 hI, vz0 hI, vz1 hI] at h
  exact h
 ci := fun x w hx hm => by
  have h := invT_good (q0 x) (q1 x) (q0_big x) (q1_big x) (fq_zero hx) w hm
  rw [vi hI hx, vi0 hI, vi1 hI] at h
  exact h
end Rg
end Go.Proofs.YtmanelnacifgcaaGreatDoor
end
section
namespace Go.Proofs.YtmanelnacifgcaaGreatDoor
open Go.RowKit
namespace Rg
open NT
abbrev GV1 (g : Nat) (tn : Value) : Value := .agg (G1 g tn 1 4).toArray
abbrev t1 (T : EC.Tri Fp) : List Nat := [p0 T.1, p0 T.2.1, p0 T.2.2]
def c1x : Option (Fp × Fp) → Nat
 | none => 0
 | some (x, _) => p0 x
def c1y : Option (Fp × Fp) → Nat
 | none => 0
 | some (_, y) => p0 y
def c1z : Option (Fp × Fp) → Bool
 | none => true
 | some _ => false
abbrev pv1 (x y : Nat) (z : Bool) : Value := .agg (cel [x, y] ++ [Value.bool z]).toArray
abbrev enc1 (P : Option (Fp × Fp)) : Value := pv1 (c1x P) (c1y P) (c1z P)
theorem c1x_big (P : Option (Fp × Fp)) : c1x P < big := by
 cases P with
 | none => exact big_pos
 | some q => exact p0_big _
theorem c1y_big (P : Option (Fp × Fp)) : c1y P < big := by
 cases P with
 | none => exact big_pos
 | some q => exact p0_big _
theorem togE_1 {I : Fp → Fp} (hI : zX I) {g : Nat} {tn : Value} (A B : EC.Tri Fp) (w : World) (hm : Mm w [(g, zT pB), (2, dtab)]) : Calls Tryz.prog 88 #[(GV1 g tn), V (t1 A), V (t1 B)] w (Rt w (V (t1 ((K1 hI).tog A B)))) := by
 have h := togetherV_1 (u := (K1 hI).R.one) (b := (K1 hI).b) (tn := tn) (fd1 hI g) A.1 A.2.1 A.2.2 B.1 B.2.1 B.2.2 _ _ _ _ _ _ _ _ _ _ _ _ _ _ _ _ _ _ _ _ _ _ _ _ _ _ _ _ _ _ _ _ _ _ rfl rfl rfl rfl rfl rfl rfl rfl rfl rfl rfl rfl rfl rfl rfl rfl rfl rfl rfl rfl rfl rfl rfl rfl rfl rfl rfl rfl rfl rfl rfl rfl rfl rfl w hm
 rw [← (K1 hI).ptog_eq A B]
 exact h
theorem zeroE_1 {I : Fp → Fp} (hI : zX I) {g : Nat} {tn : Value} (w : World) (hm : Mm w [(g, zT pB), (2, dtab)]) : Calls Tryz.prog 89 #[(GV1 g tn)] w (Rt w (V (t1 ((K1 hI).lift none)))) := zero_1 (u := (K1 hI).R.one) (b := (K1 hI).b) (tn := tn) (fd1 hI g) w hm
theorem liftE_1 {I : Fp → Fp} (hI : zX I) {g : Nat} {tn : Value} (P : Option (Fp × Fp)) (w : World) (hm : Mm w [(g, zT pB), (2, dtab)]) : Calls Tryz.prog 74 #[(GV1 g tn), enc1 P] w (Rt w (V (t1 ((K1 hI).lift P)))) := by
 rcases P with _ | ⟨x, y⟩
 ·exact liftT_1 (u := (K1 hI).R.one) (b := (K1 hI).b) (tn := tn) (fd1 hI g) 0 0 w hm
 ·exact liftF_1 (u := (K1 hI).R.one) (b := (K1 hI).b) (tn := tn) (fd1 hI g) (p0 x) (p0 y) w hm
theorem isz_1 (t : Fp) : (p0 t = 0) ↔ t = fpR.zero := ⟨fun h => Subtype.ext h, fun h => by rw [h]; rfl⟩
theorem eqz_1 (t : Fp) {r : Bool} (hr : decide (t = fpR.zero) = r) : ∀ w, (Op.equalIn 10000 24 (N (p0 t)) (N 0)).run Tryz.prog w = .ok r w := fun w => by
 have h := run_eqGD 9998 (p0 t) 0 (p0_big t) big_pos w
 rw [← hr, show decide (t = fpR.zero) = decide (p0 t = 0) from decide_eq_decide.2 (isz_1 t).symm]
 exact h
theorem eqe_1 (s t : Fp) {r : Bool} (hr : decide (s = t) = r) : ∀ w, (Op.equalIn 10000 24 (N (p0 s)) (N (p0 t))).run Tryz.prog w = .ok r w := fun w => by
 have h := run_eqGD 9998 (p0 s) (p0 t) (p0_big s) (p0_big t) w
 rw [← hr, show decide (s = t) = decide (p0 s = p0 t) from decide_eq_decide.2 ⟨fun e => by rw [e], fun e => Subtype.ext e⟩]
 exact h
theorem twiceE_1 {I : Fp → Fp} (hI : zX I) {g : Nat} {tn : Value} (A : EC.Tri Fp) (w : World) (hm : Mm w [(g, zT pB), (2, dtab)]) : Calls Tryz.prog 109 #[(GV1 g tn), V (t1 A)] w (Rt w (V (t1 ((K1 hI).twice A)))) := by
 unfold EC.Crv.twice
 by_cases hz : A.2.2 = (K1 hI).R.zero
 ·rw [if_pos hz]
  exact twiceT_1 (u := (K1 hI).R.one) (b := (K1 hI).b) (tn := tn) (fd1 hI g) (p0 A.1) (p0 A.2.1) (p0 A.2.2) (eqz_1 _ (decide_eq_true hz)) w hm
 ·rw [if_neg hz]
  exact twiceV_1 (u := (K1 hI).R.one) (b := (K1 hI).b) (tn := tn) (fd1 hI g) A.1 A.2.1 A.2.2 (eqz_1 _ (decide_eq_false hz)) _ _ _ _ _ _ _ _ _ _ _ _ _ _ _ _ _ _ rfl rfl rfl rfl rfl rfl rfl rfl rfl rfl rfl rfl rfl rfl rfl rfl rfl rfl w hm
theorem lowerE_1 {I : Fp → Fp} (hI : zX I) {g : Nat} {tn : Value} (A : EC.Tri Fp) (w : World) (hm : Mm w [(g, zT pB), (2, dtab)]) : Calls Tryz.prog 87 #[(GV1 g tn), V (t1 A)] w (Rt w (enc1 ((K1 hI).lower A))) := by
 by_cases hz : A.2.2 = (K1 hI).R.zero
 ·rw [(K1 hI).lower_none hz]
  exact lowerT_1 (u := (K1 hI).R.one) (b := (K1 hI).b) (tn := tn) (fd1 hI g) (p0 A.1) (p0 A.2.1) (p0 A.2.2) (eqz_1 _ (decide_eq_true hz)) w hm
 ·rw [(K1 hI).lower_some hz]
  exact lowerF_1 (u := (K1 hI).R.one) (b := (K1 hI).b) (tn := tn) (fd1 hI g) A.1 A.2.1 A.2.2 (eqz_1 _ (decide_eq_false hz)) hz w hm
theorem belE_1 (a : Nat) (ha : a < big) (w : World) : Calls Tryz.prog 72 #[N a] w (Rt w (.bool (decide (a < pB)))) :=
 belowG_gen a pB (cmpv a pB) base_pB (fun w => compare_any a pB ha pB_lt w) (decide (a < pB)) (by
  by_cases h : a < pB
  ·rw [cmp_lt h, decide_eq_true h]
   rfl
  ·rw [decide_eq_false h]
   exact decide_eq_false (cmp_ge h)) w
/-- What the numbers say: a point of the first curve, or none. -/
def rd1 (x y : Nat) (z : Bool) : Option (Option (Fp × Fp)) :=
 if z = true then (if x = 0 ∧ y = 0 then some none else none)
 else if h : x < pB ∧ y < pB then (if EC.side fpR fp4 ⟨x, h.1⟩ = fpR.mul ⟨y, h.2⟩ ⟨y, h.2⟩ then some (some (⟨x, h.1⟩, ⟨y, h.2⟩)) else none) else none
theorem checkE_1 {I : Fp → Fp} (hI : zX I) {g : Nat} {tn : Value} (x y : Nat) (z : Bool) (hx : x < big) (hy : y < big) (w : World) (hm : Mm w [(g, zT pB), (2, dtab)]) : Calls Tryz.prog 45 #[(GV1 g tn), pv1 x y z] w (Rt w (.bool (rd1 x y z).isSome)) := by
 cases z with
 | true =>
  have e : (rd1 x y true).isSome = decide (x = 0 ∧ y = 0) := by
   unfold rd1
   rw [if_pos rfl]
   by_cases h : x = 0 ∧ y = 0
   ·rw [if_pos h, decide_eq_true h]; rfl
   ·rw [if_neg h, decide_eq_false h]; rfl
  refine checkZ_1 (u := (K1 hI).R.one) (b := (K1 hI).b) (tn := tn) (fd1 hI g) x y _ (fun w => ?_) w hm
  have h := run_eqPN x y 0 0 true true hx hy big_pos big_pos w
  rw [e]
  refine h.trans (congrArg (fun q => Result.ok q w) ?_)
  rw [Bool.eq_iff_iff]
  simp
 | false =>
  by_cases hX : x < pB
  ·have bx := fun w (_ : Mm w [(g, zT pB), (2, dtab)]) => belE_1 x hx w
   rw [decide_eq_true hX] at bx
   by_cases hY : y < pB
   ·have by_ := fun w (_ : Mm w [(g, zT pB), (2, dtab)]) => belE_1 y hy w
    rw [decide_eq_true hY] at by_
    have e : (rd1 x y false).isSome = decide (fpR.mul (⟨y, hY⟩ : Fp) (⟨y, hY⟩ : Fp) = EC.side fpR fp4 (⟨x, hX⟩ : Fp)) := by
     unfold rd1
     rw [if_neg (by decide), dif_pos ⟨hX, hY⟩]
     by_cases h : fpR.mul (⟨y, hY⟩ : Fp) (⟨y, hY⟩ : Fp) = EC.side fpR fp4 (⟨x, hX⟩ : Fp)
     ·rw [if_pos h.symm, decide_eq_true h]; rfl
     ·rw [if_neg (fun q => h q.symm), decide_eq_false h]; rfl
    rw [e]
    exact checkB_1 (u := (K1 hI).R.one) (b := (K1 hI).b) (tn := tn) (fd1 hI g) (⟨x, hX⟩ : Fp) (⟨y, hY⟩ : Fp) _ bx by_ (eqe_1 _ _ rfl) w hm
   ·have by_ := fun w (_ : Mm w [(g, zT pB), (2, dtab)]) => belE_1 y hy w
    rw [decide_eq_false hY] at by_
    have e : (rd1 x y false).isSome = false := by
     unfold rd1
     rw [if_neg (by decide), dif_neg (fun q => hY q.2)]; rfl
    rw [e]
    exact checkY_1 (u := (K1 hI).R.one) (b := (K1 hI).b) (tn := tn) (fd1 hI g) x y bx by_ w hm
  ·have bx := fun w (_ : Mm w [(g, zT pB), (2, dtab)]) => belE_1 x hx w
   rw [decide_eq_false hX] at bx
   have e : (rd1 x y false).isSome = false := by
    unfold rd1
    rw [if_neg (by decide), dif_neg (fun q => hX q.1)]; rfl
   rw [e]
   exact checkX_1 (u := (K1 hI).R.one) (b := (K1 hI).b) (tn := tn) (fd1 hI g) x y bx w hm
theorem rd1_enc {I : Fp → Fp} (hI : zX I) {x y : Nat} {z : Bool} {P : Option (Fp × Fp)} (h : rd1 x y z = some P) : pv1 x y z = enc1 P ∧ (K1 hI).on P := by
 unfold rd1 at h
 split at h
 ·rename_i hz
  split at h
  ·rename_i h0
   injection h with h
   subst h hz
   obtain ⟨rfl, rfl⟩ := h0
   exact ⟨rfl, trivial⟩
  ·cases h
 ·rename_i hz
  have hz' : z = false := by cases z with | true => exact absurd rfl hz | false => rfl
  subst hz'
  split at h
  ·rename_i hb
   split at h
   ·rename_i hs
    injection h with h
    subst h
    exact ⟨rfl, hs.symm⟩
   ·cases h
  ·cases h
theorem rd1_of {I : Fp → Fp} (hI : zX I) {P : Option (Fp × Fp)} (h : (K1 hI).on P) : rd1 (c1x P) (c1y P) (c1z P) = some P := by
 rcases P with _ | ⟨x, y⟩
 ·rfl
 ·have hs : (K1 hI).R.mul y y = EC.side (K1 hI).R (K1 hI).b x := h
  unfold rd1
  rw [if_neg (by show ¬ false = true; decide), dif_pos ⟨x.2, y.2⟩]
  exact if_pos hs.symm
theorem ckE_1 {I : Fp → Fp} (hI : zX I) {g : Nat} {tn : Value} {P : Option (Fp × Fp)} (hP : (K1 hI).on P) (w : World) (hm : Mm w [(g, zT pB), (2, dtab)]) : Calls Tryz.prog 45 #[(GV1 g tn), enc1 P] w (Rt w (.bool true)) := by
 have h := checkE_1 hI (g := g) (tn := tn) (c1x P) (c1y P) (c1z P) (c1x_big P) (c1y_big P) w hm
 rw [rd1_of hI hP] at h
 exact h
theorem negE_1 {I : Fp → Fp} (hI : zX I) {g : Nat} {tn : Value} {P : Option (Fp × Fp)} (hP : (K1 hI).on P) (w : World) (hm : Mm w [(g, zT pB), (2, dtab)]) : Calls Tryz.prog 46 #[(GV1 g tn), enc1 P] w (Rt w (.tuple #[enc1 ((K1 hI).neg P), .int .i64 0])) := by
 rcases P with _ | ⟨x, y⟩
 ·have h := negY_1 (u := (K1 hI).R.one) (b := (K1 hI).b) (tn := tn) (fd1 hI g) 0 (K1 hI).R.zero true (fun w hm => ckE_1 hI (P := none) trivial w hm) w hm
  have e : EC.osub (EC.rops (K1 hI).R) (K1 hI).R.zero (K1 hI).R.zero = (K1 hI).R.zero := (K1 hI).R.add_neg _
  rw [e] at h
  exact h
 ·have h := negY_1 (u := (K1 hI).R.one) (b := (K1 hI).b) (tn := tn) (fd1 hI g) (p0 x) y false (fun w hm => ckE_1 hI hP w hm) w hm
  have e : EC.osub (EC.rops (K1 hI).R) (K1 hI).R.zero y = (K1 hI).R.neg y := (K1 hI).R.zero_add _
  rw [e] at h
  exact h
theorem joinE_1 {I : Fp → Fp} (hI : zX I) {g : Nat} {tn : Value} {P Q : Option (Fp × Fp)} (hP : (K1 hI).on P) (hQ : (K1 hI).on Q) (w : World) (hm : Mm w [(g, zT pB), (2, dtab)]) : Calls Tryz.prog 47 #[(GV1 g tn), enc1 P, enc1 Q] w (Rt w (.tuple #[enc1 ((K1 hI).add P Q), .int .i64 0])) :=
 joinY_1 (u := (K1 hI).R.one) (b := (K1 hI).b) (tn := tn) (fd1 hI g) (c1x P) (c1y P) (c1x Q) (c1y Q) (c1z P) (c1z Q) (c1z ((K1 hI).add P Q)) ((K1 hI).lift P).1 ((K1 hI).lift P).2.1 ((K1 hI).lift P).2.2 ((K1 hI).lift Q).1 ((K1 hI).lift Q).2.1 ((K1 hI).lift Q).2.2 ((K1 hI).tog ((K1 hI).lift P) ((K1 hI).lift Q)).1 ((K1 hI).tog ((K1 hI).lift P) ((K1 hI).lift Q)).2.1 ((K1 hI).tog ((K1 hI).lift P) ((K1 hI).lift Q)).2.2 (c1x ((K1 hI).add P Q)) (c1y ((K1 hI).add P Q))
  (fun w hm => ckE_1 hI hP w hm) (fun w hm => ckE_1 hI hQ w hm) (fun w hm => liftE_1 hI P w hm) (fun w hm => liftE_1 hI Q w hm) (fun w hm => togE_1 hI _ _ w hm) (fun w hm => lowerE_1 hI _ w hm) w hm
theorem firstE (w : World) : Calls Tryz.prog 41 #[] w fun e w' => Below w.heap.size w w' ∧ ∃ g x y, e = .returned (.agg (G1 g (.func (.func 73) #[] #[PT x 0, PT y 0]) 1 4).toArray) ∧ w.heap.size ≤ g ∧ g < w'.heap.size ∧ Blk w' g (zT pB) := (first3_gen pB 1 4 tr numb_tr (fun w => of_any 1 (by decide) w) (fun w => of_any 4 (by decide) w) base_pB (fun w => new_ok pB_ok w) w).mono fun e w' h => by
 obtain ⟨hB, g, x, y, he, hN, hM⟩ := h
 exact ⟨hB, g, x, y, he, hN _ (List.mem_cons_self ..), hM.blk _ (List.mem_cons_self ..)⟩
theorem CheckE_1 {I : Fp → Fp} (hI : zX I) (x y : Nat) (z : Bool) (hx : x < big) (hy : y < big) (w : World) (hm : Mm w [(2, dtab)]) : Calls Tryz.prog 18 #[pv1 x y z] w (Rt w (.bool (rd1 x y z).isSome)) :=
 Check_1 1 4 x y z _ firstE (fun g tn w hm => checkE_1 hI (g := g) (tn := tn) x y z hx hy w hm) w hm
theorem CkE_1 {I : Fp → Fp} (hI : zX I) {P : Option (Fp × Fp)} (hP : (K1 hI).on P) (w : World) (hm : Mm w [(2, dtab)]) : Calls Tryz.prog 18 #[enc1 P] w (Rt w (.bool true)) := by
 have h := CheckE_1 hI (c1x P) (c1y P) (c1z P) (c1x_big P) (c1y_big P) w hm
 rw [rd1_of hI hP] at h
 exact h
theorem NegE_1 {I : Fp → Fp} (hI : zX I) {P : Option (Fp × Fp)} (hP : (K1 hI).on P) (w : World) (hm : Mm w [(2, dtab)]) : Calls Tryz.prog 19 #[enc1 P] w (Rt w (.tuple #[enc1 ((K1 hI).neg P), .int .i64 0])) :=
 Neg_1 1 4 (c1x P) (c1y P) (c1x ((K1 hI).neg P)) (c1y ((K1 hI).neg P)) (c1z P) (c1z ((K1 hI).neg P)) 0 firstE (fun g tn w hm => negE_1 hI (g := g) (tn := tn) hP w hm) w hm
theorem AddE_1 {I : Fp → Fp} (hI : zX I) {P Q : Option (Fp × Fp)} (hP : (K1 hI).on P) (hQ : (K1 hI).on Q) (w : World) (hm : Mm w [(2, dtab)]) : Calls Tryz.prog 20 #[enc1 P, enc1 Q] w (Rt w (.tuple #[enc1 ((K1 hI).add P Q), .int .i64 0])) :=
 Add_1 1 4 (c1x P) (c1y P) (c1x Q) (c1y Q) (c1x ((K1 hI).add P Q)) (c1y ((K1 hI).add P Q)) (c1z P) (c1z Q) (c1z ((K1 hI).add P Q)) 0 firstE (fun g tn w hm => joinE_1 hI (g := g) (tn := tn) hP hQ w hm) w hm
end Rg
end Go.Proofs.YtmanelnacifgcaaGreatDoor
end
section
namespace Go.Proofs.YtmanelnacifgcaaGreatDoor
open Go.RowKit
namespace Rg
/-- The number by whose words points are multiplied. -/
def sdP : Nat := 15132376222941642752
theorem sdP_lt : sdP < 18446744073709551616 := by decide
def wofS (k : Nat) : Int := ((sdP * 2 ^ k % 18446744073709551616 : Nat) : Int)
theorem wofS_0 : wofS 0 = 15132376222941642752 := rfl
theorem wofS_d (k : Nat) : wofS k / 2 ^ 63 = ((EC.wbit sdP k : Nat) : Int) := by
 unfold wofS EC.wbit
 rw [show (2 : Int) ^ 63 = ((9223372036854775808 : Nat) : Int) by decide, ← Int.natCast_ediv]
theorem wofS_w (k : Nat) : IntKind.u64.wrap (wofS k * 2 ^ 1) = wofS (k + 1) := by
 unfold wofS
 rw [IntKind.wrap_u64, Nat.pow_succ, ← Nat.mul_assoc, show (2 : Int) ^ 1 = ((2 : Nat) : Int) by decide, ← Int.natCast_mul, show (18446744073709551616 : Int) = ((18446744073709551616 : Nat) : Int) from rfl, ← Int.natCast_emod, Nat.mod_mul_mod]
def t3p : Fp := ⟨tr, by decide +kernel⟩
theorem byWordE_1 {I : Fp → Fp} (hI : zX I) {g : Nat} {tn : Value} (T : EC.Tri Fp) (w : World) (hm : Mm w [(g, zT pB), (2, dtab)]) : Calls Tryz.prog 75 #[(GV1 g tn), V (t1 T), .int .u64 15132376222941642752] w (Rt w (V (t1 ((K1 hI).bw sdP T 64)))) := by
 have h := byWord_1 (u := (K1 hI).R.one) (b := (K1 hI).b) (tn := tn) (fd1 hI g) (K1 hI).twice (fun A => (K1 hI).tog A T) T (fun k => (K1 hI).bw sdP T k) wofS (EC.wbit sdP) (fun w hm => zeroE_1 hI w hm) (fun A w hm => twiceE_1 hI A w hm) (fun A w hm => togE_1 hI A T w hm) wofS_d wofS_w (fun k hk => ?_) (fun k hk => ?_) w hm
 ·rw [wofS_0] at h
  exact h
 ·show (K1 hI).twice ((K1 hI).bw sdP T k) = (K1 hI).bw sdP T (k + 1)
  rw [EC.Crv.bw, if_neg hk]
 ·show (K1 hI).tog ((K1 hI).twice ((K1 hI).bw sdP T k)) T = (K1 hI).bw sdP T (k + 1)
  rw [EC.Crv.bw, if_pos hk]
/-- Whether a point of the curve is of the group, as the program tells it. -/
def tst1 {I : Fp → Fp} (hI : zX I) (x y : Fp) (S : EC.Tri Fp) : Bool := decide (S.1 = (K1 hI).R.mul ((K1 hI).R.mul x t3p) S.2.2) && decide (S.2.1 = (K1 hI).R.mul (EC.osub (EC.rops (K1 hI).R) (K1 hI).R.zero (y)) S.2.2)
def in1 {I : Fp → Fp} (hI : zX I) : Option (Fp × Fp) → Bool
 | none => true
 | some (x, y) => tst1 hI x y ((K1 hI).ws sdP ((K1 hI).lift (some (x, y))) 2)
theorem in1_iff {I : Fp → Fp} (hI : zX I) {x y : Fp} (h : (K1 hI).on (some (x, y))) : in1 hI (some (x, y)) = true ↔ (K1 hI).times (some (x, y)) (sdP ^ 2) = some ((K1 hI).R.mul x t3p, (K1 hI).R.neg (y)) := by
 have hr := (K1 hI).rep_tst ((K1 hI).ws_rep ((K1 hI).rep_lift (some (x, y))) h sdP_lt 2) ((K1 hI).R.mul x t3p) (y)
 unfold in1 tst1
 rw [Bool.and_eq_true, decide_eq_true_eq, decide_eq_true_eq]
 exact hr
def inB1 {I : Fp → Fp} (hI : zX I) (x y : Nat) (z : Bool) : Bool := match rd1 x y z with | none => false | some P => in1 hI P
set_option maxHeartbeats 2000000 in
theorem insE_1 {I : Fp → Fp} (hI : zX I) {g : Nat} {gx gy : Nat} {x y : Fp} (hP : (K1 hI).on (some (x, y))) (w : World) (hm : Mm w [(g, zT pB), (2, dtab), (gx, [PT g 0]), (gy, zC tr)]) : Calls Tryz.prog 42 #[(GV1 g (.func (.func 73) #[] #[PT gx 0, PT gy 0])), enc1 (some (x, y))] w (Rt w (.bool (in1 hI (some (x, y))))) := by
 show Calls Tryz.prog 42 #[(GV1 g (.func (.func 73) #[] #[PT gx 0, PT gy 0])), enc1 (some (x, y))] w (Rt w (.bool (tst1 hI x y ((K1 hI).bw sdP ((K1 hI).bw sdP ((K1 hI).lift (some (x, y))) 64) 64))))
 by_cases h1 : ((K1 hI).bw sdP ((K1 hI).bw sdP ((K1 hI).lift (some (x, y))) 64) 64).1 = (K1 hI).R.mul ((K1 hI).R.mul x t3p) ((K1 hI).bw sdP ((K1 hI).bw sdP ((K1 hI).lift (some (x, y))) 64) 64).2.2
 ·have e : tst1 hI x y ((K1 hI).bw sdP ((K1 hI).bw sdP ((K1 hI).lift (some (x, y))) 64) 64) = decide (((K1 hI).bw sdP ((K1 hI).bw sdP ((K1 hI).lift (some (x, y))) 64) 64).2.1 = (K1 hI).R.mul (EC.osub (EC.rops (K1 hI).R) (K1 hI).R.zero (y)) ((K1 hI).bw sdP ((K1 hI).bw sdP ((K1 hI).lift (some (x, y))) 64) 64).2.2) := by
   unfold tst1
   rw [decide_eq_true h1, Bool.true_and]
  rw [e]
  exact inT_1 (u := (K1 hI).R.one) (b := (K1 hI).b) (fd1 hI g) t3p gx gy ((K1 hI).lift (some (x, y))) ((K1 hI).bw sdP ((K1 hI).lift (some (x, y))) 64) ((K1 hI).bw sdP ((K1 hI).bw sdP ((K1 hI).lift (some (x, y))) 64) 64) x y ((K1 hI).R.mul x t3p) (y) _ (fun w hm => ckE_1 hI hP w hm) (fun w hm => liftE_1 hI (some (x, y)) w hm) (fun w hm => byWordE_1 hI ((K1 hI).lift (some (x, y))) w hm) (fun w hm => byWordE_1 hI ((K1 hI).bw sdP ((K1 hI).lift (some (x, y))) 64) w hm) (fun w hm => turn_1 (fd1 hI g) x t3p (p0 y) gx gy w hm) (eqe_1 _ _ (decide_eq_true h1)) (eqe_1 _ _ rfl) w hm
 ·have e : tst1 hI x y ((K1 hI).bw sdP ((K1 hI).bw sdP ((K1 hI).lift (some (x, y))) 64) 64) = false := by
   unfold tst1
   rw [decide_eq_false h1, Bool.false_and]
  rw [e]
  exact inF_1 (u := (K1 hI).R.one) (b := (K1 hI).b) (fd1 hI g) t3p gx gy ((K1 hI).lift (some (x, y))) ((K1 hI).bw sdP ((K1 hI).lift (some (x, y))) 64) ((K1 hI).bw sdP ((K1 hI).bw sdP ((K1 hI).lift (some (x, y))) 64) 64) x y ((K1 hI).R.mul x t3p) (y) (fun w hm => ckE_1 hI hP w hm) (fun w hm => liftE_1 hI (some (x, y)) w hm) (fun w hm => byWordE_1 hI ((K1 hI).lift (some (x, y))) w hm) (fun w hm => byWordE_1 hI ((K1 hI).bw sdP ((K1 hI).lift (some (x, y))) 64) w hm) (fun w hm => turn_1 (fd1 hI g) x t3p (p0 y) gx gy w hm) (eqe_1 _ _ (decide_eq_false h1)) w hm
theorem inE_1 {I : Fp → Fp} (hI : zX I) {g : Nat} {gx gy : Nat} (x y : Nat) (z : Bool) (hx : x < big) (hy : y < big) (w : World) (hm : Mm w [(g, zT pB), (2, dtab), (gx, [PT g 0]), (gy, zC tr)]) : Calls Tryz.prog 42 #[(GV1 g (.func (.func 73) #[] #[PT gx 0, PT gy 0])), pv1 x y z] w (Rt w (.bool (inB1 hI x y z))) := by
 have hc := fun w hm => checkE_1 hI (g := g) (tn := .func (.func 73) #[] #[PT gx 0, PT gy 0]) x y z hx hy w hm
 cases hr : rd1 x y z with
 | none =>
  have e : inB1 hI x y z = false := by unfold inB1; rw [hr]
  rw [hr] at hc
  rw [e]
  cases z with
  | true => exact inZ_1 (u := (K1 hI).R.one) (b := (K1 hI).b) (fd1 hI g) t3p gx gy x y false hc w hm
  | false => exact inN_1 (u := (K1 hI).R.one) (b := (K1 hI).b) (fd1 hI g) t3p gx gy x y hc w hm
 | some P =>
  obtain ⟨he, ho⟩ := rd1_enc hI hr
  have e : inB1 hI x y z = in1 hI P := by unfold inB1; rw [hr]
  rw [hr] at hc
  rw [e]
  rcases P with _ | ⟨x, y⟩
  ·have hz : z = true := by
    unfold rd1 at hr
    cases z with
    | true => rfl
    | false =>
     rw [if_neg (by decide)] at hr
     split at hr
     ·split at hr
      ·cases hr
      ·cases hr
     ·cases hr
   subst hz
   exact inZ_1 (u := (K1 hI).R.one) (b := (K1 hI).b) (fd1 hI g) t3p gx gy x y true hc w hm
  ·rw [he]
   exact insE_1 hI ho w hm
theorem first3E (w : World) : Calls Tryz.prog 41 #[] w fun e w' => Below w.heap.size w w' ∧ ∃ g x y, e = .returned (.agg (G1 g (.func (.func 73) #[] #[PT x 0, PT y 0]) 1 4).toArray) ∧ (∀ q ∈ [(g, zT pB), (x, [PT g 0]), (y, zC tr)], w.heap.size ≤ q.1) ∧ Mm w' [(g, zT pB), (x, [PT g 0]), (y, zC tr)] := first3_gen pB 1 4 tr numb_tr (fun w => of_any 1 (by decide) w) (fun w => of_any 4 (by decide) w) base_pB (fun w => new_ok pB_ok w) w
theorem In1E {I : Fp → Fp} (hI : zX I) (x y : Nat) (z : Bool) (hx : x < big) (hy : y < big) (w : World) (hm : Mm w [(2, dtab)]) : Calls Tryz.prog 15 #[pv1 x y z] w (Rt w (.bool (inB1 hI x y z))) :=
 In_1 1 4 tr x y z (inB1 hI x y z) first3E (fun g bx cy w hm => inE_1 hI (g := g) (gx := bx) (gy := cy) x y z hx hy w hm) w hm
end Rg
end Go.Proofs.YtmanelnacifgcaaGreatDoor
end
section
namespace Go.Proofs.YtmanelnacifgcaaGreatDoor
open Go.RowKit
namespace Rg
open NT
abbrev GV2 (tn : Value) : Value := .agg (G2 tn 1 0 4 4).toArray
abbrev t2 (T : EC.Tri Fq) : List Nat := [q0 T.1, q1 T.1, q0 T.2.1, q1 T.2.1, q0 T.2.2, q1 T.2.2]
def c2x0 : Option (Fq × Fq) → Nat
 | none => 0
 | some (x, _) => q0 x
def c2x1 : Option (Fq × Fq) → Nat
 | none => 0
 | some (x, _) => q1 x
def c2y0 : Option (Fq × Fq) → Nat
 | none => 0
 | some (_, y) => q0 y
def c2y1 : Option (Fq × Fq) → Nat
 | none => 0
 | some (_, y) => q1 y
def c2z : Option (Fq × Fq) → Bool
 | none => true
 | some _ => false
abbrev pv2 (x0 x1 y0 y1 : Nat) (z : Bool) : Value := .agg (cel [x0, x1, y0, y1] ++ [Value.bool z]).toArray
abbrev enc2 (P : Option (Fq × Fq)) : Value := pv2 (c2x0 P) (c2x1 P) (c2y0 P) (c2y1 P) (c2z P)
theorem c2x0_big (P : Option (Fq × Fq)) : c2x0 P < big := by
 cases P with
 | none => exact big_pos
 | some q => exact q0_big _
theorem c2x1_big (P : Option (Fq × Fq)) : c2x1 P < big := by
 cases P with
 | none => exact big_pos
 | some q => exact q1_big _
theorem c2y0_big (P : Option (Fq × Fq)) : c2y0 P < big := by
 cases P with
 | none => exact big_pos
 | some q => exact q0_big _
theorem c2y1_big (P : Option (Fq × Fq)) : c2y1 P < big := by
 cases P with
 | none => exact big_pos
 | some q => exact q1_big _
theorem togE_2 {I : Fp → Fp} (hI : zX I) {tn : Value} (A B : EC.Tri Fq) (w : World) (hm : Mm w [(2, dtab)]) : Calls Tryz.prog 100 #[(GV2 tn), V (t2 A), V (t2 B)] w (Rt w (V (t2 ((K2 hI).tog A B)))) := by
 have h := togetherV_2 (u := (K2 hI).R.one) (b := (K2 hI).b) (tn := tn) (fd2 hI) A.1 A.2.1 A.2.2 B.1 B.2.1 B.2.2 _ _ _ _ _ _ _ _ _ _ _ _ _ _ _ _ _ _ _ _ _ _ _ _ _ _ _ _ _ _ _ _ _ _ rfl rfl rfl rfl rfl rfl rfl rfl rfl rfl rfl rfl rfl rfl rfl rfl rfl rfl rfl rfl rfl rfl rfl rfl rfl rfl rfl rfl rfl rfl rfl rfl rfl rfl w hm
 rw [← (K2 hI).ptog_eq A B]
 exact h
theorem zeroE_2 {I : Fp → Fp} (hI : zX I) {tn : Value} (w : World) (hm : Mm w [(2, dtab)]) : Calls Tryz.prog 99 #[(GV2 tn)] w (Rt w (V (t2 ((K2 hI).lift none)))) := zero_2 (u := (K2 hI).R.one) (b := (K2 hI).b) (tn := tn) (fd2 hI) w hm
theorem liftE_2 {I : Fp → Fp} (hI : zX I) {tn : Value} (P : Option (Fq × Fq)) (w : World) (hm : Mm w [(2, dtab)]) : Calls Tryz.prog 84 #[(GV2 tn), enc2 P] w (Rt w (V (t2 ((K2 hI).lift P)))) := by
 rcases P with _ | ⟨x, y⟩
 ·exact liftT_2 (u := (K2 hI).R.one) (b := (K2 hI).b) (tn := tn) (fd2 hI) 0 0 0 0 w hm
 ·exact liftF_2 (u := (K2 hI).R.one) (b := (K2 hI).b) (tn := tn) (fd2 hI) (q0 x) (q1 x) (q0 y) (q1 y) w hm
theorem eqe_2 (s t : Fq) {r : Bool} (hr : decide (s = t) = r) : ∀ w, (Op.equalIn 10000 33 (V [q0 s, q1 s]) (V [q0 t, q1 t])).run Tryz.prog w = .ok r w := fun w => by
 have h := run_eqG2 9997 (q0 s) (q1 s) (q0 t) (q1 t) (q0_big s) (q1_big s) (q0_big t) (q1_big t) w
 have e : (decide (q0 s = q0 t) && decide (q1 s = q1 t)) = decide (s = t) := by
  rw [Bool.eq_iff_iff]
  simp only [Bool.and_eq_true, decide_eq_true_eq]
  exact ⟨fun e => Prod.ext (Subtype.ext e.1) (Subtype.ext e.2), fun e => by rw [e]; exact ⟨rfl, rfl⟩⟩
 rw [← hr, ← e]
 exact h
theorem eqz_2 (t : Fq) {r : Bool} (hr : decide (t = fqR.zero) = r) : ∀ w, (Op.equalIn 10000 33 (V [q0 t, q1 t]) (V [0, 0])).run Tryz.prog w = .ok r w := eqe_2 t fqR.zero hr
theorem twiceE_2 {I : Fp → Fp} (hI : zX I) {tn : Value} (A : EC.Tri Fq) (w : World) (hm : Mm w [(2, dtab)]) : Calls Tryz.prog 117 #[(GV2 tn), V (t2 A)] w (Rt w (V (t2 ((K2 hI).twice A)))) := by
 unfold EC.Crv.twice
 by_cases hz : A.2.2 = (K2 hI).R.zero
 ·rw [if_pos hz]
  exact twiceT_2 (u := (K2 hI).R.one) (b := (K2 hI).b) (tn := tn) (fd2 hI) (q0 A.1) (q1 A.1) (q0 A.2.1) (q1 A.2.1) (q0 A.2.2) (q1 A.2.2) (eqz_2 _ (decide_eq_true hz)) w hm
 ·rw [if_neg hz]
  exact twiceV_2 (u := (K2 hI).R.one) (b := (K2 hI).b) (tn := tn) (fd2 hI) A.1 A.2.1 A.2.2 (eqz_2 _ (decide_eq_false hz)) _ _ _ _ _ _ _ _ _ _ _ _ _ _ _ _ _ _ rfl rfl rfl rfl rfl rfl rfl rfl rfl rfl rfl rfl rfl rfl rfl rfl rfl rfl w hm
theorem lowerE_2 {I : Fp → Fp} (hI : zX I) {tn : Value} (A : EC.Tri Fq) (w : World) (hm : Mm w [(2, dtab)]) : Calls Tryz.prog 102 #[(GV2 tn), V (t2 A)] w (Rt w (enc2 ((K2 hI).lower A))) := by
 by_cases hz : A.2.2 = (K2 hI).R.zero
 ·rw [(K2 hI).lower_none hz]
  exact lowerT_2 (u := (K2 hI).R.one) (b := (K2 hI).b) (tn := tn) (fd2 hI) (q0 A.1) (q1 A.1) (q0 A.2.1) (q1 A.2.1) (q0 A.2.2) (q1 A.2.2) (eqz_2 _ (decide_eq_true hz)) w hm
 ·rw [(K2 hI).lower_some hz]
  exact lowerF_2 (u := (K2 hI).R.one) (b := (K2 hI).b) (tn := tn) (fd2 hI) A.1 A.2.1 A.2.2 (eqz_2 _ (decide_eq_false hz)) hz w hm
theorem belE_2 (a0 a1 : Nat) (h0 : a0 < big) (h1 : a1 < big) (w : World) : Calls Tryz.prog 81 #[V [a0, a1]] w (Rt w (.bool (decide (a0 < pB ∧ a1 < pB)))) := by
 by_cases h : a0 < pB
 ·have hc := fun w => belE_1 a0 h0 w
  rw [decide_eq_true h] at hc
  have e := belowT_gen a0 a1 hc (decide (a1 < pB)) (fun w => belE_1 a1 h1 w) w
  rw [show decide (a0 < pB ∧ a1 < pB) = decide (a1 < pB) from decide_eq_decide.2 ⟨fun q => q.2, fun q => ⟨h, q⟩⟩]
  exact e
 ·have hc := fun w => belE_1 a0 h0 w
  rw [decide_eq_false h] at hc
  have e := belowF_gen a0 a1 hc w
  rw [show decide (a0 < pB ∧ a1 < pB) = false from decide_eq_false (fun q => h q.1)]
  exact e
/-- What the numbers say: a point of the second curve, or none. -/
def rd2 (x0 x1 y0 y1 : Nat) (z : Bool) : Option (Option (Fq × Fq)) :=
 if z = true then (if (x0 = 0 ∧ x1 = 0) ∧ (y0 = 0 ∧ y1 = 0) then some none else none)
 else if h : (x0 < pB ∧ x1 < pB) ∧ (y0 < pB ∧ y1 < pB) then (if EC.side fqR fq4 (⟨x0, h.1.1⟩, ⟨x1, h.1.2⟩) = fqR.mul (⟨y0, h.2.1⟩, ⟨y1, h.2.2⟩) (⟨y0, h.2.1⟩, ⟨y1, h.2.2⟩) then some (some ((⟨x0, h.1.1⟩, ⟨x1, h.1.2⟩), (⟨y0, h.2.1⟩, ⟨y1, h.2.2⟩))) else none) else none
theorem checkE_2 {I : Fp → Fp} (hI : zX I) {tn : Value} (x0 x1 y0 y1 : Nat) (z : Bool) (hx0 : x0 < big) (hx1 : x1 < big) (hy0 : y0 < big) (hy1 : y1 < big) (w : World) (hm : Mm w [(2, dtab)]) : Calls Tryz.prog 57 #[(GV2 tn), pv2 x0 x1 y0 y1 z] w (Rt w (.bool (rd2 x0 x1 y0 y1 z).isSome)) := by
 cases z with
 | true =>
  have e : (rd2 x0 x1 y0 y1 true).isSome = decide ((x0 = 0 ∧ x1 = 0) ∧ (y0 = 0 ∧ y1 = 0)) := by
   unfold rd2
   rw [if_pos rfl]
   by_cases h : (x0 = 0 ∧ x1 = 0) ∧ (y0 = 0 ∧ y1 = 0)
   ·rw [if_pos h, decide_eq_true h]; rfl
   ·rw [if_neg h, decide_eq_false h]; rfl
  refine checkZ_2 (u := (K2 hI).R.one) (b := (K2 hI).b) (tn := tn) (fd2 hI) x0 x1 y0 y1 _ (fun w => ?_) w hm
  have h := run_eqPE x0 x1 y0 y1 0 0 0 0 true true hx0 hx1 hy0 hy1 big_pos big_pos big_pos big_pos w
  rw [e]
  refine h.trans (congrArg (fun q => Result.ok q w) ?_)
  rw [Bool.eq_iff_iff]
  simp
 | false =>
  by_cases hX : x0 < pB ∧ x1 < pB
  ·have bx := fun w (_ : Mm w [(2, dtab)]) => belE_2 x0 x1 hx0 hx1 w
   rw [decide_eq_true hX] at bx
   by_cases hY : y0 < pB ∧ y1 < pB
   ·have by_ := fun w (_ : Mm w [(2, dtab)]) => belE_2 y0 y1 hy0 hy1 w
    rw [decide_eq_true hY] at by_
    have e : (rd2 x0 x1 y0 y1 false).isSome = decide (fqR.mul ((⟨y0, hY.1⟩, ⟨y1, hY.2⟩) : Fq) ((⟨y0, hY.1⟩, ⟨y1, hY.2⟩) : Fq) = EC.side fqR fq4 ((⟨x0, hX.1⟩, ⟨x1, hX.2⟩) : Fq)) := by
     unfold rd2
     rw [if_neg (by decide), dif_pos ⟨hX, hY⟩]
     by_cases h : fqR.mul ((⟨y0, hY.1⟩, ⟨y1, hY.2⟩) : Fq) ((⟨y0, hY.1⟩, ⟨y1, hY.2⟩) : Fq) = EC.side fqR fq4 ((⟨x0, hX.1⟩, ⟨x1, hX.2⟩) : Fq)
     ·rw [if_pos h.symm, decide_eq_true h]; rfl
     ·rw [if_neg (fun q => h q.symm), decide_eq_false h]; rfl
    rw [e]
    exact checkB_2 (u := (K2 hI).R.one) (b := (K2 hI).b) (tn := tn) (fd2 hI) ((⟨x0, hX.1⟩, ⟨x1, hX.2⟩) : Fq) ((⟨y0, hY.1⟩, ⟨y1, hY.2⟩) : Fq) _ bx by_ (eqe_2 _ _ rfl) w hm
   ·have by_ := fun w (_ : Mm w [(2, dtab)]) => belE_2 y0 y1 hy0 hy1 w
    rw [decide_eq_false hY] at by_
    have e : (rd2 x0 x1 y0 y1 false).isSome = false := by
     unfold rd2
     rw [if_neg (by decide), dif_neg (fun q => hY q.2)]; rfl
    rw [e]
    exact checkY_2 (u := (K2 hI).R.one) (b := (K2 hI).b) (tn := tn) (fd2 hI) x0 x1 y0 y1 bx by_ w hm
  ·have bx := fun w (_ : Mm w [(2, dtab)]) => belE_2 x0 x1 hx0 hx1 w
   rw [decide_eq_false hX] at bx
   have e : (rd2 x0 x1 y0 y1 false).isSome = false := by
    unfold rd2
    rw [if_neg (by decide), dif_neg (fun q => hX q.1)]; rfl
   rw [e]
   exact checkX_2 (u := (K2 hI).R.one) (b := (K2 hI).b) (tn := tn) (fd2 hI) x0 x1 y0 y1 bx w hm
theorem rd2_of {I : Fp → Fp} (hI : zX I) {P : Option (Fq × Fq)} (h : (K2 hI).on P) : rd2 (c2x0 P) (c2x1 P) (c2y0 P) (c2y1 P) (c2z P) = some P := by
 rcases P with _ | ⟨x, y⟩
 ·rfl
 ·have hs : (K2 hI).R.mul y y = EC.side (K2 hI).R (K2 hI).b x := h
  unfold rd2
  rw [if_neg (by show ¬ false = true; decide), dif_pos ⟨⟨x.1.2, x.2.2⟩, y.1.2, y.2.2⟩]
  exact if_pos hs.symm
theorem ckE_2 {I : Fp → Fp} (hI : zX I) {tn : Value} {P : Option (Fq × Fq)} (hP : (K2 hI).on P) (w : World) (hm : Mm w [(2, dtab)]) : Calls Tryz.prog 57 #[(GV2 tn), enc2 P] w (Rt w (.bool true)) := by
 have h := checkE_2 hI (tn := tn) (c2x0 P) (c2x1 P) (c2y0 P) (c2y1 P) (c2z P) (c2x0_big P) (c2x1_big P) (c2y0_big P) (c2y1_big P) w hm
 rw [rd2_of hI hP] at h
 exact h
theorem secondE (w : World) : Calls Tryz.prog 43 #[] w fun e w' => Below w.heap.size w w' ∧ ∃ g x, ∃ _y : Nat, e = .returned (.agg (G2 (.func (.func 82) #[] #[PT g 0, PT x 0]) 1 0 4 4).toArray) ∧ w.heap.size ≤ g ∧ g < w'.heap.size ∧ Blk w' g [] := (second3_gen 1 4 tx1 ty0 ty1 numb_tx1 numb_ty0 numb_ty1 (fun w => of_any 1 (by decide) w) (fun w => of_any 4 (by decide) w) w).mono fun e w' h => by
 obtain ⟨hB, g, x, y, he, hN, hM⟩ := h
 exact ⟨hB, g, x, y, he, hN _ (List.mem_cons_self ..), (hM.blk _ (List.mem_cons_self ..)).1, fun j v hj => by simp at hj⟩
theorem CheckE_2 {I : Fp → Fp} (hI : zX I) (x0 x1 y0 y1 : Nat) (z : Bool) (hx0 : x0 < big) (hx1 : x1 < big) (hy0 : y0 < big) (hy1 : y1 < big) (w : World) (hm : Mm w [(2, dtab)]) : Calls Tryz.prog 31 #[pv2 x0 x1 y0 y1 z] w (Rt w (.bool (rd2 x0 x1 y0 y1 z).isSome)) :=
 Check_2 1 4 x0 x1 y0 y1 z _ secondE (fun tn w hm => checkE_2 hI (tn := tn) x0 x1 y0 y1 z hx0 hx1 hy0 hy1 w hm) w hm
theorem CkE_2 {I : Fp → Fp} (hI : zX I) {P : Option (Fq × Fq)} (hP : (K2 hI).on P) (w : World) (hm : Mm w [(2, dtab)]) : Calls Tryz.prog 31 #[enc2 P] w (Rt w (.bool true)) := by
 have h := CheckE_2 hI (c2x0 P) (c2x1 P) (c2y0 P) (c2y1 P) (c2z P) (c2x0_big P) (c2x1_big P) (c2y0_big P) (c2y1_big P) w hm
 rw [rd2_of hI hP] at h
 exact h
end Rg
end Go.Proofs.YtmanelnacifgcaaGreatDoor
end
section
namespace Go.Proofs.YtmanelnacifgcaaGreatDoor
open Go.RowKit
namespace Rg
def cjq (x : Fq) : Fq := (x.1, fpR.neg x.2)
def oxq : Fq := (⟨0, pB_pos⟩, ⟨tx1, by decide +kernel⟩)
def oyq : Fq := (⟨ty0, by decide +kernel⟩, ⟨ty1, by decide +kernel⟩)
/-- Whether a point of the curve is of the group, as the program tells it. -/
def tst2 {I : Fp → Fp} (hI : zX I) (x y : Fq) (S : EC.Tri Fq) : Bool := decide (S.1 = (K2 hI).R.mul ((K2 hI).R.mul (cjq x) oxq) S.2.2) && decide (S.2.1 = (K2 hI).R.mul (EC.osub (EC.rops (K2 hI).R) (K2 hI).R.zero ((K2 hI).R.mul (cjq y) oyq)) S.2.2)
def in2 {I : Fp → Fp} (hI : zX I) : Option (Fq × Fq) → Bool
 | none => true
 | some (x, y) => tst2 hI x y ((K2 hI).ws sdP ((K2 hI).lift (some (x, y))) 1)
theorem in2_iff {I : Fp → Fp} (hI : zX I) {x y : Fq} (h : (K2 hI).on (some (x, y))) : in2 hI (some (x, y)) = true ↔ (K2 hI).times (some (x, y)) (sdP ^ 1) = some ((K2 hI).R.mul (cjq x) oxq, (K2 hI).R.neg ((K2 hI).R.mul (cjq y) oyq)) := by
 have hr := (K2 hI).rep_tst ((K2 hI).ws_rep ((K2 hI).rep_lift (some (x, y))) h sdP_lt 1) ((K2 hI).R.mul (cjq x) oxq) ((K2 hI).R.mul (cjq y) oyq)
 unfold in2 tst2
 rw [Bool.and_eq_true, decide_eq_true_eq, decide_eq_true_eq]
 exact hr
end Rg
end Go.Proofs.YtmanelnacifgcaaGreatDoor
end
section
namespace Go.Proofs.YtmanelnacifgcaaGreatDoor
namespace EC
section
variable {α : Type} (R : Rng α)
def pl2 (l : α) : α := R.mul l l
def pl3 (l : α) : α := R.mul l (R.mul l l)
def pl6 (l : α) : α := R.mul (pl3 R l) (pl3 R l)
def pl9 (l : α) : α := R.mul (pl3 R l) (pl6 R l)
def sg (l : α) (T : Tri α) : Tri α := (R.mul (pl2 R l) T.1, R.mul (pl3 R l) T.2.1, T.2.2)
end
def xl2 : Ex := .m (.v 7) (.v 7)
def xl3 : Ex := .m (.v 7) (.m (.v 7) (.v 7))
def xl6 : Ex := .m xl3 xl3
def xl9 : Ex := .m xl3 xl6
section
variable {α : Type} (C : Crv α)
open Ex in
theorem Crv.tog_sg (b l : α) (A B : Tri α) : EC.tog (rops C.R) (C.R.mul (pl6 C.R l) b) (sg C.R l A) (sg C.R l B) = C.sc (pl9 C.R l) (sg C.R l (EC.tog (rops C.R) b A B)) := by
 obtain ⟨x1, y1, z1⟩ := A
 obtain ⟨x2, y2, z2⟩ := B
 refine Prod.ext ?_ (Prod.ext ?_ ?_)
 ·exact ring_f C.R b x1 y1 z1 x2 y2 z2 l (EC.tog exo (m xl6 (v 0)) (m xl2 (v 1), m xl3 (v 2), v 3) (m xl2 (v 4), m xl3 (v 5), v 6)).1 (m xl9 (m xl2 (EC.tog exo (v 0) (v 1, v 2, v 3) (v 4, v 5, v 6)).1)) (by decide +kernel)
 ·exact ring_f C.R b x1 y1 z1 x2 y2 z2 l (EC.tog exo (m xl6 (v 0)) (m xl2 (v 1), m xl3 (v 2), v 3) (m xl2 (v 4), m xl3 (v 5), v 6)).2.1 (m xl9 (m xl3 (EC.tog exo (v 0) (v 1, v 2, v 3) (v 4, v 5, v 6)).2.1)) (by decide +kernel)
 ·exact ring_f C.R b x1 y1 z1 x2 y2 z2 l (EC.tog exo (m xl6 (v 0)) (m xl2 (v 1), m xl3 (v 2), v 3) (m xl2 (v 4), m xl3 (v 5), v 6)).2.2 (m xl9 (EC.tog exo (v 0) (v 1, v 2, v 3) (v 4, v 5, v 6)).2.2) (by decide +kernel)
end
/-- A map of the field. -/
structure Hm {α : Type} (R : Rng α) (h : α → α) : Prop where
 add : ∀ a b, h (R.add a b) = R.add (h a) (h b)
 mul : ∀ a b, h (R.mul a b) = R.mul (h a) (h b)
 neg : ∀ a, h (R.neg a) = R.neg (h a)
 one : h R.one = R.one
 zero : h R.zero = R.zero
 inj : ∀ a, h a = R.zero → a = R.zero
section
variable {α : Type} (C : Crv α) (h : α → α) (l : α)
def Crv.mp : Option (α × α) → Option (α × α)
 | none => none
 | some (x, y) => some (C.R.mul (pl2 C.R l) (h x), C.R.mul (pl3 C.R l) (h y))
def htri (T : Tri α) : Tri α := (h T.1, h T.2.1, h T.2.2)
variable {h l}
theorem tog_h (H : Hm C.R h) (b : α) (A B : Tri α) : EC.tog (rops C.R) (h b) (htri h A) (htri h B) = htri h (EC.tog (rops C.R) b A B) := by
 simp only [EC.tog, osub, o3, rops, htri, H.add, H.mul, H.neg]
theorem Crv.h_ne (H : Hm C.R h) {c : α} (hc : c ≠ C.R.zero) : h c ≠ C.R.zero := fun e => hc (H.inj c e)
theorem Crv.pl3_ne (hl : l ≠ C.R.zero) : pl3 C.R l ≠ C.R.zero := C.ne hl (C.ne hl hl)
theorem Crv.pl9_ne (hl : l ≠ C.R.zero) : pl9 C.R l ≠ C.R.zero := C.ne (C.pl3_ne hl) (C.ne (C.pl3_ne hl) (C.pl3_ne hl))
theorem Crv.rep_mp (H : Hm C.R h) (hl : l ≠ C.R.zero) {T : Tri α} {P : Option (α × α)} (hT : C.rep T P) : C.rep (sg C.R l (htri h T)) (C.mp h l P) := by
 obtain ⟨c, hc, rfl⟩ := hT
 rcases P with _ | ⟨x, y⟩
 ·refine ⟨C.R.mul (pl3 C.R l) (h c), C.ne (C.pl3_ne hl) (C.h_ne H hc), ?_⟩
  show (C.R.mul (pl2 C.R l) (h (C.R.mul c C.R.zero)), C.R.mul (pl3 C.R l) (h (C.R.mul c C.R.one)), h (C.R.mul c C.R.zero)) = (C.R.mul _ C.R.zero, C.R.mul _ C.R.one, C.R.mul _ C.R.zero)
  rw [C.R.mul_zero, C.R.mul_one, H.zero, C.R.mul_zero, C.R.mul_zero, C.R.mul_one]
 ·refine ⟨h c, C.h_ne H hc, ?_⟩
  show (C.R.mul (pl2 C.R l) (h (C.R.mul c x)), C.R.mul (pl3 C.R l) (h (C.R.mul c y)), h (C.R.mul c C.R.one)) = (C.R.mul (h c) (C.R.mul (pl2 C.R l) (h x)), C.R.mul (h c) (C.R.mul (pl3 C.R l) (h y)), C.R.mul (h c) C.R.one)
  rw [H.mul, H.mul, C.R.mul_one, C.R.mul_one, ← C.R.mul_assoc, C.R.mul_comm (pl2 C.R l) (h c), C.R.mul_assoc, ← C.R.mul_assoc (pl3 C.R l), C.R.mul_comm (pl3 C.R l) (h c), C.R.mul_assoc (h c) (pl3 C.R l)]
open Ex in
theorem Crv.mp_on (H : Hm C.R h) (hb : C.R.mul (pl6 C.R l) (h C.b) = C.b) {P : Option (α × α)} (hP : C.on P) : C.on (C.mp h l P) := by
 rcases P with _ | ⟨x, y⟩
 ·trivial
 ·have h1 : C.R.mul y y = C.R.add (C.R.mul x (C.R.mul x x)) C.b := hP
  have h2 := congrArg h h1
  rw [H.mul, H.add, H.mul, H.mul] at h2
  have i1 : C.R.mul (C.R.mul (pl3 C.R l) (h y)) (C.R.mul (pl3 C.R l) (h y)) = C.R.mul (pl6 C.R l) (C.R.mul (h y) (h y)) :=
   ring_f C.R (h y) l l l l l l l (m (m xl3 (v 0)) (m xl3 (v 0))) (m xl6 (m (v 0) (v 0))) (by decide +kernel)
  have i2 : C.R.mul (pl6 C.R l) (C.R.add (C.R.mul (h x) (C.R.mul (h x) (h x))) (h C.b)) = C.R.add (C.R.mul (C.R.mul (pl2 C.R l) (h x)) (C.R.mul (C.R.mul (pl2 C.R l) (h x)) (C.R.mul (pl2 C.R l) (h x)))) (C.R.mul (pl6 C.R l) (h C.b)) :=
   ring_f C.R (h x) (h C.b) l l l l l l (m xl6 (a (m (v 0) (m (v 0) (v 0))) (v 1))) (a (m (m xl2 (v 0)) (m (m xl2 (v 0)) (m xl2 (v 0)))) (m xl6 (v 1))) (by decide +kernel)
  show C.R.mul (C.R.mul (pl3 C.R l) (h y)) (C.R.mul (pl3 C.R l) (h y)) = side C.R C.b (C.R.mul (pl2 C.R l) (h x))
  rw [i1, h2, i2, hb]
  rfl
theorem Crv.mp_neg (H : Hm C.R h) (P : Option (α × α)) : C.mp h l (C.neg P) = C.neg (C.mp h l P) := by
 rcases P with _ | ⟨x, y⟩
 ·rfl
 ·show some (_, C.R.mul (pl3 C.R l) (h (C.R.neg y))) = some (_, C.R.neg (C.R.mul (pl3 C.R l) (h y)))
  rw [H.neg, C.R.mul_neg]
theorem Crv.neg_neg (P : Option (α × α)) : C.neg (C.neg P) = P := by
 rcases P with _ | ⟨x, y⟩
 ·rfl
 ·show some (x, C.R.neg (C.R.neg y)) = some (x, y)
  rw [C.R.neg_neg]
end
section
variable {α : Type} [DecidableEq α] (C : Crv α) {h : α → α} {l : α}
theorem Crv.mp_add (H : Hm C.R h) (hl : l ≠ C.R.zero) (hb : C.R.mul (pl6 C.R l) (h C.b) = C.b) {P Q : Option (α × α)} (hP : C.on P) (hQ : C.on Q) : C.mp h l (C.add P Q) = C.add (C.mp h l P) (C.mp h l Q) := by
 have h1 := C.rep_mp H hl (C.rep_tog (C.rep_lift P) (C.rep_lift Q) hP hQ)
 have h2 := C.rep_tog (C.rep_mp H hl (C.rep_lift P)) (C.rep_mp H hl (C.rep_lift Q)) (C.mp_on H hb hP) (C.mp_on H hb hQ)
 have e : C.tog (sg C.R l (htri h (C.lift P))) (sg C.R l (htri h (C.lift Q))) = C.sc (pl9 C.R l) (sg C.R l (htri h (C.tog (C.lift P) (C.lift Q)))) := by
  rw [← tog_h C H, ← C.tog_sg, hb]
 rw [e] at h2
 rw [← C.rep_lower h1, ← C.rep_lower h2, C.lower_sc (C.pl9_ne hl)]
theorem Crv.mp_times (H : Hm C.R h) (hl : l ≠ C.R.zero) (hb : C.R.mul (pl6 C.R l) (h C.b) = C.b) {P : Option (α × α)} (hP : C.on P) : ∀ n, C.mp h l (C.times P n) = C.times (C.mp h l P) n
 | 0 => rfl
 | n + 1 => by
  show C.mp h l (C.add (C.times P n) P) = C.add (C.times (C.mp h l P) n) (C.mp h l P)
  rw [C.mp_add H hl hb (C.times_on hP n) hP, Crv.mp_times H hl hb hP n]
end
/-! What a group says. -/
section
variable {α : Type} [DecidableEq α] (C : Crv α)
theorem Crv.left_zero {X Y : Option (α × α)} (hX : C.on X) (hY : C.on Y) (h : C.add X Y = Y) : X = none := by
 have h1 : C.add (C.add X Y) (C.neg Y) = C.add Y (C.neg Y) := by rw [h]
 rw [C.assoc hX hY (C.neg_on hY), C.add_neg, C.add_zero hX] at h1
 exact h1
theorem Crv.neg_of {X Y : Option (α × α)} (hX : C.on X) (hY : C.on Y) (h : C.add X Y = none) : Y = C.neg X := by
 have h1 : C.add (C.add X Y) (C.neg X) = C.add none (C.neg X) := by rw [h]
 rw [C.zero_add (C.neg_on hX), C.comm X Y, C.assoc hY hX (C.neg_on hX), C.add_neg, C.add_zero hY] at h1
 exact h1
theorem Crv.times_none : ∀ n, C.times none n = none
 | 0 => rfl
 | n + 1 => by
  show C.add (C.times none n) none = none
  rw [Crv.times_none n, C.add_zero (Q := none) trivial]
theorem Crv.times_neg {P : Option (α × α)} (hP : C.on P) (n : Nat) : C.times (C.neg P) n = C.neg (C.times P n) := by
 refine C.neg_of (C.times_on hP n) (C.times_on (C.neg_on hP) n) ?_
 rw [← C.times_sum hP (C.neg_on hP), C.add_neg, C.times_none]
/-- Of a point that the map multiplies by s, negated: so are its multiples. -/
theorem Crv.eigen {h : α → α} {l : α} (H : Hm C.R h) (hl : l ≠ C.R.zero) (hb : C.R.mul (pl6 C.R l) (h C.b) = C.b) {G : Option (α × α)} (hG : C.on G) {s : Nat} (e : C.times G s = C.neg (C.mp h l G)) (n : Nat) :
  C.times (C.times G n) s = C.neg (C.mp h l (C.times G n)) := by
 rw [← C.times_mul hG, Nat.mul_comm, C.times_mul hG, e, C.times_neg (C.mp_on H hb hG), C.mp_times H hl hb hG]
theorem Crv.eigen2 {h : α → α} {l : α} (H : Hm C.R h) (hl : l ≠ C.R.zero) (hb : C.R.mul (pl6 C.R l) (h C.b) = C.b) {G : Option (α × α)} (hG : C.on G) {s : Nat} (e : C.times G s = C.neg (C.mp h l G)) :
  C.times G (s * s) = C.mp h l (C.mp h l G) := by
 rw [C.times_mul hG, C.eigen H hl hb hG e, e, C.mp_neg H, C.neg_neg]
theorem Crv.eigen4 {h : α → α} {l : α} (H : Hm C.R h) (hl : l ≠ C.R.zero) (hb : C.R.mul (pl6 C.R l) (h C.b) = C.b) {G : Option (α × α)} (hG : C.on G) {s : Nat} (e : C.times G s = C.neg (C.mp h l G)) :
  C.times G (s * s * s * s) = C.mp h l (C.mp h l (C.mp h l (C.mp h l G))) := by
 rw [C.times_mul hG (s * s * s), C.eigen H hl hb hG e, C.times_mul hG (s * s), C.eigen H hl hb hG e, C.eigen2 H hl hb hG e, C.mp_neg H, C.neg_neg]
/-- A sum, by three numbers. -/
theorem Crv.add_tst {A B : Option (α × α)} (hA : C.on A) (hB : C.on B) {x y : α} (h1 : (C.tog (C.lift A) (C.lift B)).1 = C.R.mul x (C.tog (C.lift A) (C.lift B)).2.2) (h2 : (C.tog (C.lift A) (C.lift B)).2.1 = C.R.mul (osub (rops C.R) C.R.zero y) (C.tog (C.lift A) (C.lift B)).2.2) : C.add A B = some (x, C.R.neg y) :=
 (C.rep_tst (C.rep_tog (C.rep_lift A) (C.rep_lift B) hA hB) x y).1 ⟨h1, h2⟩
theorem Crv.order1 {h : α → α} {l : α} (H : Hm C.R h) (hl : l ≠ C.R.zero) (hb : C.R.mul (pl6 C.R l) (h C.b) = C.b) {G : Option (α × α)} (hG : C.on G) {s : Nat} (e : C.times G s = C.neg (C.mp h l G)) {r : Nat} (hr : r + s = s * s + 1) (hs : C.add (C.mp h l (C.mp h l G)) G = C.neg (C.mp h l G)) : C.times G r = none := by
 have h2 := congrArg (C.times G) hr
 rw [C.times_add hG, C.times_add hG, C.times_one hG, C.eigen2 H hl hb hG e, e, hs] at h2
 exact C.left_zero (C.times_on hG r) (C.neg_on (C.mp_on H hb hG)) h2
theorem Crv.order2 {h : α → α} {l : α} (H : Hm C.R h) (hl : l ≠ C.R.zero) (hb : C.R.mul (pl6 C.R l) (h C.b) = C.b) {G : Option (α × α)} (hG : C.on G) {s : Nat} (e : C.times G s = C.neg (C.mp h l G)) {r : Nat} (hr : r + s * s = s * s * s * s + 1) (hs : C.add (C.mp h l (C.mp h l (C.mp h l (C.mp h l G)))) G = C.mp h l (C.mp h l G)) : C.times G r = none := by
 have h2 := congrArg (C.times G) hr
 rw [C.times_add hG, C.times_add hG, C.times_one hG, C.eigen2 H hl hb hG e, C.eigen4 H hl hb hG e, hs] at h2
 exact C.left_zero (C.times_on hG r) (C.mp_on H hb (C.mp_on H hb hG)) h2
end
end EC
end Go.Proofs.YtmanelnacifgcaaGreatDoor
end
section
namespace Go.Proofs.YtmanelnacifgcaaGreatDoor
open Go.RowKit
namespace Rg
set_option maxHeartbeats 8000000 in
theorem tableOf_1 {α : Type} {en : α → Nat} {fa fs fm : α → α → α} {fi : α → α} {z u b : α} {g : Nat} {tn : Value} (_C : Fd1 g en fa fs fm fi z) (f : Nat → Nat) (x y : Nat) (zb : Bool) (cz : ∀ w, Mm w [(g, zT pB), (2, dtab)] → Calls Tryz.prog 89 #[.agg (G1 g tn (en u) (en b)).toArray] w (Rt w (V [f 0, f 1, f 2]))) (cl : ∀ w, Mm w [(g, zT pB), (2, dtab)] → Calls Tryz.prog 74 #[.agg (G1 g tn (en u) (en b)).toArray, .agg (zO x y zb).toArray] w (Rt w (V [f 3, f 4, f 5]))) (c2 : ∀ w, Mm w [(g, zT pB), (2, dtab)] → Calls Tryz.prog 109 #[.agg (G1 g tn (en u) (en b)).toArray, V [f 3, f 4, f 5]] w (Rt w (V [f 6, f 7, f 8]))) (c3 : ∀ w, Mm w [(g, zT pB), (2, dtab)] → Calls Tryz.prog 88 #[.agg (G1 g tn (en u) (en b)).toArray, V [f 6, f 7, f 8], V [f 3, f 4, f 5]] w (Rt w (V [f 9, f 10, f 11]))) (c4 : ∀ w, Mm w [(g, zT pB), (2, dtab)] → Calls Tryz.prog 109 #[.agg (G1 g tn (en u) (en b)).toArray, V [f 6, f 7, f 8]] w (Rt w (V [f 12, f 13, f 14]))) (c5 : ∀ w, Mm w [(g, zT pB), (2, dtab)] → Calls Tryz.prog 88 #[.agg (G1 g tn (en u) (en b)).toArray, V [f 12, f 13, f 14], V [f 3, f 4, f 5]] w (Rt w (V [f 15, f 16, f 17]))) (c6 : ∀ w, Mm w [(g, zT pB), (2, dtab)] → Calls Tryz.prog 109 #[.agg (G1 g tn (en u) (en b)).toArray, V [f 9, f 10, f 11]] w (Rt w (V [f 18, f 19, f 20]))) (c7 : ∀ w, Mm w [(g, zT pB), (2, dtab)] → Calls Tryz.prog 88 #[.agg (G1 g tn (en u) (en b)).toArray, V [f 18, f 19, f 20], V [f 3, f 4, f 5]] w (Rt w (V [f 21, f 22, f 23]))) (c8 : ∀ w, Mm w [(g, zT pB), (2, dtab)] → Calls Tryz.prog 109 #[.agg (G1 g tn (en u) (en b)).toArray, V [f 12, f 13, f 14]] w (Rt w (V [f 24, f 25, f 26]))) (c9 : ∀ w, Mm w [(g, zT pB), (2, dtab)] → Calls Tryz.prog 88 #[.agg (G1 g tn (en u) (en b)).toArray, V [f 24, f 25, f 26], V [f 3, f 4, f 5]] w (Rt w (V [f 27, f 28, f 29]))) (c10 : ∀ w, Mm w [(g, zT pB), (2, dtab)] → Calls Tryz.prog 109 #[.agg (G1 g tn (en u) (en b)).toArray, V [f 15, f 16, f 17]] w (Rt w (V [f 30, f 31, f 32]))) (c11 : ∀ w, Mm w [(g, zT pB), (2, dtab)] → Calls Tryz.prog 88 #[.agg (G1 g tn (en u) (en b)).toArray, V [f 30, f 31, f 32], V [f 3, f 4, f 5]] w (Rt w (V [f 33, f 34, f 35]))) (c12 : ∀ w, Mm w [(g, zT pB), (2, dtab)] → Calls Tryz.prog 109 #[.agg (G1 g tn (en u) (en b)).toArray, V [f 18, f 19, f 20]] w (Rt w (V [f 36, f 37, f 38]))) (c13 : ∀ w, Mm w [(g, zT pB), (2, dtab)] → Calls Tryz.prog 88 #[.agg (G1 g tn (en u) (en b)).toArray, V [f 36, f 37, f 38], V [f 3, f 4, f 5]] w (Rt w (V [f 39, f 40, f 41]))) (c14 : ∀ w, Mm w [(g, zT pB), (2, dtab)] → Calls Tryz.prog 109 #[.agg (G1 g tn (en u) (en b)).toArray, V [f 21, f 22, f 23]] w (Rt w (V [f 42, f 43, f 44]))) (c15 : ∀ w, Mm w [(g, zT pB), (2, dtab)] → Calls Tryz.prog 88 #[.agg (G1 g tn (en u) (en b)).toArray, V [f 42, f 43, f 44], V [f 3, f 4, f 5]] w (Rt w (V [f 45, f 46, f 47]))) (w : World) (hm : Mm w [(g, zT pB), (2, dtab)]) :
  Calls Tryz.prog 120 #[.agg (G1 g tn (en u) (en b)).toArray, .agg (zO x y zb).toArray] w (Rt w (V (tb1 f))) := by
 have H0 : Hid (_ ∧ _) := ⟨hm, Below.refl w.heap.size w⟩
 clear hm
 have CZ : Hid _ := cz
 clear cz
 have CL : Hid _ := cl
 clear cl
 have C2 : Hid _ := c2
 clear c2
 have C3 : Hid _ := c3
 clear c3
 have C4 : Hid _ := c4
 clear c4
 have C5 : Hid _ := c5
 clear c5
 have C6 : Hid _ := c6
 clear c6
 have C7 : Hid _ := c7
 clear c7
 have C8 : Hid _ := c8
 clear c8
 have C9 : Hid _ := c9
 clear c9
 have C10 : Hid _ := c10
 clear c10
 have C11 : Hid _ := c11
 clear c11
 have C12 : Hid _ := c12
 clear c12
 have C13 : Hid _ := c13
 clear c13
 have C14 : Hid _ := c14
 clear c14
 have C15 : Hid _ := c15
 clear c15
 go_enter Tryz.func120, Tryz.ntmps120
 refine wp_seq ?_
 refine zB 3 [.made (G1 g tn (en u) (en b)) 82, .made (zO x y zb) 85, .made (cel [0, 0, 0, 0, 0, 0, 0, 0, 0, 0, 0, 0, 0, 0, 0, 0, 0, 0, 0, 0, 0, 0, 0, 0, 0, 0, 0, 0, 0, 0, 0, 0, 0, 0, 0, 0, 0, 0, 0, 0, 0, 0, 0, 0, 0, 0, 0, 0]) 162] (sB H0) ?ho1 ?he1
 case ho1 => exact am (zV rfl rfl) (am (zV rfl rfl) (am (ex_madeTB1 rfl) trivial))
 intro J w1 l hM hl
 have H1 : Hid (Mm w1 ([(J 0, G1 g tn (en u) (en b)), (J 1, zO x y zb), (J 2, cel [0, 0, 0, 0, 0, 0, 0, 0, 0, 0, 0, 0, 0, 0, 0, 0, 0, 0, 0, 0, 0, 0, 0, 0, 0, 0, 0, 0, 0, 0, 0, 0, 0, 0, 0, 0, 0, 0, 0, 0, 0, 0, 0, 0, 0, 0, 0, 0])] ++ _) ∧ _) := wB H0 hM hl [0, 1, 2]
 have o1_0 := vB H0 hM hl 0
 have o1_1 := vB H0 hM hl 1
 have o1_2 := vB H0 hM hl 2
 clear hM hl l
 generalize J 0 = J1_0 at H1 o1_0 ⊢
 generalize J 1 = J1_1 at H1 o1_1 ⊢
 generalize J 2 = J1_2 at H1 o1_2 ⊢
 clear J
 refine rN (wp_seq ?_)
 refine zR 8 [.q (.agg (G1 g tn (en u) (en b)).toArray), .call (V [f 0, f 1, f 2]), .q (.agg (G1 g tn (en u) (en b)).toArray), .q (.agg (zO x y zb).toArray), .call (V [f 3, f 4, f 5]), .q (V (tbz1 6 f)), .made (cel [0, 0, 0, 0, 0, 0, 0, 0, 0, 0, 0, 0, 0, 0, 0, 0, 0, 0, 0, 0, 0, 0, 0, 0, 0, 0, 0, 0, 0, 0, 0, 0, 0, 0, 0, 0, 0, 0, 0, 0, 0, 0, 0, 0, 0, 0, 0, 0]) 162, .laid 6 (cel [0, 0, 0, 0, 0, 0, 0, 0, 0, 0, 0, 0, 0, 0, 0, 0, 0, 0, 0, 0, 0, 0, 0, 0, 0, 0, 0, 0, 0, 0, 0, 0, 0, 0, 0, 0, 0, 0, 0, 0, 0, 0, 0, 0, 0, 0, 0, 0]) (cel (tbz1 6 f))] (sB H1) ?ho2 ?he2 (hL := ?hL2)
 case hL2 => exact ⟨⟨_, rfl⟩, trivial⟩
 case ho2 => exact bT 0 Ai82 As82 (ac (fun w' h => eC call89 (CZ.out w' (h.two 3 4 rfl rfl (by decide)))) (bT 0 Ai82 As82 (bT 1 Ai85 As85 (ac (fun w' h => eC call74 (CL.out w' (h.two 3 4 rfl rfl (by decide)))) (ak (fun J => ⟨rfl, fun w' _ => ex_buildTB1 rfl rfl rfl⟩) (am (ex_madeTB1 rfl) (ak (fun J => ⟨rfl, rfl, rfl, fun w' h => ex_laidA h rfl As162 rfl rfl rfl⟩) trivial)))))))
 intro J w2 l hM hl
 have H2 : Hid (Mm w2 ([(J 6, cel (tbz1 6 f))] ++ _) ∧ _) := wB H1 hM hl [6]
 have o2_6 := vB H1 hM hl 6
 clear hM hl l H1
 generalize J 6 = J2_6 at H2 o2_6 ⊢
 clear J
 refine rN (wp_seq (wp_seq ?_))
 refine zD 1 [.q (.int .i64 2)] H2 ?ho3 ?he3
 case ho3 => exact ar trivial
 intro _ w3 H3
 clear H2
 refine rN (wp_block ?_)
 refine wp_loop_rounds 8 ?_
 refine zM (n := 7) ?_
 refine wp_seq (wp_seq ?_)
 refine zD 2 [.q (.int .i64 2), .q (.bool true)] H3 ?ho4 ?he4
 case ho4 => exact ar (ag trivial)
 intro _ w4 H4
 clear H3
 refine rN (wp_cond_true rfl ?_)
 refine wp_skip (zA ?_)
 refine wp_seq (wp_block (wp_seq ?_))
 refine zN 8 [.q (.int .i64 2), .q (.agg (G1 g tn (en u) (en b)).toArray), .q (.int .i64 2), .q (.int .i64 1), .q (PT J2_6 18), .q (V [f 3, f 4, f 5]), .call (V [f 6, f 7, f 8]), .q (PT J2_6 36)] H4 ?ho5 ?he5
 case ho5 => exact ar (bT 1 Ai82 As82 (ar (av (ag (bA 3 3 0 Ai124 As124 (ac (fun w' h => eC call109 (C2.out w' (h.two 4 5 rfl rfl (by decide)))) (ag trivial)))))))
 intro _ w5 H5
 clear H4
 refine zF (l := [8]) rfl ?_
 refine sA 0 6 [f 6, f 7, f 8] [(_, cel (tbz1 9 f)), _, _, _, _, _] H5 o2_6 As124 fun w6 H6 => ?_
 clear H5
 refine zE (zA ?_)
 refine zN 10 [.q (.int .i64 2), .q (.int .i64 3), .q (.agg (G1 g tn (en u) (en b)).toArray), .q (.int .i64 2), .q (PT J2_6 36), .q (V [f 6, f 7, f 8]), .q (PT J2_6 18), .q (V [f 3, f 4, f 5]), .call (V [f 9, f 10, f 11]), .q (PT J2_6 54)] H6 ?ho6 ?he6
 case ho6 => exact ar (av (bT 1 Ai82 As82 (ar (ag (bA 6 3 0 Ai124 As124 (ag (bA 3 3 0 Ai124 As124 (ac (fun w' h => eC call88 (C3.out w' (h.two 4 5 rfl rfl (by decide)))) (ag trivial)))))))))
 intro _ w7 H7
 clear H6
 refine zF (l := [10]) rfl ?_
 refine sA 0 9 [f 9, f 10, f 11] [(_, cel (tbz1 12 f)), _, _, _, _, _] H7 o2_6 As124 fun w8 H8 => ?_
 clear H7
 refine zE (zI (zA ?_))
 refine zD 2 [.q (.int .i64 2), .q (.int .i64 4)] H8 ?ho7 ?he7
 case ho7 => exact ar (av trivial)
 intro _ w9 H9
 clear H8
 refine zF (l := [2]) rfl ?_
 refine zG (d := 6) rfl rfl rfl rfl ?_
 simp only [Act.put, sa, sz, ss]
 refine zE (zA ?_)
 refine zM (n := 6) ?_
 refine wp_seq (wp_seq ?_)
 refine zD 2 [.q (.int .i64 4), .q (.bool true)] H9 ?ho8 ?he8
 case ho8 => exact ar (ag trivial)
 intro _ w10 H10
 clear H9
 refine rN (wp_cond_true rfl ?_)
 refine wp_skip (zA ?_)
 refine wp_seq (wp_block (wp_seq ?_))
 refine zN 8 [.q (.int .i64 4), .q (.agg (G1 g tn (en u) (en b)).toArray), .q (.int .i64 4), .q (.int .i64 2), .q (PT J2_6 36), .q (V [f 6, f 7, f 8]), .call (V [f 12, f 13, f 14]), .q (PT J2_6 72)] H10 ?ho9 ?he9
 case ho9 => exact ar (bT 1 Ai82 As82 (ar (av (ag (bA 6 3 0 Ai124 As124 (ac (fun w' h => eC call109 (C4.out w' (h.two 4 5 rfl rfl (by decide)))) (ag trivial)))))))
 intro _ w11 H11
 clear H10
 refine zF (l := [8]) rfl ?_
 refine sA 0 12 [f 12, f 13, f 14] [(_, cel (tbz1 15 f)), _, _, _, _, _] H11 o2_6 As124 fun w12 H12 => ?_
 clear H11
 refine zE (zA ?_)
 refine zN 10 [.q (.int .i64 4), .q (.int .i64 5), .q (.agg (G1 g tn (en u) (en b)).toArray), .q (.int .i64 4), .q (PT J2_6 72), .q (V [f 12, f 13, f 14]), .q (PT J2_6 18), .q (V [f 3, f 4, f 5]), .call (V [f 15, f 16, f 17]), .q (PT J2_6 90)] H12 ?ho10 ?he10
 case ho10 => exact ar (av (bT 1 Ai82 As82 (ar (ag (bA 12 3 0 Ai124 As124 (ag (bA 3 3 0 Ai124 As124 (ac (fun w' h => eC call88 (C5.out w' (h.two 4 5 rfl rfl (by decide)))) (ag trivial)))))))))
 intro _ w13 H13
 clear H12
 refine zF (l := [10]) rfl ?_
 refine sA 0 15 [f 15, f 16, f 17] [(_, cel (tbz1 18 f)), _, _, _, _, _] H13 o2_6 As124 fun w14 H14 => ?_
 clear H13
 refine zE (zI (zA ?_))
 refine zD 2 [.q (.int .i64 4), .q (.int .i64 6)] H14 ?ho11 ?he11
 case ho11 => exact ar (av trivial)
 intro _ w15 H15
 clear H14
 refine zF (l := [2]) rfl ?_
 refine zG (d := 6) rfl rfl rfl rfl ?_
 simp only [Act.put, sa, sz, ss]
 refine zE (zA ?_)
 refine zM (n := 5) ?_
 refine wp_seq (wp_seq ?_)
 refine zD 2 [.q (.int .i64 6), .q (.bool true)] H15 ?ho12 ?he12
 case ho12 => exact ar (ag trivial)
 intro _ w16 H16
 clear H15
 refine rN (wp_cond_true rfl ?_)
 refine wp_skip (zA ?_)
 refine wp_seq (wp_block (wp_seq ?_))
 refine zN 8 [.q (.int .i64 6), .q (.agg (G1 g tn (en u) (en b)).toArray), .q (.int .i64 6), .q (.int .i64 3), .q (PT J2_6 54), .q (V [f 9, f 10, f 11]), .call (V [f 18, f 19, f 20]), .q (PT J2_6 108)] H16 ?ho13 ?he13
 case ho13 => exact ar (bT 1 Ai82 As82 (ar (av (ag (bA 9 3 0 Ai124 As124 (ac (fun w' h => eC call109 (C6.out w' (h.two 4 5 rfl rfl (by decide)))) (ag trivial)))))))
 intro _ w17 H17
 clear H16
 refine zF (l := [8]) rfl ?_
 refine sA 0 18 [f 18, f 19, f 20] [(_, cel (tbz1 21 f)), _, _, _, _, _] H17 o2_6 As124 fun w18 H18 => ?_
 clear H17
 refine zE (zA ?_)
 refine zN 10 [.q (.int .i64 6), .q (.int .i64 7), .q (.agg (G1 g tn (en u) (en b)).toArray), .q (.int .i64 6), .q (PT J2_6 108), .q (V [f 18, f 19, f 20]), .q (PT J2_6 18), .q (V [f 3, f 4, f 5]), .call (V [f 21, f 22, f 23]), .q (PT J2_6 126)] H18 ?ho14 ?he14
 case ho14 => exact ar (av (bT 1 Ai82 As82 (ar (ag (bA 18 3 0 Ai124 As124 (ag (bA 3 3 0 Ai124 As124 (ac (fun w' h => eC call88 (C7.out w' (h.two 4 5 rfl rfl (by decide)))) (ag trivial)))))))))
 intro _ w19 H19
 clear H18
 refine zF (l := [10]) rfl ?_
 refine sA 0 21 [f 21, f 22, f 23] [(_, cel (tbz1 24 f)), _, _, _, _, _] H19 o2_6 As124 fun w20 H20 => ?_
 clear H19
 refine zE (zI (zA ?_))
 refine zD 2 [.q (.int .i64 6), .q (.int .i64 8)] H20 ?ho15 ?he15
 case ho15 => exact ar (av trivial)
 intro _ w21 H21
 clear H20
 refine zF (l := [2]) rfl ?_
 refine zG (d := 6) rfl rfl rfl rfl ?_
 simp only [Act.put, sa, sz, ss]
 refine zE (zA ?_)
 refine zM (n := 4) ?_
 refine wp_seq (wp_seq ?_)
 refine zD 2 [.q (.int .i64 8), .q (.bool true)] H21 ?ho16 ?he16
 case ho16 => exact ar (ag trivial)
 intro _ w22 H22
 clear H21
 refine rN (wp_cond_true rfl ?_)
 refine wp_skip (zA ?_)
 refine wp_seq (wp_block (wp_seq ?_))
 refine zN 8 [.q (.int .i64 8), .q (.agg (G1 g tn (en u) (en b)).toArray), .q (.int .i64 8), .q (.int .i64 4), .q (PT J2_6 72), .q (V [f 12, f 13, f 14]), .call (V [f 24, f 25, f 26]), .q (PT J2_6 144)] H22 ?ho17 ?he17
 case ho17 => exact ar (bT 1 Ai82 As82 (ar (av (ag (bA 12 3 0 Ai124 As124 (ac (fun w' h => eC call109 (C8.out w' (h.two 4 5 rfl rfl (by decide)))) (ag trivial)))))))
 intro _ w23 H23
 clear H22
 refine zF (l := [8]) rfl ?_
 refine sA 0 24 [f 24, f 25, f 26] [(_, cel (tbz1 27 f)), _, _, _, _, _] H23 o2_6 As124 fun w24 H24 => ?_
 clear H23
 refine zE (zA ?_)
 refine zN 10 [.q (.int .i64 8), .q (.int .i64 9), .q (.agg (G1 g tn (en u) (en b)).toArray), .q (.int .i64 8), .q (PT J2_6 144), .q (V [f 24, f 25, f 26]), .q (PT J2_6 18), .q (V [f 3, f 4, f 5]), .call (V [f 27, f 28, f 29]), .q (PT J2_6 162)] H24 ?ho18 ?he18
 case ho18 => exact ar (av (bT 1 Ai82 As82 (ar (ag (bA 24 3 0 Ai124 As124 (ag (bA 3 3 0 Ai124 As124 (ac (fun w' h => eC call88 (C9.out w' (h.two 4 5 rfl rfl (by decide)))) (ag trivial)))))))))
 intro _ w25 H25
 clear H24
 refine zF (l := [10]) rfl ?_
 refine sA 0 27 [f 27, f 28, f 29] [(_, cel (tbz1 30 f)), _, _, _, _, _] H25 o2_6 As124 fun w26 H26 => ?_
 clear H25
 refine zE (zI (zA ?_))
 refine zD 2 [.q (.int .i64 8), .q (.int .i64 10)] H26 ?ho19 ?he19
 case ho19 => exact ar (av trivial)
 intro _ w27 H27
 clear H26
 refine zF (l := [2]) rfl ?_
 refine zG (d := 6) rfl rfl rfl rfl ?_
 simp only [Act.put, sa, sz, ss]
 refine zE (zA ?_)
 refine zM (n := 3) ?_
 refine wp_seq (wp_seq ?_)
 refine zD 2 [.q (.int .i64 10), .q (.bool true)] H27 ?ho20 ?he20
 case ho20 => exact ar (ag trivial)
 intro _ w28 H28
 clear H27
 refine rN (wp_cond_true rfl ?_)
 refine wp_skip (zA ?_)
 refine wp_seq (wp_block (wp_seq ?_))
 refine zN 8 [.q (.int .i64 10), .q (.agg (G1 g tn (en u) (en b)).toArray), .q (.int .i64 10), .q (.int .i64 5), .q (PT J2_6 90), .q (V [f 15, f 16, f 17]), .call (V [f 30, f 31, f 32]), .q (PT J2_6 180)] H28 ?ho21 ?he21
 case ho21 => exact ar (bT 1 Ai82 As82 (ar (av (ag (bA 15 3 0 Ai124 As124 (ac (fun w' h => eC call109 (C10.out w' (h.two 4 5 rfl rfl (by decide)))) (ag trivial)))))))
 intro _ w29 H29
 clear H28
 refine zF (l := [8]) rfl ?_
 refine sA 0 30 [f 30, f 31, f 32] [(_, cel (tbz1 33 f)), _, _, _, _, _] H29 o2_6 As124 fun w30 H30 => ?_
 clear H29
 refine zE (zA ?_)
 refine zN 10 [.q (.int .i64 10), .q (.int .i64 11), .q (.agg (G1 g tn (en u) (en b)).toArray), .q (.int .i64 10), .q (PT J2_6 180), .q (V [f 30, f 31, f 32]), .q (PT J2_6 18), .q (V [f 3, f 4, f 5]), .call (V [f 33, f 34, f 35]), .q (PT J2_6 198)] H30 ?ho22 ?he22
 case ho22 => exact ar (av (bT 1 Ai82 As82 (ar (ag (bA 30 3 0 Ai124 As124 (ag (bA 3 3 0 Ai124 As124 (ac (fun w' h => eC call88 (C11.out w' (h.two 4 5 rfl rfl (by decide)))) (ag trivial)))))))))
 intro _ w31 H31
 clear H30
 refine zF (l := [10]) rfl ?_
 refine sA 0 33 [f 33, f 34, f 35] [(_, cel (tbz1 36 f)), _, _, _, _, _] H31 o2_6 As124 fun w32 H32 => ?_
 clear H31
 refine zE (zI (zA ?_))
 refine zD 2 [.q (.int .i64 10), .q (.int .i64 12)] H32 ?ho23 ?he23
 case ho23 => exact ar (av trivial)
 intro _ w33 H33
 clear H32
 refine zF (l := [2]) rfl ?_
 refine zG (d := 6) rfl rfl rfl rfl ?_
 simp only [Act.put, sa, sz, ss]
 refine zE (zA ?_)
 refine zM (n := 2) ?_
 refine wp_seq (wp_seq ?_)
 refine zD 2 [.q (.int .i64 12), .q (.bool true)] H33 ?ho24 ?he24
 case ho24 => exact ar (ag trivial)
 intro _ w34 H34
 clear H33
 refine rN (wp_cond_true rfl ?_)
 refine wp_skip (zA ?_)
 refine wp_seq (wp_block (wp_seq ?_))
 refine zN 8 [.q (.int .i64 12), .q (.agg (G1 g tn (en u) (en b)).toArray), .q (.int .i64 12), .q (.int .i64 6), .q (PT J2_6 108), .q (V [f 18, f 19, f 20]), .call (V [f 36, f 37, f 38]), .q (PT J2_6 216)] H34 ?ho25 ?he25
 case ho25 => exact ar (bT 1 Ai82 As82 (ar (av (ag (bA 18 3 0 Ai124 As124 (ac (fun w' h => eC call109 (C12.out w' (h.two 4 5 rfl rfl (by decide)))) (ag trivial)))))))
 intro _ w35 H35
 clear H34
 refine zF (l := [8]) rfl ?_
 refine sA 0 36 [f 36, f 37, f 38] [(_, cel (tbz1 39 f)), _, _, _, _, _] H35 o2_6 As124 fun w36 H36 => ?_
 clear H35
 refine zE (zA ?_)
 refine zN 10 [.q (.int .i64 12), .q (.int .i64 13), .q (.agg (G1 g tn (en u) (en b)).toArray), .q (.int .i64 12), .q (PT J2_6 216), .q (V [f 36, f 37, f 38]), .q (PT J2_6 18), .q (V [f 3, f 4, f 5]), .call (V [f 39, f 40, f 41]), .q (PT J2_6 234)] H36 ?ho26 ?he26
 case ho26 => exact ar (av (bT 1 Ai82 As82 (ar (ag (bA 36 3 0 Ai124 As124 (ag (bA 3 3 0 Ai124 As124 (ac (fun w' h => eC call88 (C13.out w' (h.two 4 5 rfl rfl (by decide)))) (ag trivial)))))))))
 intro _ w37 H37
 clear H36
 refine zF (l := [10]) rfl ?_
 refine sA 0 39 [f 39, f 40, f 41] [(_, cel (tbz1 42 f)), _, _, _, _, _] H37 o2_6 As124 fun w38 H38 => ?_
 clear H37
 refine zE (zI (zA ?_))
 refine zD 2 [.q (.int .i64 12), .q (.int .i64 14)] H38 ?ho27 ?he27
 case ho27 => exact ar (av trivial)
 intro _ w39 H39
 clear H38
 refine zF (l := [2]) rfl ?_
 refine zG (d := 6) rfl rfl rfl rfl ?_
 simp only [Act.put, sa, sz, ss]
 refine zE (zA ?_)
 refine zM (n := 1) ?_
 refine wp_seq (wp_seq ?_)
 refine zD 2 [.q (.int .i64 14), .q (.bool true)] H39 ?ho28 ?he28
 case ho28 => exact ar (ag trivial)
 intro _ w40 H40
 clear H39
 refine rN (wp_cond_true rfl ?_)
 refine wp_skip (zA ?_)
 refine wp_seq (wp_block (wp_seq ?_))
 refine zN 8 [.q (.int .i64 14), .q (.agg (G1 g tn (en u) (en b)).toArray), .q (.int .i64 14), .q (.int .i64 7), .q (PT J2_6 126), .q (V [f 21, f 22, f 23]), .call (V [f 42, f 43, f 44]), .q (PT J2_6 252)] H40 ?ho29 ?he29
 case ho29 => exact ar (bT 1 Ai82 As82 (ar (av (ag (bA 21 3 0 Ai124 As124 (ac (fun w' h => eC call109 (C14.out w' (h.two 4 5 rfl rfl (by decide)))) (ag trivial)))))))
 intro _ w41 H41
 clear H40
 refine zF (l := [8]) rfl ?_
 refine sA 0 42 [f 42, f 43, f 44] [(_, cel (tbz1 45 f)), _, _, _, _, _] H41 o2_6 As124 fun w42 H42 => ?_
 clear H41
 refine zE (zA ?_)
 refine zN 10 [.q (.int .i64 14), .q (.int .i64 15), .q (.agg (G1 g tn (en u) (en b)).toArray), .q (.int .i64 14), .q (PT J2_6 252), .q (V [f 42, f 43, f 44]), .q (PT J2_6 18), .q (V [f 3, f 4, f 5]), .call (V [f 45, f 46, f 47]), .q (PT J2_6 270)] H42 ?ho30 ?he30
 case ho30 => exact ar (av (bT 1 Ai82 As82 (ar (ag (bA 42 3 0 Ai124 As124 (ag (bA 3 3 0 Ai124 As124 (ac (fun w' h => eC call88 (C15.out w' (h.two 4 5 rfl rfl (by decide)))) (ag trivial)))))))))
 intro _ w43 H43
 clear H42
 refine zF (l := [10]) rfl ?_
 refine sA 0 45 [f 45, f 46, f 47] [(_, cel (tb1 f)), _, _, _, _, _] H43 o2_6 As124 fun w44 H44 => ?_
 clear H43
 refine zE (zI (zA ?_))
 refine zD 2 [.q (.int .i64 14), .q (.int .i64 16)] H44 ?ho31 ?he31
 case ho31 => exact ar (av trivial)
 intro _ w45 H45
 clear H44
 refine zF (l := [2]) rfl ?_
 refine zG (d := 6) rfl rfl rfl rfl ?_
 simp only [Act.put, sa, sz, ss]
 refine zE (zA ?_)
 refine zM (n := 0) ?_
 refine wp_seq (wp_seq ?_)
 refine zD 2 [.q (.int .i64 16), .q (.bool false)] H45 ?ho32 ?he32
 case ho32 => exact ar (ag trivial)
 intro _ w46 H46
 clear H45
 refine rN (wp_cond_false rfl ?_)
 refine wp_exit ?_
 repeat refine zZ ?_
 refine zW ?_
 refine zA (wp_seq ?_)
 refine zD 1 [.q (V (tb1 f))] H46 ?ho33 ?he33
 case ho33 => exact bA 0 48 0 Tryz.isAgg162 As162 trivial
 intro _ w47 H47
 clear H46
 refine zF (l := [1]) rfl ?_
 refine sA 3 0 [f 0, f 1, f 2, f 3, f 4, f 5, f 6, f 7, f 8, f 9, f 10, f 11, f 12, f 13, f 14, f 15, f 16, f 17, f 18, f 19, f 20, f 21, f 22, f 23, f 24, f 25, f 26, f 27, f 28, f 29, f 30, f 31, f 32, f 33, f 34, f 35, f 36, f 37, f 38, f 39, f 40, f 41, f 42, f 43, f 44, f 45, f 46, f 47] [_, _, _, (_, cel (tb1 f)), _, _] H47 o1_2 As162 fun w48 H48 => ?_
 clear H47
 refine zE (zA (wp_ret ?_))
 repeat (first | refine zL ?_ | refine zH ?_)
 have hf0 := cel_var (k := 48) H48.out.1 3 rfl Tryz.isAgg162 As162 rfl
 refine bodyPost_ret (v := V (tb1 f)) (by simp [results, Tryz.results120, asAddr, hf0]) rfl ?_
 exact ⟨rfl, H48.out.2⟩
set_option maxHeartbeats 8000000 in
theorem byRow_1 {α : Type} {en : α → Nat} {fa fs fm : α → α → α} {fi : α → α} {z u b : α} {g : Nat} {tn : Value} (_C : Fd1 g en fa fs fm fi z) (f : Nat → Nat) (tw : EC.Tri α → EC.Tri α) (tg : EC.Tri α → Nat → EC.Tri α) (A : Nat → EC.Tri α) (wo : Nat → Int) (dg : Nat → Nat) (gt gr : Nat)
  (ctw : ∀ T w, Mm w [(g, zT pB), (2, dtab)] → Calls Tryz.prog 109 #[.agg (G1 g tn (en u) (en b)).toArray, V [en T.1, en T.2.1, en T.2.2]] w (Rt w (V [en ((tw T).1), en ((tw T).2.1), en ((tw T).2.2)])))
  (ctg : ∀ T d, d < 16 → ∀ w, Mm w [(g, zT pB), (2, dtab)] → Calls Tryz.prog 88 #[.agg (G1 g tn (en u) (en b)).toArray, V [en T.1, en T.2.1, en T.2.2], V [f (3 * d), f (3 * d + 1), f (3 * d + 2)]] w (Rt w (V [en ((tg T d).1), en ((tg T d).2.1), en ((tg T d).2.2)])))
  (hd : ∀ k, wo k / 2 ^ 60 = ((dg k : Nat) : Int)) (hdl : ∀ k, dg k < 16) (hw : ∀ k, IntKind.u64.wrap (wo k * 2 ^ 4) = wo (k + 1))
  (ha0 : ∀ k, dg k = 0 → tw (tw (tw (tw (A k)))) = A (k + 1)) (ha1 : ∀ k, 0 < dg k → tg (tw (tw (tw (tw (A k))))) (dg k) = A (k + 1)) (w : World) (hm : Mm w [(g, zT pB), (2, dtab), (gt, cel (tb1 f)), (gr, [Value.int .u64 (wo 0)])]) :
  Calls Tryz.prog 121 #[.agg (G1 g tn (en u) (en b)).toArray, V [en ((A 0).1), en ((A 0).2.1), en ((A 0).2.2)], .slice (some ⟨gt, 0, none⟩) 1 1, .slice (some ⟨gr, 0, none⟩) 1 1] w fun e w' => e = .returned (V [en ((A 16).1), en ((A 16).2.1), en ((A 16).2.2)]) ∧ Mm w' [(gr, [Value.int .u64 (wo 16)])] ∧ Kp gr w w' := by
 have H0 : Hid (_ ∧ _) := ⟨hm, Kp.refl gr w⟩
 clear hm
 have CTW : Hid _ := ctw
 clear ctw
 have CTG : Hid _ := ctg
 clear ctg
 have HD : Hid _ := hd
 clear hd
 have HDL : Hid _ := hdl
 clear hdl
 have HW : Hid _ := hw
 clear hw
 have HA0 : Hid _ := ha0
 clear ha0
 have HA1 : Hid _ := ha1
 clear ha1
 go_enter Tryz.func121, Tryz.ntmps121
 refine wp_seq ?_
 refine zB 3 [.made (G1 g tn (en u) (en b)) 82, .made (cel [en ((A 0).1), en ((A 0).2.1), en ((A 0).2.2)]) 124, .made (cel [0, 0, 0]) 124] (sB H0) ?ho1 ?he1
 case ho1 => exact am (zV rfl rfl) (am (ex_boxA rfl rfl) (am (ex_madeTN rfl) trivial))
 intro J w1 l hM hl
 have H1 : Hid (Mm w1 ([(J 0, G1 g tn (en u) (en b)), (J 1, cel [en ((A 0).1), en ((A 0).2.1), en ((A 0).2.2)]), (J 2, cel [0, 0, 0])] ++ _) ∧ _) := wK H0 hM hl [0, 1, 2]
 have o1_0 := vK H0 hM hl 0
 have o1_1 := vK H0 hM hl 1
 have o1_2 := vK H0 hM hl 2
 clear hM hl l
 generalize J 0 = J1_0 at H1 o1_0 ⊢
 generalize J 1 = J1_1 at H1 o1_1 ⊢
 generalize J 2 = J1_2 at H1 o1_2 ⊢
 clear J
 refine rN (wp_seq (wp_seq ?_))
 refine zB 1 [.q (.int .i64 0)] (sB H1) ?ho2 ?he2
 case ho2 => exact ar trivial
 intro J w2 l hM hl
 have H2 := zP H1 hM.below
 clear hM hl l H1 J
 refine rN (wp_block ?_)
 refine loop_ghost (α := Nat) (fun k a' w' => ∃ s0 : Nat → Value, a' = ⟨#[.agg (G1 g tn (en u) (en b)).toArray, V [en ((A 0).1), en ((A 0).2.1), en ((A 0).2.2)], .slice (some ⟨gt, 0, none⟩) 1 1, .slice (some ⟨gr, 0, none⟩) 1 1, PT J1_0 0, PT J1_1 0, ud, ud, PT J1_2 0, s0 9, s0 10, s0 11, .int .i64 ((k : Nat) : Int), s0 13, s0 14, s0 15, s0 16, s0 17, s0 18, s0 19, s0 20, s0 21, s0 22, s0 23, s0 24, s0 25, s0 26, s0 27, s0 28, s0 29, s0 30, s0 31, s0 32, s0 33, s0 34, s0 35, s0 36, s0 37, s0 38, s0 39, s0 40, s0 41, s0 42, s0 43, s0 44, s0 45, s0 46, ud], []⟩ ∧ (Mm w' [(J1_0, G1 g tn (en u) (en b)), (J1_1, cel [en ((A k).1), en ((A k).2.1), en ((A k).2.2)]), (J1_2, cel [0, 0, 0]), (g, zT pB), (2, dtab), (gt, cel (tb1 f)), (gr, [Value.int .u64 (wo k)])] ∧ Kp gr w w') ∧ k ≤ 16) (fun k => 16 - k) 0 ?st0 ?rd0
 case st0 => exact ⟨(slotfn [ud, ud, ud, ud, ud, ud, ud, ud, ud, ud, ud, ud, ud, ud, ud, ud, ud, ud, ud, ud, ud, ud, ud, ud, ud, ud, ud, ud, ud, ud, ud, ud, ud, ud, ud, ud, ud, ud, ud, ud, ud, ud, ud, ud, ud, ud, ud]), rfl, ⟨H2.out.1, H2.out.2⟩, by omega⟩
 intro k a' w3 hI
 obtain ⟨s0, rfl, hMB, hk0⟩ := hI
 have H3 : Hid (_ ∧ _) := hMB
 clear hMB H2
 by_cases hlt0 : k < 16
 ·have hrd : True := trivial
  clear hrd
  by_cases hdz : dg k = 0
  ·have hrd : True := trivial
   clear hrd
   have hlt : k < 16 := by omega
   refine wp_seq ?_
   refine zB 1 [.q (.bool true)] (sB H3) ?ho3 ?he3
   case ho3 => exact ak (by refine fun J => ⟨rfl, fun w' h => ?_⟩; clear h; go_simp <;> omega) trivial
   intro J w4 l hM hl
   have H4 := zP H3 hM.below
   clear hM hl l H3 J
   refine rN (wp_seq ?_)
   refine wp_cond_true rfl (wp_skip ?_)
   refine zA (wp_seq ?_)
   refine wp_block (wp_seq (wp_seq ?_))
   refine zB 1 [.q (.int .i64 0)] (sB H4) ?ho4 ?he4
   case ho4 => exact ar trivial
   intro J w5 l hM hl
   have H5 := zP H4 hM.below
   clear hM hl l H4 J
   refine rN (wp_block ?_)
   refine wp_loop_rounds 5 ?_
   refine zM (n := 4) ?_
   refine wp_seq ?_
   refine zB 1 [.q (.bool true)] (sB H5) ?ho5 ?he5
   case ho5 => exact ag trivial
   intro J w6 l hM hl
   have H6 := zP H5 hM.below
   clear hM hl l H5 J
   refine rN (wp_seq ?_)
   refine wp_cond_true rfl (wp_skip ?_)
   refine zA (wp_seq (wp_block ?_))
   refine zB 3 [.q (.agg (G1 g tn (en u) (en b)).toArray), .q (V [en ((A k).1), en ((A k).2.1), en ((A k).2.2)]), .call (V [en ((tw (A k)).1), en ((tw (A k)).2.1), en ((tw (A k)).2.2)])] (sB H6) ?ho6 ?he6
   case ho6 => exact bT 0 Ai82 As82 (bA 0 3 1 Ai124 As124 (ac (fun w' h => eC call109 (CTW.out (A k) w' (h.two 3 4 rfl rfl (by decide)))) trivial))
   intro J w7 l hM hl
   have H7 := zP H6 hM.below
   clear hM hl l H6 J
   refine zF (l := [3]) rfl ?_
   refine sL 1 [en ((tw (A k)).1), en ((tw (A k)).2.1), en ((tw (A k)).2.2)] [_, _, _, _, _, _, _] H7 o1_1 As124 fun w8 H8 => ?_
   clear H7
   refine zE (zI (zA ?_))
   refine zB 1 [.q (.int .i64 1)] (sB H8) ?ho7 ?he7
   case ho7 => exact av trivial
   intro J w9 l hM hl
   have H9 := zP H8 hM.below
   clear hM hl l H8 J
   refine zF (l := [1]) rfl ?_
   refine zG (d := 14) rfl rfl rfl rfl ?_
   simp only [Act.put, sa, sz, ss]
   refine zE (zA ?_)
   refine zM (n := 3) ?_
   refine wp_seq ?_
   refine zB 1 [.q (.bool true)] (sB H9) ?ho8 ?he8
   case ho8 => exact ag trivial
   intro J w10 l hM hl
   have H10 := zP H9 hM.below
   clear hM hl l H9 J
   refine rN (wp_seq ?_)
   refine wp_cond_true rfl (wp_skip ?_)
   refine zA (wp_seq (wp_block ?_))
   refine zB 3 [.q (.agg (G1 g tn (en u) (en b)).toArray), .q (V [en ((tw (A k)).1), en ((tw (A k)).2.1), en ((tw (A k)).2.2)]), .call (V [en ((tw (tw (A k))).1), en ((tw (tw (A k))).2.1), en ((tw (tw (A k))).2.2)])] (sB H10) ?ho9 ?he9
   case ho9 => exact bT 0 Ai82 As82 (bA 0 3 1 Ai124 As124 (ac (fun w' h => eC call109 (CTW.out (tw (A k)) w' (h.two 3 4 rfl rfl (by decide)))) trivial))
   intro J w11 l hM hl
   have H11 := zP H10 hM.below
   clear hM hl l H10 J
   refine zF (l := [3]) rfl ?_
   refine sL 1 [en ((tw (tw (A k))).1), en ((tw (tw (A k))).2.1), en ((tw (tw (A k))).2.2)] [_, _, _, _, _, _, _] H11 o1_1 As124 fun w12 H12 => ?_
   clear H11
   refine zE (zI (zA ?_))
   refine zB 1 [.q (.int .i64 2)] (sB H12) ?ho10 ?he10
   case ho10 => exact av trivial
   intro J w13 l hM hl
   have H13 := zP H12 hM.below
   clear hM hl l H12 J
   refine zF (l := [1]) rfl ?_
   refine zG (d := 14) rfl rfl rfl rfl ?_
   simp only [Act.put, sa, sz, ss]
   refine zE (zA ?_)
   refine zM (n := 2) ?_
   refine wp_seq ?_
   refine zB 1 [.q (.bool true)] (sB H13) ?ho11 ?he11
   case ho11 => exact ag trivial
   intro J w14 l hM hl
   have H14 := zP H13 hM.below
   clear hM hl l H13 J
   refine rN (wp_seq ?_)
   refine wp_cond_true rfl (wp_skip ?_)
   refine zA (wp_seq (wp_block ?_))
   refine zB 3 [.q (.agg (G1 g tn (en u) (en b)).toArray), .q (V [en ((tw (tw (A k))).1), en ((tw (tw (A k))).2.1), en ((tw (tw (A k))).2.2)]), .call (V [en ((tw (tw (tw (A k)))).1), en ((tw (tw (tw (A k)))).2.1), en ((tw (tw (tw (A k)))).2.2)])] (sB H14) ?ho12 ?he12
   case ho12 => exact bT 0 Ai82 As82 (bA 0 3 1 Ai124 As124 (ac (fun w' h => eC call109 (CTW.out (tw (tw (A k))) w' (h.two 3 4 rfl rfl (by decide)))) trivial))
   intro J w15 l hM hl
   have H15 := zP H14 hM.below
   clear hM hl l H14 J
   refine zF (l := [3]) rfl ?_
   refine sL 1 [en ((tw (tw (tw (A k)))).1), en ((tw (tw (tw (A k)))).2.1), en ((tw (tw (tw (A k)))).2.2)] [_, _, _, _, _, _, _] H15 o1_1 As124 fun w16 H16 => ?_
   clear H15
   refine zE (zI (zA ?_))
   refine zB 1 [.q (.int .i64 3)] (sB H16) ?ho13 ?he13
   case ho13 => exact av trivial
   intro J w17 l hM hl
   have H17 := zP H16 hM.below
   clear hM hl l H16 J
   refine zF (l := [1]) rfl ?_
   refine zG (d := 14) rfl rfl rfl rfl ?_
   simp only [Act.put, sa, sz, ss]
   refine zE (zA ?_)
   refine zM (n := 1) ?_
   refine wp_seq ?_
   refine zB 1 [.q (.bool true)] (sB H17) ?ho14 ?he14
   case ho14 => exact ag trivial
   intro J w18 l hM hl
   have H18 := zP H17 hM.below
   clear hM hl l H17 J
   refine rN (wp_seq ?_)
   refine wp_cond_true rfl (wp_skip ?_)
   refine zA (wp_seq (wp_block ?_))
   refine zB 3 [.q (.agg (G1 g tn (en u) (en b)).toArray), .q (V [en ((tw (tw (tw (A k)))).1), en ((tw (tw (tw (A k)))).2.1), en ((tw (tw (tw (A k)))).2.2)]), .call (V [en ((tw (tw (tw (tw (A k))))).1), en ((tw (tw (tw (tw (A k))))).2.1), en ((tw (tw (tw (tw (A k))))).2.2)])] (sB H18) ?ho15 ?he15
   case ho15 => exact bT 0 Ai82 As82 (bA 0 3 1 Ai124 As124 (ac (fun w' h => eC call109 (CTW.out (tw (tw (tw (A k)))) w' (h.two 3 4 rfl rfl (by decide)))) trivial))
   intro J w19 l hM hl
   have H19 := zP H18 hM.below
   clear hM hl l H18 J
   refine zF (l := [3]) rfl ?_
   refine sL 1 [en ((tw (tw (tw (tw (A k))))).1), en ((tw (tw (tw (tw (A k))))).2.1), en ((tw (tw (tw (tw (A k))))).2.2)] [_, _, _, _, _, _, _] H19 o1_1 As124 fun w20 H20 => ?_
   clear H19
   refine zE (zI (zA ?_))
   refine zB 1 [.q (.int .i64 4)] (sB H20) ?ho16 ?he16
   case ho16 => exact av trivial
   intro J w21 l hM hl
   have H21 := zP H20 hM.below
   clear hM hl l H20 J
   refine zF (l := [1]) rfl ?_
   refine zG (d := 14) rfl rfl rfl rfl ?_
   simp only [Act.put, sa, sz, ss]
   refine zE (zA ?_)
   refine zM (n := 0) ?_
   refine wp_seq ?_
   refine zB 1 [.q (.bool false)] (sB H21) ?ho17 ?he17
   case ho17 => exact ag trivial
   intro J w22 l hM hl
   have H22 := zP H21 hM.below
   clear hM hl l H21 J
   refine rN (wp_seq (wp_cond_false rfl ?_))
   refine wp_exit ?_
   repeat refine zZ ?_
   refine zW ?_
   refine zA (wp_seq ?_)
   refine zB 3 [.q (.slice (some ⟨gr, 0, none⟩) 1 1), .q (.int .i64 1), .q (.int .i64 0)] (sB H22) ?ho18 ?he18
   case ho18 => exact ar (ag (ar trivial))
   intro J w23 l hM hl
   have H23 := zP H22 hM.below
   clear hM hl l H22 J
   refine rN (wp_block ?_)
   refine wp_loop_rounds 2 ?_
   refine zM (n := 1) ?_
   refine wp_seq ?_
   refine zB 1 [.q (.bool true)] (sB H23) ?ho19 ?he19
   case ho19 => exact ag trivial
   intro J w24 l hM hl
   have H24 := zP H23 hM.below
   clear hM hl l H23 J
   refine rN (wp_seq ?_)
   refine wp_cond_true rfl (wp_skip ?_)
   refine zA (wp_seq ?_)
   refine wp_block (wp_seq ?_)
   refine zB 5 [.q (.int .i64 0), .q (PT gr 0), .q (.int .u64 (wo k)), .q (.int .i64 0), .q (.int .u64 (wo k))] (sB H24) ?ho20 ?he20
   case ho20 => exact ar (ag (bC 6 Ai22 (ar (ar trivial))))
   intro J w25 l hM hl
   have H25 := zP H24 hM.below
   clear hM hl l H24 J
   refine rN (wp_seq (wp_seq ?_))
   refine zB 3 [.q (.int .u64 (wo k)), .q (.int .u64 ((dg k : Nat) : Int)), .q (.int .u64 ((dg k : Nat) : Int))] (sB H25) ?ho21 ?he21
   case ho21 => exact ar (ak (fun J => ⟨rfl, fun w' _ => by rw [← HD.out k]; exact ex_shr60 rfl rfl rfl⟩) (ar trivial))
   intro J w26 l hM hl
   have H26 := zP H25 hM.below
   clear hM hl l H25 J
   refine rN (wp_seq ?_)
   refine zB 2 [.q (.int .u64 ((dg k : Nat) : Int)), .q (.bool false)] (sB H26) ?ho22 ?he22
   case ho22 => exact ar (ak (by refine fun J => ⟨rfl, fun w' h => ?_⟩; clear h; go_simp <;> omega) trivial)
   intro J w27 l hM hl
   have H27 := zP H26 hM.below
   clear hM hl l H26 J
   refine rN (wp_cond_false rfl ?_)
   refine wp_skip (zA ?_)
   refine zB 5 [.q (.slice (some ⟨gr, 0, none⟩) 1 1), .q (.int .i64 0), .q (.int .u64 (wo k)), .q (.int .u64 (IntKind.u64.wrap (wo k * 2 ^ 4))), .q (PT gr 0)] (sB H27) ?ho23 ?he23
   case ho23 => exact ar (ar (ar (ak (fun J => ⟨rfl, fun w' _ => ex_shl4 rfl rfl rfl⟩) (ag trivial))))
   intro J w28 l hM hl
   have H28 := zP H27 hM.below
   clear hM hl l H27 J
   refine zF (l := [5]) rfl ?_
   refine sH rfl (fun h => ex_storeI h 6 rfl rfl As22 rfl rfl (Nat.le_of_ble_eq_true rfl)) 6 [_, _, _, _, _, _, (_, [Value.int .u64 (IntKind.u64.wrap (wo k * 2 ^ 4))])] H28 (Or.inl rfl) fun w29 H29 => ?_
   clear H28
   refine zE (zI (zA ?_))
   refine zB 1 [.q (.int .i64 1)] (sB H29) ?ho24 ?he24
   case ho24 => exact av trivial
   intro J w30 l hM hl
   have H30 := zP H29 hM.below
   clear hM hl l H29 J
   refine zF (l := [1]) rfl ?_
   refine zG (d := 22) rfl rfl rfl rfl ?_
   simp only [Act.put, sa, sz, ss]
   refine zE (zA ?_)
   refine zM (n := 0) ?_
   refine wp_seq ?_
   refine zB 1 [.q (.bool false)] (sB H30) ?ho25 ?he25
   case ho25 => exact ag trivial
   intro J w31 l hM hl
   have H31 := zP H30 hM.below
   clear hM hl l H30 J
   refine rN (wp_seq (wp_cond_false rfl ?_))
   refine wp_exit ?_
   repeat refine zZ ?_
   refine zW ?_
   refine zI (zA ?_)
   refine zB 1 [.q (.int .i64 ((k + 1 : Nat) : Int))] (sB H31) ?ho26 ?he26
   case ho26 => exact ak (by refine fun J => ⟨rfl, fun w' h => ?_⟩; clear h; go_simp; rw [IntKind.wrap_i64]; omega) trivial
   intro J w32 l hM hl
   have H32 := zP H31 hM.below
   clear hM hl l H31 J
   refine zF (l := [1]) rfl ?_
   refine zG (d := 12) rfl rfl rfl rfl ?_
   simp only [Act.put, sa, sz, ss]
   refine zE (zA ?_)
   exact ⟨k + 1, ⟨(slotfn [ud, ud, ud, ud, ud, ud, ud, ud, ud, .int .i64 0, .int .u64 (wo k), .int .u64 ((dg k : Nat) : Int), ud, .bool true, .int .i64 4, .bool false, .agg (G1 g tn (en u) (en b)).toArray, V [en ((tw (tw (tw (A k)))).1), en ((tw (tw (tw (A k)))).2.1), en ((tw (tw (tw (A k)))).2.2)], V [en ((tw (tw (tw (tw (A k))))).1), en ((tw (tw (tw (tw (A k))))).2.1), en ((tw (tw (tw (tw (A k))))).2.2)], .int .i64 4, .slice (some ⟨gr, 0, none⟩) 1 1, .int .i64 1, .int .i64 1, .bool false, .int .i64 0, PT gr 0, .int .u64 (wo k), .int .u64 (wo k), .int .u64 ((dg k : Nat) : Int), .int .u64 ((dg k : Nat) : Int), .bool false, s0 31, s0 32, s0 33, s0 34, s0 35, s0 36, s0 37, s0 38, s0 39, .slice (some ⟨gr, 0, none⟩) 1 1, .int .i64 0, .int .u64 (wo k), .int .u64 (IntKind.u64.wrap (wo k * 2 ^ 4)), PT gr 0, .int .i64 1, .int .i64 ((k + 1 : Nat) : Int)]), rfl, ⟨(H32.out.1).atk (by rw [HA0.out k hdz, HW.out]), H32.out.2⟩, by omega⟩, by omega⟩
  ·have hrd : True := trivial
   clear hrd
   have hdz := Nat.pos_of_ne_zero hdz
   have hlt : k < 16 := by omega
   refine wp_seq ?_
   refine zB 1 [.q (.bool true)] (sB H3) ?ho27 ?he27
   case ho27 => exact ak (by refine fun J => ⟨rfl, fun w' h => ?_⟩; clear h; go_simp <;> omega) trivial
   intro J w33 l hM hl
   have H33 := zP H3 hM.below
   clear hM hl l H3 J
   refine rN (wp_seq ?_)
   refine wp_cond_true rfl (wp_skip ?_)
   refine zA (wp_seq ?_)
   refine wp_block (wp_seq (wp_seq ?_))
   refine zB 1 [.q (.int .i64 0)] (sB H33) ?ho28 ?he28
   case ho28 => exact ar trivial
   intro J w34 l hM hl
   have H34 := zP H33 hM.below
   clear hM hl l H33 J
   refine rN (wp_block ?_)
   refine wp_loop_rounds 5 ?_
   refine zM (n := 4) ?_
   refine wp_seq ?_
   refine zB 1 [.q (.bool true)] (sB H34) ?ho29 ?he29
   case ho29 => exact ag trivial
   intro J w35 l hM hl
   have H35 := zP H34 hM.below
   clear hM hl l H34 J
   refine rN (wp_seq ?_)
   refine wp_cond_true rfl (wp_skip ?_)
   refine zA (wp_seq (wp_block ?_))
   refine zB 3 [.q (.agg (G1 g tn (en u) (en b)).toArray), .q (V [en ((A k).1), en ((A k).2.1), en ((A k).2.2)]), .call (V [en ((tw (A k)).1), en ((tw (A k)).2.1), en ((tw (A k)).2.2)])] (sB H35) ?ho30 ?he30
   case ho30 => exact bT 0 Ai82 As82 (bA 0 3 1 Ai124 As124 (ac (fun w' h => eC call109 (CTW.out (A k) w' (h.two 3 4 rfl rfl (by decide)))) trivial))
   intro J w36 l hM hl
   have H36 := zP H35 hM.below
   clear hM hl l H35 J
   refine zF (l := [3]) rfl ?_
   refine sL 1 [en ((tw (A k)).1), en ((tw (A k)).2.1), en ((tw (A k)).2.2)] [_, _, _, _, _, _, _] H36 o1_1 As124 fun w37 H37 => ?_
   clear H36
   refine zE (zI (zA ?_))
   refine zB 1 [.q (.int .i64 1)] (sB H37) ?ho31 ?he31
   case ho31 => exact av trivial
   intro J w38 l hM hl
   have H38 := zP H37 hM.below
   clear hM hl l H37 J
   refine zF (l := [1]) rfl ?_
   refine zG (d := 14) rfl rfl rfl rfl ?_
   simp only [Act.put, sa, sz, ss]
   refine zE (zA ?_)
   refine zM (n := 3) ?_
   refine wp_seq ?_
   refine zB 1 [.q (.bool true)] (sB H38) ?ho32 ?he32
   case ho32 => exact ag trivial
   intro J w39 l hM hl
   have H39 := zP H38 hM.below
   clear hM hl l H38 J
   refine rN (wp_seq ?_)
   refine wp_cond_true rfl (wp_skip ?_)
   refine zA (wp_seq (wp_block ?_))
   refine zB 3 [.q (.agg (G1 g tn (en u) (en b)).toArray), .q (V [en ((tw (A k)).1), en ((tw (A k)).2.1), en ((tw (A k)).2.2)]), .call (V [en ((tw (tw (A k))).1), en ((tw (tw (A k))).2.1), en ((tw (tw (A k))).2.2)])] (sB H39) ?ho33 ?he33
   case ho33 => exact bT 0 Ai82 As82 (bA 0 3 1 Ai124 As124 (ac (fun w' h => eC call109 (CTW.out (tw (A k)) w' (h.two 3 4 rfl rfl (by decide)))) trivial))
   intro J w40 l hM hl
   have H40 := zP H39 hM.below
   clear hM hl l H39 J
   refine zF (l := [3]) rfl ?_
   refine sL 1 [en ((tw (tw (A k))).1), en ((tw (tw (A k))).2.1), en ((tw (tw (A k))).2.2)] [_, _, _, _, _, _, _] H40 o1_1 As124 fun w41 H41 => ?_
   clear H40
   refine zE (zI (zA ?_))
   refine zB 1 [.q (.int .i64 2)] (sB H41) ?ho34 ?he34
   case ho34 => exact av trivial
   intro J w42 l hM hl
   have H42 := zP H41 hM.below
   clear hM hl l H41 J
   refine zF (l := [1]) rfl ?_
   refine zG (d := 14) rfl rfl rfl rfl ?_
   simp only [Act.put, sa, sz, ss]
   refine zE (zA ?_)
   refine zM (n := 2) ?_
   refine wp_seq ?_
   refine zB 1 [.q (.bool true)] (sB H42) ?ho35 ?he35
   case ho35 => exact ag trivial
   intro J w43 l hM hl
   have H43 := zP H42 hM.below
   clear hM hl l H42 J
   refine rN (wp_seq ?_)
   refine wp_cond_true rfl (wp_skip ?_)
   refine zA (wp_seq (wp_block ?_))
   refine zB 3 [.q (.agg (G1 g tn (en u) (en b)).toArray), .q (V [en ((tw (tw (A k))).1), en ((tw (tw (A k))).2.1), en ((tw (tw (A k))).2.2)]), .call (V [en ((tw (tw (tw (A k)))).1), en ((tw (tw (tw (A k)))).2.1), en ((tw (tw (tw (A k)))).2.2)])] (sB H43) ?ho36 ?he36
   case ho36 => exact bT 0 Ai82 As82 (bA 0 3 1 Ai124 As124 (ac (fun w' h => eC call109 (CTW.out (tw (tw (A k))) w' (h.two 3 4 rfl rfl (by decide)))) trivial))
   intro J w44 l hM hl
   have H44 := zP H43 hM.below
   clear hM hl l H43 J
   refine zF (l := [3]) rfl ?_
   refine sL 1 [en ((tw (tw (tw (A k)))).1), en ((tw (tw (tw (A k)))).2.1), en ((tw (tw (tw (A k)))).2.2)] [_, _, _, _, _, _, _] H44 o1_1 As124 fun w45 H45 => ?_
   clear H44
   refine zE (zI (zA ?_))
   refine zB 1 [.q (.int .i64 3)] (sB H45) ?ho37 ?he37
   case ho37 => exact av trivial
   intro J w46 l hM hl
   have H46 := zP H45 hM.below
   clear hM hl l H45 J
   refine zF (l := [1]) rfl ?_
   refine zG (d := 14) rfl rfl rfl rfl ?_
   simp only [Act.put, sa, sz, ss]
   refine zE (zA ?_)
   refine zM (n := 1) ?_
   refine wp_seq ?_
   refine zB 1 [.q (.bool true)] (sB H46) ?ho38 ?he38
   case ho38 => exact ag trivial
   intro J w47 l hM hl
   have H47 := zP H46 hM.below
   clear hM hl l H46 J
   refine rN (wp_seq ?_)
   refine wp_cond_true rfl (wp_skip ?_)
   refine zA (wp_seq (wp_block ?_))
   refine zB 3 [.q (.agg (G1 g tn (en u) (en b)).toArray), .q (V [en ((tw (tw (tw (A k)))).1), en ((tw (tw (tw (A k)))).2.1), en ((tw (tw (tw (A k)))).2.2)]), .call (V [en ((tw (tw (tw (tw (A k))))).1), en ((tw (tw (tw (tw (A k))))).2.1), en ((tw (tw (tw (tw (A k))))).2.2)])] (sB H47) ?ho39 ?he39
   case ho39 => exact bT 0 Ai82 As82 (bA 0 3 1 Ai124 As124 (ac (fun w' h => eC call109 (CTW.out (tw (tw (tw (A k)))) w' (h.two 3 4 rfl rfl (by decide)))) trivial))
   intro J w48 l hM hl
   have H48 := zP H47 hM.below
   clear hM hl l H47 J
   refine zF (l := [3]) rfl ?_
   refine sL 1 [en ((tw (tw (tw (tw (A k))))).1), en ((tw (tw (tw (tw (A k))))).2.1), en ((tw (tw (tw (tw (A k))))).2.2)] [_, _, _, _, _, _, _] H48 o1_1 As124 fun w49 H49 => ?_
   clear H48
   refine zE (zI (zA ?_))
   refine zB 1 [.q (.int .i64 4)] (sB H49) ?ho40 ?he40
   case ho40 => exact av trivial
   intro J w50 l hM hl
   have H50 := zP H49 hM.below
   clear hM hl l H49 J
   refine zF (l := [1]) rfl ?_
   refine zG (d := 14) rfl rfl rfl rfl ?_
   simp only [Act.put, sa, sz, ss]
   refine zE (zA ?_)
   refine zM (n := 0) ?_
   refine wp_seq ?_
   refine zB 1 [.q (.bool false)] (sB H50) ?ho41 ?he41
   case ho41 => exact ag trivial
   intro J w51 l hM hl
   have H51 := zP H50 hM.below
   clear hM hl l H50 J
   refine rN (wp_seq (wp_cond_false rfl ?_))
   refine wp_exit ?_
   repeat refine zZ ?_
   refine zW ?_
   refine zA (wp_seq ?_)
   refine zB 3 [.q (.slice (some ⟨gr, 0, none⟩) 1 1), .q (.int .i64 1), .q (.int .i64 0)] (sB H51) ?ho42 ?he42
   case ho42 => exact ar (ag (ar trivial))
   intro J w52 l hM hl
   have H52 := zP H51 hM.below
   clear hM hl l H51 J
   refine rN (wp_block ?_)
   refine wp_loop_rounds 2 ?_
   refine zM (n := 1) ?_
   refine wp_seq ?_
   refine zB 1 [.q (.bool true)] (sB H52) ?ho43 ?he43
   case ho43 => exact ag trivial
   intro J w53 l hM hl
   have H53 := zP H52 hM.below
   clear hM hl l H52 J
   refine rN (wp_seq ?_)
   refine wp_cond_true rfl (wp_skip ?_)
   refine zA (wp_seq ?_)
   refine wp_block (wp_seq ?_)
   refine zB 5 [.q (.int .i64 0), .q (PT gr 0), .q (.int .u64 (wo k)), .q (.int .i64 0), .q (.int .u64 (wo k))] (sB H53) ?ho44 ?he44
   case ho44 => exact ar (ag (bC 6 Ai22 (ar (ar trivial))))
   intro J w54 l hM hl
   have H54 := zP H53 hM.below
   clear hM hl l H53 J
   refine rN (wp_seq (wp_seq ?_))
   refine zB 3 [.q (.int .u64 (wo k)), .q (.int .u64 ((dg k : Nat) : Int)), .q (.int .u64 ((dg k : Nat) : Int))] (sB H54) ?ho45 ?he45
   case ho45 => exact ar (ak (fun J => ⟨rfl, fun w' _ => by rw [← HD.out k]; exact ex_shr60 rfl rfl rfl⟩) (ar trivial))
   intro J w55 l hM hl
   have H55 := zP H54 hM.below
   clear hM hl l H54 J
   refine rN (wp_seq ?_)
   refine zB 2 [.q (.int .u64 ((dg k : Nat) : Int)), .q (.bool true)] (sB H55) ?ho46 ?he46
   case ho46 => exact ar (ak (by refine fun J => ⟨rfl, fun w' h => ?_⟩; clear h; go_simp <;> omega) trivial)
   intro J w56 l hM hl
   have H56 := zP H55 hM.below
   clear hM hl l H55 J
   refine rN (wp_cond_true rfl ?_)
   refine zR 9 [.q (.agg (G1 g tn (en u) (en b)).toArray), .q (V [en ((tw (tw (tw (tw (A k))))).1), en ((tw (tw (tw (tw (A k))))).2.1), en ((tw (tw (tw (tw (A k))))).2.2)]), .q (.slice (some ⟨gt, 0, none⟩) 1 1), .q (.int .i64 0), .q (.int .u64 ((dg k : Nat) : Int)), .q (PT gt 0), .q (PT gt (6 * (3 * (dg k)))), .q (V [f (3 * dg k), f (3 * dg k + 1), f (3 * dg k + 2)]), .call (V [en ((tg (tw (tw (tw (tw (A k))))) (dg k)).1), en ((tg (tw (tw (tw (tw (A k))))) (dg k)).2.1), en ((tg (tw (tw (tw (tw (A k))))) (dg k)).2.2)])] (sB H56) ?ho47 ?he47
   case ho47 => exact bT 0 Ai82 As82 (bA 0 3 1 Ai124 As124 (ar (ar (ar (ag (ak (fun J => ⟨rfl, fun w' _ => ex_idxTB1 rfl rfl rfl (HDL.out _)⟩) (aq (fun w' h => ex_loadA (i := 3 * (dg k)) (k := 3) h 5 rfl rfl rfl Ai124 As124 (tb1_ld f (HDL.out k)) rfl) (ac (fun w' h => eC call88 (CTG.out (tw (tw (tw (tw (A k))))) _ (HDL.out k) w' (h.two 3 4 rfl rfl (by decide)))) trivial))))))))
   intro J w57 l hM hl
   have H57 := zP H56 hM.below
   clear hM hl l H56 J
   refine zF (l := [9]) rfl ?_
   refine sL 1 [en ((tg (tw (tw (tw (tw (A k))))) (dg k)).1), en ((tg (tw (tw (tw (tw (A k))))) (dg k)).2.1), en ((tg (tw (tw (tw (tw (A k))))) (dg k)).2.2)] [_, _, _, _, _, _, _] H57 o1_1 As124 fun w58 H58 => ?_
   clear H57
   refine zE (zA ?_)
   refine zB 5 [.q (.slice (some ⟨gr, 0, none⟩) 1 1), .q (.int .i64 0), .q (.int .u64 (wo k)), .q (.int .u64 (IntKind.u64.wrap (wo k * 2 ^ 4))), .q (PT gr 0)] (sB H58) ?ho48 ?he48
   case ho48 => exact ar (ar (ar (ak (fun J => ⟨rfl, fun w' _ => ex_shl4 rfl rfl rfl⟩) (ag trivial))))
   intro J w59 l hM hl
   have H59 := zP H58 hM.below
   clear hM hl l H58 J
   refine zF (l := [5]) rfl ?_
   refine sH rfl (fun h => ex_storeI h 6 rfl rfl As22 rfl rfl (Nat.le_of_ble_eq_true rfl)) 6 [_, _, _, _, _, _, (_, [Value.int .u64 (IntKind.u64.wrap (wo k * 2 ^ 4))])] H59 (Or.inl rfl) fun w60 H60 => ?_
   clear H59
   refine zE (zI (zA ?_))
   refine zB 1 [.q (.int .i64 1)] (sB H60) ?ho49 ?he49
   case ho49 => exact av trivial
   intro J w61 l hM hl
   have H61 := zP H60 hM.below
   clear hM hl l H60 J
   refine zF (l := [1]) rfl ?_
   refine zG (d := 22) rfl rfl rfl rfl ?_
   simp only [Act.put, sa, sz, ss]
   refine zE (zA ?_)
   refine zM (n := 0) ?_
   refine wp_seq ?_
   refine zB 1 [.q (.bool false)] (sB H61) ?ho50 ?he50
   case ho50 => exact ag trivial
   intro J w62 l hM hl
   have H62 := zP H61 hM.below
   clear hM hl l H61 J
   refine rN (wp_seq (wp_cond_false rfl ?_))
   refine wp_exit ?_
   repeat refine zZ ?_
   refine zW ?_
   refine zI (zA ?_)
   refine zB 1 [.q (.int .i64 ((k + 1 : Nat) : Int))] (sB H62) ?ho51 ?he51
   case ho51 => exact ak (by refine fun J => ⟨rfl, fun w' h => ?_⟩; clear h; go_simp; rw [IntKind.wrap_i64]; omega) trivial
   intro J w63 l hM hl
   have H63 := zP H62 hM.below
   clear hM hl l H62 J
   refine zF (l := [1]) rfl ?_
   refine zG (d := 12) rfl rfl rfl rfl ?_
   simp only [Act.put, sa, sz, ss]
   refine zE (zA ?_)
   exact ⟨k + 1, ⟨(slotfn [ud, ud, ud, ud, ud, ud, ud, ud, ud, .int .i64 0, .int .u64 (wo k), .int .u64 ((dg k : Nat) : Int), ud, .bool true, .int .i64 4, .bool false, .agg (G1 g tn (en u) (en b)).toArray, V [en ((tw (tw (tw (A k)))).1), en ((tw (tw (tw (A k)))).2.1), en ((tw (tw (tw (A k)))).2.2)], V [en ((tw (tw (tw (tw (A k))))).1), en ((tw (tw (tw (tw (A k))))).2.1), en ((tw (tw (tw (tw (A k))))).2.2)], .int .i64 4, .slice (some ⟨gr, 0, none⟩) 1 1, .int .i64 1, .int .i64 1, .bool false, .int .i64 0, PT gr 0, .int .u64 (wo k), .int .u64 (wo k), .int .u64 ((dg k : Nat) : Int), .int .u64 ((dg k : Nat) : Int), .bool true, .agg (G1 g tn (en u) (en b)).toArray, V [en ((tw (tw (tw (tw (A k))))).1), en ((tw (tw (tw (tw (A k))))).2.1), en ((tw (tw (tw (tw (A k))))).2.2)], .slice (some ⟨gt, 0, none⟩) 1 1, .int .i64 0, .int .u64 ((dg k : Nat) : Int), PT gt 0, PT gt (6 * (3 * (dg k))), V [f (3 * dg k), f (3 * dg k + 1), f (3 * dg k + 2)], V [en ((tg (tw (tw (tw (tw (A k))))) (dg k)).1), en ((tg (tw (tw (tw (tw (A k))))) (dg k)).2.1), en ((tg (tw (tw (tw (tw (A k))))) (dg k)).2.2)], .slice (some ⟨gr, 0, none⟩) 1 1, .int .i64 0, .int .u64 (wo k), .int .u64 (IntKind.u64.wrap (wo k * 2 ^ 4)), PT gr 0, .int .i64 1, .int .i64 ((k + 1 : Nat) : Int)]), rfl, ⟨(H63.out.1).atk (by rw [HA1.out k hdz, HW.out]), H63.out.2⟩, by omega⟩, by omega⟩
 have hk16 : k = 16 := by omega
 subst hk16
 refine wp_seq ?_
 refine zB 1 [.q (.bool false)] (sB H3) ?ho52 ?he52
 case ho52 => exact ak (by refine fun J => ⟨rfl, fun w' h => ?_⟩; clear h; go_simp <;> omega) trivial
 intro J w64 l hM hl
 have H64 := zP H3 hM.below
 clear hM hl l H3 J
 refine rN (wp_seq (wp_cond_false rfl ?_))
 refine wp_exit ?_
 repeat refine zZ ?_
 refine zW ?_
 refine zA (wp_seq ?_)
 refine zB 1 [.q (V [en ((A 16).1), en ((A 16).2.1), en ((A 16).2.2)])] (sB H64) ?ho53 ?he53
 case ho53 => exact bA 0 3 1 Ai124 As124 trivial
 intro J w65 l hM hl
 have H65 := zP H64 hM.below
 clear hM hl l H64 J
 refine zF (l := [1]) rfl ?_
 refine sL 2 [en ((A 16).1), en ((A 16).2.1), en ((A 16).2.2)] [_, _, _, _, _, _, _] H65 o1_2 As124 fun w66 H66 => ?_
 clear H65
 refine zE (zA (wp_ret ?_))
 repeat (first | refine zL ?_ | refine zH ?_)
 have hf0 := cel_var (k := 3) H66.out.1 2 rfl Ai124 As124 rfl
 refine bodyPost_ret (v := V [en ((A 16).1), en ((A 16).2.1), en ((A 16).2.2)]) (by simp [results, Tryz.results121, asAddr, hf0]) rfl ?_
 exact ⟨rfl, H66.out.1.one 6 rfl, H66.out.2⟩
end Rg
end Go.Proofs.YtmanelnacifgcaaGreatDoor
end
