/- Texts of the proof, joined. -/
import Derived.Test.YtaomlijondiaoaaGreatDoorP5
set_option maxRecDepth 100000
section
namespace Go.Proofs.YtaomlijondiaoaaGreatDoor
open Go.RowKit
namespace Rg
set_option maxHeartbeats 1000000 in
theorem add2_gen (a0 a1 b0 b1 m0 m1 q0 q1 r0 r1 : Nat)
  (c0 : ∀ w, Calls Tryz.prog 142 #[V [a0, a1]] w (Rt w (V [m0, m1])))
  (c1 : ∀ w, Calls Tryz.prog 142 #[V [b0, b1]] w (Rt w (V [q0, q1])))
  (c2 : ∀ w, Calls Tryz.prog 143 #[N m0, N q0] w (Rt w (N r0)))
  (c3 : ∀ w, Calls Tryz.prog 143 #[N m1, N q1] w (Rt w (N r1))) (w : World) :
  Calls Tryz.prog 103 #[V [a0, a1], V [b0, b1]] w (Rt w (V [r0, r1])) := by
 have H0 : Hid (_ ∧ _) := ⟨Mm.nil w, Below.refl w.heap.size w⟩
 have C0 : Hid _ := c0
 have C1 : Hid _ := c1
 have C2 : Hid _ := c2
 have C3 : Hid _ := c3
 clear c0 c1 c2 c3
 go_enter Tryz.func103, Tryz.ntmps103
 refine wp_seq ?_
 refine zD 3 [.made (cel [a0, a1]) 40, .made (cel [b0, b1]) 40, .made (cel [0, 0]) 40] (sB H0) ?ho1 ?he1
 case ho1 => exact ak (fun γ => ⟨rfl, fun w' => ex_boxA rfl rfl⟩) (ak (fun γ => ⟨rfl, fun w' => ex_boxA rfl rfl⟩) (ak (fun γ => ⟨rfl, fun w' => ex_madeE2 rfl⟩) trivial))
 intro γ w1 l hM hl
 have H1 : Hid (Mm w1 [(γ 0, cel [a0, a1]), (γ 1, cel [b0, b1]), (γ 2, cel [0, 0])] ∧ _) := zT H0 hM (Nat.le_refl _) hl [0, 1, 2] rfl (by decide)
 have o1_0 := zQ H0 hM (Nat.le_refl _) hl (i := 0) rfl
 have o1_1 := zQ H0 hM (Nat.le_refl _) hl (i := 1) rfl
 have o1_2 := zQ H0 hM (Nat.le_refl _) hl (i := 2) rfl
 clear hM hl l
 generalize γ 0 = γ1_0 at H1 o1_0 ⊢
 generalize γ 1 = γ1_1 at H1 o1_1 ⊢
 generalize γ 2 = γ1_2 at H1 o1_2 ⊢
 clear γ
 refine zG rfl (zA (wp_seq ?_))
 refine walk_put (by kernel_rfl) 4 [] [.quiet (V [a0, a1]), .call (V [m0, m1]), .quiet (V [b0, b1]), .call (V [q0, q1])] _ ?pre2 ?F2 _ ?hpre2 (fun γ => ?hF2) (by kernel_rfl) rfl trivial (sB H1) ?ho2 ?hla2 ?he2
 case hpre2 => simp only [tk, tz]; rfl
 case hF2 => simp only [fill, Kind.val, Act.put, sa, sz, ss]; rfl
 case ho2 =>
  refine aq (fun w' h => lA 0 2 h 0 Tryz.isAgg40 Tryz.sizeOf40) ?_
  refine ak (fun γ => ⟨rfl, fun w' h => ⟨142, #[V [a0, a1]], zC rfl call142 rfl (zY rfl), C0.out w'⟩⟩) ?_
  refine aq (fun w' h => lA 0 2 h 1 Tryz.isAgg40 Tryz.sizeOf40) ?_
  refine ak (fun γ => ⟨rfl, fun w' h => ⟨142, #[V [b0, b1]], zC rfl call142 rfl (zY rfl), C1.out w'⟩⟩) ?_
  exact trivial
 case hla2 => exact trivial
 intro γ w2 l hM hl
 have H2 := keepB H1 hM.below
 clear hM hl l H1 γ
 refine ⟨_, zV (i := 0) (ms := [m0, m1]) H2.out.1 0 rfl rfl rfl rfl Tryz.sizeOf40 (Nat.le_of_ble_eq_true rfl), ?_⟩
 have H3 : Hid (Mm (w2.setCells γ1_0 (6 * 0) (cel [m0, m1])) [(γ1_0, cel [m0, m1]), (γ1_1, cel [b0, b1]), (γ1_2, cel [0, 0])] ∧ Below w.heap.size w (w2.setCells γ1_0 (6 * 0) (cel [m0, m1]))) := ⟨by
  have h := H2.out.1.put 0 (off := 6 * 0) (vs := cel [m0, m1]) rfl (by simp only [cel_len]; exact Nat.le_of_ble_eq_true rfl)
  rw [zW] at h
  exact h, zF _ o1_0.out _ _ _ H2.out.2⟩
 clear H2
 generalize hgw : World.setCells _ _ _ _ = w3 at H3 ⊢
 clear hgw
 refine zJ (l := [5]) rfl ?_
 refine zI rfl rfl rfl (zV (i := 0) (ms := [q0, q1]) H3.out.1 1 rfl rfl rfl rfl Tryz.sizeOf40 (Nat.le_of_ble_eq_true rfl)) ?_
 have H4 : Hid (Mm (w3.setCells γ1_1 (6 * 0) (cel [q0, q1])) [(γ1_0, cel [m0, m1]), (γ1_1, cel [q0, q1]), (γ1_2, cel [0, 0])] ∧ Below w.heap.size w (w3.setCells γ1_1 (6 * 0) (cel [q0, q1]))) := ⟨by
  have h := H3.out.1.put 1 (off := 6 * 0) (vs := cel [q0, q1]) rfl (by simp only [cel_len]; exact Nat.le_of_ble_eq_true rfl)
  rw [zW] at h
  exact h, zF _ o1_1.out _ _ _ H3.out.2⟩
 clear H3
 generalize hgw : World.setCells _ _ _ _ = w4 at H4 ⊢
 clear hgw
 refine zH (zA (wp_seq ?_))
 refine yC 11 [.quiet (PT γ1_0 0), .quiet (N m0), .quiet (PT γ1_1 0), .quiet (N q0), .call (N r0), .quiet (PT γ1_0 6), .quiet (N m1), .quiet (PT γ1_1 6), .quiet (N q1), .call (N r1), .quiet (V [r0, r1])] H4 ?ho3 ?he3
 case ho3 => exact ag (aq (fun w' h => zZ (i := 0) h 0 rfl rfl rfl rfl) (ag (aq (fun w' h => zZ (i := 0) h 1 rfl rfl rfl rfl) (ac (fun w' h => ⟨143, #[N m0, N q0], zC rfl call143 rfl (zY rfl), C2.out w'⟩) (ag (aq (fun w' h => zZ (i := 1) h 0 rfl rfl rfl rfl) (ag (aq (fun w' h => zZ (i := 1) h 1 rfl rfl rfl rfl) (ac (fun w' h => ⟨143, #[N m1, N q1], zC rfl call143 rfl (zY rfl), C3.out w'⟩) (ak (fun γ => ⟨rfl, fun w' _ => ex_buildE2 rfl rfl rfl⟩) trivial))))))))))
 intro _ w5 H5
 clear H4
 refine zJ (l := [11]) rfl ?_
 refine zI rfl rfl rfl (zV (i := 0) (ms := [r0, r1]) H5.out.1 2 rfl rfl rfl rfl Tryz.sizeOf40 (Nat.le_of_ble_eq_true rfl)) ?_
 have H6 : Hid (Mm (w5.setCells γ1_2 (6 * 0) (cel [r0, r1])) [(γ1_0, cel [m0, m1]), (γ1_1, cel [q0, q1]), (γ1_2, cel [r0, r1])] ∧ Below w.heap.size w (w5.setCells γ1_2 (6 * 0) (cel [r0, r1]))) := ⟨by
  have h := H5.out.1.put 2 (off := 6 * 0) (vs := cel [r0, r1]) rfl (by simp only [cel_len]; exact Nat.le_of_ble_eq_true rfl)
  rw [zW] at h
  exact h, zF _ o1_2.out _ _ _ H5.out.2⟩
 clear H5
 generalize hgw : World.setCells _ _ _ _ = w6 at H6 ⊢
 clear hgw
 refine zH (zA (wp_ret ?_))
 repeat (first | refine zN ?_ | refine zL ?_)
 have hf0 := cel_var (k := 2) H6.out.1 2 rfl Tryz.isAgg40 Tryz.sizeOf40 rfl
 refine bodyPost_ret (v := V [r0, r1]) (by simp [results, Tryz.results103, asAddr, hf0]) rfl ?_
 exact ⟨rfl, H6.out.2⟩
set_option maxHeartbeats 1000000 in
theorem sub2_gen (a0 a1 b0 b1 m0 m1 q0 q1 r0 r1 : Nat)
  (c0 : ∀ w, Calls Tryz.prog 142 #[V [a0, a1]] w (Rt w (V [m0, m1])))
  (c1 : ∀ w, Calls Tryz.prog 142 #[V [b0, b1]] w (Rt w (V [q0, q1])))
  (c2 : ∀ w, Calls Tryz.prog 144 #[N m0, N q0] w (Rt w (N r0)))
  (c3 : ∀ w, Calls Tryz.prog 144 #[N m1, N q1] w (Rt w (N r1))) (w : World) :
  Calls Tryz.prog 104 #[V [a0, a1], V [b0, b1]] w (Rt w (V [r0, r1])) := by
 have H0 : Hid (_ ∧ _) := ⟨Mm.nil w, Below.refl w.heap.size w⟩
 have C0 : Hid _ := c0
 have C1 : Hid _ := c1
 have C2 : Hid _ := c2
 have C3 : Hid _ := c3
 clear c0 c1 c2 c3
 go_enter Tryz.func104, Tryz.ntmps104
 refine wp_seq ?_
 refine zD 3 [.made (cel [a0, a1]) 40, .made (cel [b0, b1]) 40, .made (cel [0, 0]) 40] (sB H0) ?ho1 ?he1
 case ho1 => exact ak (fun γ => ⟨rfl, fun w' => ex_boxA rfl rfl⟩) (ak (fun γ => ⟨rfl, fun w' => ex_boxA rfl rfl⟩) (ak (fun γ => ⟨rfl, fun w' => ex_madeE2 rfl⟩) trivial))
 intro γ w1 l hM hl
 have H1 : Hid (Mm w1 [(γ 0, cel [a0, a1]), (γ 1, cel [b0, b1]), (γ 2, cel [0, 0])] ∧ _) := zT H0 hM (Nat.le_refl _) hl [0, 1, 2] rfl (by decide)
 have o1_0 := zQ H0 hM (Nat.le_refl _) hl (i := 0) rfl
 have o1_1 := zQ H0 hM (Nat.le_refl _) hl (i := 1) rfl
 have o1_2 := zQ H0 hM (Nat.le_refl _) hl (i := 2) rfl
 clear hM hl l
 generalize γ 0 = γ1_0 at H1 o1_0 ⊢
 generalize γ 1 = γ1_1 at H1 o1_1 ⊢
 generalize γ 2 = γ1_2 at H1 o1_2 ⊢
 clear γ
 refine zG rfl (zA (wp_seq ?_))
 refine walk_put (by kernel_rfl) 4 [] [.quiet (V [a0, a1]), .call (V [m0, m1]), .quiet (V [b0, b1]), .call (V [q0, q1])] _ ?pre2 ?F2 _ ?hpre2 (fun γ => ?hF2) (by kernel_rfl) rfl trivial (sB H1) ?ho2 ?hla2 ?he2
 case hpre2 => simp only [tk, tz]; rfl
 case hF2 => simp only [fill, Kind.val, Act.put, sa, sz, ss]; rfl
 case ho2 =>
  refine aq (fun w' h => lA 0 2 h 0 Tryz.isAgg40 Tryz.sizeOf40) ?_
  refine ak (fun γ => ⟨rfl, fun w' h => ⟨142, #[V [a0, a1]], zC rfl call142 rfl (zY rfl), C0.out w'⟩⟩) ?_
  refine aq (fun w' h => lA 0 2 h 1 Tryz.isAgg40 Tryz.sizeOf40) ?_
  refine ak (fun γ => ⟨rfl, fun w' h => ⟨142, #[V [b0, b1]], zC rfl call142 rfl (zY rfl), C1.out w'⟩⟩) ?_
  exact trivial
 case hla2 => exact trivial
 intro γ w2 l hM hl
 have H2 := keepB H1 hM.below
 clear hM hl l H1 γ
 refine ⟨_, zV (i := 0) (ms := [m0, m1]) H2.out.1 0 rfl rfl rfl rfl Tryz.sizeOf40 (Nat.le_of_ble_eq_true rfl), ?_⟩
 have H3 : Hid (Mm (w2.setCells γ1_0 (6 * 0) (cel [m0, m1])) [(γ1_0, cel [m0, m1]), (γ1_1, cel [b0, b1]), (γ1_2, cel [0, 0])] ∧ Below w.heap.size w (w2.setCells γ1_0 (6 * 0) (cel [m0, m1]))) := ⟨by
  have h := H2.out.1.put 0 (off := 6 * 0) (vs := cel [m0, m1]) rfl (by simp only [cel_len]; exact Nat.le_of_ble_eq_true rfl)
  rw [zW] at h
  exact h, zF _ o1_0.out _ _ _ H2.out.2⟩
 clear H2
 generalize hgw : World.setCells _ _ _ _ = w3 at H3 ⊢
 clear hgw
 refine zJ (l := [5]) rfl ?_
 refine zI rfl rfl rfl (zV (i := 0) (ms := [q0, q1]) H3.out.1 1 rfl rfl rfl rfl Tryz.sizeOf40 (Nat.le_of_ble_eq_true rfl)) ?_
 have H4 : Hid (Mm (w3.setCells γ1_1 (6 * 0) (cel [q0, q1])) [(γ1_0, cel [m0, m1]), (γ1_1, cel [q0, q1]), (γ1_2, cel [0, 0])] ∧ Below w.heap.size w (w3.setCells γ1_1 (6 * 0) (cel [q0, q1]))) := ⟨by
  have h := H3.out.1.put 1 (off := 6 * 0) (vs := cel [q0, q1]) rfl (by simp only [cel_len]; exact Nat.le_of_ble_eq_true rfl)
  rw [zW] at h
  exact h, zF _ o1_1.out _ _ _ H3.out.2⟩
 clear H3
 generalize hgw : World.setCells _ _ _ _ = w4 at H4 ⊢
 clear hgw
 refine zH (zA (wp_seq ?_))
 refine yC 11 [.quiet (PT γ1_0 0), .quiet (N m0), .quiet (PT γ1_1 0), .quiet (N q0), .call (N r0), .quiet (PT γ1_0 6), .quiet (N m1), .quiet (PT γ1_1 6), .quiet (N q1), .call (N r1), .quiet (V [r0, r1])] H4 ?ho3 ?he3
 case ho3 => exact ag (aq (fun w' h => zZ (i := 0) h 0 rfl rfl rfl rfl) (ag (aq (fun w' h => zZ (i := 0) h 1 rfl rfl rfl rfl) (ac (fun w' h => ⟨144, #[N m0, N q0], zC rfl call144 rfl (zY rfl), C2.out w'⟩) (ag (aq (fun w' h => zZ (i := 1) h 0 rfl rfl rfl rfl) (ag (aq (fun w' h => zZ (i := 1) h 1 rfl rfl rfl rfl) (ac (fun w' h => ⟨144, #[N m1, N q1], zC rfl call144 rfl (zY rfl), C3.out w'⟩) (ak (fun γ => ⟨rfl, fun w' _ => ex_buildE2 rfl rfl rfl⟩) trivial))))))))))
 intro _ w5 H5
 clear H4
 refine zJ (l := [11]) rfl ?_
 refine zI rfl rfl rfl (zV (i := 0) (ms := [r0, r1]) H5.out.1 2 rfl rfl rfl rfl Tryz.sizeOf40 (Nat.le_of_ble_eq_true rfl)) ?_
 have H6 : Hid (Mm (w5.setCells γ1_2 (6 * 0) (cel [r0, r1])) [(γ1_0, cel [m0, m1]), (γ1_1, cel [q0, q1]), (γ1_2, cel [r0, r1])] ∧ Below w.heap.size w (w5.setCells γ1_2 (6 * 0) (cel [r0, r1]))) := ⟨by
  have h := H5.out.1.put 2 (off := 6 * 0) (vs := cel [r0, r1]) rfl (by simp only [cel_len]; exact Nat.le_of_ble_eq_true rfl)
  rw [zW] at h
  exact h, zF _ o1_2.out _ _ _ H5.out.2⟩
 clear H5
 generalize hgw : World.setCells _ _ _ _ = w6 at H6 ⊢
 clear hgw
 refine zH (zA (wp_ret ?_))
 repeat (first | refine zN ?_ | refine zL ?_)
 have hf0 := cel_var (k := 2) H6.out.1 2 rfl Tryz.isAgg40 Tryz.sizeOf40 rfl
 refine bodyPost_ret (v := V [r0, r1]) (by simp [results, Tryz.results104, asAddr, hf0]) rfl ?_
 exact ⟨rfl, H6.out.2⟩
set_option maxHeartbeats 1000000 in
theorem negated_gen (a r : Nat)
  (c0 : ∀ w, Calls Tryz.prog 144 #[N 0, N a] w (Rt w (N r))) (w : World) :
  Calls Tryz.prog 148 #[N a] w (Rt w (N r)) := by
 have H0 : Hid (_ ∧ _) := ⟨Mm.nil w, Below.refl w.heap.size w⟩
 have C0 : Hid _ := c0
 clear c0
 go_enter Tryz.func148, Tryz.ntmps148
 refine wp_seq ?_
 refine zD 2 [.made (zB a) 24, .made zero6 24] (sB H0) ?ho1 ?he1
 case ho1 => exact ak (fun γ => ⟨rfl, fun w' => ex_box6 rfl rfl⟩) (ak (fun γ => ⟨rfl, fun w' => zK rfl⟩) trivial)
 intro γ w1 l hM hl
 have H1 : Hid (Mm w1 [(γ 0, zB a), (γ 1, zero6)] ∧ _) := zT H0 hM (Nat.le_refl _) hl [0, 1] rfl (by decide)
 have o1_0 := zQ H0 hM (Nat.le_refl _) hl (i := 0) rfl
 have o1_1 := zQ H0 hM (Nat.le_refl _) hl (i := 1) rfl
 clear hM hl l
 generalize γ 0 = γ1_0 at H1 o1_0 ⊢
 generalize γ 1 = γ1_1 at H1 o1_1 ⊢
 clear γ
 refine zG rfl (zA (wp_seq ?_))
 refine zE 3 [.quiet (N 0), .quiet (N a), .call (N r)] H1 ?ho2 ?he2
 case ho2 => exact ak (by refine fun γ => ⟨rfl, fun w' h => ?_⟩; clear h; exact ex_zero6 rfl) (aq (fun w' h => l6 h 0) (ac (fun w' h => ⟨144, #[N 0, N a], zC rfl call144 rfl (zY rfl), C0.out w'⟩) trivial))
 intro _ w2 H2
 clear H1
 refine zJ (l := [3]) rfl ?_
 refine zI rfl rfl rfl (zR H2.out.1 1 rfl rfl rfl rfl (Nat.le_of_ble_eq_true rfl)) ?_
 have H3 : Hid (Mm (w2.setCells γ1_1 0 (zB r)) [(γ1_0, zB a), (γ1_1, zB r)] ∧ Below w.heap.size w (w2.setCells γ1_1 0 (zB r))) := ⟨H2.out.1.put 1 (off := 0) (vs := zB r) rfl (Nat.le_of_ble_eq_true rfl), zF _ o1_1.out _ _ _ H2.out.2⟩
 clear H2
 generalize hgw : World.setCells _ _ _ _ = w3 at H3 ⊢
 clear hgw
 refine zH (zA (wp_ret ?_))
 repeat (first | refine zN ?_ | refine zL ?_)
 have c0 := H3.out.1.get 1 rfl 0 rfl
 have c1 := H3.out.1.get 1 rfl 1 rfl
 have c2 := H3.out.1.get 1 rfl 2 rfl
 have c3 := H3.out.1.get 1 rfl 3 rfl
 have c4 := H3.out.1.get 1 rfl 4 rfl
 have c5 := H3.out.1.get 1 rfl 5 rfl
 refine bodyPost_ret (v := N r) (by simp [results, Tryz.results148, go_sem, *]) rfl ?_
 exact ⟨rfl, H3.out.2⟩
set_option maxHeartbeats 1000000 in
theorem mulT_gen (n a0 a1 b0 b1 m0 m1 q0 q1 r0 r1 : Nat)
  (c0 : ∀ w, Calls Tryz.prog 145 #[] w fun e w' => Below w.heap.size w w' ∧ ∃ g, e = .returned (.agg #[PT g 0]) ∧ w.heap.size ≤ g ∧ g < w'.heap.size ∧ Blk w' g (zO n))
  (c1 : ∀ w, Calls Tryz.prog 142 #[V [a0, a1]] w (Rt w (V [m0, m1])))
  (c2 : ∀ w, Calls Tryz.prog 142 #[V [b0, b1]] w (Rt w (V [q0, q1])))
  (c3 : ∀ g w, Mm w [(g, zO n)] → Calls Tryz.prog 146 #[.agg #[PT g 0], V [m0, m1], V [q0, q1]] w (Rt w (V [r0, r1]))) (w : World) :
  Calls Tryz.prog 105 #[V [a0, a1], V [b0, b1]] w (Rt w (V [r0, r1])) := by
 have H0 : Hid (_ ∧ _) := ⟨Mm.nil w, Below.refl w.heap.size w⟩
 have C0 : Hid _ := c0
 have C1 : Hid _ := c1
 have C2 : Hid _ := c2
 have C3 : Hid _ := c3
 clear c0 c1 c2 c3
 go_enter Tryz.func105, Tryz.ntmps105
 refine wp_seq ?_
 refine zD 3 [.made (cel [a0, a1]) 40, .made (cel [b0, b1]) 40, .made (cel [0, 0]) 40] (sB H0) ?ho1 ?he1
 case ho1 => exact ak (fun γ => ⟨rfl, fun w' => ex_boxA rfl rfl⟩) (ak (fun γ => ⟨rfl, fun w' => ex_boxA rfl rfl⟩) (ak (fun γ => ⟨rfl, fun w' => ex_madeE2 rfl⟩) trivial))
 intro γ w1 l hM hl
 have H1 : Hid (Mm w1 [(γ 0, cel [a0, a1]), (γ 1, cel [b0, b1]), (γ 2, cel [0, 0])] ∧ _) := zT H0 hM (Nat.le_refl _) hl [0, 1, 2] rfl (by decide)
 have o1_0 := zQ H0 hM (Nat.le_refl _) hl (i := 0) rfl
 have o1_1 := zQ H0 hM (Nat.le_refl _) hl (i := 1) rfl
 have o1_2 := zQ H0 hM (Nat.le_refl _) hl (i := 2) rfl
 clear hM hl l
 generalize γ 0 = γ1_0 at H1 o1_0 ⊢
 generalize γ 1 = γ1_1 at H1 o1_1 ⊢
 generalize γ 2 = γ1_2 at H1 o1_2 ⊢
 clear γ
 refine zG rfl (zA (wp_seq ?_))
 refine yB 6 [.born (fun g => .agg #[PT g 0]) (zO n), .quiet (V [a0, a1]), .call (V [m0, m1]), .quiet (V [b0, b1]), .call (V [q0, q1]), .over (V [r0, r1]) 0 (zO n)] (sB H1) ?ho2 ?he2 (hL := ?hL2)
 case hL2 => exact ⟨⟨_, rfl⟩, trivial⟩
 case ho2 => exact ak (fun γ => ⟨rfl, fun w' h => ⟨145, #[], zC rfl call145 rfl (zY rfl), C0.out w'⟩⟩) (aq (fun w' h => lA 0 2 h 0 Tryz.isAgg40 Tryz.sizeOf40) (ak (fun γ => ⟨rfl, fun w' h => ⟨142, #[V [a0, a1]], zC rfl call142 rfl (zY rfl), C1.out w'⟩⟩) (aq (fun w' h => lA 0 2 h 1 Tryz.isAgg40 Tryz.sizeOf40) (ak (fun γ => ⟨rfl, fun w' h => ⟨142, #[V [b0, b1]], zC rfl call142 rfl (zY rfl), C2.out w'⟩⟩) (ak (fun γ => ⟨rfl, fun u w' h0 hge h1 hb hlt => by have h := Mm.over h0 hge h1 hb hlt; exact ⟨146, #[.agg #[PT (γ 0) 0], V [m0, m1], V [q0, q1]], zC rfl call146 rfl (zY rfl), C3.out _ w' (h.one 0 rfl)⟩⟩) trivial)))))
 intro γ w2 l hM hl
 have H2 : Hid (Mm w2 [(γ 0, zO n), (γ1_0, cel [a0, a1]), (γ1_1, cel [b0, b1]), (γ1_2, cel [0, 0])] ∧ _) := zT H1 hM (Nat.le_refl _) hl [0] rfl (by decide)
 have o2_0 := zQ H1 hM (Nat.le_refl _) hl (i := 0) rfl
 clear hM hl l H1
 generalize γ 0 = γ2_0 at H2 o2_0 ⊢
 clear γ
 refine zJ (l := [6]) rfl ?_
 refine zI rfl rfl rfl (zV (i := 0) (ms := [r0, r1]) H2.out.1 3 rfl rfl rfl rfl Tryz.sizeOf40 (Nat.le_of_ble_eq_true rfl)) ?_
 have H3 : Hid (Mm (w2.setCells γ1_2 (6 * 0) (cel [r0, r1])) [(γ2_0, zO n), (γ1_0, cel [a0, a1]), (γ1_1, cel [b0, b1]), (γ1_2, cel [r0, r1])] ∧ Below w.heap.size w (w2.setCells γ1_2 (6 * 0) (cel [r0, r1]))) := ⟨by
  have h := H2.out.1.put 3 (off := 6 * 0) (vs := cel [r0, r1]) rfl (by simp only [cel_len]; exact Nat.le_of_ble_eq_true rfl)
  rw [zW] at h
  exact h, zF _ o1_2.out _ _ _ H2.out.2⟩
 clear H2
 generalize hgw : World.setCells _ _ _ _ = w3 at H3 ⊢
 clear hgw
 refine zH (zA (wp_ret ?_))
 repeat (first | refine zN ?_ | refine zL ?_)
 have hf0 := cel_var (k := 2) H3.out.1 3 rfl Tryz.isAgg40 Tryz.sizeOf40 rfl
 refine bodyPost_ret (v := V [r0, r1]) (by simp [results, Tryz.results105, asAddr, hf0]) rfl ?_
 exact ⟨rfl, H3.out.2⟩
end Rg
end Go.Proofs.YtaomlijondiaoaaGreatDoor
end
section
namespace Go.Proofs.YtaomlijondiaoaaGreatDoor
open Go.RowKit
namespace Rg
/-! Numbers by p stand for integers. -/
def pz (z : Int) : Nat := (z % (pB : Int)).toNat
theorem pBI : (0 : Int) < (pB : Int) := by have := pB_ok.pos; omega
theorem pz_cast (z : Int) : ((pz z : Nat) : Int) = z % (pB : Int) := Int.toNat_of_nonneg (Int.emod_nonneg _ (by have := pBI; omega))
theorem pz_lt (z : Int) : pz z < pB := by
 have h := pz_cast z
 have h2 := Int.emod_lt_of_pos z pBI
 omega
theorem pz_congr {x y : Int} (h : x % (pB : Int) = y % (pB : Int)) : pz x = pz y := by unfold pz; rw [h]
theorem pz_nat (n : Nat) : pz (n : Int) = n % pB := by
 have h := pz_cast (n : Int)
 rw [← Int.natCast_emod] at h
 omega
theorem pz_add (x y : Int) : pz ((pz x : Int) + (pz y : Int)) = pz (x + y) := pz_congr (by rw [pz_cast, pz_cast, ← Int.add_emod])
theorem pz_mul (x y : Int) : pz ((pz x : Int) * (pz y : Int)) = pz (x * y) := pz_congr (by rw [pz_cast, pz_cast, ← Int.mul_emod])
theorem pz_sub (x y : Int) : pz ((pz x : Int) - (pz y : Int)) = pz (x - y) := pz_congr (by rw [pz_cast, pz_cast, ← Int.sub_emod])
theorem pz_addmul (a b c d : Int) : pz ((pz a : Int) * (pz b : Int) + (pz c : Int) * (pz d : Int)) = pz (a * b + c * d) := by
 rw [← pz_add, pz_mul, pz_mul, pz_add]
theorem pz_submul (a b c d : Int) : pz ((pz a : Int) * (pz b : Int) - (pz c : Int) * (pz d : Int)) = pz (a * b - c * d) := by
 rw [← pz_sub, pz_mul, pz_mul, pz_sub]
theorem subm_pz (x y : Int) : subm pB (pz x) (pz y) = pz (x - y) := by
 have hy := pz_lt y
 rw [← pz_sub]
 unfold subm
 rw [Nat.mod_eq_of_lt hy, ← pz_nat]
 refine pz_congr ?_
 rw [show ((pz x + (pB - pz y) : Nat) : Int) = (pz x : Int) - (pz y : Int) + (pB : Int) by omega, Int.add_emod_right]
theorem nine_p : 9 * pB < big := by decide +kernel
theorem great_any (w : World) : Calls Tryz.prog 145 #[] w fun e w' => Below w.heap.size w w' ∧ ∃ g, e = .returned (.agg #[PT g 0]) ∧ w.heap.size ≤ g ∧ g < w'.heap.size ∧ Blk w' g (zO pB) :=
 great_gen pB base_pB (fun w => new_ok pB_ok w) w
/-- What rest takes: within twelve products. -/
def Wi (z : Int) : Prop := -(12 * ((pB : Int) * pB)) ≤ z ∧ z ≤ 12 * ((pB : Int) * pB)
theorem rest_num (z : Int) (h : Wi z) : (lo z + (hi z + 2 * pB) % big * big) % pB = pz z := by
 have hpos := pB_ok.pos
 have h9 := nine_p
 obtain ⟨h1, h2⟩ := h
 unfold pz
 generalize pB = p at *
 have e1 : wz z % big + (wz z / big + 2 * p) % big * big = (wz z + 2 * p * big) % bb := by
  unfold bb
  rw [Nat.mod_mul, Nat.add_mul_mod_self_right, Nat.add_mul_div_right _ _ big_pos, Nat.mul_comm big]
 have e2 : (((wz z + 2 * p * big) % bb : Nat) : Int) = z + 2 * p * big := by
  rw [Int.natCast_emod, Int.natCast_add, wz_cast, Int.natCast_mul, Int.natCast_mul, Int.emod_add_emod]
  refine Int.emod_eq_of_lt ?_ ?_
  ·have h3 : 6 * (p * p) ≤ p * big := by
    have : p * (6 * p) ≤ p * big := Nat.mul_le_mul (Nat.le_refl p) (by omega)
    rw [Nat.mul_left_comm] at this; exact this
   have h4 : 6 * ((p : Int) * p) ≤ (p : Int) * big := by
    have := Int.ofNat_le.2 h3
    simpa using this
   have h5 : ((2 : Nat) : Int) * (p : Int) * (big : Int) = 2 * ((p : Int) * big) := by rw [Int.mul_assoc]; rfl
   omega
  ·have h3 : 6 * (p * p) ≤ p * big := by
    have : p * (6 * p) ≤ p * big := Nat.mul_le_mul (Nat.le_refl p) (by omega)
    rw [Nat.mul_left_comm] at this; exact this
   have h4 : 6 * ((p : Int) * p) ≤ (p : Int) * big := by
    have := Int.ofNat_le.2 h3
    simpa using this
   have h6 : 4 * (p * big) < bb := by
    unfold bb
    rw [← Nat.mul_assoc]
    exact Nat.mul_lt_mul_of_pos_right (by omega) big_pos
   have h7 : 4 * ((p : Int) * big) < (bb : Int) := by
    have := Int.ofNat_lt.2 h6
    simpa using this
   have h5 : ((2 : Nat) : Int) * (p : Int) * (big : Int) = 2 * ((p : Int) * big) := by rw [Int.mul_assoc]; rfl
   omega
 have e3 : (((lo z + (hi z + 2 * p) % big * big) % p : Nat) : Int) = z % (p : Int) := by
  rw [e1, Int.natCast_emod, e2, show z + 2 * (p : Int) * big = z + (p : Int) * (2 * big) by rw [Int.mul_comm 2 (p : Int), Int.mul_assoc], Int.add_mul_emod_self_left]
 omega
theorem restF_any {g : Nat} (z : Int) (h : Wi z) (w : World) (hm : Mm w [(g, zO pB)]) : Calls Tryz.prog 172 #[.agg #[PT g 0], V [lo z, hi z]] w (Rt w (N (pz z))) := by
 have ok := pB_ok
 have h9 := nine_p
 have hr := rest_num z h
 have hlo : lo z < big := Nat.mod_lt _ big_pos
 have hhi : hi z < big := by
  have := wz_lt z
  unfold bb at this
  exact Nat.div_lt_of_lt_mul this
 have c1 := fun w hm => n_any (g := g) ok w hm
 have c2 := fun w => shift_up pB 1 (by decide) w
 have e2 : pB * 2 ^ 1 % big = 2 * pB := by rw [Nat.pow_one, Nat.mul_comm, Nat.mod_eq_of_lt (by omega)]
 rw [e2] at c2
 have c3 := fun w => add_any (hi z) (2 * pB) hhi (by omega) w
 have c4 := fun w hm => wide_any (g := g) ok hlo (Nat.mod_lt (hi z + 2 * pB) big_pos) w hm
 rw [hr] at c4
 exact rest_gen g pB _ _ (lo z) (hi z) _ _ _ _ c1 c2 c3 c4 w hm
theorem times2_any (a0 a1 b0 b1 : Nat) (ha : a0 + a1 < big) (hb : b0 + b1 < big) (w : World) : Calls Tryz.prog 167 #[V [a0, a1], V [b0, b1]] w (Rt w (V [lo ((a0 : Int) * b0 - (a1 : Int) * b1), hi ((a0 : Int) * b0 - (a1 : Int) * b1), lo ((a0 : Int) * b1 + (a1 : Int) * b0), hi ((a0 : Int) * b1 + (a1 : Int) * b0)])) := by
 have c8 := fun w => lessZ_any (((a0 + a1 : Nat) : Int) * ((b0 + b1 : Nat) : Int) - (a0 : Int) * b0) ((a1 : Int) * b1) w
 have e : ((a0 + a1 : Nat) : Int) * ((b0 + b1 : Nat) : Int) - (a0 : Int) * b0 - (a1 : Int) * b1 = (a0 : Int) * b1 + (a1 : Int) * b0 := by
  rw [Int.natCast_add, Int.natCast_add]
  grind
 rw [e] at c8
 exact times2_gen a0 a1 b0 b1 (a0 + a1) (b0 + b1) _ _ _ _ _ _ _ _ _ _ _ _ (fun w => timesZ_any a0 b0 (by omega) (by omega) w) (fun w => timesZ_any a1 b1 (by omega) (by omega) w) (fun w => together_any a0 a1 ha w) (fun w => together_any b0 b1 hb w) (fun w => timesZ_any (a0 + a1) (b0 + b1) ha hb w) (fun w => lessZ_any _ _ w) (fun w => lessZ_any _ _ w) c8 w
theorem mulF_any {g : Nat} (a0 a1 b0 b1 : Int) (w : World) (hm : Mm w [(g, zO pB)]) : Calls Tryz.prog 146 #[.agg #[PT g 0], V [pz a0, pz a1], V [pz b0, pz b1]] w (Rt w (V [pz (a0 * b0 - a1 * b1), pz (a0 * b1 + a1 * b0)])) := by
 have h9 := nine_p
 have la0 := pz_lt a0
 have la1 := pz_lt a1
 have lb0 := pz_lt b0
 have lb1 := pz_lt b1
 have hp : ∀ x y : Int, 0 ≤ (pz x : Int) * (pz y : Int) ∧ (pz x : Int) * (pz y : Int) ≤ (pB : Int) * pB := fun x y => by
  have h := Nat.mul_le_mul (Nat.le_of_lt (pz_lt x)) (Nat.le_of_lt (pz_lt y))
  rw [← Int.natCast_mul, ← Int.natCast_mul]
  omega
 have w0 : Wi ((pz a0 : Int) * pz b0 - (pz a1 : Int) * pz b1) := by have := hp a0 b0; have := hp a1 b1; unfold Wi; omega
 have w1 : Wi ((pz a0 : Int) * pz b1 + (pz a1 : Int) * pz b0) := by have := hp a0 b1; have := hp a1 b0; unfold Wi; omega
 have c2 := fun w hm => rest2_gen g pB (big % pB) (big * big % pB) _ _ _ _ _ _ (fun w hm => restF_any (g := g) _ w0 w hm) (fun w hm => restF_any (g := g) _ w1 w hm) w hm
 rw [pz_submul, pz_addmul] at c2
 exact mul2_gen g pB _ _ (pz a0) (pz a1) (pz b0) (pz b1) _ _ _ _ _ _ (fun w => times2_any (pz a0) (pz a1) (pz b0) (pz b1) (by omega) (by omega) w) c2 w hm
theorem left2_any (a0 a1 : Nat) (h0 : a0 < big) (h1 : a1 < big) (w : World) : Calls Tryz.prog 142 #[V [a0, a1]] w (Rt w (V [pz a0, pz a1])) := by
 rw [pz_nat, pz_nat]
 exact left2_gen a0 a1 _ _ (fun w => left_any a0 h0 w) (fun w => left_any a1 h1 w) w
theorem add2_any (a0 a1 b0 b1 : Nat) (h0 : a0 < big) (h1 : a1 < big) (k0 : b0 < big) (k1 : b1 < big) (w : World) : Calls Tryz.prog 103 #[V [a0, a1], V [b0, b1]] w (Rt w (V [pz ((a0 : Int) + b0), pz ((a1 : Int) + b1)])) := by
 have h9 := nine_p
 have s : ∀ x y : Int, ∀ w, Calls Tryz.prog 143 #[N (pz x), N (pz y)] w (Rt w (N (pz (x + y)))) := fun x y w => by
  have hx := pz_lt x
  have hy := pz_lt y
  have h := sumP_any (pz x) (pz y) (by omega) w
  rw [← pz_nat, Int.natCast_add, pz_add] at h
  exact h
 exact add2_gen a0 a1 b0 b1 _ _ _ _ _ _ (fun w => left2_any a0 a1 h0 h1 w) (fun w => left2_any b0 b1 k0 k1 w) (s _ _) (s _ _) w
theorem diffZ_any (x y : Int) (w : World) : Calls Tryz.prog 144 #[N (pz x), N (pz y)] w (Rt w (N (pz (x - y)))) := by
 have h := diffP_any (pz x) (pz y) (pz_lt x) (pz_lt y) w
 rw [subm_pz] at h
 exact h
theorem sub2_any (a0 a1 b0 b1 : Nat) (h0 : a0 < big) (h1 : a1 < big) (k0 : b0 < big) (k1 : b1 < big) (w : World) : Calls Tryz.prog 104 #[V [a0, a1], V [b0, b1]] w (Rt w (V [pz ((a0 : Int) - b0), pz ((a1 : Int) - b1)])) :=
 sub2_gen a0 a1 b0 b1 _ _ _ _ _ _ (fun w => left2_any a0 a1 h0 h1 w) (fun w => left2_any b0 b1 k0 k1 w) (fun w => diffZ_any _ _ w) (fun w => diffZ_any _ _ w) w
theorem pz_zero : pz 0 = 0 := by unfold pz; rw [Int.zero_emod]; rfl
theorem negated_any (x : Int) (w : World) : Calls Tryz.prog 148 #[N (pz x)] w (Rt w (N (pz (-x)))) := by
 have c := fun w => diffZ_any 0 x w
 rw [pz_zero, Int.zero_sub] at c
 exact negated_gen (pz x) _ c w
theorem mulT_any (a0 a1 b0 b1 : Nat) (h0 : a0 < big) (h1 : a1 < big) (k0 : b0 < big) (k1 : b1 < big) (w : World) : Calls Tryz.prog 105 #[V [a0, a1], V [b0, b1]] w (Rt w (V [pz ((a0 : Int) * b0 - (a1 : Int) * b1), pz ((a0 : Int) * b1 + (a1 : Int) * b0)])) :=
 mulT_gen pB a0 a1 b0 b1 _ _ _ _ _ _ great_any (fun w => left2_any a0 a1 h0 h1 w) (fun w => left2_any b0 b1 k0 k1 w) (fun g w hm => mulF_any (g := g) _ _ _ _ w hm) w
end Rg
end Go.Proofs.YtaomlijondiaoaaGreatDoor
end
section
namespace Go.Proofs.YtaomlijondiaoaaGreatDoor
open Go.RowKit
namespace Rg
theorem ex_madeQ {ρ : Operand → Value} {o : Oper} {w : World} (ho : o.op = .alloc 120) :
  (execOp ρ o).run Tryz.prog w = .ok (.value (.pointer (some ⟨w.heap.size, 0, none⟩))) (w.alloc (.cells ([Value.pointer none] : List Value).toArray 120)) := by
 simp only [execOp, ho]
 go_simp
theorem ex_storeQ {ρ : Operand → Value} {o : Oper} {x y : Operand} {g off g' : Nat} {cs : List Value} {w : World} {l : List (Nat × List Value)} (h : Mm w l) (k : Nat) (hk : l[k]? = some (g, cs)) (ho : o.op = .store 120 x y) (hx : ρ x = PT g off) (hy : ρ y = PT g' 0) (hc : off + 1 ≤ cs.length) :
  (execOp ρ o).run Tryz.prog w = .ok .skip (w.setCells g off [PT g' 0]) := by
 have hm := List.mem_of_getElem? hk
 have e : cs[off]? = some (cs[off]'(by omega)) := List.getElem?_eq_getElem _
 have c0 := h.cell hm e
 have f0 := h.free hm e
 clear h hm hk
 simp only [execOp, ho, hx, hy]
 go_simp
 simp [World.setCells]
theorem ex_buildFN {ρ : Operand → Value} {o : Oper} {x0 x1 x2 x3 x4 x5 : Operand} {f0 f1 f2 f3 f4 : Fn} {a0 a1 a2 a3 a4 b0 b1 b2 b3 b4 : Array Value} {u : Nat} {w : World} (ho : o.op = .build 79 #[(0, x0), (1, x1), (2, x2), (3, x3), (4, x4), (5, x5)]) (h0 : ρ x0 = .func f0 a0 b0) (h1 : ρ x1 = .func f1 a1 b1) (h2 : ρ x2 = .func f2 a2 b2) (h3 : ρ x3 = .func f3 a3 b3) (h4 : ρ x4 = .func f4 a4 b4) (h5 : ρ x5 = N u) : (execOp ρ o).run Tryz.prog w = .ok (.value (.agg ([Value.func f0 a0 b0, Value.func f1 a1 b1, Value.func f2 a2 b2, Value.func f3 a3 b3, Value.func f4 a4 b4] ++ cel [u]).toArray)) w := by
 simp only [execOp, ho, cel, List.cons_append, List.nil_append]
 go_simp
theorem ex_buildFE {ρ : Operand → Value} {o : Oper} {x0 x1 x2 x3 x4 x5 : Operand} {f0 f1 f2 f3 f4 : Fn} {a0 a1 a2 a3 a4 b0 b1 b2 b3 b4 : Array Value} {u0 u1 : Nat} {w : World} (ho : o.op = .build 98 #[(0, x0), (1, x1), (2, x2), (3, x3), (4, x4), (5, x5)]) (h0 : ρ x0 = .func f0 a0 b0) (h1 : ρ x1 = .func f1 a1 b1) (h2 : ρ x2 = .func f2 a2 b2) (h3 : ρ x3 = .func f3 a3 b3) (h4 : ρ x4 = .func f4 a4 b4) (h5 : ρ x5 = V [u0, u1]) : (execOp ρ o).run Tryz.prog w = .ok (.value (.agg ([Value.func f0 a0 b0, Value.func f1 a1 b1, Value.func f2 a2 b2, Value.func f3 a3 b3, Value.func f4 a4 b4] ++ cel [u0, u1]).toArray)) w := by
 simp only [V, cel, List.cons_append, List.nil_append] at h5
 simp only [execOp, ho, cel, List.cons_append, List.nil_append]
 go_simp
theorem ex_buildGN {ρ : Operand → Value} {o : Oper} {x0 x1 x2 x3 : Operand} {f0 f1 f2 f3 f4 f5 : Fn} {a0 a1 a2 a3 a4 a5 b0 b1 b2 b3 b4 b5 : Array Value} {u c : Nat} {k : Int} {w : World} (ho : o.op = .build 81 #[(0, x0), (1, x1), (2, x2), (3, x3)]) (h0 : ρ x0 = .agg ([Value.func f0 a0 b0, Value.func f1 a1 b1, Value.func f2 a2 b2, Value.func f3 a3 b3, Value.func f4 a4 b4] ++ cel [u]).toArray) (h1 : ρ x1 = N c) (h2 : ρ x2 = .func f5 a5 b5) (h3 : ρ x3 = .int .i64 k) : (execOp ρ o).run Tryz.prog w = .ok (.value (.agg ([Value.func f0 a0 b0, Value.func f1 a1 b1, Value.func f2 a2 b2, Value.func f3 a3 b3, Value.func f4 a4 b4] ++ (cel [u, c] ++ [Value.func f5 a5 b5, Value.int .i64 k])).toArray)) w := by
 simp only [cel, List.cons_append, List.nil_append] at h0
 simp only [execOp, ho, cel, List.cons_append, List.nil_append]
 go_simp
theorem ex_buildGE {ρ : Operand → Value} {o : Oper} {x0 x1 x2 x3 : Operand} {f0 f1 f2 f3 f4 f5 : Fn} {a0 a1 a2 a3 a4 a5 b0 b1 b2 b3 b4 b5 : Array Value} {u0 u1 c0 c1 : Nat} {k : Int} {w : World} (ho : o.op = .build 101 #[(0, x0), (1, x1), (2, x2), (3, x3)]) (h0 : ρ x0 = .agg ([Value.func f0 a0 b0, Value.func f1 a1 b1, Value.func f2 a2 b2, Value.func f3 a3 b3, Value.func f4 a4 b4] ++ cel [u0, u1]).toArray) (h1 : ρ x1 = V [c0, c1]) (h2 : ρ x2 = .func f5 a5 b5) (h3 : ρ x3 = .int .i64 k) : (execOp ρ o).run Tryz.prog w = .ok (.value (.agg ([Value.func f0 a0 b0, Value.func f1 a1 b1, Value.func f2 a2 b2, Value.func f3 a3 b3, Value.func f4 a4 b4] ++ (cel [u0, u1, c0, c1] ++ [Value.func f5 a5 b5, Value.int .i64 k])).toArray)) w := by
 simp only [V, cel, List.cons_append, List.nil_append] at h0 h1
 simp only [execOp, ho, cel, List.cons_append, List.nil_append]
 go_simp
theorem number_gen (sv : Value) (y : Nat) (ca : ∀ w, Calls Tryz.prog 92 #[sv] w (Rt w (.tuple #[N y, .int .i64 0]))) (w : World) :
  Calls Tryz.prog 51 #[sv] w (Rt w (N y)) := by
 have H0 : Hid (_ ∧ _) := ⟨Mm.nil w, Below.refl w.heap.size w⟩
 have CA : Hid _ := ca
 clear ca
 go_enter Tryz.func51, Tryz.ntmps51
 refine wp_seq ?_
 refine zD 1 [.made zero6 24] (sB H0) ?ho1 ?he1
 case ho1 => exact ak (fun γ => ⟨rfl, fun w' => zK rfl⟩) trivial
 intro γ w1 l hM hl
 have H1 : Hid (Mm w1 [(γ 0, zero6)] ∧ _) := zT H0 hM (Nat.le_refl _) hl [0] rfl (by decide)
 have o1_0 := zQ H0 hM (Nat.le_refl _) hl (i := 0) rfl
 clear hM hl l
 generalize γ 0 = γ1_0 at H1 o1_0 ⊢
 clear γ
 refine zG rfl (zA (wp_seq ?_))
 refine zD 8 [.quiet (sv), .call (.tuple #[N y, .int .i64 0]), .quiet (.tuple #[N y, .int .i64 0]), .quiet (N y), .quiet (.int .i64 0), .made zero6 24, .laid 5 zero6 (zB y), .quiet (.int .i64 0)] (sB H1) ?ho2 ?he2 (hL := ?hL2)
 case hL2 => exact ⟨⟨_, rfl⟩, trivial⟩
 case ho2 => exact ar (ac (fun w' h => ⟨92, #[sv], zC rfl call92 rfl (zY rfl), CA.out w'⟩) (ar (ag (ag (ak (fun γ => ⟨rfl, fun w' => zK rfl⟩) (ak (fun γ => ⟨rfl, rfl, rfl, fun w' h => zX h rfl rfl rfl⟩) (ar trivial)))))))
 intro γ w2 l hM hl
 have H2 : Hid (Mm w2 [(γ 5, zB y), (γ1_0, zero6)] ∧ _) := zT H1 hM (Nat.le_refl _) hl [5] rfl (by decide)
 have o2_5 := zQ H1 hM (Nat.le_refl _) hl (i := 5) rfl
 clear hM hl l H1
 generalize γ 5 = γ2_5 at H2 o2_5 ⊢
 clear γ
 refine zG rfl (zA (wp_seq ?_))
 refine zE 1 [.quiet (N y)] H2 ?ho3 ?he3
 case ho3 => exact aq (fun w' h => l6 h 0) trivial
 intro _ w3 H3
 clear H2
 refine zJ (l := [1]) rfl ?_
 refine zI rfl rfl rfl (zR H3.out.1 1 rfl rfl rfl rfl (Nat.le_of_ble_eq_true rfl)) ?_
 have H4 : Hid (Mm (w3.setCells γ1_0 0 (zB y)) [(γ2_5, zB y), (γ1_0, zB y)] ∧ Below w.heap.size w (w3.setCells γ1_0 0 (zB y))) := ⟨H3.out.1.put 1 (off := 0) (vs := zB y) rfl (Nat.le_of_ble_eq_true rfl), zF _ o1_0.out _ _ _ H3.out.2⟩
 clear H3
 generalize hgw : World.setCells _ _ _ _ = w4 at H4 ⊢
 clear hgw
 refine zH (zA (wp_ret ?_))
 repeat (first | refine zN ?_ | refine zL ?_)
 have c0 := H4.out.1.get 1 rfl 0 rfl
 have c1 := H4.out.1.get 1 rfl 1 rfl
 have c2 := H4.out.1.get 1 rfl 2 rfl
 have c3 := H4.out.1.get 1 rfl 3 rfl
 have c4 := H4.out.1.get 1 rfl 4 rfl
 have c5 := H4.out.1.get 1 rfl 5 rfl
 refine bodyPost_ret (v := N y) (by simp [results, Tryz.results51, go_sem, *]) rfl ?_
 exact ⟨rfl, H4.out.2⟩
def bs_gx : ByteArray := ⟨#[49, 55, 102, 49, 100, 51, 97, 55, 51, 49, 57, 55, 100, 55, 57, 52, 50, 54, 57, 53, 54, 51, 56, 99, 52, 102, 97, 57, 97, 99, 48, 102, 99, 51, 54, 56, 56, 99, 52, 102, 57, 55, 55, 52, 98, 57, 48, 53, 97, 49, 52, 101, 51, 97, 51, 102, 49, 55, 49, 98, 97, 99, 53, 56, 54, 99, 53, 53, 101, 56, 51, 102, 102, 57, 55, 97, 49, 97, 101, 102, 102, 98, 51, 97, 102, 48, 48, 97, 100, 98, 50, 50, 99, 54, 98, 98]⟩
def gx : Nat := 3685416753713387016781088315183077757961620795782546409894578378688607592378376318836054947676345821548104185464507
theorem parse_gx (w : World) : Calls Tryz.prog 92 #[.string bs_gx] w (Rt w (.tuple #[N gx, .int .i64 0])) := by
 have h := parse_loop bs_gx (by decide +kernel) (by decide +kernel) (Or.inl (by decide +kernel)) w
 have e : prv bs_gx = .tuple #[N gx, .int .i64 0] := by
  unfold prv
  rw [if_pos (by decide +kernel), show pvv bs_gx bs_gx.size = gx by decide +kernel]
 rw [e] at h
 exact h
theorem numb_gx (w : World) : Calls Tryz.prog 51 #[.string bs_gx] w (Rt w (N gx)) := number_gen _ gx parse_gx w
def bs_gy : ByteArray := ⟨#[56, 98, 51, 102, 52, 56, 49, 101, 51, 97, 97, 97, 48, 102, 49, 97, 48, 57, 101, 51, 48, 101, 100, 55, 52, 49, 100, 56, 97, 101, 52, 102, 99, 102, 53, 101, 48, 57, 53, 100, 53, 100, 48, 48, 97, 102, 54, 48, 48, 100, 98, 49, 56, 99, 98, 50, 99, 48, 52, 98, 51, 101, 100, 100, 48, 51, 99, 99, 55, 52, 52, 97, 50, 56, 56, 56, 97, 101, 52, 48, 99, 97, 97, 50, 51, 50, 57, 52, 54, 99, 53, 101, 55, 101, 49]⟩
def gy : Nat := 1339506544944476473020471379941921221584933875938349620426543736416511423956333506472724655353366534992391756441569
theorem parse_gy (w : World) : Calls Tryz.prog 92 #[.string bs_gy] w (Rt w (.tuple #[N gy, .int .i64 0])) := by
 have h := parse_loop bs_gy (by decide +kernel) (by decide +kernel) (Or.inl (by decide +kernel)) w
 have e : prv bs_gy = .tuple #[N gy, .int .i64 0] := by
  unfold prv
  rw [if_pos (by decide +kernel), show pvv bs_gy bs_gy.size = gy by decide +kernel]
 rw [e] at h
 exact h
theorem numb_gy (w : World) : Calls Tryz.prog 51 #[.string bs_gy] w (Rt w (N gy)) := number_gen _ gy parse_gy w
def bs_hx0 : ByteArray := ⟨#[50, 52, 97, 97, 50, 98, 50, 102, 48, 56, 102, 48, 97, 57, 49, 50, 54, 48, 56, 48, 53, 50, 55, 50, 100, 99, 53, 49, 48, 53, 49, 99, 54, 101, 52, 55, 97, 100, 52, 102, 97, 52, 48, 51, 98, 48, 50, 98, 52, 53, 49, 48, 98, 54, 52, 55, 97, 101, 51, 100, 49, 55, 55, 48, 98, 97, 99, 48, 51, 50, 54, 97, 56, 48, 53, 98, 98, 101, 102, 100, 52, 56, 48, 53, 54, 99, 56, 99, 49, 50, 49, 98, 100, 98, 56]⟩
def hx0 : Nat := 352701069587466618187139116011060144890029952792775240219908644239793785735715026873347600343865175952761926303160
theorem parse_hx0 (w : World) : Calls Tryz.prog 92 #[.string bs_hx0] w (Rt w (.tuple #[N hx0, .int .i64 0])) := by
 have h := parse_loop bs_hx0 (by decide +kernel) (by decide +kernel) (Or.inl (by decide +kernel)) w
 have e : prv bs_hx0 = .tuple #[N hx0, .int .i64 0] := by
  unfold prv
  rw [if_pos (by decide +kernel), show pvv bs_hx0 bs_hx0.size = hx0 by decide +kernel]
 rw [e] at h
 exact h
theorem numb_hx0 (w : World) : Calls Tryz.prog 51 #[.string bs_hx0] w (Rt w (N hx0)) := number_gen _ hx0 parse_hx0 w
def bs_hx1 : ByteArray := ⟨#[49, 51, 101, 48, 50, 98, 54, 48, 53, 50, 55, 49, 57, 102, 54, 48, 55, 100, 97, 99, 100, 51, 97, 48, 56, 56, 50, 55, 52, 102, 54, 53, 53, 57, 54, 98, 100, 48, 100, 48, 57, 57, 50, 48, 98, 54, 49, 97, 98, 53, 100, 97, 54, 49, 98, 98, 100, 99, 55, 102, 53, 48, 52, 57, 51, 51, 52, 99, 102, 49, 49, 50, 49, 51, 57, 52, 53, 100, 53, 55, 101, 53, 97, 99, 55, 100, 48, 53, 53, 100, 48, 52, 50, 98, 55, 101]⟩
def hx1 : Nat := 3059144344244213709971259814753781636986470325476647558659373206291635324768958432433509563104347017837885763365758
theorem parse_hx1 (w : World) : Calls Tryz.prog 92 #[.string bs_hx1] w (Rt w (.tuple #[N hx1, .int .i64 0])) := by
 have h := parse_loop bs_hx1 (by decide +kernel) (by decide +kernel) (Or.inl (by decide +kernel)) w
 have e : prv bs_hx1 = .tuple #[N hx1, .int .i64 0] := by
  unfold prv
  rw [if_pos (by decide +kernel), show pvv bs_hx1 bs_hx1.size = hx1 by decide +kernel]
 rw [e] at h
 exact h
theorem numb_hx1 (w : World) : Calls Tryz.prog 51 #[.string bs_hx1] w (Rt w (N hx1)) := number_gen _ hx1 parse_hx1 w
def bs_hy0 : ByteArray := ⟨#[99, 101, 53, 100, 53, 50, 55, 55, 50, 55, 100, 54, 101, 49, 49, 56, 99, 99, 57, 99, 100, 99, 54, 100, 97, 50, 101, 51, 53, 49, 97, 97, 100, 102, 100, 57, 98, 97, 97, 56, 99, 98, 100, 100, 51, 97, 55, 54, 100, 52, 50, 57, 97, 54, 57, 53, 49, 54, 48, 100, 49, 50, 99, 57, 50, 51, 97, 99, 57, 99, 99, 51, 98, 97, 99, 97, 50, 56, 57, 101, 49, 57, 51, 53, 52, 56, 54, 48, 56, 98, 56, 50, 56, 48, 49]⟩
def hy0 : Nat := 1985150602287291935568054521177171638300868978215655730859378665066344726373823718423869104263333984641494340347905
theorem parse_hy0 (w : World) : Calls Tryz.prog 92 #[.string bs_hy0] w (Rt w (.tuple #[N hy0, .int .i64 0])) := by
 have h := parse_loop bs_hy0 (by decide +kernel) (by decide +kernel) (Or.inl (by decide +kernel)) w
 have e : prv bs_hy0 = .tuple #[N hy0, .int .i64 0] := by
  unfold prv
  rw [if_pos (by decide +kernel), show pvv bs_hy0 bs_hy0.size = hy0 by decide +kernel]
 rw [e] at h
 exact h
theorem numb_hy0 (w : World) : Calls Tryz.prog 51 #[.string bs_hy0] w (Rt w (N hy0)) := number_gen _ hy0 parse_hy0 w
def bs_hy1 : ByteArray := ⟨#[54, 48, 54, 99, 52, 97, 48, 50, 101, 97, 55, 51, 52, 99, 99, 51, 50, 97, 99, 100, 50, 98, 48, 50, 98, 99, 50, 56, 98, 57, 57, 99, 98, 51, 101, 50, 56, 55, 101, 56, 53, 97, 55, 54, 51, 97, 102, 50, 54, 55, 52, 57, 50, 97, 98, 53, 55, 50, 101, 57, 57, 97, 98, 51, 102, 51, 55, 48, 100, 50, 55, 53, 99, 101, 99, 49, 100, 97, 49, 97, 97, 97, 57, 48, 55, 53, 102, 102, 48, 53, 102, 55, 57, 98, 101]⟩
def hy1 : Nat := 927553665492332455747201965776037880757740193453592970025027978793976877002675564980949289727957565575433344219582
theorem parse_hy1 (w : World) : Calls Tryz.prog 92 #[.string bs_hy1] w (Rt w (.tuple #[N hy1, .int .i64 0])) := by
 have h := parse_loop bs_hy1 (by decide +kernel) (by decide +kernel) (Or.inl (by decide +kernel)) w
 have e : prv bs_hy1 = .tuple #[N hy1, .int .i64 0] := by
  unfold prv
  rw [if_pos (by decide +kernel), show pvv bs_hy1 bs_hy1.size = hy1 by decide +kernel]
 rw [e] at h
 exact h
theorem numb_hy1 (w : World) : Calls Tryz.prog 51 #[.string bs_hy1] w (Rt w (N hy1)) := number_gen _ hy1 parse_hy1 w
def bs_tr : ByteArray := ⟨#[53, 102, 49, 57, 54, 55, 50, 102, 100, 102, 55, 54, 99, 101, 53, 49, 98, 97, 54, 57, 99, 54, 48, 55, 54, 97, 48, 102, 55, 55, 101, 97, 100, 100, 98, 51, 97, 57, 51, 98, 101, 54, 102, 56, 57, 54, 56, 56, 100, 101, 49, 55, 100, 56, 49, 51, 54, 50, 48, 97, 48, 48, 48, 50, 50, 101, 48, 49, 102, 102, 102, 102, 102, 102, 102, 101, 102, 102, 102, 101]⟩
def tr : Nat := 793479390729215512621379701633421447060886740281060493010456487427281649075476305620758731620350
theorem parse_tr (w : World) : Calls Tryz.prog 92 #[.string bs_tr] w (Rt w (.tuple #[N tr, .int .i64 0])) := by
 have h := parse_loop bs_tr (by decide +kernel) (by decide +kernel) (Or.inl (by decide +kernel)) w
 have e : prv bs_tr = .tuple #[N tr, .int .i64 0] := by
  unfold prv
  rw [if_pos (by decide +kernel), show pvv bs_tr bs_tr.size = tr by decide +kernel]
 rw [e] at h
 exact h
theorem numb_tr (w : World) : Calls Tryz.prog 51 #[.string bs_tr] w (Rt w (N tr)) := number_gen _ tr parse_tr w
def bs_tx1 : ByteArray := ⟨#[49, 97, 48, 49, 49, 49, 101, 97, 51, 57, 55, 102, 101, 54, 57, 57, 101, 99, 48, 50, 52, 48, 56, 54, 54, 51, 100, 52, 100, 101, 56, 53, 97, 97, 48, 100, 56, 53, 55, 100, 56, 57, 55, 53, 57, 97, 100, 52, 56, 57, 55, 100, 50, 57, 54, 53, 48, 102, 98, 56, 53, 102, 57, 98, 52, 48, 57, 52, 50, 55, 101, 98, 52, 102, 52, 57, 102, 102, 102, 100, 56, 98, 102, 100, 48, 48, 48, 48, 48, 48, 48, 48, 97, 97, 97, 100]⟩
def tx1 : Nat := 4002409555221667392624310435006688643935503118305586438271171395842971157480381377015405980053539358417135540939437
theorem parse_tx1 (w : World) : Calls Tryz.prog 92 #[.string bs_tx1] w (Rt w (.tuple #[N tx1, .int .i64 0])) := by
 have h := parse_loop bs_tx1 (by decide +kernel) (by decide +kernel) (Or.inl (by decide +kernel)) w
 have e : prv bs_tx1 = .tuple #[N tx1, .int .i64 0] := by
  unfold prv
  rw [if_pos (by decide +kernel), show pvv bs_tx1 bs_tx1.size = tx1 by decide +kernel]
 rw [e] at h
 exact h
theorem numb_tx1 (w : World) : Calls Tryz.prog 51 #[.string bs_tx1] w (Rt w (N tx1)) := number_gen _ tx1 parse_tx1 w
def bs_ty0 : ByteArray := ⟨#[49, 51, 53, 50, 48, 51, 101, 54, 48, 49, 56, 48, 97, 54, 56, 101, 101, 50, 101, 57, 99, 52, 52, 56, 100, 55, 55, 97, 50, 99, 100, 57, 49, 99, 51, 100, 101, 100, 100, 57, 51, 48, 98, 49, 99, 102, 54, 48, 101, 102, 51, 57, 54, 52, 56, 57, 102, 54, 49, 101, 98, 52, 53, 101, 51, 48, 52, 52, 54, 54, 99, 102, 51, 101, 54, 55, 102, 97, 48, 97, 102, 49, 101, 101, 55, 98, 48, 52, 49, 50, 49, 98, 100, 101, 97, 50]⟩
def ty0 : Nat := 2973677408986561043442465346520108879172042883009249989176415018091420807192182638567116318576472649347015917690530
theorem parse_ty0 (w : World) : Calls Tryz.prog 92 #[.string bs_ty0] w (Rt w (.tuple #[N ty0, .int .i64 0])) := by
 have h := parse_loop bs_ty0 (by decide +kernel) (by decide +kernel) (Or.inl (by decide +kernel)) w
 have e : prv bs_ty0 = .tuple #[N ty0, .int .i64 0] := by
  unfold prv
  rw [if_pos (by decide +kernel), show pvv bs_ty0 bs_ty0.size = ty0 by decide +kernel]
 rw [e] at h
 exact h
theorem numb_ty0 (w : World) : Calls Tryz.prog 51 #[.string bs_ty0] w (Rt w (N ty0)) := number_gen _ ty0 parse_ty0 w
def bs_ty1 : ByteArray := ⟨#[54, 97, 102, 48, 101, 48, 52, 51, 55, 102, 102, 52, 48, 48, 98, 54, 56, 51, 49, 101, 51, 54, 100, 54, 98, 100, 49, 55, 102, 102, 101, 52, 56, 51, 57, 53, 100, 97, 98, 99, 50, 100, 51, 52, 51, 53, 101, 55, 55, 102, 55, 54, 101, 49, 55, 48, 48, 57, 50, 52, 49, 99, 53, 101, 101, 54, 55, 57, 57, 50, 102, 55, 50, 101, 99, 48, 53, 102, 52, 99, 56, 49, 48, 56, 52, 102, 98, 101, 100, 101, 51, 99, 99, 48, 57]⟩
def ty1 : Nat := 1028732146235106349975324479215795277384839936929757896155643118032610843298655225875571310552543014690878354869257
theorem parse_ty1 (w : World) : Calls Tryz.prog 92 #[.string bs_ty1] w (Rt w (.tuple #[N ty1, .int .i64 0])) := by
 have h := parse_loop bs_ty1 (by decide +kernel) (by decide +kernel) (Or.inl (by decide +kernel)) w
 have e : prv bs_ty1 = .tuple #[N ty1, .int .i64 0] := by
  unfold prv
  rw [if_pos (by decide +kernel), show pvv bs_ty1 bs_ty1.size = ty1 by decide +kernel]
 rw [e] at h
 exact h
theorem numb_ty1 (w : World) : Calls Tryz.prog 51 #[.string bs_ty1] w (Rt w (N ty1)) := number_gen _ ty1 parse_ty1 w
theorem gen1_gen (qgx qgy : Nat) (cgx : ∀ w, Calls Tryz.prog 51 #[.string ⟨#[49, 55, 102, 49, 100, 51, 97, 55, 51, 49, 57, 55, 100, 55, 57, 52, 50, 54, 57, 53, 54, 51, 56, 99, 52, 102, 97, 57, 97, 99, 48, 102, 99, 51, 54, 56, 56, 99, 52, 102, 57, 55, 55, 52, 98, 57, 48, 53, 97, 49, 52, 101, 51, 97, 51, 102, 49, 55, 49, 98, 97, 99, 53, 56, 54, 99, 53, 53, 101, 56, 51, 102, 102, 57, 55, 97, 49, 97, 101, 102, 102, 98, 51, 97, 102, 48, 48, 97, 100, 98, 50, 50, 99, 54, 98, 98]⟩] w (Rt w (N qgx))) (cgy : ∀ w, Calls Tryz.prog 51 #[.string ⟨#[56, 98, 51, 102, 52, 56, 49, 101, 51, 97, 97, 97, 48, 102, 49, 97, 48, 57, 101, 51, 48, 101, 100, 55, 52, 49, 100, 56, 97, 101, 52, 102, 99, 102, 53, 101, 48, 57, 53, 100, 53, 100, 48, 48, 97, 102, 54, 48, 48, 100, 98, 49, 56, 99, 98, 50, 99, 48, 52, 98, 51, 101, 100, 100, 48, 51, 99, 99, 55, 52, 52, 97, 50, 56, 56, 56, 97, 101, 52, 48, 99, 97, 97, 50, 51, 50, 57, 52, 54, 99, 53, 101, 55, 101, 49]⟩] w (Rt w (N qgy))) (w : World) :
  Calls Tryz.prog 13 #[] w (Rt w (.agg (cel [qgx, qgy] ++ [Value.bool false]).toArray)) := by
 have H0 : Hid (_ ∧ _) := ⟨Mm.nil w, Below.refl w.heap.size w⟩
 have CGX : Hid _ := cgx
 clear cgx
 have CGY : Hid _ := cgy
 clear cgy
 go_enter Tryz.func13, Tryz.ntmps13
 refine wp_seq ?_
 refine zD 1 [.made (cel [0, 0] ++ [Value.bool false]) 26] (sB H0) ?ho1 ?he1
 case ho1 => exact ak (fun γ => ⟨rfl, fun w' => ex_madeP1 rfl⟩) trivial
 intro γ w1 l hM hl
 have H1 : Hid (Mm w1 [(γ 0, cel [0, 0] ++ [Value.bool false])] ∧ _) := zT H0 hM (Nat.le_refl _) hl [0] rfl (by decide)
 have o1_0 := zQ H0 hM (Nat.le_refl _) hl (i := 0) rfl
 clear hM hl l
 generalize γ 0 = γ1_0 at H1 o1_0 ⊢
 clear γ
 refine zG rfl (zA (wp_seq ?_))
 refine zE 3 [.call (N qgx), .call (N qgy), .quiet (.agg (cel [qgx, qgy] ++ [Value.bool false]).toArray)] H1 ?ho2 ?he2
 case ho2 => exact ac (fun w' h => ⟨51, #[.string ⟨#[49, 55, 102, 49, 100, 51, 97, 55, 51, 49, 57, 55, 100, 55, 57, 52, 50, 54, 57, 53, 54, 51, 56, 99, 52, 102, 97, 57, 97, 99, 48, 102, 99, 51, 54, 56, 56, 99, 52, 102, 57, 55, 55, 52, 98, 57, 48, 53, 97, 49, 52, 101, 51, 97, 51, 102, 49, 55, 49, 98, 97, 99, 53, 56, 54, 99, 53, 53, 101, 56, 51, 102, 102, 57, 55, 97, 49, 97, 101, 102, 102, 98, 51, 97, 102, 48, 48, 97, 100, 98, 50, 50, 99, 54, 98, 98]⟩], zC rfl call51 rfl (zY rfl), CGX.out w'⟩) (ac (fun w' h => ⟨51, #[.string ⟨#[56, 98, 51, 102, 52, 56, 49, 101, 51, 97, 97, 97, 48, 102, 49, 97, 48, 57, 101, 51, 48, 101, 100, 55, 52, 49, 100, 56, 97, 101, 52, 102, 99, 102, 53, 101, 48, 57, 53, 100, 53, 100, 48, 48, 97, 102, 54, 48, 48, 100, 98, 49, 56, 99, 98, 50, 99, 48, 52, 98, 51, 101, 100, 100, 48, 51, 99, 99, 55, 52, 52, 97, 50, 56, 56, 56, 97, 101, 52, 48, 99, 97, 97, 50, 51, 50, 57, 52, 54, 99, 53, 101, 55, 101, 49]⟩], zC rfl call51 rfl (zY rfl), CGY.out w'⟩) (ak (fun γ => ⟨rfl, fun w' _ => ex_buildP1xy rfl rfl rfl⟩) trivial))
 intro _ w2 H2
 clear H1
 refine zJ (l := [3]) rfl ?_
 refine zI rfl rfl rfl (ex_storeT (vs := cel [qgx, qgy] ++ [Value.bool false]) H2.out.1 0 rfl rfl rfl rfl Tryz.sizeOf26 rfl (Nat.le_of_ble_eq_true rfl)) ?_
 have H3 : Hid (Mm (w2.setCells γ1_0 0 (cel [qgx, qgy] ++ [Value.bool false])) [(γ1_0, cel [qgx, qgy] ++ [Value.bool false])] ∧ Below w.heap.size w (w2.setCells γ1_0 0 (cel [qgx, qgy] ++ [Value.bool false]))) := ⟨H2.out.1.put 0 (off := 0) (vs := cel [qgx, qgy] ++ [Value.bool false]) rfl (Nat.le_of_ble_eq_true rfl), zF _ o1_0.out _ _ _ H2.out.2⟩
 clear H2
 generalize hgw : World.setCells _ _ _ _ = w3 at H3 ⊢
 clear hgw
 refine zH (zA (wp_ret ?_))
 repeat (first | refine zN ?_ | refine zL ?_)
 have hf0 := var_T H3.out.1 0 rfl Tryz.isAgg26 Tryz.sizeOf26 rfl
 refine bodyPost_ret (v := .agg (cel [qgx, qgy] ++ [Value.bool false]).toArray) (by simp [results, Tryz.results13, asAddr, hf0]) rfl ?_
 exact ⟨rfl, H3.out.2⟩
theorem gen2_gen (qhx0 qhx1 qhy0 qhy1 : Nat) (chx0 : ∀ w, Calls Tryz.prog 51 #[.string ⟨#[50, 52, 97, 97, 50, 98, 50, 102, 48, 56, 102, 48, 97, 57, 49, 50, 54, 48, 56, 48, 53, 50, 55, 50, 100, 99, 53, 49, 48, 53, 49, 99, 54, 101, 52, 55, 97, 100, 52, 102, 97, 52, 48, 51, 98, 48, 50, 98, 52, 53, 49, 48, 98, 54, 52, 55, 97, 101, 51, 100, 49, 55, 55, 48, 98, 97, 99, 48, 51, 50, 54, 97, 56, 48, 53, 98, 98, 101, 102, 100, 52, 56, 48, 53, 54, 99, 56, 99, 49, 50, 49, 98, 100, 98, 56]⟩] w (Rt w (N qhx0))) (chx1 : ∀ w, Calls Tryz.prog 51 #[.string ⟨#[49, 51, 101, 48, 50, 98, 54, 48, 53, 50, 55, 49, 57, 102, 54, 48, 55, 100, 97, 99, 100, 51, 97, 48, 56, 56, 50, 55, 52, 102, 54, 53, 53, 57, 54, 98, 100, 48, 100, 48, 57, 57, 50, 48, 98, 54, 49, 97, 98, 53, 100, 97, 54, 49, 98, 98, 100, 99, 55, 102, 53, 48, 52, 57, 51, 51, 52, 99, 102, 49, 49, 50, 49, 51, 57, 52, 53, 100, 53, 55, 101, 53, 97, 99, 55, 100, 48, 53, 53, 100, 48, 52, 50, 98, 55, 101]⟩] w (Rt w (N qhx1))) (chy0 : ∀ w, Calls Tryz.prog 51 #[.string ⟨#[99, 101, 53, 100, 53, 50, 55, 55, 50, 55, 100, 54, 101, 49, 49, 56, 99, 99, 57, 99, 100, 99, 54, 100, 97, 50, 101, 51, 53, 49, 97, 97, 100, 102, 100, 57, 98, 97, 97, 56, 99, 98, 100, 100, 51, 97, 55, 54, 100, 52, 50, 57, 97, 54, 57, 53, 49, 54, 48, 100, 49, 50, 99, 57, 50, 51, 97, 99, 57, 99, 99, 51, 98, 97, 99, 97, 50, 56, 57, 101, 49, 57, 51, 53, 52, 56, 54, 48, 56, 98, 56, 50, 56, 48, 49]⟩] w (Rt w (N qhy0))) (chy1 : ∀ w, Calls Tryz.prog 51 #[.string ⟨#[54, 48, 54, 99, 52, 97, 48, 50, 101, 97, 55, 51, 52, 99, 99, 51, 50, 97, 99, 100, 50, 98, 48, 50, 98, 99, 50, 56, 98, 57, 57, 99, 98, 51, 101, 50, 56, 55, 101, 56, 53, 97, 55, 54, 51, 97, 102, 50, 54, 55, 52, 57, 50, 97, 98, 53, 55, 50, 101, 57, 57, 97, 98, 51, 102, 51, 55, 48, 100, 50, 55, 53, 99, 101, 99, 49, 100, 97, 49, 97, 97, 97, 57, 48, 55, 53, 102, 102, 48, 53, 102, 55, 57, 98, 101]⟩] w (Rt w (N qhy1))) (w : World) :
  Calls Tryz.prog 26 #[] w (Rt w (.agg (cel [qhx0, qhx1, qhy0, qhy1] ++ [Value.bool false]).toArray)) := by
 have H0 : Hid (_ ∧ _) := ⟨Mm.nil w, Below.refl w.heap.size w⟩
 have CHX0 : Hid _ := chx0
 clear chx0
 have CHX1 : Hid _ := chx1
 clear chx1
 have CHY0 : Hid _ := chy0
 clear chy0
 have CHY1 : Hid _ := chy1
 clear chy1
 go_enter Tryz.func26, Tryz.ntmps26
 refine wp_seq ?_
 refine zD 1 [.made (cel [0, 0, 0, 0] ++ [Value.bool false]) 42] (sB H0) ?ho1 ?he1
 case ho1 => exact ak (fun γ => ⟨rfl, fun w' => ex_madeP2 rfl⟩) trivial
 intro γ w1 l hM hl
 have H1 : Hid (Mm w1 [(γ 0, cel [0, 0, 0, 0] ++ [Value.bool false])] ∧ _) := zT H0 hM (Nat.le_refl _) hl [0] rfl (by decide)
 have o1_0 := zQ H0 hM (Nat.le_refl _) hl (i := 0) rfl
 clear hM hl l
 generalize γ 0 = γ1_0 at H1 o1_0 ⊢
 clear γ
 refine zG rfl (zA (wp_seq ?_))
 refine zE 7 [.call (N qhx0), .call (N qhx1), .quiet (V [qhx0, qhx1]), .call (N qhy0), .call (N qhy1), .quiet (V [qhy0, qhy1]), .quiet (.agg (cel [qhx0, qhx1, qhy0, qhy1] ++ [Value.bool false]).toArray)] H1 ?ho2 ?he2
 case ho2 => exact ac (fun w' h => ⟨51, #[.string ⟨#[50, 52, 97, 97, 50, 98, 50, 102, 48, 56, 102, 48, 97, 57, 49, 50, 54, 48, 56, 48, 53, 50, 55, 50, 100, 99, 53, 49, 48, 53, 49, 99, 54, 101, 52, 55, 97, 100, 52, 102, 97, 52, 48, 51, 98, 48, 50, 98, 52, 53, 49, 48, 98, 54, 52, 55, 97, 101, 51, 100, 49, 55, 55, 48, 98, 97, 99, 48, 51, 50, 54, 97, 56, 48, 53, 98, 98, 101, 102, 100, 52, 56, 48, 53, 54, 99, 56, 99, 49, 50, 49, 98, 100, 98, 56]⟩], zC rfl call51 rfl (zY rfl), CHX0.out w'⟩) (ac (fun w' h => ⟨51, #[.string ⟨#[49, 51, 101, 48, 50, 98, 54, 48, 53, 50, 55, 49, 57, 102, 54, 48, 55, 100, 97, 99, 100, 51, 97, 48, 56, 56, 50, 55, 52, 102, 54, 53, 53, 57, 54, 98, 100, 48, 100, 48, 57, 57, 50, 48, 98, 54, 49, 97, 98, 53, 100, 97, 54, 49, 98, 98, 100, 99, 55, 102, 53, 48, 52, 57, 51, 51, 52, 99, 102, 49, 49, 50, 49, 51, 57, 52, 53, 100, 53, 55, 101, 53, 97, 99, 55, 100, 48, 53, 53, 100, 48, 52, 50, 98, 55, 101]⟩], zC rfl call51 rfl (zY rfl), CHX1.out w'⟩) (ak (fun γ => ⟨rfl, fun w' _ => ex_buildE2 rfl rfl rfl⟩) (ac (fun w' h => ⟨51, #[.string ⟨#[99, 101, 53, 100, 53, 50, 55, 55, 50, 55, 100, 54, 101, 49, 49, 56, 99, 99, 57, 99, 100, 99, 54, 100, 97, 50, 101, 51, 53, 49, 97, 97, 100, 102, 100, 57, 98, 97, 97, 56, 99, 98, 100, 100, 51, 97, 55, 54, 100, 52, 50, 57, 97, 54, 57, 53, 49, 54, 48, 100, 49, 50, 99, 57, 50, 51, 97, 99, 57, 99, 99, 51, 98, 97, 99, 97, 50, 56, 57, 101, 49, 57, 51, 53, 52, 56, 54, 48, 56, 98, 56, 50, 56, 48, 49]⟩], zC rfl call51 rfl (zY rfl), CHY0.out w'⟩) (ac (fun w' h => ⟨51, #[.string ⟨#[54, 48, 54, 99, 52, 97, 48, 50, 101, 97, 55, 51, 52, 99, 99, 51, 50, 97, 99, 100, 50, 98, 48, 50, 98, 99, 50, 56, 98, 57, 57, 99, 98, 51, 101, 50, 56, 55, 101, 56, 53, 97, 55, 54, 51, 97, 102, 50, 54, 55, 52, 57, 50, 97, 98, 53, 55, 50, 101, 57, 57, 97, 98, 51, 102, 51, 55, 48, 100, 50, 55, 53, 99, 101, 99, 49, 100, 97, 49, 97, 97, 97, 57, 48, 55, 53, 102, 102, 48, 53, 102, 55, 57, 98, 101]⟩], zC rfl call51 rfl (zY rfl), CHY1.out w'⟩) (ak (fun γ => ⟨rfl, fun w' _ => ex_buildE2 rfl rfl rfl⟩) (ak (fun γ => ⟨rfl, fun w' _ => ex_buildP2xy rfl rfl rfl⟩) trivial))))))
 intro _ w2 H2
 clear H1
 refine zJ (l := [7]) rfl ?_
 refine zI rfl rfl rfl (ex_storeT (vs := cel [qhx0, qhx1, qhy0, qhy1] ++ [Value.bool false]) H2.out.1 0 rfl rfl rfl rfl Tryz.sizeOf42 rfl (Nat.le_of_ble_eq_true rfl)) ?_
 have H3 : Hid (Mm (w2.setCells γ1_0 0 (cel [qhx0, qhx1, qhy0, qhy1] ++ [Value.bool false])) [(γ1_0, cel [qhx0, qhx1, qhy0, qhy1] ++ [Value.bool false])] ∧ Below w.heap.size w (w2.setCells γ1_0 0 (cel [qhx0, qhx1, qhy0, qhy1] ++ [Value.bool false]))) := ⟨H2.out.1.put 0 (off := 0) (vs := cel [qhx0, qhx1, qhy0, qhy1] ++ [Value.bool false]) rfl (Nat.le_of_ble_eq_true rfl), zF _ o1_0.out _ _ _ H2.out.2⟩
 clear H2
 generalize hgw : World.setCells _ _ _ _ = w3 at H3 ⊢
 clear hgw
 refine zH (zA (wp_ret ?_))
 repeat (first | refine zN ?_ | refine zL ?_)
 have hf0 := var_T H3.out.1 0 rfl Tryz.isAgg42 Tryz.sizeOf42 rfl
 refine bodyPost_ret (v := .agg (cel [qhx0, qhx1, qhy0, qhy1] ++ [Value.bool false]).toArray) (by simp [results, Tryz.results26, asAddr, hf0]) rfl ?_
 exact ⟨rfl, H3.out.2⟩
set_option maxHeartbeats 2000000 in
theorem first_gen (n one four : Nat) (qtr : Nat) (ctr : ∀ w, Calls Tryz.prog 51 #[.string ⟨#[53, 102, 49, 57, 54, 55, 50, 102, 100, 102, 55, 54, 99, 101, 53, 49, 98, 97, 54, 57, 99, 54, 48, 55, 54, 97, 48, 102, 55, 55, 101, 97, 100, 100, 98, 51, 97, 57, 51, 98, 101, 54, 102, 56, 57, 54, 56, 56, 100, 101, 49, 55, 100, 56, 49, 51, 54, 50, 48, 97, 48, 48, 48, 50, 50, 101, 48, 49, 102, 102, 102, 102, 102, 102, 102, 101, 102, 102, 102, 101]⟩] w (Rt w (N qtr))) (co : ∀ w, Calls Tryz.prog 71 #[.int .u64 1] w (Rt w (N one))) (cf : ∀ w, Calls Tryz.prog 71 #[.int .u64 4] w (Rt w (N four))) (cb : ∀ w, Calls Tryz.prog 82 #[] w (Rt w (N n))) (cn : ∀ w, Calls Tryz.prog 81 #[N n] w fun e w' => Below w.heap.size w w' ∧ ∃ g, e = .returned (.tuple #[PT g 0, .int .i64 0]) ∧ w.heap.size ≤ g ∧ g < w'.heap.size ∧ Blk w' g (zO n)) (w : World) :
  Calls Tryz.prog 47 #[] w fun e w' => Below w.heap.size w w' ∧ ∃ g x y, e = .returned (.agg (G1 g (.func (.func 88) #[] #[PT x 0, PT y 0]) one four).toArray) ∧ w.heap.size ≤ g ∧ g < w'.heap.size ∧ Blk w' g (zO n) := by
 have H0 : Hid (_ ∧ _) := ⟨Mm.nil w, Below.refl w.heap.size w⟩
 have CTR : Hid _ := ctr
 clear ctr
 have CO : Hid _ := co
 clear co
 have CF : Hid _ := cf
 clear cf
 have CB : Hid _ := cb
 clear cb
 have CN : Hid _ := cn
 clear cn
 go_enter Tryz.func47, Tryz.ntmps47
 refine wp_seq ?_
 refine zD 1 [.made ([Value.nilFunc, Value.nilFunc, Value.nilFunc, Value.nilFunc, Value.nilFunc] ++ (cel [0, 0] ++ [Value.nilFunc, Value.int .i64 0])) 81] (sB H0) ?ho1 ?he1
 case ho1 => exact ak (fun γ => ⟨rfl, fun w' => ex_madeGN rfl⟩) trivial
 intro γ w1 l hM hl
 have H1 : Hid (Mm w1 [(γ 0, [Value.nilFunc, Value.nilFunc, Value.nilFunc, Value.nilFunc, Value.nilFunc] ++ (cel [0, 0] ++ [Value.nilFunc, Value.int .i64 0]))] ∧ _) := zT H0 hM (Nat.le_refl _) hl [0] rfl (by decide)
 have o1_0 := zQ H0 hM (Nat.le_refl _) hl (i := 0) rfl
 clear hM hl l
 generalize γ 0 = γ1_0 at H1 o1_0 ⊢
 clear γ
 refine zG rfl (zA (wp_seq ?_))
 refine zD 2 [.call (N n), .born (fun g => .tuple #[PT g 0, .int .i64 0]) (zO n)] (sB H1) ?ho2 ?he2
 case ho2 => exact ak (fun γ => ⟨rfl, fun w' h => ⟨82, #[], zC rfl call82 rfl (zY rfl), CB.out w'⟩⟩) (ak (fun γ => ⟨rfl, fun w' h => ⟨81, #[N n], zC rfl call81 rfl (zY rfl), CN.out w'⟩⟩) trivial)
 intro γ w2 l hM hl
 have H2 : Hid (Mm w2 [(γ 1, zO n), (γ1_0, [Value.nilFunc, Value.nilFunc, Value.nilFunc, Value.nilFunc, Value.nilFunc] ++ (cel [0, 0] ++ [Value.nilFunc, Value.int .i64 0]))] ∧ _) := zT H1 hM (Nat.le_refl _) hl [1] rfl (by decide)
 have o2_1 := zQ H1 hM (Nat.le_refl _) hl (i := 1) rfl
 clear hM hl l H1
 generalize γ 1 = γ2_1 at H2 o2_1 ⊢
 clear γ
 refine zJ (l := [2, 3, 4, 5, 6, 7]) rfl ?_
 refine zM (d := 4) rfl rfl rfl rfl ?_
 simp only [Act.put, sa, sz, ss]
 refine zM (d := 7) (v := PT γ2_1 0) (w' := w2) rfl rfl rfl (by go_simp) ?_
 simp only [Act.put, sa, sz, ss]
 refine zM (d := 8) (v := .int .i64 0) (w' := w2) rfl rfl rfl (by go_simp) ?_
 simp only [Act.put, sa, sz, ss]
 refine zM (d := 1) (v := PT w2.heap.size 0) (w' := w2.alloc (.cells ([Value.pointer none] : List Value).toArray 120)) rfl rfl rfl (ex_madeQ rfl) ?_
 simp only [Act.put, sa, sz, ss]
 have o_γs3 : Hid (w.heap.size ≤ w2.heap.size) := H2.out.2.size
 have H3 : Hid (Mm (w2.alloc (.cells ([Value.pointer none] : List Value).toArray 120)) ((w2.heap.size, [Value.pointer none]) :: [(γ2_1, zO n), (γ1_0, [Value.nilFunc, Value.nilFunc, Value.nilFunc, Value.nilFunc, Value.nilFunc] ++ (cel [0, 0] ++ [Value.nilFunc, Value.int .i64 0]))]) ∧ Below w.heap.size w (w2.alloc (.cells ([Value.pointer none] : List Value).toArray 120))) := ⟨H2.out.1.alloc _ 120 rfl, H2.out.2.alloc H2.out.2.size _⟩
 clear H2
 generalize hgw : w2.alloc (.cells ([Value.pointer none] : List Value).toArray 120) = w3 at H3 ⊢
 clear hgw
 generalize w2.heap.size = γs3 at o_γs3 H3 ⊢
 refine zI rfl rfl rfl (ex_storeQ H3.out.1 0 rfl rfl rfl rfl (Nat.le_of_ble_eq_true rfl)) ?_
 have H4 : Hid (Mm (w3.setCells γs3 0 [PT γ2_1 0]) [(γs3, [PT γ2_1 0]), (γ2_1, zO n), (γ1_0, [Value.nilFunc, Value.nilFunc, Value.nilFunc, Value.nilFunc, Value.nilFunc] ++ (cel [0, 0] ++ [Value.nilFunc, Value.int .i64 0]))] ∧ Below w.heap.size w (w3.setCells γs3 0 [PT γ2_1 0])) := ⟨H3.out.1.put 0 (off := 0) (vs := [PT γ2_1 0]) rfl (Nat.le_of_ble_eq_true rfl), zF _ o_γs3.out _ _ _ H3.out.2⟩
 clear H3
 generalize hgw : World.setCells _ _ _ _ = w4 at H4 ⊢
 clear hgw
 refine zM (d := 2) rfl rfl rfl rfl ?_
 simp only [Act.put, sa, sz, ss]
 refine zH (zA (wp_seq ?_))
 refine zD 3 [.call (N qtr), .made zero6 24, .laid 1 zero6 (zB qtr)] (sB H4) ?ho3 ?he3 (hL := ?hL3)
 case hL3 => exact ⟨⟨_, rfl⟩, trivial⟩
 case ho3 => exact ac (fun w' h => ⟨51, #[.string ⟨#[53, 102, 49, 57, 54, 55, 50, 102, 100, 102, 55, 54, 99, 101, 53, 49, 98, 97, 54, 57, 99, 54, 48, 55, 54, 97, 48, 102, 55, 55, 101, 97, 100, 100, 98, 51, 97, 57, 51, 98, 101, 54, 102, 56, 57, 54, 56, 56, 100, 101, 49, 55, 100, 56, 49, 51, 54, 50, 48, 97, 48, 48, 48, 50, 50, 101, 48, 49, 102, 102, 102, 102, 102, 102, 102, 101, 102, 102, 102, 101]⟩], zC rfl call51 rfl (zY rfl), CTR.out w'⟩) (ak (fun γ => ⟨rfl, fun w' => zK rfl⟩) (ak (fun γ => ⟨rfl, rfl, rfl, fun w' h => zX h rfl rfl rfl⟩) trivial))
 intro γ w5 l hM hl
 have H5 : Hid (Mm w5 [(γ 1, zB qtr), (γs3, [PT γ2_1 0]), (γ2_1, zO n), (γ1_0, [Value.nilFunc, Value.nilFunc, Value.nilFunc, Value.nilFunc, Value.nilFunc] ++ (cel [0, 0] ++ [Value.nilFunc, Value.int .i64 0]))] ∧ _) := zT H4 hM (Nat.le_refl _) hl [1] rfl (by decide)
 have o3_1 := zQ H4 hM (Nat.le_refl _) hl (i := 1) rfl
 clear hM hl l H4
 generalize γ 1 = γ3_1 at H5 o3_1 ⊢
 clear γ
 refine zG rfl (zA (wp_seq ?_))
 refine yC 13 [.quiet (PT γ2_1 0), .quiet (.func (.func 83) #[PT γ2_1 0] #[]), .quiet (PT γ2_1 0), .quiet (.func (.func 84) #[PT γ2_1 0] #[]), .quiet (PT γ2_1 0), .quiet (.func (.func 85) #[PT γ2_1 0] #[]), .quiet (PT γ2_1 0), .quiet (.func (.func 86) #[PT γ2_1 0] #[]), .call (N one), .quiet (.agg ([Value.func (.func 83) #[PT γ2_1 0] #[], Value.func (.func 84) #[PT γ2_1 0] #[], Value.func (.func 85) #[PT γ2_1 0] #[], Value.func (.func 86) #[PT γ2_1 0] #[], Value.func (.func 87) #[] #[]] ++ cel [one]).toArray), .call (N four), .quiet (.func (.func 88) #[] #[PT γs3 0, PT γ3_1 0]), .quiet (.agg (G1 γ2_1 (.func (.func 88) #[] #[PT γs3 0, PT γ3_1 0]) one four).toArray)] H5 ?ho4 ?he4
 case ho4 => exact aq (fun w' h => lC h 1 Tryz.isAgg120) (ak (fun γ => ⟨rfl, fun w' _ => ex_makeM rfl (zY rfl)⟩) (aq (fun w' h => lC h 1 Tryz.isAgg120) (ak (fun γ => ⟨rfl, fun w' _ => ex_makeM rfl (zY rfl)⟩) (aq (fun w' h => lC h 1 Tryz.isAgg120) (ak (fun γ => ⟨rfl, fun w' _ => ex_makeM rfl (zY rfl)⟩) (aq (fun w' h => lC h 1 Tryz.isAgg120) (ak (fun γ => ⟨rfl, fun w' _ => ex_makeM rfl (zY rfl)⟩) (ac (fun w' h => ⟨71, #[.int .u64 1], zC rfl call71 rfl (zY rfl), CO.out w'⟩) (ak (fun γ => ⟨rfl, fun w' _ => ex_buildFN rfl rfl rfl rfl rfl rfl rfl⟩) (ac (fun w' h => ⟨71, #[.int .u64 4], zC rfl call71 rfl (zY rfl), CF.out w'⟩) (ak (fun γ => ⟨rfl, fun w' _ => ex_makeC rfl (zY rfl)⟩) (ak (fun γ => ⟨rfl, fun w' _ => ex_buildGN rfl rfl rfl rfl rfl⟩) trivial))))))))))))
 intro _ w6 H6
 clear H5
 refine zJ (l := [13]) rfl ?_
 refine zI rfl rfl rfl (ex_storeT (vs := G1 γ2_1 (.func (.func 88) #[] #[PT γs3 0, PT γ3_1 0]) one four) H6.out.1 3 rfl rfl rfl rfl Tryz.sizeOf81 rfl (Nat.le_of_ble_eq_true rfl)) ?_
 have H7 : Hid (Mm (w6.setCells γ1_0 0 (G1 γ2_1 (.func (.func 88) #[] #[PT γs3 0, PT γ3_1 0]) one four)) [(γ3_1, zB qtr), (γs3, [PT γ2_1 0]), (γ2_1, zO n), (γ1_0, G1 γ2_1 (.func (.func 88) #[] #[PT γs3 0, PT γ3_1 0]) one four)] ∧ Below w.heap.size w (w6.setCells γ1_0 0 (G1 γ2_1 (.func (.func 88) #[] #[PT γs3 0, PT γ3_1 0]) one four))) := ⟨H6.out.1.put 3 (off := 0) (vs := G1 γ2_1 (.func (.func 88) #[] #[PT γs3 0, PT γ3_1 0]) one four) rfl (Nat.le_of_ble_eq_true rfl), zF _ o1_0.out _ _ _ H6.out.2⟩
 clear H6
 generalize hgw : World.setCells _ _ _ _ = w7 at H7 ⊢
 clear hgw
 refine zH (zA (wp_ret ?_))
 repeat (first | refine zN ?_ | refine zL ?_)
 have hf0 := var_T H7.out.1 3 rfl Tryz.isAgg81 Tryz.sizeOf81 rfl
 refine bodyPost_ret (v := .agg (G1 γ2_1 (.func (.func 88) #[] #[PT γs3 0, PT γ3_1 0]) one four).toArray) (by simp [results, Tryz.results47, asAddr, hf0]) rfl ?_
 exact ⟨H7.out.2, γ2_1, _, _, rfl, o2_1.out, H7.out.1.lt (List.mem_of_getElem? (i := 2) rfl), (H7.out.1.blk _ (List.mem_of_getElem? (i := 2) rfl)).2⟩
set_option maxHeartbeats 2000000 in
theorem second_gen (one four : Nat) (qtx1 qty0 qty1 : Nat) (ctx1 : ∀ w, Calls Tryz.prog 51 #[.string ⟨#[49, 97, 48, 49, 49, 49, 101, 97, 51, 57, 55, 102, 101, 54, 57, 57, 101, 99, 48, 50, 52, 48, 56, 54, 54, 51, 100, 52, 100, 101, 56, 53, 97, 97, 48, 100, 56, 53, 55, 100, 56, 57, 55, 53, 57, 97, 100, 52, 56, 57, 55, 100, 50, 57, 54, 53, 48, 102, 98, 56, 53, 102, 57, 98, 52, 48, 57, 52, 50, 55, 101, 98, 52, 102, 52, 57, 102, 102, 102, 100, 56, 98, 102, 100, 48, 48, 48, 48, 48, 48, 48, 48, 97, 97, 97, 100]⟩] w (Rt w (N qtx1))) (cty0 : ∀ w, Calls Tryz.prog 51 #[.string ⟨#[49, 51, 53, 50, 48, 51, 101, 54, 48, 49, 56, 48, 97, 54, 56, 101, 101, 50, 101, 57, 99, 52, 52, 56, 100, 55, 55, 97, 50, 99, 100, 57, 49, 99, 51, 100, 101, 100, 100, 57, 51, 48, 98, 49, 99, 102, 54, 48, 101, 102, 51, 57, 54, 52, 56, 57, 102, 54, 49, 101, 98, 52, 53, 101, 51, 48, 52, 52, 54, 54, 99, 102, 51, 101, 54, 55, 102, 97, 48, 97, 102, 49, 101, 101, 55, 98, 48, 52, 49, 50, 49, 98, 100, 101, 97, 50]⟩] w (Rt w (N qty0))) (cty1 : ∀ w, Calls Tryz.prog 51 #[.string ⟨#[54, 97, 102, 48, 101, 48, 52, 51, 55, 102, 102, 52, 48, 48, 98, 54, 56, 51, 49, 101, 51, 54, 100, 54, 98, 100, 49, 55, 102, 102, 101, 52, 56, 51, 57, 53, 100, 97, 98, 99, 50, 100, 51, 52, 51, 53, 101, 55, 55, 102, 55, 54, 101, 49, 55, 48, 48, 57, 50, 52, 49, 99, 53, 101, 101, 54, 55, 57, 57, 50, 102, 55, 50, 101, 99, 48, 53, 102, 52, 99, 56, 49, 48, 56, 52, 102, 98, 101, 100, 101, 51, 99, 99, 48, 57]⟩] w (Rt w (N qty1))) (co : ∀ w, Calls Tryz.prog 71 #[.int .u64 1] w (Rt w (N one))) (cf : ∀ w, Calls Tryz.prog 71 #[.int .u64 4] w (Rt w (N four))) (w : World) :
  Calls Tryz.prog 62 #[] w fun e w' => Below w.heap.size w w' ∧ ∃ g x, ∃ _y : Nat, e = .returned (.agg (G2 (.func (.func 108) #[] #[PT g 0, PT x 0]) one 0 four four).toArray) ∧ w.heap.size ≤ g ∧ g < w'.heap.size ∧ Blk w' g [] := by
 have H0 : Hid (_ ∧ _) := ⟨Mm.nil w, Below.refl w.heap.size w⟩
 have CTX1 : Hid _ := ctx1
 clear ctx1
 have CTY0 : Hid _ := cty0
 clear cty0
 have CTY1 : Hid _ := cty1
 clear cty1
 have CO : Hid _ := co
 clear co
 have CF : Hid _ := cf
 clear cf
 go_enter Tryz.func62, Tryz.ntmps62
 refine wp_seq ?_
 refine zD 1 [.made ([Value.nilFunc, Value.nilFunc, Value.nilFunc, Value.nilFunc, Value.nilFunc] ++ (cel [0, 0, 0, 0] ++ [Value.nilFunc, Value.int .i64 0])) 101] (sB H0) ?ho1 ?he1
 case ho1 => exact ak (fun γ => ⟨rfl, fun w' => ex_madeGE rfl⟩) trivial
 intro γ w1 l hM hl
 have H1 : Hid (Mm w1 [(γ 0, [Value.nilFunc, Value.nilFunc, Value.nilFunc, Value.nilFunc, Value.nilFunc] ++ (cel [0, 0, 0, 0] ++ [Value.nilFunc, Value.int .i64 0]))] ∧ _) := zT H0 hM (Nat.le_refl _) hl [0] rfl (by decide)
 have o1_0 := zQ H0 hM (Nat.le_refl _) hl (i := 0) rfl
 clear hM hl l
 generalize γ 0 = γ1_0 at H1 o1_0 ⊢
 clear γ
 refine zG rfl (zA (wp_seq ?_))
 refine zD 10 [.quiet (N 0), .call (N qtx1), .quiet (V [0, qtx1]), .call (N qty0), .call (N qty1), .quiet (V [qty0, qty1]), .made (cel [0, 0]) 40, .made (cel [0, 0]) 40, .laid 6 (cel [0, 0]) (cel [0, qtx1]), .laid 7 (cel [0, 0]) (cel [qty0, qty1])] (sB H1) ?ho2 ?he2 (hL := ?hL2)
 case hL2 => exact ⟨⟨_, rfl⟩, ⟨_, rfl⟩, trivial⟩
 case ho2 => exact ak (by refine fun γ => ⟨rfl, fun w' h => ?_⟩; clear h; exact ex_zero6 rfl) (ac (fun w' h => ⟨51, #[.string ⟨#[49, 97, 48, 49, 49, 49, 101, 97, 51, 57, 55, 102, 101, 54, 57, 57, 101, 99, 48, 50, 52, 48, 56, 54, 54, 51, 100, 52, 100, 101, 56, 53, 97, 97, 48, 100, 56, 53, 55, 100, 56, 57, 55, 53, 57, 97, 100, 52, 56, 57, 55, 100, 50, 57, 54, 53, 48, 102, 98, 56, 53, 102, 57, 98, 52, 48, 57, 52, 50, 55, 101, 98, 52, 102, 52, 57, 102, 102, 102, 100, 56, 98, 102, 100, 48, 48, 48, 48, 48, 48, 48, 48, 97, 97, 97, 100]⟩], zC rfl call51 rfl (zY rfl), CTX1.out w'⟩) (ak (fun γ => ⟨rfl, fun w' _ => ex_buildE2 rfl rfl rfl⟩) (ac (fun w' h => ⟨51, #[.string ⟨#[49, 51, 53, 50, 48, 51, 101, 54, 48, 49, 56, 48, 97, 54, 56, 101, 101, 50, 101, 57, 99, 52, 52, 56, 100, 55, 55, 97, 50, 99, 100, 57, 49, 99, 51, 100, 101, 100, 100, 57, 51, 48, 98, 49, 99, 102, 54, 48, 101, 102, 51, 57, 54, 52, 56, 57, 102, 54, 49, 101, 98, 52, 53, 101, 51, 48, 52, 52, 54, 54, 99, 102, 51, 101, 54, 55, 102, 97, 48, 97, 102, 49, 101, 101, 55, 98, 48, 52, 49, 50, 49, 98, 100, 101, 97, 50]⟩], zC rfl call51 rfl (zY rfl), CTY0.out w'⟩) (ac (fun w' h => ⟨51, #[.string ⟨#[54, 97, 102, 48, 101, 48, 52, 51, 55, 102, 102, 52, 48, 48, 98, 54, 56, 51, 49, 101, 51, 54, 100, 54, 98, 100, 49, 55, 102, 102, 101, 52, 56, 51, 57, 53, 100, 97, 98, 99, 50, 100, 51, 52, 51, 53, 101, 55, 55, 102, 55, 54, 101, 49, 55, 48, 48, 57, 50, 52, 49, 99, 53, 101, 101, 54, 55, 57, 57, 50, 102, 55, 50, 101, 99, 48, 53, 102, 52, 99, 56, 49, 48, 56, 52, 102, 98, 101, 100, 101, 51, 99, 99, 48, 57]⟩], zC rfl call51 rfl (zY rfl), CTY1.out w'⟩) (ak (fun γ => ⟨rfl, fun w' _ => ex_buildE2 rfl rfl rfl⟩) (ak (fun γ => ⟨rfl, fun w' => ex_madeE2 rfl⟩) (ak (fun γ => ⟨rfl, fun w' => ex_madeE2 rfl⟩) (ak (fun γ => ⟨rfl, rfl, rfl, fun w' h => ex_laidA h rfl Tryz.sizeOf40 rfl rfl rfl⟩) (ak (fun γ => ⟨rfl, rfl, rfl, fun w' h => ex_laidA h rfl Tryz.sizeOf40 rfl rfl rfl⟩) trivial)))))))))
 intro γ w2 l hM hl
 have H2 : Hid (Mm w2 [(γ 6, cel [0, qtx1]), (γ 7, cel [qty0, qty1]), (γ1_0, [Value.nilFunc, Value.nilFunc, Value.nilFunc, Value.nilFunc, Value.nilFunc] ++ (cel [0, 0, 0, 0] ++ [Value.nilFunc, Value.int .i64 0]))] ∧ _) := zT H1 hM (Nat.le_refl _) hl [6, 7] rfl (by decide)
 have o2_6 := zQ H1 hM (Nat.le_refl _) hl (i := 6) rfl
 have o2_7 := zQ H1 hM (Nat.le_refl _) hl (i := 7) rfl
 clear hM hl l H1
 generalize γ 6 = γ2_6 at H2 o2_6 ⊢
 generalize γ 7 = γ2_7 at H2 o2_7 ⊢
 clear γ
 refine zG rfl (zA (wp_seq ?_))
 refine zE 8 [.call (N one), .quiet (V [one, 0]), .quiet (.agg ([Value.func (.func 103) #[] #[], Value.func (.func 104) #[] #[], Value.func (.func 105) #[] #[], Value.func (.func 106) #[] #[], Value.func (.func 107) #[] #[]] ++ cel [one, 0]).toArray), .call (N four), .call (N four), .quiet (V [four, four]), .quiet (.func (.func 108) #[] #[PT γ2_6 0, PT γ2_7 0]), .quiet (.agg (G2 (.func (.func 108) #[] #[PT γ2_6 0, PT γ2_7 0]) one 0 four four).toArray)] H2 ?ho3 ?he3
 case ho3 => exact ac (fun w' h => ⟨71, #[.int .u64 1], zC rfl call71 rfl (zY rfl), CO.out w'⟩) (ak (fun γ => ⟨rfl, fun w' _ => ex_buildE2a rfl rfl⟩) (ak (fun γ => ⟨rfl, fun w' _ => ex_buildFE rfl rfl rfl rfl rfl rfl rfl⟩) (ac (fun w' h => ⟨71, #[.int .u64 4], zC rfl call71 rfl (zY rfl), CF.out w'⟩) (ac (fun w' h => ⟨71, #[.int .u64 4], zC rfl call71 rfl (zY rfl), CF.out w'⟩) (ak (fun γ => ⟨rfl, fun w' _ => ex_buildE2 rfl rfl rfl⟩) (ak (fun γ => ⟨rfl, fun w' _ => ex_makeC rfl (zY rfl)⟩) (ak (fun γ => ⟨rfl, fun w' _ => ex_buildGE rfl rfl rfl rfl rfl⟩) trivial)))))))
 intro _ w3 H3
 clear H2
 refine zJ (l := [8]) rfl ?_
 refine zI rfl rfl rfl (ex_storeT (vs := G2 (.func (.func 108) #[] #[PT γ2_6 0, PT γ2_7 0]) one 0 four four) H3.out.1 2 rfl rfl rfl rfl Tryz.sizeOf101 rfl (Nat.le_of_ble_eq_true rfl)) ?_
 have H4 : Hid (Mm (w3.setCells γ1_0 0 (G2 (.func (.func 108) #[] #[PT γ2_6 0, PT γ2_7 0]) one 0 four four)) [(γ2_6, cel [0, qtx1]), (γ2_7, cel [qty0, qty1]), (γ1_0, G2 (.func (.func 108) #[] #[PT γ2_6 0, PT γ2_7 0]) one 0 four four)] ∧ Below w.heap.size w (w3.setCells γ1_0 0 (G2 (.func (.func 108) #[] #[PT γ2_6 0, PT γ2_7 0]) one 0 four four))) := ⟨H3.out.1.put 2 (off := 0) (vs := G2 (.func (.func 108) #[] #[PT γ2_6 0, PT γ2_7 0]) one 0 four four) rfl (Nat.le_of_ble_eq_true rfl), zF _ o1_0.out _ _ _ H3.out.2⟩
 clear H3
 generalize hgw : World.setCells _ _ _ _ = w4 at H4 ⊢
 clear hgw
 refine zH (zA (wp_ret ?_))
 repeat (first | refine zN ?_ | refine zL ?_)
 have hf0 := var_T H4.out.1 2 rfl Tryz.isAgg101 Tryz.sizeOf101 rfl
 refine bodyPost_ret (v := .agg (G2 (.func (.func 108) #[] #[PT γ2_6 0, PT γ2_7 0]) one 0 four four).toArray) (by simp [results, Tryz.results62, asAddr, hf0]) rfl ?_
 exact ⟨H4.out.2, γ2_6, _, 0, rfl, o2_6.out, H4.out.1.lt (List.mem_of_getElem? (i := 0) rfl), fun j v hj => by simp at hj⟩
theorem below_gen (a n : Nat) (r : Int) (cb : ∀ w, Calls Tryz.prog 82 #[] w (Rt w (N n))) (cc : ∀ w, Calls Tryz.prog 133 #[N a, N n] w (Rt w (.int .i64 r))) (bl : Bool) (hr : decide (r < 0) = bl) (w : World) :
  Calls Tryz.prog 87 #[N a] w (Rt w (.bool bl)) := by
 have H0 : Hid (_ ∧ _) := ⟨Mm.nil w, Below.refl w.heap.size w⟩
 have CB : Hid _ := cb
 clear cb
 have CC : Hid _ := cc
 clear cc
 have HR : Hid _ := hr
 clear hr
 go_enter Tryz.func87, Tryz.ntmps87
 refine wp_seq ?_
 refine zD 2 [.made (zB a) 24, .quiet (.bool false)] (sB H0) ?ho1 ?he1
 case ho1 => exact ak (fun γ => ⟨rfl, fun w' => ex_box6 rfl rfl⟩) (ar trivial)
 intro γ w1 l hM hl
 have H1 : Hid (Mm w1 [(γ 0, zB a)] ∧ _) := zT H0 hM (Nat.le_refl _) hl [0] rfl (by decide)
 have o1_0 := zQ H0 hM (Nat.le_refl _) hl (i := 0) rfl
 clear hM hl l
 generalize γ 0 = γ1_0 at H1 o1_0 ⊢
 clear γ
 refine zG rfl (zA (wp_seq ?_))
 refine yC 5 [.quiet (N a), .call (N n), .call (.int .i64 r), .quiet (.bool bl), .quiet (.bool bl)] H1 ?ho2 ?he2
 case ho2 => exact aq (fun w' h => l6 h 0) (ac (fun w' h => ⟨82, #[], zC rfl call82 rfl (zY rfl), CB.out w'⟩) (ac (fun w' h => ⟨133, #[N a, N n], zC rfl call133 rfl (zY rfl), CC.out w'⟩) (ak (by refine fun γ => ⟨rfl, fun w' h => ?_⟩; clear h; rw [← HR.out]; go_simp) (ar trivial))))
 intro _ w2 H2
 clear H1
 refine zG rfl (zA (wp_ret ?_))
 repeat (first | refine zN ?_ | refine zL ?_)
 refine bodyPost_ret (v := .bool bl) (by simp [results, Tryz.results87, go_sem, *]) rfl ?_
 exact ⟨rfl, H2.out.2⟩
theorem belowF_gen (a0 a1 : Nat) (ca : ∀ w, Calls Tryz.prog 87 #[N a0] w (Rt w (.bool false))) (w : World) :
  Calls Tryz.prog 107 #[V [a0, a1]] w (Rt w (.bool false)) := by
 have H0 : Hid (_ ∧ _) := ⟨Mm.nil w, Below.refl w.heap.size w⟩
 have CA : Hid _ := ca
 clear ca
 go_enter Tryz.func107, Tryz.ntmps107
 refine wp_seq ?_
 refine zD 2 [.made (cel [a0, a1]) 40, .quiet (.bool false)] (sB H0) ?ho1 ?he1
 case ho1 => exact ak (fun γ => ⟨rfl, fun w' => ex_boxA rfl rfl⟩) (ar trivial)
 intro γ w1 l hM hl
 have H1 : Hid (Mm w1 [(γ 0, cel [a0, a1])] ∧ _) := zT H0 hM (Nat.le_refl _) hl [0] rfl (by decide)
 have o1_0 := zQ H0 hM (Nat.le_refl _) hl (i := 0) rfl
 clear hM hl l
 generalize γ 0 = γ1_0 at H1 o1_0 ⊢
 clear γ
 refine zG rfl (zA (wp_seq ?_))
 refine zE 9 [.quiet (PT γ1_0 0), .quiet (N a0), .call (.bool false), .quiet (.bool false), .gone, .gone, .gone, .quiet (.bool false), .quiet (.bool false)] H1 ?ho2 ?he2
 case ho2 => exact ag (aq (fun w' h => zZ (i := 0) h 0 rfl rfl rfl rfl) (ac (fun w' h => ⟨87, #[N a0], zC rfl call87 rfl (zY rfl), CA.out w'⟩) (ar (ak (fun γ => rfl) (ak (fun γ => rfl) (ak (fun γ => rfl) (ag (ar trivial))))))))
 intro _ w2 H2
 clear H1
 refine zG rfl (zA (wp_ret ?_))
 repeat (first | refine zN ?_ | refine zL ?_)
 refine bodyPost_ret (v := .bool false) (by simp [results, Tryz.results107, go_sem, *]) rfl ?_
 exact ⟨rfl, H2.out.2⟩
theorem belowT_gen (a0 a1 : Nat) (ca : ∀ w, Calls Tryz.prog 87 #[N a0] w (Rt w (.bool true))) (b1 : Bool) (cb : ∀ w, Calls Tryz.prog 87 #[N a1] w (Rt w (.bool b1))) (w : World) :
  Calls Tryz.prog 107 #[V [a0, a1]] w (Rt w (.bool b1)) := by
 have H0 : Hid (_ ∧ _) := ⟨Mm.nil w, Below.refl w.heap.size w⟩
 have CA : Hid _ := ca
 clear ca
 have CB : Hid _ := cb
 clear cb
 go_enter Tryz.func107, Tryz.ntmps107
 refine wp_seq ?_
 refine zD 2 [.made (cel [a0, a1]) 40, .quiet (.bool false)] (sB H0) ?ho1 ?he1
 case ho1 => exact ak (fun γ => ⟨rfl, fun w' => ex_boxA rfl rfl⟩) (ar trivial)
 intro γ w1 l hM hl
 have H1 : Hid (Mm w1 [(γ 0, cel [a0, a1])] ∧ _) := zT H0 hM (Nat.le_refl _) hl [0] rfl (by decide)
 have o1_0 := zQ H0 hM (Nat.le_refl _) hl (i := 0) rfl
 clear hM hl l
 generalize γ 0 = γ1_0 at H1 o1_0 ⊢
 clear γ
 refine zG rfl (zA (wp_seq ?_))
 refine zE 9 [.quiet (PT γ1_0 0), .quiet (N a0), .call (.bool true), .quiet (.bool true), .quiet (PT γ1_0 6), .quiet (N a1), .call (.bool b1), .quiet (.bool b1), .quiet (.bool b1)] H1 ?ho2 ?he2
 case ho2 => exact ag (aq (fun w' h => zZ (i := 0) h 0 rfl rfl rfl rfl) (ac (fun w' h => ⟨87, #[N a0], zC rfl call87 rfl (zY rfl), CA.out w'⟩) (ar (ag (aq (fun w' h => zZ (i := 1) h 0 rfl rfl rfl rfl) (ac (fun w' h => ⟨87, #[N a1], zC rfl call87 rfl (zY rfl), CB.out w'⟩) (ag (ar trivial))))))))
 intro _ w2 H2
 clear H1
 refine zG rfl (zA (wp_ret ?_))
 repeat (first | refine zN ?_ | refine zL ?_)
 refine bodyPost_ret (v := .bool b1) (by simp [results, Tryz.results107, go_sem, *]) rfl ?_
 exact ⟨rfl, H2.out.2⟩
end Rg
end Go.Proofs.YtaomlijondiaoaaGreatDoor
end
section
namespace Go.Proofs.YtaomlijondiaoaaGreatDoor
open Go.RowKit
namespace Rg
set_option maxHeartbeats 2000000 in
theorem Check_1 (one four x y : Nat) (zb bz : Bool) (cf : ∀ w, Calls Tryz.prog 47 #[] w fun e w' => Below w.heap.size w w' ∧ ∃ g x y, e = .returned (.agg (G1 g (.func (.func 88) #[] #[PT x 0, PT y 0]) one four).toArray) ∧ w.heap.size ≤ g ∧ g < w'.heap.size ∧ Blk w' g (zO pB)) (cm : ∀ g tn w, Mm w [(g, zO pB), (0, dtab)] → Calls Tryz.prog 48 #[(.agg (G1 g tn one four).toArray), .agg (cel [x, y] ++ [Value.bool zb]).toArray] w (Rt w (.bool bz))) (w : World) (hm : Mm w [(0, dtab)]) :
  Calls Tryz.prog 10 #[.agg (cel [x, y] ++ [Value.bool zb]).toArray] w (Rt w (.bool bz)) := by
 have H0 : Hid (_ ∧ _) := ⟨hm, Below.refl w.heap.size w⟩
 clear hm
 have CF : Hid _ := cf
 clear cf
 have CM : Hid _ := cm
 clear cm
 go_enter Tryz.func10, Tryz.ntmps10
 refine wp_seq ?_
 refine zD 2 [.made (cel [x, y] ++ [Value.bool zb]) 26, .quiet (.bool false)] (sB H0) ?ho1 ?he1
 case ho1 => exact ak (fun γ => ⟨rfl, fun w' => yF rfl rfl⟩) (ar trivial)
 intro γ w1 l hM hl
 have H1 : Hid (Mm w1 [(γ 0, cel [x, y] ++ [Value.bool zb]), (0, dtab)] ∧ _) := zT H0 hM (Nat.le_refl _) hl [0] rfl (by decide)
 have o1_0 := zQ H0 hM (Nat.le_refl _) hl (i := 0) rfl
 clear hM hl l
 generalize γ 0 = γ1_0 at H1 o1_0 ⊢
 clear γ
 refine zG rfl (zA (wp_seq ?_))
 refine yB 4 [.bornX (fun g x y => .agg (G1 g (.func (.func 88) #[] #[PT x 0, PT y 0]) one four).toArray) (zO pB), .quiet (.agg (cel [x, y] ++ [Value.bool zb]).toArray), .over (.bool bz) 0 (zO pB), .quiet (.bool bz)] (sB H1) ?ho2 ?he2 (hL := ?hL2)
 case hL2 => exact ⟨⟨_, rfl⟩, trivial⟩
 case ho2 => exact ak (fun γ => ⟨rfl, fun w' h => ⟨47, #[], zC rfl call47 rfl (zY rfl), CF.out w'⟩⟩) (aq (fun w' h => lT h 0 Tryz.isAgg26 Tryz.sizeOf26) (ak (fun γ => ⟨rfl, fun u w' h0 hge h1 hb hlt => by have h := Mm.over h0 hge h1 hb hlt; exact ⟨48, #[.agg (G1 (γ 0) (.func (.func 88) #[] #[PT (γ 65536) 0, PT (γ 131072) 0]) one four).toArray, .agg (cel [x, y] ++ [Value.bool zb]).toArray], zC rfl call48 rfl (zY rfl), CM.out _ _ w' (h.two 0 2 rfl rfl (by decide))⟩⟩) (ar trivial)))
 intro γ w2 l hM hl
 have H2 : Hid (Mm w2 [(γ 0, zO pB), (γ1_0, cel [x, y] ++ [Value.bool zb]), (0, dtab)] ∧ _) := zT H1 hM (Nat.le_refl _) hl [0] rfl (by decide)
 have o2_0 := zQ H1 hM (Nat.le_refl _) hl (i := 0) rfl
 clear hM hl l H1
 generalize γ 0 = γ2_0 at H2 o2_0 ⊢
 generalize γ 65536 = γ2_65536
 generalize γ 131072 = γ2_131072
 clear γ
 refine zG rfl (zA (wp_ret ?_))
 repeat (first | refine zN ?_ | refine zL ?_)
 refine bodyPost_ret (v := .bool bz) (by simp [results, Tryz.results10, go_sem, *]) rfl ?_
 exact ⟨rfl, H2.out.2⟩
set_option maxHeartbeats 2000000 in
theorem Neg_1 (one four x y r k : Nat) (zb zr : Bool) (er : Int) (cf : ∀ w, Calls Tryz.prog 47 #[] w fun e w' => Below w.heap.size w w' ∧ ∃ g x y, e = .returned (.agg (G1 g (.func (.func 88) #[] #[PT x 0, PT y 0]) one four).toArray) ∧ w.heap.size ≤ g ∧ g < w'.heap.size ∧ Blk w' g (zO pB)) (cm : ∀ g tn w, Mm w [(g, zO pB), (0, dtab)] → Calls Tryz.prog 52 #[(.agg (G1 g tn one four).toArray), .agg (cel [x, y] ++ [Value.bool zb]).toArray] w (Rt w (.tuple #[.agg (cel [r, k] ++ [Value.bool zr]).toArray, .int .i64 er]))) (w : World) (hm : Mm w [(0, dtab)]) :
  Calls Tryz.prog 15 #[.agg (cel [x, y] ++ [Value.bool zb]).toArray] w (Rt w (.tuple #[.agg (cel [r, k] ++ [Value.bool zr]).toArray, .int .i64 er])) := by
 have H0 : Hid (_ ∧ _) := ⟨hm, Below.refl w.heap.size w⟩
 clear hm
 have CF : Hid _ := cf
 clear cf
 have CM : Hid _ := cm
 clear cm
 go_enter Tryz.func15, Tryz.ntmps15
 refine wp_seq ?_
 refine zD 3 [.made (cel [x, y] ++ [Value.bool zb]) 26, .made (cel [0, 0] ++ [Value.bool false]) 26, .quiet (.int .i64 0)] (sB H0) ?ho1 ?he1
 case ho1 => exact ak (fun γ => ⟨rfl, fun w' => yF rfl rfl⟩) (ak (fun γ => ⟨rfl, fun w' => ex_madeP1 rfl⟩) (ar trivial))
 intro γ w1 l hM hl
 have H1 : Hid (Mm w1 [(γ 0, cel [x, y] ++ [Value.bool zb]), (γ 1, cel [0, 0] ++ [Value.bool false]), (0, dtab)] ∧ _) := zT H0 hM (Nat.le_refl _) hl [0, 1] rfl (by decide)
 have o1_0 := zQ H0 hM (Nat.le_refl _) hl (i := 0) rfl
 have o1_1 := zQ H0 hM (Nat.le_refl _) hl (i := 1) rfl
 clear hM hl l
 generalize γ 0 = γ1_0 at H1 o1_0 ⊢
 generalize γ 1 = γ1_1 at H1 o1_1 ⊢
 clear γ
 refine zG rfl (zA (wp_seq ?_))
 refine yB 9 [.bornX (fun g x y => .agg (G1 g (.func (.func 88) #[] #[PT x 0, PT y 0]) one four).toArray) (zO pB), .quiet (.agg (cel [x, y] ++ [Value.bool zb]).toArray), .over (.tuple #[.agg (cel [r, k] ++ [Value.bool zr]).toArray, .int .i64 er]) 0 (zO pB), .quiet (.tuple #[.agg (cel [r, k] ++ [Value.bool zr]).toArray, .int .i64 er]), .quiet (.agg (cel [r, k] ++ [Value.bool zr]).toArray), .quiet (.int .i64 er), .made (cel [0, 0] ++ [Value.bool false]) 84, .laid 6 (cel [0, 0] ++ [Value.bool false]) (cel [r, k] ++ [Value.bool zr]), .quiet (.int .i64 er)] (sB H1) ?ho2 ?he2 (hL := ?hL2)
 case hL2 => exact ⟨⟨_, rfl⟩, ⟨_, rfl⟩, trivial⟩
 case ho2 => exact ak (fun γ => ⟨rfl, fun w' h => ⟨47, #[], zC rfl call47 rfl (zY rfl), CF.out w'⟩⟩) (aq (fun w' h => lT h 0 Tryz.isAgg26 Tryz.sizeOf26) (ak (fun γ => ⟨rfl, fun u w' h0 hge h1 hb hlt => by have h := Mm.over h0 hge h1 hb hlt; exact ⟨52, #[.agg (G1 (γ 0) (.func (.func 88) #[] #[PT (γ 65536) 0, PT (γ 131072) 0]) one four).toArray, .agg (cel [x, y] ++ [Value.bool zb]).toArray], zC rfl call52 rfl (zY rfl), CM.out _ _ w' (h.two 0 3 rfl rfl (by decide))⟩⟩) (ar (ag (ag (ak (fun γ => ⟨rfl, fun w' => ex_madePN rfl⟩) (ak (fun γ => ⟨rfl, rfl, rfl, fun w' h => ex_laidT h rfl rfl Tryz.sizeOf84 rfl rfl rfl⟩) (ar trivial))))))))
 intro γ w2 l hM hl
 have H2 : Hid (Mm w2 [(γ 0, zO pB), (γ 6, cel [r, k] ++ [Value.bool zr]), (γ1_0, cel [x, y] ++ [Value.bool zb]), (γ1_1, cel [0, 0] ++ [Value.bool false]), (0, dtab)] ∧ _) := zT H1 hM (Nat.le_refl _) hl [0, 6] rfl (by decide)
 have o2_0 := zQ H1 hM (Nat.le_refl _) hl (i := 0) rfl
 have o2_6 := zQ H1 hM (Nat.le_refl _) hl (i := 6) rfl
 clear hM hl l H1
 generalize γ 0 = γ2_0 at H2 o2_0 ⊢
 generalize γ 6 = γ2_6 at H2 o2_6 ⊢
 generalize γ 65536 = γ2_65536
 generalize γ 131072 = γ2_131072
 clear γ
 refine zG rfl (zA (wp_seq ?_))
 refine zE 2 [.quiet (.agg (cel [r, k] ++ [Value.bool zr]).toArray), .quiet (.int .i64 er)] H2 ?ho3 ?he3
 case ho3 => exact aq (fun w' h => lT h 1 Tryz.isAgg84 Tryz.sizeOf84) (ar trivial)
 intro _ w3 H3
 clear H2
 refine zJ (l := [2, 3]) rfl ?_
 refine zI rfl rfl rfl (ex_storeT (vs := cel [r, k] ++ [Value.bool zr]) H3.out.1 3 rfl rfl rfl rfl Tryz.sizeOf26 rfl (Nat.le_of_ble_eq_true rfl)) ?_
 have H4 : Hid (Mm (w3.setCells γ1_1 0 (cel [r, k] ++ [Value.bool zr])) [(γ2_0, zO pB), (γ2_6, cel [r, k] ++ [Value.bool zr]), (γ1_0, cel [x, y] ++ [Value.bool zb]), (γ1_1, cel [r, k] ++ [Value.bool zr]), (0, dtab)] ∧ Below w.heap.size w (w3.setCells γ1_1 0 (cel [r, k] ++ [Value.bool zr]))) := ⟨H3.out.1.put 3 (off := 0) (vs := cel [r, k] ++ [Value.bool zr]) rfl (Nat.le_of_ble_eq_true rfl), zF _ o1_1.out _ _ _ H3.out.2⟩
 clear H3
 generalize hgw : World.setCells _ _ _ _ = w4 at H4 ⊢
 clear hgw
 refine zM (d := 3) rfl rfl rfl rfl ?_
 simp only [Act.put, sa, sz, ss]
 refine zH (zA (wp_ret ?_))
 repeat (first | refine zN ?_ | refine zL ?_)
 have hf0 := var_T H4.out.1 3 rfl Tryz.isAgg26 Tryz.sizeOf26 rfl
 refine bodyPost_ret (v := .tuple #[.agg (cel [r, k] ++ [Value.bool zr]).toArray, .int .i64 er]) (by simp [results, Tryz.results15, asAddr, Act.eval, hf0]) rfl ?_
 exact ⟨rfl, H4.out.2⟩
set_option maxHeartbeats 2000000 in
theorem Add_1 (one four x y v s r k : Nat) (zb zc zr : Bool) (er : Int) (cf : ∀ w, Calls Tryz.prog 47 #[] w fun e w' => Below w.heap.size w w' ∧ ∃ g x y, e = .returned (.agg (G1 g (.func (.func 88) #[] #[PT x 0, PT y 0]) one four).toArray) ∧ w.heap.size ≤ g ∧ g < w'.heap.size ∧ Blk w' g (zO pB)) (cm : ∀ g tn w, Mm w [(g, zO pB), (0, dtab)] → Calls Tryz.prog 53 #[(.agg (G1 g tn one four).toArray), .agg (cel [x, y] ++ [Value.bool zb]).toArray, .agg (cel [v, s] ++ [Value.bool zc]).toArray] w (Rt w (.tuple #[.agg (cel [r, k] ++ [Value.bool zr]).toArray, .int .i64 er]))) (w : World) (hm : Mm w [(0, dtab)]) :
  Calls Tryz.prog 16 #[.agg (cel [x, y] ++ [Value.bool zb]).toArray, .agg (cel [v, s] ++ [Value.bool zc]).toArray] w (Rt w (.tuple #[.agg (cel [r, k] ++ [Value.bool zr]).toArray, .int .i64 er])) := by
 have H0 : Hid (_ ∧ _) := ⟨hm, Below.refl w.heap.size w⟩
 clear hm
 have CF : Hid _ := cf
 clear cf
 have CM : Hid _ := cm
 clear cm
 go_enter Tryz.func16, Tryz.ntmps16
 refine wp_seq ?_
 refine zD 4 [.made (cel [x, y] ++ [Value.bool zb]) 26, .made (cel [v, s] ++ [Value.bool zc]) 26, .made (cel [0, 0] ++ [Value.bool false]) 26, .quiet (.int .i64 0)] (sB H0) ?ho1 ?he1
 case ho1 => exact ak (fun γ => ⟨rfl, fun w' => yF rfl rfl⟩) (ak (fun γ => ⟨rfl, fun w' => yF rfl rfl⟩) (ak (fun γ => ⟨rfl, fun w' => ex_madeP1 rfl⟩) (ar trivial)))
 intro γ w1 l hM hl
 have H1 : Hid (Mm w1 [(γ 0, cel [x, y] ++ [Value.bool zb]), (γ 1, cel [v, s] ++ [Value.bool zc]), (γ 2, cel [0, 0] ++ [Value.bool false]), (0, dtab)] ∧ _) := zT H0 hM (Nat.le_refl _) hl [0, 1, 2] rfl (by decide)
 have o1_0 := zQ H0 hM (Nat.le_refl _) hl (i := 0) rfl
 have o1_1 := zQ H0 hM (Nat.le_refl _) hl (i := 1) rfl
 have o1_2 := zQ H0 hM (Nat.le_refl _) hl (i := 2) rfl
 clear hM hl l
 generalize γ 0 = γ1_0 at H1 o1_0 ⊢
 generalize γ 1 = γ1_1 at H1 o1_1 ⊢
 generalize γ 2 = γ1_2 at H1 o1_2 ⊢
 clear γ
 refine zG rfl (zA (wp_seq ?_))
 refine yB 10 [.bornX (fun g x y => .agg (G1 g (.func (.func 88) #[] #[PT x 0, PT y 0]) one four).toArray) (zO pB), .quiet (.agg (cel [x, y] ++ [Value.bool zb]).toArray), .quiet (.agg (cel [v, s] ++ [Value.bool zc]).toArray), .over (.tuple #[.agg (cel [r, k] ++ [Value.bool zr]).toArray, .int .i64 er]) 0 (zO pB), .quiet (.tuple #[.agg (cel [r, k] ++ [Value.bool zr]).toArray, .int .i64 er]), .quiet (.agg (cel [r, k] ++ [Value.bool zr]).toArray), .quiet (.int .i64 er), .made (cel [0, 0] ++ [Value.bool false]) 84, .laid 7 (cel [0, 0] ++ [Value.bool false]) (cel [r, k] ++ [Value.bool zr]), .quiet (.int .i64 er)] (sB H1) ?ho2 ?he2 (hL := ?hL2)
 case hL2 => exact ⟨⟨_, rfl⟩, ⟨_, rfl⟩, trivial⟩
 case ho2 => exact ak (fun γ => ⟨rfl, fun w' h => ⟨47, #[], zC rfl call47 rfl (zY rfl), CF.out w'⟩⟩) (aq (fun w' h => lT h 0 Tryz.isAgg26 Tryz.sizeOf26) (aq (fun w' h => lT h 1 Tryz.isAgg26 Tryz.sizeOf26) (ak (fun γ => ⟨rfl, fun u w' h0 hge h1 hb hlt => by have h := Mm.over h0 hge h1 hb hlt; exact ⟨53, #[.agg (G1 (γ 0) (.func (.func 88) #[] #[PT (γ 65536) 0, PT (γ 131072) 0]) one four).toArray, .agg (cel [x, y] ++ [Value.bool zb]).toArray, .agg (cel [v, s] ++ [Value.bool zc]).toArray], zC rfl call53 rfl (zY rfl), CM.out _ _ w' (h.two 0 4 rfl rfl (by decide))⟩⟩) (ar (ag (ag (ak (fun γ => ⟨rfl, fun w' => ex_madePN rfl⟩) (ak (fun γ => ⟨rfl, rfl, rfl, fun w' h => ex_laidT h rfl rfl Tryz.sizeOf84 rfl rfl rfl⟩) (ar trivial)))))))))
 intro γ w2 l hM hl
 have H2 : Hid (Mm w2 [(γ 0, zO pB), (γ 7, cel [r, k] ++ [Value.bool zr]), (γ1_0, cel [x, y] ++ [Value.bool zb]), (γ1_1, cel [v, s] ++ [Value.bool zc]), (γ1_2, cel [0, 0] ++ [Value.bool false]), (0, dtab)] ∧ _) := zT H1 hM (Nat.le_refl _) hl [0, 7] rfl (by decide)
 have o2_0 := zQ H1 hM (Nat.le_refl _) hl (i := 0) rfl
 have o2_7 := zQ H1 hM (Nat.le_refl _) hl (i := 7) rfl
 clear hM hl l H1
 generalize γ 0 = γ2_0 at H2 o2_0 ⊢
 generalize γ 7 = γ2_7 at H2 o2_7 ⊢
 generalize γ 65536 = γ2_65536
 generalize γ 131072 = γ2_131072
 clear γ
 refine zG rfl (zA (wp_seq ?_))
 refine zE 2 [.quiet (.agg (cel [r, k] ++ [Value.bool zr]).toArray), .quiet (.int .i64 er)] H2 ?ho3 ?he3
 case ho3 => exact aq (fun w' h => lT h 1 Tryz.isAgg84 Tryz.sizeOf84) (ar trivial)
 intro _ w3 H3
 clear H2
 refine zJ (l := [2, 3]) rfl ?_
 refine zI rfl rfl rfl (ex_storeT (vs := cel [r, k] ++ [Value.bool zr]) H3.out.1 4 rfl rfl rfl rfl Tryz.sizeOf26 rfl (Nat.le_of_ble_eq_true rfl)) ?_
 have H4 : Hid (Mm (w3.setCells γ1_2 0 (cel [r, k] ++ [Value.bool zr])) [(γ2_0, zO pB), (γ2_7, cel [r, k] ++ [Value.bool zr]), (γ1_0, cel [x, y] ++ [Value.bool zb]), (γ1_1, cel [v, s] ++ [Value.bool zc]), (γ1_2, cel [r, k] ++ [Value.bool zr]), (0, dtab)] ∧ Below w.heap.size w (w3.setCells γ1_2 0 (cel [r, k] ++ [Value.bool zr]))) := ⟨H3.out.1.put 4 (off := 0) (vs := cel [r, k] ++ [Value.bool zr]) rfl (Nat.le_of_ble_eq_true rfl), zF _ o1_2.out _ _ _ H3.out.2⟩
 clear H3
 generalize hgw : World.setCells _ _ _ _ = w4 at H4 ⊢
 clear hgw
 refine zM (d := 5) rfl rfl rfl rfl ?_
 simp only [Act.put, sa, sz, ss]
 refine zH (zA (wp_ret ?_))
 repeat (first | refine zN ?_ | refine zL ?_)
 have hf0 := var_T H4.out.1 4 rfl Tryz.isAgg26 Tryz.sizeOf26 rfl
 refine bodyPost_ret (v := .tuple #[.agg (cel [r, k] ++ [Value.bool zr]).toArray, .int .i64 er]) (by simp [results, Tryz.results16, asAddr, Act.eval, hf0]) rfl ?_
 exact ⟨rfl, H4.out.2⟩
end Rg
end Go.Proofs.YtaomlijondiaoaaGreatDoor
end
section
namespace Go.Proofs.YtaomlijondiaoaaGreatDoor
open Go.RowKit
namespace Rg
set_option maxHeartbeats 2000000 in
theorem Check_2 (one four x0 x1 y0 y1 : Nat) (zb bz : Bool) (cf : ∀ w, Calls Tryz.prog 62 #[] w fun e w' => Below w.heap.size w w' ∧ ∃ g x, ∃ _y : Nat, e = .returned (.agg (G2 (.func (.func 108) #[] #[PT g 0, PT x 0]) one 0 four four).toArray) ∧ w.heap.size ≤ g ∧ g < w'.heap.size ∧ Blk w' g ([])) (cm : ∀ tn w, Mm w [(0, dtab)] → Calls Tryz.prog 63 #[(.agg (G2 tn one 0 four four).toArray), .agg (cel [x0, x1, y0, y1] ++ [Value.bool zb]).toArray] w (Rt w (.bool bz))) (w : World) (hm : Mm w [(0, dtab)]) :
  Calls Tryz.prog 23 #[.agg (cel [x0, x1, y0, y1] ++ [Value.bool zb]).toArray] w (Rt w (.bool bz)) := by
 have H0 : Hid (_ ∧ _) := ⟨hm, Below.refl w.heap.size w⟩
 clear hm
 have CF : Hid _ := cf
 clear cf
 have CM : Hid _ := cm
 clear cm
 go_enter Tryz.func23, Tryz.ntmps23
 refine wp_seq ?_
 refine zD 2 [.made (cel [x0, x1, y0, y1] ++ [Value.bool zb]) 42, .quiet (.bool false)] (sB H0) ?ho1 ?he1
 case ho1 => exact ak (fun γ => ⟨rfl, fun w' => yF rfl rfl⟩) (ar trivial)
 intro γ w1 l hM hl
 have H1 : Hid (Mm w1 [(γ 0, cel [x0, x1, y0, y1] ++ [Value.bool zb]), (0, dtab)] ∧ _) := zT H0 hM (Nat.le_refl _) hl [0] rfl (by decide)
 have o1_0 := zQ H0 hM (Nat.le_refl _) hl (i := 0) rfl
 clear hM hl l
 generalize γ 0 = γ1_0 at H1 o1_0 ⊢
 clear γ
 refine zG rfl (zA (wp_seq ?_))
 refine yB 4 [.bornX (fun g x y => .agg (G2 (.func (.func 108) #[] #[PT g 0, PT x 0]) one 0 four four).toArray) ([]), .quiet (.agg (cel [x0, x1, y0, y1] ++ [Value.bool zb]).toArray), .over (.bool bz) 0 ([]), .quiet (.bool bz)] (sB H1) ?ho2 ?he2 (hL := ?hL2)
 case hL2 => exact ⟨⟨_, rfl⟩, trivial⟩
 case ho2 => exact ak (fun γ => ⟨rfl, fun w' h => ⟨62, #[], zC rfl call62 rfl (zY rfl), CF.out w'⟩⟩) (aq (fun w' h => lT h 0 Tryz.isAgg42 Tryz.sizeOf42) (ak (fun γ => ⟨rfl, fun u w' h0 hge h1 hb hlt => by have h := Mm.over h0 hge h1 hb hlt; exact ⟨63, #[.agg (G2 (.func (.func 108) #[] #[PT (γ 0) 0, PT (γ 65536) 0]) one 0 four four).toArray, .agg (cel [x0, x1, y0, y1] ++ [Value.bool zb]).toArray], zC rfl call63 rfl (zY rfl), CM.out _ w' (h.one 2 rfl)⟩⟩) (ar trivial)))
 intro γ w2 l hM hl
 have H2 : Hid (Mm w2 [(γ 0, []), (γ1_0, cel [x0, x1, y0, y1] ++ [Value.bool zb]), (0, dtab)] ∧ _) := zT H1 hM (Nat.le_refl _) hl [0] rfl (by decide)
 have o2_0 := zQ H1 hM (Nat.le_refl _) hl (i := 0) rfl
 clear hM hl l H1
 generalize γ 0 = γ2_0 at H2 o2_0 ⊢
 generalize γ 65536 = γ2_65536
 clear γ
 refine zG rfl (zA (wp_ret ?_))
 repeat (first | refine zN ?_ | refine zL ?_)
 refine bodyPost_ret (v := .bool bz) (by simp [results, Tryz.results23, go_sem, *]) rfl ?_
 exact ⟨rfl, H2.out.2⟩
end Rg
end Go.Proofs.YtaomlijondiaoaaGreatDoor
end
section
namespace Go.Proofs.YtaomlijondiaoaaGreatDoor
open Go.RowKit
namespace Rg
set_option maxHeartbeats 2000000 in
theorem awake_gen (ma0 ma1 md0 md1 mh0 mh1 mh2 mh3 nn : Nat) (maz mhz : Bool) (c0 : ∀ w, Calls Tryz.prog 13 #[] w (Rt w (.agg (cel [ma0, ma1] ++ [Value.bool maz]).toArray))) (c1 : ∀ w, Mm w [(0, dtab)] → Calls Tryz.prog 16 #[.agg (cel [ma0, ma1] ++ [Value.bool maz]).toArray, .agg (cel [ma0, ma1] ++ [Value.bool maz]).toArray] w (Rt w (.tuple #[.agg (cel [md0, md1] ++ [Value.bool false]).toArray, .int .i64 0]))) (c2 : ∀ w, Calls Tryz.prog 71 #[.int .u64 2] w (Rt w (N nn))) (c3 : ∀ w, Mm w [(0, dtab)] → Calls Tryz.prog 17 #[.agg (cel [ma0, ma1] ++ [Value.bool maz]).toArray, N nn] w (Rt w (.tuple #[.agg (cel [md0, md1] ++ [Value.bool false]).toArray, .int .i64 0]))) (c4 : ∀ w, Mm w [(0, dtab)] → Calls Tryz.prog 10 #[.agg (cel [ma0, ma1] ++ [Value.bool maz]).toArray] w (Rt w (.bool true))) (c5 : ∀ w, Calls Tryz.prog 26 #[] w (Rt w (.agg (cel [mh0, mh1, mh2, mh3] ++ [Value.bool mhz]).toArray))) (c6 : ∀ w, Mm w [(0, dtab)] → Calls Tryz.prog 23 #[.agg (cel [mh0, mh1, mh2, mh3] ++ [Value.bool mhz]).toArray] w (Rt w (.bool true))) (e0 : ∀ w, (Op.equalIn 10000 26 (.agg (cel [md0, md1] ++ [Value.bool false]).toArray) (.agg (cel [md0, md1] ++ [Value.bool false]).toArray)).run Tryz.prog w = .ok true w) (w : World) (hm : Mm w [(0, dtab)]) :
  Calls Tryz.prog 35 #[] w (Rt w (.bool true)) := by
 have H0 : Hid (_ ∧ _) := ⟨hm, Below.refl w.heap.size w⟩
 clear hm
 have C0 : Hid _ := c0
 clear c0
 have C1 : Hid _ := c1
 clear c1
 have C2 : Hid _ := c2
 clear c2
 have C3 : Hid _ := c3
 clear c3
 have C4 : Hid _ := c4
 clear c4
 have C5 : Hid _ := c5
 clear c5
 have C6 : Hid _ := c6
 clear c6
 have E0 : Hid _ := e0
 clear e0
 go_enter Tryz.func35, Tryz.ntmps35
 refine wp_seq ?_
 refine zE 1 [.quiet (.bool false)] H0 ?ho1 ?he1
 case ho1 => exact ar trivial
 intro _ w1 H1
 refine zG rfl (zA (wp_seq ?_))
 refine zD 9 [.call (.agg (cel [ma0, ma1] ++ [Value.bool maz]).toArray), .call (.agg (cel [ma0, ma1] ++ [Value.bool maz]).toArray), .call (.tuple #[.agg (cel [md0, md1] ++ [Value.bool false]).toArray, .int .i64 0]), .quiet (.tuple #[.agg (cel [md0, md1] ++ [Value.bool false]).toArray, .int .i64 0]), .quiet (.agg (cel [md0, md1] ++ [Value.bool false]).toArray), .quiet (.int .i64 0), .made (cel [0, 0] ++ [Value.bool false]) 26, .laid 6 (cel [0, 0] ++ [Value.bool false]) (cel [md0, md1] ++ [Value.bool false]), .quiet (.int .i64 0)] (sB H1) ?ho2 ?he2 (hL := ?hL2)
 case hL2 => exact ⟨⟨_, rfl⟩, trivial⟩
 case ho2 => exact ac (fun w' h => ⟨13, #[], zC rfl call13 rfl (zY rfl), C0.out w'⟩) (ac (fun w' h => ⟨13, #[], zC rfl call13 rfl (zY rfl), C0.out w'⟩) (ac (fun w' h => ⟨16, #[.agg (cel [ma0, ma1] ++ [Value.bool maz]).toArray, .agg (cel [ma0, ma1] ++ [Value.bool maz]).toArray], zC rfl call16 rfl (zY rfl), C1.out w' (h.one 0 rfl)⟩) (ar (ag (ag (ak (fun γ => ⟨rfl, fun w' => ex_madeP1 rfl⟩) (ak (fun γ => ⟨rfl, rfl, rfl, fun w' h => ex_laidT h rfl rfl Tryz.sizeOf26 rfl rfl rfl⟩) (ar trivial))))))))
 intro γ w2 l hM hl
 have H2 : Hid (Mm w2 [(γ 6, cel [md0, md1] ++ [Value.bool false]), (0, dtab)] ∧ _) := zT H1 hM (Nat.le_refl _) hl [6] rfl (by decide)
 have o2_6 := zQ H1 hM (Nat.le_refl _) hl (i := 6) rfl
 clear hM hl l H1
 generalize γ 6 = γ2_6 at H2 o2_6 ⊢
 clear γ
 refine zG rfl (zA (wp_seq ?_))
 refine zD 9 [.call (.agg (cel [ma0, ma1] ++ [Value.bool maz]).toArray), .call (N nn), .call (.tuple #[.agg (cel [md0, md1] ++ [Value.bool false]).toArray, .int .i64 0]), .quiet (.tuple #[.agg (cel [md0, md1] ++ [Value.bool false]).toArray, .int .i64 0]), .quiet (.agg (cel [md0, md1] ++ [Value.bool false]).toArray), .quiet (.int .i64 0), .made (cel [0, 0] ++ [Value.bool false]) 26, .laid 6 (cel [0, 0] ++ [Value.bool false]) (cel [md0, md1] ++ [Value.bool false]), .quiet (.int .i64 0)] (sB H2) ?ho3 ?he3 (hL := ?hL3)
 case hL3 => exact ⟨⟨_, rfl⟩, trivial⟩
 case ho3 => exact ac (fun w' h => ⟨13, #[], zC rfl call13 rfl (zY rfl), C0.out w'⟩) (ac (fun w' h => ⟨71, #[.int .u64 2], zC rfl call71 rfl (zY rfl), C2.out w'⟩) (ac (fun w' h => ⟨17, #[.agg (cel [ma0, ma1] ++ [Value.bool maz]).toArray, N nn], zC rfl call17 rfl (zY rfl), C3.out w' (h.one 1 rfl)⟩) (ar (ag (ag (ak (fun γ => ⟨rfl, fun w' => ex_madeP1 rfl⟩) (ak (fun γ => ⟨rfl, rfl, rfl, fun w' h => ex_laidT h rfl rfl Tryz.sizeOf26 rfl rfl rfl⟩) (ar trivial))))))))
 intro γ w3 l hM hl
 have H3 : Hid (Mm w3 [(γ 6, cel [md0, md1] ++ [Value.bool false]), (γ2_6, cel [md0, md1] ++ [Value.bool false]), (0, dtab)] ∧ _) := zT H2 hM (Nat.le_refl _) hl [6] rfl (by decide)
 have o3_6 := zQ H2 hM (Nat.le_refl _) hl (i := 6) rfl
 clear hM hl l H2
 generalize γ 6 = γ3_6 at H3 o3_6 ⊢
 clear γ
 refine zG rfl (zA (wp_seq ?_))
 refine zE 25 [.call (.agg (cel [ma0, ma1] ++ [Value.bool maz]).toArray), .call (.bool true), .quiet (.bool true), .call (.agg (cel [mh0, mh1, mh2, mh3] ++ [Value.bool mhz]).toArray), .call (.bool true), .quiet (.bool true), .quiet (.bool true), .quiet (.agg (cel [md0, md1] ++ [Value.bool false]).toArray), .quiet (.agg (cel [md0, md1] ++ [Value.bool false]).toArray), .quiet (.bool true), .quiet (.bool true), .quiet (.bool true), .quiet (PT γ2_6 12), .quiet (.bool false), .quiet (.bool true), .quiet (.bool true), .quiet (.bool true), .quiet (.int .i64 0), .quiet (.bool true), .quiet (.bool true), .quiet (.bool true), .quiet (.int .i64 0), .quiet (.bool true), .quiet (.bool true), .quiet (.bool true)] H3 ?ho4 ?he4 (hL := ?hL4)
 case hL4 => exact trivial
 case ho4 => exact ac (fun w' h => ⟨13, #[], zC rfl call13 rfl (zY rfl), C0.out w'⟩) (ac (fun w' h => ⟨10, #[.agg (cel [ma0, ma1] ++ [Value.bool maz]).toArray], zC rfl call10 rfl (zY rfl), C4.out w' (h.one 2 rfl)⟩) (ar (ac (fun w' h => ⟨26, #[], zC rfl call26 rfl (zY rfl), C5.out w'⟩) (ac (fun w' h => ⟨23, #[.agg (cel [mh0, mh1, mh2, mh3] ++ [Value.bool mhz]).toArray], zC rfl call23 rfl (zY rfl), C6.out w' (h.one 2 rfl)⟩) (ag (ar (aq (fun w' h => lT h 1 Tryz.isAgg26 Tryz.sizeOf26) (aq (fun w' h => lT h 0 Tryz.isAgg26 Tryz.sizeOf26) (ak (fun γ => ⟨rfl, fun w' _ => exec_eqT26 E0.out rfl rfl rfl⟩) (ag (ar (ag (aq (fun w' h => lC h 1 Tryz.isAgg4) (ag (ag (ar (ar (ag (ag (ar (ar (ag (ag (ar trivial))))))))))))))))))))))))
 intro _ w4 H4
 clear H3
 refine zG rfl (zA (wp_ret ?_))
 repeat (first | refine zN ?_ | refine zL ?_)
 refine bodyPost_ret (v := .bool true) (by simp [results, Tryz.results35, go_sem, *]) rfl ?_
 exact ⟨rfl, H4.out.2⟩
set_option maxHeartbeats 2000000 in
theorem group1_no0 (ma0 ma1 mb0 mb1 md0 md1 : Nat) (maz mbz mdz : Bool) (c0 : ∀ w, Mm w [(0, dtab)] → Calls Tryz.prog 35 #[] w (Rt w (.bool true))) (c1 : ∀ w, Mm w [(0, dtab)] → Calls Tryz.prog 10 #[.agg (cel [ma0, ma1] ++ [Value.bool maz]).toArray] w (Rt w (.bool false))) (w : World) (hm : Mm w [(0, dtab)]) :
  Calls Tryz.prog 5 #[.agg (cel [ma0, ma1] ++ [Value.bool maz]).toArray, .agg (cel [mb0, mb1] ++ [Value.bool mbz]).toArray, .agg (cel [md0, md1] ++ [Value.bool mdz]).toArray] w (Rt w (.bool true)) := by
 have H0 : Hid (_ ∧ _) := ⟨hm, Below.refl w.heap.size w⟩
 clear hm
 have C0 : Hid _ := c0
 clear c0
 have C1 : Hid _ := c1
 clear c1
 go_enter Tryz.func5, Tryz.ntmps5
 refine wp_seq ?_
 refine zD 4 [.made (cel [ma0, ma1] ++ [Value.bool maz]) 26, .made (cel [mb0, mb1] ++ [Value.bool mbz]) 26, .made (cel [md0, md1] ++ [Value.bool mdz]) 26, .quiet (.bool false)] (sB H0) ?ho1 ?he1
 case ho1 => exact ak (fun γ => ⟨rfl, fun w' => yF rfl rfl⟩) (ak (fun γ => ⟨rfl, fun w' => yF rfl rfl⟩) (ak (fun γ => ⟨rfl, fun w' => yF rfl rfl⟩) (ar trivial)))
 intro γ w1 l hM hl
 have H1 : Hid (Mm w1 [(γ 0, cel [ma0, ma1] ++ [Value.bool maz]), (γ 1, cel [mb0, mb1] ++ [Value.bool mbz]), (γ 2, cel [md0, md1] ++ [Value.bool mdz]), (0, dtab)] ∧ _) := zT H0 hM (Nat.le_refl _) hl [0, 1, 2] rfl (by decide)
 have o1_0 := zQ H0 hM (Nat.le_refl _) hl (i := 0) rfl
 have o1_1 := zQ H0 hM (Nat.le_refl _) hl (i := 1) rfl
 have o1_2 := zQ H0 hM (Nat.le_refl _) hl (i := 2) rfl
 clear hM hl l
 generalize γ 0 = γ1_0 at H1 o1_0 ⊢
 generalize γ 1 = γ1_1 at H1 o1_1 ⊢
 generalize γ 2 = γ1_2 at H1 o1_2 ⊢
 clear γ
 refine zG rfl (zA (wp_seq ?_))
 refine zE 2 [.call (.bool true), .quiet (.bool true)] H1 ?ho2 ?he2
 case ho2 => exact ac (fun w' h => ⟨35, #[], zC rfl call35 rfl (zY rfl), C0.out w' (h.one 3 rfl)⟩) (ar trivial)
 intro _ w2 H2
 clear H1
 refine zG rfl (zA (wp_seq (wp_seq ?_)))
 refine zE 13 [.quiet (.agg (cel [ma0, ma1] ++ [Value.bool maz]).toArray), .call (.bool false), .quiet (.bool true), .quiet (.bool true), .gone, .gone, .gone, .quiet (.bool true), .quiet (.bool true), .gone, .gone, .gone, .quiet (.bool true)] H2 ?ho3 ?he3
 case ho3 => exact aq (fun w' h => lT h 0 Tryz.isAgg26 Tryz.sizeOf26) (ac (fun w' h => ⟨10, #[.agg (cel [ma0, ma1] ++ [Value.bool maz]).toArray], zC rfl call10 rfl (zY rfl), C1.out w' (h.one 3 rfl)⟩) (ag (ar (ak (fun γ => rfl) (ak (fun γ => rfl) (ak (fun γ => rfl) (ag (ar (ak (fun γ => rfl) (ak (fun γ => rfl) (ak (fun γ => rfl) (ag trivial))))))))))))
 intro _ w3 H3
 clear H2
 refine zG rfl (zA (wp_cond_true rfl (wp_seq ?_)))
 refine zE 2 [.quiet (.bool true), .quiet (.bool true)] H3 ?ho4 ?he4
 case ho4 => exact ar (ar trivial)
 intro _ w4 H4
 clear H3
 refine zG rfl (zA (wp_ret ?_))
 repeat (first | refine zN ?_ | refine zL ?_)
 refine bodyPost_ret (v := .bool true) (by simp [results, Tryz.results5, go_sem, *]) rfl ?_
 exact ⟨rfl, H4.out.2⟩
set_option maxHeartbeats 2000000 in
theorem group1_no1 (ma0 ma1 mb0 mb1 md0 md1 : Nat) (maz mbz mdz : Bool) (c0 : ∀ w, Mm w [(0, dtab)] → Calls Tryz.prog 35 #[] w (Rt w (.bool true))) (c1 : ∀ w, Mm w [(0, dtab)] → Calls Tryz.prog 10 #[.agg (cel [ma0, ma1] ++ [Value.bool maz]).toArray] w (Rt w (.bool true))) (c2 : ∀ w, Mm w [(0, dtab)] → Calls Tryz.prog 10 #[.agg (cel [mb0, mb1] ++ [Value.bool mbz]).toArray] w (Rt w (.bool false))) (w : World) (hm : Mm w [(0, dtab)]) :
  Calls Tryz.prog 5 #[.agg (cel [ma0, ma1] ++ [Value.bool maz]).toArray, .agg (cel [mb0, mb1] ++ [Value.bool mbz]).toArray, .agg (cel [md0, md1] ++ [Value.bool mdz]).toArray] w (Rt w (.bool true)) := by
 have H0 : Hid (_ ∧ _) := ⟨hm, Below.refl w.heap.size w⟩
 clear hm
 have C0 : Hid _ := c0
 clear c0
 have C1 : Hid _ := c1
 clear c1
 have C2 : Hid _ := c2
 clear c2
 go_enter Tryz.func5, Tryz.ntmps5
 refine wp_seq ?_
 refine zD 4 [.made (cel [ma0, ma1] ++ [Value.bool maz]) 26, .made (cel [mb0, mb1] ++ [Value.bool mbz]) 26, .made (cel [md0, md1] ++ [Value.bool mdz]) 26, .quiet (.bool false)] (sB H0) ?ho1 ?he1
 case ho1 => exact ak (fun γ => ⟨rfl, fun w' => yF rfl rfl⟩) (ak (fun γ => ⟨rfl, fun w' => yF rfl rfl⟩) (ak (fun γ => ⟨rfl, fun w' => yF rfl rfl⟩) (ar trivial)))
 intro γ w1 l hM hl
 have H1 : Hid (Mm w1 [(γ 0, cel [ma0, ma1] ++ [Value.bool maz]), (γ 1, cel [mb0, mb1] ++ [Value.bool mbz]), (γ 2, cel [md0, md1] ++ [Value.bool mdz]), (0, dtab)] ∧ _) := zT H0 hM (Nat.le_refl _) hl [0, 1, 2] rfl (by decide)
 have o1_0 := zQ H0 hM (Nat.le_refl _) hl (i := 0) rfl
 have o1_1 := zQ H0 hM (Nat.le_refl _) hl (i := 1) rfl
 have o1_2 := zQ H0 hM (Nat.le_refl _) hl (i := 2) rfl
 clear hM hl l
 generalize γ 0 = γ1_0 at H1 o1_0 ⊢
 generalize γ 1 = γ1_1 at H1 o1_1 ⊢
 generalize γ 2 = γ1_2 at H1 o1_2 ⊢
 clear γ
 refine zG rfl (zA (wp_seq ?_))
 refine zE 2 [.call (.bool true), .quiet (.bool true)] H1 ?ho2 ?he2
 case ho2 => exact ac (fun w' h => ⟨35, #[], zC rfl call35 rfl (zY rfl), C0.out w' (h.one 3 rfl)⟩) (ar trivial)
 intro _ w2 H2
 clear H1
 refine zG rfl (zA (wp_seq (wp_seq ?_)))
 refine zE 13 [.quiet (.agg (cel [ma0, ma1] ++ [Value.bool maz]).toArray), .call (.bool true), .quiet (.bool false), .quiet (.bool false), .quiet (.agg (cel [mb0, mb1] ++ [Value.bool mbz]).toArray), .call (.bool false), .quiet (.bool true), .quiet (.bool true), .quiet (.bool true), .gone, .gone, .gone, .quiet (.bool true)] H2 ?ho3 ?he3
 case ho3 => exact aq (fun w' h => lT h 0 Tryz.isAgg26 Tryz.sizeOf26) (ac (fun w' h => ⟨10, #[.agg (cel [ma0, ma1] ++ [Value.bool maz]).toArray], zC rfl call10 rfl (zY rfl), C1.out w' (h.one 3 rfl)⟩) (ag (ar (aq (fun w' h => lT h 1 Tryz.isAgg26 Tryz.sizeOf26) (ac (fun w' h => ⟨10, #[.agg (cel [mb0, mb1] ++ [Value.bool mbz]).toArray], zC rfl call10 rfl (zY rfl), C2.out w' (h.one 3 rfl)⟩) (ag (ag (ar (ak (fun γ => rfl) (ak (fun γ => rfl) (ak (fun γ => rfl) (ag trivial))))))))))))
 intro _ w3 H3
 clear H2
 refine zG rfl (zA (wp_cond_true rfl (wp_seq ?_)))
 refine zE 2 [.quiet (.bool true), .quiet (.bool true)] H3 ?ho4 ?he4
 case ho4 => exact ar (ar trivial)
 intro _ w4 H4
 clear H3
 refine zG rfl (zA (wp_ret ?_))
 repeat (first | refine zN ?_ | refine zL ?_)
 refine bodyPost_ret (v := .bool true) (by simp [results, Tryz.results5, go_sem, *]) rfl ?_
 exact ⟨rfl, H4.out.2⟩
set_option maxHeartbeats 2000000 in
theorem group1_no2 (ma0 ma1 mb0 mb1 md0 md1 : Nat) (maz mbz mdz : Bool) (c0 : ∀ w, Mm w [(0, dtab)] → Calls Tryz.prog 35 #[] w (Rt w (.bool true))) (c1 : ∀ w, Mm w [(0, dtab)] → Calls Tryz.prog 10 #[.agg (cel [ma0, ma1] ++ [Value.bool maz]).toArray] w (Rt w (.bool true))) (c2 : ∀ w, Mm w [(0, dtab)] → Calls Tryz.prog 10 #[.agg (cel [mb0, mb1] ++ [Value.bool mbz]).toArray] w (Rt w (.bool true))) (c3 : ∀ w, Mm w [(0, dtab)] → Calls Tryz.prog 10 #[.agg (cel [md0, md1] ++ [Value.bool mdz]).toArray] w (Rt w (.bool false))) (w : World) (hm : Mm w [(0, dtab)]) :
  Calls Tryz.prog 5 #[.agg (cel [ma0, ma1] ++ [Value.bool maz]).toArray, .agg (cel [mb0, mb1] ++ [Value.bool mbz]).toArray, .agg (cel [md0, md1] ++ [Value.bool mdz]).toArray] w (Rt w (.bool true)) := by
 have H0 : Hid (_ ∧ _) := ⟨hm, Below.refl w.heap.size w⟩
 clear hm
 have C0 : Hid _ := c0
 clear c0
 have C1 : Hid _ := c1
 clear c1
 have C2 : Hid _ := c2
 clear c2
 have C3 : Hid _ := c3
 clear c3
 go_enter Tryz.func5, Tryz.ntmps5
 refine wp_seq ?_
 refine zD 4 [.made (cel [ma0, ma1] ++ [Value.bool maz]) 26, .made (cel [mb0, mb1] ++ [Value.bool mbz]) 26, .made (cel [md0, md1] ++ [Value.bool mdz]) 26, .quiet (.bool false)] (sB H0) ?ho1 ?he1
 case ho1 => exact ak (fun γ => ⟨rfl, fun w' => yF rfl rfl⟩) (ak (fun γ => ⟨rfl, fun w' => yF rfl rfl⟩) (ak (fun γ => ⟨rfl, fun w' => yF rfl rfl⟩) (ar trivial)))
 intro γ w1 l hM hl
 have H1 : Hid (Mm w1 [(γ 0, cel [ma0, ma1] ++ [Value.bool maz]), (γ 1, cel [mb0, mb1] ++ [Value.bool mbz]), (γ 2, cel [md0, md1] ++ [Value.bool mdz]), (0, dtab)] ∧ _) := zT H0 hM (Nat.le_refl _) hl [0, 1, 2] rfl (by decide)
 have o1_0 := zQ H0 hM (Nat.le_refl _) hl (i := 0) rfl
 have o1_1 := zQ H0 hM (Nat.le_refl _) hl (i := 1) rfl
 have o1_2 := zQ H0 hM (Nat.le_refl _) hl (i := 2) rfl
 clear hM hl l
 generalize γ 0 = γ1_0 at H1 o1_0 ⊢
 generalize γ 1 = γ1_1 at H1 o1_1 ⊢
 generalize γ 2 = γ1_2 at H1 o1_2 ⊢
 clear γ
 refine zG rfl (zA (wp_seq ?_))
 refine zE 2 [.call (.bool true), .quiet (.bool true)] H1 ?ho2 ?he2
 case ho2 => exact ac (fun w' h => ⟨35, #[], zC rfl call35 rfl (zY rfl), C0.out w' (h.one 3 rfl)⟩) (ar trivial)
 intro _ w2 H2
 clear H1
 refine zG rfl (zA (wp_seq (wp_seq ?_)))
 refine zE 13 [.quiet (.agg (cel [ma0, ma1] ++ [Value.bool maz]).toArray), .call (.bool true), .quiet (.bool false), .quiet (.bool false), .quiet (.agg (cel [mb0, mb1] ++ [Value.bool mbz]).toArray), .call (.bool true), .quiet (.bool false), .quiet (.bool false), .quiet (.bool false), .quiet (.agg (cel [md0, md1] ++ [Value.bool mdz]).toArray), .call (.bool false), .quiet (.bool true), .quiet (.bool true)] H2 ?ho3 ?he3
 case ho3 => exact aq (fun w' h => lT h 0 Tryz.isAgg26 Tryz.sizeOf26) (ac (fun w' h => ⟨10, #[.agg (cel [ma0, ma1] ++ [Value.bool maz]).toArray], zC rfl call10 rfl (zY rfl), C1.out w' (h.one 3 rfl)⟩) (ag (ar (aq (fun w' h => lT h 1 Tryz.isAgg26 Tryz.sizeOf26) (ac (fun w' h => ⟨10, #[.agg (cel [mb0, mb1] ++ [Value.bool mbz]).toArray], zC rfl call10 rfl (zY rfl), C2.out w' (h.one 3 rfl)⟩) (ag (ag (ar (aq (fun w' h => lT h 2 Tryz.isAgg26 Tryz.sizeOf26) (ac (fun w' h => ⟨10, #[.agg (cel [md0, md1] ++ [Value.bool mdz]).toArray], zC rfl call10 rfl (zY rfl), C3.out w' (h.one 3 rfl)⟩) (ag (ag trivial))))))))))))
 intro _ w3 H3
 clear H2
 refine zG rfl (zA (wp_cond_true rfl (wp_seq ?_)))
 refine zE 2 [.quiet (.bool true), .quiet (.bool true)] H3 ?ho4 ?he4
 case ho4 => exact ar (ar trivial)
 intro _ w4 H4
 clear H3
 refine zG rfl (zA (wp_ret ?_))
 repeat (first | refine zN ?_ | refine zL ?_)
 refine bodyPost_ret (v := .bool true) (by simp [results, Tryz.results5, go_sem, *]) rfl ?_
 exact ⟨rfl, H4.out.2⟩
set_option maxHeartbeats 4000000 in
theorem group1_yes (ma0 ma1 mb0 mb1 md0 md1 mr0 mr1 ms0 ms1 mt0 mt1 mu0 mu1 : Nat) (maz mbz mdz mrz msz mtz muz : Bool) (c0 : ∀ w, Mm w [(0, dtab)] → Calls Tryz.prog 35 #[] w (Rt w (.bool true))) (c1 : ∀ w, Mm w [(0, dtab)] → Calls Tryz.prog 10 #[.agg (cel [ma0, ma1] ++ [Value.bool maz]).toArray] w (Rt w (.bool true))) (c2 : ∀ w, Mm w [(0, dtab)] → Calls Tryz.prog 10 #[.agg (cel [mb0, mb1] ++ [Value.bool mbz]).toArray] w (Rt w (.bool true))) (c3 : ∀ w, Mm w [(0, dtab)] → Calls Tryz.prog 10 #[.agg (cel [md0, md1] ++ [Value.bool mdz]).toArray] w (Rt w (.bool true))) (c4 : ∀ w, Mm w [(0, dtab)] → Calls Tryz.prog 16 #[.agg (cel [ma0, ma1] ++ [Value.bool maz]).toArray, .agg (cel [mb0, mb1] ++ [Value.bool mbz]).toArray] w (Rt w (.tuple #[.agg (cel [mr0, mr1] ++ [Value.bool mrz]).toArray, .int .i64 0]))) (c5 : ∀ w, Mm w [(0, dtab)] → Calls Tryz.prog 16 #[.agg (cel [mb0, mb1] ++ [Value.bool mbz]).toArray, .agg (cel [ma0, ma1] ++ [Value.bool maz]).toArray] w (Rt w (.tuple #[.agg (cel [mr0, mr1] ++ [Value.bool mrz]).toArray, .int .i64 0]))) (c6 : ∀ w, Mm w [(0, dtab)] → Calls Tryz.prog 16 #[.agg (cel [mb0, mb1] ++ [Value.bool mbz]).toArray, .agg (cel [md0, md1] ++ [Value.bool mdz]).toArray] w (Rt w (.tuple #[.agg (cel [ms0, ms1] ++ [Value.bool msz]).toArray, .int .i64 0]))) (c7 : ∀ w, Mm w [(0, dtab)] → Calls Tryz.prog 16 #[.agg (cel [mr0, mr1] ++ [Value.bool mrz]).toArray, .agg (cel [md0, md1] ++ [Value.bool mdz]).toArray] w (Rt w (.tuple #[.agg (cel [mt0, mt1] ++ [Value.bool mtz]).toArray, .int .i64 0]))) (c8 : ∀ w, Mm w [(0, dtab)] → Calls Tryz.prog 16 #[.agg (cel [ma0, ma1] ++ [Value.bool maz]).toArray, .agg (cel [ms0, ms1] ++ [Value.bool msz]).toArray] w (Rt w (.tuple #[.agg (cel [mt0, mt1] ++ [Value.bool mtz]).toArray, .int .i64 0]))) (c9 : ∀ w, Mm w [(0, dtab)] → Calls Tryz.prog 15 #[.agg (cel [ma0, ma1] ++ [Value.bool maz]).toArray] w (Rt w (.tuple #[.agg (cel [mu0, mu1] ++ [Value.bool muz]).toArray, .int .i64 0]))) (c10 : ∀ w, Mm w [(0, dtab)] → Calls Tryz.prog 16 #[.agg (cel [ma0, ma1] ++ [Value.bool maz]).toArray, .agg (cel [mu0, mu1] ++ [Value.bool muz]).toArray] w (Rt w (.tuple #[.agg (cel [0, 0] ++ [Value.bool true]).toArray, .int .i64 0]))) (c11 : ∀ w, Mm w [(0, dtab)] → Calls Tryz.prog 16 #[.agg (cel [ma0, ma1] ++ [Value.bool maz]).toArray, .agg (cel [0, 0] ++ [Value.bool true]).toArray] w (Rt w (.tuple #[.agg (cel [ma0, ma1] ++ [Value.bool maz]).toArray, .int .i64 0]))) (c12 : ∀ w, Mm w [(0, dtab)] → Calls Tryz.prog 10 #[.agg (cel [mt0, mt1] ++ [Value.bool mtz]).toArray] w (Rt w (.bool true))) (e0 : ∀ w, (Op.equalIn 10000 26 (.agg (cel [mr0, mr1] ++ [Value.bool mrz]).toArray) (.agg (cel [mr0, mr1] ++ [Value.bool mrz]).toArray)).run Tryz.prog w = .ok true w) (e1 : ∀ w, (Op.equalIn 10000 26 (.agg (cel [mt0, mt1] ++ [Value.bool mtz]).toArray) (.agg (cel [mt0, mt1] ++ [Value.bool mtz]).toArray)).run Tryz.prog w = .ok true w) (e2 : ∀ w, (Op.equalIn 10000 26 (.agg (cel [0, 0] ++ [Value.bool true]).toArray) (.agg (cel [0, 0] ++ [Value.bool true]).toArray)).run Tryz.prog w = .ok true w) (e3 : ∀ w, (Op.equalIn 10000 26 (.agg (cel [ma0, ma1] ++ [Value.bool maz]).toArray) (.agg (cel [ma0, ma1] ++ [Value.bool maz]).toArray)).run Tryz.prog w = .ok true w) (w : World) (hm : Mm w [(0, dtab)]) :
  Calls Tryz.prog 5 #[.agg (cel [ma0, ma1] ++ [Value.bool maz]).toArray, .agg (cel [mb0, mb1] ++ [Value.bool mbz]).toArray, .agg (cel [md0, md1] ++ [Value.bool mdz]).toArray] w (Rt w (.bool true)) := by
 have H0 : Hid (_ ∧ _) := ⟨hm, Below.refl w.heap.size w⟩
 clear hm
 have C0 : Hid _ := c0
 clear c0
 have C1 : Hid _ := c1
 clear c1
 have C2 : Hid _ := c2
 clear c2
 have C3 : Hid _ := c3
 clear c3
 have C4 : Hid _ := c4
 clear c4
 have C5 : Hid _ := c5
 clear c5
 have C6 : Hid _ := c6
 clear c6
 have C7 : Hid _ := c7
 clear c7
 have C8 : Hid _ := c8
 clear c8
 have C9 : Hid _ := c9
 clear c9
 have C10 : Hid _ := c10
 clear c10
 have C11 : Hid _ := c11
 clear c11
 have C12 : Hid _ := c12
 clear c12
 have E0 : Hid _ := e0
 clear e0
 have E1 : Hid _ := e1
 clear e1
 have E2 : Hid _ := e2
 clear e2
 have E3 : Hid _ := e3
 clear e3
 go_enter Tryz.func5, Tryz.ntmps5
 refine wp_seq ?_
 refine zD 4 [.made (cel [ma0, ma1] ++ [Value.bool maz]) 26, .made (cel [mb0, mb1] ++ [Value.bool mbz]) 26, .made (cel [md0, md1] ++ [Value.bool mdz]) 26, .quiet (.bool false)] (sB H0) ?ho1 ?he1
 case ho1 => exact ak (fun γ => ⟨rfl, fun w' => yF rfl rfl⟩) (ak (fun γ => ⟨rfl, fun w' => yF rfl rfl⟩) (ak (fun γ => ⟨rfl, fun w' => yF rfl rfl⟩) (ar trivial)))
 intro γ w1 l hM hl
 have H1 : Hid (Mm w1 [(γ 0, cel [ma0, ma1] ++ [Value.bool maz]), (γ 1, cel [mb0, mb1] ++ [Value.bool mbz]), (γ 2, cel [md0, md1] ++ [Value.bool mdz]), (0, dtab)] ∧ _) := zT H0 hM (Nat.le_refl _) hl [0, 1, 2] rfl (by decide)
 have o1_0 := zQ H0 hM (Nat.le_refl _) hl (i := 0) rfl
 have o1_1 := zQ H0 hM (Nat.le_refl _) hl (i := 1) rfl
 have o1_2 := zQ H0 hM (Nat.le_refl _) hl (i := 2) rfl
 clear hM hl l
 generalize γ 0 = γ1_0 at H1 o1_0 ⊢
 generalize γ 1 = γ1_1 at H1 o1_1 ⊢
 generalize γ 2 = γ1_2 at H1 o1_2 ⊢
 clear γ
 refine zG rfl (zA (wp_seq ?_))
 refine zE 2 [.call (.bool true), .quiet (.bool true)] H1 ?ho2 ?he2
 case ho2 => exact ac (fun w' h => ⟨35, #[], zC rfl call35 rfl (zY rfl), C0.out w' (h.one 3 rfl)⟩) (ar trivial)
 intro _ w2 H2
 clear H1
 refine zG rfl (zA (wp_seq (wp_seq ?_)))
 refine zE 13 [.quiet (.agg (cel [ma0, ma1] ++ [Value.bool maz]).toArray), .call (.bool true), .quiet (.bool false), .quiet (.bool false), .quiet (.agg (cel [mb0, mb1] ++ [Value.bool mbz]).toArray), .call (.bool true), .quiet (.bool false), .quiet (.bool false), .quiet (.bool false), .quiet (.agg (cel [md0, md1] ++ [Value.bool mdz]).toArray), .call (.bool true), .quiet (.bool false), .quiet (.bool false)] H2 ?ho3 ?he3
 case ho3 => exact aq (fun w' h => lT h 0 Tryz.isAgg26 Tryz.sizeOf26) (ac (fun w' h => ⟨10, #[.agg (cel [ma0, ma1] ++ [Value.bool maz]).toArray], zC rfl call10 rfl (zY rfl), C1.out w' (h.one 3 rfl)⟩) (ag (ar (aq (fun w' h => lT h 1 Tryz.isAgg26 Tryz.sizeOf26) (ac (fun w' h => ⟨10, #[.agg (cel [mb0, mb1] ++ [Value.bool mbz]).toArray], zC rfl call10 rfl (zY rfl), C2.out w' (h.one 3 rfl)⟩) (ag (ag (ar (aq (fun w' h => lT h 2 Tryz.isAgg26 Tryz.sizeOf26) (ac (fun w' h => ⟨10, #[.agg (cel [md0, md1] ++ [Value.bool mdz]).toArray], zC rfl call10 rfl (zY rfl), C3.out w' (h.one 3 rfl)⟩) (ag (ag trivial))))))))))))
 intro _ w3 H3
 clear H2
 refine zG rfl (zA (wp_cond_false rfl ?_))
 refine wp_skip (zA (wp_seq ?_))
 refine zD 9 [.quiet (.agg (cel [ma0, ma1] ++ [Value.bool maz]).toArray), .quiet (.agg (cel [mb0, mb1] ++ [Value.bool mbz]).toArray), .call (.tuple #[.agg (cel [mr0, mr1] ++ [Value.bool mrz]).toArray, .int .i64 0]), .quiet (.tuple #[.agg (cel [mr0, mr1] ++ [Value.bool mrz]).toArray, .int .i64 0]), .quiet (.agg (cel [mr0, mr1] ++ [Value.bool mrz]).toArray), .quiet (.int .i64 0), .made (cel [0, 0] ++ [Value.bool false]) 26, .laid 6 (cel [0, 0] ++ [Value.bool false]) (cel [mr0, mr1] ++ [Value.bool mrz]), .quiet (.int .i64 0)] (sB H3) ?ho4 ?he4 (hL := ?hL4)
 case hL4 => exact ⟨⟨_, rfl⟩, trivial⟩
 case ho4 => exact aq (fun w' h => lT h 0 Tryz.isAgg26 Tryz.sizeOf26) (aq (fun w' h => lT h 1 Tryz.isAgg26 Tryz.sizeOf26) (ac (fun w' h => ⟨16, #[.agg (cel [ma0, ma1] ++ [Value.bool maz]).toArray, .agg (cel [mb0, mb1] ++ [Value.bool mbz]).toArray], zC rfl call16 rfl (zY rfl), C4.out w' (h.one 3 rfl)⟩) (ar (ag (ag (ak (fun γ => ⟨rfl, fun w' => ex_madeP1 rfl⟩) (ak (fun γ => ⟨rfl, rfl, rfl, fun w' h => ex_laidT h rfl rfl Tryz.sizeOf26 rfl rfl rfl⟩) (ar trivial))))))))
 intro γ w4 l hM hl
 have H4 : Hid (Mm w4 [(γ 6, cel [mr0, mr1] ++ [Value.bool mrz]), (γ1_0, cel [ma0, ma1] ++ [Value.bool maz]), (γ1_1, cel [mb0, mb1] ++ [Value.bool mbz]), (γ1_2, cel [md0, md1] ++ [Value.bool mdz]), (0, dtab)] ∧ _) := zT H3 hM (Nat.le_refl _) hl [6] rfl (by decide)
 have o4_6 := zQ H3 hM (Nat.le_refl _) hl (i := 6) rfl
 clear hM hl l H3
 generalize γ 6 = γ4_6 at H4 o4_6 ⊢
 clear γ
 refine zG rfl (zA (wp_seq ?_))
 refine zD 9 [.quiet (.agg (cel [mb0, mb1] ++ [Value.bool mbz]).toArray), .quiet (.agg (cel [ma0, ma1] ++ [Value.bool maz]).toArray), .call (.tuple #[.agg (cel [mr0, mr1] ++ [Value.bool mrz]).toArray, .int .i64 0]), .quiet (.tuple #[.agg (cel [mr0, mr1] ++ [Value.bool mrz]).toArray, .int .i64 0]), .quiet (.agg (cel [mr0, mr1] ++ [Value.bool mrz]).toArray), .quiet (.int .i64 0), .made (cel [0, 0] ++ [Value.bool false]) 26, .laid 6 (cel [0, 0] ++ [Value.bool false]) (cel [mr0, mr1] ++ [Value.bool mrz]), .quiet (.int .i64 0)] (sB H4) ?ho5 ?he5 (hL := ?hL5)
 case hL5 => exact ⟨⟨_, rfl⟩, trivial⟩
 case ho5 => exact aq (fun w' h => lT h 2 Tryz.isAgg26 Tryz.sizeOf26) (aq (fun w' h => lT h 1 Tryz.isAgg26 Tryz.sizeOf26) (ac (fun w' h => ⟨16, #[.agg (cel [mb0, mb1] ++ [Value.bool mbz]).toArray, .agg (cel [ma0, ma1] ++ [Value.bool maz]).toArray], zC rfl call16 rfl (zY rfl), C5.out w' (h.one 4 rfl)⟩) (ar (ag (ag (ak (fun γ => ⟨rfl, fun w' => ex_madeP1 rfl⟩) (ak (fun γ => ⟨rfl, rfl, rfl, fun w' h => ex_laidT h rfl rfl Tryz.sizeOf26 rfl rfl rfl⟩) (ar trivial))))))))
 intro γ w5 l hM hl
 have H5 : Hid (Mm w5 [(γ 6, cel [mr0, mr1] ++ [Value.bool mrz]), (γ4_6, cel [mr0, mr1] ++ [Value.bool mrz]), (γ1_0, cel [ma0, ma1] ++ [Value.bool maz]), (γ1_1, cel [mb0, mb1] ++ [Value.bool mbz]), (γ1_2, cel [md0, md1] ++ [Value.bool mdz]), (0, dtab)] ∧ _) := zT H4 hM (Nat.le_refl _) hl [6] rfl (by decide)
 have o5_6 := zQ H4 hM (Nat.le_refl _) hl (i := 6) rfl
 clear hM hl l H4
 generalize γ 6 = γ5_6 at H5 o5_6 ⊢
 clear γ
 refine zG rfl (zA (wp_seq ?_))
 refine zD 9 [.quiet (.agg (cel [mb0, mb1] ++ [Value.bool mbz]).toArray), .quiet (.agg (cel [md0, md1] ++ [Value.bool mdz]).toArray), .call (.tuple #[.agg (cel [ms0, ms1] ++ [Value.bool msz]).toArray, .int .i64 0]), .quiet (.tuple #[.agg (cel [ms0, ms1] ++ [Value.bool msz]).toArray, .int .i64 0]), .quiet (.agg (cel [ms0, ms1] ++ [Value.bool msz]).toArray), .quiet (.int .i64 0), .made (cel [0, 0] ++ [Value.bool false]) 26, .laid 6 (cel [0, 0] ++ [Value.bool false]) (cel [ms0, ms1] ++ [Value.bool msz]), .quiet (.int .i64 0)] (sB H5) ?ho6 ?he6 (hL := ?hL6)
 case hL6 => exact ⟨⟨_, rfl⟩, trivial⟩
 case ho6 => exact aq (fun w' h => lT h 3 Tryz.isAgg26 Tryz.sizeOf26) (aq (fun w' h => lT h 4 Tryz.isAgg26 Tryz.sizeOf26) (ac (fun w' h => ⟨16, #[.agg (cel [mb0, mb1] ++ [Value.bool mbz]).toArray, .agg (cel [md0, md1] ++ [Value.bool mdz]).toArray], zC rfl call16 rfl (zY rfl), C6.out w' (h.one 5 rfl)⟩) (ar (ag (ag (ak (fun γ => ⟨rfl, fun w' => ex_madeP1 rfl⟩) (ak (fun γ => ⟨rfl, rfl, rfl, fun w' h => ex_laidT h rfl rfl Tryz.sizeOf26 rfl rfl rfl⟩) (ar trivial))))))))
 intro γ w6 l hM hl
 have H6 : Hid (Mm w6 [(γ 6, cel [ms0, ms1] ++ [Value.bool msz]), (γ5_6, cel [mr0, mr1] ++ [Value.bool mrz]), (γ4_6, cel [mr0, mr1] ++ [Value.bool mrz]), (γ1_0, cel [ma0, ma1] ++ [Value.bool maz]), (γ1_1, cel [mb0, mb1] ++ [Value.bool mbz]), (γ1_2, cel [md0, md1] ++ [Value.bool mdz]), (0, dtab)] ∧ _) := zT H5 hM (Nat.le_refl _) hl [6] rfl (by decide)
 have o6_6 := zQ H5 hM (Nat.le_refl _) hl (i := 6) rfl
 clear hM hl l H5
 generalize γ 6 = γ6_6 at H6 o6_6 ⊢
 clear γ
 refine zG rfl (zA (wp_seq ?_))
 refine zD 9 [.quiet (.agg (cel [mr0, mr1] ++ [Value.bool mrz]).toArray), .quiet (.agg (cel [md0, md1] ++ [Value.bool mdz]).toArray), .call (.tuple #[.agg (cel [mt0, mt1] ++ [Value.bool mtz]).toArray, .int .i64 0]), .quiet (.tuple #[.agg (cel [mt0, mt1] ++ [Value.bool mtz]).toArray, .int .i64 0]), .quiet (.agg (cel [mt0, mt1] ++ [Value.bool mtz]).toArray), .quiet (.int .i64 0), .made (cel [0, 0] ++ [Value.bool false]) 26, .laid 6 (cel [0, 0] ++ [Value.bool false]) (cel [mt0, mt1] ++ [Value.bool mtz]), .quiet (.int .i64 0)] (sB H6) ?ho7 ?he7 (hL := ?hL7)
 case hL7 => exact ⟨⟨_, rfl⟩, trivial⟩
 case ho7 => exact aq (fun w' h => lT h 2 Tryz.isAgg26 Tryz.sizeOf26) (aq (fun w' h => lT h 5 Tryz.isAgg26 Tryz.sizeOf26) (ac (fun w' h => ⟨16, #[.agg (cel [mr0, mr1] ++ [Value.bool mrz]).toArray, .agg (cel [md0, md1] ++ [Value.bool mdz]).toArray], zC rfl call16 rfl (zY rfl), C7.out w' (h.one 6 rfl)⟩) (ar (ag (ag (ak (fun γ => ⟨rfl, fun w' => ex_madeP1 rfl⟩) (ak (fun γ => ⟨rfl, rfl, rfl, fun w' h => ex_laidT h rfl rfl Tryz.sizeOf26 rfl rfl rfl⟩) (ar trivial))))))))
 intro γ w7 l hM hl
 have H7 : Hid (Mm w7 [(γ 6, cel [mt0, mt1] ++ [Value.bool mtz]), (γ6_6, cel [ms0, ms1] ++ [Value.bool msz]), (γ5_6, cel [mr0, mr1] ++ [Value.bool mrz]), (γ4_6, cel [mr0, mr1] ++ [Value.bool mrz]), (γ1_0, cel [ma0, ma1] ++ [Value.bool maz]), (γ1_1, cel [mb0, mb1] ++ [Value.bool mbz]), (γ1_2, cel [md0, md1] ++ [Value.bool mdz]), (0, dtab)] ∧ _) := zT H6 hM (Nat.le_refl _) hl [6] rfl (by decide)
 have o7_6 := zQ H6 hM (Nat.le_refl _) hl (i := 6) rfl
 clear hM hl l H6
 generalize γ 6 = γ7_6 at H7 o7_6 ⊢
 clear γ
 refine zG rfl (zA (wp_seq ?_))
 refine zD 9 [.quiet (.agg (cel [ma0, ma1] ++ [Value.bool maz]).toArray), .quiet (.agg (cel [ms0, ms1] ++ [Value.bool msz]).toArray), .call (.tuple #[.agg (cel [mt0, mt1] ++ [Value.bool mtz]).toArray, .int .i64 0]), .quiet (.tuple #[.agg (cel [mt0, mt1] ++ [Value.bool mtz]).toArray, .int .i64 0]), .quiet (.agg (cel [mt0, mt1] ++ [Value.bool mtz]).toArray), .quiet (.int .i64 0), .made (cel [0, 0] ++ [Value.bool false]) 26, .laid 6 (cel [0, 0] ++ [Value.bool false]) (cel [mt0, mt1] ++ [Value.bool mtz]), .quiet (.int .i64 0)] (sB H7) ?ho8 ?he8 (hL := ?hL8)
 case hL8 => exact ⟨⟨_, rfl⟩, trivial⟩
 case ho8 => exact aq (fun w' h => lT h 4 Tryz.isAgg26 Tryz.sizeOf26) (aq (fun w' h => lT h 1 Tryz.isAgg26 Tryz.sizeOf26) (ac (fun w' h => ⟨16, #[.agg (cel [ma0, ma1] ++ [Value.bool maz]).toArray, .agg (cel [ms0, ms1] ++ [Value.bool msz]).toArray], zC rfl call16 rfl (zY rfl), C8.out w' (h.one 7 rfl)⟩) (ar (ag (ag (ak (fun γ => ⟨rfl, fun w' => ex_madeP1 rfl⟩) (ak (fun γ => ⟨rfl, rfl, rfl, fun w' h => ex_laidT h rfl rfl Tryz.sizeOf26 rfl rfl rfl⟩) (ar trivial))))))))
 intro γ w8 l hM hl
 have H8 : Hid (Mm w8 [(γ 6, cel [mt0, mt1] ++ [Value.bool mtz]), (γ7_6, cel [mt0, mt1] ++ [Value.bool mtz]), (γ6_6, cel [ms0, ms1] ++ [Value.bool msz]), (γ5_6, cel [mr0, mr1] ++ [Value.bool mrz]), (γ4_6, cel [mr0, mr1] ++ [Value.bool mrz]), (γ1_0, cel [ma0, ma1] ++ [Value.bool maz]), (γ1_1, cel [mb0, mb1] ++ [Value.bool mbz]), (γ1_2, cel [md0, md1] ++ [Value.bool mdz]), (0, dtab)] ∧ _) := zT H7 hM (Nat.le_refl _) hl [6] rfl (by decide)
 have o8_6 := zQ H7 hM (Nat.le_refl _) hl (i := 6) rfl
 clear hM hl l H7
 generalize γ 6 = γ8_6 at H8 o8_6 ⊢
 clear γ
 refine zG rfl (zA (wp_seq ?_))
 refine zD 8 [.quiet (.agg (cel [ma0, ma1] ++ [Value.bool maz]).toArray), .call (.tuple #[.agg (cel [mu0, mu1] ++ [Value.bool muz]).toArray, .int .i64 0]), .quiet (.tuple #[.agg (cel [mu0, mu1] ++ [Value.bool muz]).toArray, .int .i64 0]), .quiet (.agg (cel [mu0, mu1] ++ [Value.bool muz]).toArray), .quiet (.int .i64 0), .made (cel [0, 0] ++ [Value.bool false]) 26, .laid 5 (cel [0, 0] ++ [Value.bool false]) (cel [mu0, mu1] ++ [Value.bool muz]), .quiet (.int .i64 0)] (sB H8) ?ho9 ?he9 (hL := ?hL9)
 case hL9 => exact ⟨⟨_, rfl⟩, trivial⟩
 case ho9 => exact aq (fun w' h => lT h 5 Tryz.isAgg26 Tryz.sizeOf26) (ac (fun w' h => ⟨15, #[.agg (cel [ma0, ma1] ++ [Value.bool maz]).toArray], zC rfl call15 rfl (zY rfl), C9.out w' (h.one 8 rfl)⟩) (ar (ag (ag (ak (fun γ => ⟨rfl, fun w' => ex_madeP1 rfl⟩) (ak (fun γ => ⟨rfl, rfl, rfl, fun w' h => ex_laidT h rfl rfl Tryz.sizeOf26 rfl rfl rfl⟩) (ar trivial)))))))
 intro γ w9 l hM hl
 have H9 : Hid (Mm w9 [(γ 5, cel [mu0, mu1] ++ [Value.bool muz]), (γ8_6, cel [mt0, mt1] ++ [Value.bool mtz]), (γ7_6, cel [mt0, mt1] ++ [Value.bool mtz]), (γ6_6, cel [ms0, ms1] ++ [Value.bool msz]), (γ5_6, cel [mr0, mr1] ++ [Value.bool mrz]), (γ4_6, cel [mr0, mr1] ++ [Value.bool mrz]), (γ1_0, cel [ma0, ma1] ++ [Value.bool maz]), (γ1_1, cel [mb0, mb1] ++ [Value.bool mbz]), (γ1_2, cel [md0, md1] ++ [Value.bool mdz]), (0, dtab)] ∧ _) := zT H8 hM (Nat.le_refl _) hl [5] rfl (by decide)
 have o9_5 := zQ H8 hM (Nat.le_refl _) hl (i := 5) rfl
 clear hM hl l H8
 generalize γ 5 = γ9_5 at H9 o9_5 ⊢
 clear γ
 refine zG rfl (zA (wp_seq ?_))
 refine zD 9 [.quiet (.agg (cel [ma0, ma1] ++ [Value.bool maz]).toArray), .quiet (.agg (cel [mu0, mu1] ++ [Value.bool muz]).toArray), .call (.tuple #[.agg (cel [0, 0] ++ [Value.bool true]).toArray, .int .i64 0]), .quiet (.tuple #[.agg (cel [0, 0] ++ [Value.bool true]).toArray, .int .i64 0]), .quiet (.agg (cel [0, 0] ++ [Value.bool true]).toArray), .quiet (.int .i64 0), .made (cel [0, 0] ++ [Value.bool false]) 26, .laid 6 (cel [0, 0] ++ [Value.bool false]) (cel [0, 0] ++ [Value.bool true]), .quiet (.int .i64 0)] (sB H9) ?ho10 ?he10 (hL := ?hL10)
 case hL10 => exact ⟨⟨_, rfl⟩, trivial⟩
 case ho10 => exact aq (fun w' h => lT h 6 Tryz.isAgg26 Tryz.sizeOf26) (aq (fun w' h => lT h 0 Tryz.isAgg26 Tryz.sizeOf26) (ac (fun w' h => ⟨16, #[.agg (cel [ma0, ma1] ++ [Value.bool maz]).toArray, .agg (cel [mu0, mu1] ++ [Value.bool muz]).toArray], zC rfl call16 rfl (zY rfl), C10.out w' (h.one 9 rfl)⟩) (ar (ag (ag (ak (fun γ => ⟨rfl, fun w' => ex_madeP1 rfl⟩) (ak (fun γ => ⟨rfl, rfl, rfl, fun w' h => ex_laidT h rfl rfl Tryz.sizeOf26 rfl rfl rfl⟩) (ar trivial))))))))
 intro γ w10 l hM hl
 have H10 : Hid (Mm w10 [(γ 6, cel [0, 0] ++ [Value.bool true]), (γ9_5, cel [mu0, mu1] ++ [Value.bool muz]), (γ8_6, cel [mt0, mt1] ++ [Value.bool mtz]), (γ7_6, cel [mt0, mt1] ++ [Value.bool mtz]), (γ6_6, cel [ms0, ms1] ++ [Value.bool msz]), (γ5_6, cel [mr0, mr1] ++ [Value.bool mrz]), (γ4_6, cel [mr0, mr1] ++ [Value.bool mrz]), (γ1_0, cel [ma0, ma1] ++ [Value.bool maz]), (γ1_1, cel [mb0, mb1] ++ [Value.bool mbz]), (γ1_2, cel [md0, md1] ++ [Value.bool mdz]), (0, dtab)] ∧ _) := zT H9 hM (Nat.le_refl _) hl [6] rfl (by decide)
 have o10_6 := zQ H9 hM (Nat.le_refl _) hl (i := 6) rfl
 clear hM hl l H9
 generalize γ 6 = γ10_6 at H10 o10_6 ⊢
 clear γ
 refine zG rfl (zA (wp_seq ?_))
 refine zD 9 [.quiet (.agg (cel [ma0, ma1] ++ [Value.bool maz]).toArray), .quiet (.agg (cel [0, 0] ++ [Value.bool true]).toArray), .call (.tuple #[.agg (cel [ma0, ma1] ++ [Value.bool maz]).toArray, .int .i64 0]), .quiet (.tuple #[.agg (cel [ma0, ma1] ++ [Value.bool maz]).toArray, .int .i64 0]), .quiet (.agg (cel [ma0, ma1] ++ [Value.bool maz]).toArray), .quiet (.int .i64 0), .made (cel [0, 0] ++ [Value.bool false]) 26, .laid 6 (cel [0, 0] ++ [Value.bool false]) (cel [ma0, ma1] ++ [Value.bool maz]), .quiet (.int .i64 0)] (sB H10) ?ho11 ?he11 (hL := ?hL11)
 case hL11 => exact ⟨⟨_, rfl⟩, trivial⟩
 case ho11 => exact aq (fun w' h => lT h 7 Tryz.isAgg26 Tryz.sizeOf26) (ak (fun γ => ⟨rfl, fun w' _ => ex_buildP1t rfl rfl⟩) (ac (fun w' h => ⟨16, #[.agg (cel [ma0, ma1] ++ [Value.bool maz]).toArray, .agg (cel [0, 0] ++ [Value.bool true]).toArray], zC rfl call16 rfl (zY rfl), C11.out w' (h.one 10 rfl)⟩) (ar (ag (ag (ak (fun γ => ⟨rfl, fun w' => ex_madeP1 rfl⟩) (ak (fun γ => ⟨rfl, rfl, rfl, fun w' h => ex_laidT h rfl rfl Tryz.sizeOf26 rfl rfl rfl⟩) (ar trivial))))))))
 intro γ w11 l hM hl
 have H11 : Hid (Mm w11 [(γ 6, cel [ma0, ma1] ++ [Value.bool maz]), (γ10_6, cel [0, 0] ++ [Value.bool true]), (γ9_5, cel [mu0, mu1] ++ [Value.bool muz]), (γ8_6, cel [mt0, mt1] ++ [Value.bool mtz]), (γ7_6, cel [mt0, mt1] ++ [Value.bool mtz]), (γ6_6, cel [ms0, ms1] ++ [Value.bool msz]), (γ5_6, cel [mr0, mr1] ++ [Value.bool mrz]), (γ4_6, cel [mr0, mr1] ++ [Value.bool mrz]), (γ1_0, cel [ma0, ma1] ++ [Value.bool maz]), (γ1_1, cel [mb0, mb1] ++ [Value.bool mbz]), (γ1_2, cel [md0, md1] ++ [Value.bool mdz]), (0, dtab)] ∧ _) := zT H10 hM (Nat.le_refl _) hl [6] rfl (by decide)
 have o11_6 := zQ H10 hM (Nat.le_refl _) hl (i := 6) rfl
 clear hM hl l H10
 generalize γ 6 = γ11_6 at H11 o11_6 ⊢
 clear γ
 refine zG rfl (zA (wp_seq ?_))
 refine zE 31 [.quiet (.int .i64 0), .quiet (.bool true), .quiet (.bool true), .quiet (.int .i64 0), .quiet (.bool true), .quiet (.bool true), .quiet (.bool true), .quiet (.int .i64 0), .quiet (.bool true), .quiet (.bool true), .quiet (.bool true), .quiet (.int .i64 0), .quiet (.bool true), .quiet (.bool true), .quiet (.bool true), .quiet (.int .i64 0), .quiet (.bool true), .quiet (.bool true), .quiet (.bool true), .quiet (.int .i64 0), .quiet (.bool true), .quiet (.bool true), .quiet (.bool true), .quiet (.int .i64 0), .quiet (.bool true), .quiet (.bool true), .quiet (.bool true), .quiet (.int .i64 0), .quiet (.bool true), .quiet (.bool true), .quiet (.bool true)] H11 ?ho12 ?he12 (hL := ?hL12)
 case hL12 => exact trivial
 case ho12 => exact ar (ag (ar (ar (ag (ag (ar (ar (ag (ag (ar (ar (ag (ag (ar (ar (ag (ag (ar (ar (ag (ag (ar (ar (ag (ag (ar (ar (ag (ag (ar trivial))))))))))))))))))))))))))))))
 intro _ w12 H12
 clear H11
 refine zG rfl (zA (wp_seq ?_))
 refine zE 29 [.quiet (.bool true), .quiet (.bool true), .quiet (.bool true), .quiet (.bool true), .quiet (.bool true), .quiet (.agg (cel [mr0, mr1] ++ [Value.bool mrz]).toArray), .quiet (.agg (cel [mr0, mr1] ++ [Value.bool mrz]).toArray), .quiet (.bool true), .quiet (.bool true), .quiet (.bool true), .quiet (.agg (cel [mt0, mt1] ++ [Value.bool mtz]).toArray), .quiet (.agg (cel [mt0, mt1] ++ [Value.bool mtz]).toArray), .quiet (.bool true), .quiet (.bool true), .quiet (.bool true), .quiet (.agg (cel [0, 0] ++ [Value.bool true]).toArray), .quiet (.agg (cel [0, 0] ++ [Value.bool true]).toArray), .quiet (.bool true), .quiet (.bool true), .quiet (.bool true), .quiet (.agg (cel [ma0, ma1] ++ [Value.bool maz]).toArray), .quiet (.agg (cel [ma0, ma1] ++ [Value.bool maz]).toArray), .quiet (.bool true), .quiet (.bool true), .quiet (.bool true), .quiet (.agg (cel [mt0, mt1] ++ [Value.bool mtz]).toArray), .call (.bool true), .quiet (.bool true), .quiet (.bool true)] H12 ?ho13 ?he13 (hL := ?hL13)
 case hL13 => exact trivial
 case ho13 => exact ar (ar (ar (ag (ar (aq (fun w' h => lT h 7 Tryz.isAgg26 Tryz.sizeOf26) (aq (fun w' h => lT h 6 Tryz.isAgg26 Tryz.sizeOf26) (ak (fun γ => ⟨rfl, fun w' _ => exec_eqT26 E0.out rfl rfl rfl⟩) (ag (ar (aq (fun w' h => lT h 4 Tryz.isAgg26 Tryz.sizeOf26) (aq (fun w' h => lT h 3 Tryz.isAgg26 Tryz.sizeOf26) (ak (fun γ => ⟨rfl, fun w' _ => exec_eqT26 E1.out rfl rfl rfl⟩) (ag (ar (aq (fun w' h => lT h 1 Tryz.isAgg26 Tryz.sizeOf26) (ak (fun γ => ⟨rfl, fun w' _ => ex_buildP1t rfl rfl⟩) (ak (fun γ => ⟨rfl, fun w' _ => exec_eqT26 E2.out rfl rfl rfl⟩) (ag (ar (aq (fun w' h => lT h 0 Tryz.isAgg26 Tryz.sizeOf26) (aq (fun w' h => lT h 8 Tryz.isAgg26 Tryz.sizeOf26) (ak (fun γ => ⟨rfl, fun w' _ => exec_eqT26 E3.out rfl rfl rfl⟩) (ag (ar (aq (fun w' h => lT h 4 Tryz.isAgg26 Tryz.sizeOf26) (ac (fun w' h => ⟨10, #[.agg (cel [mt0, mt1] ++ [Value.bool mtz]).toArray], zC rfl call10 rfl (zY rfl), C12.out w' (h.one 11 rfl)⟩) (ag (ar trivial))))))))))))))))))))))))))))
 intro _ w13 H13
 clear H12
 refine zG rfl (zA (wp_ret ?_))
 repeat (first | refine zN ?_ | refine zL ?_)
 refine bodyPost_ret (v := .bool true) (by simp [results, Tryz.results5, go_sem, *]) rfl ?_
 exact ⟨rfl, H13.out.2⟩
end Rg
end Go.Proofs.YtaomlijondiaoaaGreatDoor
end
