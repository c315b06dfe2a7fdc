/- Texts of the proof, joined. -/
import Derived.Test.YtgdlhgbdigpfhaaDoorP8
section
namespace Go.Proofs.YtgdlhgbdigpfhaaDoor
open Go.RowKit
namespace Rg
theorem dvr (x : Int) : Dv (x - x) := dv_zero.of (by omega)
theorem mulC (a0 a1 b0 b1 : Nat) {A0 A1 B0 B1 : Int} (R0 R1 : Int) (h0 : a0 < big) (h1 : a1 < big) (k0 : b0 < big) (k1 : b1 < big) (ha0 : Dv ((a0 : Int) - A0)) (ha1 : Dv ((a1 : Int) - A1)) (hb0 : Dv ((b0 : Int) - B0)) (hb1 : Dv ((b1 : Int) - B1)) (e0 : A0 * B0 - A1 * B1 = R0) (e1 : A0 * B1 + A1 * B0 = R1) (w : World) : Calls Tryd.prog 7 #[V [a0, a1], V [b0, b1]] w (Rt w (V [pz R0, pz R1])) := by
 have h := mulT_any a0 a1 b0 b1 h0 h1 k0 k1 w
 have q0 : pz ((a0 : Int) * b0 - (a1 : Int) * b1) = pz R0 := pz_mod _ _ ((((ha0.mulr b0).add (hb0.mul A0)).sub ((ha1.mulr b1).add (hb1.mul A1))).of (by rw [← e0]; grind))
 have q1 : pz ((a0 : Int) * b1 + (a1 : Int) * b0) = pz R1 := pz_mod _ _ ((((ha0.mulr b1).add (hb1.mul A0)).add ((ha1.mulr b0).add (hb0.mul A1))).of (by rw [← e1]; grind))
 rw [q0, q1] at h
 exact h
theorem addC (a0 a1 b0 b1 : Nat) {A0 A1 B0 B1 : Int} (R0 R1 : Int) (h0 : a0 < big) (h1 : a1 < big) (k0 : b0 < big) (k1 : b1 < big) (ha0 : Dv ((a0 : Int) - A0)) (ha1 : Dv ((a1 : Int) - A1)) (hb0 : Dv ((b0 : Int) - B0)) (hb1 : Dv ((b1 : Int) - B1)) (e0 : A0 + B0 = R0) (e1 : A1 + B1 = R1) (w : World) : Calls Tryd.prog 8 #[V [a0, a1], V [b0, b1]] w (Rt w (V [pz R0, pz R1])) := by
 have h := add2_any a0 a1 b0 b1 h0 h1 k0 k1 w
 rw [pz_mod ((a0 : Int) + b0) R0 ((ha0.add hb0).of (by omega)), pz_mod ((a1 : Int) + b1) R1 ((ha1.add hb1).of (by omega))] at h
 exact h
theorem eq_reflE2 {x y : Nat} (hx : x < big) (hy : y < big) (w : World) : (Op.equalIn 10000 26 (V [x, y]) (V [x, y])).run Tryd.prog w = .ok true w := by
 rw [run_eqE2 x y x y hx hy hx hy, decide_eq_true rfl, decide_eq_true rfl]
 rfl
theorem ne_E2 {x y a b : Nat} (hx : x < big) (hy : y < big) (ha : a < big) (hb : b < big) (h : ¬ (x = a ∧ y = b)) (w : World) : (Op.equalIn 10000 26 (V [x, y]) (V [a, b])).run Tryd.prog w = .ok false w := by
 rw [run_eqE2 x y a b hx hy ha hb]
 congr 1
 rw [← Bool.not_eq_true, Bool.and_eq_true, decide_eq_true_eq, decide_eq_true_eq]
 exact h
end Rg
end Go.Proofs.YtgdlhgbdigpfhaaDoor
end
section
namespace Go.Proofs.YtgdlhgbdigpfhaaDoor
open Go.RowKit
namespace Rg
theorem mulCr (a0 a1 b0 b1 : Nat) {A0 A1 B0 B1 : Int} {r0 r1 : Nat} (h0 : a0 < big) (h1 : a1 < big) (k0 : b0 < big) (k1 : b1 < big) (ha0 : Dv ((a0 : Int) - A0)) (ha1 : Dv ((a1 : Int) - A1)) (hb0 : Dv ((b0 : Int) - B0)) (hb1 : Dv ((b1 : Int) - B1)) (e0 : pz (A0 * B0 - A1 * B1) = r0) (e1 : pz (A0 * B1 + A1 * B0) = r1) (w : World) : Calls Tryd.prog 7 #[V [a0, a1], V [b0, b1]] w (Rt w (V [r0, r1])) := by
 have h := mulC a0 a1 b0 b1 _ _ h0 h1 k0 k1 ha0 ha1 hb0 hb1 rfl rfl w
 rw [e0, e1] at h
 exact h
theorem addCr (a0 a1 b0 b1 : Nat) {A0 A1 B0 B1 : Int} {r0 r1 : Nat} (h0 : a0 < big) (h1 : a1 < big) (k0 : b0 < big) (k1 : b1 < big) (ha0 : Dv ((a0 : Int) - A0)) (ha1 : Dv ((a1 : Int) - A1)) (hb0 : Dv ((b0 : Int) - B0)) (hb1 : Dv ((b1 : Int) - B1)) (e0 : pz (A0 + B0) = r0) (e1 : pz (A1 + B1) = r1) (w : World) : Calls Tryd.prog 8 #[V [a0, a1], V [b0, b1]] w (Rt w (V [r0, r1])) := by
 have h := addC a0 a1 b0 b1 _ _ h0 h1 k0 k1 ha0 ha1 hb0 hb1 rfl rfl w
 rw [e0, e1] at h
 exact h
theorem sq_congr {x y : Int} (h : Dv (x - y)) (hx : Sq x) : Sq y := by
 have hx' : Dv ((rr x : Int) * (rr x : Int) - x) := hx
 exact sq_of (m := (rr x : Int)) ((hx'.add h).of (by omega))
theorem minus_two : Dv ((2057464292470212699950648958431590554769679873859515792311286236065221686597310451751142621105086029381756709738514 : Int) * 2057464292470212699950648958431590554769679873859515792311286236065221686597310451751142621105086029381756709738514 + 2) := by rw [← pz_zero_iff]; decide +kernel
theorem sq_two_no {n : Int} (hn : ¬ Dv n) (h : Sq n) : ¬ Sq (2 * n) := fun k => by
 have h' : Dv ((rr n : Int) * (rr n : Int) - n) := h
 have k' : Dv ((rr (2 * n) : Int) * (rr (2 * n) : Int) - 2 * n) := k
 have hr : Dv (rr n : Int) := two_sq (m := (rr (2 * n) : Int)) ((k'.sub (h'.mul 2)).of (by omega))
 exact hn (((hr.mul (rr n : Int)).sub h').of (by omega))
theorem sq_two_yes {n : Int} (h : ¬ Sq n) : Sq (2 * n) := by
 have h' := rr_alt h
 have h2 := minus_two
 generalize (2057464292470212699950648958431590554769679873859515792311286236065221686597310451751142621105086029381756709738514 : Int) = m at h2
 refine sq_of (m := m * (rr n : Int)) ?_
 exact ((h'.mul (m * m)).sub (h2.mul n)).of (by grind)
/-- A root of a square, beside the number. -/
theorem root_pm {u v x y : Int} (h0 : Dv (u * u - v * v - (x * x - y * y))) (h1 : Dv (2 * (u * v) - (x * y + y * x))) : (Dv (u - x) ∧ Dv (v - y)) ∨ (Dv (u + x) ∧ Dv (v + y)) := by
 have h : O2 (cm (u - x, v - y) (u + x, v + y)) := ⟨h0.of (by unfold cm; grind), h1.of (by unfold cm; grind)⟩
 exact h.dom
set_option maxHeartbeats 8000000 in
set_option maxRecDepth 100000 in
theorem roots_Af (x0 x1 k1 q0 q1 ra0 ra1 t0 t1 u0 u1 : Nat)
  (e_q : ∀ w, (Op.equalIn 10000 26 (V [q0, q1]) (V [q0, q1])).run Tryd.prog w = .ok true w) (e_ra : ∀ w, (Op.equalIn 10000 26 (V [ra0, ra1]) (V [ra0, ra1])).run Tryd.prog w = .ok true w) (e_q0 : ∀ w, (Op.equalIn 10000 26 (V [q0, q1]) (V [0, 0])).run Tryd.prog w = .ok false w)
  (c0 : ∀ w, Mm w [(0, dtab)] → Calls Tryd.prog 6 #[] w (Rt w (.bool true)))
  (c1 : ∀ w, Calls Tryd.prog 7 #[V [x0, x1], V [x0, x1]] w (Rt w (V [q0, q1])))
  (c2 : ∀ w, Mm w [(0, dtab)] → Calls Tryd.prog 13 #[V [q0, q1]] w (Rt w (.tuple #[V [ra0, ra1], .int .i64 0])))
  (c3 : ∀ w, Calls Tryd.prog 7 #[V [ra0, ra1], V [ra0, ra1]] w (Rt w (V [q0, q1])))
  (c4 : ∀ w, Calls Tryd.prog 8 #[V [x0, x1], V [0, 0]] w (Rt w (V [ra0, ra1])))
  (c5 : ∀ w, Calls Tryd.prog 12 #[.int .u64 1, .int .u64 1] w (Rt w (V [k1, k1])))
  (c6 : ∀ w, Calls Tryd.prog 7 #[V [x0, x1], V [k1, k1]] w (Rt w (V [t0, t1])))
  (c7 : ∀ w, Mm w [(0, dtab)] → Calls Tryd.prog 13 #[V [x0, x1]] w (Rt w (.tuple #[V [u0, u1], .int .i64 0])))
  (c8 : ∀ w, Mm w [(0, dtab)] → Calls Tryd.prog 13 #[V [t0, t1]] w (Rt w (.tuple #[V [0, 0], .int .i64 6])))
  (c9 : ∀ w, Calls Tryd.prog 7 #[V [u0, u1], V [u0, u1]] w (Rt w (V [ra0, ra1]))) (w : World) (hm : Mm w [(0, dtab)]) :
  Calls Tryd.prog 4 #[V [x0, x1]] w (Rt w (.bool true)) := by
 have H0 : Hid (_ ∧ _) := ⟨hm, Below.refl w.heap.size w⟩
 clear hm
 have C0 : Hid _ := c0
 have C1 : Hid _ := c1
 have C2 : Hid _ := c2
 have C3 : Hid _ := c3
 have C4 : Hid _ := c4
 have C5 : Hid _ := c5
 have C6 : Hid _ := c6
 have C7 : Hid _ := c7
 have C8 : Hid _ := c8
 have C9 : Hid _ := c9
 clear c0 c1 c2 c3 c4 c5 c6 c7 c8 c9
 go_enter Tryd.func4, Tryd.ntmps4
 refine wp_seq ?_
 refine walk_seqA 2 [.made (cel [x0, x1]) 26, .quiet (.bool false)] (sB H0) ?ho1 ?he1
 case ho1 => exact ak (fun γ => ⟨rfl, fun w' => ex_boxA rfl rfl⟩) (ak (fun _ => ⟨rfl, fun _ _ => rfl⟩) trivial)
 intro γ w1 l hM hl
 have H1 : Hid (Mm w1 [(γ 0, cel [x0, x1]), (0, dtab)] ∧ _) := growB H0 hM (Nat.le_refl _) hl [0] rfl (by decide)
 have o1_0 := ownB H0 hM (Nat.le_refl _) hl (i := 0) rfl
 clear hM hl l
 generalize γ 0 = γ1_0 at H1 o1_0 ⊢
 clear γ
 refine rest0 rfl (then_normal (wp_seq ?_))
 refine walk_seqB 2 [.call (.bool true), .quiet (.bool true)] H1 ?ho2 ?he2
 case ho2 => exact ak (fun γ => ⟨rfl, fun w' h => ⟨6, #[], exec_call rfl call6 rfl (mpn rfl), C0.out w' (h.one 1 rfl)⟩⟩) (ak (fun _ => ⟨rfl, fun _ _ => rfl⟩) trivial)
 intro _ w2 H2
 clear H1
 refine rest0 rfl (then_normal (wp_seq ?_))
 refine walk_seqA 5 [.quiet (V [x0, x1]), .quiet (V [x0, x1]), .call (V [q0, q1]), .made (cel [0, 0]) 26, .laid 3 (cel [0, 0]) (cel [q0, q1])] (sB H2) ?ho3 ?he3 (hL := ?hL3)
 case hL3 => exact ⟨⟨_, rfl⟩, trivial⟩
 case ho3 => exact ak (fun γ => ⟨rfl, fun w' h => ex_loadA (i := 0) (k := 2) h 0 rfl rfl rfl Tryd.isAgg26 Tryd.sizeOf26 rfl rfl⟩) (ak (fun γ => ⟨rfl, fun w' h => ex_loadA (i := 0) (k := 2) h 0 rfl rfl rfl Tryd.isAgg26 Tryd.sizeOf26 rfl rfl⟩) (ak (fun γ => ⟨rfl, fun w' h => ⟨7, #[V [x0, x1], V [x0, x1]], exec_call rfl call7 rfl (mpn rfl), C1.out w'⟩⟩) (ak (fun γ => ⟨rfl, fun w' => ex_madeE2 rfl⟩) (ak (fun γ => ⟨rfl, rfl, rfl, fun w' h => ex_laidA h rfl Tryd.sizeOf26 rfl rfl rfl⟩) trivial))))
 intro γ w3 l hM hl
 have H3 : Hid (Mm w3 [(γ 3, cel [q0, q1]), (γ1_0, cel [x0, x1]), (0, dtab)] ∧ _) := growB H2 hM (Nat.le_refl _) hl [3] rfl (by decide)
 have o3_3 := ownB H2 hM (Nat.le_refl _) hl (i := 3) rfl
 clear hM hl l H2
 generalize γ 3 = γ3_3 at H3 o3_3 ⊢
 clear γ
 refine rest0 rfl (then_normal (wp_seq ?_))
 refine walk_seqA 8 [.quiet (V [q0, q1]), .call (.tuple #[V [ra0, ra1], .int .i64 0]), .quiet (.tuple #[V [ra0, ra1], .int .i64 0]), .quiet (V [ra0, ra1]), .quiet (.int .i64 0), .made (cel [0, 0]) 26, .laid 5 (cel [0, 0]) (cel [ra0, ra1]), .quiet (.int .i64 0)] (sB H3) ?ho4 ?he4 (hL := ?hL4)
 case hL4 => exact ⟨⟨_, rfl⟩, trivial⟩
 case ho4 => exact ak (fun γ => ⟨rfl, fun w' h => ex_loadA (i := 0) (k := 2) h 0 rfl rfl rfl Tryd.isAgg26 Tryd.sizeOf26 rfl rfl⟩) (ak (fun γ => ⟨rfl, fun w' h => ⟨13, #[V [q0, q1]], exec_call rfl call13 rfl (mpn rfl), C2.out w' (h.one 2 rfl)⟩⟩) (ak (fun _ => ⟨rfl, fun _ _ => rfl⟩) (ak (by refine fun γ => ⟨rfl, fun w' h => ?_⟩; clear h; go_simp) (ak (by refine fun γ => ⟨rfl, fun w' h => ?_⟩; clear h; go_simp) (ak (fun γ => ⟨rfl, fun w' => ex_madeE2 rfl⟩) (ak (fun γ => ⟨rfl, rfl, rfl, fun w' h => ex_laidA h rfl Tryd.sizeOf26 rfl rfl rfl⟩) (ak (fun _ => ⟨rfl, fun _ _ => rfl⟩) trivial)))))))
 intro γ w4 l hM hl
 have H4 : Hid (Mm w4 [(γ 5, cel [ra0, ra1]), (γ3_3, cel [q0, q1]), (γ1_0, cel [x0, x1]), (0, dtab)] ∧ _) := growB H3 hM (Nat.le_refl _) hl [5] rfl (by decide)
 have o4_5 := ownB H3 hM (Nat.le_refl _) hl (i := 5) rfl
 clear hM hl l H3
 generalize γ 5 = γ4_5 at H4 o4_5 ⊢
 clear γ
 refine rest0 rfl (then_normal (wp_seq (wp_seq ?_)))
 refine walk_anyB 22 [.quiet (.int .i64 0), .quiet (.bool false), .quiet (.bool false), .quiet (V [ra0, ra1]), .quiet (V [ra0, ra1]), .call (V [q0, q1]), .quiet (V [q0, q1]), .quiet (.bool false), .quiet (.bool false), .quiet (.bool false), .quiet (V [ra0, ra1]), .quiet (V [x0, x1]), .quiet (V [0, 0]), .call (V [ra0, ra1]), .quiet (.bool false), .quiet (.bool false), .gone, .gone, .gone, .gone, .quiet (.bool false), .quiet (.bool false)] H4 ?ho5 ?he5
 case ho5 => exact ak (fun _ => ⟨rfl, fun _ _ => rfl⟩) (ak (by refine fun γ => ⟨rfl, fun w' h => ?_⟩; clear h; go_simp) (ak (fun _ => ⟨rfl, fun _ _ => rfl⟩) (ak (fun γ => ⟨rfl, fun w' h => ex_loadA (i := 0) (k := 2) h 0 rfl rfl rfl Tryd.isAgg26 Tryd.sizeOf26 rfl rfl⟩) (ak (fun γ => ⟨rfl, fun w' h => ex_loadA (i := 0) (k := 2) h 0 rfl rfl rfl Tryd.isAgg26 Tryd.sizeOf26 rfl rfl⟩) (ak (fun γ => ⟨rfl, fun w' h => ⟨7, #[V [ra0, ra1], V [ra0, ra1]], exec_call rfl call7 rfl (mpn rfl), C3.out w'⟩⟩) (ak (fun γ => ⟨rfl, fun w' h => ex_loadA (i := 0) (k := 2) h 1 rfl rfl rfl Tryd.isAgg26 Tryd.sizeOf26 rfl rfl⟩) (ak (fun γ => ⟨rfl, fun w' _ => exec_neqE2 e_q rfl rfl rfl⟩) (ak (by refine fun γ => ⟨rfl, fun w' h => ?_⟩; clear h; go_simp) (ak (fun _ => ⟨rfl, fun _ _ => rfl⟩) (ak (fun γ => ⟨rfl, fun w' h => ex_loadA (i := 0) (k := 2) h 0 rfl rfl rfl Tryd.isAgg26 Tryd.sizeOf26 rfl rfl⟩) (ak (fun γ => ⟨rfl, fun w' h => ex_loadA (i := 0) (k := 2) h 2 rfl rfl rfl Tryd.isAgg26 Tryd.sizeOf26 rfl rfl⟩) (ak (fun γ => ⟨rfl, fun w' _ => ex_buildE2z rfl⟩) (ak (fun γ => ⟨rfl, fun w' h => ⟨8, #[V [x0, x1], V [0, 0]], exec_call rfl call8 rfl (mpn rfl), C4.out w'⟩⟩) (ak (fun γ => ⟨rfl, fun w' _ => exec_neqE2 e_ra rfl rfl rfl⟩) (ak (fun _ => ⟨rfl, fun _ _ => rfl⟩) (ak (fun γ => rfl) (ak (fun γ => rfl) (ak (fun γ => rfl) (ak (fun γ => rfl) (ak (by refine fun γ => ⟨rfl, fun w' h => ?_⟩; clear h; go_simp) (ak (by refine fun γ => ⟨rfl, fun w' h => ?_⟩; clear h; go_simp) trivial)))))))))))))))))))))
 intro _ w5 H5
 clear H4
 refine rest0 rfl (then_normal (wp_cond_false rfl ?_))
 refine wp_skip (then_normal (wp_seq ?_))
 refine walk_seqA 8 [.quiet (V [x0, x1]), .call (.tuple #[V [u0, u1], .int .i64 0]), .quiet (.tuple #[V [u0, u1], .int .i64 0]), .quiet (V [u0, u1]), .quiet (.int .i64 0), .made (cel [0, 0]) 26, .laid 5 (cel [0, 0]) (cel [u0, u1]), .quiet (.int .i64 0)] (sB H5) ?ho6 ?he6 (hL := ?hL6)
 case hL6 => exact ⟨⟨_, rfl⟩, trivial⟩
 case ho6 => exact ak (fun γ => ⟨rfl, fun w' h => ex_loadA (i := 0) (k := 2) h 2 rfl rfl rfl Tryd.isAgg26 Tryd.sizeOf26 rfl rfl⟩) (ak (fun γ => ⟨rfl, fun w' h => ⟨13, #[V [x0, x1]], exec_call rfl call13 rfl (mpn rfl), C7.out w' (h.one 3 rfl)⟩⟩) (ak (fun _ => ⟨rfl, fun _ _ => rfl⟩) (ak (by refine fun γ => ⟨rfl, fun w' h => ?_⟩; clear h; go_simp) (ak (by refine fun γ => ⟨rfl, fun w' h => ?_⟩; clear h; go_simp) (ak (fun γ => ⟨rfl, fun w' => ex_madeE2 rfl⟩) (ak (fun γ => ⟨rfl, rfl, rfl, fun w' h => ex_laidA h rfl Tryd.sizeOf26 rfl rfl rfl⟩) (ak (fun _ => ⟨rfl, fun _ _ => rfl⟩) trivial)))))))
 intro γ w6 l hM hl
 have H6 : Hid (Mm w6 [(γ 5, cel [u0, u1]), (γ4_5, cel [ra0, ra1]), (γ3_3, cel [q0, q1]), (γ1_0, cel [x0, x1]), (0, dtab)] ∧ _) := growB H5 hM (Nat.le_refl _) hl [5] rfl (by decide)
 have o6_5 := ownB H5 hM (Nat.le_refl _) hl (i := 5) rfl
 clear hM hl l H5
 generalize γ 5 = γ6_5 at H6 o6_5 ⊢
 clear γ
 refine rest0 rfl (then_normal (wp_seq ?_))
 refine walk_anyA 10 [.quiet (V [x0, x1]), .call (V [k1, k1]), .call (V [t0, t1]), .call (.tuple #[V [0, 0], .int .i64 6]), .quiet (.tuple #[V [0, 0], .int .i64 6]), .quiet (V [0, 0]), .quiet (.int .i64 6), .made (cel [0, 0]) 26, .laid 7 (cel [0, 0]) (cel [0, 0]), .quiet (.int .i64 6)] (sB H6) ?ho7 ?he7 (hL := ?hL7)
 case hL7 => exact ⟨⟨_, rfl⟩, trivial⟩
 case ho7 => exact ak (fun γ => ⟨rfl, fun w' h => ex_loadA (i := 0) (k := 2) h 3 rfl rfl rfl Tryd.isAgg26 Tryd.sizeOf26 rfl rfl⟩) (ak (fun γ => ⟨rfl, fun w' h => ⟨12, #[.int .u64 1, .int .u64 1], exec_call rfl call12 rfl (mpn rfl), C5.out w'⟩⟩) (ak (fun γ => ⟨rfl, fun w' h => ⟨7, #[V [x0, x1], V [k1, k1]], exec_call rfl call7 rfl (mpn rfl), C6.out w'⟩⟩) (ak (fun γ => ⟨rfl, fun w' h => ⟨13, #[V [t0, t1]], exec_call rfl call13 rfl (mpn rfl), C8.out w' (h.one 4 rfl)⟩⟩) (ak (fun _ => ⟨rfl, fun _ _ => rfl⟩) (ak (by refine fun γ => ⟨rfl, fun w' h => ?_⟩; clear h; go_simp) (ak (by refine fun γ => ⟨rfl, fun w' h => ?_⟩; clear h; go_simp) (ak (fun γ => ⟨rfl, fun w' => ex_madeE2 rfl⟩) (ak (fun γ => ⟨rfl, rfl, rfl, fun w' h => ex_laidA h rfl Tryd.sizeOf26 rfl rfl rfl⟩) (ak (fun _ => ⟨rfl, fun _ _ => rfl⟩) trivial)))))))))
 intro γ w7 l hM hl
 have H7 : Hid (Mm w7 [(γ 7, cel [0, 0]), (γ6_5, cel [u0, u1]), (γ4_5, cel [ra0, ra1]), (γ3_3, cel [q0, q1]), (γ1_0, cel [x0, x1]), (0, dtab)] ∧ _) := growB H6 hM (Nat.le_refl _) hl [7] rfl (by decide)
 have o7_7 := ownB H6 hM (Nat.le_refl _) hl (i := 7) rfl
 clear hM hl l H6
 generalize γ 7 = γ7_7 at H7 o7_7 ⊢
 clear γ
 refine rest0 rfl (then_normal (wp_seq ?_))
 refine walk_seqB 4 [.quiet (V [q0, q1]), .quiet (V [0, 0]), .quiet (.bool false), .quiet (.bool false)] H7 ?ho8 ?he8
 case ho8 => exact ak (fun γ => ⟨rfl, fun w' h => ex_loadA (i := 0) (k := 2) h 3 rfl rfl rfl Tryd.isAgg26 Tryd.sizeOf26 rfl rfl⟩) (ak (fun γ => ⟨rfl, fun w' _ => ex_buildE2z rfl⟩) (ak (fun γ => ⟨rfl, fun w' _ => exec_eqE2 e_q0 rfl rfl rfl⟩) (ak (fun _ => ⟨rfl, fun _ _ => rfl⟩) trivial)))
 intro _ w8 H8
 clear H7
 refine rest0 rfl (then_normal (wp_seq ?_))
 refine walk_anyB 38 [.quiet (.bool true), .quiet (.bool true), .quiet (.int .i64 0), .quiet (.bool false), .quiet (.bool false), .quiet (V [u0, u1]), .quiet (V [u0, u1]), .call (V [ra0, ra1]), .quiet (V [x0, x1]), .quiet (V [0, 0]), .call (V [ra0, ra1]), .quiet (.bool true), .quiet (.bool true), .quiet (.bool true), .quiet (.bool true), .quiet (.bool false), .quiet (.bool false), .quiet (.int .i64 0), .quiet (.bool true), .quiet (.int .i64 6), .quiet (.bool false), .quiet (.bool true), .quiet (.bool true), .quiet (.bool true), .quiet (.bool true), .quiet (.int .i64 6), .quiet (.bool true), .quiet (.bool true), .gone, .gone, .gone, .gone, .gone, .gone, .gone, .quiet (.bool true), .quiet (.bool true), .quiet (.bool true)] H8 ?ho9 ?he9 (hL := ?hL9)
 case hL9 => exact trivial
 case ho9 => exact ak (fun _ => ⟨rfl, fun _ _ => rfl⟩) (ak (fun _ => ⟨rfl, fun _ _ => rfl⟩) (ak (fun _ => ⟨rfl, fun _ _ => rfl⟩) (ak (by refine fun γ => ⟨rfl, fun w' h => ?_⟩; clear h; go_simp) (ak (fun _ => ⟨rfl, fun _ _ => rfl⟩) (ak (fun γ => ⟨rfl, fun w' h => ex_loadA (i := 0) (k := 2) h 1 rfl rfl rfl Tryd.isAgg26 Tryd.sizeOf26 rfl rfl⟩) (ak (fun γ => ⟨rfl, fun w' h => ex_loadA (i := 0) (k := 2) h 1 rfl rfl rfl Tryd.isAgg26 Tryd.sizeOf26 rfl rfl⟩) (ak (fun γ => ⟨rfl, fun w' h => ⟨7, #[V [u0, u1], V [u0, u1]], exec_call rfl call7 rfl (mpn rfl), C9.out w'⟩⟩) (ak (fun γ => ⟨rfl, fun w' h => ex_loadA (i := 0) (k := 2) h 4 rfl rfl rfl Tryd.isAgg26 Tryd.sizeOf26 rfl rfl⟩) (ak (fun γ => ⟨rfl, fun w' _ => ex_buildE2z rfl⟩) (ak (fun γ => ⟨rfl, fun w' h => ⟨8, #[V [x0, x1], V [0, 0]], exec_call rfl call8 rfl (mpn rfl), C4.out w'⟩⟩) (ak (fun γ => ⟨rfl, fun w' _ => exec_eqE2 e_ra rfl rfl rfl⟩) (ak (by refine fun γ => ⟨rfl, fun w' h => ?_⟩; clear h; go_simp) (ak (by refine fun γ => ⟨rfl, fun w' h => ?_⟩; clear h; go_simp) (ak (fun _ => ⟨rfl, fun _ _ => rfl⟩) (ak (fun _ => ⟨rfl, fun _ _ => rfl⟩) (ak (fun _ => ⟨rfl, fun _ _ => rfl⟩) (ak (fun _ => ⟨rfl, fun _ _ => rfl⟩) (ak (by refine fun γ => ⟨rfl, fun w' h => ?_⟩; clear h; go_simp) (ak (fun _ => ⟨rfl, fun _ _ => rfl⟩) (ak (by refine fun γ => ⟨rfl, fun w' h => ?_⟩; clear h; go_simp) (ak (by refine fun γ => ⟨rfl, fun w' h => ?_⟩; clear h; go_simp) (ak (by refine fun γ => ⟨rfl, fun w' h => ?_⟩; clear h; go_simp) (ak (by refine fun γ => ⟨rfl, fun w' h => ?_⟩; clear h; go_simp) (ak (fun _ => ⟨rfl, fun _ _ => rfl⟩) (ak (fun _ => ⟨rfl, fun _ _ => rfl⟩) (ak (by refine fun γ => ⟨rfl, fun w' h => ?_⟩; clear h; go_simp) (ak (fun _ => ⟨rfl, fun _ _ => rfl⟩) (ak (fun γ => rfl) (ak (fun γ => rfl) (ak (fun γ => rfl) (ak (fun γ => rfl) (ak (fun γ => rfl) (ak (fun γ => rfl) (ak (fun γ => rfl) (ak (by refine fun γ => ⟨rfl, fun w' h => ?_⟩; clear h; go_simp) (ak (by refine fun γ => ⟨rfl, fun w' h => ?_⟩; clear h; go_simp) (ak (fun _ => ⟨rfl, fun _ _ => rfl⟩) trivial)))))))))))))))))))))))))))))))))))))
 intro _ w9 H9
 clear H8
 refine rest0 rfl (then_normal (wp_ret ?_))
 repeat (first | refine then_ret ?_ | refine block_ret ?_)
 refine bodyPost_ret (v := .bool true) (by simp [results, Tryd.results4, go_sem, *]) rfl ?_
 exact ⟨rfl, H9.out.2⟩
set_option maxHeartbeats 8000000 in
set_option maxRecDepth 100000 in
theorem roots_Ag (x0 x1 k1 q0 q1 ra0 ra1 t0 t1 y0 y1 : Nat)
  (e_q : ∀ w, (Op.equalIn 10000 26 (V [q0, q1]) (V [q0, q1])).run Tryd.prog w = .ok true w) (e_ra : ∀ w, (Op.equalIn 10000 26 (V [ra0, ra1]) (V [ra0, ra1])).run Tryd.prog w = .ok true w) (e_t : ∀ w, (Op.equalIn 10000 26 (V [t0, t1]) (V [t0, t1])).run Tryd.prog w = .ok true w) (e_q0 : ∀ w, (Op.equalIn 10000 26 (V [q0, q1]) (V [0, 0])).run Tryd.prog w = .ok false w)
  (c0 : ∀ w, Mm w [(0, dtab)] → Calls Tryd.prog 6 #[] w (Rt w (.bool true)))
  (c1 : ∀ w, Calls Tryd.prog 7 #[V [x0, x1], V [x0, x1]] w (Rt w (V [q0, q1])))
  (c2 : ∀ w, Mm w [(0, dtab)] → Calls Tryd.prog 13 #[V [q0, q1]] w (Rt w (.tuple #[V [ra0, ra1], .int .i64 0])))
  (c3 : ∀ w, Calls Tryd.prog 7 #[V [ra0, ra1], V [ra0, ra1]] w (Rt w (V [q0, q1])))
  (c4 : ∀ w, Calls Tryd.prog 8 #[V [x0, x1], V [0, 0]] w (Rt w (V [ra0, ra1])))
  (c5 : ∀ w, Calls Tryd.prog 12 #[.int .u64 1, .int .u64 1] w (Rt w (V [k1, k1])))
  (c6 : ∀ w, Calls Tryd.prog 7 #[V [x0, x1], V [k1, k1]] w (Rt w (V [t0, t1])))
  (c7 : ∀ w, Mm w [(0, dtab)] → Calls Tryd.prog 13 #[V [x0, x1]] w (Rt w (.tuple #[V [0, 0], .int .i64 6])))
  (c8 : ∀ w, Mm w [(0, dtab)] → Calls Tryd.prog 13 #[V [t0, t1]] w (Rt w (.tuple #[V [y0, y1], .int .i64 0])))
  (c9 : ∀ w, Calls Tryd.prog 7 #[V [y0, y1], V [y0, y1]] w (Rt w (V [t0, t1]))) (w : World) (hm : Mm w [(0, dtab)]) :
  Calls Tryd.prog 4 #[V [x0, x1]] w (Rt w (.bool true)) := by
 have H0 : Hid (_ ∧ _) := ⟨hm, Below.refl w.heap.size w⟩
 clear hm
 have C0 : Hid _ := c0
 have C1 : Hid _ := c1
 have C2 : Hid _ := c2
 have C3 : Hid _ := c3
 have C4 : Hid _ := c4
 have C5 : Hid _ := c5
 have C6 : Hid _ := c6
 have C7 : Hid _ := c7
 have C8 : Hid _ := c8
 have C9 : Hid _ := c9
 clear c0 c1 c2 c3 c4 c5 c6 c7 c8 c9
 go_enter Tryd.func4, Tryd.ntmps4
 refine wp_seq ?_
 refine walk_seqA 2 [.made (cel [x0, x1]) 26, .quiet (.bool false)] (sB H0) ?ho1 ?he1
 case ho1 => exact ak (fun γ => ⟨rfl, fun w' => ex_boxA rfl rfl⟩) (ak (fun _ => ⟨rfl, fun _ _ => rfl⟩) trivial)
 intro γ w1 l hM hl
 have H1 : Hid (Mm w1 [(γ 0, cel [x0, x1]), (0, dtab)] ∧ _) := growB H0 hM (Nat.le_refl _) hl [0] rfl (by decide)
 have o1_0 := ownB H0 hM (Nat.le_refl _) hl (i := 0) rfl
 clear hM hl l
 generalize γ 0 = γ1_0 at H1 o1_0 ⊢
 clear γ
 refine rest0 rfl (then_normal (wp_seq ?_))
 refine walk_seqB 2 [.call (.bool true), .quiet (.bool true)] H1 ?ho2 ?he2
 case ho2 => exact ak (fun γ => ⟨rfl, fun w' h => ⟨6, #[], exec_call rfl call6 rfl (mpn rfl), C0.out w' (h.one 1 rfl)⟩⟩) (ak (fun _ => ⟨rfl, fun _ _ => rfl⟩) trivial)
 intro _ w2 H2
 clear H1
 refine rest0 rfl (then_normal (wp_seq ?_))
 refine walk_seqA 5 [.quiet (V [x0, x1]), .quiet (V [x0, x1]), .call (V [q0, q1]), .made (cel [0, 0]) 26, .laid 3 (cel [0, 0]) (cel [q0, q1])] (sB H2) ?ho3 ?he3 (hL := ?hL3)
 case hL3 => exact ⟨⟨_, rfl⟩, trivial⟩
 case ho3 => exact ak (fun γ => ⟨rfl, fun w' h => ex_loadA (i := 0) (k := 2) h 0 rfl rfl rfl Tryd.isAgg26 Tryd.sizeOf26 rfl rfl⟩) (ak (fun γ => ⟨rfl, fun w' h => ex_loadA (i := 0) (k := 2) h 0 rfl rfl rfl Tryd.isAgg26 Tryd.sizeOf26 rfl rfl⟩) (ak (fun γ => ⟨rfl, fun w' h => ⟨7, #[V [x0, x1], V [x0, x1]], exec_call rfl call7 rfl (mpn rfl), C1.out w'⟩⟩) (ak (fun γ => ⟨rfl, fun w' => ex_madeE2 rfl⟩) (ak (fun γ => ⟨rfl, rfl, rfl, fun w' h => ex_laidA h rfl Tryd.sizeOf26 rfl rfl rfl⟩) trivial))))
 intro γ w3 l hM hl
 have H3 : Hid (Mm w3 [(γ 3, cel [q0, q1]), (γ1_0, cel [x0, x1]), (0, dtab)] ∧ _) := growB H2 hM (Nat.le_refl _) hl [3] rfl (by decide)
 have o3_3 := ownB H2 hM (Nat.le_refl _) hl (i := 3) rfl
 clear hM hl l H2
 generalize γ 3 = γ3_3 at H3 o3_3 ⊢
 clear γ
 refine rest0 rfl (then_normal (wp_seq ?_))
 refine walk_seqA 8 [.quiet (V [q0, q1]), .call (.tuple #[V [ra0, ra1], .int .i64 0]), .quiet (.tuple #[V [ra0, ra1], .int .i64 0]), .quiet (V [ra0, ra1]), .quiet (.int .i64 0), .made (cel [0, 0]) 26, .laid 5 (cel [0, 0]) (cel [ra0, ra1]), .quiet (.int .i64 0)] (sB H3) ?ho4 ?he4 (hL := ?hL4)
 case hL4 => exact ⟨⟨_, rfl⟩, trivial⟩
 case ho4 => exact ak (fun γ => ⟨rfl, fun w' h => ex_loadA (i := 0) (k := 2) h 0 rfl rfl rfl Tryd.isAgg26 Tryd.sizeOf26 rfl rfl⟩) (ak (fun γ => ⟨rfl, fun w' h => ⟨13, #[V [q0, q1]], exec_call rfl call13 rfl (mpn rfl), C2.out w' (h.one 2 rfl)⟩⟩) (ak (fun _ => ⟨rfl, fun _ _ => rfl⟩) (ak (by refine fun γ => ⟨rfl, fun w' h => ?_⟩; clear h; go_simp) (ak (by refine fun γ => ⟨rfl, fun w' h => ?_⟩; clear h; go_simp) (ak (fun γ => ⟨rfl, fun w' => ex_madeE2 rfl⟩) (ak (fun γ => ⟨rfl, rfl, rfl, fun w' h => ex_laidA h rfl Tryd.sizeOf26 rfl rfl rfl⟩) (ak (fun _ => ⟨rfl, fun _ _ => rfl⟩) trivial)))))))
 intro γ w4 l hM hl
 have H4 : Hid (Mm w4 [(γ 5, cel [ra0, ra1]), (γ3_3, cel [q0, q1]), (γ1_0, cel [x0, x1]), (0, dtab)] ∧ _) := growB H3 hM (Nat.le_refl _) hl [5] rfl (by decide)
 have o4_5 := ownB H3 hM (Nat.le_refl _) hl (i := 5) rfl
 clear hM hl l H3
 generalize γ 5 = γ4_5 at H4 o4_5 ⊢
 clear γ
 refine rest0 rfl (then_normal (wp_seq (wp_seq ?_)))
 refine walk_anyB 22 [.quiet (.int .i64 0), .quiet (.bool false), .quiet (.bool false), .quiet (V [ra0, ra1]), .quiet (V [ra0, ra1]), .call (V [q0, q1]), .quiet (V [q0, q1]), .quiet (.bool false), .quiet (.bool false), .quiet (.bool false), .quiet (V [ra0, ra1]), .quiet (V [x0, x1]), .quiet (V [0, 0]), .call (V [ra0, ra1]), .quiet (.bool false), .quiet (.bool false), .gone, .gone, .gone, .gone, .quiet (.bool false), .quiet (.bool false)] H4 ?ho5 ?he5
 case ho5 => exact ak (fun _ => ⟨rfl, fun _ _ => rfl⟩) (ak (by refine fun γ => ⟨rfl, fun w' h => ?_⟩; clear h; go_simp) (ak (fun _ => ⟨rfl, fun _ _ => rfl⟩) (ak (fun γ => ⟨rfl, fun w' h => ex_loadA (i := 0) (k := 2) h 0 rfl rfl rfl Tryd.isAgg26 Tryd.sizeOf26 rfl rfl⟩) (ak (fun γ => ⟨rfl, fun w' h => ex_loadA (i := 0) (k := 2) h 0 rfl rfl rfl Tryd.isAgg26 Tryd.sizeOf26 rfl rfl⟩) (ak (fun γ => ⟨rfl, fun w' h => ⟨7, #[V [ra0, ra1], V [ra0, ra1]], exec_call rfl call7 rfl (mpn rfl), C3.out w'⟩⟩) (ak (fun γ => ⟨rfl, fun w' h => ex_loadA (i := 0) (k := 2) h 1 rfl rfl rfl Tryd.isAgg26 Tryd.sizeOf26 rfl rfl⟩) (ak (fun γ => ⟨rfl, fun w' _ => exec_neqE2 e_q rfl rfl rfl⟩) (ak (by refine fun γ => ⟨rfl, fun w' h => ?_⟩; clear h; go_simp) (ak (fun _ => ⟨rfl, fun _ _ => rfl⟩) (ak (fun γ => ⟨rfl, fun w' h => ex_loadA (i := 0) (k := 2) h 0 rfl rfl rfl Tryd.isAgg26 Tryd.sizeOf26 rfl rfl⟩) (ak (fun γ => ⟨rfl, fun w' h => ex_loadA (i := 0) (k := 2) h 2 rfl rfl rfl Tryd.isAgg26 Tryd.sizeOf26 rfl rfl⟩) (ak (fun γ => ⟨rfl, fun w' _ => ex_buildE2z rfl⟩) (ak (fun γ => ⟨rfl, fun w' h => ⟨8, #[V [x0, x1], V [0, 0]], exec_call rfl call8 rfl (mpn rfl), C4.out w'⟩⟩) (ak (fun γ => ⟨rfl, fun w' _ => exec_neqE2 e_ra rfl rfl rfl⟩) (ak (fun _ => ⟨rfl, fun _ _ => rfl⟩) (ak (fun γ => rfl) (ak (fun γ => rfl) (ak (fun γ => rfl) (ak (fun γ => rfl) (ak (by refine fun γ => ⟨rfl, fun w' h => ?_⟩; clear h; go_simp) (ak (by refine fun γ => ⟨rfl, fun w' h => ?_⟩; clear h; go_simp) trivial)))))))))))))))))))))
 intro _ w5 H5
 clear H4
 refine rest0 rfl (then_normal (wp_cond_false rfl ?_))
 refine wp_skip (then_normal (wp_seq ?_))
 refine walk_seqA 8 [.quiet (V [x0, x1]), .call (.tuple #[V [0, 0], .int .i64 6]), .quiet (.tuple #[V [0, 0], .int .i64 6]), .quiet (V [0, 0]), .quiet (.int .i64 6), .made (cel [0, 0]) 26, .laid 5 (cel [0, 0]) (cel [0, 0]), .quiet (.int .i64 6)] (sB H5) ?ho6 ?he6 (hL := ?hL6)
 case hL6 => exact ⟨⟨_, rfl⟩, trivial⟩
 case ho6 => exact ak (fun γ => ⟨rfl, fun w' h => ex_loadA (i := 0) (k := 2) h 2 rfl rfl rfl Tryd.isAgg26 Tryd.sizeOf26 rfl rfl⟩) (ak (fun γ => ⟨rfl, fun w' h => ⟨13, #[V [x0, x1]], exec_call rfl call13 rfl (mpn rfl), C7.out w' (h.one 3 rfl)⟩⟩) (ak (fun _ => ⟨rfl, fun _ _ => rfl⟩) (ak (by refine fun γ => ⟨rfl, fun w' h => ?_⟩; clear h; go_simp) (ak (by refine fun γ => ⟨rfl, fun w' h => ?_⟩; clear h; go_simp) (ak (fun γ => ⟨rfl, fun w' => ex_madeE2 rfl⟩) (ak (fun γ => ⟨rfl, rfl, rfl, fun w' h => ex_laidA h rfl Tryd.sizeOf26 rfl rfl rfl⟩) (ak (fun _ => ⟨rfl, fun _ _ => rfl⟩) trivial)))))))
 intro γ w6 l hM hl
 have H6 : Hid (Mm w6 [(γ 5, cel [0, 0]), (γ4_5, cel [ra0, ra1]), (γ3_3, cel [q0, q1]), (γ1_0, cel [x0, x1]), (0, dtab)] ∧ _) := growB H5 hM (Nat.le_refl _) hl [5] rfl (by decide)
 have o6_5 := ownB H5 hM (Nat.le_refl _) hl (i := 5) rfl
 clear hM hl l H5
 generalize γ 5 = γ6_5 at H6 o6_5 ⊢
 clear γ
 refine rest0 rfl (then_normal (wp_seq ?_))
 refine walk_anyA 10 [.quiet (V [x0, x1]), .call (V [k1, k1]), .call (V [t0, t1]), .call (.tuple #[V [y0, y1], .int .i64 0]), .quiet (.tuple #[V [y0, y1], .int .i64 0]), .quiet (V [y0, y1]), .quiet (.int .i64 0), .made (cel [0, 0]) 26, .laid 7 (cel [0, 0]) (cel [y0, y1]), .quiet (.int .i64 0)] (sB H6) ?ho7 ?he7 (hL := ?hL7)
 case hL7 => exact ⟨⟨_, rfl⟩, trivial⟩
 case ho7 => exact ak (fun γ => ⟨rfl, fun w' h => ex_loadA (i := 0) (k := 2) h 3 rfl rfl rfl Tryd.isAgg26 Tryd.sizeOf26 rfl rfl⟩) (ak (fun γ => ⟨rfl, fun w' h => ⟨12, #[.int .u64 1, .int .u64 1], exec_call rfl call12 rfl (mpn rfl), C5.out w'⟩⟩) (ak (fun γ => ⟨rfl, fun w' h => ⟨7, #[V [x0, x1], V [k1, k1]], exec_call rfl call7 rfl (mpn rfl), C6.out w'⟩⟩) (ak (fun γ => ⟨rfl, fun w' h => ⟨13, #[V [t0, t1]], exec_call rfl call13 rfl (mpn rfl), C8.out w' (h.one 4 rfl)⟩⟩) (ak (fun _ => ⟨rfl, fun _ _ => rfl⟩) (ak (by refine fun γ => ⟨rfl, fun w' h => ?_⟩; clear h; go_simp) (ak (by refine fun γ => ⟨rfl, fun w' h => ?_⟩; clear h; go_simp) (ak (fun γ => ⟨rfl, fun w' => ex_madeE2 rfl⟩) (ak (fun γ => ⟨rfl, rfl, rfl, fun w' h => ex_laidA h rfl Tryd.sizeOf26 rfl rfl rfl⟩) (ak (fun _ => ⟨rfl, fun _ _ => rfl⟩) trivial)))))))))
 intro γ w7 l hM hl
 have H7 : Hid (Mm w7 [(γ 7, cel [y0, y1]), (γ6_5, cel [0, 0]), (γ4_5, cel [ra0, ra1]), (γ3_3, cel [q0, q1]), (γ1_0, cel [x0, x1]), (0, dtab)] ∧ _) := growB H6 hM (Nat.le_refl _) hl [7] rfl (by decide)
 have o7_7 := ownB H6 hM (Nat.le_refl _) hl (i := 7) rfl
 clear hM hl l H6
 generalize γ 7 = γ7_7 at H7 o7_7 ⊢
 clear γ
 refine rest0 rfl (then_normal (wp_seq ?_))
 refine walk_seqB 4 [.quiet (V [q0, q1]), .quiet (V [0, 0]), .quiet (.bool false), .quiet (.bool false)] H7 ?ho8 ?he8
 case ho8 => exact ak (fun γ => ⟨rfl, fun w' h => ex_loadA (i := 0) (k := 2) h 3 rfl rfl rfl Tryd.isAgg26 Tryd.sizeOf26 rfl rfl⟩) (ak (fun γ => ⟨rfl, fun w' _ => ex_buildE2z rfl⟩) (ak (fun γ => ⟨rfl, fun w' _ => exec_eqE2 e_q0 rfl rfl rfl⟩) (ak (fun _ => ⟨rfl, fun _ _ => rfl⟩) trivial)))
 intro _ w8 H8
 clear H7
 refine rest0 rfl (then_normal (wp_seq ?_))
 refine walk_anyB 38 [.quiet (.bool true), .quiet (.bool true), .quiet (.int .i64 6), .quiet (.bool true), .quiet (.bool true), .gone, .gone, .gone, .gone, .gone, .gone, .gone, .quiet (.bool true), .quiet (.bool true), .quiet (.bool true), .quiet (.bool false), .quiet (.bool false), .quiet (.int .i64 6), .quiet (.bool false), .quiet (.int .i64 0), .quiet (.bool true), .quiet (.bool true), .quiet (.bool true), .quiet (.bool true), .quiet (.bool true), .quiet (.int .i64 0), .quiet (.bool false), .quiet (.bool false), .quiet (V [y0, y1]), .quiet (V [y0, y1]), .call (V [t0, t1]), .quiet (V [x0, x1]), .call (V [k1, k1]), .call (V [t0, t1]), .quiet (.bool true), .quiet (.bool true), .quiet (.bool true), .quiet (.bool true)] H8 ?ho9 ?he9 (hL := ?hL9)
 case hL9 => exact trivial
 case ho9 => exact ak (fun _ => ⟨rfl, fun _ _ => rfl⟩) (ak (fun _ => ⟨rfl, fun _ _ => rfl⟩) (ak (fun _ => ⟨rfl, fun _ _ => rfl⟩) (ak (by refine fun γ => ⟨rfl, fun w' h => ?_⟩; clear h; go_simp) (ak (fun _ => ⟨rfl, fun _ _ => rfl⟩) (ak (fun γ => rfl) (ak (fun γ => rfl) (ak (fun γ => rfl) (ak (fun γ => rfl) (ak (fun γ => rfl) (ak (fun γ => rfl) (ak (fun γ => rfl) (ak (by refine fun γ => ⟨rfl, fun w' h => ?_⟩; clear h; go_simp) (ak (by refine fun γ => ⟨rfl, fun w' h => ?_⟩; clear h; go_simp) (ak (fun _ => ⟨rfl, fun _ _ => rfl⟩) (ak (fun _ => ⟨rfl, fun _ _ => rfl⟩) (ak (fun _ => ⟨rfl, fun _ _ => rfl⟩) (ak (fun _ => ⟨rfl, fun _ _ => rfl⟩) (ak (by refine fun γ => ⟨rfl, fun w' h => ?_⟩; clear h; go_simp) (ak (fun _ => ⟨rfl, fun _ _ => rfl⟩) (ak (by refine fun γ => ⟨rfl, fun w' h => ?_⟩; clear h; go_simp) (ak (by refine fun γ => ⟨rfl, fun w' h => ?_⟩; clear h; go_simp) (ak (by refine fun γ => ⟨rfl, fun w' h => ?_⟩; clear h; go_simp) (ak (by refine fun γ => ⟨rfl, fun w' h => ?_⟩; clear h; go_simp) (ak (fun _ => ⟨rfl, fun _ _ => rfl⟩) (ak (fun _ => ⟨rfl, fun _ _ => rfl⟩) (ak (by refine fun γ => ⟨rfl, fun w' h => ?_⟩; clear h; go_simp) (ak (fun _ => ⟨rfl, fun _ _ => rfl⟩) (ak (fun γ => ⟨rfl, fun w' h => ex_loadA (i := 0) (k := 2) h 0 rfl rfl rfl Tryd.isAgg26 Tryd.sizeOf26 rfl rfl⟩) (ak (fun γ => ⟨rfl, fun w' h => ex_loadA (i := 0) (k := 2) h 0 rfl rfl rfl Tryd.isAgg26 Tryd.sizeOf26 rfl rfl⟩) (ak (fun γ => ⟨rfl, fun w' h => ⟨7, #[V [y0, y1], V [y0, y1]], exec_call rfl call7 rfl (mpn rfl), C9.out w'⟩⟩) (ak (fun γ => ⟨rfl, fun w' h => ex_loadA (i := 0) (k := 2) h 4 rfl rfl rfl Tryd.isAgg26 Tryd.sizeOf26 rfl rfl⟩) (ak (fun γ => ⟨rfl, fun w' h => ⟨12, #[.int .u64 1, .int .u64 1], exec_call rfl call12 rfl (mpn rfl), C5.out w'⟩⟩) (ak (fun γ => ⟨rfl, fun w' h => ⟨7, #[V [x0, x1], V [k1, k1]], exec_call rfl call7 rfl (mpn rfl), C6.out w'⟩⟩) (ak (fun γ => ⟨rfl, fun w' _ => exec_eqE2 e_t rfl rfl rfl⟩) (ak (by refine fun γ => ⟨rfl, fun w' h => ?_⟩; clear h; go_simp) (ak (by refine fun γ => ⟨rfl, fun w' h => ?_⟩; clear h; go_simp) (ak (fun _ => ⟨rfl, fun _ _ => rfl⟩) trivial)))))))))))))))))))))))))))))))))))))
 intro _ w9 H9
 clear H8
 refine rest0 rfl (then_normal (wp_ret ?_))
 repeat (first | refine then_ret ?_ | refine block_ret ?_)
 refine bodyPost_ret (v := .bool true) (by simp [results, Tryd.results4, go_sem, *]) rfl ?_
 exact ⟨rfl, H9.out.2⟩
set_option maxHeartbeats 8000000 in
set_option maxRecDepth 100000 in
theorem roots_Bf (x0 x1 k1 q0 q1 ra0 ra1 r0 r1 t0 t1 u0 u1 : Nat)
  (e_q : ∀ w, (Op.equalIn 10000 26 (V [q0, q1]) (V [q0, q1])).run Tryd.prog w = .ok true w) (e_r : ∀ w, (Op.equalIn 10000 26 (V [r0, r1]) (V [r0, r1])).run Tryd.prog w = .ok true w) (e_ra : ∀ w, (Op.equalIn 10000 26 (V [ra0, ra1]) (V [ra0, ra1])).run Tryd.prog w = .ok true w) (e_n : ∀ w, (Op.equalIn 10000 26 (V [r0, r1]) (V [ra0, ra1])).run Tryd.prog w = .ok false w) (e_q0 : ∀ w, (Op.equalIn 10000 26 (V [q0, q1]) (V [0, 0])).run Tryd.prog w = .ok false w)
  (c0 : ∀ w, Mm w [(0, dtab)] → Calls Tryd.prog 6 #[] w (Rt w (.bool true)))
  (c1 : ∀ w, Calls Tryd.prog 7 #[V [x0, x1], V [x0, x1]] w (Rt w (V [q0, q1])))
  (c2 : ∀ w, Mm w [(0, dtab)] → Calls Tryd.prog 13 #[V [q0, q1]] w (Rt w (.tuple #[V [r0, r1], .int .i64 0])))
  (c3 : ∀ w, Calls Tryd.prog 7 #[V [r0, r1], V [r0, r1]] w (Rt w (V [q0, q1])))
  (c4 : ∀ w, Calls Tryd.prog 8 #[V [x0, x1], V [0, 0]] w (Rt w (V [ra0, ra1])))
  (c5 : ∀ w, Calls Tryd.prog 12 #[.int .u64 1, .int .u64 1] w (Rt w (V [k1, k1])))
  (c6 : ∀ w, Calls Tryd.prog 7 #[V [x0, x1], V [k1, k1]] w (Rt w (V [t0, t1])))
  (c7 : ∀ w, Calls Tryd.prog 14 #[V [x0, x1]] w (Rt w (V [r0, r1])))
  (c8 : ∀ w, Mm w [(0, dtab)] → Calls Tryd.prog 13 #[V [x0, x1]] w (Rt w (.tuple #[V [u0, u1], .int .i64 0])))
  (c9 : ∀ w, Mm w [(0, dtab)] → Calls Tryd.prog 13 #[V [t0, t1]] w (Rt w (.tuple #[V [0, 0], .int .i64 6])))
  (c10 : ∀ w, Calls Tryd.prog 7 #[V [u0, u1], V [u0, u1]] w (Rt w (V [ra0, ra1]))) (w : World) (hm : Mm w [(0, dtab)]) :
  Calls Tryd.prog 4 #[V [x0, x1]] w (Rt w (.bool true)) := by
 have H0 : Hid (_ ∧ _) := ⟨hm, Below.refl w.heap.size w⟩
 clear hm
 have C0 : Hid _ := c0
 have C1 : Hid _ := c1
 have C2 : Hid _ := c2
 have C3 : Hid _ := c3
 have C4 : Hid _ := c4
 have C5 : Hid _ := c5
 have C6 : Hid _ := c6
 have C7 : Hid _ := c7
 have C8 : Hid _ := c8
 have C9 : Hid _ := c9
 have C10 : Hid _ := c10
 clear c0 c1 c2 c3 c4 c5 c6 c7 c8 c9 c10
 go_enter Tryd.func4, Tryd.ntmps4
 refine wp_seq ?_
 refine walk_seqA 2 [.made (cel [x0, x1]) 26, .quiet (.bool false)] (sB H0) ?ho1 ?he1
 case ho1 => exact ak (fun γ => ⟨rfl, fun w' => ex_boxA rfl rfl⟩) (ak (fun _ => ⟨rfl, fun _ _ => rfl⟩) trivial)
 intro γ w1 l hM hl
 have H1 : Hid (Mm w1 [(γ 0, cel [x0, x1]), (0, dtab)] ∧ _) := growB H0 hM (Nat.le_refl _) hl [0] rfl (by decide)
 have o1_0 := ownB H0 hM (Nat.le_refl _) hl (i := 0) rfl
 clear hM hl l
 generalize γ 0 = γ1_0 at H1 o1_0 ⊢
 clear γ
 refine rest0 rfl (then_normal (wp_seq ?_))
 refine walk_seqB 2 [.call (.bool true), .quiet (.bool true)] H1 ?ho2 ?he2
 case ho2 => exact ak (fun γ => ⟨rfl, fun w' h => ⟨6, #[], exec_call rfl call6 rfl (mpn rfl), C0.out w' (h.one 1 rfl)⟩⟩) (ak (fun _ => ⟨rfl, fun _ _ => rfl⟩) trivial)
 intro _ w2 H2
 clear H1
 refine rest0 rfl (then_normal (wp_seq ?_))
 refine walk_seqA 5 [.quiet (V [x0, x1]), .quiet (V [x0, x1]), .call (V [q0, q1]), .made (cel [0, 0]) 26, .laid 3 (cel [0, 0]) (cel [q0, q1])] (sB H2) ?ho3 ?he3 (hL := ?hL3)
 case hL3 => exact ⟨⟨_, rfl⟩, trivial⟩
 case ho3 => exact ak (fun γ => ⟨rfl, fun w' h => ex_loadA (i := 0) (k := 2) h 0 rfl rfl rfl Tryd.isAgg26 Tryd.sizeOf26 rfl rfl⟩) (ak (fun γ => ⟨rfl, fun w' h => ex_loadA (i := 0) (k := 2) h 0 rfl rfl rfl Tryd.isAgg26 Tryd.sizeOf26 rfl rfl⟩) (ak (fun γ => ⟨rfl, fun w' h => ⟨7, #[V [x0, x1], V [x0, x1]], exec_call rfl call7 rfl (mpn rfl), C1.out w'⟩⟩) (ak (fun γ => ⟨rfl, fun w' => ex_madeE2 rfl⟩) (ak (fun γ => ⟨rfl, rfl, rfl, fun w' h => ex_laidA h rfl Tryd.sizeOf26 rfl rfl rfl⟩) trivial))))
 intro γ w3 l hM hl
 have H3 : Hid (Mm w3 [(γ 3, cel [q0, q1]), (γ1_0, cel [x0, x1]), (0, dtab)] ∧ _) := growB H2 hM (Nat.le_refl _) hl [3] rfl (by decide)
 have o3_3 := ownB H2 hM (Nat.le_refl _) hl (i := 3) rfl
 clear hM hl l H2
 generalize γ 3 = γ3_3 at H3 o3_3 ⊢
 clear γ
 refine rest0 rfl (then_normal (wp_seq ?_))
 refine walk_seqA 8 [.quiet (V [q0, q1]), .call (.tuple #[V [r0, r1], .int .i64 0]), .quiet (.tuple #[V [r0, r1], .int .i64 0]), .quiet (V [r0, r1]), .quiet (.int .i64 0), .made (cel [0, 0]) 26, .laid 5 (cel [0, 0]) (cel [r0, r1]), .quiet (.int .i64 0)] (sB H3) ?ho4 ?he4 (hL := ?hL4)
 case hL4 => exact ⟨⟨_, rfl⟩, trivial⟩
 case ho4 => exact ak (fun γ => ⟨rfl, fun w' h => ex_loadA (i := 0) (k := 2) h 0 rfl rfl rfl Tryd.isAgg26 Tryd.sizeOf26 rfl rfl⟩) (ak (fun γ => ⟨rfl, fun w' h => ⟨13, #[V [q0, q1]], exec_call rfl call13 rfl (mpn rfl), C2.out w' (h.one 2 rfl)⟩⟩) (ak (fun _ => ⟨rfl, fun _ _ => rfl⟩) (ak (by refine fun γ => ⟨rfl, fun w' h => ?_⟩; clear h; go_simp) (ak (by refine fun γ => ⟨rfl, fun w' h => ?_⟩; clear h; go_simp) (ak (fun γ => ⟨rfl, fun w' => ex_madeE2 rfl⟩) (ak (fun γ => ⟨rfl, rfl, rfl, fun w' h => ex_laidA h rfl Tryd.sizeOf26 rfl rfl rfl⟩) (ak (fun _ => ⟨rfl, fun _ _ => rfl⟩) trivial)))))))
 intro γ w4 l hM hl
 have H4 : Hid (Mm w4 [(γ 5, cel [r0, r1]), (γ3_3, cel [q0, q1]), (γ1_0, cel [x0, x1]), (0, dtab)] ∧ _) := growB H3 hM (Nat.le_refl _) hl [5] rfl (by decide)
 have o4_5 := ownB H3 hM (Nat.le_refl _) hl (i := 5) rfl
 clear hM hl l H3
 generalize γ 5 = γ4_5 at H4 o4_5 ⊢
 clear γ
 refine rest0 rfl (then_normal (wp_seq (wp_seq ?_)))
 refine walk_anyB 22 [.quiet (.int .i64 0), .quiet (.bool false), .quiet (.bool false), .quiet (V [r0, r1]), .quiet (V [r0, r1]), .call (V [q0, q1]), .quiet (V [q0, q1]), .quiet (.bool false), .quiet (.bool false), .quiet (.bool false), .quiet (V [r0, r1]), .quiet (V [x0, x1]), .quiet (V [0, 0]), .call (V [ra0, ra1]), .quiet (.bool true), .quiet (.bool true), .quiet (V [r0, r1]), .quiet (V [x0, x1]), .call (V [r0, r1]), .quiet (.bool false), .quiet (.bool false), .quiet (.bool false)] H4 ?ho5 ?he5
 case ho5 => exact ak (fun _ => ⟨rfl, fun _ _ => rfl⟩) (ak (by refine fun γ => ⟨rfl, fun w' h => ?_⟩; clear h; go_simp) (ak (fun _ => ⟨rfl, fun _ _ => rfl⟩) (ak (fun γ => ⟨rfl, fun w' h => ex_loadA (i := 0) (k := 2) h 0 rfl rfl rfl Tryd.isAgg26 Tryd.sizeOf26 rfl rfl⟩) (ak (fun γ => ⟨rfl, fun w' h => ex_loadA (i := 0) (k := 2) h 0 rfl rfl rfl Tryd.isAgg26 Tryd.sizeOf26 rfl rfl⟩) (ak (fun γ => ⟨rfl, fun w' h => ⟨7, #[V [r0, r1], V [r0, r1]], exec_call rfl call7 rfl (mpn rfl), C3.out w'⟩⟩) (ak (fun γ => ⟨rfl, fun w' h => ex_loadA (i := 0) (k := 2) h 1 rfl rfl rfl Tryd.isAgg26 Tryd.sizeOf26 rfl rfl⟩) (ak (fun γ => ⟨rfl, fun w' _ => exec_neqE2 e_q rfl rfl rfl⟩) (ak (by refine fun γ => ⟨rfl, fun w' h => ?_⟩; clear h; go_simp) (ak (fun _ => ⟨rfl, fun _ _ => rfl⟩) (ak (fun γ => ⟨rfl, fun w' h => ex_loadA (i := 0) (k := 2) h 0 rfl rfl rfl Tryd.isAgg26 Tryd.sizeOf26 rfl rfl⟩) (ak (fun γ => ⟨rfl, fun w' h => ex_loadA (i := 0) (k := 2) h 2 rfl rfl rfl Tryd.isAgg26 Tryd.sizeOf26 rfl rfl⟩) (ak (fun γ => ⟨rfl, fun w' _ => ex_buildE2z rfl⟩) (ak (fun γ => ⟨rfl, fun w' h => ⟨8, #[V [x0, x1], V [0, 0]], exec_call rfl call8 rfl (mpn rfl), C4.out w'⟩⟩) (ak (fun γ => ⟨rfl, fun w' _ => exec_neqE2 e_n rfl rfl rfl⟩) (ak (fun _ => ⟨rfl, fun _ _ => rfl⟩) (ak (fun γ => ⟨rfl, fun w' h => ex_loadA (i := 0) (k := 2) h 0 rfl rfl rfl Tryd.isAgg26 Tryd.sizeOf26 rfl rfl⟩) (ak (fun γ => ⟨rfl, fun w' h => ex_loadA (i := 0) (k := 2) h 2 rfl rfl rfl Tryd.isAgg26 Tryd.sizeOf26 rfl rfl⟩) (ak (fun γ => ⟨rfl, fun w' h => ⟨14, #[V [x0, x1]], exec_call rfl call14 rfl (mpn rfl), C7.out w'⟩⟩) (ak (fun γ => ⟨rfl, fun w' _ => exec_neqE2 e_r rfl rfl rfl⟩) (ak (by refine fun γ => ⟨rfl, fun w' h => ?_⟩; clear h; go_simp) (ak (by refine fun γ => ⟨rfl, fun w' h => ?_⟩; clear h; go_simp) trivial)))))))))))))))))))))
 intro _ w5 H5
 clear H4
 refine rest0 rfl (then_normal (wp_cond_false rfl ?_))
 refine wp_skip (then_normal (wp_seq ?_))
 refine walk_seqA 8 [.quiet (V [x0, x1]), .call (.tuple #[V [u0, u1], .int .i64 0]), .quiet (.tuple #[V [u0, u1], .int .i64 0]), .quiet (V [u0, u1]), .quiet (.int .i64 0), .made (cel [0, 0]) 26, .laid 5 (cel [0, 0]) (cel [u0, u1]), .quiet (.int .i64 0)] (sB H5) ?ho6 ?he6 (hL := ?hL6)
 case hL6 => exact ⟨⟨_, rfl⟩, trivial⟩
 case ho6 => exact ak (fun γ => ⟨rfl, fun w' h => ex_loadA (i := 0) (k := 2) h 2 rfl rfl rfl Tryd.isAgg26 Tryd.sizeOf26 rfl rfl⟩) (ak (fun γ => ⟨rfl, fun w' h => ⟨13, #[V [x0, x1]], exec_call rfl call13 rfl (mpn rfl), C8.out w' (h.one 3 rfl)⟩⟩) (ak (fun _ => ⟨rfl, fun _ _ => rfl⟩) (ak (by refine fun γ => ⟨rfl, fun w' h => ?_⟩; clear h; go_simp) (ak (by refine fun γ => ⟨rfl, fun w' h => ?_⟩; clear h; go_simp) (ak (fun γ => ⟨rfl, fun w' => ex_madeE2 rfl⟩) (ak (fun γ => ⟨rfl, rfl, rfl, fun w' h => ex_laidA h rfl Tryd.sizeOf26 rfl rfl rfl⟩) (ak (fun _ => ⟨rfl, fun _ _ => rfl⟩) trivial)))))))
 intro γ w6 l hM hl
 have H6 : Hid (Mm w6 [(γ 5, cel [u0, u1]), (γ4_5, cel [r0, r1]), (γ3_3, cel [q0, q1]), (γ1_0, cel [x0, x1]), (0, dtab)] ∧ _) := growB H5 hM (Nat.le_refl _) hl [5] rfl (by decide)
 have o6_5 := ownB H5 hM (Nat.le_refl _) hl (i := 5) rfl
 clear hM hl l H5
 generalize γ 5 = γ6_5 at H6 o6_5 ⊢
 clear γ
 refine rest0 rfl (then_normal (wp_seq ?_))
 refine walk_anyA 10 [.quiet (V [x0, x1]), .call (V [k1, k1]), .call (V [t0, t1]), .call (.tuple #[V [0, 0], .int .i64 6]), .quiet (.tuple #[V [0, 0], .int .i64 6]), .quiet (V [0, 0]), .quiet (.int .i64 6), .made (cel [0, 0]) 26, .laid 7 (cel [0, 0]) (cel [0, 0]), .quiet (.int .i64 6)] (sB H6) ?ho7 ?he7 (hL := ?hL7)
 case hL7 => exact ⟨⟨_, rfl⟩, trivial⟩
 case ho7 => exact ak (fun γ => ⟨rfl, fun w' h => ex_loadA (i := 0) (k := 2) h 3 rfl rfl rfl Tryd.isAgg26 Tryd.sizeOf26 rfl rfl⟩) (ak (fun γ => ⟨rfl, fun w' h => ⟨12, #[.int .u64 1, .int .u64 1], exec_call rfl call12 rfl (mpn rfl), C5.out w'⟩⟩) (ak (fun γ => ⟨rfl, fun w' h => ⟨7, #[V [x0, x1], V [k1, k1]], exec_call rfl call7 rfl (mpn rfl), C6.out w'⟩⟩) (ak (fun γ => ⟨rfl, fun w' h => ⟨13, #[V [t0, t1]], exec_call rfl call13 rfl (mpn rfl), C9.out w' (h.one 4 rfl)⟩⟩) (ak (fun _ => ⟨rfl, fun _ _ => rfl⟩) (ak (by refine fun γ => ⟨rfl, fun w' h => ?_⟩; clear h; go_simp) (ak (by refine fun γ => ⟨rfl, fun w' h => ?_⟩; clear h; go_simp) (ak (fun γ => ⟨rfl, fun w' => ex_madeE2 rfl⟩) (ak (fun γ => ⟨rfl, rfl, rfl, fun w' h => ex_laidA h rfl Tryd.sizeOf26 rfl rfl rfl⟩) (ak (fun _ => ⟨rfl, fun _ _ => rfl⟩) trivial)))))))))
 intro γ w7 l hM hl
 have H7 : Hid (Mm w7 [(γ 7, cel [0, 0]), (γ6_5, cel [u0, u1]), (γ4_5, cel [r0, r1]), (γ3_3, cel [q0, q1]), (γ1_0, cel [x0, x1]), (0, dtab)] ∧ _) := growB H6 hM (Nat.le_refl _) hl [7] rfl (by decide)
 have o7_7 := ownB H6 hM (Nat.le_refl _) hl (i := 7) rfl
 clear hM hl l H6
 generalize γ 7 = γ7_7 at H7 o7_7 ⊢
 clear γ
 refine rest0 rfl (then_normal (wp_seq ?_))
 refine walk_seqB 4 [.quiet (V [q0, q1]), .quiet (V [0, 0]), .quiet (.bool false), .quiet (.bool false)] H7 ?ho8 ?he8
 case ho8 => exact ak (fun γ => ⟨rfl, fun w' h => ex_loadA (i := 0) (k := 2) h 3 rfl rfl rfl Tryd.isAgg26 Tryd.sizeOf26 rfl rfl⟩) (ak (fun γ => ⟨rfl, fun w' _ => ex_buildE2z rfl⟩) (ak (fun γ => ⟨rfl, fun w' _ => exec_eqE2 e_q0 rfl rfl rfl⟩) (ak (fun _ => ⟨rfl, fun _ _ => rfl⟩) trivial)))
 intro _ w8 H8
 clear H7
 refine rest0 rfl (then_normal (wp_seq ?_))
 refine walk_anyB 38 [.quiet (.bool true), .quiet (.bool true), .quiet (.int .i64 0), .quiet (.bool false), .quiet (.bool false), .quiet (V [u0, u1]), .quiet (V [u0, u1]), .call (V [ra0, ra1]), .quiet (V [x0, x1]), .quiet (V [0, 0]), .call (V [ra0, ra1]), .quiet (.bool true), .quiet (.bool true), .quiet (.bool true), .quiet (.bool true), .quiet (.bool false), .quiet (.bool false), .quiet (.int .i64 0), .quiet (.bool true), .quiet (.int .i64 6), .quiet (.bool false), .quiet (.bool true), .quiet (.bool true), .quiet (.bool true), .quiet (.bool true), .quiet (.int .i64 6), .quiet (.bool true), .quiet (.bool true), .gone, .gone, .gone, .gone, .gone, .gone, .gone, .quiet (.bool true), .quiet (.bool true), .quiet (.bool true)] H8 ?ho9 ?he9 (hL := ?hL9)
 case hL9 => exact trivial
 case ho9 => exact ak (fun _ => ⟨rfl, fun _ _ => rfl⟩) (ak (fun _ => ⟨rfl, fun _ _ => rfl⟩) (ak (fun _ => ⟨rfl, fun _ _ => rfl⟩) (ak (by refine fun γ => ⟨rfl, fun w' h => ?_⟩; clear h; go_simp) (ak (fun _ => ⟨rfl, fun _ _ => rfl⟩) (ak (fun γ => ⟨rfl, fun w' h => ex_loadA (i := 0) (k := 2) h 1 rfl rfl rfl Tryd.isAgg26 Tryd.sizeOf26 rfl rfl⟩) (ak (fun γ => ⟨rfl, fun w' h => ex_loadA (i := 0) (k := 2) h 1 rfl rfl rfl Tryd.isAgg26 Tryd.sizeOf26 rfl rfl⟩) (ak (fun γ => ⟨rfl, fun w' h => ⟨7, #[V [u0, u1], V [u0, u1]], exec_call rfl call7 rfl (mpn rfl), C10.out w'⟩⟩) (ak (fun γ => ⟨rfl, fun w' h => ex_loadA (i := 0) (k := 2) h 4 rfl rfl rfl Tryd.isAgg26 Tryd.sizeOf26 rfl rfl⟩) (ak (fun γ => ⟨rfl, fun w' _ => ex_buildE2z rfl⟩) (ak (fun γ => ⟨rfl, fun w' h => ⟨8, #[V [x0, x1], V [0, 0]], exec_call rfl call8 rfl (mpn rfl), C4.out w'⟩⟩) (ak (fun γ => ⟨rfl, fun w' _ => exec_eqE2 e_ra rfl rfl rfl⟩) (ak (by refine fun γ => ⟨rfl, fun w' h => ?_⟩; clear h; go_simp) (ak (by refine fun γ => ⟨rfl, fun w' h => ?_⟩; clear h; go_simp) (ak (fun _ => ⟨rfl, fun _ _ => rfl⟩) (ak (fun _ => ⟨rfl, fun _ _ => rfl⟩) (ak (fun _ => ⟨rfl, fun _ _ => rfl⟩) (ak (fun _ => ⟨rfl, fun _ _ => rfl⟩) (ak (by refine fun γ => ⟨rfl, fun w' h => ?_⟩; clear h; go_simp) (ak (fun _ => ⟨rfl, fun _ _ => rfl⟩) (ak (by refine fun γ => ⟨rfl, fun w' h => ?_⟩; clear h; go_simp) (ak (by refine fun γ => ⟨rfl, fun w' h => ?_⟩; clear h; go_simp) (ak (by refine fun γ => ⟨rfl, fun w' h => ?_⟩; clear h; go_simp) (ak (by refine fun γ => ⟨rfl, fun w' h => ?_⟩; clear h; go_simp) (ak (fun _ => ⟨rfl, fun _ _ => rfl⟩) (ak (fun _ => ⟨rfl, fun _ _ => rfl⟩) (ak (by refine fun γ => ⟨rfl, fun w' h => ?_⟩; clear h; go_simp) (ak (fun _ => ⟨rfl, fun _ _ => rfl⟩) (ak (fun γ => rfl) (ak (fun γ => rfl) (ak (fun γ => rfl) (ak (fun γ => rfl) (ak (fun γ => rfl) (ak (fun γ => rfl) (ak (fun γ => rfl) (ak (by refine fun γ => ⟨rfl, fun w' h => ?_⟩; clear h; go_simp) (ak (by refine fun γ => ⟨rfl, fun w' h => ?_⟩; clear h; go_simp) (ak (fun _ => ⟨rfl, fun _ _ => rfl⟩) trivial)))))))))))))))))))))))))))))))))))))
 intro _ w9 H9
 clear H8
 refine rest0 rfl (then_normal (wp_ret ?_))
 repeat (first | refine then_ret ?_ | refine block_ret ?_)
 refine bodyPost_ret (v := .bool true) (by simp [results, Tryd.results4, go_sem, *]) rfl ?_
 exact ⟨rfl, H9.out.2⟩
set_option maxHeartbeats 8000000 in
set_option maxRecDepth 100000 in
theorem roots_Bg (x0 x1 k1 q0 q1 ra0 ra1 r0 r1 t0 t1 y0 y1 : Nat)
  (e_q : ∀ w, (Op.equalIn 10000 26 (V [q0, q1]) (V [q0, q1])).run Tryd.prog w = .ok true w) (e_r : ∀ w, (Op.equalIn 10000 26 (V [r0, r1]) (V [r0, r1])).run Tryd.prog w = .ok true w) (e_t : ∀ w, (Op.equalIn 10000 26 (V [t0, t1]) (V [t0, t1])).run Tryd.prog w = .ok true w) (e_n : ∀ w, (Op.equalIn 10000 26 (V [r0, r1]) (V [ra0, ra1])).run Tryd.prog w = .ok false w) (e_q0 : ∀ w, (Op.equalIn 10000 26 (V [q0, q1]) (V [0, 0])).run Tryd.prog w = .ok false w)
  (c0 : ∀ w, Mm w [(0, dtab)] → Calls Tryd.prog 6 #[] w (Rt w (.bool true)))
  (c1 : ∀ w, Calls Tryd.prog 7 #[V [x0, x1], V [x0, x1]] w (Rt w (V [q0, q1])))
  (c2 : ∀ w, Mm w [(0, dtab)] → Calls Tryd.prog 13 #[V [q0, q1]] w (Rt w (.tuple #[V [r0, r1], .int .i64 0])))
  (c3 : ∀ w, Calls Tryd.prog 7 #[V [r0, r1], V [r0, r1]] w (Rt w (V [q0, q1])))
  (c4 : ∀ w, Calls Tryd.prog 8 #[V [x0, x1], V [0, 0]] w (Rt w (V [ra0, ra1])))
  (c5 : ∀ w, Calls Tryd.prog 12 #[.int .u64 1, .int .u64 1] w (Rt w (V [k1, k1])))
  (c6 : ∀ w, Calls Tryd.prog 7 #[V [x0, x1], V [k1, k1]] w (Rt w (V [t0, t1])))
  (c7 : ∀ w, Calls Tryd.prog 14 #[V [x0, x1]] w (Rt w (V [r0, r1])))
  (c8 : ∀ w, Mm w [(0, dtab)] → Calls Tryd.prog 13 #[V [x0, x1]] w (Rt w (.tuple #[V [0, 0], .int .i64 6])))
  (c9 : ∀ w, Mm w [(0, dtab)] → Calls Tryd.prog 13 #[V [t0, t1]] w (Rt w (.tuple #[V [y0, y1], .int .i64 0])))
  (c10 : ∀ w, Calls Tryd.prog 7 #[V [y0, y1], V [y0, y1]] w (Rt w (V [t0, t1]))) (w : World) (hm : Mm w [(0, dtab)]) :
  Calls Tryd.prog 4 #[V [x0, x1]] w (Rt w (.bool true)) := by
 have H0 : Hid (_ ∧ _) := ⟨hm, Below.refl w.heap.size w⟩
 clear hm
 have C0 : Hid _ := c0
 have C1 : Hid _ := c1
 have C2 : Hid _ := c2
 have C3 : Hid _ := c3
 have C4 : Hid _ := c4
 have C5 : Hid _ := c5
 have C6 : Hid _ := c6
 have C7 : Hid _ := c7
 have C8 : Hid _ := c8
 have C9 : Hid _ := c9
 have C10 : Hid _ := c10
 clear c0 c1 c2 c3 c4 c5 c6 c7 c8 c9 c10
 go_enter Tryd.func4, Tryd.ntmps4
 refine wp_seq ?_
 refine walk_seqA 2 [.made (cel [x0, x1]) 26, .quiet (.bool false)] (sB H0) ?ho1 ?he1
 case ho1 => exact ak (fun γ => ⟨rfl, fun w' => ex_boxA rfl rfl⟩) (ak (fun _ => ⟨rfl, fun _ _ => rfl⟩) trivial)
 intro γ w1 l hM hl
 have H1 : Hid (Mm w1 [(γ 0, cel [x0, x1]), (0, dtab)] ∧ _) := growB H0 hM (Nat.le_refl _) hl [0] rfl (by decide)
 have o1_0 := ownB H0 hM (Nat.le_refl _) hl (i := 0) rfl
 clear hM hl l
 generalize γ 0 = γ1_0 at H1 o1_0 ⊢
 clear γ
 refine rest0 rfl (then_normal (wp_seq ?_))
 refine walk_seqB 2 [.call (.bool true), .quiet (.bool true)] H1 ?ho2 ?he2
 case ho2 => exact ak (fun γ => ⟨rfl, fun w' h => ⟨6, #[], exec_call rfl call6 rfl (mpn rfl), C0.out w' (h.one 1 rfl)⟩⟩) (ak (fun _ => ⟨rfl, fun _ _ => rfl⟩) trivial)
 intro _ w2 H2
 clear H1
 refine rest0 rfl (then_normal (wp_seq ?_))
 refine walk_seqA 5 [.quiet (V [x0, x1]), .quiet (V [x0, x1]), .call (V [q0, q1]), .made (cel [0, 0]) 26, .laid 3 (cel [0, 0]) (cel [q0, q1])] (sB H2) ?ho3 ?he3 (hL := ?hL3)
 case hL3 => exact ⟨⟨_, rfl⟩, trivial⟩
 case ho3 => exact ak (fun γ => ⟨rfl, fun w' h => ex_loadA (i := 0) (k := 2) h 0 rfl rfl rfl Tryd.isAgg26 Tryd.sizeOf26 rfl rfl⟩) (ak (fun γ => ⟨rfl, fun w' h => ex_loadA (i := 0) (k := 2) h 0 rfl rfl rfl Tryd.isAgg26 Tryd.sizeOf26 rfl rfl⟩) (ak (fun γ => ⟨rfl, fun w' h => ⟨7, #[V [x0, x1], V [x0, x1]], exec_call rfl call7 rfl (mpn rfl), C1.out w'⟩⟩) (ak (fun γ => ⟨rfl, fun w' => ex_madeE2 rfl⟩) (ak (fun γ => ⟨rfl, rfl, rfl, fun w' h => ex_laidA h rfl Tryd.sizeOf26 rfl rfl rfl⟩) trivial))))
 intro γ w3 l hM hl
 have H3 : Hid (Mm w3 [(γ 3, cel [q0, q1]), (γ1_0, cel [x0, x1]), (0, dtab)] ∧ _) := growB H2 hM (Nat.le_refl _) hl [3] rfl (by decide)
 have o3_3 := ownB H2 hM (Nat.le_refl _) hl (i := 3) rfl
 clear hM hl l H2
 generalize γ 3 = γ3_3 at H3 o3_3 ⊢
 clear γ
 refine rest0 rfl (then_normal (wp_seq ?_))
 refine walk_seqA 8 [.quiet (V [q0, q1]), .call (.tuple #[V [r0, r1], .int .i64 0]), .quiet (.tuple #[V [r0, r1], .int .i64 0]), .quiet (V [r0, r1]), .quiet (.int .i64 0), .made (cel [0, 0]) 26, .laid 5 (cel [0, 0]) (cel [r0, r1]), .quiet (.int .i64 0)] (sB H3) ?ho4 ?he4 (hL := ?hL4)
 case hL4 => exact ⟨⟨_, rfl⟩, trivial⟩
 case ho4 => exact ak (fun γ => ⟨rfl, fun w' h => ex_loadA (i := 0) (k := 2) h 0 rfl rfl rfl Tryd.isAgg26 Tryd.sizeOf26 rfl rfl⟩) (ak (fun γ => ⟨rfl, fun w' h => ⟨13, #[V [q0, q1]], exec_call rfl call13 rfl (mpn rfl), C2.out w' (h.one 2 rfl)⟩⟩) (ak (fun _ => ⟨rfl, fun _ _ => rfl⟩) (ak (by refine fun γ => ⟨rfl, fun w' h => ?_⟩; clear h; go_simp) (ak (by refine fun γ => ⟨rfl, fun w' h => ?_⟩; clear h; go_simp) (ak (fun γ => ⟨rfl, fun w' => ex_madeE2 rfl⟩) (ak (fun γ => ⟨rfl, rfl, rfl, fun w' h => ex_laidA h rfl Tryd.sizeOf26 rfl rfl rfl⟩) (ak (fun _ => ⟨rfl, fun _ _ => rfl⟩) trivial)))))))
 intro γ w4 l hM hl
 have H4 : Hid (Mm w4 [(γ 5, cel [r0, r1]), (γ3_3, cel [q0, q1]), (γ1_0, cel [x0, x1]), (0, dtab)] ∧ _) := growB H3 hM (Nat.le_refl _) hl [5] rfl (by decide)
 have o4_5 := ownB H3 hM (Nat.le_refl _) hl (i := 5) rfl
 clear hM hl l H3
 generalize γ 5 = γ4_5 at H4 o4_5 ⊢
 clear γ
 refine rest0 rfl (then_normal (wp_seq (wp_seq ?_)))
 refine walk_anyB 22 [.quiet (.int .i64 0), .quiet (.bool false), .quiet (.bool false), .quiet (V [r0, r1]), .quiet (V [r0, r1]), .call (V [q0, q1]), .quiet (V [q0, q1]), .quiet (.bool false), .quiet (.bool false), .quiet (.bool false), .quiet (V [r0, r1]), .quiet (V [x0, x1]), .quiet (V [0, 0]), .call (V [ra0, ra1]), .quiet (.bool true), .quiet (.bool true), .quiet (V [r0, r1]), .quiet (V [x0, x1]), .call (V [r0, r1]), .quiet (.bool false), .quiet (.bool false), .quiet (.bool false)] H4 ?ho5 ?he5
 case ho5 => exact ak (fun _ => ⟨rfl, fun _ _ => rfl⟩) (ak (by refine fun γ => ⟨rfl, fun w' h => ?_⟩; clear h; go_simp) (ak (fun _ => ⟨rfl, fun _ _ => rfl⟩) (ak (fun γ => ⟨rfl, fun w' h => ex_loadA (i := 0) (k := 2) h 0 rfl rfl rfl Tryd.isAgg26 Tryd.sizeOf26 rfl rfl⟩) (ak (fun γ => ⟨rfl, fun w' h => ex_loadA (i := 0) (k := 2) h 0 rfl rfl rfl Tryd.isAgg26 Tryd.sizeOf26 rfl rfl⟩) (ak (fun γ => ⟨rfl, fun w' h => ⟨7, #[V [r0, r1], V [r0, r1]], exec_call rfl call7 rfl (mpn rfl), C3.out w'⟩⟩) (ak (fun γ => ⟨rfl, fun w' h => ex_loadA (i := 0) (k := 2) h 1 rfl rfl rfl Tryd.isAgg26 Tryd.sizeOf26 rfl rfl⟩) (ak (fun γ => ⟨rfl, fun w' _ => exec_neqE2 e_q rfl rfl rfl⟩) (ak (by refine fun γ => ⟨rfl, fun w' h => ?_⟩; clear h; go_simp) (ak (fun _ => ⟨rfl, fun _ _ => rfl⟩) (ak (fun γ => ⟨rfl, fun w' h => ex_loadA (i := 0) (k := 2) h 0 rfl rfl rfl Tryd.isAgg26 Tryd.sizeOf26 rfl rfl⟩) (ak (fun γ => ⟨rfl, fun w' h => ex_loadA (i := 0) (k := 2) h 2 rfl rfl rfl Tryd.isAgg26 Tryd.sizeOf26 rfl rfl⟩) (ak (fun γ => ⟨rfl, fun w' _ => ex_buildE2z rfl⟩) (ak (fun γ => ⟨rfl, fun w' h => ⟨8, #[V [x0, x1], V [0, 0]], exec_call rfl call8 rfl (mpn rfl), C4.out w'⟩⟩) (ak (fun γ => ⟨rfl, fun w' _ => exec_neqE2 e_n rfl rfl rfl⟩) (ak (fun _ => ⟨rfl, fun _ _ => rfl⟩) (ak (fun γ => ⟨rfl, fun w' h => ex_loadA (i := 0) (k := 2) h 0 rfl rfl rfl Tryd.isAgg26 Tryd.sizeOf26 rfl rfl⟩) (ak (fun γ => ⟨rfl, fun w' h => ex_loadA (i := 0) (k := 2) h 2 rfl rfl rfl Tryd.isAgg26 Tryd.sizeOf26 rfl rfl⟩) (ak (fun γ => ⟨rfl, fun w' h => ⟨14, #[V [x0, x1]], exec_call rfl call14 rfl (mpn rfl), C7.out w'⟩⟩) (ak (fun γ => ⟨rfl, fun w' _ => exec_neqE2 e_r rfl rfl rfl⟩) (ak (by refine fun γ => ⟨rfl, fun w' h => ?_⟩; clear h; go_simp) (ak (by refine fun γ => ⟨rfl, fun w' h => ?_⟩; clear h; go_simp) trivial)))))))))))))))))))))
 intro _ w5 H5
 clear H4
 refine rest0 rfl (then_normal (wp_cond_false rfl ?_))
 refine wp_skip (then_normal (wp_seq ?_))
 refine walk_seqA 8 [.quiet (V [x0, x1]), .call (.tuple #[V [0, 0], .int .i64 6]), .quiet (.tuple #[V [0, 0], .int .i64 6]), .quiet (V [0, 0]), .quiet (.int .i64 6), .made (cel [0, 0]) 26, .laid 5 (cel [0, 0]) (cel [0, 0]), .quiet (.int .i64 6)] (sB H5) ?ho6 ?he6 (hL := ?hL6)
 case hL6 => exact ⟨⟨_, rfl⟩, trivial⟩
 case ho6 => exact ak (fun γ => ⟨rfl, fun w' h => ex_loadA (i := 0) (k := 2) h 2 rfl rfl rfl Tryd.isAgg26 Tryd.sizeOf26 rfl rfl⟩) (ak (fun γ => ⟨rfl, fun w' h => ⟨13, #[V [x0, x1]], exec_call rfl call13 rfl (mpn rfl), C8.out w' (h.one 3 rfl)⟩⟩) (ak (fun _ => ⟨rfl, fun _ _ => rfl⟩) (ak (by refine fun γ => ⟨rfl, fun w' h => ?_⟩; clear h; go_simp) (ak (by refine fun γ => ⟨rfl, fun w' h => ?_⟩; clear h; go_simp) (ak (fun γ => ⟨rfl, fun w' => ex_madeE2 rfl⟩) (ak (fun γ => ⟨rfl, rfl, rfl, fun w' h => ex_laidA h rfl Tryd.sizeOf26 rfl rfl rfl⟩) (ak (fun _ => ⟨rfl, fun _ _ => rfl⟩) trivial)))))))
 intro γ w6 l hM hl
 have H6 : Hid (Mm w6 [(γ 5, cel [0, 0]), (γ4_5, cel [r0, r1]), (γ3_3, cel [q0, q1]), (γ1_0, cel [x0, x1]), (0, dtab)] ∧ _) := growB H5 hM (Nat.le_refl _) hl [5] rfl (by decide)
 have o6_5 := ownB H5 hM (Nat.le_refl _) hl (i := 5) rfl
 clear hM hl l H5
 generalize γ 5 = γ6_5 at H6 o6_5 ⊢
 clear γ
 refine rest0 rfl (then_normal (wp_seq ?_))
 refine walk_anyA 10 [.quiet (V [x0, x1]), .call (V [k1, k1]), .call (V [t0, t1]), .call (.tuple #[V [y0, y1], .int .i64 0]), .quiet (.tuple #[V [y0, y1], .int .i64 0]), .quiet (V [y0, y1]), .quiet (.int .i64 0), .made (cel [0, 0]) 26, .laid 7 (cel [0, 0]) (cel [y0, y1]), .quiet (.int .i64 0)] (sB H6) ?ho7 ?he7 (hL := ?hL7)
 case hL7 => exact ⟨⟨_, rfl⟩, trivial⟩
 case ho7 => exact ak (fun γ => ⟨rfl, fun w' h => ex_loadA (i := 0) (k := 2) h 3 rfl rfl rfl Tryd.isAgg26 Tryd.sizeOf26 rfl rfl⟩) (ak (fun γ => ⟨rfl, fun w' h => ⟨12, #[.int .u64 1, .int .u64 1], exec_call rfl call12 rfl (mpn rfl), C5.out w'⟩⟩) (ak (fun γ => ⟨rfl, fun w' h => ⟨7, #[V [x0, x1], V [k1, k1]], exec_call rfl call7 rfl (mpn rfl), C6.out w'⟩⟩) (ak (fun γ => ⟨rfl, fun w' h => ⟨13, #[V [t0, t1]], exec_call rfl call13 rfl (mpn rfl), C9.out w' (h.one 4 rfl)⟩⟩) (ak (fun _ => ⟨rfl, fun _ _ => rfl⟩) (ak (by refine fun γ => ⟨rfl, fun w' h => ?_⟩; clear h; go_simp) (ak (by refine fun γ => ⟨rfl, fun w' h => ?_⟩; clear h; go_simp) (ak (fun γ => ⟨rfl, fun w' => ex_madeE2 rfl⟩) (ak (fun γ => ⟨rfl, rfl, rfl, fun w' h => ex_laidA h rfl Tryd.sizeOf26 rfl rfl rfl⟩) (ak (fun _ => ⟨rfl, fun _ _ => rfl⟩) trivial)))))))))
 intro γ w7 l hM hl
 have H7 : Hid (Mm w7 [(γ 7, cel [y0, y1]), (γ6_5, cel [0, 0]), (γ4_5, cel [r0, r1]), (γ3_3, cel [q0, q1]), (γ1_0, cel [x0, x1]), (0, dtab)] ∧ _) := growB H6 hM (Nat.le_refl _) hl [7] rfl (by decide)
 have o7_7 := ownB H6 hM (Nat.le_refl _) hl (i := 7) rfl
 clear hM hl l H6
 generalize γ 7 = γ7_7 at H7 o7_7 ⊢
 clear γ
 refine rest0 rfl (then_normal (wp_seq ?_))
 refine walk_seqB 4 [.quiet (V [q0, q1]), .quiet (V [0, 0]), .quiet (.bool false), .quiet (.bool false)] H7 ?ho8 ?he8
 case ho8 => exact ak (fun γ => ⟨rfl, fun w' h => ex_loadA (i := 0) (k := 2) h 3 rfl rfl rfl Tryd.isAgg26 Tryd.sizeOf26 rfl rfl⟩) (ak (fun γ => ⟨rfl, fun w' _ => ex_buildE2z rfl⟩) (ak (fun γ => ⟨rfl, fun w' _ => exec_eqE2 e_q0 rfl rfl rfl⟩) (ak (fun _ => ⟨rfl, fun _ _ => rfl⟩) trivial)))
 intro _ w8 H8
 clear H7
 refine rest0 rfl (then_normal (wp_seq ?_))
 refine walk_anyB 38 [.quiet (.bool true), .quiet (.bool true), .quiet (.int .i64 6), .quiet (.bool true), .quiet (.bool true), .gone, .gone, .gone, .gone, .gone, .gone, .gone, .quiet (.bool true), .quiet (.bool true), .quiet (.bool true), .quiet (.bool false), .quiet (.bool false), .quiet (.int .i64 6), .quiet (.bool false), .quiet (.int .i64 0), .quiet (.bool true), .quiet (.bool true), .quiet (.bool true), .quiet (.bool true), .quiet (.bool true), .quiet (.int .i64 0), .quiet (.bool false), .quiet (.bool false), .quiet (V [y0, y1]), .quiet (V [y0, y1]), .call (V [t0, t1]), .quiet (V [x0, x1]), .call (V [k1, k1]), .call (V [t0, t1]), .quiet (.bool true), .quiet (.bool true), .quiet (.bool true), .quiet (.bool true)] H8 ?ho9 ?he9 (hL := ?hL9)
 case hL9 => exact trivial
 case ho9 => exact ak (fun _ => ⟨rfl, fun _ _ => rfl⟩) (ak (fun _ => ⟨rfl, fun _ _ => rfl⟩) (ak (fun _ => ⟨rfl, fun _ _ => rfl⟩) (ak (by refine fun γ => ⟨rfl, fun w' h => ?_⟩; clear h; go_simp) (ak (fun _ => ⟨rfl, fun _ _ => rfl⟩) (ak (fun γ => rfl) (ak (fun γ => rfl) (ak (fun γ => rfl) (ak (fun γ => rfl) (ak (fun γ => rfl) (ak (fun γ => rfl) (ak (fun γ => rfl) (ak (by refine fun γ => ⟨rfl, fun w' h => ?_⟩; clear h; go_simp) (ak (by refine fun γ => ⟨rfl, fun w' h => ?_⟩; clear h; go_simp) (ak (fun _ => ⟨rfl, fun _ _ => rfl⟩) (ak (fun _ => ⟨rfl, fun _ _ => rfl⟩) (ak (fun _ => ⟨rfl, fun _ _ => rfl⟩) (ak (fun _ => ⟨rfl, fun _ _ => rfl⟩) (ak (by refine fun γ => ⟨rfl, fun w' h => ?_⟩; clear h; go_simp) (ak (fun _ => ⟨rfl, fun _ _ => rfl⟩) (ak (by refine fun γ => ⟨rfl, fun w' h => ?_⟩; clear h; go_simp) (ak (by refine fun γ => ⟨rfl, fun w' h => ?_⟩; clear h; go_simp) (ak (by refine fun γ => ⟨rfl, fun w' h => ?_⟩; clear h; go_simp) (ak (by refine fun γ => ⟨rfl, fun w' h => ?_⟩; clear h; go_simp) (ak (fun _ => ⟨rfl, fun _ _ => rfl⟩) (ak (fun _ => ⟨rfl, fun _ _ => rfl⟩) (ak (by refine fun γ => ⟨rfl, fun w' h => ?_⟩; clear h; go_simp) (ak (fun _ => ⟨rfl, fun _ _ => rfl⟩) (ak (fun γ => ⟨rfl, fun w' h => ex_loadA (i := 0) (k := 2) h 0 rfl rfl rfl Tryd.isAgg26 Tryd.sizeOf26 rfl rfl⟩) (ak (fun γ => ⟨rfl, fun w' h => ex_loadA (i := 0) (k := 2) h 0 rfl rfl rfl Tryd.isAgg26 Tryd.sizeOf26 rfl rfl⟩) (ak (fun γ => ⟨rfl, fun w' h => ⟨7, #[V [y0, y1], V [y0, y1]], exec_call rfl call7 rfl (mpn rfl), C10.out w'⟩⟩) (ak (fun γ => ⟨rfl, fun w' h => ex_loadA (i := 0) (k := 2) h 4 rfl rfl rfl Tryd.isAgg26 Tryd.sizeOf26 rfl rfl⟩) (ak (fun γ => ⟨rfl, fun w' h => ⟨12, #[.int .u64 1, .int .u64 1], exec_call rfl call12 rfl (mpn rfl), C5.out w'⟩⟩) (ak (fun γ => ⟨rfl, fun w' h => ⟨7, #[V [x0, x1], V [k1, k1]], exec_call rfl call7 rfl (mpn rfl), C6.out w'⟩⟩) (ak (fun γ => ⟨rfl, fun w' _ => exec_eqE2 e_t rfl rfl rfl⟩) (ak (by refine fun γ => ⟨rfl, fun w' h => ?_⟩; clear h; go_simp) (ak (by refine fun γ => ⟨rfl, fun w' h => ?_⟩; clear h; go_simp) (ak (fun _ => ⟨rfl, fun _ _ => rfl⟩) trivial)))))))))))))))))))))))))))))))))))))
 intro _ w9 H9
 clear H8
 refine rest0 rfl (then_normal (wp_ret ?_))
 repeat (first | refine then_ret ?_ | refine block_ret ?_)
 refine bodyPost_ret (v := .bool true) (by simp [results, Tryd.results4, go_sem, *]) rfl ?_
 exact ⟨rfl, H9.out.2⟩
set_option maxHeartbeats 8000000 in
set_option maxRecDepth 100000 in
theorem roots_Az (x0 x1 k1 : Nat)
  (e_z : ∀ w, (Op.equalIn 10000 26 (V [0, 0]) (V [0, 0])).run Tryd.prog w = .ok true w)
  (c0 : ∀ w, Mm w [(0, dtab)] → Calls Tryd.prog 6 #[] w (Rt w (.bool true)))
  (c1 : ∀ w, Calls Tryd.prog 7 #[V [x0, x1], V [x0, x1]] w (Rt w (V [0, 0])))
  (c2 : ∀ w, Mm w [(0, dtab)] → Calls Tryd.prog 13 #[V [0, 0]] w (Rt w (.tuple #[V [0, 0], .int .i64 0])))
  (c3 : ∀ w, Calls Tryd.prog 7 #[V [0, 0], V [0, 0]] w (Rt w (V [0, 0])))
  (c4 : ∀ w, Calls Tryd.prog 8 #[V [x0, x1], V [0, 0]] w (Rt w (V [0, 0])))
  (c5 : ∀ w, Calls Tryd.prog 12 #[.int .u64 1, .int .u64 1] w (Rt w (V [k1, k1])))
  (c6 : ∀ w, Calls Tryd.prog 7 #[V [x0, x1], V [k1, k1]] w (Rt w (V [0, 0])))
  (c7 : ∀ w, Mm w [(0, dtab)] → Calls Tryd.prog 13 #[V [x0, x1]] w (Rt w (.tuple #[V [0, 0], .int .i64 0]))) (w : World) (hm : Mm w [(0, dtab)]) :
  Calls Tryd.prog 4 #[V [x0, x1]] w (Rt w (.bool true)) := by
 have H0 : Hid (_ ∧ _) := ⟨hm, Below.refl w.heap.size w⟩
 clear hm
 have C0 : Hid _ := c0
 have C1 : Hid _ := c1
 have C2 : Hid _ := c2
 have C3 : Hid _ := c3
 have C4 : Hid _ := c4
 have C5 : Hid _ := c5
 have C6 : Hid _ := c6
 have C7 : Hid _ := c7
 clear c0 c1 c2 c3 c4 c5 c6 c7
 go_enter Tryd.func4, Tryd.ntmps4
 refine wp_seq ?_
 refine walk_seqA 2 [.made (cel [x0, x1]) 26, .quiet (.bool false)] (sB H0) ?ho1 ?he1
 case ho1 => exact ak (fun γ => ⟨rfl, fun w' => ex_boxA rfl rfl⟩) (ak (fun _ => ⟨rfl, fun _ _ => rfl⟩) trivial)
 intro γ w1 l hM hl
 have H1 : Hid (Mm w1 [(γ 0, cel [x0, x1]), (0, dtab)] ∧ _) := growB H0 hM (Nat.le_refl _) hl [0] rfl (by decide)
 have o1_0 := ownB H0 hM (Nat.le_refl _) hl (i := 0) rfl
 clear hM hl l
 generalize γ 0 = γ1_0 at H1 o1_0 ⊢
 clear γ
 refine rest0 rfl (then_normal (wp_seq ?_))
 refine walk_seqB 2 [.call (.bool true), .quiet (.bool true)] H1 ?ho2 ?he2
 case ho2 => exact ak (fun γ => ⟨rfl, fun w' h => ⟨6, #[], exec_call rfl call6 rfl (mpn rfl), C0.out w' (h.one 1 rfl)⟩⟩) (ak (fun _ => ⟨rfl, fun _ _ => rfl⟩) trivial)
 intro _ w2 H2
 clear H1
 refine rest0 rfl (then_normal (wp_seq ?_))
 refine walk_seqA 5 [.quiet (V [x0, x1]), .quiet (V [x0, x1]), .call (V [0, 0]), .made (cel [0, 0]) 26, .laid 3 (cel [0, 0]) (cel [0, 0])] (sB H2) ?ho3 ?he3 (hL := ?hL3)
 case hL3 => exact ⟨⟨_, rfl⟩, trivial⟩
 case ho3 => exact ak (fun γ => ⟨rfl, fun w' h => ex_loadA (i := 0) (k := 2) h 0 rfl rfl rfl Tryd.isAgg26 Tryd.sizeOf26 rfl rfl⟩) (ak (fun γ => ⟨rfl, fun w' h => ex_loadA (i := 0) (k := 2) h 0 rfl rfl rfl Tryd.isAgg26 Tryd.sizeOf26 rfl rfl⟩) (ak (fun γ => ⟨rfl, fun w' h => ⟨7, #[V [x0, x1], V [x0, x1]], exec_call rfl call7 rfl (mpn rfl), C1.out w'⟩⟩) (ak (fun γ => ⟨rfl, fun w' => ex_madeE2 rfl⟩) (ak (fun γ => ⟨rfl, rfl, rfl, fun w' h => ex_laidA h rfl Tryd.sizeOf26 rfl rfl rfl⟩) trivial))))
 intro γ w3 l hM hl
 have H3 : Hid (Mm w3 [(γ 3, cel [0, 0]), (γ1_0, cel [x0, x1]), (0, dtab)] ∧ _) := growB H2 hM (Nat.le_refl _) hl [3] rfl (by decide)
 have o3_3 := ownB H2 hM (Nat.le_refl _) hl (i := 3) rfl
 clear hM hl l H2
 generalize γ 3 = γ3_3 at H3 o3_3 ⊢
 clear γ
 refine rest0 rfl (then_normal (wp_seq ?_))
 refine walk_seqA 8 [.quiet (V [0, 0]), .call (.tuple #[V [0, 0], .int .i64 0]), .quiet (.tuple #[V [0, 0], .int .i64 0]), .quiet (V [0, 0]), .quiet (.int .i64 0), .made (cel [0, 0]) 26, .laid 5 (cel [0, 0]) (cel [0, 0]), .quiet (.int .i64 0)] (sB H3) ?ho4 ?he4 (hL := ?hL4)
 case hL4 => exact ⟨⟨_, rfl⟩, trivial⟩
 case ho4 => exact ak (fun γ => ⟨rfl, fun w' h => ex_loadA (i := 0) (k := 2) h 0 rfl rfl rfl Tryd.isAgg26 Tryd.sizeOf26 rfl rfl⟩) (ak (fun γ => ⟨rfl, fun w' h => ⟨13, #[V [0, 0]], exec_call rfl call13 rfl (mpn rfl), C2.out w' (h.one 2 rfl)⟩⟩) (ak (fun _ => ⟨rfl, fun _ _ => rfl⟩) (ak (by refine fun γ => ⟨rfl, fun w' h => ?_⟩; clear h; go_simp) (ak (by refine fun γ => ⟨rfl, fun w' h => ?_⟩; clear h; go_simp) (ak (fun γ => ⟨rfl, fun w' => ex_madeE2 rfl⟩) (ak (fun γ => ⟨rfl, rfl, rfl, fun w' h => ex_laidA h rfl Tryd.sizeOf26 rfl rfl rfl⟩) (ak (fun _ => ⟨rfl, fun _ _ => rfl⟩) trivial)))))))
 intro γ w4 l hM hl
 have H4 : Hid (Mm w4 [(γ 5, cel [0, 0]), (γ3_3, cel [0, 0]), (γ1_0, cel [x0, x1]), (0, dtab)] ∧ _) := growB H3 hM (Nat.le_refl _) hl [5] rfl (by decide)
 have o4_5 := ownB H3 hM (Nat.le_refl _) hl (i := 5) rfl
 clear hM hl l H3
 generalize γ 5 = γ4_5 at H4 o4_5 ⊢
 clear γ
 refine rest0 rfl (then_normal (wp_seq (wp_seq ?_)))
 refine walk_anyB 22 [.quiet (.int .i64 0), .quiet (.bool false), .quiet (.bool false), .quiet (V [0, 0]), .quiet (V [0, 0]), .call (V [0, 0]), .quiet (V [0, 0]), .quiet (.bool false), .quiet (.bool false), .quiet (.bool false), .quiet (V [0, 0]), .quiet (V [x0, x1]), .quiet (V [0, 0]), .call (V [0, 0]), .quiet (.bool false), .quiet (.bool false), .gone, .gone, .gone, .gone, .quiet (.bool false), .quiet (.bool false)] H4 ?ho5 ?he5
 case ho5 => exact ak (fun _ => ⟨rfl, fun _ _ => rfl⟩) (ak (by refine fun γ => ⟨rfl, fun w' h => ?_⟩; clear h; go_simp) (ak (fun _ => ⟨rfl, fun _ _ => rfl⟩) (ak (fun γ => ⟨rfl, fun w' h => ex_loadA (i := 0) (k := 2) h 0 rfl rfl rfl Tryd.isAgg26 Tryd.sizeOf26 rfl rfl⟩) (ak (fun γ => ⟨rfl, fun w' h => ex_loadA (i := 0) (k := 2) h 0 rfl rfl rfl Tryd.isAgg26 Tryd.sizeOf26 rfl rfl⟩) (ak (fun γ => ⟨rfl, fun w' h => ⟨7, #[V [0, 0], V [0, 0]], exec_call rfl call7 rfl (mpn rfl), C3.out w'⟩⟩) (ak (fun γ => ⟨rfl, fun w' h => ex_loadA (i := 0) (k := 2) h 1 rfl rfl rfl Tryd.isAgg26 Tryd.sizeOf26 rfl rfl⟩) (ak (fun γ => ⟨rfl, fun w' _ => exec_neqE2 e_z rfl rfl rfl⟩) (ak (by refine fun γ => ⟨rfl, fun w' h => ?_⟩; clear h; go_simp) (ak (fun _ => ⟨rfl, fun _ _ => rfl⟩) (ak (fun γ => ⟨rfl, fun w' h => ex_loadA (i := 0) (k := 2) h 0 rfl rfl rfl Tryd.isAgg26 Tryd.sizeOf26 rfl rfl⟩) (ak (fun γ => ⟨rfl, fun w' h => ex_loadA (i := 0) (k := 2) h 2 rfl rfl rfl Tryd.isAgg26 Tryd.sizeOf26 rfl rfl⟩) (ak (fun γ => ⟨rfl, fun w' _ => ex_buildE2z rfl⟩) (ak (fun γ => ⟨rfl, fun w' h => ⟨8, #[V [x0, x1], V [0, 0]], exec_call rfl call8 rfl (mpn rfl), C4.out w'⟩⟩) (ak (fun γ => ⟨rfl, fun w' _ => exec_neqE2 e_z rfl rfl rfl⟩) (ak (fun _ => ⟨rfl, fun _ _ => rfl⟩) (ak (fun γ => rfl) (ak (fun γ => rfl) (ak (fun γ => rfl) (ak (fun γ => rfl) (ak (by refine fun γ => ⟨rfl, fun w' h => ?_⟩; clear h; go_simp) (ak (by refine fun γ => ⟨rfl, fun w' h => ?_⟩; clear h; go_simp) trivial)))))))))))))))))))))
 intro _ w5 H5
 clear H4
 refine rest0 rfl (then_normal (wp_cond_false rfl ?_))
 refine wp_skip (then_normal (wp_seq ?_))
 refine walk_seqA 8 [.quiet (V [x0, x1]), .call (.tuple #[V [0, 0], .int .i64 0]), .quiet (.tuple #[V [0, 0], .int .i64 0]), .quiet (V [0, 0]), .quiet (.int .i64 0), .made (cel [0, 0]) 26, .laid 5 (cel [0, 0]) (cel [0, 0]), .quiet (.int .i64 0)] (sB H5) ?ho6 ?he6 (hL := ?hL6)
 case hL6 => exact ⟨⟨_, rfl⟩, trivial⟩
 case ho6 => exact ak (fun γ => ⟨rfl, fun w' h => ex_loadA (i := 0) (k := 2) h 2 rfl rfl rfl Tryd.isAgg26 Tryd.sizeOf26 rfl rfl⟩) (ak (fun γ => ⟨rfl, fun w' h => ⟨13, #[V [x0, x1]], exec_call rfl call13 rfl (mpn rfl), C7.out w' (h.one 3 rfl)⟩⟩) (ak (fun _ => ⟨rfl, fun _ _ => rfl⟩) (ak (by refine fun γ => ⟨rfl, fun w' h => ?_⟩; clear h; go_simp) (ak (by refine fun γ => ⟨rfl, fun w' h => ?_⟩; clear h; go_simp) (ak (fun γ => ⟨rfl, fun w' => ex_madeE2 rfl⟩) (ak (fun γ => ⟨rfl, rfl, rfl, fun w' h => ex_laidA h rfl Tryd.sizeOf26 rfl rfl rfl⟩) (ak (fun _ => ⟨rfl, fun _ _ => rfl⟩) trivial)))))))
 intro γ w6 l hM hl
 have H6 : Hid (Mm w6 [(γ 5, cel [0, 0]), (γ4_5, cel [0, 0]), (γ3_3, cel [0, 0]), (γ1_0, cel [x0, x1]), (0, dtab)] ∧ _) := growB H5 hM (Nat.le_refl _) hl [5] rfl (by decide)
 have o6_5 := ownB H5 hM (Nat.le_refl _) hl (i := 5) rfl
 clear hM hl l H5
 generalize γ 5 = γ6_5 at H6 o6_5 ⊢
 clear γ
 refine rest0 rfl (then_normal (wp_seq ?_))
 refine walk_anyA 10 [.quiet (V [x0, x1]), .call (V [k1, k1]), .call (V [0, 0]), .call (.tuple #[V [0, 0], .int .i64 0]), .quiet (.tuple #[V [0, 0], .int .i64 0]), .quiet (V [0, 0]), .quiet (.int .i64 0), .made (cel [0, 0]) 26, .laid 7 (cel [0, 0]) (cel [0, 0]), .quiet (.int .i64 0)] (sB H6) ?ho7 ?he7 (hL := ?hL7)
 case hL7 => exact ⟨⟨_, rfl⟩, trivial⟩
 case ho7 => exact ak (fun γ => ⟨rfl, fun w' h => ex_loadA (i := 0) (k := 2) h 3 rfl rfl rfl Tryd.isAgg26 Tryd.sizeOf26 rfl rfl⟩) (ak (fun γ => ⟨rfl, fun w' h => ⟨12, #[.int .u64 1, .int .u64 1], exec_call rfl call12 rfl (mpn rfl), C5.out w'⟩⟩) (ak (fun γ => ⟨rfl, fun w' h => ⟨7, #[V [x0, x1], V [k1, k1]], exec_call rfl call7 rfl (mpn rfl), C6.out w'⟩⟩) (ak (fun γ => ⟨rfl, fun w' h => ⟨13, #[V [0, 0]], exec_call rfl call13 rfl (mpn rfl), C2.out w' (h.one 4 rfl)⟩⟩) (ak (fun _ => ⟨rfl, fun _ _ => rfl⟩) (ak (by refine fun γ => ⟨rfl, fun w' h => ?_⟩; clear h; go_simp) (ak (by refine fun γ => ⟨rfl, fun w' h => ?_⟩; clear h; go_simp) (ak (fun γ => ⟨rfl, fun w' => ex_madeE2 rfl⟩) (ak (fun γ => ⟨rfl, rfl, rfl, fun w' h => ex_laidA h rfl Tryd.sizeOf26 rfl rfl rfl⟩) (ak (fun _ => ⟨rfl, fun _ _ => rfl⟩) trivial)))))))))
 intro γ w7 l hM hl
 have H7 : Hid (Mm w7 [(γ 7, cel [0, 0]), (γ6_5, cel [0, 0]), (γ4_5, cel [0, 0]), (γ3_3, cel [0, 0]), (γ1_0, cel [x0, x1]), (0, dtab)] ∧ _) := growB H6 hM (Nat.le_refl _) hl [7] rfl (by decide)
 have o7_7 := ownB H6 hM (Nat.le_refl _) hl (i := 7) rfl
 clear hM hl l H6
 generalize γ 7 = γ7_7 at H7 o7_7 ⊢
 clear γ
 refine rest0 rfl (then_normal (wp_seq ?_))
 refine walk_seqB 4 [.quiet (V [0, 0]), .quiet (V [0, 0]), .quiet (.bool true), .quiet (.bool true)] H7 ?ho8 ?he8
 case ho8 => exact ak (fun γ => ⟨rfl, fun w' h => ex_loadA (i := 0) (k := 2) h 3 rfl rfl rfl Tryd.isAgg26 Tryd.sizeOf26 rfl rfl⟩) (ak (fun γ => ⟨rfl, fun w' _ => ex_buildE2z rfl⟩) (ak (fun γ => ⟨rfl, fun w' _ => exec_eqE2 e_z rfl rfl rfl⟩) (ak (fun _ => ⟨rfl, fun _ _ => rfl⟩) trivial)))
 intro _ w8 H8
 clear H7
 refine rest0 rfl (then_normal (wp_seq ?_))
 refine walk_anyB 38 [.quiet (.bool true), .quiet (.bool true), .quiet (.int .i64 0), .quiet (.bool false), .quiet (.bool false), .quiet (V [0, 0]), .quiet (V [0, 0]), .call (V [0, 0]), .quiet (V [x0, x1]), .quiet (V [0, 0]), .call (V [0, 0]), .quiet (.bool true), .quiet (.bool true), .quiet (.bool true), .quiet (.bool true), .quiet (.bool true), .quiet (.bool true), .gone, .gone, .gone, .gone, .gone, .quiet (.bool true), .quiet (.bool true), .quiet (.bool true), .quiet (.int .i64 0), .quiet (.bool false), .quiet (.bool false), .quiet (V [0, 0]), .quiet (V [0, 0]), .call (V [0, 0]), .quiet (V [x0, x1]), .call (V [k1, k1]), .call (V [0, 0]), .quiet (.bool true), .quiet (.bool true), .quiet (.bool true), .quiet (.bool true)] H8 ?ho9 ?he9 (hL := ?hL9)
 case hL9 => exact trivial
 case ho9 => exact ak (fun _ => ⟨rfl, fun _ _ => rfl⟩) (ak (fun _ => ⟨rfl, fun _ _ => rfl⟩) (ak (fun _ => ⟨rfl, fun _ _ => rfl⟩) (ak (by refine fun γ => ⟨rfl, fun w' h => ?_⟩; clear h; go_simp) (ak (fun _ => ⟨rfl, fun _ _ => rfl⟩) (ak (fun γ => ⟨rfl, fun w' h => ex_loadA (i := 0) (k := 2) h 1 rfl rfl rfl Tryd.isAgg26 Tryd.sizeOf26 rfl rfl⟩) (ak (fun γ => ⟨rfl, fun w' h => ex_loadA (i := 0) (k := 2) h 1 rfl rfl rfl Tryd.isAgg26 Tryd.sizeOf26 rfl rfl⟩) (ak (fun γ => ⟨rfl, fun w' h => ⟨7, #[V [0, 0], V [0, 0]], exec_call rfl call7 rfl (mpn rfl), C3.out w'⟩⟩) (ak (fun γ => ⟨rfl, fun w' h => ex_loadA (i := 0) (k := 2) h 4 rfl rfl rfl Tryd.isAgg26 Tryd.sizeOf26 rfl rfl⟩) (ak (fun γ => ⟨rfl, fun w' _ => ex_buildE2z rfl⟩) (ak (fun γ => ⟨rfl, fun w' h => ⟨8, #[V [x0, x1], V [0, 0]], exec_call rfl call8 rfl (mpn rfl), C4.out w'⟩⟩) (ak (fun γ => ⟨rfl, fun w' _ => exec_eqE2 e_z rfl rfl rfl⟩) (ak (by refine fun γ => ⟨rfl, fun w' h => ?_⟩; clear h; go_simp) (ak (by refine fun γ => ⟨rfl, fun w' h => ?_⟩; clear h; go_simp) (ak (fun _ => ⟨rfl, fun _ _ => rfl⟩) (ak (fun _ => ⟨rfl, fun _ _ => rfl⟩) (ak (fun _ => ⟨rfl, fun _ _ => rfl⟩) (ak (fun γ => rfl) (ak (fun γ => rfl) (ak (fun γ => rfl) (ak (fun γ => rfl) (ak (fun γ => rfl) (ak (by refine fun γ => ⟨rfl, fun w' h => ?_⟩; clear h; go_simp) (ak (by refine fun γ => ⟨rfl, fun w' h => ?_⟩; clear h; go_simp) (ak (fun _ => ⟨rfl, fun _ _ => rfl⟩) (ak (fun _ => ⟨rfl, fun _ _ => rfl⟩) (ak (by refine fun γ => ⟨rfl, fun w' h => ?_⟩; clear h; go_simp) (ak (fun _ => ⟨rfl, fun _ _ => rfl⟩) (ak (fun γ => ⟨rfl, fun w' h => ex_loadA (i := 0) (k := 2) h 0 rfl rfl rfl Tryd.isAgg26 Tryd.sizeOf26 rfl rfl⟩) (ak (fun γ => ⟨rfl, fun w' h => ex_loadA (i := 0) (k := 2) h 0 rfl rfl rfl Tryd.isAgg26 Tryd.sizeOf26 rfl rfl⟩) (ak (fun γ => ⟨rfl, fun w' h => ⟨7, #[V [0, 0], V [0, 0]], exec_call rfl call7 rfl (mpn rfl), C3.out w'⟩⟩) (ak (fun γ => ⟨rfl, fun w' h => ex_loadA (i := 0) (k := 2) h 4 rfl rfl rfl Tryd.isAgg26 Tryd.sizeOf26 rfl rfl⟩) (ak (fun γ => ⟨rfl, fun w' h => ⟨12, #[.int .u64 1, .int .u64 1], exec_call rfl call12 rfl (mpn rfl), C5.out w'⟩⟩) (ak (fun γ => ⟨rfl, fun w' h => ⟨7, #[V [x0, x1], V [k1, k1]], exec_call rfl call7 rfl (mpn rfl), C6.out w'⟩⟩) (ak (fun γ => ⟨rfl, fun w' _ => exec_eqE2 e_z rfl rfl rfl⟩) (ak (by refine fun γ => ⟨rfl, fun w' h => ?_⟩; clear h; go_simp) (ak (by refine fun γ => ⟨rfl, fun w' h => ?_⟩; clear h; go_simp) (ak (fun _ => ⟨rfl, fun _ _ => rfl⟩) trivial)))))))))))))))))))))))))))))))))))))
 intro _ w9 H9
 clear H8
 refine rest0 rfl (then_normal (wp_ret ?_))
 repeat (first | refine then_ret ?_ | refine block_ret ?_)
 refine bodyPost_ret (v := .bool true) (by simp [results, Tryd.results4, go_sem, *]) rfl ?_
 exact ⟨rfl, H9.out.2⟩
set_option maxRecDepth 100000 in
set_option maxHeartbeats 2000000 in
theorem roots_any (x0 x1 : Nat) (hx0 : x0 < big) (hx1 : x1 < big) (w : World) (hm : Mm w [(0, dtab)]) : Calls Tryd.prog 4 #[V [x0, x1]] w (Rt w (.bool true)) := by
 have s1 : (1 : Nat) < big := small_big 1 (by decide)
 by_cases hz : Dv ((x0 : Int) * x0 + (x1 : Int) * x1)
 ·obtain ⟨d0, d1⟩ := norm0 hz
  have z0 := (pz_zero_iff _).2 d0
  have z1 := (pz_zero_iff _).2 d1
  have hs4 : Sq (((0 : Nat) : Int) * (0 : Nat) + ((0 : Nat) : Int) * (0 : Nat)) := sq_of (m := 0) (dv_zero.of (by decide))
  have rz : ∀ a b : Nat, a < big → b < big → Dv (a : Int) → Dv (b : Int) → ∀ w, Mm w [(0, dtab)] → Calls Tryd.prog 13 #[V [a, b]] w (Rt w (.tuple #[V [0, 0], .int .i64 0])) := fun a b ha hb da db w hm => by
   have hs : Sq ((a : Int) * a + (b : Int) * b) := sq_of (m := 0) ((((da.mul a).add (db.mul b)).mul (-1)).of (by omega))
   obtain ⟨u, v, hu, hv, _, hc⟩ := rootT_ex a b ha hb hs
   have h1 : Dv (u * u - v * v) := (hu.add da).of (by omega)
   have h2 : Dv (2 * (u * v)) := (hv.add db).of (by omega)
   have h3 : O2 (u, v) := O2.sq ⟨h1, h2.of (by unfold cm; grind)⟩
   rw [(pz_zero_iff u).2 h3.1, (pz_zero_iff v).2 h3.2] at hc
   exact hc w hm
  have q0 : pz ((x0 : Int) * x0 - (x1 : Int) * x1) = 0 := (pz_zero_iff _).2 ((d0.mul (x0 : Int)).sub (d1.mul (x1 : Int)))
  have q1 : pz ((x0 : Int) * x1 + (x1 : Int) * x0) = 0 := (pz_zero_iff _).2 ((d1.mul (x0 : Int)).add (d0.mul (x1 : Int)))
  have cQ := (fun w => mulC x0 x1 x0 x1 _ _ hx0 hx1 hx0 hx1 (dvr _) (dvr _) (dvr _) (dvr _) rfl rfl w)
  rw [q0, q1] at cQ
  have cA := (fun w => addCr x0 x1 0 0 (A0 := (x0 : Int)) (A1 := (x1 : Int)) (B0 := 0) (B1 := 0) hx0 hx1 big_pos big_pos (dvr _) (dvr _) (dvr _) (dvr _) (by rw [Int.add_zero]) (by rw [Int.add_zero]) w)
  have cX := (fun w => mulCr x0 x1 1 1 (A0 := (x0 : Int)) (A1 := (x1 : Int)) (B0 := 1) (B1 := 1) hx0 hx1 s1 s1 (dvr _) (dvr _) (dvr _) (dvr _) ((pz_zero_iff _).2 ((d0.mulr 1).sub (d1.mulr 1))) ((pz_zero_iff _).2 ((d0.mulr 1).add (d1.mulr 1))) w)
  have cA' : ∀ w, Calls Tryd.prog 8 #[V [x0, x1], V [0, 0]] w (Rt w (V [0, 0])) := fun w => addCr x0 x1 0 0 (A0 := (x0 : Int)) (A1 := (x1 : Int)) (B0 := 0) (B1 := 0) hx0 hx1 big_pos big_pos (dvr _) (dvr _) (dvr _) (dvr _) (by rw [Int.add_zero]; exact z0) (by rw [Int.add_zero]; exact z1) w
  have cZ : ∀ w, Calls Tryd.prog 7 #[V [0, 0], V [0, 0]] w (Rt w (V [0, 0])) := fun w => mulCr 0 0 0 0 (A0 := 0) (A1 := 0) (B0 := 0) (B1 := 0) big_pos big_pos big_pos big_pos (dvr _) (dvr _) (dvr _) (dvr _) pz_zero pz_zero w
  clear cA
  exact roots_Az x0 x1 1 (eq_reflE2 big_pos big_pos) awake_any cQ (fun w hm => rz 0 0 big_pos big_pos dv_zero dv_zero w hm) cZ cA' (fun w => small_any 1 1 (by decide) (by decide) w) cX (fun w hm => rz x0 x1 hx0 hx1 d0 d1 w hm) w hm
 ·have hnq : Dv ((pz ((x0 : Int) * x0 - (x1 : Int) * x1) : Int) * pz ((x0 : Int) * x0 - (x1 : Int) * x1) + (pz ((x0 : Int) * x1 + (x1 : Int) * x0) : Int) * pz ((x0 : Int) * x1 + (x1 : Int) * x0) - ((x0 : Int) * x0 + (x1 : Int) * x1) * ((x0 : Int) * x0 + (x1 : Int) * x1)) := ((((dv_pz ((x0 : Int) * x0 - (x1 : Int) * x1)).mul ((pz ((x0 : Int) * x0 - (x1 : Int) * x1) : Int) + ((x0 : Int) * x0 - (x1 : Int) * x1)))).add ((dv_pz ((x0 : Int) * x1 + (x1 : Int) * x0)).mul ((pz ((x0 : Int) * x1 + (x1 : Int) * x0) : Int) + ((x0 : Int) * x1 + (x1 : Int) * x0)))).of (by grind)
  have hsQ : Sq ((pz ((x0 : Int) * x0 - (x1 : Int) * x1) : Int) * pz ((x0 : Int) * x0 - (x1 : Int) * x1) + (pz ((x0 : Int) * x1 + (x1 : Int) * x0) : Int) * pz ((x0 : Int) * x1 + (x1 : Int) * x0)) := sq_of (m := ((x0 : Int) * x0 + (x1 : Int) * x1)) ((hnq.mul (-1)).of (by omega))
  have hq0 : ¬ (pz ((x0 : Int) * x0 - (x1 : Int) * x1) = 0 ∧ pz ((x0 : Int) * x1 + (x1 : Int) * x0) = 0) := fun h => by
   have k0 := (pz_zero_iff _).1 h.1
   have k1 := (pz_zero_iff _).1 h.2
   have k2 : Dv (((x0 : Int) * x0 + (x1 : Int) * x1) * ((x0 : Int) * x0 + (x1 : Int) * x1)) := ((k0.mul ((x0 : Int) * x0 - (x1 : Int) * x1)).add (k1.mul ((x0 : Int) * x1 + (x1 : Int) * x0))).of (by grind)
   rcases k2.prime with k | k <;> exact hz k
  obtain ⟨r, s, hr0, hr1, _, hR⟩ := rootT_ex (pz ((x0 : Int) * x0 - (x1 : Int) * x1)) (pz ((x0 : Int) * x1 + (x1 : Int) * x0)) (pz_big _) (pz_big _) hsQ
  have g0 : Dv (r * r - s * s - ((x0 : Int) * x0 - (x1 : Int) * x1)) := (hr0.add (dv_pz ((x0 : Int) * x0 - (x1 : Int) * x1))).of (by omega)
  have g1 : Dv (2 * (r * s) - ((x0 : Int) * x1 + (x1 : Int) * x0)) := (hr1.add (dv_pz ((x0 : Int) * x1 + (x1 : Int) * x0))).of (by omega)
  have cR := fun w => mulCr (pz r) (pz s) (pz r) (pz s) (pz_big _) (pz_big _) (pz_big _) (pz_big _) (dv_pz r) (dv_pz s) (dv_pz r) (dv_pz s) (pz_mod _ ((x0 : Int) * x0 - (x1 : Int) * x1) g0) (pz_mod _ ((x0 : Int) * x1 + (x1 : Int) * x0) (g1.of (by grind))) w
  have tq : Dv ((pz ((x0 : Int) - x1) : Int) * pz ((x0 : Int) - x1) + (pz ((x0 : Int) + x1) : Int) * pz ((x0 : Int) + x1) - 2 * ((x0 : Int) * x0 + (x1 : Int) * x1)) := (((dv_pz ((x0 : Int) - x1)).mul ((pz ((x0 : Int) - x1) : Int) + ((x0 : Int) - x1))).add ((dv_pz ((x0 : Int) + x1)).mul ((pz ((x0 : Int) + x1) : Int) + ((x0 : Int) + x1)))).of (by grind)
  have fin : ∀ rA : (pz r = pz (x0 : Int) ∧ pz s = pz (x1 : Int)) ∨ (¬ (pz (-(x0 : Int)) = pz (x0 : Int) ∧ pz (-(x1 : Int)) = pz (x1 : Int)) ∧ pz r = pz (-(x0 : Int)) ∧ pz s = pz (-(x1 : Int))), Calls Tryd.prog 4 #[V [x0, x1]] w (Rt w (.bool true)) := fun rA => by
   by_cases hs : Sq ((x0 : Int) * x0 + (x1 : Int) * x1)
   ·have hs2 : ¬ Sq ((pz ((x0 : Int) - x1) : Int) * pz ((x0 : Int) - x1) + (pz ((x0 : Int) + x1) : Int) * pz ((x0 : Int) + x1)) := fun k => sq_two_no hz hs (sq_congr tq k)
    obtain ⟨u, v, hu0, hu1, _, hU⟩ := rootT_ex x0 x1 hx0 hx1 hs
    have cU := fun w => mulCr (pz u) (pz v) (pz u) (pz v) (pz_big _) (pz_big _) (pz_big _) (pz_big _) (dv_pz u) (dv_pz v) (dv_pz u) (dv_pz v) (pz_mod _ (x0 : Int) hu0) (pz_mod _ (x1 : Int) (hu1.of (by grind))) w
    rcases rA with ⟨e0, e1⟩ | ⟨hne, e0, e1⟩
    ·rw [e0, e1] at hR cR
     exact roots_Af x0 x1 1 (pz ((x0 : Int) * x0 - (x1 : Int) * x1)) (pz ((x0 : Int) * x1 + (x1 : Int) * x0)) (pz (x0 : Int)) (pz (x1 : Int)) (pz ((x0 : Int) - x1)) (pz ((x0 : Int) + x1)) (pz u) (pz v) (eq_reflE2 (pz_big _) (pz_big _)) (eq_reflE2 (pz_big _) (pz_big _)) (ne_E2 (pz_big _) (pz_big _) big_pos big_pos hq0) awake_any (fun w => mulC x0 x1 x0 x1 _ _ hx0 hx1 hx0 hx1 (dvr _) (dvr _) (dvr _) (dvr _) rfl rfl w) hR cR (fun w => addCr x0 x1 0 0 (A0 := (x0 : Int)) (A1 := (x1 : Int)) (B0 := 0) (B1 := 0) hx0 hx1 big_pos big_pos (dvr _) (dvr _) (dvr _) (dvr _) (by rw [Int.add_zero]) (by rw [Int.add_zero]) w) (fun w => small_any 1 1 (by decide) (by decide) w) (fun w => mulCr x0 x1 1 1 (A0 := (x0 : Int)) (A1 := (x1 : Int)) (B0 := 1) (B1 := 1) hx0 hx1 s1 s1 (dvr _) (dvr _) (dvr _) (dvr _) (by rw [Int.mul_one, Int.mul_one]) (by rw [Int.mul_one, Int.mul_one]) w) hU (fun w hm => rootT_none _ _ (pz_big _) (pz_big _) hs2 w hm) cU w hm
    ·rw [e0, e1] at hR cR
     exact roots_Bf x0 x1 1 (pz ((x0 : Int) * x0 - (x1 : Int) * x1)) (pz ((x0 : Int) * x1 + (x1 : Int) * x0)) (pz (x0 : Int)) (pz (x1 : Int)) (pz (-(x0 : Int))) (pz (-(x1 : Int))) (pz ((x0 : Int) - x1)) (pz ((x0 : Int) + x1)) (pz u) (pz v) (eq_reflE2 (pz_big _) (pz_big _)) (eq_reflE2 (pz_big _) (pz_big _)) (eq_reflE2 (pz_big _) (pz_big _)) (ne_E2 (pz_big _) (pz_big _) (pz_big _) (pz_big _) hne) (ne_E2 (pz_big _) (pz_big _) big_pos big_pos hq0) awake_any (fun w => mulC x0 x1 x0 x1 _ _ hx0 hx1 hx0 hx1 (dvr _) (dvr _) (dvr _) (dvr _) rfl rfl w) hR cR (fun w => addCr x0 x1 0 0 (A0 := (x0 : Int)) (A1 := (x1 : Int)) (B0 := 0) (B1 := 0) hx0 hx1 big_pos big_pos (dvr _) (dvr _) (dvr _) (dvr _) (by rw [Int.add_zero]) (by rw [Int.add_zero]) w) (fun w => small_any 1 1 (by decide) (by decide) w) (fun w => mulCr x0 x1 1 1 (A0 := (x0 : Int)) (A1 := (x1 : Int)) (B0 := 1) (B1 := 1) hx0 hx1 s1 s1 (dvr _) (dvr _) (dvr _) (dvr _) (by rw [Int.mul_one, Int.mul_one]) (by rw [Int.mul_one, Int.mul_one]) w) (fun w => neg2_any x0 x1 hx0 hx1 w) hU (fun w hm => rootT_none _ _ (pz_big _) (pz_big _) hs2 w hm) cU w hm
   ·have hs2 : Sq ((pz ((x0 : Int) - x1) : Int) * pz ((x0 : Int) - x1) + (pz ((x0 : Int) + x1) : Int) * pz ((x0 : Int) + x1)) := sq_congr ((tq.mul (-1)).of (by omega)) (sq_two_yes hs)
    obtain ⟨y, z, hy0, hy1, _, hY⟩ := rootT_ex (pz ((x0 : Int) - x1)) (pz ((x0 : Int) + x1)) (pz_big _) (pz_big _) hs2
    have cY := fun w => mulCr (pz y) (pz z) (pz y) (pz z) (pz_big _) (pz_big _) (pz_big _) (pz_big _) (dv_pz y) (dv_pz z) (dv_pz y) (dv_pz z) (pz_mod _ ((x0 : Int) - x1) ((hy0.add (dv_pz ((x0 : Int) - x1))).of (by omega))) (pz_mod _ ((x0 : Int) + x1) ((hy1.add (dv_pz ((x0 : Int) + x1))).of (by grind))) w
    rcases rA with ⟨e0, e1⟩ | ⟨hne, e0, e1⟩
    ·rw [e0, e1] at hR cR
     exact roots_Ag x0 x1 1 (pz ((x0 : Int) * x0 - (x1 : Int) * x1)) (pz ((x0 : Int) * x1 + (x1 : Int) * x0)) (pz (x0 : Int)) (pz (x1 : Int)) (pz ((x0 : Int) - x1)) (pz ((x0 : Int) + x1)) (pz y) (pz z) (eq_reflE2 (pz_big _) (pz_big _)) (eq_reflE2 (pz_big _) (pz_big _)) (eq_reflE2 (pz_big _) (pz_big _)) (ne_E2 (pz_big _) (pz_big _) big_pos big_pos hq0) awake_any (fun w => mulC x0 x1 x0 x1 _ _ hx0 hx1 hx0 hx1 (dvr _) (dvr _) (dvr _) (dvr _) rfl rfl w) hR cR (fun w => addCr x0 x1 0 0 (A0 := (x0 : Int)) (A1 := (x1 : Int)) (B0 := 0) (B1 := 0) hx0 hx1 big_pos big_pos (dvr _) (dvr _) (dvr _) (dvr _) (by rw [Int.add_zero]) (by rw [Int.add_zero]) w) (fun w => small_any 1 1 (by decide) (by decide) w) (fun w => mulCr x0 x1 1 1 (A0 := (x0 : Int)) (A1 := (x1 : Int)) (B0 := 1) (B1 := 1) hx0 hx1 s1 s1 (dvr _) (dvr _) (dvr _) (dvr _) (by rw [Int.mul_one, Int.mul_one]) (by rw [Int.mul_one, Int.mul_one]) w) (fun w hm => rootT_none x0 x1 hx0 hx1 hs w hm) hY cY w hm
    ·rw [e0, e1] at hR cR
     exact roots_Bg x0 x1 1 (pz ((x0 : Int) * x0 - (x1 : Int) * x1)) (pz ((x0 : Int) * x1 + (x1 : Int) * x0)) (pz (x0 : Int)) (pz (x1 : Int)) (pz (-(x0 : Int))) (pz (-(x1 : Int))) (pz ((x0 : Int) - x1)) (pz ((x0 : Int) + x1)) (pz y) (pz z) (eq_reflE2 (pz_big _) (pz_big _)) (eq_reflE2 (pz_big _) (pz_big _)) (eq_reflE2 (pz_big _) (pz_big _)) (ne_E2 (pz_big _) (pz_big _) (pz_big _) (pz_big _) hne) (ne_E2 (pz_big _) (pz_big _) big_pos big_pos hq0) awake_any (fun w => mulC x0 x1 x0 x1 _ _ hx0 hx1 hx0 hx1 (dvr _) (dvr _) (dvr _) (dvr _) rfl rfl w) hR cR (fun w => addCr x0 x1 0 0 (A0 := (x0 : Int)) (A1 := (x1 : Int)) (B0 := 0) (B1 := 0) hx0 hx1 big_pos big_pos (dvr _) (dvr _) (dvr _) (dvr _) (by rw [Int.add_zero]) (by rw [Int.add_zero]) w) (fun w => small_any 1 1 (by decide) (by decide) w) (fun w => mulCr x0 x1 1 1 (A0 := (x0 : Int)) (A1 := (x1 : Int)) (B0 := 1) (B1 := 1) hx0 hx1 s1 s1 (dvr _) (dvr _) (dvr _) (dvr _) (by rw [Int.mul_one, Int.mul_one]) (by rw [Int.mul_one, Int.mul_one]) w) (fun w => neg2_any x0 x1 hx0 hx1 w) (fun w hm => rootT_none x0 x1 hx0 hx1 hs w hm) hY cY w hm
  apply fin
  rcases root_pm g0 (g1.of (by omega)) with ⟨k0, k1⟩ | ⟨k0, k1⟩
  ·exact Or.inl ⟨pz_mod _ _ k0, pz_mod _ _ k1⟩
  ·by_cases hne : pz (-(x0 : Int)) = pz (x0 : Int) ∧ pz (-(x1 : Int)) = pz (x1 : Int)
   ·exact Or.inl ⟨by rw [← hne.1]; exact pz_mod _ _ (k0.of (by omega)), by rw [← hne.2]; exact pz_mod _ _ (k1.of (by omega))⟩
   ·exact Or.inr ⟨hne, pz_mod _ _ (k0.of (by omega)), pz_mod _ _ (k1.of (by omega))⟩
end Rg
end Go.Proofs.YtgdlhgbdigpfhaaDoor
end
