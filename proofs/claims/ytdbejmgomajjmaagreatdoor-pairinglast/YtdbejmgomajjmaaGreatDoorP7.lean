/- Texts of the proof, joined. -/
import Derived.Test.YtdbejmgomajjmaaGreatDoorP6
section
namespace Go.Proofs.YtdbejmgomajjmaaGreatDoor
open Go.RowKit
namespace Rg
set_option maxHeartbeats 8000000 in
set_option maxRecDepth 100000 in
theorem mulF12_gen (a b ee oo t u q y p x v z r : Nat → Nat) (g n o s : Nat)
    (ce : ∀ w, Calls Tryz.prog 126 #[V [a 0, a 1, a 4, a 5, a 8, a 9], V [b 0, b 1, b 4, b 5, b 8, b 9]] w fun e w' => e = .returned (V [ee 0, ee 1, ee 2, ee 3, ee 4, ee 5, ee 6, ee 7, ee 8, ee 9, ee 10, ee 11]) ∧ Below w.heap.size w w')
    (co : ∀ w, Calls Tryz.prog 126 #[V [a 2, a 3, a 6, a 7, a 10, a 11], V [b 2, b 3, b 6, b 7, b 10, b 11]] w fun e w' => e = .returned (V [oo 0, oo 1, oo 2, oo 3, oo 4, oo 5, oo 6, oo 7, oo 8, oo 9, oo 10, oo 11]) ∧ Below w.heap.size w w')
    (ct : ∀ w, Calls Tryz.prog 127 #[V [a 0, a 1, a 4, a 5, a 8, a 9], V [a 2, a 3, a 6, a 7, a 10, a 11]] w fun e w' => e = .returned (V [t 0, t 1, t 2, t 3, t 4, t 5]) ∧ Below w.heap.size w w')
    (cu : ∀ w, Calls Tryz.prog 127 #[V [b 0, b 1, b 4, b 5, b 8, b 9], V [b 2, b 3, b 6, b 7, b 10, b 11]] w fun e w' => e = .returned (V [u 0, u 1, u 2, u 3, u 4, u 5]) ∧ Below w.heap.size w w')
    (cq : ∀ w, Calls Tryz.prog 126 #[V [t 0, t 1, t 2, t 3, t 4, t 5], V [u 0, u 1, u 2, u 3, u 4, u 5]] w fun e w' => e = .returned (V [q 0, q 1, q 2, q 3, q 4, q 5, q 6, q 7, q 8, q 9, q 10, q 11]) ∧ Below w.heap.size w w')
    (cr : ∀ w, Calls Tryz.prog 128 #[V [oo 8, oo 9, oo 10, oo 11]] w fun e w' => e = .returned (V [y 0, y 1, y 2, y 3]) ∧ Below w.heap.size w w')
    (hp : [y 0, y 1, y 2, y 3, oo 0, oo 1, oo 2, oo 3, oo 4, oo 5, oo 6, oo 7] = [p 0, p 1, p 2, p 3, p 4, p 5, p 6, p 7, p 8, p 9, p 10, p 11])
    (cx : ∀ k, k < 3 → ∀ w, Calls Tryz.prog 130 #[V [ee (4 * k), ee (4 * k + 1), ee (4 * k + 2), ee (4 * k + 3)], V [p (4 * k), p (4 * k + 1), p (4 * k + 2), p (4 * k + 3)]] w fun e w' => e = .returned (V [x (4 * k), x (4 * k + 1), x (4 * k + 2), x (4 * k + 3)]) ∧ Below w.heap.size w w')
    (cy : ∀ k, k < 3 → ∀ w, Mm w [(g, modx n o s)] → Calls Tryz.prog 129 #[.agg #[PT g 0], V [x (4 * k), x (4 * k + 1), x (4 * k + 2), x (4 * k + 3)]] w fun e w' => e = .returned (V [r (2 * (2 * k)), r (2 * (2 * k) + 1)]) ∧ Below w.heap.size w w')
    (cv : ∀ k, k < 3 → ∀ w, Calls Tryz.prog 131 #[V [q (4 * k), q (4 * k + 1), q (4 * k + 2), q (4 * k + 3)], V [ee (4 * k), ee (4 * k + 1), ee (4 * k + 2), ee (4 * k + 3)]] w fun e w' => e = .returned (V [v (4 * k), v (4 * k + 1), v (4 * k + 2), v (4 * k + 3)]) ∧ Below w.heap.size w w')
    (cz : ∀ k, k < 3 → ∀ w, Calls Tryz.prog 131 #[V [v (4 * k), v (4 * k + 1), v (4 * k + 2), v (4 * k + 3)], V [oo (4 * k), oo (4 * k + 1), oo (4 * k + 2), oo (4 * k + 3)]] w fun e w' => e = .returned (V [z (4 * k), z (4 * k + 1), z (4 * k + 2), z (4 * k + 3)]) ∧ Below w.heap.size w w')
    (cw : ∀ k, k < 3 → ∀ w, Mm w [(g, modx n o s)] → Calls Tryz.prog 129 #[.agg #[PT g 0], V [z (4 * k), z (4 * k + 1), z (4 * k + 2), z (4 * k + 3)]] w fun e w' => e = .returned (V [r (2 * (2 * k + 1)), r (2 * (2 * k + 1) + 1)]) ∧ Below w.heap.size w w') (w : World) (hm : Mm w [(g, modx n o s)]) :
    Calls Tryz.prog 62 #[.agg #[PT g 0], V [a 0, a 1, a 2, a 3, a 4, a 5, a 6, a 7, a 8, a 9, a 10, a 11], V [b 0, b 1, b 2, b 3, b 4, b 5, b 6, b 7, b 8, b 9, b 10, b 11]] w fun e w' => e = .returned (V [r 0, r 1, r 2, r 3, r 4, r 5, r 6, r 7, r 8, r 9, r 10, r 11]) ∧ Below w.heap.size w w' := by
  have H0 : Hid (_ ∧ _) := ⟨hm, Below.refl w.heap.size w⟩
  clear hm
  have CE : Hid _ := ce
  have CO : Hid _ := co
  have CT : Hid _ := ct
  have CU : Hid _ := cu
  have CQ : Hid _ := cq
  have CR : Hid _ := cr
  have HP : Hid _ := hp
  have CX : Hid _ := cx
  have CY : Hid _ := cy
  have CV : Hid _ := cv
  have CZ : Hid _ := cz
  have CW : Hid _ := cw
  clear ce co ct cu cq cr hp cx cy cv cz cw
  go_enter Tryz.func62, Tryz.ntmps62
  refine wp_seq ?_
  refine walk_seqA 4 [.made [PT g 0] 100, .made (cel [a 0, a 1, a 2, a 3, a 4, a 5, a 6, a 7, a 8, a 9, a 10, a 11]) 32, .made (cel [b 0, b 1, b 2, b 3, b 4, b 5, b 6, b 7, b 8, b 9, b 10, b 11]) 32, .made (cel [0, 0, 0, 0, 0, 0, 0, 0, 0, 0, 0, 0]) 32] (sB H0) ?ho1 ?he1
  case ho1 => exact ak (fun γ => ⟨rfl, fun w' => ex_boxF rfl rfl⟩) (ak (fun γ => ⟨rfl, fun w' => ex_boxA rfl rfl⟩) (ak (fun γ => ⟨rfl, fun w' => ex_boxA rfl rfl⟩) (ak (fun γ => ⟨rfl, fun w' => ex_madeE12 rfl⟩) trivial)))
  intro γ w1 l hM hl
  have H1 : Hid (Mm w1 [(γ 0, [PT g 0]), (γ 1, cel [a 0, a 1, a 2, a 3, a 4, a 5, a 6, a 7, a 8, a 9, a 10, a 11]), (γ 2, cel [b 0, b 1, b 2, b 3, b 4, b 5, b 6, b 7, b 8, b 9, b 10, b 11]), (γ 3, cel [0, 0, 0, 0, 0, 0, 0, 0, 0, 0, 0, 0]), (g, modx n o s)] ∧ _) := growB H0 hM (Nat.le_refl _) hl [0, 1, 2, 3] rfl (by decide)
  have o1_0 := ownB H0 hM (Nat.le_refl _) hl (i := 0) rfl
  have o1_1 := ownB H0 hM (Nat.le_refl _) hl (i := 1) rfl
  have o1_2 := ownB H0 hM (Nat.le_refl _) hl (i := 2) rfl
  have o1_3 := ownB H0 hM (Nat.le_refl _) hl (i := 3) rfl
  clear hM hl l
  generalize γ 0 = γ1_0 at H1 o1_0 ⊢
  generalize γ 1 = γ1_1 at H1 o1_1 ⊢
  generalize γ 2 = γ1_2 at H1 o1_2 ⊢
  generalize γ 3 = γ1_3 at H1 o1_3 ⊢
  clear γ
  refine rest0 rfl (then_normal (wp_seq ?_))
  refine walk_anyA 16 [.quiet (V [a 0, a 1, a 2, a 3, a 4, a 5, a 6, a 7, a 8, a 9, a 10, a 11]), .call (V [a 0, a 1, a 4, a 5, a 8, a 9]), .quiet (V [a 0, a 1, a 2, a 3, a 4, a 5, a 6, a 7, a 8, a 9, a 10, a 11]), .call (V [a 2, a 3, a 6, a 7, a 10, a 11]), .quiet (V [b 0, b 1, b 2, b 3, b 4, b 5, b 6, b 7, b 8, b 9, b 10, b 11]), .call (V [b 0, b 1, b 4, b 5, b 8, b 9]), .quiet (V [b 0, b 1, b 2, b 3, b 4, b 5, b 6, b 7, b 8, b 9, b 10, b 11]), .call (V [b 2, b 3, b 6, b 7, b 10, b 11]), .made (cel [0, 0, 0, 0, 0, 0]) 146, .made (cel [0, 0, 0, 0, 0, 0]) 146, .made (cel [0, 0, 0, 0, 0, 0]) 146, .made (cel [0, 0, 0, 0, 0, 0]) 146, .laid 8 (cel [0, 0, 0, 0, 0, 0]) (cel [a 0, a 1, a 4, a 5, a 8, a 9]), .laid 9 (cel [0, 0, 0, 0, 0, 0]) (cel [a 2, a 3, a 6, a 7, a 10, a 11]), .laid 10 (cel [0, 0, 0, 0, 0, 0]) (cel [b 0, b 1, b 4, b 5, b 8, b 9]), .laid 11 (cel [0, 0, 0, 0, 0, 0]) (cel [b 2, b 3, b 6, b 7, b 10, b 11])] (sB H1) ?ho2 ?he2 (hL := ?hL2)
  case hL2 => exact ⟨⟨_, rfl⟩, ⟨_, rfl⟩, ⟨_, rfl⟩, ⟨_, rfl⟩, trivial⟩
  case ho2 => exact ak (fun γ => ⟨rfl, fun w' h => ex_loadA (i := 0) (k := 12) h 1 rfl rfl rfl Tryz.isAgg32 Tryz.sizeOf32 rfl rfl⟩) (ak (fun γ => ⟨rfl, fun w' h => ⟨125, #[V [a 0, a 1, a 2, a 3, a 4, a 5, a 6, a 7, a 8, a 9, a 10, a 11], .int .i64 0], exec_call rfl call125 rfl (mpn rfl), parts_0 a w'⟩⟩) (ak (fun γ => ⟨rfl, fun w' h => ex_loadA (i := 0) (k := 12) h 1 rfl rfl rfl Tryz.isAgg32 Tryz.sizeOf32 rfl rfl⟩) (ak (fun γ => ⟨rfl, fun w' h => ⟨125, #[V [a 0, a 1, a 2, a 3, a 4, a 5, a 6, a 7, a 8, a 9, a 10, a 11], .int .i64 1], exec_call rfl call125 rfl (mpn rfl), parts_1 a w'⟩⟩) (ak (fun γ => ⟨rfl, fun w' h => ex_loadA (i := 0) (k := 12) h 2 rfl rfl rfl Tryz.isAgg32 Tryz.sizeOf32 rfl rfl⟩) (ak (fun γ => ⟨rfl, fun w' h => ⟨125, #[V [b 0, b 1, b 2, b 3, b 4, b 5, b 6, b 7, b 8, b 9, b 10, b 11], .int .i64 0], exec_call rfl call125 rfl (mpn rfl), parts_0 b w'⟩⟩) (ak (fun γ => ⟨rfl, fun w' h => ex_loadA (i := 0) (k := 12) h 2 rfl rfl rfl Tryz.isAgg32 Tryz.sizeOf32 rfl rfl⟩) (ak (fun γ => ⟨rfl, fun w' h => ⟨125, #[V [b 0, b 1, b 2, b 3, b 4, b 5, b 6, b 7, b 8, b 9, b 10, b 11], .int .i64 1], exec_call rfl call125 rfl (mpn rfl), parts_1 b w'⟩⟩) (ak (fun γ => ⟨rfl, fun w' => ex_madeTH rfl⟩) (ak (fun γ => ⟨rfl, fun w' => ex_madeTH rfl⟩) (ak (fun γ => ⟨rfl, fun w' => ex_madeTH rfl⟩) (ak (fun γ => ⟨rfl, fun w' => ex_madeTH rfl⟩) (ak (fun γ => ⟨rfl, rfl, rfl, fun w' h => ex_laidA h rfl Tryz.sizeOf146 rfl rfl rfl⟩) (ak (fun γ => ⟨rfl, rfl, rfl, fun w' h => ex_laidA h rfl Tryz.sizeOf146 rfl rfl rfl⟩) (ak (fun γ => ⟨rfl, rfl, rfl, fun w' h => ex_laidA h rfl Tryz.sizeOf146 rfl rfl rfl⟩) (ak (fun γ => ⟨rfl, rfl, rfl, fun w' h => ex_laidA h rfl Tryz.sizeOf146 rfl rfl rfl⟩) trivial)))))))))))))))
  intro γ w2 l hM hl
  have H2 : Hid (Mm w2 [(γ 8, cel [a 0, a 1, a 4, a 5, a 8, a 9]), (γ 9, cel [a 2, a 3, a 6, a 7, a 10, a 11]), (γ 10, cel [b 0, b 1, b 4, b 5, b 8, b 9]), (γ 11, cel [b 2, b 3, b 6, b 7, b 10, b 11]), (γ1_0, [PT g 0]), (γ1_1, cel [a 0, a 1, a 2, a 3, a 4, a 5, a 6, a 7, a 8, a 9, a 10, a 11]), (γ1_2, cel [b 0, b 1, b 2, b 3, b 4, b 5, b 6, b 7, b 8, b 9, b 10, b 11]), (γ1_3, cel [0, 0, 0, 0, 0, 0, 0, 0, 0, 0, 0, 0]), (g, modx n o s)] ∧ _) := growB H1 hM (Nat.le_refl _) hl [8, 9, 10, 11] rfl (by decide)
  have o2_8 := ownB H1 hM (Nat.le_refl _) hl (i := 8) rfl
  have o2_9 := ownB H1 hM (Nat.le_refl _) hl (i := 9) rfl
  have o2_10 := ownB H1 hM (Nat.le_refl _) hl (i := 10) rfl
  have o2_11 := ownB H1 hM (Nat.le_refl _) hl (i := 11) rfl
  clear hM hl l H1
  generalize γ 8 = γ2_8 at H2 o2_8 ⊢
  generalize γ 9 = γ2_9 at H2 o2_9 ⊢
  generalize γ 10 = γ2_10 at H2 o2_10 ⊢
  generalize γ 11 = γ2_11 at H2 o2_11 ⊢
  clear γ
  refine rest0 rfl (then_normal (wp_seq ?_))
  refine walk_anyA 10 [.quiet (V [a 0, a 1, a 4, a 5, a 8, a 9]), .quiet (V [b 0, b 1, b 4, b 5, b 8, b 9]), .call (V [ee 0, ee 1, ee 2, ee 3, ee 4, ee 5, ee 6, ee 7, ee 8, ee 9, ee 10, ee 11]), .quiet (V [a 2, a 3, a 6, a 7, a 10, a 11]), .quiet (V [b 2, b 3, b 6, b 7, b 10, b 11]), .call (V [oo 0, oo 1, oo 2, oo 3, oo 4, oo 5, oo 6, oo 7, oo 8, oo 9, oo 10, oo 11]), .made (cel [0, 0, 0, 0, 0, 0, 0, 0, 0, 0, 0, 0]) 153, .made (cel [0, 0, 0, 0, 0, 0, 0, 0, 0, 0, 0, 0]) 153, .laid 6 (cel [0, 0, 0, 0, 0, 0, 0, 0, 0, 0, 0, 0]) (cel [ee 0, ee 1, ee 2, ee 3, ee 4, ee 5, ee 6, ee 7, ee 8, ee 9, ee 10, ee 11]), .laid 7 (cel [0, 0, 0, 0, 0, 0, 0, 0, 0, 0, 0, 0]) (cel [oo 0, oo 1, oo 2, oo 3, oo 4, oo 5, oo 6, oo 7, oo 8, oo 9, oo 10, oo 11])] (sB H2) ?ho3 ?he3 (hL := ?hL3)
  case hL3 => exact ⟨⟨_, rfl⟩, ⟨_, rfl⟩, trivial⟩
  case ho3 => exact ak (fun γ => ⟨rfl, fun w' h => ex_loadA (i := 0) (k := 6) h 0 rfl rfl rfl Tryz.isAgg146 Tryz.sizeOf146 rfl rfl⟩) (ak (fun γ => ⟨rfl, fun w' h => ex_loadA (i := 0) (k := 6) h 2 rfl rfl rfl Tryz.isAgg146 Tryz.sizeOf146 rfl rfl⟩) (ak (fun γ => ⟨rfl, fun w' h => ⟨126, #[V [a 0, a 1, a 4, a 5, a 8, a 9], V [b 0, b 1, b 4, b 5, b 8, b 9]], exec_call rfl call126 rfl (mpn rfl), CE.out w'⟩⟩) (ak (fun γ => ⟨rfl, fun w' h => ex_loadA (i := 0) (k := 6) h 1 rfl rfl rfl Tryz.isAgg146 Tryz.sizeOf146 rfl rfl⟩) (ak (fun γ => ⟨rfl, fun w' h => ex_loadA (i := 0) (k := 6) h 3 rfl rfl rfl Tryz.isAgg146 Tryz.sizeOf146 rfl rfl⟩) (ak (fun γ => ⟨rfl, fun w' h => ⟨126, #[V [a 2, a 3, a 6, a 7, a 10, a 11], V [b 2, b 3, b 6, b 7, b 10, b 11]], exec_call rfl call126 rfl (mpn rfl), CO.out w'⟩⟩) (ak (fun γ => ⟨rfl, fun w' => ex_madeW3 rfl⟩) (ak (fun γ => ⟨rfl, fun w' => ex_madeW3 rfl⟩) (ak (fun γ => ⟨rfl, rfl, rfl, fun w' h => ex_laidA h rfl Tryz.sizeOf153 rfl rfl rfl⟩) (ak (fun γ => ⟨rfl, rfl, rfl, fun w' h => ex_laidA h rfl Tryz.sizeOf153 rfl rfl rfl⟩) trivial)))))))))
  intro γ w3 l hM hl
  have H3 : Hid (Mm w3 [(γ 6, cel [ee 0, ee 1, ee 2, ee 3, ee 4, ee 5, ee 6, ee 7, ee 8, ee 9, ee 10, ee 11]), (γ 7, cel [oo 0, oo 1, oo 2, oo 3, oo 4, oo 5, oo 6, oo 7, oo 8, oo 9, oo 10, oo 11]), (γ2_8, cel [a 0, a 1, a 4, a 5, a 8, a 9]), (γ2_9, cel [a 2, a 3, a 6, a 7, a 10, a 11]), (γ2_10, cel [b 0, b 1, b 4, b 5, b 8, b 9]), (γ2_11, cel [b 2, b 3, b 6, b 7, b 10, b 11]), (γ1_0, [PT g 0]), (γ1_1, cel [a 0, a 1, a 2, a 3, a 4, a 5, a 6, a 7, a 8, a 9, a 10, a 11]), (γ1_2, cel [b 0, b 1, b 2, b 3, b 4, b 5, b 6, b 7, b 8, b 9, b 10, b 11]), (γ1_3, cel [0, 0, 0, 0, 0, 0, 0, 0, 0, 0, 0, 0]), (g, modx n o s)] ∧ _) := growB H2 hM (Nat.le_refl _) hl [6, 7] rfl (by decide)
  have o3_6 := ownB H2 hM (Nat.le_refl _) hl (i := 6) rfl
  have o3_7 := ownB H2 hM (Nat.le_refl _) hl (i := 7) rfl
  clear hM hl l H2
  generalize γ 6 = γ3_6 at H3 o3_6 ⊢
  generalize γ 7 = γ3_7 at H3 o3_7 ⊢
  clear γ
  refine rest0 rfl (then_normal (wp_seq ?_))
  refine walk_anyA 9 [.quiet (V [a 0, a 1, a 4, a 5, a 8, a 9]), .quiet (V [a 2, a 3, a 6, a 7, a 10, a 11]), .call (V [t 0, t 1, t 2, t 3, t 4, t 5]), .quiet (V [b 0, b 1, b 4, b 5, b 8, b 9]), .quiet (V [b 2, b 3, b 6, b 7, b 10, b 11]), .call (V [u 0, u 1, u 2, u 3, u 4, u 5]), .call (V [q 0, q 1, q 2, q 3, q 4, q 5, q 6, q 7, q 8, q 9, q 10, q 11]), .made (cel [0, 0, 0, 0, 0, 0, 0, 0, 0, 0, 0, 0]) 153, .laid 7 (cel [0, 0, 0, 0, 0, 0, 0, 0, 0, 0, 0, 0]) (cel [q 0, q 1, q 2, q 3, q 4, q 5, q 6, q 7, q 8, q 9, q 10, q 11])] (sB H3) ?ho4 ?he4 (hL := ?hL4)
  case hL4 => exact ⟨⟨_, rfl⟩, trivial⟩
  case ho4 => exact ak (fun γ => ⟨rfl, fun w' h => ex_loadA (i := 0) (k := 6) h 2 rfl rfl rfl Tryz.isAgg146 Tryz.sizeOf146 rfl rfl⟩) (ak (fun γ => ⟨rfl, fun w' h => ex_loadA (i := 0) (k := 6) h 3 rfl rfl rfl Tryz.isAgg146 Tryz.sizeOf146 rfl rfl⟩) (ak (fun γ => ⟨rfl, fun w' h => ⟨127, #[V [a 0, a 1, a 4, a 5, a 8, a 9], V [a 2, a 3, a 6, a 7, a 10, a 11]], exec_call rfl call127 rfl (mpn rfl), CT.out w'⟩⟩) (ak (fun γ => ⟨rfl, fun w' h => ex_loadA (i := 0) (k := 6) h 4 rfl rfl rfl Tryz.isAgg146 Tryz.sizeOf146 rfl rfl⟩) (ak (fun γ => ⟨rfl, fun w' h => ex_loadA (i := 0) (k := 6) h 5 rfl rfl rfl Tryz.isAgg146 Tryz.sizeOf146 rfl rfl⟩) (ak (fun γ => ⟨rfl, fun w' h => ⟨127, #[V [b 0, b 1, b 4, b 5, b 8, b 9], V [b 2, b 3, b 6, b 7, b 10, b 11]], exec_call rfl call127 rfl (mpn rfl), CU.out w'⟩⟩) (ak (fun γ => ⟨rfl, fun w' h => ⟨126, #[V [t 0, t 1, t 2, t 3, t 4, t 5], V [u 0, u 1, u 2, u 3, u 4, u 5]], exec_call rfl call126 rfl (mpn rfl), CQ.out w'⟩⟩) (ak (fun γ => ⟨rfl, fun w' => ex_madeW3 rfl⟩) (ak (fun γ => ⟨rfl, rfl, rfl, fun w' h => ex_laidA h rfl Tryz.sizeOf153 rfl rfl rfl⟩) trivial))))))))
  intro γ w4 l hM hl
  have H4 : Hid (Mm w4 [(γ 7, cel [q 0, q 1, q 2, q 3, q 4, q 5, q 6, q 7, q 8, q 9, q 10, q 11]), (γ3_6, cel [ee 0, ee 1, ee 2, ee 3, ee 4, ee 5, ee 6, ee 7, ee 8, ee 9, ee 10, ee 11]), (γ3_7, cel [oo 0, oo 1, oo 2, oo 3, oo 4, oo 5, oo 6, oo 7, oo 8, oo 9, oo 10, oo 11]), (γ2_8, cel [a 0, a 1, a 4, a 5, a 8, a 9]), (γ2_9, cel [a 2, a 3, a 6, a 7, a 10, a 11]), (γ2_10, cel [b 0, b 1, b 4, b 5, b 8, b 9]), (γ2_11, cel [b 2, b 3, b 6, b 7, b 10, b 11]), (γ1_0, [PT g 0]), (γ1_1, cel [a 0, a 1, a 2, a 3, a 4, a 5, a 6, a 7, a 8, a 9, a 10, a 11]), (γ1_2, cel [b 0, b 1, b 2, b 3, b 4, b 5, b 6, b 7, b 8, b 9, b 10, b 11]), (γ1_3, cel [0, 0, 0, 0, 0, 0, 0, 0, 0, 0, 0, 0]), (g, modx n o s)] ∧ _) := growB H3 hM (Nat.le_refl _) hl [7] rfl (by decide)
  have o4_7 := ownB H3 hM (Nat.le_refl _) hl (i := 7) rfl
  clear hM hl l H3
  generalize γ 7 = γ4_7 at H4 o4_7 ⊢
  clear γ
  refine rest0 rfl (then_normal (wp_seq ?_))
  refine walk_anyA 10 [.quiet (PT γ3_7 48), .quiet (V [oo 8, oo 9, oo 10, oo 11]), .call (V [y 0, y 1, y 2, y 3]), .quiet (PT γ3_7 0), .quiet (V [oo 0, oo 1, oo 2, oo 3]), .quiet (PT γ3_7 24), .quiet (V [oo 4, oo 5, oo 6, oo 7]), .quiet (V [y 0, y 1, y 2, y 3, oo 0, oo 1, oo 2, oo 3, oo 4, oo 5, oo 6, oo 7]), .made (cel [0, 0, 0, 0, 0, 0, 0, 0, 0, 0, 0, 0]) 153, .laid 8 (cel [0, 0, 0, 0, 0, 0, 0, 0, 0, 0, 0, 0]) (cel [y 0, y 1, y 2, y 3, oo 0, oo 1, oo 2, oo 3, oo 4, oo 5, oo 6, oo 7])] (sB H4) ?ho5 ?he5 (hL := ?hL5)
  case hL5 => exact ⟨⟨_, rfl⟩, trivial⟩
  case ho5 => exact ak (by refine fun γ => ⟨rfl, fun w' h => ?_⟩; clear h; go_simp) (ak (fun γ => ⟨rfl, fun w' h => ex_loadA (i := 8) (k := 4) h 2 rfl rfl rfl Tryz.isAgg151 Tryz.sizeOf151 rfl rfl⟩) (ak (fun γ => ⟨rfl, fun w' h => ⟨128, #[V [oo 8, oo 9, oo 10, oo 11]], exec_call rfl call128 rfl (mpn rfl), CR.out w'⟩⟩) (ak (by refine fun γ => ⟨rfl, fun w' h => ?_⟩; clear h; go_simp) (ak (fun γ => ⟨rfl, fun w' h => ex_loadA (i := 0) (k := 4) h 2 rfl rfl rfl Tryz.isAgg151 Tryz.sizeOf151 rfl rfl⟩) (ak (by refine fun γ => ⟨rfl, fun w' h => ?_⟩; clear h; go_simp) (ak (fun γ => ⟨rfl, fun w' h => ex_loadA (i := 4) (k := 4) h 2 rfl rfl rfl Tryz.isAgg151 Tryz.sizeOf151 rfl rfl⟩) (ak (fun γ => ⟨rfl, fun w' _ => ex_buildW3 rfl rfl rfl rfl⟩) (ak (fun γ => ⟨rfl, fun w' => ex_madeW3 rfl⟩) (ak (fun γ => ⟨rfl, rfl, rfl, fun w' h => ex_laidA h rfl Tryz.sizeOf153 rfl rfl rfl⟩) trivial)))))))))
  intro γ w5 l hM hl
  have H5 : Hid (Mm w5 [(γ 8, cel [y 0, y 1, y 2, y 3, oo 0, oo 1, oo 2, oo 3, oo 4, oo 5, oo 6, oo 7]), (γ4_7, cel [q 0, q 1, q 2, q 3, q 4, q 5, q 6, q 7, q 8, q 9, q 10, q 11]), (γ3_6, cel [ee 0, ee 1, ee 2, ee 3, ee 4, ee 5, ee 6, ee 7, ee 8, ee 9, ee 10, ee 11]), (γ3_7, cel [oo 0, oo 1, oo 2, oo 3, oo 4, oo 5, oo 6, oo 7, oo 8, oo 9, oo 10, oo 11]), (γ2_8, cel [a 0, a 1, a 4, a 5, a 8, a 9]), (γ2_9, cel [a 2, a 3, a 6, a 7, a 10, a 11]), (γ2_10, cel [b 0, b 1, b 4, b 5, b 8, b 9]), (γ2_11, cel [b 2, b 3, b 6, b 7, b 10, b 11]), (γ1_0, [PT g 0]), (γ1_1, cel [a 0, a 1, a 2, a 3, a 4, a 5, a 6, a 7, a 8, a 9, a 10, a 11]), (γ1_2, cel [b 0, b 1, b 2, b 3, b 4, b 5, b 6, b 7, b 8, b 9, b 10, b 11]), (γ1_3, cel [0, 0, 0, 0, 0, 0, 0, 0, 0, 0, 0, 0]), (g, modx n o s)] ∧ _) := growB H4 hM (Nat.le_refl _) hl [8] rfl (by decide)
  have o5_8 := ownB H4 hM (Nat.le_refl _) hl (i := 8) rfl
  clear hM hl l H4
  generalize γ 8 = γ5_8 at H5 o5_8 ⊢
  clear γ
  refine rest0 rfl (then_normal (wp_seq ?_))
  refine walk_seqA 1 [.made (cel [0, 0, 0, 0, 0, 0, 0, 0, 0, 0, 0, 0]) 32] (sB H5) ?ho6 ?he6
  case ho6 => exact ak (fun γ => ⟨rfl, fun w' => ex_madeE12 rfl⟩) trivial
  intro γ w6 l hM hl
  have H6 : Hid (Mm w6 [(γ 0, cel [0, 0, 0, 0, 0, 0, 0, 0, 0, 0, 0, 0]), (γ5_8, cel [y 0, y 1, y 2, y 3, oo 0, oo 1, oo 2, oo 3, oo 4, oo 5, oo 6, oo 7]), (γ4_7, cel [q 0, q 1, q 2, q 3, q 4, q 5, q 6, q 7, q 8, q 9, q 10, q 11]), (γ3_6, cel [ee 0, ee 1, ee 2, ee 3, ee 4, ee 5, ee 6, ee 7, ee 8, ee 9, ee 10, ee 11]), (γ3_7, cel [oo 0, oo 1, oo 2, oo 3, oo 4, oo 5, oo 6, oo 7, oo 8, oo 9, oo 10, oo 11]), (γ2_8, cel [a 0, a 1, a 4, a 5, a 8, a 9]), (γ2_9, cel [a 2, a 3, a 6, a 7, a 10, a 11]), (γ2_10, cel [b 0, b 1, b 4, b 5, b 8, b 9]), (γ2_11, cel [b 2, b 3, b 6, b 7, b 10, b 11]), (γ1_0, [PT g 0]), (γ1_1, cel [a 0, a 1, a 2, a 3, a 4, a 5, a 6, a 7, a 8, a 9, a 10, a 11]), (γ1_2, cel [b 0, b 1, b 2, b 3, b 4, b 5, b 6, b 7, b 8, b 9, b 10, b 11]), (γ1_3, cel [0, 0, 0, 0, 0, 0, 0, 0, 0, 0, 0, 0]), (g, modx n o s)] ∧ _) := growB H5 hM (Nat.le_refl _) hl [0] rfl (by decide)
  have o6_0 := ownB H5 hM (Nat.le_refl _) hl (i := 0) rfl
  clear hM hl l H5
  generalize γ 0 = γ6_0 at H6 o6_0 ⊢
  clear γ
  refine rest0 rfl (then_normal (wp_seq (wp_seq ?_)))
  refine walk_seqB 1 [.quiet (.int .i64 0)] H6 ?ho7 ?he7
  case ho7 => exact ak (fun _ => ⟨rfl, fun _ _ => rfl⟩) trivial
  intro _ w7 H7
  clear H6
  refine rest0 rfl (then_normal ?_)
  have H8 : Hid (Mm w7 [(γ6_0, cel [0, 0, 0, 0, 0, 0, 0, 0, 0, 0, 0, 0]), (γ5_8, cel [p 0, p 1, p 2, p 3, p 4, p 5, p 6, p 7, p 8, p 9, p 10, p 11]), (γ4_7, cel [q 0, q 1, q 2, q 3, q 4, q 5, q 6, q 7, q 8, q 9, q 10, q 11]), (γ3_6, cel [ee 0, ee 1, ee 2, ee 3, ee 4, ee 5, ee 6, ee 7, ee 8, ee 9, ee 10, ee 11]), (γ3_7, cel [oo 0, oo 1, oo 2, oo 3, oo 4, oo 5, oo 6, oo 7, oo 8, oo 9, oo 10, oo 11]), (γ2_8, cel [a 0, a 1, a 4, a 5, a 8, a 9]), (γ2_9, cel [a 2, a 3, a 6, a 7, a 10, a 11]), (γ2_10, cel [b 0, b 1, b 4, b 5, b 8, b 9]), (γ2_11, cel [b 2, b 3, b 6, b 7, b 10, b 11]), (γ1_0, [PT g 0]), (γ1_1, cel [a 0, a 1, a 2, a 3, a 4, a 5, a 6, a 7, a 8, a 9, a 10, a 11]), (γ1_2, cel [b 0, b 1, b 2, b 3, b 4, b 5, b 6, b 7, b 8, b 9, b 10, b 11]), (γ1_3, cel [0, 0, 0, 0, 0, 0, 0, 0, 0, 0, 0, 0]), (g, modx n o s)] ∧ Below w.heap.size w w7) := ⟨H7.out.1.atk (by rw [HP.out]), H7.out.2⟩
  clear H7
  refine wp_block ?_
  refine loop_ghost (α := Nat) (fun k a' w' => ∃ s0 : Nat → Value, a' = ⟨#[.agg #[PT g 0], V [a 0, a 1, a 2, a 3, a 4, a 5, a 6, a 7, a 8, a 9, a 10, a 11], V [b 0, b 1, b 2, b 3, b 4, b 5, b 6, b 7, b 8, b 9, b 10, b 11], PT γ1_0 0, PT γ1_1 0, PT γ1_2 0, PT γ1_3 0, PT γ2_8 0, PT γ2_9 0, PT γ2_10 0, PT γ2_11 0, PT γ3_6 0, PT γ3_7 0, PT γ4_7 0, PT γ5_8 0, PT γ6_0 0, s0 16, V [a 0, a 1, a 2, a 3, a 4, a 5, a 6, a 7, a 8, a 9, a 10, a 11], V [a 0, a 1, a 4, a 5, a 8, a 9], V [a 0, a 1, a 2, a 3, a 4, a 5, a 6, a 7, a 8, a 9, a 10, a 11], V [a 2, a 3, a 6, a 7, a 10, a 11], V [b 0, b 1, b 2, b 3, b 4, b 5, b 6, b 7, b 8, b 9, b 10, b 11], V [b 0, b 1, b 4, b 5, b 8, b 9], V [b 0, b 1, b 2, b 3, b 4, b 5, b 6, b 7, b 8, b 9, b 10, b 11], V [b 2, b 3, b 6, b 7, b 10, b 11], V [a 0, a 1, a 4, a 5, a 8, a 9], V [b 0, b 1, b 4, b 5, b 8, b 9], V [ee 0, ee 1, ee 2, ee 3, ee 4, ee 5, ee 6, ee 7, ee 8, ee 9, ee 10, ee 11], V [a 2, a 3, a 6, a 7, a 10, a 11], V [b 2, b 3, b 6, b 7, b 10, b 11], V [oo 0, oo 1, oo 2, oo 3, oo 4, oo 5, oo 6, oo 7, oo 8, oo 9, oo 10, oo 11], V [a 0, a 1, a 4, a 5, a 8, a 9], V [a 2, a 3, a 6, a 7, a 10, a 11], V [t 0, t 1, t 2, t 3, t 4, t 5], V [b 0, b 1, b 4, b 5, b 8, b 9], V [b 2, b 3, b 6, b 7, b 10, b 11], V [u 0, u 1, u 2, u 3, u 4, u 5], V [q 0, q 1, q 2, q 3, q 4, q 5, q 6, q 7, q 8, q 9, q 10, q 11], PT γ3_7 48, V [oo 8, oo 9, oo 10, oo 11], V [y 0, y 1, y 2, y 3], PT γ3_7 0, V [oo 0, oo 1, oo 2, oo 3], PT γ3_7 24, V [oo 4, oo 5, oo 6, oo 7], V [y 0, y 1, y 2, y 3, oo 0, oo 1, oo 2, oo 3, oo 4, oo 5, oo 6, oo 7], .int .i64 ((k : Nat) : Int), s0 47, s0 48, s0 49, s0 50, s0 51, s0 52, s0 53, s0 54, s0 55, s0 56, s0 57, s0 58, s0 59, s0 60, s0 61, s0 62, s0 63, s0 64, s0 65, s0 66, s0 67, s0 68, s0 69, s0 70, s0 71, s0 72, s0 73, s0 74, s0 75, s0 76, s0 77, s0 78, undef], []⟩ ∧ (Mm w' [(γ6_0, cel (mx12 zf r (2 * (2 * k)))), (γ5_8, cel [p 0, p 1, p 2, p 3, p 4, p 5, p 6, p 7, p 8, p 9, p 10, p 11]), (γ4_7, cel [q 0, q 1, q 2, q 3, q 4, q 5, q 6, q 7, q 8, q 9, q 10, q 11]), (γ3_6, cel [ee 0, ee 1, ee 2, ee 3, ee 4, ee 5, ee 6, ee 7, ee 8, ee 9, ee 10, ee 11]), (γ3_7, cel [oo 0, oo 1, oo 2, oo 3, oo 4, oo 5, oo 6, oo 7, oo 8, oo 9, oo 10, oo 11]), (γ2_8, cel [a 0, a 1, a 4, a 5, a 8, a 9]), (γ2_9, cel [a 2, a 3, a 6, a 7, a 10, a 11]), (γ2_10, cel [b 0, b 1, b 4, b 5, b 8, b 9]), (γ2_11, cel [b 2, b 3, b 6, b 7, b 10, b 11]), (γ1_0, [PT g 0]), (γ1_1, cel [a 0, a 1, a 2, a 3, a 4, a 5, a 6, a 7, a 8, a 9, a 10, a 11]), (γ1_2, cel [b 0, b 1, b 2, b 3, b 4, b 5, b 6, b 7, b 8, b 9, b 10, b 11]), (γ1_3, cel [0, 0, 0, 0, 0, 0, 0, 0, 0, 0, 0, 0]), (g, modx n o s)] ∧ Below w.heap.size w w') ∧ k ≤ 3) (fun k => 3 - k) 0 ?st0 ?rd0
  case st0 => exact ⟨(slotfn [undef, undef, undef, undef, undef, undef, undef, undef, undef, undef, undef, undef, undef, undef, undef, undef, undef, undef, undef, undef, undef, undef, undef, undef, undef, undef, undef, undef, undef, undef, undef, undef, undef, undef, undef, undef, undef, undef, undef, undef, undef, undef, undef, undef, undef, undef, undef, undef, undef, undef, undef, undef, undef, undef, undef, undef, undef, undef, undef, undef, undef, undef, undef, undef, undef, undef, undef, undef, undef, undef, undef, undef, undef, undef, undef, undef, undef, undef, undef]), rfl, ⟨H8.out.1.atk (by rw [zf_0 r]), H8.out.2⟩, by omega⟩
  intro k a' w9 hI
  obtain ⟨s0, rfl, hMB, hk0⟩ := hI
  have H9 : Hid (_ ∧ _) := hMB
  clear hMB H8
  by_cases hlt : k < 3
  · have hrd : True := trivial
    clear hrd
    refine wp_seq ?_
    refine walk_seqB 1 [.quiet (.bool true)] H9 ?ho8 ?he8
    case ho8 => exact ak (by refine fun γ => ⟨rfl, fun w' h => ?_⟩; clear h; go_simp <;> omega) trivial
    intro _ w10 H10
    clear H9
    refine rest0 rfl (then_normal (wp_seq ?_))
    refine wp_cond_true rfl (wp_skip ?_)
    refine then_normal (wp_seq ?_)
    refine wp_block (wp_seq ?_)
    refine walk_seqB 2 [.quiet (.int .i64 ((k : Nat) : Int)), .quiet (.int .i64 ((k : Nat) : Int))] H10 ?ho9 ?he9
    case ho9 => exact ak (fun _ => ⟨rfl, fun _ _ => rfl⟩) (ak (fun _ => ⟨rfl, fun _ _ => rfl⟩) trivial)
    intro _ w11 H11
    clear H10
    refine rest0 rfl (then_normal (wp_seq ?_))
    refine walk_anyB 12 [.quiet (.int .i64 ((k : Nat) : Int)), .quiet (.int .i64 ((2 * k : Nat) : Int)), .quiet (.agg #[PT g 0]), .quiet (.int .i64 ((k : Nat) : Int)), .quiet (PT γ3_6 (6 * (4 * k))), .quiet (V [ee (4 * k), ee (4 * k + 1), ee (4 * k + 2), ee (4 * k + 3)]), .quiet (.int .i64 ((k : Nat) : Int)), .quiet (PT γ5_8 (6 * (4 * k))), .quiet (V [p (4 * k), p (4 * k + 1), p (4 * k + 2), p (4 * k + 3)]), .call (V [x (4 * k), x (4 * k + 1), x (4 * k + 2), x (4 * k + 3)]), .call (V [r (2 * (2 * k)), r (2 * (2 * k) + 1)]), .quiet (PT γ6_0 (6 * (2 * (2 * k))))] H11 ?ho10 ?he10
    case ho10 => exact ak (fun _ => ⟨rfl, fun _ _ => rfl⟩) (ak (by refine fun γ => ⟨rfl, fun w' h => ?_⟩; clear h; go_simp; rw [IntKind.wrap_i64]; omega) (ak (fun γ => ⟨rfl, fun w' h => ex_loadF h 9 rfl rfl rfl rfl⟩) (ak (fun _ => ⟨rfl, fun _ _ => rfl⟩) (ak (fun γ => ⟨rfl, fun w' _ => ex_idxW3 rfl rfl rfl (by omega)⟩) (ak (fun γ => ⟨rfl, fun w' h => ex_loadA (i := 4 * k) (k := 4) h 3 rfl rfl rfl Tryz.isAgg151 Tryz.sizeOf151 (tl12_ld4 ee hlt) rfl⟩) (ak (fun _ => ⟨rfl, fun _ _ => rfl⟩) (ak (fun γ => ⟨rfl, fun w' _ => ex_idxW3 rfl rfl rfl (by omega)⟩) (ak (fun γ => ⟨rfl, fun w' h => ex_loadA (i := 4 * k) (k := 4) h 1 rfl rfl rfl Tryz.isAgg151 Tryz.sizeOf151 (tl12_ld4 p hlt) rfl⟩) (ak (fun γ => ⟨rfl, fun w' h => ⟨130, #[V [ee (4 * k), ee (4 * k + 1), ee (4 * k + 2), ee (4 * k + 3)], V [p (4 * k), p (4 * k + 1), p (4 * k + 2), p (4 * k + 3)]], exec_call rfl call130 rfl (mpn rfl), CX.out k hlt w'⟩⟩) (ak (fun γ => ⟨rfl, fun w' h => ⟨129, #[.agg #[PT g 0], V [x (4 * k), x (4 * k + 1), x (4 * k + 2), x (4 * k + 3)]], exec_call rfl call129 rfl (mpn rfl), CY.out k hlt w' (h.one 13 rfl)⟩⟩) (ak (fun γ => ⟨rfl, fun w' _ => ex_idxE12 rfl rfl rfl (by omega)⟩) trivial)))))))))))
    intro _ w12 H12
    clear H11
    refine rest_at (l := [12]) rfl ?_
    refine rest_store rfl rfl rfl (ex_storeA (i := 2 * (2 * k)) (ms := [r (2 * (2 * k)), r (2 * (2 * k) + 1)]) H12.out.1 0 rfl rfl rfl rfl Tryz.sizeOf28 (mx12_bd zf r rfl (by omega))) ?_
    have H13 : Hid (Mm (w12.setCells γ6_0 (6 * (2 * (2 * k))) (cel [r (2 * (2 * k)), r (2 * (2 * k) + 1)])) [(γ6_0, cel (mx12 zf r (2 * (2 * k + 1)))), (γ5_8, cel [p 0, p 1, p 2, p 3, p 4, p 5, p 6, p 7, p 8, p 9, p 10, p 11]), (γ4_7, cel [q 0, q 1, q 2, q 3, q 4, q 5, q 6, q 7, q 8, q 9, q 10, q 11]), (γ3_6, cel [ee 0, ee 1, ee 2, ee 3, ee 4, ee 5, ee 6, ee 7, ee 8, ee 9, ee 10, ee 11]), (γ3_7, cel [oo 0, oo 1, oo 2, oo 3, oo 4, oo 5, oo 6, oo 7, oo 8, oo 9, oo 10, oo 11]), (γ2_8, cel [a 0, a 1, a 4, a 5, a 8, a 9]), (γ2_9, cel [a 2, a 3, a 6, a 7, a 10, a 11]), (γ2_10, cel [b 0, b 1, b 4, b 5, b 8, b 9]), (γ2_11, cel [b 2, b 3, b 6, b 7, b 10, b 11]), (γ1_0, [PT g 0]), (γ1_1, cel [a 0, a 1, a 2, a 3, a 4, a 5, a 6, a 7, a 8, a 9, a 10, a 11]), (γ1_2, cel [b 0, b 1, b 2, b 3, b 4, b 5, b 6, b 7, b 8, b 9, b 10, b 11]), (γ1_3, cel [0, 0, 0, 0, 0, 0, 0, 0, 0, 0, 0, 0]), (g, modx n o s)] ∧ Below w.heap.size w (w12.setCells γ6_0 (6 * (2 * (2 * k))) (cel [r (2 * (2 * k)), r (2 * (2 * k) + 1)]))) := ⟨by
      have h := H12.out.1.put 0 (off := 6 * (2 * (2 * k))) (vs := cel [r (2 * (2 * k)), r (2 * (2 * k) + 1)]) rfl (by rw [cel_len, cel_len]; exact cel_bd (mx12_bd zf r rfl (by omega)))
      rw [cel_patch, mx12_st zf r (by omega)] at h
      exact h, below_setCells _ o6_0.out _ _ _ H12.out.2⟩
    clear H12
    generalize hgw : World.setCells _ _ _ _ = w13 at H13 ⊢
    clear hgw
    refine rest_nil (then_normal ?_)
    refine walk_anyB 17 [.quiet (.int .i64 ((k : Nat) : Int)), .quiet (.int .i64 ((2 * k : Nat) : Int)), .quiet (.int .i64 ((2 * k + 1 : Nat) : Int)), .quiet (.agg #[PT g 0]), .quiet (.int .i64 ((k : Nat) : Int)), .quiet (PT γ4_7 (6 * (4 * k))), .quiet (V [q (4 * k), q (4 * k + 1), q (4 * k + 2), q (4 * k + 3)]), .quiet (.int .i64 ((k : Nat) : Int)), .quiet (PT γ3_6 (6 * (4 * k))), .quiet (V [ee (4 * k), ee (4 * k + 1), ee (4 * k + 2), ee (4 * k + 3)]), .call (V [v (4 * k), v (4 * k + 1), v (4 * k + 2), v (4 * k + 3)]), .quiet (.int .i64 ((k : Nat) : Int)), .quiet (PT γ3_7 (6 * (4 * k))), .quiet (V [oo (4 * k), oo (4 * k + 1), oo (4 * k + 2), oo (4 * k + 3)]), .call (V [z (4 * k), z (4 * k + 1), z (4 * k + 2), z (4 * k + 3)]), .call (V [r (2 * (2 * k + 1)), r (2 * (2 * k + 1) + 1)]), .quiet (PT γ6_0 (6 * (2 * (2 * k + 1))))] H13 ?ho11 ?he11
    case ho11 => exact ak (fun _ => ⟨rfl, fun _ _ => rfl⟩) (ak (by refine fun γ => ⟨rfl, fun w' h => ?_⟩; clear h; go_simp; rw [IntKind.wrap_i64]; omega) (ak (by refine fun γ => ⟨rfl, fun w' h => ?_⟩; clear h; go_simp; rw [IntKind.wrap_i64]; omega) (ak (fun γ => ⟨rfl, fun w' h => ex_loadF h 9 rfl rfl rfl rfl⟩) (ak (fun _ => ⟨rfl, fun _ _ => rfl⟩) (ak (fun γ => ⟨rfl, fun w' _ => ex_idxW3 rfl rfl rfl (by omega)⟩) (ak (fun γ => ⟨rfl, fun w' h => ex_loadA (i := 4 * k) (k := 4) h 2 rfl rfl rfl Tryz.isAgg151 Tryz.sizeOf151 (tl12_ld4 q hlt) rfl⟩) (ak (fun _ => ⟨rfl, fun _ _ => rfl⟩) (ak (fun γ => ⟨rfl, fun w' _ => ex_idxW3 rfl rfl rfl (by omega)⟩) (ak (fun γ => ⟨rfl, fun w' h => ex_loadA (i := 4 * k) (k := 4) h 3 rfl rfl rfl Tryz.isAgg151 Tryz.sizeOf151 (tl12_ld4 ee hlt) rfl⟩) (ak (fun γ => ⟨rfl, fun w' h => ⟨131, #[V [q (4 * k), q (4 * k + 1), q (4 * k + 2), q (4 * k + 3)], V [ee (4 * k), ee (4 * k + 1), ee (4 * k + 2), ee (4 * k + 3)]], exec_call rfl call131 rfl (mpn rfl), CV.out k hlt w'⟩⟩) (ak (fun _ => ⟨rfl, fun _ _ => rfl⟩) (ak (fun γ => ⟨rfl, fun w' _ => ex_idxW3 rfl rfl rfl (by omega)⟩) (ak (fun γ => ⟨rfl, fun w' h => ex_loadA (i := 4 * k) (k := 4) h 4 rfl rfl rfl Tryz.isAgg151 Tryz.sizeOf151 (tl12_ld4 oo hlt) rfl⟩) (ak (fun γ => ⟨rfl, fun w' h => ⟨131, #[V [v (4 * k), v (4 * k + 1), v (4 * k + 2), v (4 * k + 3)], V [oo (4 * k), oo (4 * k + 1), oo (4 * k + 2), oo (4 * k + 3)]], exec_call rfl call131 rfl (mpn rfl), CZ.out k hlt w'⟩⟩) (ak (fun γ => ⟨rfl, fun w' h => ⟨129, #[.agg #[PT g 0], V [z (4 * k), z (4 * k + 1), z (4 * k + 2), z (4 * k + 3)]], exec_call rfl call129 rfl (mpn rfl), CW.out k hlt w' (h.one 13 rfl)⟩⟩) (ak (fun γ => ⟨rfl, fun w' _ => ex_idxE12 rfl rfl rfl (by omega)⟩) trivial))))))))))))))))
    intro _ w14 H14
    clear H13
    refine rest_at (l := [17]) rfl ?_
    refine rest_store rfl rfl rfl (ex_storeA (i := 2 * (2 * k + 1)) (ms := [r (2 * (2 * k + 1)), r (2 * (2 * k + 1) + 1)]) H14.out.1 0 rfl rfl rfl rfl Tryz.sizeOf28 (mx12_bd zf r rfl (by omega))) ?_
    have H15 : Hid (Mm (w14.setCells γ6_0 (6 * (2 * (2 * k + 1))) (cel [r (2 * (2 * k + 1)), r (2 * (2 * k + 1) + 1)])) [(γ6_0, cel (mx12 zf r (2 * (2 * k + 1 + 1)))), (γ5_8, cel [p 0, p 1, p 2, p 3, p 4, p 5, p 6, p 7, p 8, p 9, p 10, p 11]), (γ4_7, cel [q 0, q 1, q 2, q 3, q 4, q 5, q 6, q 7, q 8, q 9, q 10, q 11]), (γ3_6, cel [ee 0, ee 1, ee 2, ee 3, ee 4, ee 5, ee 6, ee 7, ee 8, ee 9, ee 10, ee 11]), (γ3_7, cel [oo 0, oo 1, oo 2, oo 3, oo 4, oo 5, oo 6, oo 7, oo 8, oo 9, oo 10, oo 11]), (γ2_8, cel [a 0, a 1, a 4, a 5, a 8, a 9]), (γ2_9, cel [a 2, a 3, a 6, a 7, a 10, a 11]), (γ2_10, cel [b 0, b 1, b 4, b 5, b 8, b 9]), (γ2_11, cel [b 2, b 3, b 6, b 7, b 10, b 11]), (γ1_0, [PT g 0]), (γ1_1, cel [a 0, a 1, a 2, a 3, a 4, a 5, a 6, a 7, a 8, a 9, a 10, a 11]), (γ1_2, cel [b 0, b 1, b 2, b 3, b 4, b 5, b 6, b 7, b 8, b 9, b 10, b 11]), (γ1_3, cel [0, 0, 0, 0, 0, 0, 0, 0, 0, 0, 0, 0]), (g, modx n o s)] ∧ Below w.heap.size w (w14.setCells γ6_0 (6 * (2 * (2 * k + 1))) (cel [r (2 * (2 * k + 1)), r (2 * (2 * k + 1) + 1)]))) := ⟨by
      have h := H14.out.1.put 0 (off := 6 * (2 * (2 * k + 1))) (vs := cel [r (2 * (2 * k + 1)), r (2 * (2 * k + 1) + 1)]) rfl (by rw [cel_len, cel_len]; exact cel_bd (mx12_bd zf r rfl (by omega)))
      rw [cel_patch, mx12_st zf r (by omega)] at h
      exact h, below_setCells _ o6_0.out _ _ _ H14.out.2⟩
    clear H14
    generalize hgw : World.setCells _ _ _ _ = w15 at H15 ⊢
    clear hgw
    refine rest_nil (block_normal (then_normal ?_))
    refine walk_seqB 1 [.quiet (.int .i64 ((k + 1 : Nat) : Int))] H15 ?ho12 ?he12
    case ho12 => exact ak (by refine fun γ => ⟨rfl, fun w' h => ?_⟩; clear h; go_simp; rw [IntKind.wrap_i64]; omega) trivial
    intro _ w16 H16
    clear H15
    refine rest_at (l := [1]) rfl ?_
    refine rest_set (d := 46) rfl rfl rfl rfl ?_
    simp only [Act.put, sa, sz, ss]
    refine rest_nil (then_normal ?_)
    exact ⟨k + 1, ⟨(slotfn [undef, undef, undef, undef, undef, undef, undef, undef, undef, undef, undef, undef, undef, undef, undef, undef, .int .i64 ((k : Nat) : Int), undef, undef, undef, undef, undef, undef, undef, undef, undef, undef, undef, undef, undef, undef, undef, undef, undef, undef, undef, undef, undef, undef, undef, undef, undef, undef, undef, undef, undef, undef, .bool true, .int .i64 ((k : Nat) : Int), .int .i64 ((k : Nat) : Int), .int .i64 ((2 * k : Nat) : Int), .agg #[PT g 0], .int .i64 ((k : Nat) : Int), PT γ3_6 (6 * (4 * k)), V [ee (4 * k), ee (4 * k + 1), ee (4 * k + 2), ee (4 * k + 3)], .int .i64 ((k : Nat) : Int), PT γ5_8 (6 * (4 * k)), V [p (4 * k), p (4 * k + 1), p (4 * k + 2), p (4 * k + 3)], V [x (4 * k), x (4 * k + 1), x (4 * k + 2), x (4 * k + 3)], V [r (2 * (2 * k)), r (2 * (2 * k) + 1)], PT γ6_0 (6 * (2 * (2 * k))), .int .i64 ((k : Nat) : Int), .int .i64 ((2 * k : Nat) : Int), .int .i64 ((2 * k + 1 : Nat) : Int), .agg #[PT g 0], .int .i64 ((k : Nat) : Int), PT γ4_7 (6 * (4 * k)), V [q (4 * k), q (4 * k + 1), q (4 * k + 2), q (4 * k + 3)], .int .i64 ((k : Nat) : Int), PT γ3_6 (6 * (4 * k)), V [ee (4 * k), ee (4 * k + 1), ee (4 * k + 2), ee (4 * k + 3)], V [v (4 * k), v (4 * k + 1), v (4 * k + 2), v (4 * k + 3)], .int .i64 ((k : Nat) : Int), PT γ3_7 (6 * (4 * k)), V [oo (4 * k), oo (4 * k + 1), oo (4 * k + 2), oo (4 * k + 3)], V [z (4 * k), z (4 * k + 1), z (4 * k + 2), z (4 * k + 3)], V [r (2 * (2 * k + 1)), r (2 * (2 * k + 1) + 1)], PT γ6_0 (6 * (2 * (2 * k + 1))), .int .i64 ((k + 1 : Nat) : Int)]), rfl, ⟨(H16.out.1).atk (by rw [show 2 * k + 1 + 1 = 2 * (k + 1) by omega]), H16.out.2⟩, by omega⟩, by omega⟩
  have hkN : k = 3 := by omega
  subst hkN
  have H17 : Hid (Mm w9 [(γ6_0, cel [r 0, r 1, r 2, r 3, r 4, r 5, r 6, r 7, r 8, r 9, r 10, r 11]), (γ5_8, cel [p 0, p 1, p 2, p 3, p 4, p 5, p 6, p 7, p 8, p 9, p 10, p 11]), (γ4_7, cel [q 0, q 1, q 2, q 3, q 4, q 5, q 6, q 7, q 8, q 9, q 10, q 11]), (γ3_6, cel [ee 0, ee 1, ee 2, ee 3, ee 4, ee 5, ee 6, ee 7, ee 8, ee 9, ee 10, ee 11]), (γ3_7, cel [oo 0, oo 1, oo 2, oo 3, oo 4, oo 5, oo 6, oo 7, oo 8, oo 9, oo 10, oo 11]), (γ2_8, cel [a 0, a 1, a 4, a 5, a 8, a 9]), (γ2_9, cel [a 2, a 3, a 6, a 7, a 10, a 11]), (γ2_10, cel [b 0, b 1, b 4, b 5, b 8, b 9]), (γ2_11, cel [b 2, b 3, b 6, b 7, b 10, b 11]), (γ1_0, [PT g 0]), (γ1_1, cel [a 0, a 1, a 2, a 3, a 4, a 5, a 6, a 7, a 8, a 9, a 10, a 11]), (γ1_2, cel [b 0, b 1, b 2, b 3, b 4, b 5, b 6, b 7, b 8, b 9, b 10, b 11]), (γ1_3, cel [0, 0, 0, 0, 0, 0, 0, 0, 0, 0, 0, 0]), (g, modx n o s)] ∧ Below w.heap.size w w9) := ⟨H9.out.1.atk (by rw [zf_e r]), H9.out.2⟩
  clear H9
  refine wp_seq ?_
  refine walk_seqB 1 [.quiet (.bool false)] H17 ?ho13 ?he13
  case ho13 => exact ak (by refine fun γ => ⟨rfl, fun w' h => ?_⟩; clear h; go_simp <;> omega) trivial
  intro _ w18 H18
  clear H17
  refine rest0 rfl (then_normal (wp_seq (wp_cond_false rfl ?_)))
  refine wp_exit ?_
  repeat refine then_exit ?_
  refine block_exit ?_
  refine then_normal (wp_seq ?_)
  refine walk_seqB 1 [.quiet (V [r 0, r 1, r 2, r 3, r 4, r 5, r 6, r 7, r 8, r 9, r 10, r 11])] H18 ?ho14 ?he14
  case ho14 => exact ak (fun γ => ⟨rfl, fun w' h => ex_loadA (i := 0) (k := 12) h 0 rfl rfl rfl Tryz.isAgg32 Tryz.sizeOf32 rfl rfl⟩) trivial
  intro _ w19 H19
  clear H18
  refine rest_at (l := [1]) rfl ?_
  refine rest_store rfl rfl rfl (ex_storeA (i := 0) (ms := [r 0, r 1, r 2, r 3, r 4, r 5, r 6, r 7, r 8, r 9, r 10, r 11]) H19.out.1 12 rfl rfl rfl rfl Tryz.sizeOf32 (Nat.le_of_ble_eq_true rfl)) ?_
  have H20 : Hid (Mm (w19.setCells γ1_3 (6 * 0) (cel [r 0, r 1, r 2, r 3, r 4, r 5, r 6, r 7, r 8, r 9, r 10, r 11])) [(γ6_0, cel [r 0, r 1, r 2, r 3, r 4, r 5, r 6, r 7, r 8, r 9, r 10, r 11]), (γ5_8, cel [p 0, p 1, p 2, p 3, p 4, p 5, p 6, p 7, p 8, p 9, p 10, p 11]), (γ4_7, cel [q 0, q 1, q 2, q 3, q 4, q 5, q 6, q 7, q 8, q 9, q 10, q 11]), (γ3_6, cel [ee 0, ee 1, ee 2, ee 3, ee 4, ee 5, ee 6, ee 7, ee 8, ee 9, ee 10, ee 11]), (γ3_7, cel [oo 0, oo 1, oo 2, oo 3, oo 4, oo 5, oo 6, oo 7, oo 8, oo 9, oo 10, oo 11]), (γ2_8, cel [a 0, a 1, a 4, a 5, a 8, a 9]), (γ2_9, cel [a 2, a 3, a 6, a 7, a 10, a 11]), (γ2_10, cel [b 0, b 1, b 4, b 5, b 8, b 9]), (γ2_11, cel [b 2, b 3, b 6, b 7, b 10, b 11]), (γ1_0, [PT g 0]), (γ1_1, cel [a 0, a 1, a 2, a 3, a 4, a 5, a 6, a 7, a 8, a 9, a 10, a 11]), (γ1_2, cel [b 0, b 1, b 2, b 3, b 4, b 5, b 6, b 7, b 8, b 9, b 10, b 11]), (γ1_3, cel [r 0, r 1, r 2, r 3, r 4, r 5, r 6, r 7, r 8, r 9, r 10, r 11]), (g, modx n o s)] ∧ Below w.heap.size w (w19.setCells γ1_3 (6 * 0) (cel [r 0, r 1, r 2, r 3, r 4, r 5, r 6, r 7, r 8, r 9, r 10, r 11]))) := ⟨by
    have h := H19.out.1.put 12 (off := 6 * 0) (vs := cel [r 0, r 1, r 2, r 3, r 4, r 5, r 6, r 7, r 8, r 9, r 10, r 11]) rfl (by simp only [cel_len]; exact Nat.le_of_ble_eq_true rfl)
    rw [cel_patch] at h
    exact h, below_setCells _ o1_3.out _ _ _ H19.out.2⟩
  clear H19
  generalize hgw : World.setCells _ _ _ _ = w20 at H20 ⊢
  clear hgw
  refine rest_nil (then_normal (wp_ret ?_))
  repeat (first | refine then_ret ?_ | refine block_ret ?_)
  have hf0 := cel_var (k := 12) H20.out.1 12 rfl Tryz.isAgg32 Tryz.sizeOf32 rfl
  refine bodyPost_ret (v := V [r 0, r 1, r 2, r 3, r 4, r 5, r 6, r 7, r 8, r 9, r 10, r 11]) (by simp [results, Tryz.results62, asAddr, hf0]) rfl ?_
  exact ⟨rfl, H20.out.2⟩
set_option maxHeartbeats 4000000 in
set_option maxRecDepth 100000 in
theorem mulT12_gen (a b m q r : Nat → Nat) (n : Nat)
    (c0 : ∀ w, Calls Tryz.prog 61 #[] w fun e w' => Below w.heap.size w w' ∧ ∃ g, e = .returned (.agg #[PT g 0]) ∧ w.heap.size ≤ g ∧ g < w'.heap.size ∧ Blk w' g (modc n))
    (c1 : ∀ w, Calls Tryz.prog 63 #[V [a 0, a 1, a 2, a 3, a 4, a 5, a 6, a 7, a 8, a 9, a 10, a 11]] w fun e w' => e = .returned (V [m 0, m 1, m 2, m 3, m 4, m 5, m 6, m 7, m 8, m 9, m 10, m 11]) ∧ Below w.heap.size w w')
    (c2 : ∀ w, Calls Tryz.prog 63 #[V [b 0, b 1, b 2, b 3, b 4, b 5, b 6, b 7, b 8, b 9, b 10, b 11]] w fun e w' => e = .returned (V [q 0, q 1, q 2, q 3, q 4, q 5, q 6, q 7, q 8, q 9, q 10, q 11]) ∧ Below w.heap.size w w')
    (c3 : ∀ g w, Mm w [(g, modc n)] → Calls Tryz.prog 62 #[.agg #[PT g 0], V [m 0, m 1, m 2, m 3, m 4, m 5, m 6, m 7, m 8, m 9, m 10, m 11], V [q 0, q 1, q 2, q 3, q 4, q 5, q 6, q 7, q 8, q 9, q 10, q 11]] w fun e w' => e = .returned (V [r 0, r 1, r 2, r 3, r 4, r 5, r 6, r 7, r 8, r 9, r 10, r 11]) ∧ Below w.heap.size w w') (w : World) :
    Calls Tryz.prog 22 #[V [a 0, a 1, a 2, a 3, a 4, a 5, a 6, a 7, a 8, a 9, a 10, a 11], V [b 0, b 1, b 2, b 3, b 4, b 5, b 6, b 7, b 8, b 9, b 10, b 11]] w fun e w' => e = .returned (V [r 0, r 1, r 2, r 3, r 4, r 5, r 6, r 7, r 8, r 9, r 10, r 11]) ∧ Below w.heap.size w w' := by
  have H0 : Hid (_ ∧ _) := ⟨Mm.nil w, Below.refl w.heap.size w⟩
  have C0 : Hid _ := c0
  have C1 : Hid _ := c1
  have C2 : Hid _ := c2
  have C3 : Hid _ := c3
  clear c0 c1 c2 c3
  go_enter Tryz.func22, Tryz.ntmps22
  refine wp_seq ?_
  refine walk_seqA 3 [.made (cel [a 0, a 1, a 2, a 3, a 4, a 5, a 6, a 7, a 8, a 9, a 10, a 11]) 32, .made (cel [b 0, b 1, b 2, b 3, b 4, b 5, b 6, b 7, b 8, b 9, b 10, b 11]) 32, .made (cel [0, 0, 0, 0, 0, 0, 0, 0, 0, 0, 0, 0]) 32] (sB H0) ?ho1 ?he1
  case ho1 => exact ak (fun γ => ⟨rfl, fun w' => ex_boxA rfl rfl⟩) (ak (fun γ => ⟨rfl, fun w' => ex_boxA rfl rfl⟩) (ak (fun γ => ⟨rfl, fun w' => ex_madeE12 rfl⟩) trivial))
  intro γ w1 l hM hl
  have H1 : Hid (Mm w1 [(γ 0, cel [a 0, a 1, a 2, a 3, a 4, a 5, a 6, a 7, a 8, a 9, a 10, a 11]), (γ 1, cel [b 0, b 1, b 2, b 3, b 4, b 5, b 6, b 7, b 8, b 9, b 10, b 11]), (γ 2, cel [0, 0, 0, 0, 0, 0, 0, 0, 0, 0, 0, 0])] ∧ _) := growB H0 hM (Nat.le_refl _) hl [0, 1, 2] rfl (by decide)
  have o1_0 := ownB H0 hM (Nat.le_refl _) hl (i := 0) rfl
  have o1_1 := ownB H0 hM (Nat.le_refl _) hl (i := 1) rfl
  have o1_2 := ownB H0 hM (Nat.le_refl _) hl (i := 2) rfl
  clear hM hl l
  generalize γ 0 = γ1_0 at H1 o1_0 ⊢
  generalize γ 1 = γ1_1 at H1 o1_1 ⊢
  generalize γ 2 = γ1_2 at H1 o1_2 ⊢
  clear γ
  refine rest0 rfl (then_normal (wp_seq ?_))
  refine walk_anyA 6 [.born (fun g => .agg #[PT g 0]) (modc n), .quiet (V [a 0, a 1, a 2, a 3, a 4, a 5, a 6, a 7, a 8, a 9, a 10, a 11]), .call (V [m 0, m 1, m 2, m 3, m 4, m 5, m 6, m 7, m 8, m 9, m 10, m 11]), .quiet (V [b 0, b 1, b 2, b 3, b 4, b 5, b 6, b 7, b 8, b 9, b 10, b 11]), .call (V [q 0, q 1, q 2, q 3, q 4, q 5, q 6, q 7, q 8, q 9, q 10, q 11]), .over (V [r 0, r 1, r 2, r 3, r 4, r 5, r 6, r 7, r 8, r 9, r 10, r 11]) 0 (modc n)] (sB H1) ?ho2 ?he2 (hL := ?hL2)
  case hL2 => exact ⟨⟨_, rfl⟩, trivial⟩
  case ho2 => exact ak (fun γ => ⟨rfl, fun w' h => ⟨61, #[], exec_call rfl call61 rfl (mpn rfl), C0.out w'⟩⟩) (ak (fun γ => ⟨rfl, fun w' h => ex_loadA (i := 0) (k := 12) h 0 rfl rfl rfl Tryz.isAgg32 Tryz.sizeOf32 rfl rfl⟩) (ak (fun γ => ⟨rfl, fun w' h => ⟨63, #[V [a 0, a 1, a 2, a 3, a 4, a 5, a 6, a 7, a 8, a 9, a 10, a 11]], exec_call rfl call63 rfl (mpn rfl), C1.out w'⟩⟩) (ak (fun γ => ⟨rfl, fun w' h => ex_loadA (i := 0) (k := 12) h 1 rfl rfl rfl Tryz.isAgg32 Tryz.sizeOf32 rfl rfl⟩) (ak (fun γ => ⟨rfl, fun w' h => ⟨63, #[V [b 0, b 1, b 2, b 3, b 4, b 5, b 6, b 7, b 8, b 9, b 10, b 11]], exec_call rfl call63 rfl (mpn rfl), C2.out w'⟩⟩) (ak (fun γ => ⟨rfl, fun u w' h0 hge h1 hb hlt => by have h := Mm.over h0 hge h1 hb hlt; exact ⟨62, #[.agg #[PT (γ 0) 0], V [m 0, m 1, m 2, m 3, m 4, m 5, m 6, m 7, m 8, m 9, m 10, m 11], V [q 0, q 1, q 2, q 3, q 4, q 5, q 6, q 7, q 8, q 9, q 10, q 11]], exec_call rfl call62 rfl (mpn rfl), C3.out _ w' (h.one 0 rfl)⟩⟩) trivial)))))
  intro γ w2 l hM hl
  have H2 : Hid (Mm w2 [(γ 0, modc n), (γ1_0, cel [a 0, a 1, a 2, a 3, a 4, a 5, a 6, a 7, a 8, a 9, a 10, a 11]), (γ1_1, cel [b 0, b 1, b 2, b 3, b 4, b 5, b 6, b 7, b 8, b 9, b 10, b 11]), (γ1_2, cel [0, 0, 0, 0, 0, 0, 0, 0, 0, 0, 0, 0])] ∧ _) := growB H1 hM (Nat.le_refl _) hl [0] rfl (by decide)
  have o2_0 := ownB H1 hM (Nat.le_refl _) hl (i := 0) rfl
  clear hM hl l H1
  generalize γ 0 = γ2_0 at H2 o2_0 ⊢
  clear γ
  refine rest_at (l := [6]) rfl ?_
  refine rest_store rfl rfl rfl (ex_storeA (i := 0) (ms := [r 0, r 1, r 2, r 3, r 4, r 5, r 6, r 7, r 8, r 9, r 10, r 11]) H2.out.1 3 rfl rfl rfl rfl Tryz.sizeOf32 (Nat.le_of_ble_eq_true rfl)) ?_
  have H3 : Hid (Mm (w2.setCells γ1_2 (6 * 0) (cel [r 0, r 1, r 2, r 3, r 4, r 5, r 6, r 7, r 8, r 9, r 10, r 11])) [(γ2_0, modc n), (γ1_0, cel [a 0, a 1, a 2, a 3, a 4, a 5, a 6, a 7, a 8, a 9, a 10, a 11]), (γ1_1, cel [b 0, b 1, b 2, b 3, b 4, b 5, b 6, b 7, b 8, b 9, b 10, b 11]), (γ1_2, cel [r 0, r 1, r 2, r 3, r 4, r 5, r 6, r 7, r 8, r 9, r 10, r 11])] ∧ Below w.heap.size w (w2.setCells γ1_2 (6 * 0) (cel [r 0, r 1, r 2, r 3, r 4, r 5, r 6, r 7, r 8, r 9, r 10, r 11]))) := ⟨by
    have h := H2.out.1.put 3 (off := 6 * 0) (vs := cel [r 0, r 1, r 2, r 3, r 4, r 5, r 6, r 7, r 8, r 9, r 10, r 11]) rfl (by simp only [cel_len]; exact Nat.le_of_ble_eq_true rfl)
    rw [cel_patch] at h
    exact h, below_setCells _ o1_2.out _ _ _ H2.out.2⟩
  clear H2
  generalize hgw : World.setCells _ _ _ _ = w3 at H3 ⊢
  clear hgw
  refine rest_nil (then_normal (wp_ret ?_))
  repeat (first | refine then_ret ?_ | refine block_ret ?_)
  have hf0 := cel_var (k := 12) H3.out.1 3 rfl Tryz.isAgg32 Tryz.sizeOf32 rfl
  refine bodyPost_ret (v := V [r 0, r 1, r 2, r 3, r 4, r 5, r 6, r 7, r 8, r 9, r 10, r 11]) (by simp [results, Tryz.results22, asAddr, hf0]) rfl ?_
  exact ⟨rfl, H3.out.2⟩
end Rg
end Go.Proofs.YtdbejmgomajjmaaGreatDoor
end
section
namespace Go.Proofs.YtdbejmgomajjmaaGreatDoor
open Go.RowKit
namespace Rg
set_option maxHeartbeats 4000000 in
set_option maxRecDepth 100000 in
theorem powT_gen (n ee L k1 : Nat) (hl : L ≤ 384) (a m : Nat → Nat) (P Q : Nat → Nat → Nat) (bv : Nat → Int)
    (fl : [k1, 0, 0, 0, 0, 0, 0, 0, 0, 0, 0, 0] = [P L 0, P L 1, P L 2, P L 3, P L 4, P L 5, P L 6, P L 7, P L 8, P L 9, P L 10, P L 11])
    (hbv : ∀ k, bv k = 1 ∨ bv k = 0)
    (fq : ∀ k, bv k = 0 → [Q k 0, Q k 1, Q k 2, Q k 3, Q k 4, Q k 5, Q k 6, Q k 7, Q k 8, Q k 9, Q k 10, Q k 11] = [P k 0, P k 1, P k 2, P k 3, P k 4, P k 5, P k 6, P k 7, P k 8, P k 9, P k 10, P k 11])
    (cg : ∀ w, Calls Tryz.prog 61 #[] w fun e w' => Below w.heap.size w w' ∧ ∃ g, e = .returned (.agg #[PT g 0]) ∧ w.heap.size ≤ g ∧ g < w'.heap.size ∧ Blk w' g (modc n))
    (ca : ∀ w, Calls Tryz.prog 63 #[V [a 0, a 1, a 2, a 3, a 4, a 5, a 6, a 7, a 8, a 9, a 10, a 11]] w fun e w' => e = .returned (V [m 0, m 1, m 2, m 3, m 4, m 5, m 6, m 7, m 8, m 9, m 10, m 11]) ∧ Below w.heap.size w w')
    (co : ∀ w, Calls Tryz.prog 32 #[] w fun e w' => e = .returned (V [k1, 0, 0, 0, 0, 0, 0, 0, 0, 0, 0, 0]) ∧ Below w.heap.size w w')
    (cl : ∀ w, Calls Tryz.prog 67 #[N ee] w fun e w' => e = .returned (.int .i64 ((L : Nat) : Int)) ∧ Below w.heap.size w w')
    (cs : ∀ k g w, Mm w [(g, modc n)] → Calls Tryz.prog 62 #[.agg #[PT g 0], V [P (k + 1) 0, P (k + 1) 1, P (k + 1) 2, P (k + 1) 3, P (k + 1) 4, P (k + 1) 5, P (k + 1) 6, P (k + 1) 7, P (k + 1) 8, P (k + 1) 9, P (k + 1) 10, P (k + 1) 11], V [P (k + 1) 0, P (k + 1) 1, P (k + 1) 2, P (k + 1) 3, P (k + 1) 4, P (k + 1) 5, P (k + 1) 6, P (k + 1) 7, P (k + 1) 8, P (k + 1) 9, P (k + 1) 10, P (k + 1) 11]] w fun e w' => e = .returned (V [Q k 0, Q k 1, Q k 2, Q k 3, Q k 4, Q k 5, Q k 6, Q k 7, Q k 8, Q k 9, Q k 10, Q k 11]) ∧ Below w.heap.size w w')
    (ci : ∀ k w, k + 1 ≤ 384 → Calls Tryz.prog 68 #[N ee, .int .i64 (((k + 1 : Nat) : Int) - 1)] w fun e w' => e = .returned (.int .i64 (bv k)) ∧ Below w.heap.size w w')
    (cu : ∀ k, bv k = 1 → ∀ g w, Mm w [(g, modc n)] → Calls Tryz.prog 62 #[.agg #[PT g 0], V [Q k 0, Q k 1, Q k 2, Q k 3, Q k 4, Q k 5, Q k 6, Q k 7, Q k 8, Q k 9, Q k 10, Q k 11], V [m 0, m 1, m 2, m 3, m 4, m 5, m 6, m 7, m 8, m 9, m 10, m 11]] w fun e w' => e = .returned (V [P k 0, P k 1, P k 2, P k 3, P k 4, P k 5, P k 6, P k 7, P k 8, P k 9, P k 10, P k 11]) ∧ Below w.heap.size w w') (w : World) :
    Calls Tryz.prog 27 #[V [a 0, a 1, a 2, a 3, a 4, a 5, a 6, a 7, a 8, a 9, a 10, a 11], N ee] w fun e w' => e = .returned (V [P 0 0, P 0 1, P 0 2, P 0 3, P 0 4, P 0 5, P 0 6, P 0 7, P 0 8, P 0 9, P 0 10, P 0 11]) ∧ Below w.heap.size w w' := by
  have H0 : Hid (_ ∧ _) := ⟨Mm.nil w, Below.refl w.heap.size w⟩
  have FL : Hid _ := fl
  have HB : Hid _ := hbv
  have FQ : Hid _ := fq
  have CG : Hid _ := cg
  have CA : Hid _ := ca
  have CO : Hid _ := co
  have CL : Hid _ := cl
  have CS : Hid _ := cs
  have CI : Hid _ := ci
  have CM : Hid _ := cu
  clear fl hbv fq cg ca co cl cs ci cu
  go_enter Tryz.func27, Tryz.ntmps27
  refine wp_seq ?_
  refine walk_seqA 3 [.made (cel [a 0, a 1, a 2, a 3, a 4, a 5, a 6, a 7, a 8, a 9, a 10, a 11]) 32, .made (cells6 ee) 24, .made (cel [0, 0, 0, 0, 0, 0, 0, 0, 0, 0, 0, 0]) 32] (sB H0) ?ho1 ?he1
  case ho1 => exact ak (fun γ => ⟨rfl, fun w' => ex_boxA rfl rfl⟩) (ak (fun γ => ⟨rfl, fun w' => ex_box6 rfl rfl⟩) (ak (fun γ => ⟨rfl, fun w' => ex_madeE12 rfl⟩) trivial))
  intro γ w1 l hM hl
  have H1 : Hid (Mm w1 [(γ 0, cel [a 0, a 1, a 2, a 3, a 4, a 5, a 6, a 7, a 8, a 9, a 10, a 11]), (γ 1, cells6 ee), (γ 2, cel [0, 0, 0, 0, 0, 0, 0, 0, 0, 0, 0, 0])] ∧ _) := growB H0 hM (Nat.le_refl _) hl [0, 1, 2] rfl (by decide)
  have o1_0 := ownB H0 hM (Nat.le_refl _) hl (i := 0) rfl
  have o1_1 := ownB H0 hM (Nat.le_refl _) hl (i := 1) rfl
  have o1_2 := ownB H0 hM (Nat.le_refl _) hl (i := 2) rfl
  clear hM hl l
  generalize γ 0 = γ1_0 at H1 o1_0 ⊢
  generalize γ 1 = γ1_1 at H1 o1_1 ⊢
  generalize γ 2 = γ1_2 at H1 o1_2 ⊢
  clear γ
  refine rest0 rfl (then_normal (wp_seq ?_))
  refine walk_put (by kernel_rfl) 6 [] [.born (fun g => .agg #[PT g 0]) (modc n), .quiet (V [a 0, a 1, a 2, a 3, a 4, a 5, a 6, a 7, a 8, a 9, a 10, a 11]), .call (V [m 0, m 1, m 2, m 3, m 4, m 5, m 6, m 7, m 8, m 9, m 10, m 11]), .call (V [k1, 0, 0, 0, 0, 0, 0, 0, 0, 0, 0, 0]), .made [.pointer none] 100, .made (cel [0, 0, 0, 0, 0, 0, 0, 0, 0, 0, 0, 0]) 32] _ ?pre2 ?F2 _ ?hpre2 (fun γ => ?hF2) (by kernel_rfl) rfl trivial (sB H1) ?ho2 ?hla2 ?he2
  case hpre2 => simp only [tk, tz]; rfl
  case hF2 => simp only [fill, Kind.val, Act.put, sa, sz, ss]; rfl
  case ho2 =>
    refine ak (fun γ => ⟨rfl, fun w' h => ⟨61, #[], exec_call rfl call61 rfl (mpn rfl), CG.out w'⟩⟩) ?_
    refine ak (fun γ => ⟨rfl, fun w' h => ex_loadA (i := 0) (k := 12) h 0 rfl rfl rfl Tryz.isAgg32 Tryz.sizeOf32 rfl rfl⟩) ?_
    refine ak (fun γ => ⟨rfl, fun w' h => ⟨63, #[V [a 0, a 1, a 2, a 3, a 4, a 5, a 6, a 7, a 8, a 9, a 10, a 11]], exec_call rfl call63 rfl (mpn rfl), CA.out w'⟩⟩) ?_
    refine ak (fun γ => ⟨rfl, fun w' h => ⟨32, #[], exec_call rfl call32 rfl (mpn rfl), CO.out w'⟩⟩) ?_
    refine ak (fun γ => ⟨rfl, fun w' => ex_madeF rfl⟩) ?_
    refine ak (fun γ => ⟨rfl, fun w' => ex_madeE12 rfl⟩) ?_
    exact trivial
  case hla2 => exact trivial
  intro γ w2 l hM hl
  have H2 : Hid (Mm w2 [(γ 0, modc n), (γ 4, [.pointer none]), (γ 5, cel [0, 0, 0, 0, 0, 0, 0, 0, 0, 0, 0, 0]), (γ1_0, cel [a 0, a 1, a 2, a 3, a 4, a 5, a 6, a 7, a 8, a 9, a 10, a 11]), (γ1_1, cells6 ee), (γ1_2, cel [0, 0, 0, 0, 0, 0, 0, 0, 0, 0, 0, 0])] ∧ _) := growB H1 hM (Nat.le_refl _) hl [0, 4, 5] rfl (by decide)
  have o2_0 := ownB H1 hM (Nat.le_refl _) hl (i := 0) rfl
  have o2_4 := ownB H1 hM (Nat.le_refl _) hl (i := 4) rfl
  have o2_5 := ownB H1 hM (Nat.le_refl _) hl (i := 5) rfl
  clear hM hl l H1
  generalize γ 0 = γ2_0 at H2 o2_0 ⊢
  generalize γ 4 = γ2_4 at H2 o2_4 ⊢
  generalize γ 5 = γ2_5 at H2 o2_5 ⊢
  clear γ
  refine ⟨_, ex_storeF H2.out.1 1 rfl rfl rfl rfl (Nat.le_of_ble_eq_true rfl), ?_⟩
  have H3 : Hid (Mm (w2.setCells γ2_4 0 [PT γ2_0 0]) [(γ2_0, modc n), (γ2_4, [PT γ2_0 0]), (γ2_5, cel [0, 0, 0, 0, 0, 0, 0, 0, 0, 0, 0, 0]), (γ1_0, cel [a 0, a 1, a 2, a 3, a 4, a 5, a 6, a 7, a 8, a 9, a 10, a 11]), (γ1_1, cells6 ee), (γ1_2, cel [0, 0, 0, 0, 0, 0, 0, 0, 0, 0, 0, 0])] ∧ Below w.heap.size w (w2.setCells γ2_4 0 [PT γ2_0 0])) := ⟨H2.out.1.put 1 (off := 0) (vs := [PT γ2_0 0]) rfl (Nat.le_of_ble_eq_true rfl), below_setCells _ o2_4.out _ _ _ H2.out.2⟩
  clear H2
  generalize hgw : World.setCells _ _ _ _ = w3 at H3 ⊢
  clear hgw
  refine rest_at (l := [7, 8]) rfl ?_
  refine rest_store rfl rfl rfl (ex_storeA (i := 0) (ms := [m 0, m 1, m 2, m 3, m 4, m 5, m 6, m 7, m 8, m 9, m 10, m 11]) H3.out.1 3 rfl rfl rfl rfl Tryz.sizeOf32 (Nat.le_of_ble_eq_true rfl)) ?_
  have H4 : Hid (Mm (w3.setCells γ1_0 (6 * 0) (cel [m 0, m 1, m 2, m 3, m 4, m 5, m 6, m 7, m 8, m 9, m 10, m 11])) [(γ2_0, modc n), (γ2_4, [PT γ2_0 0]), (γ2_5, cel [0, 0, 0, 0, 0, 0, 0, 0, 0, 0, 0, 0]), (γ1_0, cel [m 0, m 1, m 2, m 3, m 4, m 5, m 6, m 7, m 8, m 9, m 10, m 11]), (γ1_1, cells6 ee), (γ1_2, cel [0, 0, 0, 0, 0, 0, 0, 0, 0, 0, 0, 0])] ∧ Below w.heap.size w (w3.setCells γ1_0 (6 * 0) (cel [m 0, m 1, m 2, m 3, m 4, m 5, m 6, m 7, m 8, m 9, m 10, m 11]))) := ⟨by
    have h := H3.out.1.put 3 (off := 6 * 0) (vs := cel [m 0, m 1, m 2, m 3, m 4, m 5, m 6, m 7, m 8, m 9, m 10, m 11]) rfl (by simp only [cel_len]; exact Nat.le_of_ble_eq_true rfl)
    rw [cel_patch] at h
    exact h, below_setCells _ o1_0.out _ _ _ H3.out.2⟩
  clear H3
  generalize hgw : World.setCells _ _ _ _ = w4 at H4 ⊢
  clear hgw
  refine rest_store rfl rfl rfl (ex_storeA (i := 0) (ms := [k1, 0, 0, 0, 0, 0, 0, 0, 0, 0, 0, 0]) H4.out.1 2 rfl rfl rfl rfl Tryz.sizeOf32 (Nat.le_of_ble_eq_true rfl)) ?_
  have H5 : Hid (Mm (w4.setCells γ2_5 (6 * 0) (cel [k1, 0, 0, 0, 0, 0, 0, 0, 0, 0, 0, 0])) [(γ2_0, modc n), (γ2_4, [PT γ2_0 0]), (γ2_5, cel [k1, 0, 0, 0, 0, 0, 0, 0, 0, 0, 0, 0]), (γ1_0, cel [m 0, m 1, m 2, m 3, m 4, m 5, m 6, m 7, m 8, m 9, m 10, m 11]), (γ1_1, cells6 ee), (γ1_2, cel [0, 0, 0, 0, 0, 0, 0, 0, 0, 0, 0, 0])] ∧ Below w.heap.size w (w4.setCells γ2_5 (6 * 0) (cel [k1, 0, 0, 0, 0, 0, 0, 0, 0, 0, 0, 0]))) := ⟨by
    have h := H4.out.1.put 2 (off := 6 * 0) (vs := cel [k1, 0, 0, 0, 0, 0, 0, 0, 0, 0, 0, 0]) rfl (by simp only [cel_len]; exact Nat.le_of_ble_eq_true rfl)
    rw [cel_patch] at h
    exact h, below_setCells _ o2_5.out _ _ _ H4.out.2⟩
  clear H4
  generalize hgw : World.setCells _ _ _ _ = w5 at H5 ⊢
  clear hgw
  refine rest_nil (then_normal ?_)
  refine wp_seq (wp_seq ?_)
  refine walk_seqB 4 [.quiet (N ee), .call (.int .i64 ((L : Nat) : Int)), .quiet (.int .i64 (((L : Nat) : Int) - 1)), .quiet (.int .i64 (((L : Nat) : Int) - 1))] H5 ?ho3 ?he3
  case ho3 => exact ak (fun γ => ⟨rfl, fun w' h => ex_load6 h 4 rfl rfl rfl rfl⟩) (ak (fun γ => ⟨rfl, fun w' h => ⟨67, #[N ee], exec_call rfl call67 rfl (mpn rfl), CL.out w'⟩⟩) (ak (by refine fun γ => ⟨rfl, fun w' h => ?_⟩; clear h; go_simp; rw [IntKind.wrap_i64]; omega) (ak (fun _ => ⟨rfl, fun _ _ => rfl⟩) trivial)))
  intro _ w6 H6
  clear H5
  refine rest0 rfl (then_normal (wp_block ?_))
  refine loop_ghost (α := Nat) (fun k a' w' => ∃ s0 : Nat → Value, a' = ⟨#[V [a 0, a 1, a 2, a 3, a 4, a 5, a 6, a 7, a 8, a 9, a 10, a 11], N ee, PT γ1_0 0, PT γ1_1 0, PT γ1_2 0, PT γ2_4 0, PT γ2_5 0, .int .i64 (((k : Nat) : Int) - 1), .agg #[PT γ2_0 0], V [a 0, a 1, a 2, a 3, a 4, a 5, a 6, a 7, a 8, a 9, a 10, a 11], V [m 0, m 1, m 2, m 3, m 4, m 5, m 6, m 7, m 8, m 9, m 10, m 11], V [k1, 0, 0, 0, 0, 0, 0, 0, 0, 0, 0, 0], N ee, .int .i64 ((L : Nat) : Int), .int .i64 (((L : Nat) : Int) - 1), s0 15, s0 16, s0 17, s0 18, s0 19, s0 20, s0 21, s0 22, s0 23, s0 24, s0 25, s0 26, s0 27, s0 28, s0 29, s0 30, undef], []⟩ ∧ (Mm w' [(γ2_0, modc n), (γ2_4, [PT γ2_0 0]), (γ2_5, cel [P k 0, P k 1, P k 2, P k 3, P k 4, P k 5, P k 6, P k 7, P k 8, P k 9, P k 10, P k 11]), (γ1_0, cel [m 0, m 1, m 2, m 3, m 4, m 5, m 6, m 7, m 8, m 9, m 10, m 11]), (γ1_1, cells6 ee), (γ1_2, cel [0, 0, 0, 0, 0, 0, 0, 0, 0, 0, 0, 0])] ∧ Below w.heap.size w w') ∧ k ≤ L) (fun k => k) L ?st0 ?rd0
  case st0 => exact ⟨(slotfn [undef, undef, undef, undef, undef, undef, undef, undef, undef, undef, undef, undef, undef, undef, undef, undef, undef, undef, undef, undef, undef, undef, undef, undef, undef, undef, undef, undef, undef, undef, undef]), rfl, ⟨H6.out.1.atk (by rw [FL.out]), H6.out.2⟩, by omega⟩
  intro k a' w7 hI
  obtain ⟨s0, rfl, hMB, hk0⟩ := hI
  have H7 : Hid (_ ∧ _) := hMB
  clear hMB H6
  by_cases hlt : 1 ≤ k
  · have hrd : True := trivial
    clear hrd
    obtain ⟨j, rfl⟩ : ∃ j, k = j + 1 := ⟨k - 1, by omega⟩
    by_cases hb : bv j = 1
    · have hrd : True := trivial
      clear hrd
      have hb' : bv j = 1 := hb
      refine wp_seq (wp_seq ?_)
      refine walk_seqB 2 [.quiet (.int .i64 (((j + 1 : Nat) : Int) - 1)), .quiet (.bool true)] H7 ?ho4 ?he4
      case ho4 => exact ak (fun _ => ⟨rfl, fun _ _ => rfl⟩) (ak (by refine fun γ => ⟨rfl, fun w' h => ?_⟩; clear h; go_simp <;> omega) trivial)
      intro _ w8 H8
      clear H7
      refine rest0 rfl (then_normal (wp_cond_true rfl ?_))
      refine wp_skip (then_normal ?_)
      refine wp_seq (wp_block (wp_seq ?_))
      refine walk_seqB 4 [.quiet (.agg #[PT γ2_0 0]), .quiet (V [P (j + 1) 0, P (j + 1) 1, P (j + 1) 2, P (j + 1) 3, P (j + 1) 4, P (j + 1) 5, P (j + 1) 6, P (j + 1) 7, P (j + 1) 8, P (j + 1) 9, P (j + 1) 10, P (j + 1) 11]), .quiet (V [P (j + 1) 0, P (j + 1) 1, P (j + 1) 2, P (j + 1) 3, P (j + 1) 4, P (j + 1) 5, P (j + 1) 6, P (j + 1) 7, P (j + 1) 8, P (j + 1) 9, P (j + 1) 10, P (j + 1) 11]), .call (V [Q j 0, Q j 1, Q j 2, Q j 3, Q j 4, Q j 5, Q j 6, Q j 7, Q j 8, Q j 9, Q j 10, Q j 11])] H8 ?ho5 ?he5
      case ho5 => exact ak (fun γ => ⟨rfl, fun w' h => ex_loadF h 1 rfl rfl rfl rfl⟩) (ak (fun γ => ⟨rfl, fun w' h => ex_loadA (i := 0) (k := 12) h 2 rfl rfl rfl Tryz.isAgg32 Tryz.sizeOf32 rfl rfl⟩) (ak (fun γ => ⟨rfl, fun w' h => ex_loadA (i := 0) (k := 12) h 2 rfl rfl rfl Tryz.isAgg32 Tryz.sizeOf32 rfl rfl⟩) (ak (fun γ => ⟨rfl, fun w' h => ⟨62, #[.agg #[PT γ2_0 0], V [P (j + 1) 0, P (j + 1) 1, P (j + 1) 2, P (j + 1) 3, P (j + 1) 4, P (j + 1) 5, P (j + 1) 6, P (j + 1) 7, P (j + 1) 8, P (j + 1) 9, P (j + 1) 10, P (j + 1) 11], V [P (j + 1) 0, P (j + 1) 1, P (j + 1) 2, P (j + 1) 3, P (j + 1) 4, P (j + 1) 5, P (j + 1) 6, P (j + 1) 7, P (j + 1) 8, P (j + 1) 9, P (j + 1) 10, P (j + 1) 11]], exec_call rfl call62 rfl (mpn rfl), CS.out j _ w' (h.one 0 rfl)⟩⟩) trivial)))
      intro _ w9 H9
      clear H8
      refine rest_at (l := [4]) rfl ?_
      refine rest_store rfl rfl rfl (ex_storeA (i := 0) (ms := [Q j 0, Q j 1, Q j 2, Q j 3, Q j 4, Q j 5, Q j 6, Q j 7, Q j 8, Q j 9, Q j 10, Q j 11]) H9.out.1 2 rfl rfl rfl rfl Tryz.sizeOf32 (Nat.le_of_ble_eq_true rfl)) ?_
      have H10 : Hid (Mm (w9.setCells γ2_5 (6 * 0) (cel [Q j 0, Q j 1, Q j 2, Q j 3, Q j 4, Q j 5, Q j 6, Q j 7, Q j 8, Q j 9, Q j 10, Q j 11])) [(γ2_0, modc n), (γ2_4, [PT γ2_0 0]), (γ2_5, cel [Q j 0, Q j 1, Q j 2, Q j 3, Q j 4, Q j 5, Q j 6, Q j 7, Q j 8, Q j 9, Q j 10, Q j 11]), (γ1_0, cel [m 0, m 1, m 2, m 3, m 4, m 5, m 6, m 7, m 8, m 9, m 10, m 11]), (γ1_1, cells6 ee), (γ1_2, cel [0, 0, 0, 0, 0, 0, 0, 0, 0, 0, 0, 0])] ∧ Below w.heap.size w (w9.setCells γ2_5 (6 * 0) (cel [Q j 0, Q j 1, Q j 2, Q j 3, Q j 4, Q j 5, Q j 6, Q j 7, Q j 8, Q j 9, Q j 10, Q j 11]))) := ⟨by
        have h := H9.out.1.put 2 (off := 6 * 0) (vs := cel [Q j 0, Q j 1, Q j 2, Q j 3, Q j 4, Q j 5, Q j 6, Q j 7, Q j 8, Q j 9, Q j 10, Q j 11]) rfl (by simp only [cel_len]; exact Nat.le_of_ble_eq_true rfl)
        rw [cel_patch] at h
        exact h, below_setCells _ o2_5.out _ _ _ H9.out.2⟩
      clear H9
      generalize hgw : World.setCells _ _ _ _ = w10 at H10 ⊢
      clear hgw
      refine rest_nil (then_normal (wp_seq ?_))
      refine walk_seqB 4 [.quiet (N ee), .quiet (.int .i64 (((j + 1 : Nat) : Int) - 1)), .call (.int .i64 (bv j)), .quiet (.bool true)] H10 ?ho6 ?he6
      case ho6 => exact ak (fun γ => ⟨rfl, fun w' h => ex_load6 h 4 rfl rfl rfl rfl⟩) (ak (fun _ => ⟨rfl, fun _ _ => rfl⟩) (ak (fun γ => ⟨rfl, fun w' h => ⟨68, #[N ee, .int .i64 (((j + 1 : Nat) : Int) - 1)], exec_call rfl call68 rfl (mpn rfl), CI.out j w' (by omega)⟩⟩) (ak (by refine fun γ => ⟨rfl, fun w' h => ?_⟩; clear h; go_simp <;> omega) trivial)))
      intro _ w11 H11
      clear H10
      refine rest0 rfl (then_normal (wp_cond_true rfl ?_))
      refine walk_seqB 4 [.quiet (.agg #[PT γ2_0 0]), .quiet (V [Q j 0, Q j 1, Q j 2, Q j 3, Q j 4, Q j 5, Q j 6, Q j 7, Q j 8, Q j 9, Q j 10, Q j 11]), .quiet (V [m 0, m 1, m 2, m 3, m 4, m 5, m 6, m 7, m 8, m 9, m 10, m 11]), .call (V [P j 0, P j 1, P j 2, P j 3, P j 4, P j 5, P j 6, P j 7, P j 8, P j 9, P j 10, P j 11])] H11 ?ho7 ?he7
      case ho7 => exact ak (fun γ => ⟨rfl, fun w' h => ex_loadF h 1 rfl rfl rfl rfl⟩) (ak (fun γ => ⟨rfl, fun w' h => ex_loadA (i := 0) (k := 12) h 2 rfl rfl rfl Tryz.isAgg32 Tryz.sizeOf32 rfl rfl⟩) (ak (fun γ => ⟨rfl, fun w' h => ex_loadA (i := 0) (k := 12) h 3 rfl rfl rfl Tryz.isAgg32 Tryz.sizeOf32 rfl rfl⟩) (ak (fun γ => ⟨rfl, fun w' h => ⟨62, #[.agg #[PT γ2_0 0], V [Q j 0, Q j 1, Q j 2, Q j 3, Q j 4, Q j 5, Q j 6, Q j 7, Q j 8, Q j 9, Q j 10, Q j 11], V [m 0, m 1, m 2, m 3, m 4, m 5, m 6, m 7, m 8, m 9, m 10, m 11]], exec_call rfl call62 rfl (mpn rfl), CM.out j hb' _ w' (h.one 0 rfl)⟩⟩) trivial)))
      intro _ w12 H12
      clear H11
      refine rest_at (l := [4]) rfl ?_
      refine rest_store rfl rfl rfl (ex_storeA (i := 0) (ms := [P j 0, P j 1, P j 2, P j 3, P j 4, P j 5, P j 6, P j 7, P j 8, P j 9, P j 10, P j 11]) H12.out.1 2 rfl rfl rfl rfl Tryz.sizeOf32 (Nat.le_of_ble_eq_true rfl)) ?_
      have H13 : Hid (Mm (w12.setCells γ2_5 (6 * 0) (cel [P j 0, P j 1, P j 2, P j 3, P j 4, P j 5, P j 6, P j 7, P j 8, P j 9, P j 10, P j 11])) [(γ2_0, modc n), (γ2_4, [PT γ2_0 0]), (γ2_5, cel [P j 0, P j 1, P j 2, P j 3, P j 4, P j 5, P j 6, P j 7, P j 8, P j 9, P j 10, P j 11]), (γ1_0, cel [m 0, m 1, m 2, m 3, m 4, m 5, m 6, m 7, m 8, m 9, m 10, m 11]), (γ1_1, cells6 ee), (γ1_2, cel [0, 0, 0, 0, 0, 0, 0, 0, 0, 0, 0, 0])] ∧ Below w.heap.size w (w12.setCells γ2_5 (6 * 0) (cel [P j 0, P j 1, P j 2, P j 3, P j 4, P j 5, P j 6, P j 7, P j 8, P j 9, P j 10, P j 11]))) := ⟨by
        have h := H12.out.1.put 2 (off := 6 * 0) (vs := cel [P j 0, P j 1, P j 2, P j 3, P j 4, P j 5, P j 6, P j 7, P j 8, P j 9, P j 10, P j 11]) rfl (by simp only [cel_len]; exact Nat.le_of_ble_eq_true rfl)
        rw [cel_patch] at h
        exact h, below_setCells _ o2_5.out _ _ _ H12.out.2⟩
      clear H12
      generalize hgw : World.setCells _ _ _ _ = w13 at H13 ⊢
      clear hgw
      refine rest_nil (block_normal (then_normal ?_))
      refine walk_seqB 2 [.quiet (.int .i64 (((j + 1 : Nat) : Int) - 1)), .quiet (.int .i64 (((j : Nat) : Int) - 1))] H13 ?ho8 ?he8
      case ho8 => exact ak (fun _ => ⟨rfl, fun _ _ => rfl⟩) (ak (by refine fun γ => ⟨rfl, fun w' h => ?_⟩; clear h; go_simp; rw [IntKind.wrap_i64]; omega) trivial)
      intro _ w14 H14
      clear H13
      refine rest_at (l := [2]) rfl ?_
      refine rest_set (d := 7) rfl rfl rfl rfl ?_
      simp only [Act.put, sa, sz, ss]
      refine rest_nil (then_normal ?_)
      exact ⟨j, ⟨(slotfn [undef, undef, undef, undef, undef, undef, undef, undef, undef, undef, undef, undef, undef, undef, undef, .int .i64 (((j + 1 : Nat) : Int) - 1), .bool true, .int .i64 (((j + 1 : Nat) : Int) - 1), .int .i64 (((j : Nat) : Int) - 1), .agg #[PT γ2_0 0], V [P (j + 1) 0, P (j + 1) 1, P (j + 1) 2, P (j + 1) 3, P (j + 1) 4, P (j + 1) 5, P (j + 1) 6, P (j + 1) 7, P (j + 1) 8, P (j + 1) 9, P (j + 1) 10, P (j + 1) 11], V [P (j + 1) 0, P (j + 1) 1, P (j + 1) 2, P (j + 1) 3, P (j + 1) 4, P (j + 1) 5, P (j + 1) 6, P (j + 1) 7, P (j + 1) 8, P (j + 1) 9, P (j + 1) 10, P (j + 1) 11], V [Q j 0, Q j 1, Q j 2, Q j 3, Q j 4, Q j 5, Q j 6, Q j 7, Q j 8, Q j 9, Q j 10, Q j 11], N ee, .int .i64 (((j + 1 : Nat) : Int) - 1), .int .i64 (bv j), .bool true, .agg #[PT γ2_0 0], V [Q j 0, Q j 1, Q j 2, Q j 3, Q j 4, Q j 5, Q j 6, Q j 7, Q j 8, Q j 9, Q j 10, Q j 11], V [m 0, m 1, m 2, m 3, m 4, m 5, m 6, m 7, m 8, m 9, m 10, m 11], V [P j 0, P j 1, P j 2, P j 3, P j 4, P j 5, P j 6, P j 7, P j 8, P j 9, P j 10, P j 11]]), rfl, ⟨H14.out.1, H14.out.2⟩, by omega⟩, by omega⟩
    · have hrd : True := trivial
      clear hrd
      have hb' : bv j = 0 := (HB.out j).resolve_left hb
      have HQ : Hid _ := FQ.out j hb'
      refine wp_seq (wp_seq ?_)
      refine walk_seqB 2 [.quiet (.int .i64 (((j + 1 : Nat) : Int) - 1)), .quiet (.bool true)] H7 ?ho9 ?he9
      case ho9 => exact ak (fun _ => ⟨rfl, fun _ _ => rfl⟩) (ak (by refine fun γ => ⟨rfl, fun w' h => ?_⟩; clear h; go_simp <;> omega) trivial)
      intro _ w15 H15
      clear H7
      refine rest0 rfl (then_normal (wp_cond_true rfl ?_))
      refine wp_skip (then_normal ?_)
      refine wp_seq (wp_block (wp_seq ?_))
      refine walk_seqB 4 [.quiet (.agg #[PT γ2_0 0]), .quiet (V [P (j + 1) 0, P (j + 1) 1, P (j + 1) 2, P (j + 1) 3, P (j + 1) 4, P (j + 1) 5, P (j + 1) 6, P (j + 1) 7, P (j + 1) 8, P (j + 1) 9, P (j + 1) 10, P (j + 1) 11]), .quiet (V [P (j + 1) 0, P (j + 1) 1, P (j + 1) 2, P (j + 1) 3, P (j + 1) 4, P (j + 1) 5, P (j + 1) 6, P (j + 1) 7, P (j + 1) 8, P (j + 1) 9, P (j + 1) 10, P (j + 1) 11]), .call (V [Q j 0, Q j 1, Q j 2, Q j 3, Q j 4, Q j 5, Q j 6, Q j 7, Q j 8, Q j 9, Q j 10, Q j 11])] H15 ?ho10 ?he10
      case ho10 => exact ak (fun γ => ⟨rfl, fun w' h => ex_loadF h 1 rfl rfl rfl rfl⟩) (ak (fun γ => ⟨rfl, fun w' h => ex_loadA (i := 0) (k := 12) h 2 rfl rfl rfl Tryz.isAgg32 Tryz.sizeOf32 rfl rfl⟩) (ak (fun γ => ⟨rfl, fun w' h => ex_loadA (i := 0) (k := 12) h 2 rfl rfl rfl Tryz.isAgg32 Tryz.sizeOf32 rfl rfl⟩) (ak (fun γ => ⟨rfl, fun w' h => ⟨62, #[.agg #[PT γ2_0 0], V [P (j + 1) 0, P (j + 1) 1, P (j + 1) 2, P (j + 1) 3, P (j + 1) 4, P (j + 1) 5, P (j + 1) 6, P (j + 1) 7, P (j + 1) 8, P (j + 1) 9, P (j + 1) 10, P (j + 1) 11], V [P (j + 1) 0, P (j + 1) 1, P (j + 1) 2, P (j + 1) 3, P (j + 1) 4, P (j + 1) 5, P (j + 1) 6, P (j + 1) 7, P (j + 1) 8, P (j + 1) 9, P (j + 1) 10, P (j + 1) 11]], exec_call rfl call62 rfl (mpn rfl), CS.out j _ w' (h.one 0 rfl)⟩⟩) trivial)))
      intro _ w16 H16
      clear H15
      refine rest_at (l := [4]) rfl ?_
      refine rest_store rfl rfl rfl (ex_storeA (i := 0) (ms := [Q j 0, Q j 1, Q j 2, Q j 3, Q j 4, Q j 5, Q j 6, Q j 7, Q j 8, Q j 9, Q j 10, Q j 11]) H16.out.1 2 rfl rfl rfl rfl Tryz.sizeOf32 (Nat.le_of_ble_eq_true rfl)) ?_
      have H17 : Hid (Mm (w16.setCells γ2_5 (6 * 0) (cel [Q j 0, Q j 1, Q j 2, Q j 3, Q j 4, Q j 5, Q j 6, Q j 7, Q j 8, Q j 9, Q j 10, Q j 11])) [(γ2_0, modc n), (γ2_4, [PT γ2_0 0]), (γ2_5, cel [Q j 0, Q j 1, Q j 2, Q j 3, Q j 4, Q j 5, Q j 6, Q j 7, Q j 8, Q j 9, Q j 10, Q j 11]), (γ1_0, cel [m 0, m 1, m 2, m 3, m 4, m 5, m 6, m 7, m 8, m 9, m 10, m 11]), (γ1_1, cells6 ee), (γ1_2, cel [0, 0, 0, 0, 0, 0, 0, 0, 0, 0, 0, 0])] ∧ Below w.heap.size w (w16.setCells γ2_5 (6 * 0) (cel [Q j 0, Q j 1, Q j 2, Q j 3, Q j 4, Q j 5, Q j 6, Q j 7, Q j 8, Q j 9, Q j 10, Q j 11]))) := ⟨by
        have h := H16.out.1.put 2 (off := 6 * 0) (vs := cel [Q j 0, Q j 1, Q j 2, Q j 3, Q j 4, Q j 5, Q j 6, Q j 7, Q j 8, Q j 9, Q j 10, Q j 11]) rfl (by simp only [cel_len]; exact Nat.le_of_ble_eq_true rfl)
        rw [cel_patch] at h
        exact h, below_setCells _ o2_5.out _ _ _ H16.out.2⟩
      clear H16
      generalize hgw : World.setCells _ _ _ _ = w17 at H17 ⊢
      clear hgw
      refine rest_nil (then_normal (wp_seq ?_))
      refine walk_seqB 4 [.quiet (N ee), .quiet (.int .i64 (((j + 1 : Nat) : Int) - 1)), .call (.int .i64 (bv j)), .quiet (.bool false)] H17 ?ho11 ?he11
      case ho11 => exact ak (fun γ => ⟨rfl, fun w' h => ex_load6 h 4 rfl rfl rfl rfl⟩) (ak (fun _ => ⟨rfl, fun _ _ => rfl⟩) (ak (fun γ => ⟨rfl, fun w' h => ⟨68, #[N ee, .int .i64 (((j + 1 : Nat) : Int) - 1)], exec_call rfl call68 rfl (mpn rfl), CI.out j w' (by omega)⟩⟩) (ak (by refine fun γ => ⟨rfl, fun w' h => ?_⟩; clear h; go_simp <;> omega) trivial)))
      intro _ w18 H18
      clear H17
      refine rest0 rfl (then_normal (wp_cond_false rfl ?_))
      refine wp_skip (block_normal (then_normal ?_))
      refine walk_seqB 2 [.quiet (.int .i64 (((j + 1 : Nat) : Int) - 1)), .quiet (.int .i64 (((j : Nat) : Int) - 1))] H18 ?ho12 ?he12
      case ho12 => exact ak (fun _ => ⟨rfl, fun _ _ => rfl⟩) (ak (by refine fun γ => ⟨rfl, fun w' h => ?_⟩; clear h; go_simp; rw [IntKind.wrap_i64]; omega) trivial)
      intro _ w19 H19
      clear H18
      refine rest_at (l := [2]) rfl ?_
      refine rest_set (d := 7) rfl rfl rfl rfl ?_
      simp only [Act.put, sa, sz, ss]
      refine rest_nil (then_normal ?_)
      exact ⟨j, ⟨(slotfn [undef, undef, undef, undef, undef, undef, undef, undef, undef, undef, undef, undef, undef, undef, undef, .int .i64 (((j + 1 : Nat) : Int) - 1), .bool true, .int .i64 (((j + 1 : Nat) : Int) - 1), .int .i64 (((j : Nat) : Int) - 1), .agg #[PT γ2_0 0], V [P (j + 1) 0, P (j + 1) 1, P (j + 1) 2, P (j + 1) 3, P (j + 1) 4, P (j + 1) 5, P (j + 1) 6, P (j + 1) 7, P (j + 1) 8, P (j + 1) 9, P (j + 1) 10, P (j + 1) 11], V [P (j + 1) 0, P (j + 1) 1, P (j + 1) 2, P (j + 1) 3, P (j + 1) 4, P (j + 1) 5, P (j + 1) 6, P (j + 1) 7, P (j + 1) 8, P (j + 1) 9, P (j + 1) 10, P (j + 1) 11], V [Q j 0, Q j 1, Q j 2, Q j 3, Q j 4, Q j 5, Q j 6, Q j 7, Q j 8, Q j 9, Q j 10, Q j 11], N ee, .int .i64 (((j + 1 : Nat) : Int) - 1), .int .i64 (bv j), .bool false, s0 27, s0 28, s0 29, s0 30]), rfl, ⟨by rw [← HQ.out]; exact H19.out.1, H19.out.2⟩, by omega⟩, by omega⟩
  have hk0 : k = 0 := by omega
  subst hk0
  refine wp_seq (wp_seq ?_)
  refine walk_seqB 2 [.quiet (.int .i64 (((0 : Nat) : Int) - 1)), .quiet (.bool false)] H7 ?ho13 ?he13
  case ho13 => exact ak (fun _ => ⟨rfl, fun _ _ => rfl⟩) (ak (by refine fun γ => ⟨rfl, fun w' h => ?_⟩; clear h; go_simp <;> omega) trivial)
  intro _ w20 H20
  clear H7
  refine rest0 rfl (then_normal (wp_cond_false rfl ?_))
  refine wp_exit ?_
  repeat refine then_exit ?_
  refine block_exit ?_
  refine then_normal (wp_seq ?_)
  refine walk_seqB 1 [.quiet (V [P 0 0, P 0 1, P 0 2, P 0 3, P 0 4, P 0 5, P 0 6, P 0 7, P 0 8, P 0 9, P 0 10, P 0 11])] H20 ?ho14 ?he14
  case ho14 => exact ak (fun γ => ⟨rfl, fun w' h => ex_loadA (i := 0) (k := 12) h 2 rfl rfl rfl Tryz.isAgg32 Tryz.sizeOf32 rfl rfl⟩) trivial
  intro _ w21 H21
  clear H20
  refine rest_at (l := [1]) rfl ?_
  refine rest_store rfl rfl rfl (ex_storeA (i := 0) (ms := [P 0 0, P 0 1, P 0 2, P 0 3, P 0 4, P 0 5, P 0 6, P 0 7, P 0 8, P 0 9, P 0 10, P 0 11]) H21.out.1 5 rfl rfl rfl rfl Tryz.sizeOf32 (Nat.le_of_ble_eq_true rfl)) ?_
  have H22 : Hid (Mm (w21.setCells γ1_2 (6 * 0) (cel [P 0 0, P 0 1, P 0 2, P 0 3, P 0 4, P 0 5, P 0 6, P 0 7, P 0 8, P 0 9, P 0 10, P 0 11])) [(γ2_0, modc n), (γ2_4, [PT γ2_0 0]), (γ2_5, cel [P 0 0, P 0 1, P 0 2, P 0 3, P 0 4, P 0 5, P 0 6, P 0 7, P 0 8, P 0 9, P 0 10, P 0 11]), (γ1_0, cel [m 0, m 1, m 2, m 3, m 4, m 5, m 6, m 7, m 8, m 9, m 10, m 11]), (γ1_1, cells6 ee), (γ1_2, cel [P 0 0, P 0 1, P 0 2, P 0 3, P 0 4, P 0 5, P 0 6, P 0 7, P 0 8, P 0 9, P 0 10, P 0 11])] ∧ Below w.heap.size w (w21.setCells γ1_2 (6 * 0) (cel [P 0 0, P 0 1, P 0 2, P 0 3, P 0 4, P 0 5, P 0 6, P 0 7, P 0 8, P 0 9, P 0 10, P 0 11]))) := ⟨by
    have h := H21.out.1.put 5 (off := 6 * 0) (vs := cel [P 0 0, P 0 1, P 0 2, P 0 3, P 0 4, P 0 5, P 0 6, P 0 7, P 0 8, P 0 9, P 0 10, P 0 11]) rfl (by simp only [cel_len]; exact Nat.le_of_ble_eq_true rfl)
    rw [cel_patch] at h
    exact h, below_setCells _ o1_2.out _ _ _ H21.out.2⟩
  clear H21
  generalize hgw : World.setCells _ _ _ _ = w22 at H22 ⊢
  clear hgw
  refine rest_nil (then_normal (wp_ret ?_))
  repeat (first | refine then_ret ?_ | refine block_ret ?_)
  have hf0 := cel_var (k := 12) H22.out.1 5 rfl Tryz.isAgg32 Tryz.sizeOf32 rfl
  refine bodyPost_ret (v := V [P 0 0, P 0 1, P 0 2, P 0 3, P 0 4, P 0 5, P 0 6, P 0 7, P 0 8, P 0 9, P 0 10, P 0 11]) (by simp [results, Tryz.results27, asAddr, hf0]) rfl ?_
  exact ⟨rfl, H22.out.2⟩
end Rg
end Go.Proofs.YtdbejmgomajjmaaGreatDoor
end
section
namespace Go.Proofs.YtdbejmgomajjmaaGreatDoor
open Go.RowKit
namespace Rg
/-! Elements of twelve parts over the integers: number j of them is a j; w to the power 6 is 1 + i. -/
def m0 (a b : Nat → Int) (i j : Nat) : Int := a (2 * i) * b (2 * j) - a (2 * i + 1) * b (2 * j + 1)
def m1 (a b : Nat → Int) (i j : Nat) : Int := a (2 * i) * b (2 * j + 1) + a (2 * i + 1) * b (2 * j)
def mul12 (a b : Nat → Int) : Nat → Int
  | 0 => m0 a b 0 0 + ((m0 a b 1 5 + m0 a b 2 4 + m0 a b 3 3 + m0 a b 4 2 + m0 a b 5 1) - (m1 a b 1 5 + m1 a b 2 4 + m1 a b 3 3 + m1 a b 4 2 + m1 a b 5 1))
  | 1 => m1 a b 0 0 + ((m0 a b 1 5 + m0 a b 2 4 + m0 a b 3 3 + m0 a b 4 2 + m0 a b 5 1) + (m1 a b 1 5 + m1 a b 2 4 + m1 a b 3 3 + m1 a b 4 2 + m1 a b 5 1))
  | 2 => m0 a b 0 1 + m0 a b 1 0 + ((m0 a b 2 5 + m0 a b 3 4 + m0 a b 4 3 + m0 a b 5 2) - (m1 a b 2 5 + m1 a b 3 4 + m1 a b 4 3 + m1 a b 5 2))
  | 3 => m1 a b 0 1 + m1 a b 1 0 + ((m0 a b 2 5 + m0 a b 3 4 + m0 a b 4 3 + m0 a b 5 2) + (m1 a b 2 5 + m1 a b 3 4 + m1 a b 4 3 + m1 a b 5 2))
  | 4 => m0 a b 0 2 + m0 a b 1 1 + m0 a b 2 0 + ((m0 a b 3 5 + m0 a b 4 4 + m0 a b 5 3) - (m1 a b 3 5 + m1 a b 4 4 + m1 a b 5 3))
  | 5 => m1 a b 0 2 + m1 a b 1 1 + m1 a b 2 0 + ((m0 a b 3 5 + m0 a b 4 4 + m0 a b 5 3) + (m1 a b 3 5 + m1 a b 4 4 + m1 a b 5 3))
  | 6 => m0 a b 0 3 + m0 a b 1 2 + m0 a b 2 1 + m0 a b 3 0 + ((m0 a b 4 5 + m0 a b 5 4) - (m1 a b 4 5 + m1 a b 5 4))
  | 7 => m1 a b 0 3 + m1 a b 1 2 + m1 a b 2 1 + m1 a b 3 0 + ((m0 a b 4 5 + m0 a b 5 4) + (m1 a b 4 5 + m1 a b 5 4))
  | 8 => m0 a b 0 4 + m0 a b 1 3 + m0 a b 2 2 + m0 a b 3 1 + m0 a b 4 0 + ((m0 a b 5 5) - (m1 a b 5 5))
  | 9 => m1 a b 0 4 + m1 a b 1 3 + m1 a b 2 2 + m1 a b 3 1 + m1 a b 4 0 + ((m0 a b 5 5) + (m1 a b 5 5))
  | 10 => m0 a b 0 5 + m0 a b 1 4 + m0 a b 2 3 + m0 a b 3 2 + m0 a b 4 1 + m0 a b 5 0
  | 11 => m1 a b 0 5 + m1 a b 1 4 + m1 a b 2 3 + m1 a b 3 2 + m1 a b 4 1 + m1 a b 5 0
  | _ => 0
theorem assoc12_0 (a b c : Nat → Int) : mul12 (mul12 a b) c 0 = mul12 a (mul12 b c) 0 := by
  simp only [mul12, m0, m1, Nat.reduceMul, Nat.reduceAdd]
  grind
theorem assoc12_1 (a b c : Nat → Int) : mul12 (mul12 a b) c 1 = mul12 a (mul12 b c) 1 := by
  simp only [mul12, m0, m1, Nat.reduceMul, Nat.reduceAdd]
  grind
theorem assoc12_2 (a b c : Nat → Int) : mul12 (mul12 a b) c 2 = mul12 a (mul12 b c) 2 := by
  simp only [mul12, m0, m1, Nat.reduceMul, Nat.reduceAdd]
  grind
theorem assoc12_3 (a b c : Nat → Int) : mul12 (mul12 a b) c 3 = mul12 a (mul12 b c) 3 := by
  simp only [mul12, m0, m1, Nat.reduceMul, Nat.reduceAdd]
  grind
theorem assoc12_4 (a b c : Nat → Int) : mul12 (mul12 a b) c 4 = mul12 a (mul12 b c) 4 := by
  simp only [mul12, m0, m1, Nat.reduceMul, Nat.reduceAdd]
  grind
theorem assoc12_5 (a b c : Nat → Int) : mul12 (mul12 a b) c 5 = mul12 a (mul12 b c) 5 := by
  simp only [mul12, m0, m1, Nat.reduceMul, Nat.reduceAdd]
  grind
theorem assoc12_6 (a b c : Nat → Int) : mul12 (mul12 a b) c 6 = mul12 a (mul12 b c) 6 := by
  simp only [mul12, m0, m1, Nat.reduceMul, Nat.reduceAdd]
  grind
theorem assoc12_7 (a b c : Nat → Int) : mul12 (mul12 a b) c 7 = mul12 a (mul12 b c) 7 := by
  simp only [mul12, m0, m1, Nat.reduceMul, Nat.reduceAdd]
  grind
theorem assoc12_8 (a b c : Nat → Int) : mul12 (mul12 a b) c 8 = mul12 a (mul12 b c) 8 := by
  simp only [mul12, m0, m1, Nat.reduceMul, Nat.reduceAdd]
  grind
theorem assoc12_9 (a b c : Nat → Int) : mul12 (mul12 a b) c 9 = mul12 a (mul12 b c) 9 := by
  simp only [mul12, m0, m1, Nat.reduceMul, Nat.reduceAdd]
  grind
theorem assoc12_10 (a b c : Nat → Int) : mul12 (mul12 a b) c 10 = mul12 a (mul12 b c) 10 := by
  simp only [mul12, m0, m1, Nat.reduceMul, Nat.reduceAdd]
  grind
theorem assoc12_11 (a b c : Nat → Int) : mul12 (mul12 a b) c 11 = mul12 a (mul12 b c) 11 := by
  simp only [mul12, m0, m1, Nat.reduceMul, Nat.reduceAdd]
  grind
theorem comm12_0 (a b : Nat → Int) : mul12 a b 0 = mul12 b a 0 := by
  simp only [mul12, m0, m1, Nat.reduceMul, Nat.reduceAdd]
  grind
theorem comm12_1 (a b : Nat → Int) : mul12 a b 1 = mul12 b a 1 := by
  simp only [mul12, m0, m1, Nat.reduceMul, Nat.reduceAdd]
  grind
theorem comm12_2 (a b : Nat → Int) : mul12 a b 2 = mul12 b a 2 := by
  simp only [mul12, m0, m1, Nat.reduceMul, Nat.reduceAdd]
  grind
theorem comm12_3 (a b : Nat → Int) : mul12 a b 3 = mul12 b a 3 := by
  simp only [mul12, m0, m1, Nat.reduceMul, Nat.reduceAdd]
  grind
theorem comm12_4 (a b : Nat → Int) : mul12 a b 4 = mul12 b a 4 := by
  simp only [mul12, m0, m1, Nat.reduceMul, Nat.reduceAdd]
  grind
theorem comm12_5 (a b : Nat → Int) : mul12 a b 5 = mul12 b a 5 := by
  simp only [mul12, m0, m1, Nat.reduceMul, Nat.reduceAdd]
  grind
theorem comm12_6 (a b : Nat → Int) : mul12 a b 6 = mul12 b a 6 := by
  simp only [mul12, m0, m1, Nat.reduceMul, Nat.reduceAdd]
  grind
theorem comm12_7 (a b : Nat → Int) : mul12 a b 7 = mul12 b a 7 := by
  simp only [mul12, m0, m1, Nat.reduceMul, Nat.reduceAdd]
  grind
theorem comm12_8 (a b : Nat → Int) : mul12 a b 8 = mul12 b a 8 := by
  simp only [mul12, m0, m1, Nat.reduceMul, Nat.reduceAdd]
  grind
theorem comm12_9 (a b : Nat → Int) : mul12 a b 9 = mul12 b a 9 := by
  simp only [mul12, m0, m1, Nat.reduceMul, Nat.reduceAdd]
  grind
theorem comm12_10 (a b : Nat → Int) : mul12 a b 10 = mul12 b a 10 := by
  simp only [mul12, m0, Nat.reduceMul, Nat.reduceAdd]
  grind
theorem comm12_11 (a b : Nat → Int) : mul12 a b 11 = mul12 b a 11 := by
  simp only [mul12, m1, Nat.reduceMul, Nat.reduceAdd]
  grind
theorem lin12_0 (a q b : Nat → Int) (p : Int) : mul12 (fun j => a j + p * q j) b 0 = mul12 a b 0 + p * mul12 q b 0 := by
  simp only [mul12, m0, m1, Nat.reduceMul, Nat.reduceAdd]
  grind
theorem lin12_1 (a q b : Nat → Int) (p : Int) : mul12 (fun j => a j + p * q j) b 1 = mul12 a b 1 + p * mul12 q b 1 := by
  simp only [mul12, m0, m1, Nat.reduceMul, Nat.reduceAdd]
  grind
theorem lin12_2 (a q b : Nat → Int) (p : Int) : mul12 (fun j => a j + p * q j) b 2 = mul12 a b 2 + p * mul12 q b 2 := by
  simp only [mul12, m0, m1, Nat.reduceMul, Nat.reduceAdd]
  grind
theorem lin12_3 (a q b : Nat → Int) (p : Int) : mul12 (fun j => a j + p * q j) b 3 = mul12 a b 3 + p * mul12 q b 3 := by
  simp only [mul12, m0, m1, Nat.reduceMul, Nat.reduceAdd]
  grind
theorem lin12_4 (a q b : Nat → Int) (p : Int) : mul12 (fun j => a j + p * q j) b 4 = mul12 a b 4 + p * mul12 q b 4 := by
  simp only [mul12, m0, m1, Nat.reduceMul, Nat.reduceAdd]
  grind
theorem lin12_5 (a q b : Nat → Int) (p : Int) : mul12 (fun j => a j + p * q j) b 5 = mul12 a b 5 + p * mul12 q b 5 := by
  simp only [mul12, m0, m1, Nat.reduceMul, Nat.reduceAdd]
  grind
theorem lin12_6 (a q b : Nat → Int) (p : Int) : mul12 (fun j => a j + p * q j) b 6 = mul12 a b 6 + p * mul12 q b 6 := by
  simp only [mul12, m0, m1, Nat.reduceMul, Nat.reduceAdd]
  grind
theorem lin12_7 (a q b : Nat → Int) (p : Int) : mul12 (fun j => a j + p * q j) b 7 = mul12 a b 7 + p * mul12 q b 7 := by
  simp only [mul12, m0, m1, Nat.reduceMul, Nat.reduceAdd]
  grind
theorem lin12_8 (a q b : Nat → Int) (p : Int) : mul12 (fun j => a j + p * q j) b 8 = mul12 a b 8 + p * mul12 q b 8 := by
  simp only [mul12, m0, m1, Nat.reduceMul, Nat.reduceAdd]
  grind
theorem lin12_9 (a q b : Nat → Int) (p : Int) : mul12 (fun j => a j + p * q j) b 9 = mul12 a b 9 + p * mul12 q b 9 := by
  simp only [mul12, m0, m1, Nat.reduceMul, Nat.reduceAdd]
  grind
theorem lin12_10 (a q b : Nat → Int) (p : Int) : mul12 (fun j => a j + p * q j) b 10 = mul12 a b 10 + p * mul12 q b 10 := by
  simp only [mul12, m0, Nat.reduceMul, Nat.reduceAdd]
  grind
theorem lin12_11 (a q b : Nat → Int) (p : Int) : mul12 (fun j => a j + p * q j) b 11 = mul12 a b 11 + p * mul12 q b 11 := by
  simp only [mul12, m1, Nat.reduceMul, Nat.reduceAdd]
  grind
theorem assoc12 (a b c : Nat → Int) : mul12 (mul12 a b) c = mul12 a (mul12 b c) := funext fun j => by
  match j with
  | 0 => exact assoc12_0 a b c
  | 1 => exact assoc12_1 a b c
  | 2 => exact assoc12_2 a b c
  | 3 => exact assoc12_3 a b c
  | 4 => exact assoc12_4 a b c
  | 5 => exact assoc12_5 a b c
  | 6 => exact assoc12_6 a b c
  | 7 => exact assoc12_7 a b c
  | 8 => exact assoc12_8 a b c
  | 9 => exact assoc12_9 a b c
  | 10 => exact assoc12_10 a b c
  | 11 => exact assoc12_11 a b c
  | _ + 12 => rfl
theorem comm12 (a b : Nat → Int) : mul12 a b = mul12 b a := funext fun j => by
  match j with
  | 0 => exact comm12_0 a b
  | 1 => exact comm12_1 a b
  | 2 => exact comm12_2 a b
  | 3 => exact comm12_3 a b
  | 4 => exact comm12_4 a b
  | 5 => exact comm12_5 a b
  | 6 => exact comm12_6 a b
  | 7 => exact comm12_7 a b
  | 8 => exact comm12_8 a b
  | 9 => exact comm12_9 a b
  | 10 => exact comm12_10 a b
  | 11 => exact comm12_11 a b
  | _ + 12 => rfl
theorem lin12 (a q b : Nat → Int) (p : Int) : mul12 (fun j => a j + p * q j) b = (fun j => mul12 a b j + p * mul12 q b j) := funext fun j => by
  match j with
  | 0 => exact lin12_0 a q b p
  | 1 => exact lin12_1 a q b p
  | 2 => exact lin12_2 a q b p
  | 3 => exact lin12_3 a q b p
  | 4 => exact lin12_4 a q b p
  | 5 => exact lin12_5 a q b p
  | 6 => exact lin12_6 a q b p
  | 7 => exact lin12_7 a q b p
  | 8 => exact lin12_8 a q b p
  | 9 => exact lin12_9 a q b p
  | 10 => exact lin12_10 a q b p
  | 11 => exact lin12_11 a q b p
  | _ + 12 => show (0 : Int) = 0 + p * 0; rw [Int.mul_zero]; rfl
def one12 : Nat → Int
  | 0 => 1
  | _ => 0
/-- Nothing stands beyond the twelve. -/
def Fin12 (a : Nat → Int) : Prop := ∀ j, a (j + 12) = 0
theorem fin_mul (a b : Nat → Int) : Fin12 (mul12 a b) := fun _ => rfl
theorem fin_one : Fin12 one12 := fun _ => rfl
theorem one12_0 (a : Nat → Int) : mul12 a one12 0 = a 0 := by
  simp only [mul12, m0, m1, one12, Nat.reduceMul, Nat.reduceAdd]
  grind
theorem one12_1 (a : Nat → Int) : mul12 a one12 1 = a 1 := by
  simp only [mul12, m0, m1, one12, Nat.reduceMul, Nat.reduceAdd]
  grind
theorem one12_2 (a : Nat → Int) : mul12 a one12 2 = a 2 := by
  simp only [mul12, m0, m1, one12, Nat.reduceMul, Nat.reduceAdd]
  grind
theorem one12_3 (a : Nat → Int) : mul12 a one12 3 = a 3 := by
  simp only [mul12, m0, m1, one12, Nat.reduceMul, Nat.reduceAdd]
  grind
theorem one12_4 (a : Nat → Int) : mul12 a one12 4 = a 4 := by
  simp only [mul12, m0, m1, one12, Nat.reduceMul, Nat.reduceAdd]
  grind
theorem one12_5 (a : Nat → Int) : mul12 a one12 5 = a 5 := by
  simp only [mul12, m0, m1, one12, Nat.reduceMul, Nat.reduceAdd]
  grind
theorem one12_6 (a : Nat → Int) : mul12 a one12 6 = a 6 := by
  simp only [mul12, m0, m1, one12, Nat.reduceMul, Nat.reduceAdd]
  grind
theorem one12_7 (a : Nat → Int) : mul12 a one12 7 = a 7 := by
  simp only [mul12, m0, m1, one12, Nat.reduceMul, Nat.reduceAdd]
  grind
theorem one12_8 (a : Nat → Int) : mul12 a one12 8 = a 8 := by
  simp only [mul12, m0, m1, one12, Nat.reduceMul, Nat.reduceAdd]
  grind
theorem one12_9 (a : Nat → Int) : mul12 a one12 9 = a 9 := by
  simp only [mul12, m0, m1, one12, Nat.reduceMul, Nat.reduceAdd]
  grind
theorem one12_10 (a : Nat → Int) : mul12 a one12 10 = a 10 := by
  simp only [mul12, m0, one12, Nat.reduceMul, Nat.reduceAdd]
  grind
theorem one12_11 (a : Nat → Int) : mul12 a one12 11 = a 11 := by
  simp only [mul12, m1, one12, Nat.reduceMul, Nat.reduceAdd]
  grind
theorem mul_one12 (a : Nat → Int) (h : Fin12 a) : mul12 a one12 = a := funext fun j => by
  match j with
  | 0 => exact one12_0 a
  | 1 => exact one12_1 a
  | 2 => exact one12_2 a
  | 3 => exact one12_3 a
  | 4 => exact one12_4 a
  | 5 => exact one12_5 a
  | 6 => exact one12_6 a
  | 7 => exact one12_7 a
  | 8 => exact one12_8 a
  | 9 => exact one12_9 a
  | 10 => exact one12_10 a
  | 11 => exact one12_11 a
  | j + 12 => rw [h j]; rfl
def pw12 (a : Nat → Int) : Nat → Nat → Int
  | 0 => one12
  | n + 1 => mul12 (pw12 a n) a
theorem fin_pw (a : Nat → Int) : ∀ n, Fin12 (pw12 a n)
  | 0 => fin_one
  | _ + 1 => fin_mul _ _
theorem pw_add (a : Nat → Int) (m : Nat) : ∀ n, pw12 a (m + n) = mul12 (pw12 a m) (pw12 a n)
  | 0 => (mul_one12 _ (fin_pw a m)).symm
  | n + 1 => by
    show mul12 (pw12 a (m + n)) a = mul12 (pw12 a m) (mul12 (pw12 a n) a)
    rw [pw_add a m n, assoc12]
theorem pw_twice (a : Nat → Int) (m : Nat) : pw12 a (2 * m) = mul12 (pw12 a m) (pw12 a m) := by rw [← pw_add]; congr 1; omega
theorem pw_mul (a b : Nat → Int) : ∀ n, pw12 (mul12 a b) n = mul12 (pw12 a n) (pw12 b n)
  | 0 => (mul_one12 _ fin_one).symm
  | n + 1 => by
    show mul12 (pw12 (mul12 a b) n) (mul12 a b) = mul12 (mul12 (pw12 a n) a) (mul12 (pw12 b n) b)
    rw [pw_mul a b n, assoc12, assoc12, ← assoc12 (pw12 b n) a b, comm12 (pw12 b n) a, assoc12 a]
end Rg
end Go.Proofs.YtdbejmgomajjmaaGreatDoor
end
section
namespace Go.Proofs.YtdbejmgomajjmaaGreatDoor
open Go.RowKit
namespace Rg
/-! Twelve parts: what is told. -/
abbrev lz (a : Nat → Int) : List Nat := [pz (a 0), pz (a 1), pz (a 2), pz (a 3), pz (a 4), pz (a 5), pz (a 6), pz (a 7), pz (a 8), pz (a 9), pz (a 10), pz (a 11)]
abbrev tl (a : Nat → Nat) : List Nat := [a 0, a 1, a 2, a 3, a 4, a 5, a 6, a 7, a 8, a 9, a 10, a 11]
def zn (a : Nat → Nat) : Nat → Int := fun j => (a j : Int)
theorem leftAll_any (a : Nat → Nat) (h : ∀ j, j < 12 → a j < big) (w : World) : Calls Tryz.prog 63 #[V (tl a)] w fun e w' => e = .returned (V (lz (zn a))) ∧ Below w.heap.size w w' :=
  leftAll_gen a (fun j => pz (zn a j)) (fun k hk w => left2_any (a (2 * k)) (a (2 * k + 1)) (h _ (by omega)) (h _ (by omega)) w) w
theorem together2_any (a0 a1 b0 b1 : Nat) (h0 : a0 + b0 < big) (h1 : a1 + b1 < big) (w : World) : Calls Tryz.prog 190 #[V [a0, a1], V [b0, b1]] w fun e w' => e = .returned (V [a0 + b0, a1 + b1]) ∧ Below w.heap.size w w' :=
  together2_gen a0 a1 b0 b1 _ _ (fun w => together_any a0 b0 h0 w) (fun w => together_any a1 b1 h1 w) w
theorem three_any (a b : Nat → Nat) (h : ∀ j, j < 6 → a j + b j < big) (w : World) : Calls Tryz.prog 127 #[V [a 0, a 1, a 2, a 3, a 4, a 5], V [b 0, b 1, b 2, b 3, b 4, b 5]] w fun e w' => e = .returned (V [a 0 + b 0, a 1 + b 1, a 2 + b 2, a 3 + b 3, a 4 + b 4, a 5 + b 5]) ∧ Below w.heap.size w w' :=
  three_gen a b (fun j => a j + b j) (fun k hk w => together2_any _ _ _ _ (h _ (by omega)) (h _ (by omega)) w) w
/-- Integers as wide numbers, one behind the other. -/
def lh (z : Nat → Int) (j : Nat) : Nat := if j % 2 = 0 then lo (z (j / 2)) else hi (z (j / 2))
theorem plus2_any (x y : Nat → Int) (w : World) : Calls Tryz.prog 130 #[V [lh x 0, lh x 1, lh x 2, lh x 3], V [lh y 0, lh y 1, lh y 2, lh y 3]] w fun e w' => e = .returned (V [lh (fun i => x i + y i) 0, lh (fun i => x i + y i) 1, lh (fun i => x i + y i) 2, lh (fun i => x i + y i) 3]) ∧ Below w.heap.size w w' :=
  plus2_gen _ _ _ _ _ _ _ _ _ _ _ _ (fun w => plusZ_any (x 0) (y 0) w) (fun w => plusZ_any (x 1) (y 1) w) w
theorem less2_any (x y : Nat → Int) (w : World) : Calls Tryz.prog 131 #[V [lh x 0, lh x 1, lh x 2, lh x 3], V [lh y 0, lh y 1, lh y 2, lh y 3]] w fun e w' => e = .returned (V [lh (fun i => x i - y i) 0, lh (fun i => x i - y i) 1, lh (fun i => x i - y i) 2, lh (fun i => x i - y i) 3]) ∧ Below w.heap.size w w' :=
  less2_gen _ _ _ _ _ _ _ _ _ _ _ _ (fun w => lessZ_any (x 0) (y 0) w) (fun w => lessZ_any (x 1) (y 1) w) w
def rsd (x : Nat → Int) : Nat → Int
  | 0 => x 0 - x 1
  | _ => x 0 + x 1
theorem raised_any (x : Nat → Int) (w : World) : Calls Tryz.prog 128 #[V [lh x 0, lh x 1, lh x 2, lh x 3]] w fun e w' => e = .returned (V [lh (rsd x) 0, lh (rsd x) 1, lh (rsd x) 2, lh (rsd x) 3]) ∧ Below w.heap.size w w' :=
  raised_gen _ _ _ _ _ _ _ _ (fun w => lessZ_any (x 0) (x 1) w) (fun w => plusZ_any (x 0) (x 1) w) w
def zz (x y : Int) : Nat → Int
  | 0 => x
  | _ => y
theorem times2_anyZ (a0 a1 b0 b1 : Nat) (ha : a0 + a1 < big) (hb : b0 + b1 < big) (w : World) : Calls Tryz.prog 188 #[V [a0, a1], V [b0, b1]] w fun e w' => e = .returned (V [lh (zz ((a0 : Int) * b0 - (a1 : Int) * b1) ((a0 : Int) * b1 + (a1 : Int) * b0)) 0, lh (zz ((a0 : Int) * b0 - (a1 : Int) * b1) ((a0 : Int) * b1 + (a1 : Int) * b0)) 1, lh (zz ((a0 : Int) * b0 - (a1 : Int) * b1) ((a0 : Int) * b1 + (a1 : Int) * b0)) 2, lh (zz ((a0 : Int) * b0 - (a1 : Int) * b1) ((a0 : Int) * b1 + (a1 : Int) * b0)) 3]) ∧ Below w.heap.size w w' :=
  times2_any a0 a1 b0 b1 ha hb w
theorem cross_any12 (a b : Nat → Nat) (ha : ∀ j, j < 6 → a j < 2 * pB) (hb : ∀ j, j < 6 → b j < 2 * pB) (ga gb : Nat) (w : World) (hm : Mm w [(ga, cel [a 0, a 1, a 2, a 3, a 4, a 5]), (gb, cel [b 0, b 1, b 2, b 3, b 4, b 5])]) : Calls Tryz.prog 189 #[.int .i64 1, .int .i64 2, PT ga 0, PT gb 0] w fun e w' => e = .returned (V [lh (zz ((((a 2 + a 4) : Nat) : Int) * ((b 2 + b 4) : Nat) - (((a 3 + a 5) : Nat) : Int) * ((b 3 + b 5) : Nat)) ((((a 2 + a 4) : Nat) : Int) * ((b 3 + b 5) : Nat) + (((a 3 + a 5) : Nat) : Int) * ((b 2 + b 4) : Nat))) 0, lh (zz ((((a 2 + a 4) : Nat) : Int) * ((b 2 + b 4) : Nat) - (((a 3 + a 5) : Nat) : Int) * ((b 3 + b 5) : Nat)) ((((a 2 + a 4) : Nat) : Int) * ((b 3 + b 5) : Nat) + (((a 3 + a 5) : Nat) : Int) * ((b 2 + b 4) : Nat))) 1, lh (zz ((((a 2 + a 4) : Nat) : Int) * ((b 2 + b 4) : Nat) - (((a 3 + a 5) : Nat) : Int) * ((b 3 + b 5) : Nat)) ((((a 2 + a 4) : Nat) : Int) * ((b 3 + b 5) : Nat) + (((a 3 + a 5) : Nat) : Int) * ((b 2 + b 4) : Nat))) 2, lh (zz ((((a 2 + a 4) : Nat) : Int) * ((b 2 + b 4) : Nat) - (((a 3 + a 5) : Nat) : Int) * ((b 3 + b 5) : Nat)) ((((a 2 + a 4) : Nat) : Int) * ((b 3 + b 5) : Nat) + (((a 3 + a 5) : Nat) : Int) * ((b 2 + b 4) : Nat))) 3]) ∧ Below w.heap.size w w' := by
  have h9 := nine_p
  have a2 := ha 2 (by decide)
  have b2 := hb 2 (by decide)
  have a3 := ha 3 (by decide)
  have b3 := hb 3 (by decide)
  have a4 := ha 4 (by decide)
  have b4 := hb 4 (by decide)
  have a5 := ha 5 (by decide)
  have b5 := hb 5 (by decide)
  exact cross_12 a b ga gb _ _ _ _ _ _ _ _ (fun w => together2_any _ _ _ _ (by omega) (by omega) w) (fun w => together2_any _ _ _ _ (by omega) (by omega) w) (fun w => times2_anyZ _ _ _ _ (by omega) (by omega) w) w hm
theorem cross_any01 (a b : Nat → Nat) (ha : ∀ j, j < 6 → a j < 2 * pB) (hb : ∀ j, j < 6 → b j < 2 * pB) (ga gb : Nat) (w : World) (hm : Mm w [(ga, cel [a 0, a 1, a 2, a 3, a 4, a 5]), (gb, cel [b 0, b 1, b 2, b 3, b 4, b 5])]) : Calls Tryz.prog 189 #[.int .i64 0, .int .i64 1, PT ga 0, PT gb 0] w fun e w' => e = .returned (V [lh (zz ((((a 0 + a 2) : Nat) : Int) * ((b 0 + b 2) : Nat) - (((a 1 + a 3) : Nat) : Int) * ((b 1 + b 3) : Nat)) ((((a 0 + a 2) : Nat) : Int) * ((b 1 + b 3) : Nat) + (((a 1 + a 3) : Nat) : Int) * ((b 0 + b 2) : Nat))) 0, lh (zz ((((a 0 + a 2) : Nat) : Int) * ((b 0 + b 2) : Nat) - (((a 1 + a 3) : Nat) : Int) * ((b 1 + b 3) : Nat)) ((((a 0 + a 2) : Nat) : Int) * ((b 1 + b 3) : Nat) + (((a 1 + a 3) : Nat) : Int) * ((b 0 + b 2) : Nat))) 1, lh (zz ((((a 0 + a 2) : Nat) : Int) * ((b 0 + b 2) : Nat) - (((a 1 + a 3) : Nat) : Int) * ((b 1 + b 3) : Nat)) ((((a 0 + a 2) : Nat) : Int) * ((b 1 + b 3) : Nat) + (((a 1 + a 3) : Nat) : Int) * ((b 0 + b 2) : Nat))) 2, lh (zz ((((a 0 + a 2) : Nat) : Int) * ((b 0 + b 2) : Nat) - (((a 1 + a 3) : Nat) : Int) * ((b 1 + b 3) : Nat)) ((((a 0 + a 2) : Nat) : Int) * ((b 1 + b 3) : Nat) + (((a 1 + a 3) : Nat) : Int) * ((b 0 + b 2) : Nat))) 3]) ∧ Below w.heap.size w w' := by
  have h9 := nine_p
  have a0 := ha 0 (by decide)
  have b0 := hb 0 (by decide)
  have a1 := ha 1 (by decide)
  have b1 := hb 1 (by decide)
  have a2 := ha 2 (by decide)
  have b2 := hb 2 (by decide)
  have a3 := ha 3 (by decide)
  have b3 := hb 3 (by decide)
  exact cross_01 a b ga gb _ _ _ _ _ _ _ _ (fun w => together2_any _ _ _ _ (by omega) (by omega) w) (fun w => together2_any _ _ _ _ (by omega) (by omega) w) (fun w => times2_anyZ _ _ _ _ (by omega) (by omega) w) w hm
theorem cross_any02 (a b : Nat → Nat) (ha : ∀ j, j < 6 → a j < 2 * pB) (hb : ∀ j, j < 6 → b j < 2 * pB) (ga gb : Nat) (w : World) (hm : Mm w [(ga, cel [a 0, a 1, a 2, a 3, a 4, a 5]), (gb, cel [b 0, b 1, b 2, b 3, b 4, b 5])]) : Calls Tryz.prog 189 #[.int .i64 0, .int .i64 2, PT ga 0, PT gb 0] w fun e w' => e = .returned (V [lh (zz ((((a 0 + a 4) : Nat) : Int) * ((b 0 + b 4) : Nat) - (((a 1 + a 5) : Nat) : Int) * ((b 1 + b 5) : Nat)) ((((a 0 + a 4) : Nat) : Int) * ((b 1 + b 5) : Nat) + (((a 1 + a 5) : Nat) : Int) * ((b 0 + b 4) : Nat))) 0, lh (zz ((((a 0 + a 4) : Nat) : Int) * ((b 0 + b 4) : Nat) - (((a 1 + a 5) : Nat) : Int) * ((b 1 + b 5) : Nat)) ((((a 0 + a 4) : Nat) : Int) * ((b 1 + b 5) : Nat) + (((a 1 + a 5) : Nat) : Int) * ((b 0 + b 4) : Nat))) 1, lh (zz ((((a 0 + a 4) : Nat) : Int) * ((b 0 + b 4) : Nat) - (((a 1 + a 5) : Nat) : Int) * ((b 1 + b 5) : Nat)) ((((a 0 + a 4) : Nat) : Int) * ((b 1 + b 5) : Nat) + (((a 1 + a 5) : Nat) : Int) * ((b 0 + b 4) : Nat))) 2, lh (zz ((((a 0 + a 4) : Nat) : Int) * ((b 0 + b 4) : Nat) - (((a 1 + a 5) : Nat) : Int) * ((b 1 + b 5) : Nat)) ((((a 0 + a 4) : Nat) : Int) * ((b 1 + b 5) : Nat) + (((a 1 + a 5) : Nat) : Int) * ((b 0 + b 4) : Nat))) 3]) ∧ Below w.heap.size w w' := by
  have h9 := nine_p
  have a0 := ha 0 (by decide)
  have b0 := hb 0 (by decide)
  have a1 := ha 1 (by decide)
  have b1 := hb 1 (by decide)
  have a4 := ha 4 (by decide)
  have b4 := hb 4 (by decide)
  have a5 := ha 5 (by decide)
  have b5 := hb 5 (by decide)
  exact cross_02 a b ga gb _ _ _ _ _ _ _ _ (fun w => together2_any _ _ _ _ (by omega) (by omega) w) (fun w => together2_any _ _ _ _ (by omega) (by omega) w) (fun w => times2_anyZ _ _ _ _ (by omega) (by omega) w) w hm
def t3z (a b : Nat → Int) : Nat → Int
  | 0 => m0 a b 0 0 + ((m0 a b 1 2 + m0 a b 2 1) - (m1 a b 1 2 + m1 a b 2 1))
  | 1 => m1 a b 0 0 + ((m0 a b 1 2 + m0 a b 2 1) + (m1 a b 1 2 + m1 a b 2 1))
  | 2 => m0 a b 0 1 + m0 a b 1 0 + ((m0 a b 2 2) - (m1 a b 2 2))
  | 3 => m1 a b 0 1 + m1 a b 1 0 + ((m0 a b 2 2) + (m1 a b 2 2))
  | 4 => m0 a b 0 2 + m0 a b 1 1 + m0 a b 2 0
  | 5 => m1 a b 0 2 + m1 a b 1 1 + m1 a b 2 0
  | _ => 0
theorem lh_list (x y z t : Nat → Int) (e : ∀ i, i < 2 → x i = t i ∧ y i = t (i + 2) ∧ z i = t (i + 4)) : [lh x 0, lh x 1, lh x 2, lh x 3, lh y 0, lh y 1, lh y 2, lh y 3, lh z 0, lh z 1, lh z 2, lh z 3] = [lh t 0, lh t 1, lh t 2, lh t 3, lh t 4, lh t 5, lh t 6, lh t 7, lh t 8, lh t 9, lh t 10, lh t 11] := by
  obtain ⟨e0, e2, e4⟩ := e 0 (by decide)
  obtain ⟨e1, e3, e5⟩ := e 1 (by decide)
  show [lo (x 0), hi (x 0), lo (x 1), hi (x 1), lo (y 0), hi (y 0), lo (y 1), hi (y 1), lo (z 0), hi (z 0), lo (z 1), hi (z 1)] = [lo (t 0), hi (t 0), lo (t 1), hi (t 1), lo (t 2), hi (t 2), lo (t 3), hi (t 3), lo (t 4), hi (t 4), lo (t 5), hi (t 5)]
  rw [e0, e1, e2, e3, e4, e5]
set_option maxHeartbeats 2000000 in
theorem times3_any (a b : Nat → Nat) (ha : ∀ j, j < 6 → a j < 2 * pB) (hb : ∀ j, j < 6 → b j < 2 * pB) (w : World) : Calls Tryz.prog 126 #[V [a 0, a 1, a 2, a 3, a 4, a 5], V [b 0, b 1, b 2, b 3, b 4, b 5]] w fun e w' => e = .returned (V [lh (t3z (zn a) (zn b)) 0, lh (t3z (zn a) (zn b)) 1, lh (t3z (zn a) (zn b)) 2, lh (t3z (zn a) (zn b)) 3, lh (t3z (zn a) (zn b)) 4, lh (t3z (zn a) (zn b)) 5, lh (t3z (zn a) (zn b)) 6, lh (t3z (zn a) (zn b)) 7, lh (t3z (zn a) (zn b)) 8, lh (t3z (zn a) (zn b)) 9, lh (t3z (zn a) (zn b)) 10, lh (t3z (zn a) (zn b)) 11]) ∧ Below w.heap.size w w' := by
  have h9 := nine_p
  have a0 := ha 0 (by decide)
  have b0 := hb 0 (by decide)
  have a1 := ha 1 (by decide)
  have b1 := hb 1 (by decide)
  have a2 := ha 2 (by decide)
  have b2 := hb 2 (by decide)
  have a3 := ha 3 (by decide)
  have b3 := hb 3 (by decide)
  have a4 := ha 4 (by decide)
  have b4 := hb 4 (by decide)
  have a5 := ha 5 (by decide)
  have b5 := hb 5 (by decide)
  have h := times3_gen a b (lh (zz ((a 0 : Int) * b 0 - (a 1 : Int) * b 1) ((a 0 : Int) * b 1 + (a 1 : Int) * b 0))) (lh (zz ((a 2 : Int) * b 2 - (a 3 : Int) * b 3) ((a 2 : Int) * b 3 + (a 3 : Int) * b 2))) (lh (zz ((a 4 : Int) * b 4 - (a 5 : Int) * b 5) ((a 4 : Int) * b 5 + (a 5 : Int) * b 4))) (lh (zz ((((a 2 + a 4) : Nat) : Int) * ((b 2 + b 4) : Nat) - (((a 3 + a 5) : Nat) : Int) * ((b 3 + b 5) : Nat)) ((((a 2 + a 4) : Nat) : Int) * ((b 3 + b 5) : Nat) + (((a 3 + a 5) : Nat) : Int) * ((b 2 + b 4) : Nat)))) (lh (zz ((((a 0 + a 2) : Nat) : Int) * ((b 0 + b 2) : Nat) - (((a 1 + a 3) : Nat) : Int) * ((b 1 + b 3) : Nat)) ((((a 0 + a 2) : Nat) : Int) * ((b 1 + b 3) : Nat) + (((a 1 + a 3) : Nat) : Int) * ((b 0 + b 2) : Nat)))) (lh (zz ((((a 0 + a 4) : Nat) : Int) * ((b 0 + b 4) : Nat) - (((a 1 + a 5) : Nat) : Int) * ((b 1 + b 5) : Nat)) ((((a 0 + a 4) : Nat) : Int) * ((b 1 + b 5) : Nat) + (((a 1 + a 5) : Nat) : Int) * ((b 0 + b 4) : Nat)))) (lh (fun i => (zz ((((a 2 + a 4) : Nat) : Int) * ((b 2 + b 4) : Nat) - (((a 3 + a 5) : Nat) : Int) * ((b 3 + b 5) : Nat)) ((((a 2 + a 4) : Nat) : Int) * ((b 3 + b 5) : Nat) + (((a 3 + a 5) : Nat) : Int) * ((b 2 + b 4) : Nat))) i - (zz ((a 2 : Int) * b 2 - (a 3 : Int) * b 3) ((a 2 : Int) * b 3 + (a 3 : Int) * b 2)) i)) (lh (fun i => (fun i => (zz ((((a 2 + a 4) : Nat) : Int) * ((b 2 + b 4) : Nat) - (((a 3 + a 5) : Nat) : Int) * ((b 3 + b 5) : Nat)) ((((a 2 + a 4) : Nat) : Int) * ((b 3 + b 5) : Nat) + (((a 3 + a 5) : Nat) : Int) * ((b 2 + b 4) : Nat))) i - (zz ((a 2 : Int) * b 2 - (a 3 : Int) * b 3) ((a 2 : Int) * b 3 + (a 3 : Int) * b 2)) i) i - (zz ((a 4 : Int) * b 4 - (a 5 : Int) * b 5) ((a 4 : Int) * b 5 + (a 5 : Int) * b 4)) i)) (lh (rsd (fun i => (fun i => (zz ((((a 2 + a 4) : Nat) : Int) * ((b 2 + b 4) : Nat) - (((a 3 + a 5) : Nat) : Int) * ((b 3 + b 5) : Nat)) ((((a 2 + a 4) : Nat) : Int) * ((b 3 + b 5) : Nat) + (((a 3 + a 5) : Nat) : Int) * ((b 2 + b 4) : Nat))) i - (zz ((a 2 : Int) * b 2 - (a 3 : Int) * b 3) ((a 2 : Int) * b 3 + (a 3 : Int) * b 2)) i) i - (zz ((a 4 : Int) * b 4 - (a 5 : Int) * b 5) ((a 4 : Int) * b 5 + (a 5 : Int) * b 4)) i))) (lh (fun i => (zz ((a 0 : Int) * b 0 - (a 1 : Int) * b 1) ((a 0 : Int) * b 1 + (a 1 : Int) * b 0)) i + (rsd (fun i => (fun i => (zz ((((a 2 + a 4) : Nat) : Int) * ((b 2 + b 4) : Nat) - (((a 3 + a 5) : Nat) : Int) * ((b 3 + b 5) : Nat)) ((((a 2 + a 4) : Nat) : Int) * ((b 3 + b 5) : Nat) + (((a 3 + a 5) : Nat) : Int) * ((b 2 + b 4) : Nat))) i - (zz ((a 2 : Int) * b 2 - (a 3 : Int) * b 3) ((a 2 : Int) * b 3 + (a 3 : Int) * b 2)) i) i - (zz ((a 4 : Int) * b 4 - (a 5 : Int) * b 5) ((a 4 : Int) * b 5 + (a 5 : Int) * b 4)) i)) i)) (lh (fun i => (zz ((((a 0 + a 2) : Nat) : Int) * ((b 0 + b 2) : Nat) - (((a 1 + a 3) : Nat) : Int) * ((b 1 + b 3) : Nat)) ((((a 0 + a 2) : Nat) : Int) * ((b 1 + b 3) : Nat) + (((a 1 + a 3) : Nat) : Int) * ((b 0 + b 2) : Nat))) i - (zz ((a 0 : Int) * b 0 - (a 1 : Int) * b 1) ((a 0 : Int) * b 1 + (a 1 : Int) * b 0)) i)) (lh (fun i => (fun i => (zz ((((a 0 + a 2) : Nat) : Int) * ((b 0 + b 2) : Nat) - (((a 1 + a 3) : Nat) : Int) * ((b 1 + b 3) : Nat)) ((((a 0 + a 2) : Nat) : Int) * ((b 1 + b 3) : Nat) + (((a 1 + a 3) : Nat) : Int) * ((b 0 + b 2) : Nat))) i - (zz ((a 0 : Int) * b 0 - (a 1 : Int) * b 1) ((a 0 : Int) * b 1 + (a 1 : Int) * b 0)) i) i - (zz ((a 2 : Int) * b 2 - (a 3 : Int) * b 3) ((a 2 : Int) * b 3 + (a 3 : Int) * b 2)) i)) (lh (rsd (zz ((a 4 : Int) * b 4 - (a 5 : Int) * b 5) ((a 4 : Int) * b 5 + (a 5 : Int) * b 4)))) (lh (fun i => (fun i => (fun i => (zz ((((a 0 + a 2) : Nat) : Int) * ((b 0 + b 2) : Nat) - (((a 1 + a 3) : Nat) : Int) * ((b 1 + b 3) : Nat)) ((((a 0 + a 2) : Nat) : Int) * ((b 1 + b 3) : Nat) + (((a 1 + a 3) : Nat) : Int) * ((b 0 + b 2) : Nat))) i - (zz ((a 0 : Int) * b 0 - (a 1 : Int) * b 1) ((a 0 : Int) * b 1 + (a 1 : Int) * b 0)) i) i - (zz ((a 2 : Int) * b 2 - (a 3 : Int) * b 3) ((a 2 : Int) * b 3 + (a 3 : Int) * b 2)) i) i + (rsd (zz ((a 4 : Int) * b 4 - (a 5 : Int) * b 5) ((a 4 : Int) * b 5 + (a 5 : Int) * b 4))) i)) (lh (fun i => (zz ((((a 0 + a 4) : Nat) : Int) * ((b 0 + b 4) : Nat) - (((a 1 + a 5) : Nat) : Int) * ((b 1 + b 5) : Nat)) ((((a 0 + a 4) : Nat) : Int) * ((b 1 + b 5) : Nat) + (((a 1 + a 5) : Nat) : Int) * ((b 0 + b 4) : Nat))) i - (zz ((a 0 : Int) * b 0 - (a 1 : Int) * b 1) ((a 0 : Int) * b 1 + (a 1 : Int) * b 0)) i)) (lh (fun i => (fun i => (zz ((((a 0 + a 4) : Nat) : Int) * ((b 0 + b 4) : Nat) - (((a 1 + a 5) : Nat) : Int) * ((b 1 + b 5) : Nat)) ((((a 0 + a 4) : Nat) : Int) * ((b 1 + b 5) : Nat) + (((a 1 + a 5) : Nat) : Int) * ((b 0 + b 4) : Nat))) i - (zz ((a 0 : Int) * b 0 - (a 1 : Int) * b 1) ((a 0 : Int) * b 1 + (a 1 : Int) * b 0)) i) i - (zz ((a 4 : Int) * b 4 - (a 5 : Int) * b 5) ((a 4 : Int) * b 5 + (a 5 : Int) * b 4)) i)) (lh (fun i => (fun i => (fun i => (zz ((((a 0 + a 4) : Nat) : Int) * ((b 0 + b 4) : Nat) - (((a 1 + a 5) : Nat) : Int) * ((b 1 + b 5) : Nat)) ((((a 0 + a 4) : Nat) : Int) * ((b 1 + b 5) : Nat) + (((a 1 + a 5) : Nat) : Int) * ((b 0 + b 4) : Nat))) i - (zz ((a 0 : Int) * b 0 - (a 1 : Int) * b 1) ((a 0 : Int) * b 1 + (a 1 : Int) * b 0)) i) i - (zz ((a 4 : Int) * b 4 - (a 5 : Int) * b 5) ((a 4 : Int) * b 5 + (a 5 : Int) * b 4)) i) i + (zz ((a 2 : Int) * b 2 - (a 3 : Int) * b 3) ((a 2 : Int) * b 3 + (a 3 : Int) * b 2)) i)) (fun w => times2_anyZ _ _ _ _ (by omega) (by omega) w) (fun w => times2_anyZ _ _ _ _ (by omega) (by omega) w) (fun w => times2_anyZ _ _ _ _ (by omega) (by omega) w)
    (fun ga gb w hm => cross_any12 a b ha hb ga gb w hm) (fun ga gb w hm => cross_any01 a b ha hb ga gb w hm) (fun ga gb w hm => cross_any02 a b ha hb ga gb w hm)
    (fun w => less2_any _ _ w) (fun w => less2_any _ _ w) (fun w => raised_any _ w) (fun w => plus2_any _ _ w) (fun w => less2_any _ _ w) (fun w => less2_any _ _ w) (fun w => raised_any _ w) (fun w => plus2_any _ _ w) (fun w => less2_any _ _ w) (fun w => less2_any _ _ w) (fun w => plus2_any _ _ w) w
  have e : ∀ i, i < 2 → (fun i => (zz ((a 0 : Int) * b 0 - (a 1 : Int) * b 1) ((a 0 : Int) * b 1 + (a 1 : Int) * b 0)) i + (rsd (fun i => (fun i => (zz ((((a 2 + a 4) : Nat) : Int) * ((b 2 + b 4) : Nat) - (((a 3 + a 5) : Nat) : Int) * ((b 3 + b 5) : Nat)) ((((a 2 + a 4) : Nat) : Int) * ((b 3 + b 5) : Nat) + (((a 3 + a 5) : Nat) : Int) * ((b 2 + b 4) : Nat))) i - (zz ((a 2 : Int) * b 2 - (a 3 : Int) * b 3) ((a 2 : Int) * b 3 + (a 3 : Int) * b 2)) i) i - (zz ((a 4 : Int) * b 4 - (a 5 : Int) * b 5) ((a 4 : Int) * b 5 + (a 5 : Int) * b 4)) i)) i) i = t3z (zn a) (zn b) i ∧ (fun i => (fun i => (fun i => (zz ((((a 0 + a 2) : Nat) : Int) * ((b 0 + b 2) : Nat) - (((a 1 + a 3) : Nat) : Int) * ((b 1 + b 3) : Nat)) ((((a 0 + a 2) : Nat) : Int) * ((b 1 + b 3) : Nat) + (((a 1 + a 3) : Nat) : Int) * ((b 0 + b 2) : Nat))) i - (zz ((a 0 : Int) * b 0 - (a 1 : Int) * b 1) ((a 0 : Int) * b 1 + (a 1 : Int) * b 0)) i) i - (zz ((a 2 : Int) * b 2 - (a 3 : Int) * b 3) ((a 2 : Int) * b 3 + (a 3 : Int) * b 2)) i) i + (rsd (zz ((a 4 : Int) * b 4 - (a 5 : Int) * b 5) ((a 4 : Int) * b 5 + (a 5 : Int) * b 4))) i) i = t3z (zn a) (zn b) (i + 2) ∧ (fun i => (fun i => (fun i => (zz ((((a 0 + a 4) : Nat) : Int) * ((b 0 + b 4) : Nat) - (((a 1 + a 5) : Nat) : Int) * ((b 1 + b 5) : Nat)) ((((a 0 + a 4) : Nat) : Int) * ((b 1 + b 5) : Nat) + (((a 1 + a 5) : Nat) : Int) * ((b 0 + b 4) : Nat))) i - (zz ((a 0 : Int) * b 0 - (a 1 : Int) * b 1) ((a 0 : Int) * b 1 + (a 1 : Int) * b 0)) i) i - (zz ((a 4 : Int) * b 4 - (a 5 : Int) * b 5) ((a 4 : Int) * b 5 + (a 5 : Int) * b 4)) i) i + (zz ((a 2 : Int) * b 2 - (a 3 : Int) * b 3) ((a 2 : Int) * b 3 + (a 3 : Int) * b 2)) i) i = t3z (zn a) (zn b) (i + 4) := fun i hi => by
    match i, hi with
    | 0, _ =>
      simp only [zz, rsd, t3z, zn, m0, m1, Nat.reduceMul, Nat.reduceAdd, Int.natCast_add]
      refine ⟨?_, ?_, ?_⟩ <;> grind
    | 1, _ =>
      simp only [zz, rsd, t3z, zn, m0, m1, Nat.reduceMul, Nat.reduceAdd, Int.natCast_add]
      refine ⟨?_, ?_, ?_⟩ <;> grind
  rw [lh_list _ _ _ _ e] at h
  exact h
/-! Within what rest takes. -/
theorem wi_two {x y u v : Int} {p : Int} (hx : 0 ≤ x ∧ x ≤ p) (hy : 0 ≤ y ∧ y ≤ p) (hu : 0 ≤ u ∧ u ≤ p) (hv : 0 ≤ v ∧ v ≤ p) :
    (-(p * p) ≤ x * u - y * v ∧ x * u - y * v ≤ p * p) ∧ (0 ≤ x * v + y * u ∧ x * v + y * u ≤ 2 * (p * p)) ∧ (-(2 * (p * p)) ≤ x * u - y * v - (x * v + y * u) ∧ x * u - y * v - (x * v + y * u) ≤ p * p) ∧ (-(p * p) ≤ x * u - y * v + (x * v + y * u) ∧ x * u - y * v + (x * v + y * u) ≤ 2 * (p * p)) := by
  have pr : ∀ {s t : Int}, (0 ≤ s ∧ s ≤ p) → (0 ≤ t ∧ t ≤ p) → 0 ≤ s * t ∧ 0 ≤ (p - s) * t ∧ 0 ≤ s * (p - t) ∧ 0 ≤ (p - s) * (p - t) := fun hs ht => ⟨Int.mul_nonneg hs.1 ht.1, Int.mul_nonneg (by omega) ht.1, Int.mul_nonneg hs.1 (by omega), Int.mul_nonneg (by omega) (by omega)⟩
  have xu := pr hx hu
  have yv := pr hy hv
  have xv := pr hx hv
  have yu := pr hy hu
  simp only [Int.sub_mul, Int.mul_sub] at xu yv xv yu
  have c : ∀ s t : Int, p * t = t * p := fun s t => Int.mul_comm _ _
  rw [Int.mul_comm p u, Int.mul_comm p v] at *
  omega
theorem wi12 (a b : Nat → Int) (ha : ∀ j, 0 ≤ a j ∧ a j ≤ (pB : Int)) (hb : ∀ j, 0 ≤ b j ∧ b j ≤ (pB : Int)) : ∀ j, j < 12 → Wi (mul12 a b j) := by
  have hw : ∀ i j, (-((pB : Int) * pB) ≤ m0 a b i j ∧ m0 a b i j ≤ (pB : Int) * pB) ∧ (0 ≤ m1 a b i j ∧ m1 a b i j ≤ 2 * ((pB : Int) * pB)) ∧ (-(2 * ((pB : Int) * pB)) ≤ m0 a b i j - m1 a b i j ∧ m0 a b i j - m1 a b i j ≤ (pB : Int) * pB) ∧ (-((pB : Int) * pB) ≤ m0 a b i j + m1 a b i j ∧ m0 a b i j + m1 a b i j ≤ 2 * ((pB : Int) * pB)) := fun i j => wi_two (ha _) (ha _) (hb _) (hb _)
  have hp : 0 ≤ (pB : Int) * pB := Int.mul_nonneg (Int.natCast_nonneg _) (Int.natCast_nonneg _)
  intro j hj
  unfold Wi
  match j, hj with
  | 0, _ =>
    simp only [mul12]
    have := hw 0 0
    have := hw 1 5
    have := hw 2 4
    have := hw 3 3
    have := hw 4 2
    have := hw 5 1
    omega
  | 1, _ =>
    simp only [mul12]
    have := hw 0 0
    have := hw 1 5
    have := hw 2 4
    have := hw 3 3
    have := hw 4 2
    have := hw 5 1
    omega
  | 2, _ =>
    simp only [mul12]
    have := hw 0 1
    have := hw 1 0
    have := hw 2 5
    have := hw 3 4
    have := hw 4 3
    have := hw 5 2
    omega
  | 3, _ =>
    simp only [mul12]
    have := hw 0 1
    have := hw 1 0
    have := hw 2 5
    have := hw 3 4
    have := hw 4 3
    have := hw 5 2
    omega
  | 4, _ =>
    simp only [mul12]
    have := hw 0 2
    have := hw 1 1
    have := hw 2 0
    have := hw 3 5
    have := hw 4 4
    have := hw 5 3
    omega
  | 5, _ =>
    simp only [mul12]
    have := hw 0 2
    have := hw 1 1
    have := hw 2 0
    have := hw 3 5
    have := hw 4 4
    have := hw 5 3
    omega
  | 6, _ =>
    simp only [mul12]
    have := hw 0 3
    have := hw 1 2
    have := hw 2 1
    have := hw 3 0
    have := hw 4 5
    have := hw 5 4
    omega
  | 7, _ =>
    simp only [mul12]
    have := hw 0 3
    have := hw 1 2
    have := hw 2 1
    have := hw 3 0
    have := hw 4 5
    have := hw 5 4
    omega
  | 8, _ =>
    simp only [mul12]
    have := hw 0 4
    have := hw 1 3
    have := hw 2 2
    have := hw 3 1
    have := hw 4 0
    have := hw 5 5
    omega
  | 9, _ =>
    simp only [mul12]
    have := hw 0 4
    have := hw 1 3
    have := hw 2 2
    have := hw 3 1
    have := hw 4 0
    have := hw 5 5
    omega
  | 10, _ =>
    simp only [mul12]
    have := hw 0 5
    have := hw 1 4
    have := hw 2 3
    have := hw 3 2
    have := hw 4 1
    have := hw 5 0
    omega
  | 11, _ =>
    simp only [mul12]
    have := hw 0 5
    have := hw 1 4
    have := hw 2 3
    have := hw 3 2
    have := hw 4 1
    have := hw 5 0
    omega
def ei : Nat → Nat
  | 0 => 0
  | 1 => 1
  | 2 => 4
  | 3 => 5
  | 4 => 8
  | _ => 9
def oi : Nat → Nat
  | 0 => 2
  | 1 => 3
  | 2 => 6
  | 3 => 7
  | 4 => 10
  | _ => 11
def pup (o : Nat → Int) : Nat → Int
  | 0 => o 4 - o 5
  | 1 => o 4 + o 5
  | 2 => o 0
  | 3 => o 1
  | 4 => o 2
  | 5 => o 3
  | _ => 0
def rw12 (x z : Nat → Int) : Nat → Int
  | 0 => x 0
  | 1 => x 1
  | 2 => z 0
  | 3 => z 1
  | 4 => x 2
  | 5 => x 3
  | 6 => z 2
  | 7 => z 3
  | 8 => x 4
  | 9 => x 5
  | 10 => z 4
  | 11 => z 5
  | _ => 0
theorem rest2F_any {g : Nat} (x y : Int) (hx : Wi x) (hy : Wi y) (w : World) (hm : Mm w [(g, modc pB)]) : Calls Tryz.prog 129 #[.agg #[PT g 0], V [lo x, hi x, lo y, hi y]] w fun e w' => e = .returned (V [pz x, pz y]) ∧ Below w.heap.size w w' :=
  rest2_gen g pB (big % pB) (big * big % pB) _ _ _ _ _ _ (fun w hm => restF_any (g := g) x hx w hm) (fun w hm => restF_any (g := g) y hy w hm) w hm
def xE (a b : Nat → Nat) : Nat → Int := fun i => (t3z (zn (fun j => a (ei j))) (zn (fun j => b (ei j)))) i + pup (t3z (zn (fun j => a (oi j))) (zn (fun j => b (oi j)))) i
def zO (a b : Nat → Nat) : Nat → Int := fun i => (t3z (zn (fun j => a (ei j) + a (oi j))) (zn (fun j => b (ei j) + b (oi j)))) i - (t3z (zn (fun j => a (ei j))) (zn (fun j => b (ei j)))) i - (t3z (zn (fun j => a (oi j))) (zn (fun j => b (oi j)))) i
theorem prod_0 (a b : Nat → Nat) : xE a b 0 = mul12 (zn a) (zn b) 0 := by
  simp only [xE, pup, mul12, t3z, m0, m1, zn, ei, oi, Nat.reduceMul, Nat.reduceAdd]
  grind
theorem prod_1 (a b : Nat → Nat) : xE a b 1 = mul12 (zn a) (zn b) 1 := by
  simp only [xE, pup, mul12, t3z, m0, m1, zn, ei, oi, Nat.reduceMul, Nat.reduceAdd]
  grind
theorem prod_2 (a b : Nat → Nat) : zO a b 0 = mul12 (zn a) (zn b) 2 := by
  simp only [zO, mul12, t3z, m0, m1, zn, ei, oi, Nat.reduceMul, Nat.reduceAdd, Int.natCast_add]
  grind
theorem prod_3 (a b : Nat → Nat) : zO a b 1 = mul12 (zn a) (zn b) 3 := by
  simp only [zO, mul12, t3z, m0, m1, zn, ei, oi, Nat.reduceMul, Nat.reduceAdd, Int.natCast_add]
  grind
theorem prod_4 (a b : Nat → Nat) : xE a b 2 = mul12 (zn a) (zn b) 4 := by
  simp only [xE, pup, mul12, t3z, m0, m1, zn, ei, oi, Nat.reduceMul, Nat.reduceAdd]
  grind
theorem prod_5 (a b : Nat → Nat) : xE a b 3 = mul12 (zn a) (zn b) 5 := by
  simp only [xE, pup, mul12, t3z, m0, m1, zn, ei, oi, Nat.reduceMul, Nat.reduceAdd]
  grind
theorem prod_6 (a b : Nat → Nat) : zO a b 2 = mul12 (zn a) (zn b) 6 := by
  simp only [zO, mul12, t3z, m0, m1, zn, ei, oi, Nat.reduceMul, Nat.reduceAdd, Int.natCast_add]
  grind
theorem prod_7 (a b : Nat → Nat) : zO a b 3 = mul12 (zn a) (zn b) 7 := by
  simp only [zO, mul12, t3z, m0, m1, zn, ei, oi, Nat.reduceMul, Nat.reduceAdd, Int.natCast_add]
  grind
theorem prod_8 (a b : Nat → Nat) : xE a b 4 = mul12 (zn a) (zn b) 8 := by
  simp only [xE, pup, mul12, t3z, m0, m1, zn, ei, oi, Nat.reduceMul, Nat.reduceAdd]
  grind
theorem prod_9 (a b : Nat → Nat) : xE a b 5 = mul12 (zn a) (zn b) 9 := by
  simp only [xE, pup, mul12, t3z, m0, m1, zn, ei, oi, Nat.reduceMul, Nat.reduceAdd]
  grind
theorem prod_10 (a b : Nat → Nat) : zO a b 4 = mul12 (zn a) (zn b) 10 := by
  simp only [zO, mul12, t3z, m0, zn, ei, oi, Nat.reduceMul, Nat.reduceAdd, Int.natCast_add]
  grind
theorem prod_11 (a b : Nat → Nat) : zO a b 5 = mul12 (zn a) (zn b) 11 := by
  simp only [zO, mul12, t3z, m1, zn, ei, oi, Nat.reduceMul, Nat.reduceAdd, Int.natCast_add]
  grind
set_option maxHeartbeats 2000000 in
theorem mulN_any {g : Nat} (a b : Nat → Nat) (ha : ∀ j, a j < pB) (hb : ∀ j, b j < pB) (w : World) (hm : Mm w [(g, modc pB)]) : Calls Tryz.prog 62 #[.agg #[PT g 0], V (tl a), V (tl b)] w fun e w' => e = .returned (V (lz (mul12 (zn a) (zn b)))) ∧ Below w.heap.size w w' := by
  have h9 := nine_p
  have la : ∀ j, 0 ≤ zn a j ∧ zn a j ≤ (pB : Int) := fun j => by have := ha j; unfold zn; omega
  have lb : ∀ j, 0 ≤ zn b j ∧ zn b j ≤ (pB : Int) := fun j => by have := hb j; unfold zn; omega
  have hw := wi12 (zn a) (zn b) la lb
  have wx : ∀ i, i < 6 → Wi (xE a b i) ∧ Wi (zO a b i) := fun i hi => by
    match i, hi with
    | 0, _ => exact ⟨by rw [prod_0]; exact hw _ (by decide), by rw [prod_2]; exact hw _ (by decide)⟩
    | 1, _ => exact ⟨by rw [prod_1]; exact hw _ (by decide), by rw [prod_3]; exact hw _ (by decide)⟩
    | 2, _ => exact ⟨by rw [prod_4]; exact hw _ (by decide), by rw [prod_6]; exact hw _ (by decide)⟩
    | 3, _ => exact ⟨by rw [prod_5]; exact hw _ (by decide), by rw [prod_7]; exact hw _ (by decide)⟩
    | 4, _ => exact ⟨by rw [prod_8]; exact hw _ (by decide), by rw [prod_10]; exact hw _ (by decide)⟩
    | 5, _ => exact ⟨by rw [prod_9]; exact hw _ (by decide), by rw [prod_11]; exact hw _ (by decide)⟩
  have h := mulF12_gen a b (lh (t3z (zn (fun j => a (ei j))) (zn (fun j => b (ei j))))) (lh (t3z (zn (fun j => a (oi j))) (zn (fun j => b (oi j))))) (fun j => a (ei j) + a (oi j)) (fun j => b (ei j) + b (oi j)) (lh (t3z (zn (fun j => a (ei j) + a (oi j))) (zn (fun j => b (ei j) + b (oi j))))) (lh (rsd (fun i => (t3z (zn (fun j => a (oi j))) (zn (fun j => b (oi j)))) (i + 4)))) (lh (pup (t3z (zn (fun j => a (oi j))) (zn (fun j => b (oi j)))))) (lh (xE a b)) (lh (fun i => (t3z (zn (fun j => a (ei j) + a (oi j))) (zn (fun j => b (ei j) + b (oi j)))) i - (t3z (zn (fun j => a (ei j))) (zn (fun j => b (ei j)))) i)) (lh (zO a b)) (fun j => pz (rw12 (xE a b) (zO a b) j)) g pB (big % pB) (big * big % pB)
    (fun w => times3_any (fun j => a (ei j)) (fun j => b (ei j)) (fun j _ => by have := ha (ei j); omega) (fun j _ => by have := hb (ei j); omega) w)
    (fun w => times3_any (fun j => a (oi j)) (fun j => b (oi j)) (fun j _ => by have := ha (oi j); omega) (fun j _ => by have := hb (oi j); omega) w)
    (fun w => three_any (fun j => a (ei j)) (fun j => a (oi j)) (fun j _ => by have := ha (ei j); have := ha (oi j); omega) w)
    (fun w => three_any (fun j => b (ei j)) (fun j => b (oi j)) (fun j _ => by have := hb (ei j); have := hb (oi j); omega) w)
    (fun w => times3_any (fun j => a (ei j) + a (oi j)) (fun j => b (ei j) + b (oi j)) (fun j _ => by have := ha (ei j); have := ha (oi j); omega) (fun j _ => by have := hb (ei j); have := hb (oi j); omega) w)
    (fun w => raised_any (fun i => (t3z (zn (fun j => a (oi j))) (zn (fun j => b (oi j)))) (i + 4)) w) rfl
    (fun k hk w => by
      match k, hk with
      | 0, _ => exact plus2_any (fun i => (t3z (zn (fun j => a (ei j))) (zn (fun j => b (ei j)))) (i + 0)) (fun i => pup (t3z (zn (fun j => a (oi j))) (zn (fun j => b (oi j)))) (i + 0)) w
      | 1, _ => exact plus2_any (fun i => (t3z (zn (fun j => a (ei j))) (zn (fun j => b (ei j)))) (i + 2)) (fun i => pup (t3z (zn (fun j => a (oi j))) (zn (fun j => b (oi j)))) (i + 2)) w
      | 2, _ => exact plus2_any (fun i => (t3z (zn (fun j => a (ei j))) (zn (fun j => b (ei j)))) (i + 4)) (fun i => pup (t3z (zn (fun j => a (oi j))) (zn (fun j => b (oi j)))) (i + 4)) w
    )
    (fun k hk w hm => by
      match k, hk with
      | 0, _ => exact rest2F_any _ _ (wx 0 (by decide)).1 (wx 1 (by decide)).1 w hm
      | 1, _ => exact rest2F_any _ _ (wx 2 (by decide)).1 (wx 3 (by decide)).1 w hm
      | 2, _ => exact rest2F_any _ _ (wx 4 (by decide)).1 (wx 5 (by decide)).1 w hm
    )
    (fun k hk w => by
      match k, hk with
      | 0, _ => exact less2_any (fun i => (t3z (zn (fun j => a (ei j) + a (oi j))) (zn (fun j => b (ei j) + b (oi j)))) (i + 0)) (fun i => (t3z (zn (fun j => a (ei j))) (zn (fun j => b (ei j)))) (i + 0)) w
      | 1, _ => exact less2_any (fun i => (t3z (zn (fun j => a (ei j) + a (oi j))) (zn (fun j => b (ei j) + b (oi j)))) (i + 2)) (fun i => (t3z (zn (fun j => a (ei j))) (zn (fun j => b (ei j)))) (i + 2)) w
      | 2, _ => exact less2_any (fun i => (t3z (zn (fun j => a (ei j) + a (oi j))) (zn (fun j => b (ei j) + b (oi j)))) (i + 4)) (fun i => (t3z (zn (fun j => a (ei j))) (zn (fun j => b (ei j)))) (i + 4)) w
    )
    (fun k hk w => by
      match k, hk with
      | 0, _ => exact less2_any (fun i => (t3z (zn (fun j => a (ei j) + a (oi j))) (zn (fun j => b (ei j) + b (oi j)))) (i + 0) - (t3z (zn (fun j => a (ei j))) (zn (fun j => b (ei j)))) (i + 0)) (fun i => (t3z (zn (fun j => a (oi j))) (zn (fun j => b (oi j)))) (i + 0)) w
      | 1, _ => exact less2_any (fun i => (t3z (zn (fun j => a (ei j) + a (oi j))) (zn (fun j => b (ei j) + b (oi j)))) (i + 2) - (t3z (zn (fun j => a (ei j))) (zn (fun j => b (ei j)))) (i + 2)) (fun i => (t3z (zn (fun j => a (oi j))) (zn (fun j => b (oi j)))) (i + 2)) w
      | 2, _ => exact less2_any (fun i => (t3z (zn (fun j => a (ei j) + a (oi j))) (zn (fun j => b (ei j) + b (oi j)))) (i + 4) - (t3z (zn (fun j => a (ei j))) (zn (fun j => b (ei j)))) (i + 4)) (fun i => (t3z (zn (fun j => a (oi j))) (zn (fun j => b (oi j)))) (i + 4)) w
    )
    (fun k hk w hm => by
      match k, hk with
      | 0, _ => exact rest2F_any _ _ (wx 0 (by decide)).2 (wx 1 (by decide)).2 w hm
      | 1, _ => exact rest2F_any _ _ (wx 2 (by decide)).2 (wx 3 (by decide)).2 w hm
      | 2, _ => exact rest2F_any _ _ (wx 4 (by decide)).2 (wx 5 (by decide)).2 w hm
    )
    w hm
  have e : [pz (rw12 (xE a b) (zO a b) 0), pz (rw12 (xE a b) (zO a b) 1), pz (rw12 (xE a b) (zO a b) 2), pz (rw12 (xE a b) (zO a b) 3), pz (rw12 (xE a b) (zO a b) 4), pz (rw12 (xE a b) (zO a b) 5), pz (rw12 (xE a b) (zO a b) 6), pz (rw12 (xE a b) (zO a b) 7), pz (rw12 (xE a b) (zO a b) 8), pz (rw12 (xE a b) (zO a b) 9), pz (rw12 (xE a b) (zO a b) 10), pz (rw12 (xE a b) (zO a b) 11)] = lz (mul12 (zn a) (zn b)) := by
    simp only [rw12, lz, prod_0, prod_1, prod_2, prod_3, prod_4, prod_5, prod_6, prod_7, prod_8, prod_9, prod_10, prod_11]
  rw [e] at h
  exact h
end Rg
end Go.Proofs.YtdbejmgomajjmaaGreatDoor
end
section
namespace Go.Proofs.YtdbejmgomajjmaaGreatDoor
open Go.RowKit
set_option maxHeartbeats 400000 in
set_option maxRecDepth 100000 in
theorem bit_in (a i : Nat) (hi : i < 384) (w : World) :
    Calls Tryz.prog 68 #[N a, .int .i64 i] w fun e w' => e = .returned (.int .i64 (bitv a i)) ∧ Below w.heap.size w w' := by
  have d0 : decide ((i : Int) < 0) = false := decide_eq_false (by omega)
  have d1 : decide ((384 : Int) ≤ i) = false := decide_eq_false (by omega)
  have hA : Row (w.alloc (.cells #[.int .u64 (wd a 0), .int .u64 (wd a 1), .int .u64 (wd a 2), .int .u64 (wd a 3), .int .u64 (wd a 4), .int .u64 (wd a 5)] 24)) w.heap.size 6 (wd a) := Row.new w _ 24 rfl (six_lt rfl)
  have hA1 := (hA (i / 64) (by omega)).1
  clear hA
  go_enter Tryz.func68, Tryz.ntmps68
  go_wp2
  rw [bitv_word, show wrap64 (bitv a i) = bitv a i by have := bitv_bd a i; unfold wrap64; omega]
  go_ret
  exact ⟨rfl, (Below.refl _ _).alloc (Nat.le_refl _) _⟩
end Go.Proofs.YtdbejmgomajjmaaGreatDoor
end
section
namespace Go.Proofs.YtdbejmgomajjmaaGreatDoor
open Go.RowKit
namespace Rg
open NT
/-! What p divides. -/
def Dv (x : Int) : Prop := (pB : Int) ∣ x
theorem pz_iff (x y : Int) : pz x = pz y ↔ Dv (x - y) := by
  have hx := pz_cast x
  have hy := pz_cast y
  constructor
  · intro h
    exact Int.dvd_of_emod_eq_zero (Int.emod_eq_emod_iff_emod_sub_eq_zero.1 (by rw [← hx, ← hy, h]))
  · intro h
    exact pz_congr (Int.emod_eq_emod_iff_emod_sub_eq_zero.2 (Int.emod_eq_zero_of_dvd h))
theorem pz_zero_iff (x : Int) : pz x = 0 ↔ Dv x := by
  rw [← pz_zero, pz_iff, Int.sub_zero]
theorem Dv.add {x y : Int} (h : Dv x) (k : Dv y) : Dv (x + y) := Int.dvd_add h k
theorem Dv.sub {x y : Int} (h : Dv x) (k : Dv y) : Dv (x - y) := Int.dvd_sub h k
theorem Dv.mul {x : Int} (h : Dv x) (y : Int) : Dv (y * x) := Int.dvd_trans h (Int.dvd_mul_left y x)
theorem Dv.mulr {x : Int} (h : Dv x) (y : Int) : Dv (x * y) := Int.dvd_trans h (Int.dvd_mul_right x y)
theorem Dv.of {x y : Int} (h : Dv x) (e : x = y) : Dv y := e ▸ h
theorem dv_zero : Dv 0 := Int.dvd_zero _
theorem pB_prm : Prm pB := prm_p
theorem dv_nat (x : Int) : Dv x ↔ pB ∣ x.natAbs := Int.ofNat_dvd_left
theorem Dv.prime {x y : Int} (h : Dv (x * y)) : Dv x ∨ Dv y := by
  rw [dv_nat, Int.natAbs_mul] at h
  rw [dv_nat, dv_nat]
  exact pB_prm.mul h
theorem dv_pz (x : Int) : Dv ((pz x : Int) - x) := by
  rw [pz_cast, Int.emod_def]
  exact ⟨-(x / (pB : Int)), by rw [Int.mul_neg]; omega⟩
/-- A number for an integer, with the power that leaves 1. -/
theorem unit_pow {x : Int} (h : ¬ Dv x) : pz x ^ (pB - 1) % pB = 1 :=
  fermat1 pB_prm (pz x) (fun hd => h (by
    rw [← pz_zero_iff]
    obtain ⟨k, hk⟩ := hd
    have := pz_lt x
    rcases Nat.eq_zero_or_pos k with h0 | h0
    · rw [hk, h0, Nat.mul_zero]
    · have := Nat.mul_le_mul (Nat.le_refl pB) h0
      omega))
theorem pow_dv {x : Int} (h : Dv x) : ∀ n, 0 < n → pz x ^ n % pB = 0 := fun n hn => by
  rw [(pz_zero_iff x).2 h, Nat.zero_pow hn, Nat.zero_mod]
def eP : Nat := 1000602388805416848354447456433976039139220704984751971333014534031007912622709466110671907282253916009473568139946
theorem pB_four : pB - 1 = 2 * (2 * eP + 1) := by decide +kernel
theorem pz_mod (x y : Int) (h : Dv (x - y)) : pz x = pz y := (pz_iff x y).2 h
theorem pz_mulN (x y : Int) : pz (x * y) = pz x * pz y % pB := by
  rw [← pz_mul, ← Int.natCast_mul, pz_nat]
theorem pz_addN (x y : Int) : pz (x + y) = (pz x + pz y) % pB := by
  rw [← pz_add, ← Int.natCast_add, pz_nat]
/-- No sum of two squares is left without a rest. -/
theorem norm0 {x y : Int} (h : Dv (x * x + y * y)) : Dv x ∧ Dv y := by
  have hp := pB_prm
  by_cases hx : Dv x
  · refine ⟨hx, ?_⟩
    have h2 : Dv (y * y) := (h.sub (hx.mul x)).of (by omega)
    rcases h2.prime with h3 | h3 <;> exact h3
  · by_cases hy : Dv y
    · have h2 : Dv (x * x) := (h.sub (hy.mul y)).of (by omega)
      rcases h2.prime with h3 | h3 <;> exact absurd h3 hx
    · exfalso
      have ux := unit_pow hx
      have uy := unit_pow hy
      have e : (pz x * pz x + pz y * pz y) % pB = 0 := by
        have h1 := (pz_zero_iff _).2 h
        rw [pz_addN, pz_mulN, pz_mulN, ← Nat.add_mod] at h1
        exact h1
      have ev := even_pow e eP
      rw [pB_four, Nat.pow_mul, Nat.pow_succ, Nat.pow_two] at ux uy
      rw [Nat.mul_mod, ev, ← Nat.mul_mod] at ux
      have s : ((pz y * pz y) ^ (2 * eP) * (pz x * pz x) + (pz y * pz y) ^ (2 * eP) * (pz y * pz y)) % pB = 0 := by
        rw [← Nat.mul_add, Nat.mul_mod, e, Nat.mul_zero, Nat.zero_mod]
      rw [Nat.add_mod, ux, uy] at s
      revert s
      decide +kernel
theorem two_half : 2 ^ (2 * eP + 1) % pB = pB - 1 := pm_eq (by decide +kernel)
def eT : Nat := 1334136518407222464472596608578634718852294273313002628444019378708010550163612621480895876376338554679298090853262
theorem pB_three : pB - 1 = 3 * eT := by decide +kernel
theorem two_third : 2 ^ eT % pB = 793479390729215512621379701633421447060886740281060493010456487427281649075476305620758731620350 := pm_eq (by decide +kernel)
/-- 2 is no square. -/
theorem two_sq {m k : Int} (h : Dv (m * m - 2 * (k * k))) : Dv k := by
  by_cases hk : Dv k
  · exact hk
  · exfalso
    have uk := unit_pow hk
    have e : pz m * pz m % pB = 2 * (pz k * pz k) % pB := by
      have h1 := pz_mod _ _ h
      rw [pz_mulN, pz_mulN, pz_mulN] at h1
      rw [h1, show pz 2 = 2 by decide +kernel, Nat.mul_mod_mod]
    have e2 : (pz m * pz m) ^ (2 * eP + 1) % pB = (2 * (pz k * pz k)) ^ (2 * eP + 1) % pB := by rw [Nat.pow_mod, e, ← Nat.pow_mod]
    rw [Nat.mul_pow 2, Nat.mul_mod, two_half, ← Nat.pow_two, ← Nat.pow_two, ← Nat.pow_mul, ← Nat.pow_mul, ← pB_four, uk] at e2
    by_cases hm : Dv m
    · rw [pow_dv hm _ (by decide +kernel)] at e2
      revert e2
      decide +kernel
    · rw [unit_pow hm] at e2
      revert e2
      decide +kernel
/-- 2 is no cube. -/
theorem two_cb {m k : Int} (h : Dv (m * (m * m) - 2 * (k * (k * k)))) : Dv k := by
  by_cases hk : Dv k
  · exact hk
  · exfalso
    have uk := unit_pow hk
    have e : pz m * (pz m * pz m) % pB = 2 * (pz k * (pz k * pz k)) % pB := by
      have h1 := pz_mod _ _ h
      rw [pz_mulN, pz_mulN, pz_mulN, pz_mulN, pz_mulN, Nat.mul_mod_mod, Nat.mul_mod_mod] at h1
      rw [h1, show pz 2 = 2 by decide +kernel, Nat.mul_mod 2, Nat.mul_mod_mod (pz k), ← Nat.mul_mod 2]
    have c3 : ∀ x : Nat, x * (x * x) = x ^ 3 := fun x => by rw [Nat.pow_succ, Nat.pow_two, Nat.mul_assoc]
    rw [c3, c3] at e
    have e2 : (pz m ^ 3) ^ eT % pB = (2 * (pz k ^ 3)) ^ eT % pB := by rw [Nat.pow_mod, e, ← Nat.pow_mod]
    rw [Nat.mul_pow 2, Nat.mul_mod, two_third, ← Nat.pow_mul, ← Nat.pow_mul, ← pB_three, uk] at e2
    by_cases hm : Dv m
    · rw [pow_dv hm _ (by decide +kernel)] at e2
      revert e2
      decide +kernel
    · rw [unit_pow hm] at e2
      revert e2
      decide +kernel
/-! Pairs. -/
abbrev Z2 := Int × Int
def cm (a b : Z2) : Z2 := (a.1 * b.1 - a.2 * b.2, a.1 * b.2 + a.2 * b.1)
def ca (a b : Z2) : Z2 := (a.1 + b.1, a.2 + b.2)
def cs (a b : Z2) : Z2 := (a.1 - b.1, a.2 - b.2)
def cn (a : Z2) : Int := a.1 * a.1 + a.2 * a.2
def xi : Z2 := (1, 1)
def O2 (a : Z2) : Prop := Dv a.1 ∧ Dv a.2
theorem O2.mul {a : Z2} (h : O2 a) (b : Z2) : O2 (cm b a) := ⟨(h.1.mul b.1).sub (h.2.mul b.2), (h.2.mul b.1).add (h.1.mul b.2)⟩
theorem O2.add {a b : Z2} (h : O2 a) (k : O2 b) : O2 (ca a b) := ⟨h.1.add k.1, h.2.add k.2⟩
theorem O2.sub {a b : Z2} (h : O2 a) (k : O2 b) : O2 (cs a b) := ⟨h.1.sub k.1, h.2.sub k.2⟩
theorem O2.of {a b : Z2} (h : O2 a) (e : a = b) : O2 b := e ▸ h
theorem cn_mul (a b : Z2) : cn (cm a b) = cn a * cn b := by
  unfold cn cm
  grind
theorem O2.cn {a : Z2} (h : O2 a) : Dv (cn a) := (h.1.mul a.1).add (h.2.mul a.2)
theorem cn0 {a : Z2} (h : Dv (cn a)) : O2 a := norm0 h
theorem O2.dom {a b : Z2} (h : O2 (cm a b)) : O2 a ∨ O2 b := by
  have h1 := h.cn
  rw [cn_mul] at h1
  rcases h1.prime with k | k
  · exact Or.inl (cn0 k)
  · exact Or.inr (cn0 k)
theorem O2.sq {a : Z2} (h : O2 (cm a a)) : O2 a := by rcases h.dom with k | k <;> exact k
theorem cn_congr {a b : Z2} (h : O2 (cs a b)) : Dv (cn a - cn b) := by
  have h1 := (h.1.mul (a.1 + b.1)).add (h.2.mul (a.2 + b.2))
  refine h1.of ?_
  unfold cn cs
  grind
theorem xi_sq {a b : Z2} (h : O2 (cs (cm a a) (cm xi (cm b b)))) : O2 b := by
  have h1 := cn_congr h
  rw [cn_mul, cn_mul, cn_mul, show cn xi = 2 from rfl] at h1
  exact cn0 (two_sq h1)
theorem xi_cb {a b : Z2} (h : O2 (cs (cm a (cm a a)) (cm xi (cm b (cm b b))))) : O2 b := by
  have h1 := cn_congr h
  rw [cn_mul, cn_mul, cn_mul, cn_mul, cn_mul, show cn xi = 2 from rfl] at h1
  exact cn0 (two_cb h1)
/-! Three parts: v v v is 1 + i. -/
def d0 (x y z : Z2) : Z2 := cs (cm x x) (cm xi (cm y z))
def d1 (x y z : Z2) : Z2 := cs (cm xi (cm z z)) (cm x y)
def d2 (x y z : Z2) : Z2 := cs (cm y y) (cm x z)
def nn3 (x y z : Z2) : Z2 := ca (cm x (d0 x y z)) (cm xi (ca (cm y (d2 x y z)) (cm z (d1 x y z))))
/-- A number of three parts whose norm is nothing is nothing. -/
theorem three0 {x y z : Z2} (h : O2 (nn3 x y z)) : O2 x ∧ O2 y ∧ O2 z := by
  by_cases hz : O2 z
  · have h1 : O2 (cs (cm x (cm x x)) (cm xi (cm (0 - y.1, 0 - y.2) (cm (0 - y.1, 0 - y.2) (0 - y.1, 0 - y.2))))) := by
      refine (h.sub (hz.mul (cm xi (cs (cm xi (cm z z)) (ca (cm x y) (ca (cm x y) (cm x y))))))).of ?_
      unfold nn3 d0 d1 d2 xi ca cs cm
      apply Prod.ext
      · dsimp only; grind
      · dsimp only; grind
    have hy := xi_cb h1
    have hy' : O2 y := ⟨(hy.1.mul (-1)).of (by dsimp only; omega), (hy.2.mul (-1)).of (by dsimp only; omega)⟩
    have h2 : O2 (cm x (cm x x)) := (h1.add ((hy.mul (cm (0 - y.1, 0 - y.2) (0 - y.1, 0 - y.2))).mul xi)).of (by
      unfold ca cs cm xi
      apply Prod.ext
      · dsimp only; grind
      · dsimp only; grind)
    rcases h2.dom with k | k
    · exact ⟨k, hy', hz⟩
    · exact ⟨k.sq, hy', hz⟩
  · exfalso
    -- (x + y v + z v v) (z v - y) = c + d v, with c and d as follows; its norm is nothing
    have h3 : O2 (cs (cm (d1 x y z) (cm (d1 x y z) (d1 x y z))) (cm xi (cm (d2 x y z) (cm (d2 x y z) (d2 x y z))))) := by
      refine (h.mul (cs (cm xi (cm z (cm z z))) (cm y (cm y y)))).of ?_
      unfold nn3 d0 d1 d2 xi ca cs cm
      apply Prod.ext
      · dsimp only; grind
      · dsimp only; grind
    have hd := xi_cb h3
    have hc3 : O2 (cm (d1 x y z) (cm (d1 x y z) (d1 x y z))) := (h3.add ((hd.mul (cm (d2 x y z) (d2 x y z))).mul xi)).of (by
      generalize d1 x y z = u
      generalize d2 x y z = v
      unfold ca cs cm xi
      apply Prod.ext
      · dsimp only; grind
      · dsimp only; grind)
    have hc : O2 (d1 x y z) := by
      rcases hc3.dom with k | k
      · exact k
      · exact k.sq
    -- so y y = x z and (1 + i) z z = x y: y y y = (1 + i) z z z
    have h4 : O2 (cs (cm y (cm y y)) (cm xi (cm z (cm z z)))) := by
      refine ((hd.mul y).sub (hc.mul z)).of ?_
      unfold d1 d2 xi cs cm
      apply Prod.ext
      · dsimp only; grind
      · dsimp only; grind
    exact hz (xi_cb h4)
/-- No square of three parts is v times one. -/
theorem v_sq {x y z n : Z2} (h0 : O2 (ca (cm x x) (cm (2, 0) (cm xi (cm y z))))) (h1 : O2 (cs (ca (cm (2, 0) (cm x y)) (cm xi (cm z z))) (cm n n))) (h2 : O2 (ca (cm y y) (cm (2, 0) (cm x z)))) : O2 n ∧ O2 x ∧ O2 y ∧ O2 z := by
  have key : O2 (cm y (cs (cm y (cm y y)) (cm xi (cm (cm (-2, 0) z) (cm (cm (-2, 0) z) (cm (-2, 0) z)))))) := by
    refine ((h2.mul (cs (cm y y) (cm (2, 0) (cm x z)))).add (h0.mul (cm (4, 0) (cm z z)))).of ?_
    unfold xi ca cs cm
    apply Prod.ext
    · dsimp only; grind
    · dsimp only; grind
  have hz : O2 z := by
    rcases key.dom with k | k
    · -- y is nothing, so x is, so (1 + i) z z = n n
      have hx : O2 x := O2.sq ((h0.sub ((k.mul (cm (2, 0) (cm xi z))))).of (by
        unfold xi ca cs cm
        apply Prod.ext
        · dsimp only; grind
        · dsimp only; grind))
      exact xi_sq (a := n) ((((hx.mul (cm (2, 0) y))).sub h1).of (by
        unfold xi ca cs cm
        apply Prod.ext
        · dsimp only; grind
        · dsimp only; grind))
    · have k2 := xi_cb k
      have k3 : Dv (-2 * z.1) := k2.1.of (by unfold cm; dsimp only; omega)
      have k4 : Dv (-2 * z.2) := k2.2.of (by unfold cm; dsimp only; omega)
      have n2 : ¬ Dv (-2) := by rw [← pz_zero_iff]; decide +kernel
      exact ⟨k3.prime.resolve_left n2, k4.prime.resolve_left n2⟩
  have hx : O2 x := O2.sq ((h0.sub (hz.mul (cm (2, 0) (cm xi y)))).of (by
    unfold xi ca cs cm
    apply Prod.ext
    · dsimp only; grind
    · dsimp only; grind))
  have hy : O2 y := O2.sq ((h2.sub (hz.mul (cm (2, 0) x))).of (by
    unfold ca cs cm
    apply Prod.ext
    · dsimp only; grind
    · dsimp only; grind))
  exact ⟨O2.sq ((((hx.mul (cm (2, 0) y)).add (hz.mul (cm xi z))).sub h1).of (by
    unfold xi ca cs cm
    apply Prod.ext
    · dsimp only; grind
    · dsimp only; grind)), hx, hy, hz⟩
end Rg
end Go.Proofs.YtdbejmgomajjmaaGreatDoor
end
section
namespace Go.Proofs.YtdbejmgomajjmaaGreatDoor
open Go.RowKit
namespace Rg
theorem inv_ex {n a : Nat} (ok : Ok n) (hg : Nat.gcd n a = 1) : ∃ x, x < n ∧ x * a % n = 1 := by
  have key : ∀ (m : Nat) (z : WS), z.o + z.r = m → WI n a z → ∃ x, x < n ∧ x * a % n = 1 := by
    intro m
    induction m using Nat.strongRecOn with
    | _ m ih =>
      intro z hz I
      obtain ⟨o, r, u, v, h, t⟩ := z
      simp only at hz
      by_cases hr : r = 0
      · subst hr
        have ho : o = 1 := by
          have h1 : Nat.gcd o 0 = Nat.gcd n a := I.gcd
          rw [Nat.gcd_zero_right] at h1
          rw [h1]; exact hg
        cases t with
        | true => exact ⟨_, Nat.mod_lt _ ok.pos, end_true ok I ho⟩
        | false => exact ⟨_, Nat.mod_lt _ ok.pos, end_false ok I ho⟩
      · have hrb : r < big := by have h1 : r ≤ n := I.rn; have := ok.big; omega
        obtain ⟨k, r1, hk, er, hr1, _⟩ := trailing_any hrb hr
        obtain ⟨p1, p2, _⟩ := I.facts hr er
        obtain ⟨i1, i2⟩ := I.next hr er hr1
        have hle : r1 ≤ r := by rw [er]; exact Nat.le_mul_of_pos_right _ (Nat.two_pow_pos k)
        by_cases hl : r1 < o
        · exact ih (r1 + (o - r1)) (by omega) _ rfl (i1 hl)
        · exact ih (o + (r1 - o)) (by omega) _ rfl (i2 hl)
  exact key _ ⟨n, a % n, 0, 1, 0, false⟩ rfl (WI.start ok)
theorem invm_spec {n a : Nat} (ok : Ok n) (hg : Nat.gcd n a = 1) : invm n a < n ∧ invm n a * a % n = 1 := by
  obtain ⟨x, hx, h1⟩ := inv_ex ok hg
  rw [invm_eq hx h1]
  exact ⟨hx, h1⟩
end Rg
end Go.Proofs.YtdbejmgomajjmaaGreatDoor
end
section
namespace Go.Proofs.YtdbejmgomajjmaaGreatDoor
open Go.RowKit
namespace Rg
open NT
theorem pz_big (x : Int) : pz x < big := Nat.lt_trans (pz_lt x) pB_lt
theorem pz_pair (x y : Int) : 0 ≤ (pz x : Int) * (pz y : Int) ∧ (pz x : Int) * (pz y : Int) ≤ (pB : Int) * pB := by
  have h := Nat.mul_le_mul (Nat.le_of_lt (pz_lt x)) (Nat.le_of_lt (pz_lt y))
  rw [← Int.natCast_mul, ← Int.natCast_mul]
  omega
theorem pz_small {i : Nat} (h : i < pB) : pz (i : Int) = i := by rw [pz_nat, Nat.mod_eq_of_lt h]
theorem pz_times (x : Int) {i : Nat} (h : i < pB) : pz x * i % pB = pz (x * (i : Int)) := by rw [pz_mulN, pz_small h]
theorem norm_any {g : Nat} (x y : Int) (w : World) (hm : Mm w [(g, modc pB)]) : Calls Tryz.prog 159 #[.agg #[PT g 0], V [pz x, pz y]] w fun e w' => e = .returned (N (pz (x * x + y * y))) ∧ Below w.heap.size w w' := by
  have w0 : Wi ((pz x : Int) * pz x + (pz y : Int) * pz y) := by have := pz_pair x x; have := pz_pair y y; unfold Wi; omega
  have c4 := fun w hm => restF_any (g := g) _ w0 w hm
  rw [pz_addmul] at c4
  exact norm_gen g pB _ _ (pz x) (pz y) _ _ _ _ _ _ _ (fun w => timesZ_any (pz x) (pz x) (pz_big x) (pz_big x) w) (fun w => timesZ_any (pz y) (pz y) (pz_big y) (pz_big y) w) (fun w => plusZ_any _ _ w) c4 w hm
theorem unit_gcd {x : Int} (h : ¬ Dv x) : Nat.gcd pB (pz x) = 1 := by
  refine pB_prm.cop (fun hd => h ?_)
  rw [← pz_zero_iff]
  obtain ⟨k, hk⟩ := hd
  have := pz_lt x
  rcases Nat.eq_zero_or_pos k with h0 | h0
  · rw [hk, h0, Nat.mul_zero]
  · have := Nat.mul_le_mul (Nat.le_refl pB) h0
    omega
/-- The inverse of what is left of x. -/
def iv (x : Int) : Nat := invm pB (pz x)
theorem iv_lt {x : Int} (h : ¬ Dv x) : iv x < pB := (invm_spec pB_ok (unit_gcd h)).1
theorem iv_mul {x : Int} (h : ¬ Dv x) : pz ((iv x : Int) * x) = 1 := by
  rw [pz_mulN, pz_small (iv_lt h)]
  exact (invm_spec pB_ok (unit_gcd h)).2
theorem no_unit : Nat.gcd pB 0 ≠ 1 := by rw [Nat.gcd_zero_right]; decide +kernel
theorem inv2F_ok {g : Nat} (x y : Int) (h : ¬ Dv (x * x + y * y)) (w : World) (hm : Mm w [(g, modc pB), (0, dtab)]) : Calls Tryz.prog 90 #[.agg #[PT g 0], V [pz x, pz y]] w fun e w' => e = .returned (.tuple #[V [pz (x * (iv (x * x + y * y) : Int)), pz (-y * (iv (x * x + y * y) : Int))], .int .i64 0]) ∧ Below w.heap.size w w' := by
  have hi := iv_lt h
  have c1 := fun w hm => inv_ok (g := g) pB_ok (pz_big (x * x + y * y)) (unit_gcd h) w hm
  have e1 : invm pB (pz (x * x + y * y)) = iv (x * x + y * y) := rfl
  rw [e1] at c1
  generalize iv (x * x + y * y) = i at *
  have c2 := fun w hm => mulm_any (g := g) pB_ok (pz_big x) (Nat.lt_trans hi pB_lt) w hm
  have c4 := fun w hm => mulm_any (g := g) pB_ok (pz_big (-y)) (Nat.lt_trans hi pB_lt) w hm
  rw [pz_times _ hi] at c2 c4
  exact inv2_ok g pB _ _ (pz x) (pz y) _ i _ _ _ (fun w hm => norm_any x y w hm) c1 c2 (fun w => negated_any y w) c4 w hm
theorem inv2F_no {g : Nat} (x y : Int) (h : Dv (x * x + y * y)) (w : World) (hm : Mm w [(g, modc pB), (0, dtab)]) : Calls Tryz.prog 90 #[.agg #[PT g 0], V [pz x, pz y]] w fun e w' => e = .returned (.tuple #[V [0, 0], .int .i64 6]) ∧ Below w.heap.size w w' := by
  have c0 := fun w hm => norm_any (g := g) x y w hm
  rw [(pz_zero_iff _).2 h] at c0
  exact inv2_no g pB _ _ (pz x) (pz y) 0 0 c0 (fun w hm => inv_bad (g := g) pB_ok big_pos no_unit w hm) w hm
end Rg
end Go.Proofs.YtdbejmgomajjmaaGreatDoor
end
section
namespace Go.Proofs.YtdbejmgomajjmaaGreatDoor
open Go.RowKit
namespace Rg
open NT
theorem pz_neg (x : Int) : pz (-(pz x : Int)) = pz (-x) := by
  rw [pz_iff]
  exact ((dv_pz x).mul (-1)).of (by omega)
/-- The power that is a root of x or of -x. -/
def rr (x : Int) : Nat := pz x ^ (eP + 1) % pB
theorem iv_dv {x : Int} (h : ¬ Dv x) : Dv ((iv x : Int) * x - 1) := by
  rw [← pz_iff, iv_mul h]
  decide +kernel
end Rg
end Go.Proofs.YtdbejmgomajjmaaGreatDoor
end
section
namespace Go.Proofs.YtdbejmgomajjmaaGreatDoor
open Go.RowKit
namespace Rg
theorem zn_pz (a : Nat → Int) : (zn fun j => pz (a j)) = fun j => a j + (pB : Int) * (fun j => -(a j / (pB : Int))) j := funext fun j => by
  unfold zn
  rw [pz_cast, Int.emod_def, Int.mul_neg]
  rfl
theorem mul12_pzl (a b : Nat → Int) (j : Nat) : pz (mul12 (zn fun j => pz (a j)) b j) = pz (mul12 a b j) := by
  rw [zn_pz, lin12]
  exact pz_congr (Int.add_mul_emod_self_left ..)
theorem mul12_pzr (a b : Nat → Int) (j : Nat) : pz (mul12 a (zn fun j => pz (b j)) j) = pz (mul12 a b j) := by
  rw [comm12, mul12_pzl, comm12]
theorem mul12_pz (a b : Nat → Int) (j : Nat) : pz (mul12 (zn fun j => pz (a j)) (zn fun j => pz (b j)) j) = pz (mul12 a b j) := by rw [mul12_pzl, mul12_pzr]
theorem lz_congr {a b : Nat → Int} (h : ∀ j, pz (a j) = pz (b j)) : lz a = lz b := by
  simp only [lz, h]
theorem mulP_any {g : Nat} (a b : Nat → Int) (w : World) (hm : Mm w [(g, modc pB)]) : Calls Tryz.prog 62 #[.agg #[PT g 0], V (lz a), V (lz b)] w fun e w' => e = .returned (V (lz (mul12 a b))) ∧ Below w.heap.size w w' := by
  have h := mulN_any (g := g) (fun j => pz (a j)) (fun j => pz (b j)) (fun j => pz_lt _) (fun j => pz_lt _) w hm
  rw [lz_congr (mul12_pz a b)] at h
  exact h
theorem mulT12_any (a b : Nat → Nat) (ha : ∀ j, j < 12 → a j < big) (hb : ∀ j, j < 12 → b j < big) (w : World) : Calls Tryz.prog 22 #[V (tl a), V (tl b)] w fun e w' => e = .returned (V (lz (mul12 (zn a) (zn b)))) ∧ Below w.heap.size w w' :=
  mulT12_gen a b (fun j => pz (zn a j)) (fun j => pz (zn b j)) (fun j => pz (mul12 (zn a) (zn b) j)) pB great_any (fun w => leftAll_any a ha w) (fun w => leftAll_any b hb w) (fun g w hm => mulP_any (g := g) (zn a) (zn b) w hm) w
theorem pz_one : pz 1 = 1 := by decide +kernel
theorem one_any (w : World) : Calls Tryz.prog 32 #[] w fun e w' => e = .returned (V [1, 0, 0, 0, 0, 0, 0, 0, 0, 0, 0, 0]) ∧ Below w.heap.size w w' := one12_gen 1 (fun w => one2_gen 1 (fun w => of_any 1 (by decide) w) w) w
theorem one_lz : [1, 0, 0, 0, 0, 0, 0, 0, 0, 0, 0, 0] = lz one12 := by
  simp only [lz, one12, pz_one, pz_zero]
theorem powT_any (a : Nat → Nat) (ha : ∀ j, j < 12 → a j < big) (e : Nat) (he : e < big) (w : World) : Calls Tryz.prog 27 #[V (tl a), N e] w fun r w' => r = .returned (V (lz (pw12 (zn a) e))) ∧ Below w.heap.size w w' := by
  have hl : bl e ≤ 384 := by
    obtain ⟨m, hm, h⟩ := big_pow
    rw [h] at he
    have := bl_le_of e _ he
    omega
  have e0 : e / 2 ^ 0 = e := by rw [Nat.pow_zero, Nat.div_one]
  have h := powT_gen pB e (bl e) 1 hl a (fun j => pz (zn a j)) (fun k j => pz (pw12 (zn a) (e / 2 ^ k) j)) (fun k j => pz (pw12 (zn a) (2 * (e / 2 ^ (k + 1))) j)) (fun k => bitv e k) ?_ (bit_cases e) (fun k hk => ?_) great_any (fun w => leftAll_any a ha w) one_any (fun w => len_any e he w) (fun k g w hm => ?_) (fun k w hk => ?_) (fun k hk g w hm => ?_) w
  · rw [e0] at h
    exact h
  · rw [Nat.div_eq_of_lt (bl_lt e)]
    exact one_lz
  · have h2 : e / 2 ^ k % 2 = 0 := by unfold bitv at hk; omega
    have h3 := half_step e k
    rw [h2, Nat.add_zero] at h3
    rw [← h3]
  · have h := mulP_any (g := g) (pw12 (zn a) (e / 2 ^ (k + 1))) (pw12 (zn a) (e / 2 ^ (k + 1))) w hm
    rw [← pw_twice] at h
    exact h
  · have h := bit_in e k (by omega) w
    rw [show (((k + 1 : Nat) : Int) - 1) = ((k : Nat) : Int) by omega]
    exact h
  · have h := mulP_any (g := g) (pw12 (zn a) (2 * (e / 2 ^ (k + 1)))) (zn a) w hm
    have h2 : e / 2 ^ k % 2 = 1 := by unfold bitv at hk; omega
    have h3 := half_step e k
    rw [h2] at h3
    have h4 : mul12 (pw12 (zn a) (2 * (e / 2 ^ (k + 1)))) (zn a) = pw12 (zn a) (e / 2 ^ k) := by rw [h3]; rfl
    rw [h4] at h
    exact h
/-! Equality. -/
theorem run_eqD (D a b : Nat) (ha : a < big) (hb : b < big) (w : World) : (Op.equalIn (D + 2) 24 (N a) (N b)).run Tryz.prog w = .ok (decide (a = b)) w := by
  have h := run_eq6' (D + 1) (fun a b w => run_equalIn_int w D 22 .u64 .u64 a b (by kernel_rfl)) (wd a 0) (wd a 1) (wd a 2) (wd a 3) (wd a 4) (wd a 5) (wd b 0) (wd b 1) (wd b 2) (wd b 3) (wd b 4) (wd b 5) w
  rw [num_eq a b ha hb] at h
  exact h
theorem run_eqE2' (d a0 a1 b0 b1 : Nat) (p0 p1 : Bool) (hi0 : ∀ w, (Op.equalIn d 24 (N a0) (N b0)).run Tryz.prog w = .ok p0 w) (hi1 : ∀ w, (Op.equalIn d 24 (N a1) (N b1)).run Tryz.prog w = .ok p1 w) (w : World) :
    (Op.equalIn (d + 1) 28 (V [a0, a1]) (V [b0, b1])).run Tryz.prog w = .ok (p0 && p1) w := by
  have h24 : Tryz.prog.underlying 28 = some (.array 2 24) := by kernel_rfl
  have hsz : ∀ w, (sizeOf 24).run Tryz.prog w = .ok 6 w := fun w => by kernel_rfl
  have hp : ∀ (a b : Nat) (w : World), (Go.part 24 (cel [a, b]).toArray 0).run Tryz.prog w = .ok (N a) w ∧ (Go.part 24 (cel [a, b]).toArray 6).run Tryz.prog w = .ok (N b) w := fun a b w => ⟨by kernel_rfl, by kernel_rfl⟩
  simp only [V, Op.equalIn, Sem.run_bind, run_underlying h24, Result.andThen_ok, hsz]
  simp [Std.Legacy.Range.forIn_eq_forIn_range', List.range', List.forIn_cons, hi0, hi1, hp]
  cases p0 <;> cases p1 <;> simp
set_option maxRecDepth 100000 in
set_option maxHeartbeats 2000000 in
theorem run_eqE12q (d : Nat) (xs ys : Array Value) (u0 v0 u1 v1 u2 v2 u3 v3 u4 v4 u5 v5 : Value) (p0 p1 p2 p3 p4 p5 : Bool) (hx0 : ∀ w, (Go.part 28 xs 0).run Tryz.prog w = .ok u0 w) (hy0 : ∀ w, (Go.part 28 ys 0).run Tryz.prog w = .ok v0 w) (hi0 : ∀ w, (Op.equalIn d 28 u0 v0).run Tryz.prog w = .ok p0 w) (hx1 : ∀ w, (Go.part 28 xs 12).run Tryz.prog w = .ok u1 w) (hy1 : ∀ w, (Go.part 28 ys 12).run Tryz.prog w = .ok v1 w) (hi1 : ∀ w, (Op.equalIn d 28 u1 v1).run Tryz.prog w = .ok p1 w) (hx2 : ∀ w, (Go.part 28 xs 24).run Tryz.prog w = .ok u2 w) (hy2 : ∀ w, (Go.part 28 ys 24).run Tryz.prog w = .ok v2 w) (hi2 : ∀ w, (Op.equalIn d 28 u2 v2).run Tryz.prog w = .ok p2 w) (hx3 : ∀ w, (Go.part 28 xs 36).run Tryz.prog w = .ok u3 w) (hy3 : ∀ w, (Go.part 28 ys 36).run Tryz.prog w = .ok v3 w) (hi3 : ∀ w, (Op.equalIn d 28 u3 v3).run Tryz.prog w = .ok p3 w) (hx4 : ∀ w, (Go.part 28 xs 48).run Tryz.prog w = .ok u4 w) (hy4 : ∀ w, (Go.part 28 ys 48).run Tryz.prog w = .ok v4 w) (hi4 : ∀ w, (Op.equalIn d 28 u4 v4).run Tryz.prog w = .ok p4 w) (hx5 : ∀ w, (Go.part 28 xs 60).run Tryz.prog w = .ok u5 w) (hy5 : ∀ w, (Go.part 28 ys 60).run Tryz.prog w = .ok v5 w) (hi5 : ∀ w, (Op.equalIn d 28 u5 v5).run Tryz.prog w = .ok p5 w) (w : World) :
    (Op.equalIn (d + 1) 32 (.agg xs) (.agg ys)).run Tryz.prog w = .ok (p0 && (p1 && (p2 && (p3 && (p4 && p5))))) w := by
  have h24 : Tryz.prog.underlying 32 = some (.array 6 28) := by kernel_rfl
  have hsz : ∀ w, (sizeOf 28).run Tryz.prog w = .ok 12 w := fun w => by kernel_rfl
  simp only [Op.equalIn, Sem.run_bind, run_underlying h24, Result.andThen_ok, hsz]
  simp [Std.Legacy.Range.forIn_eq_forIn_range', List.range', List.forIn_cons, hx0, hy0, hi0, hx1, hy1, hi1, hx2, hy2, hi2, hx3, hy3, hi3, hx4, hy4, hi4, hx5, hy5, hi5]
  cases p0 <;> cases p1 <;> cases p2 <;> cases p3 <;> cases p4 <;> cases p5 <;> simp
theorem part12 (a : Nat → Nat) (w : World) : (Go.part 28 (cel (tl a)).toArray 0).run Tryz.prog w = .ok (V [a 0, a 1]) w ∧ (Go.part 28 (cel (tl a)).toArray 12).run Tryz.prog w = .ok (V [a 2, a 3]) w ∧ (Go.part 28 (cel (tl a)).toArray 24).run Tryz.prog w = .ok (V [a 4, a 5]) w ∧ (Go.part 28 (cel (tl a)).toArray 36).run Tryz.prog w = .ok (V [a 6, a 7]) w ∧ (Go.part 28 (cel (tl a)).toArray 48).run Tryz.prog w = .ok (V [a 8, a 9]) w ∧ (Go.part 28 (cel (tl a)).toArray 60).run Tryz.prog w = .ok (V [a 10, a 11]) w := ⟨by kernel_rfl, by kernel_rfl, by kernel_rfl, by kernel_rfl, by kernel_rfl, by kernel_rfl⟩
theorem run_eqE12' (d : Nat) (a b : Nat → Nat) (p0 p1 p2 p3 p4 p5 : Bool) (hi0 : ∀ w, (Op.equalIn d 28 (V [a 0, a 1]) (V [b 0, b 1])).run Tryz.prog w = .ok p0 w) (hi1 : ∀ w, (Op.equalIn d 28 (V [a 2, a 3]) (V [b 2, b 3])).run Tryz.prog w = .ok p1 w) (hi2 : ∀ w, (Op.equalIn d 28 (V [a 4, a 5]) (V [b 4, b 5])).run Tryz.prog w = .ok p2 w) (hi3 : ∀ w, (Op.equalIn d 28 (V [a 6, a 7]) (V [b 6, b 7])).run Tryz.prog w = .ok p3 w) (hi4 : ∀ w, (Op.equalIn d 28 (V [a 8, a 9]) (V [b 8, b 9])).run Tryz.prog w = .ok p4 w) (hi5 : ∀ w, (Op.equalIn d 28 (V [a 10, a 11]) (V [b 10, b 11])).run Tryz.prog w = .ok p5 w) (w : World) :
    (Op.equalIn (d + 1) 32 (V (tl a)) (V (tl b))).run Tryz.prog w = .ok (p0 && (p1 && (p2 && (p3 && (p4 && p5))))) w :=
  run_eqE12q d _ _ _ _ _ _ _ _ _ _ _ _ _ _ p0 p1 p2 p3 p4 p5 (fun w => (part12 a w).1) (fun w => (part12 b w).1) hi0 (fun w => (part12 a w).2.1) (fun w => (part12 b w).2.1) hi1 (fun w => (part12 a w).2.2.1) (fun w => (part12 b w).2.2.1) hi2 (fun w => (part12 a w).2.2.2.1) (fun w => (part12 b w).2.2.2.1) hi3 (fun w => (part12 a w).2.2.2.2.1) (fun w => (part12 b w).2.2.2.2.1) hi4 (fun w => (part12 a w).2.2.2.2.2) (fun w => (part12 b w).2.2.2.2.2) hi5 w
theorem run_eqE12 (a b : Nat → Nat) (ha : ∀ j, j < 12 → a j < big) (hb : ∀ j, j < 12 → b j < big) (w : World) : (Op.equalIn 10000 32 (V (tl a)) (V (tl b))).run Tryz.prog w = .ok (decide (tl a = tl b)) w := by
  have h := run_eqE12' 9999 a b _ _ _ _ _ _ (fun w => run_eqE2' 9998 (a 0) (a 1) (b 0) (b 1) _ _ (fun w => run_eqD 9996 _ _ (ha _ (by decide)) (hb _ (by decide)) w) (fun w => run_eqD 9996 _ _ (ha _ (by decide)) (hb _ (by decide)) w) w) (fun w => run_eqE2' 9998 (a 2) (a 3) (b 2) (b 3) _ _ (fun w => run_eqD 9996 _ _ (ha _ (by decide)) (hb _ (by decide)) w) (fun w => run_eqD 9996 _ _ (ha _ (by decide)) (hb _ (by decide)) w) w) (fun w => run_eqE2' 9998 (a 4) (a 5) (b 4) (b 5) _ _ (fun w => run_eqD 9996 _ _ (ha _ (by decide)) (hb _ (by decide)) w) (fun w => run_eqD 9996 _ _ (ha _ (by decide)) (hb _ (by decide)) w) w) (fun w => run_eqE2' 9998 (a 6) (a 7) (b 6) (b 7) _ _ (fun w => run_eqD 9996 _ _ (ha _ (by decide)) (hb _ (by decide)) w) (fun w => run_eqD 9996 _ _ (ha _ (by decide)) (hb _ (by decide)) w) w) (fun w => run_eqE2' 9998 (a 8) (a 9) (b 8) (b 9) _ _ (fun w => run_eqD 9996 _ _ (ha _ (by decide)) (hb _ (by decide)) w) (fun w => run_eqD 9996 _ _ (ha _ (by decide)) (hb _ (by decide)) w) w) (fun w => run_eqE2' 9998 (a 10) (a 11) (b 10) (b 11) _ _ (fun w => run_eqD 9996 _ _ (ha _ (by decide)) (hb _ (by decide)) w) (fun w => run_eqD 9996 _ _ (ha _ (by decide)) (hb _ (by decide)) w) w) w
  have e : ((decide (a 0 = b 0) && decide (a 1 = b 1)) && ((decide (a 2 = b 2) && decide (a 3 = b 3)) && ((decide (a 4 = b 4) && decide (a 5 = b 5)) && ((decide (a 6 = b 6) && decide (a 7 = b 7)) && ((decide (a 8 = b 8) && decide (a 9 = b 9)) && ((decide (a 10 = b 10) && decide (a 11 = b 11)))))))) = decide (tl a = tl b) := by
    rw [Bool.eq_iff_iff]
    simp only [Bool.and_eq_true, decide_eq_true_eq, tl, List.cons.injEq, and_true, and_assoc]
  exact h.trans (congrArg (fun q => Result.ok q w) e)
end Rg
end Go.Proofs.YtdbejmgomajjmaaGreatDoor
end
section
namespace Go.Proofs.YtdbejmgomajjmaaGreatDoor
open Go.RowKit
namespace Rg
theorem exec_eqE12 {ρ : Operand → Value} {o : Oper} {i j : Tmp} {x y : Array Value} {t : Bool} {w : World} (he : ∀ w, (Op.equalIn 10000 32 (.agg x) (.agg y)).run Tryz.prog w = .ok t w) (ho : o.op = .binOp .eql 32 (.tmp i) (.tmp j) 32) (hx : ρ (.tmp i) = .agg x) (hy : ρ (.tmp j) = .agg y) :
    (execOp ρ o).run Tryz.prog w = .ok (.value (.bool t)) w := by
  simp only [execOp, ho, hx, hy]
  clear hx hy
  go_simp
theorem exec_neqE12 {ρ : Operand → Value} {o : Oper} {i j : Tmp} {x y : Array Value} {t : Bool} {w : World} (he : ∀ w, (Op.equalIn 10000 32 (.agg x) (.agg y)).run Tryz.prog w = .ok t w) (ho : o.op = .binOp .neq 32 (.tmp i) (.tmp j) 32) (hx : ρ (.tmp i) = .agg x) (hy : ρ (.tmp j) = .agg y) :
    (execOp ρ o).run Tryz.prog w = .ok (.value (.bool !t)) w := by
  simp only [execOp, ho, hx, hy]
  clear hx hy
  go_simp
theorem pz_12 (a : Nat → Int) : ∀ j, j < 12 → (fun j => pz (a j)) j < big := fun _ _ => pz_big _
end Rg
end Go.Proofs.YtdbejmgomajjmaaGreatDoor
end
