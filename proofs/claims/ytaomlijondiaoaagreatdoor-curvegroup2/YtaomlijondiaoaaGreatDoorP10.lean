/- Texts of the proof, joined. -/
import Derived.Test.YtaomlijondiaoaaGreatDoorP9
import Derived.ProofKit
import Derived.OpenShut
import Derived.Test.YtaomlijondiaoaaGreatDoorRows
import Derived.LaidMore
import Derived.Stop.Joined
import Derived.Test.YtaomlijondiaoaaGreatDoorTie
set_option maxRecDepth 100000
section
namespace Go.Proofs.YtaomlijondiaoaaGreatDoor
open Go.RowKit
namespace Rg
set_option maxHeartbeats 2000000 in
theorem group2_no0 (ma0 ma1 ma2 ma3 mb0 mb1 mb2 mb3 md0 md1 md2 md3 : Nat) (maz mbz mdz : Bool) (c0 : ∀ w, Mm w [(0, dtab)] → Calls Tryz.prog 35 #[] w (Rt w (.bool true))) (c1 : ∀ w, Mm w [(0, dtab)] → Calls Tryz.prog 23 #[.agg (cel [ma0, ma1, ma2, ma3] ++ [Value.bool maz]).toArray] w (Rt w (.bool false))) (w : World) (hm : Mm w [(0, dtab)]) :
  Calls Tryz.prog 6 #[.agg (cel [ma0, ma1, ma2, ma3] ++ [Value.bool maz]).toArray, .agg (cel [mb0, mb1, mb2, mb3] ++ [Value.bool mbz]).toArray, .agg (cel [md0, md1, md2, md3] ++ [Value.bool mdz]).toArray] w (Rt w (.bool true)) := by
 have H0 : Hid (_ ∧ _) := ⟨hm, Below.refl w.heap.size w⟩
 clear hm
 have C0 : Hid _ := c0
 clear c0
 have C1 : Hid _ := c1
 clear c1
 go_enter Tryz.func6, Tryz.ntmps6
 refine wp_seq ?_
 refine zD 4 [.made (cel [ma0, ma1, ma2, ma3] ++ [Value.bool maz]) 42, .made (cel [mb0, mb1, mb2, mb3] ++ [Value.bool mbz]) 42, .made (cel [md0, md1, md2, md3] ++ [Value.bool mdz]) 42, .quiet (.bool false)] (sB H0) ?ho1 ?he1
 case ho1 => exact ak (fun γ => ⟨rfl, fun w' => yA rfl rfl⟩) (ak (fun γ => ⟨rfl, fun w' => yA rfl rfl⟩) (ak (fun γ => ⟨rfl, fun w' => yA rfl rfl⟩) (ar trivial)))
 intro γ w1 l hM hl
 have H1 : Hid (Mm w1 [(γ 0, cel [ma0, ma1, ma2, ma3] ++ [Value.bool maz]), (γ 1, cel [mb0, mb1, mb2, mb3] ++ [Value.bool mbz]), (γ 2, cel [md0, md1, md2, md3] ++ [Value.bool mdz]), (0, dtab)] ∧ _) := zS H0 hM (Nat.le_refl _) hl [0, 1, 2] rfl (by decide)
 have o1_0 := zP H0 hM (Nat.le_refl _) hl (i := 0) rfl
 have o1_1 := zP H0 hM (Nat.le_refl _) hl (i := 1) rfl
 have o1_2 := zP H0 hM (Nat.le_refl _) hl (i := 2) rfl
 clear hM hl l
 generalize γ 0 = γ1_0 at H1 o1_0 ⊢
 generalize γ 1 = γ1_1 at H1 o1_1 ⊢
 generalize γ 2 = γ1_2 at H1 o1_2 ⊢
 clear γ
 refine zG rfl (zA (wp_seq ?_))
 refine zE 2 [.call (.bool true), .quiet (.bool true)] H1 ?ho2 ?he2
 case ho2 => exact ac (fun w' h => ⟨35, #[], zC rfl call35 rfl (zX rfl), C0.out w' (h.one 3 rfl)⟩) (ar trivial)
 intro _ w2 H2
 clear H1
 refine zG rfl (zA (wp_seq (wp_seq ?_)))
 refine zE 13 [.quiet (.agg (cel [ma0, ma1, ma2, ma3] ++ [Value.bool maz]).toArray), .call (.bool false), .quiet (.bool true), .quiet (.bool true), .gone, .gone, .gone, .quiet (.bool true), .quiet (.bool true), .gone, .gone, .gone, .quiet (.bool true)] H2 ?ho3 ?he3
 case ho3 => exact aq (fun w' h => lT h 0 Tryz.isAgg42 Tryz.sizeOf42) (ac (fun w' h => ⟨23, #[.agg (cel [ma0, ma1, ma2, ma3] ++ [Value.bool maz]).toArray], zC rfl call23 rfl (zX rfl), C1.out w' (h.one 3 rfl)⟩) (ag (ar (ak (fun γ => rfl) (ak (fun γ => rfl) (ak (fun γ => rfl) (ag (ar (ak (fun γ => rfl) (ak (fun γ => rfl) (ak (fun γ => rfl) (ag trivial))))))))))))
 intro _ w3 H3
 clear H2
 refine zG rfl (zA (wp_cond_true rfl (wp_seq ?_)))
 refine zE 2 [.quiet (.bool true), .quiet (.bool true)] H3 ?ho4 ?he4
 case ho4 => exact ar (ar trivial)
 intro _ w4 H4
 clear H3
 refine zG rfl (zA (wp_ret ?_))
 repeat (first | refine zM ?_ | refine zK ?_)
 refine bodyPost_ret (v := .bool true) (by simp [results, Tryz.results6, go_sem, *]) rfl ?_
 exact ⟨rfl, H4.out.2⟩
set_option maxHeartbeats 2000000 in
theorem group2_no1 (ma0 ma1 ma2 ma3 mb0 mb1 mb2 mb3 md0 md1 md2 md3 : Nat) (maz mbz mdz : Bool) (c0 : ∀ w, Mm w [(0, dtab)] → Calls Tryz.prog 35 #[] w (Rt w (.bool true))) (c1 : ∀ w, Mm w [(0, dtab)] → Calls Tryz.prog 23 #[.agg (cel [ma0, ma1, ma2, ma3] ++ [Value.bool maz]).toArray] w (Rt w (.bool true))) (c2 : ∀ w, Mm w [(0, dtab)] → Calls Tryz.prog 23 #[.agg (cel [mb0, mb1, mb2, mb3] ++ [Value.bool mbz]).toArray] w (Rt w (.bool false))) (w : World) (hm : Mm w [(0, dtab)]) :
  Calls Tryz.prog 6 #[.agg (cel [ma0, ma1, ma2, ma3] ++ [Value.bool maz]).toArray, .agg (cel [mb0, mb1, mb2, mb3] ++ [Value.bool mbz]).toArray, .agg (cel [md0, md1, md2, md3] ++ [Value.bool mdz]).toArray] w (Rt w (.bool true)) := by
 have H0 : Hid (_ ∧ _) := ⟨hm, Below.refl w.heap.size w⟩
 clear hm
 have C0 : Hid _ := c0
 clear c0
 have C1 : Hid _ := c1
 clear c1
 have C2 : Hid _ := c2
 clear c2
 go_enter Tryz.func6, Tryz.ntmps6
 refine wp_seq ?_
 refine zD 4 [.made (cel [ma0, ma1, ma2, ma3] ++ [Value.bool maz]) 42, .made (cel [mb0, mb1, mb2, mb3] ++ [Value.bool mbz]) 42, .made (cel [md0, md1, md2, md3] ++ [Value.bool mdz]) 42, .quiet (.bool false)] (sB H0) ?ho1 ?he1
 case ho1 => exact ak (fun γ => ⟨rfl, fun w' => yA rfl rfl⟩) (ak (fun γ => ⟨rfl, fun w' => yA rfl rfl⟩) (ak (fun γ => ⟨rfl, fun w' => yA rfl rfl⟩) (ar trivial)))
 intro γ w1 l hM hl
 have H1 : Hid (Mm w1 [(γ 0, cel [ma0, ma1, ma2, ma3] ++ [Value.bool maz]), (γ 1, cel [mb0, mb1, mb2, mb3] ++ [Value.bool mbz]), (γ 2, cel [md0, md1, md2, md3] ++ [Value.bool mdz]), (0, dtab)] ∧ _) := zS H0 hM (Nat.le_refl _) hl [0, 1, 2] rfl (by decide)
 have o1_0 := zP H0 hM (Nat.le_refl _) hl (i := 0) rfl
 have o1_1 := zP H0 hM (Nat.le_refl _) hl (i := 1) rfl
 have o1_2 := zP H0 hM (Nat.le_refl _) hl (i := 2) rfl
 clear hM hl l
 generalize γ 0 = γ1_0 at H1 o1_0 ⊢
 generalize γ 1 = γ1_1 at H1 o1_1 ⊢
 generalize γ 2 = γ1_2 at H1 o1_2 ⊢
 clear γ
 refine zG rfl (zA (wp_seq ?_))
 refine zE 2 [.call (.bool true), .quiet (.bool true)] H1 ?ho2 ?he2
 case ho2 => exact ac (fun w' h => ⟨35, #[], zC rfl call35 rfl (zX rfl), C0.out w' (h.one 3 rfl)⟩) (ar trivial)
 intro _ w2 H2
 clear H1
 refine zG rfl (zA (wp_seq (wp_seq ?_)))
 refine zE 13 [.quiet (.agg (cel [ma0, ma1, ma2, ma3] ++ [Value.bool maz]).toArray), .call (.bool true), .quiet (.bool false), .quiet (.bool false), .quiet (.agg (cel [mb0, mb1, mb2, mb3] ++ [Value.bool mbz]).toArray), .call (.bool false), .quiet (.bool true), .quiet (.bool true), .quiet (.bool true), .gone, .gone, .gone, .quiet (.bool true)] H2 ?ho3 ?he3
 case ho3 => exact aq (fun w' h => lT h 0 Tryz.isAgg42 Tryz.sizeOf42) (ac (fun w' h => ⟨23, #[.agg (cel [ma0, ma1, ma2, ma3] ++ [Value.bool maz]).toArray], zC rfl call23 rfl (zX rfl), C1.out w' (h.one 3 rfl)⟩) (ag (ar (aq (fun w' h => lT h 1 Tryz.isAgg42 Tryz.sizeOf42) (ac (fun w' h => ⟨23, #[.agg (cel [mb0, mb1, mb2, mb3] ++ [Value.bool mbz]).toArray], zC rfl call23 rfl (zX rfl), C2.out w' (h.one 3 rfl)⟩) (ag (ag (ar (ak (fun γ => rfl) (ak (fun γ => rfl) (ak (fun γ => rfl) (ag trivial))))))))))))
 intro _ w3 H3
 clear H2
 refine zG rfl (zA (wp_cond_true rfl (wp_seq ?_)))
 refine zE 2 [.quiet (.bool true), .quiet (.bool true)] H3 ?ho4 ?he4
 case ho4 => exact ar (ar trivial)
 intro _ w4 H4
 clear H3
 refine zG rfl (zA (wp_ret ?_))
 repeat (first | refine zM ?_ | refine zK ?_)
 refine bodyPost_ret (v := .bool true) (by simp [results, Tryz.results6, go_sem, *]) rfl ?_
 exact ⟨rfl, H4.out.2⟩
set_option maxHeartbeats 2000000 in
theorem group2_no2 (ma0 ma1 ma2 ma3 mb0 mb1 mb2 mb3 md0 md1 md2 md3 : Nat) (maz mbz mdz : Bool) (c0 : ∀ w, Mm w [(0, dtab)] → Calls Tryz.prog 35 #[] w (Rt w (.bool true))) (c1 : ∀ w, Mm w [(0, dtab)] → Calls Tryz.prog 23 #[.agg (cel [ma0, ma1, ma2, ma3] ++ [Value.bool maz]).toArray] w (Rt w (.bool true))) (c2 : ∀ w, Mm w [(0, dtab)] → Calls Tryz.prog 23 #[.agg (cel [mb0, mb1, mb2, mb3] ++ [Value.bool mbz]).toArray] w (Rt w (.bool true))) (c3 : ∀ w, Mm w [(0, dtab)] → Calls Tryz.prog 23 #[.agg (cel [md0, md1, md2, md3] ++ [Value.bool mdz]).toArray] w (Rt w (.bool false))) (w : World) (hm : Mm w [(0, dtab)]) :
  Calls Tryz.prog 6 #[.agg (cel [ma0, ma1, ma2, ma3] ++ [Value.bool maz]).toArray, .agg (cel [mb0, mb1, mb2, mb3] ++ [Value.bool mbz]).toArray, .agg (cel [md0, md1, md2, md3] ++ [Value.bool mdz]).toArray] w (Rt w (.bool true)) := by
 have H0 : Hid (_ ∧ _) := ⟨hm, Below.refl w.heap.size w⟩
 clear hm
 have C0 : Hid _ := c0
 clear c0
 have C1 : Hid _ := c1
 clear c1
 have C2 : Hid _ := c2
 clear c2
 have C3 : Hid _ := c3
 clear c3
 go_enter Tryz.func6, Tryz.ntmps6
 refine wp_seq ?_
 refine zD 4 [.made (cel [ma0, ma1, ma2, ma3] ++ [Value.bool maz]) 42, .made (cel [mb0, mb1, mb2, mb3] ++ [Value.bool mbz]) 42, .made (cel [md0, md1, md2, md3] ++ [Value.bool mdz]) 42, .quiet (.bool false)] (sB H0) ?ho1 ?he1
 case ho1 => exact ak (fun γ => ⟨rfl, fun w' => yA rfl rfl⟩) (ak (fun γ => ⟨rfl, fun w' => yA rfl rfl⟩) (ak (fun γ => ⟨rfl, fun w' => yA rfl rfl⟩) (ar trivial)))
 intro γ w1 l hM hl
 have H1 : Hid (Mm w1 [(γ 0, cel [ma0, ma1, ma2, ma3] ++ [Value.bool maz]), (γ 1, cel [mb0, mb1, mb2, mb3] ++ [Value.bool mbz]), (γ 2, cel [md0, md1, md2, md3] ++ [Value.bool mdz]), (0, dtab)] ∧ _) := zS H0 hM (Nat.le_refl _) hl [0, 1, 2] rfl (by decide)
 have o1_0 := zP H0 hM (Nat.le_refl _) hl (i := 0) rfl
 have o1_1 := zP H0 hM (Nat.le_refl _) hl (i := 1) rfl
 have o1_2 := zP H0 hM (Nat.le_refl _) hl (i := 2) rfl
 clear hM hl l
 generalize γ 0 = γ1_0 at H1 o1_0 ⊢
 generalize γ 1 = γ1_1 at H1 o1_1 ⊢
 generalize γ 2 = γ1_2 at H1 o1_2 ⊢
 clear γ
 refine zG rfl (zA (wp_seq ?_))
 refine zE 2 [.call (.bool true), .quiet (.bool true)] H1 ?ho2 ?he2
 case ho2 => exact ac (fun w' h => ⟨35, #[], zC rfl call35 rfl (zX rfl), C0.out w' (h.one 3 rfl)⟩) (ar trivial)
 intro _ w2 H2
 clear H1
 refine zG rfl (zA (wp_seq (wp_seq ?_)))
 refine zE 13 [.quiet (.agg (cel [ma0, ma1, ma2, ma3] ++ [Value.bool maz]).toArray), .call (.bool true), .quiet (.bool false), .quiet (.bool false), .quiet (.agg (cel [mb0, mb1, mb2, mb3] ++ [Value.bool mbz]).toArray), .call (.bool true), .quiet (.bool false), .quiet (.bool false), .quiet (.bool false), .quiet (.agg (cel [md0, md1, md2, md3] ++ [Value.bool mdz]).toArray), .call (.bool false), .quiet (.bool true), .quiet (.bool true)] H2 ?ho3 ?he3
 case ho3 => exact aq (fun w' h => lT h 0 Tryz.isAgg42 Tryz.sizeOf42) (ac (fun w' h => ⟨23, #[.agg (cel [ma0, ma1, ma2, ma3] ++ [Value.bool maz]).toArray], zC rfl call23 rfl (zX rfl), C1.out w' (h.one 3 rfl)⟩) (ag (ar (aq (fun w' h => lT h 1 Tryz.isAgg42 Tryz.sizeOf42) (ac (fun w' h => ⟨23, #[.agg (cel [mb0, mb1, mb2, mb3] ++ [Value.bool mbz]).toArray], zC rfl call23 rfl (zX rfl), C2.out w' (h.one 3 rfl)⟩) (ag (ag (ar (aq (fun w' h => lT h 2 Tryz.isAgg42 Tryz.sizeOf42) (ac (fun w' h => ⟨23, #[.agg (cel [md0, md1, md2, md3] ++ [Value.bool mdz]).toArray], zC rfl call23 rfl (zX rfl), C3.out w' (h.one 3 rfl)⟩) (ag (ag trivial))))))))))))
 intro _ w3 H3
 clear H2
 refine zG rfl (zA (wp_cond_true rfl (wp_seq ?_)))
 refine zE 2 [.quiet (.bool true), .quiet (.bool true)] H3 ?ho4 ?he4
 case ho4 => exact ar (ar trivial)
 intro _ w4 H4
 clear H3
 refine zG rfl (zA (wp_ret ?_))
 repeat (first | refine zM ?_ | refine zK ?_)
 refine bodyPost_ret (v := .bool true) (by simp [results, Tryz.results6, go_sem, *]) rfl ?_
 exact ⟨rfl, H4.out.2⟩
set_option maxHeartbeats 4000000 in
theorem group2_yes (ma0 ma1 ma2 ma3 mb0 mb1 mb2 mb3 md0 md1 md2 md3 mr0 mr1 mr2 mr3 ms0 ms1 ms2 ms3 mt0 mt1 mt2 mt3 mu0 mu1 mu2 mu3 : Nat) (maz mbz mdz mrz msz mtz muz : Bool) (c0 : ∀ w, Mm w [(0, dtab)] → Calls Tryz.prog 35 #[] w (Rt w (.bool true))) (c1 : ∀ w, Mm w [(0, dtab)] → Calls Tryz.prog 23 #[.agg (cel [ma0, ma1, ma2, ma3] ++ [Value.bool maz]).toArray] w (Rt w (.bool true))) (c2 : ∀ w, Mm w [(0, dtab)] → Calls Tryz.prog 23 #[.agg (cel [mb0, mb1, mb2, mb3] ++ [Value.bool mbz]).toArray] w (Rt w (.bool true))) (c3 : ∀ w, Mm w [(0, dtab)] → Calls Tryz.prog 23 #[.agg (cel [md0, md1, md2, md3] ++ [Value.bool mdz]).toArray] w (Rt w (.bool true))) (c4 : ∀ w, Mm w [(0, dtab)] → Calls Tryz.prog 29 #[.agg (cel [ma0, ma1, ma2, ma3] ++ [Value.bool maz]).toArray, .agg (cel [mb0, mb1, mb2, mb3] ++ [Value.bool mbz]).toArray] w (Rt w (.tuple #[.agg (cel [mr0, mr1, mr2, mr3] ++ [Value.bool mrz]).toArray, .int .i64 0]))) (c5 : ∀ w, Mm w [(0, dtab)] → Calls Tryz.prog 29 #[.agg (cel [mb0, mb1, mb2, mb3] ++ [Value.bool mbz]).toArray, .agg (cel [ma0, ma1, ma2, ma3] ++ [Value.bool maz]).toArray] w (Rt w (.tuple #[.agg (cel [mr0, mr1, mr2, mr3] ++ [Value.bool mrz]).toArray, .int .i64 0]))) (c6 : ∀ w, Mm w [(0, dtab)] → Calls Tryz.prog 29 #[.agg (cel [mb0, mb1, mb2, mb3] ++ [Value.bool mbz]).toArray, .agg (cel [md0, md1, md2, md3] ++ [Value.bool mdz]).toArray] w (Rt w (.tuple #[.agg (cel [ms0, ms1, ms2, ms3] ++ [Value.bool msz]).toArray, .int .i64 0]))) (c7 : ∀ w, Mm w [(0, dtab)] → Calls Tryz.prog 29 #[.agg (cel [mr0, mr1, mr2, mr3] ++ [Value.bool mrz]).toArray, .agg (cel [md0, md1, md2, md3] ++ [Value.bool mdz]).toArray] w (Rt w (.tuple #[.agg (cel [mt0, mt1, mt2, mt3] ++ [Value.bool mtz]).toArray, .int .i64 0]))) (c8 : ∀ w, Mm w [(0, dtab)] → Calls Tryz.prog 29 #[.agg (cel [ma0, ma1, ma2, ma3] ++ [Value.bool maz]).toArray, .agg (cel [ms0, ms1, ms2, ms3] ++ [Value.bool msz]).toArray] w (Rt w (.tuple #[.agg (cel [mt0, mt1, mt2, mt3] ++ [Value.bool mtz]).toArray, .int .i64 0]))) (c9 : ∀ w, Mm w [(0, dtab)] → Calls Tryz.prog 28 #[.agg (cel [ma0, ma1, ma2, ma3] ++ [Value.bool maz]).toArray] w (Rt w (.tuple #[.agg (cel [mu0, mu1, mu2, mu3] ++ [Value.bool muz]).toArray, .int .i64 0]))) (c10 : ∀ w, Mm w [(0, dtab)] → Calls Tryz.prog 29 #[.agg (cel [ma0, ma1, ma2, ma3] ++ [Value.bool maz]).toArray, .agg (cel [mu0, mu1, mu2, mu3] ++ [Value.bool muz]).toArray] w (Rt w (.tuple #[.agg (cel [0, 0, 0, 0] ++ [Value.bool true]).toArray, .int .i64 0]))) (c11 : ∀ w, Mm w [(0, dtab)] → Calls Tryz.prog 29 #[.agg (cel [ma0, ma1, ma2, ma3] ++ [Value.bool maz]).toArray, .agg (cel [0, 0, 0, 0] ++ [Value.bool true]).toArray] w (Rt w (.tuple #[.agg (cel [ma0, ma1, ma2, ma3] ++ [Value.bool maz]).toArray, .int .i64 0]))) (c12 : ∀ w, Mm w [(0, dtab)] → Calls Tryz.prog 23 #[.agg (cel [mt0, mt1, mt2, mt3] ++ [Value.bool mtz]).toArray] w (Rt w (.bool true))) (e0 : ∀ w, (Op.equalIn 10000 42 (.agg (cel [mr0, mr1, mr2, mr3] ++ [Value.bool mrz]).toArray) (.agg (cel [mr0, mr1, mr2, mr3] ++ [Value.bool mrz]).toArray)).run Tryz.prog w = .ok true w) (e1 : ∀ w, (Op.equalIn 10000 42 (.agg (cel [mt0, mt1, mt2, mt3] ++ [Value.bool mtz]).toArray) (.agg (cel [mt0, mt1, mt2, mt3] ++ [Value.bool mtz]).toArray)).run Tryz.prog w = .ok true w) (e2 : ∀ w, (Op.equalIn 10000 42 (.agg (cel [0, 0, 0, 0] ++ [Value.bool true]).toArray) (.agg (cel [0, 0, 0, 0] ++ [Value.bool true]).toArray)).run Tryz.prog w = .ok true w) (e3 : ∀ w, (Op.equalIn 10000 42 (.agg (cel [ma0, ma1, ma2, ma3] ++ [Value.bool maz]).toArray) (.agg (cel [ma0, ma1, ma2, ma3] ++ [Value.bool maz]).toArray)).run Tryz.prog w = .ok true w) (w : World) (hm : Mm w [(0, dtab)]) :
  Calls Tryz.prog 6 #[.agg (cel [ma0, ma1, ma2, ma3] ++ [Value.bool maz]).toArray, .agg (cel [mb0, mb1, mb2, mb3] ++ [Value.bool mbz]).toArray, .agg (cel [md0, md1, md2, md3] ++ [Value.bool mdz]).toArray] w (Rt w (.bool true)) := by
 have H0 : Hid (_ ∧ _) := ⟨hm, Below.refl w.heap.size w⟩
 clear hm
 have C0 : Hid _ := c0
 clear c0
 have C1 : Hid _ := c1
 clear c1
 have C2 : Hid _ := c2
 clear c2
 have C3 : Hid _ := c3
 clear c3
 have C4 : Hid _ := c4
 clear c4
 have C5 : Hid _ := c5
 clear c5
 have C6 : Hid _ := c6
 clear c6
 have C7 : Hid _ := c7
 clear c7
 have C8 : Hid _ := c8
 clear c8
 have C9 : Hid _ := c9
 clear c9
 have C10 : Hid _ := c10
 clear c10
 have C11 : Hid _ := c11
 clear c11
 have C12 : Hid _ := c12
 clear c12
 have E0 : Hid _ := e0
 clear e0
 have E1 : Hid _ := e1
 clear e1
 have E2 : Hid _ := e2
 clear e2
 have E3 : Hid _ := e3
 clear e3
 go_enter Tryz.func6, Tryz.ntmps6
 refine wp_seq ?_
 refine zD 4 [.made (cel [ma0, ma1, ma2, ma3] ++ [Value.bool maz]) 42, .made (cel [mb0, mb1, mb2, mb3] ++ [Value.bool mbz]) 42, .made (cel [md0, md1, md2, md3] ++ [Value.bool mdz]) 42, .quiet (.bool false)] (sB H0) ?ho1 ?he1
 case ho1 => exact ak (fun γ => ⟨rfl, fun w' => yA rfl rfl⟩) (ak (fun γ => ⟨rfl, fun w' => yA rfl rfl⟩) (ak (fun γ => ⟨rfl, fun w' => yA rfl rfl⟩) (ar trivial)))
 intro γ w1 l hM hl
 have H1 : Hid (Mm w1 [(γ 0, cel [ma0, ma1, ma2, ma3] ++ [Value.bool maz]), (γ 1, cel [mb0, mb1, mb2, mb3] ++ [Value.bool mbz]), (γ 2, cel [md0, md1, md2, md3] ++ [Value.bool mdz]), (0, dtab)] ∧ _) := zS H0 hM (Nat.le_refl _) hl [0, 1, 2] rfl (by decide)
 have o1_0 := zP H0 hM (Nat.le_refl _) hl (i := 0) rfl
 have o1_1 := zP H0 hM (Nat.le_refl _) hl (i := 1) rfl
 have o1_2 := zP H0 hM (Nat.le_refl _) hl (i := 2) rfl
 clear hM hl l
 generalize γ 0 = γ1_0 at H1 o1_0 ⊢
 generalize γ 1 = γ1_1 at H1 o1_1 ⊢
 generalize γ 2 = γ1_2 at H1 o1_2 ⊢
 clear γ
 refine zG rfl (zA (wp_seq ?_))
 refine zE 2 [.call (.bool true), .quiet (.bool true)] H1 ?ho2 ?he2
 case ho2 => exact ac (fun w' h => ⟨35, #[], zC rfl call35 rfl (zX rfl), C0.out w' (h.one 3 rfl)⟩) (ar trivial)
 intro _ w2 H2
 clear H1
 refine zG rfl (zA (wp_seq (wp_seq ?_)))
 refine zE 13 [.quiet (.agg (cel [ma0, ma1, ma2, ma3] ++ [Value.bool maz]).toArray), .call (.bool true), .quiet (.bool false), .quiet (.bool false), .quiet (.agg (cel [mb0, mb1, mb2, mb3] ++ [Value.bool mbz]).toArray), .call (.bool true), .quiet (.bool false), .quiet (.bool false), .quiet (.bool false), .quiet (.agg (cel [md0, md1, md2, md3] ++ [Value.bool mdz]).toArray), .call (.bool true), .quiet (.bool false), .quiet (.bool false)] H2 ?ho3 ?he3
 case ho3 => exact aq (fun w' h => lT h 0 Tryz.isAgg42 Tryz.sizeOf42) (ac (fun w' h => ⟨23, #[.agg (cel [ma0, ma1, ma2, ma3] ++ [Value.bool maz]).toArray], zC rfl call23 rfl (zX rfl), C1.out w' (h.one 3 rfl)⟩) (ag (ar (aq (fun w' h => lT h 1 Tryz.isAgg42 Tryz.sizeOf42) (ac (fun w' h => ⟨23, #[.agg (cel [mb0, mb1, mb2, mb3] ++ [Value.bool mbz]).toArray], zC rfl call23 rfl (zX rfl), C2.out w' (h.one 3 rfl)⟩) (ag (ag (ar (aq (fun w' h => lT h 2 Tryz.isAgg42 Tryz.sizeOf42) (ac (fun w' h => ⟨23, #[.agg (cel [md0, md1, md2, md3] ++ [Value.bool mdz]).toArray], zC rfl call23 rfl (zX rfl), C3.out w' (h.one 3 rfl)⟩) (ag (ag trivial))))))))))))
 intro _ w3 H3
 clear H2
 refine zG rfl (zA (wp_cond_false rfl ?_))
 refine wp_skip (zA (wp_seq ?_))
 refine zD 9 [.quiet (.agg (cel [ma0, ma1, ma2, ma3] ++ [Value.bool maz]).toArray), .quiet (.agg (cel [mb0, mb1, mb2, mb3] ++ [Value.bool mbz]).toArray), .call (.tuple #[.agg (cel [mr0, mr1, mr2, mr3] ++ [Value.bool mrz]).toArray, .int .i64 0]), .quiet (.tuple #[.agg (cel [mr0, mr1, mr2, mr3] ++ [Value.bool mrz]).toArray, .int .i64 0]), .quiet (.agg (cel [mr0, mr1, mr2, mr3] ++ [Value.bool mrz]).toArray), .quiet (.int .i64 0), .made (cel [0, 0, 0, 0] ++ [Value.bool false]) 42, .laid 6 (cel [0, 0, 0, 0] ++ [Value.bool false]) (cel [mr0, mr1, mr2, mr3] ++ [Value.bool mrz]), .quiet (.int .i64 0)] (sB H3) ?ho4 ?he4 (hL := ?hL4)
 case hL4 => exact ⟨⟨_, rfl⟩, trivial⟩
 case ho4 => exact aq (fun w' h => lT h 0 Tryz.isAgg42 Tryz.sizeOf42) (aq (fun w' h => lT h 1 Tryz.isAgg42 Tryz.sizeOf42) (ac (fun w' h => ⟨29, #[.agg (cel [ma0, ma1, ma2, ma3] ++ [Value.bool maz]).toArray, .agg (cel [mb0, mb1, mb2, mb3] ++ [Value.bool mbz]).toArray], zC rfl call29 rfl (zX rfl), C4.out w' (h.one 3 rfl)⟩) (ar (ag (ag (ak (fun γ => ⟨rfl, fun w' => ex_madeP2 rfl⟩) (ak (fun γ => ⟨rfl, rfl, rfl, fun w' h => ex_laidT h rfl rfl Tryz.sizeOf42 rfl rfl rfl⟩) (ar trivial))))))))
 intro γ w4 l hM hl
 have H4 : Hid (Mm w4 [(γ 6, cel [mr0, mr1, mr2, mr3] ++ [Value.bool mrz]), (γ1_0, cel [ma0, ma1, ma2, ma3] ++ [Value.bool maz]), (γ1_1, cel [mb0, mb1, mb2, mb3] ++ [Value.bool mbz]), (γ1_2, cel [md0, md1, md2, md3] ++ [Value.bool mdz]), (0, dtab)] ∧ _) := zS H3 hM (Nat.le_refl _) hl [6] rfl (by decide)
 have o4_6 := zP H3 hM (Nat.le_refl _) hl (i := 6) rfl
 clear hM hl l H3
 generalize γ 6 = γ4_6 at H4 o4_6 ⊢
 clear γ
 refine zG rfl (zA (wp_seq ?_))
 refine zD 9 [.quiet (.agg (cel [mb0, mb1, mb2, mb3] ++ [Value.bool mbz]).toArray), .quiet (.agg (cel [ma0, ma1, ma2, ma3] ++ [Value.bool maz]).toArray), .call (.tuple #[.agg (cel [mr0, mr1, mr2, mr3] ++ [Value.bool mrz]).toArray, .int .i64 0]), .quiet (.tuple #[.agg (cel [mr0, mr1, mr2, mr3] ++ [Value.bool mrz]).toArray, .int .i64 0]), .quiet (.agg (cel [mr0, mr1, mr2, mr3] ++ [Value.bool mrz]).toArray), .quiet (.int .i64 0), .made (cel [0, 0, 0, 0] ++ [Value.bool false]) 42, .laid 6 (cel [0, 0, 0, 0] ++ [Value.bool false]) (cel [mr0, mr1, mr2, mr3] ++ [Value.bool mrz]), .quiet (.int .i64 0)] (sB H4) ?ho5 ?he5 (hL := ?hL5)
 case hL5 => exact ⟨⟨_, rfl⟩, trivial⟩
 case ho5 => exact aq (fun w' h => lT h 2 Tryz.isAgg42 Tryz.sizeOf42) (aq (fun w' h => lT h 1 Tryz.isAgg42 Tryz.sizeOf42) (ac (fun w' h => ⟨29, #[.agg (cel [mb0, mb1, mb2, mb3] ++ [Value.bool mbz]).toArray, .agg (cel [ma0, ma1, ma2, ma3] ++ [Value.bool maz]).toArray], zC rfl call29 rfl (zX rfl), C5.out w' (h.one 4 rfl)⟩) (ar (ag (ag (ak (fun γ => ⟨rfl, fun w' => ex_madeP2 rfl⟩) (ak (fun γ => ⟨rfl, rfl, rfl, fun w' h => ex_laidT h rfl rfl Tryz.sizeOf42 rfl rfl rfl⟩) (ar trivial))))))))
 intro γ w5 l hM hl
 have H5 : Hid (Mm w5 [(γ 6, cel [mr0, mr1, mr2, mr3] ++ [Value.bool mrz]), (γ4_6, cel [mr0, mr1, mr2, mr3] ++ [Value.bool mrz]), (γ1_0, cel [ma0, ma1, ma2, ma3] ++ [Value.bool maz]), (γ1_1, cel [mb0, mb1, mb2, mb3] ++ [Value.bool mbz]), (γ1_2, cel [md0, md1, md2, md3] ++ [Value.bool mdz]), (0, dtab)] ∧ _) := zS H4 hM (Nat.le_refl _) hl [6] rfl (by decide)
 have o5_6 := zP H4 hM (Nat.le_refl _) hl (i := 6) rfl
 clear hM hl l H4
 generalize γ 6 = γ5_6 at H5 o5_6 ⊢
 clear γ
 refine zG rfl (zA (wp_seq ?_))
 refine zD 9 [.quiet (.agg (cel [mb0, mb1, mb2, mb3] ++ [Value.bool mbz]).toArray), .quiet (.agg (cel [md0, md1, md2, md3] ++ [Value.bool mdz]).toArray), .call (.tuple #[.agg (cel [ms0, ms1, ms2, ms3] ++ [Value.bool msz]).toArray, .int .i64 0]), .quiet (.tuple #[.agg (cel [ms0, ms1, ms2, ms3] ++ [Value.bool msz]).toArray, .int .i64 0]), .quiet (.agg (cel [ms0, ms1, ms2, ms3] ++ [Value.bool msz]).toArray), .quiet (.int .i64 0), .made (cel [0, 0, 0, 0] ++ [Value.bool false]) 42, .laid 6 (cel [0, 0, 0, 0] ++ [Value.bool false]) (cel [ms0, ms1, ms2, ms3] ++ [Value.bool msz]), .quiet (.int .i64 0)] (sB H5) ?ho6 ?he6 (hL := ?hL6)
 case hL6 => exact ⟨⟨_, rfl⟩, trivial⟩
 case ho6 => exact aq (fun w' h => lT h 3 Tryz.isAgg42 Tryz.sizeOf42) (aq (fun w' h => lT h 4 Tryz.isAgg42 Tryz.sizeOf42) (ac (fun w' h => ⟨29, #[.agg (cel [mb0, mb1, mb2, mb3] ++ [Value.bool mbz]).toArray, .agg (cel [md0, md1, md2, md3] ++ [Value.bool mdz]).toArray], zC rfl call29 rfl (zX rfl), C6.out w' (h.one 5 rfl)⟩) (ar (ag (ag (ak (fun γ => ⟨rfl, fun w' => ex_madeP2 rfl⟩) (ak (fun γ => ⟨rfl, rfl, rfl, fun w' h => ex_laidT h rfl rfl Tryz.sizeOf42 rfl rfl rfl⟩) (ar trivial))))))))
 intro γ w6 l hM hl
 have H6 : Hid (Mm w6 [(γ 6, cel [ms0, ms1, ms2, ms3] ++ [Value.bool msz]), (γ5_6, cel [mr0, mr1, mr2, mr3] ++ [Value.bool mrz]), (γ4_6, cel [mr0, mr1, mr2, mr3] ++ [Value.bool mrz]), (γ1_0, cel [ma0, ma1, ma2, ma3] ++ [Value.bool maz]), (γ1_1, cel [mb0, mb1, mb2, mb3] ++ [Value.bool mbz]), (γ1_2, cel [md0, md1, md2, md3] ++ [Value.bool mdz]), (0, dtab)] ∧ _) := zS H5 hM (Nat.le_refl _) hl [6] rfl (by decide)
 have o6_6 := zP H5 hM (Nat.le_refl _) hl (i := 6) rfl
 clear hM hl l H5
 generalize γ 6 = γ6_6 at H6 o6_6 ⊢
 clear γ
 refine zG rfl (zA (wp_seq ?_))
 refine zD 9 [.quiet (.agg (cel [mr0, mr1, mr2, mr3] ++ [Value.bool mrz]).toArray), .quiet (.agg (cel [md0, md1, md2, md3] ++ [Value.bool mdz]).toArray), .call (.tuple #[.agg (cel [mt0, mt1, mt2, mt3] ++ [Value.bool mtz]).toArray, .int .i64 0]), .quiet (.tuple #[.agg (cel [mt0, mt1, mt2, mt3] ++ [Value.bool mtz]).toArray, .int .i64 0]), .quiet (.agg (cel [mt0, mt1, mt2, mt3] ++ [Value.bool mtz]).toArray), .quiet (.int .i64 0), .made (cel [0, 0, 0, 0] ++ [Value.bool false]) 42, .laid 6 (cel [0, 0, 0, 0] ++ [Value.bool false]) (cel [mt0, mt1, mt2, mt3] ++ [Value.bool mtz]), .quiet (.int .i64 0)] (sB H6) ?ho7 ?he7 (hL := ?hL7)
 case hL7 => exact ⟨⟨_, rfl⟩, trivial⟩
 case ho7 => exact aq (fun w' h => lT h 2 Tryz.isAgg42 Tryz.sizeOf42) (aq (fun w' h => lT h 5 Tryz.isAgg42 Tryz.sizeOf42) (ac (fun w' h => ⟨29, #[.agg (cel [mr0, mr1, mr2, mr3] ++ [Value.bool mrz]).toArray, .agg (cel [md0, md1, md2, md3] ++ [Value.bool mdz]).toArray], zC rfl call29 rfl (zX rfl), C7.out w' (h.one 6 rfl)⟩) (ar (ag (ag (ak (fun γ => ⟨rfl, fun w' => ex_madeP2 rfl⟩) (ak (fun γ => ⟨rfl, rfl, rfl, fun w' h => ex_laidT h rfl rfl Tryz.sizeOf42 rfl rfl rfl⟩) (ar trivial))))))))
 intro γ w7 l hM hl
 have H7 : Hid (Mm w7 [(γ 6, cel [mt0, mt1, mt2, mt3] ++ [Value.bool mtz]), (γ6_6, cel [ms0, ms1, ms2, ms3] ++ [Value.bool msz]), (γ5_6, cel [mr0, mr1, mr2, mr3] ++ [Value.bool mrz]), (γ4_6, cel [mr0, mr1, mr2, mr3] ++ [Value.bool mrz]), (γ1_0, cel [ma0, ma1, ma2, ma3] ++ [Value.bool maz]), (γ1_1, cel [mb0, mb1, mb2, mb3] ++ [Value.bool mbz]), (γ1_2, cel [md0, md1, md2, md3] ++ [Value.bool mdz]), (0, dtab)] ∧ _) := zS H6 hM (Nat.le_refl _) hl [6] rfl (by decide)
 have o7_6 := zP H6 hM (Nat.le_refl _) hl (i := 6) rfl
 clear hM hl l H6
 generalize γ 6 = γ7_6 at H7 o7_6 ⊢
 clear γ
 refine zG rfl (zA (wp_seq ?_))
 refine zD 9 [.quiet (.agg (cel [ma0, ma1, ma2, ma3] ++ [Value.bool maz]).toArray), .quiet (.agg (cel [ms0, ms1, ms2, ms3] ++ [Value.bool msz]).toArray), .call (.tuple #[.agg (cel [mt0, mt1, mt2, mt3] ++ [Value.bool mtz]).toArray, .int .i64 0]), .quiet (.tuple #[.agg (cel [mt0, mt1, mt2, mt3] ++ [Value.bool mtz]).toArray, .int .i64 0]), .quiet (.agg (cel [mt0, mt1, mt2, mt3] ++ [Value.bool mtz]).toArray), .quiet (.int .i64 0), .made (cel [0, 0, 0, 0] ++ [Value.bool false]) 42, .laid 6 (cel [0, 0, 0, 0] ++ [Value.bool false]) (cel [mt0, mt1, mt2, mt3] ++ [Value.bool mtz]), .quiet (.int .i64 0)] (sB H7) ?ho8 ?he8 (hL := ?hL8)
 case hL8 => exact ⟨⟨_, rfl⟩, trivial⟩
 case ho8 => exact aq (fun w' h => lT h 4 Tryz.isAgg42 Tryz.sizeOf42) (aq (fun w' h => lT h 1 Tryz.isAgg42 Tryz.sizeOf42) (ac (fun w' h => ⟨29, #[.agg (cel [ma0, ma1, ma2, ma3] ++ [Value.bool maz]).toArray, .agg (cel [ms0, ms1, ms2, ms3] ++ [Value.bool msz]).toArray], zC rfl call29 rfl (zX rfl), C8.out w' (h.one 7 rfl)⟩) (ar (ag (ag (ak (fun γ => ⟨rfl, fun w' => ex_madeP2 rfl⟩) (ak (fun γ => ⟨rfl, rfl, rfl, fun w' h => ex_laidT h rfl rfl Tryz.sizeOf42 rfl rfl rfl⟩) (ar trivial))))))))
 intro γ w8 l hM hl
 have H8 : Hid (Mm w8 [(γ 6, cel [mt0, mt1, mt2, mt3] ++ [Value.bool mtz]), (γ7_6, cel [mt0, mt1, mt2, mt3] ++ [Value.bool mtz]), (γ6_6, cel [ms0, ms1, ms2, ms3] ++ [Value.bool msz]), (γ5_6, cel [mr0, mr1, mr2, mr3] ++ [Value.bool mrz]), (γ4_6, cel [mr0, mr1, mr2, mr3] ++ [Value.bool mrz]), (γ1_0, cel [ma0, ma1, ma2, ma3] ++ [Value.bool maz]), (γ1_1, cel [mb0, mb1, mb2, mb3] ++ [Value.bool mbz]), (γ1_2, cel [md0, md1, md2, md3] ++ [Value.bool mdz]), (0, dtab)] ∧ _) := zS H7 hM (Nat.le_refl _) hl [6] rfl (by decide)
 have o8_6 := zP H7 hM (Nat.le_refl _) hl (i := 6) rfl
 clear hM hl l H7
 generalize γ 6 = γ8_6 at H8 o8_6 ⊢
 clear γ
 refine zG rfl (zA (wp_seq ?_))
 refine zD 8 [.quiet (.agg (cel [ma0, ma1, ma2, ma3] ++ [Value.bool maz]).toArray), .call (.tuple #[.agg (cel [mu0, mu1, mu2, mu3] ++ [Value.bool muz]).toArray, .int .i64 0]), .quiet (.tuple #[.agg (cel [mu0, mu1, mu2, mu3] ++ [Value.bool muz]).toArray, .int .i64 0]), .quiet (.agg (cel [mu0, mu1, mu2, mu3] ++ [Value.bool muz]).toArray), .quiet (.int .i64 0), .made (cel [0, 0, 0, 0] ++ [Value.bool false]) 42, .laid 5 (cel [0, 0, 0, 0] ++ [Value.bool false]) (cel [mu0, mu1, mu2, mu3] ++ [Value.bool muz]), .quiet (.int .i64 0)] (sB H8) ?ho9 ?he9 (hL := ?hL9)
 case hL9 => exact ⟨⟨_, rfl⟩, trivial⟩
 case ho9 => exact aq (fun w' h => lT h 5 Tryz.isAgg42 Tryz.sizeOf42) (ac (fun w' h => ⟨28, #[.agg (cel [ma0, ma1, ma2, ma3] ++ [Value.bool maz]).toArray], zC rfl call28 rfl (zX rfl), C9.out w' (h.one 8 rfl)⟩) (ar (ag (ag (ak (fun γ => ⟨rfl, fun w' => ex_madeP2 rfl⟩) (ak (fun γ => ⟨rfl, rfl, rfl, fun w' h => ex_laidT h rfl rfl Tryz.sizeOf42 rfl rfl rfl⟩) (ar trivial)))))))
 intro γ w9 l hM hl
 have H9 : Hid (Mm w9 [(γ 5, cel [mu0, mu1, mu2, mu3] ++ [Value.bool muz]), (γ8_6, cel [mt0, mt1, mt2, mt3] ++ [Value.bool mtz]), (γ7_6, cel [mt0, mt1, mt2, mt3] ++ [Value.bool mtz]), (γ6_6, cel [ms0, ms1, ms2, ms3] ++ [Value.bool msz]), (γ5_6, cel [mr0, mr1, mr2, mr3] ++ [Value.bool mrz]), (γ4_6, cel [mr0, mr1, mr2, mr3] ++ [Value.bool mrz]), (γ1_0, cel [ma0, ma1, ma2, ma3] ++ [Value.bool maz]), (γ1_1, cel [mb0, mb1, mb2, mb3] ++ [Value.bool mbz]), (γ1_2, cel [md0, md1, md2, md3] ++ [Value.bool mdz]), (0, dtab)] ∧ _) := zS H8 hM (Nat.le_refl _) hl [5] rfl (by decide)
 have o9_5 := zP H8 hM (Nat.le_refl _) hl (i := 5) rfl
 clear hM hl l H8
 generalize γ 5 = γ9_5 at H9 o9_5 ⊢
 clear γ
 refine zG rfl (zA (wp_seq ?_))
 refine zD 9 [.quiet (.agg (cel [ma0, ma1, ma2, ma3] ++ [Value.bool maz]).toArray), .quiet (.agg (cel [mu0, mu1, mu2, mu3] ++ [Value.bool muz]).toArray), .call (.tuple #[.agg (cel [0, 0, 0, 0] ++ [Value.bool true]).toArray, .int .i64 0]), .quiet (.tuple #[.agg (cel [0, 0, 0, 0] ++ [Value.bool true]).toArray, .int .i64 0]), .quiet (.agg (cel [0, 0, 0, 0] ++ [Value.bool true]).toArray), .quiet (.int .i64 0), .made (cel [0, 0, 0, 0] ++ [Value.bool false]) 42, .laid 6 (cel [0, 0, 0, 0] ++ [Value.bool false]) (cel [0, 0, 0, 0] ++ [Value.bool true]), .quiet (.int .i64 0)] (sB H9) ?ho10 ?he10 (hL := ?hL10)
 case hL10 => exact ⟨⟨_, rfl⟩, trivial⟩
 case ho10 => exact aq (fun w' h => lT h 6 Tryz.isAgg42 Tryz.sizeOf42) (aq (fun w' h => lT h 0 Tryz.isAgg42 Tryz.sizeOf42) (ac (fun w' h => ⟨29, #[.agg (cel [ma0, ma1, ma2, ma3] ++ [Value.bool maz]).toArray, .agg (cel [mu0, mu1, mu2, mu3] ++ [Value.bool muz]).toArray], zC rfl call29 rfl (zX rfl), C10.out w' (h.one 9 rfl)⟩) (ar (ag (ag (ak (fun γ => ⟨rfl, fun w' => ex_madeP2 rfl⟩) (ak (fun γ => ⟨rfl, rfl, rfl, fun w' h => ex_laidT h rfl rfl Tryz.sizeOf42 rfl rfl rfl⟩) (ar trivial))))))))
 intro γ w10 l hM hl
 have H10 : Hid (Mm w10 [(γ 6, cel [0, 0, 0, 0] ++ [Value.bool true]), (γ9_5, cel [mu0, mu1, mu2, mu3] ++ [Value.bool muz]), (γ8_6, cel [mt0, mt1, mt2, mt3] ++ [Value.bool mtz]), (γ7_6, cel [mt0, mt1, mt2, mt3] ++ [Value.bool mtz]), (γ6_6, cel [ms0, ms1, ms2, ms3] ++ [Value.bool msz]), (γ5_6, cel [mr0, mr1, mr2, mr3] ++ [Value.bool mrz]), (γ4_6, cel [mr0, mr1, mr2, mr3] ++ [Value.bool mrz]), (γ1_0, cel [ma0, ma1, ma2, ma3] ++ [Value.bool maz]), (γ1_1, cel [mb0, mb1, mb2, mb3] ++ [Value.bool mbz]), (γ1_2, cel [md0, md1, md2, md3] ++ [Value.bool mdz]), (0, dtab)] ∧ _) := zS H9 hM (Nat.le_refl _) hl [6] rfl (by decide)
 have o10_6 := zP H9 hM (Nat.le_refl _) hl (i := 6) rfl
 clear hM hl l H9
 generalize γ 6 = γ10_6 at H10 o10_6 ⊢
 clear γ
 refine zG rfl (zA (wp_seq ?_))
 refine zD 9 [.quiet (.agg (cel [ma0, ma1, ma2, ma3] ++ [Value.bool maz]).toArray), .quiet (.agg (cel [0, 0, 0, 0] ++ [Value.bool true]).toArray), .call (.tuple #[.agg (cel [ma0, ma1, ma2, ma3] ++ [Value.bool maz]).toArray, .int .i64 0]), .quiet (.tuple #[.agg (cel [ma0, ma1, ma2, ma3] ++ [Value.bool maz]).toArray, .int .i64 0]), .quiet (.agg (cel [ma0, ma1, ma2, ma3] ++ [Value.bool maz]).toArray), .quiet (.int .i64 0), .made (cel [0, 0, 0, 0] ++ [Value.bool false]) 42, .laid 6 (cel [0, 0, 0, 0] ++ [Value.bool false]) (cel [ma0, ma1, ma2, ma3] ++ [Value.bool maz]), .quiet (.int .i64 0)] (sB H10) ?ho11 ?he11 (hL := ?hL11)
 case hL11 => exact ⟨⟨_, rfl⟩, trivial⟩
 case ho11 => exact aq (fun w' h => lT h 7 Tryz.isAgg42 Tryz.sizeOf42) (ak (fun γ => ⟨rfl, fun w' _ => ex_buildP2t rfl rfl⟩) (ac (fun w' h => ⟨29, #[.agg (cel [ma0, ma1, ma2, ma3] ++ [Value.bool maz]).toArray, .agg (cel [0, 0, 0, 0] ++ [Value.bool true]).toArray], zC rfl call29 rfl (zX rfl), C11.out w' (h.one 10 rfl)⟩) (ar (ag (ag (ak (fun γ => ⟨rfl, fun w' => ex_madeP2 rfl⟩) (ak (fun γ => ⟨rfl, rfl, rfl, fun w' h => ex_laidT h rfl rfl Tryz.sizeOf42 rfl rfl rfl⟩) (ar trivial))))))))
 intro γ w11 l hM hl
 have H11 : Hid (Mm w11 [(γ 6, cel [ma0, ma1, ma2, ma3] ++ [Value.bool maz]), (γ10_6, cel [0, 0, 0, 0] ++ [Value.bool true]), (γ9_5, cel [mu0, mu1, mu2, mu3] ++ [Value.bool muz]), (γ8_6, cel [mt0, mt1, mt2, mt3] ++ [Value.bool mtz]), (γ7_6, cel [mt0, mt1, mt2, mt3] ++ [Value.bool mtz]), (γ6_6, cel [ms0, ms1, ms2, ms3] ++ [Value.bool msz]), (γ5_6, cel [mr0, mr1, mr2, mr3] ++ [Value.bool mrz]), (γ4_6, cel [mr0, mr1, mr2, mr3] ++ [Value.bool mrz]), (γ1_0, cel [ma0, ma1, ma2, ma3] ++ [Value.bool maz]), (γ1_1, cel [mb0, mb1, mb2, mb3] ++ [Value.bool mbz]), (γ1_2, cel [md0, md1, md2, md3] ++ [Value.bool mdz]), (0, dtab)] ∧ _) := zS H10 hM (Nat.le_refl _) hl [6] rfl (by decide)
 have o11_6 := zP H10 hM (Nat.le_refl _) hl (i := 6) rfl
 clear hM hl l H10
 generalize γ 6 = γ11_6 at H11 o11_6 ⊢
 clear γ
 refine zG rfl (zA (wp_seq ?_))
 refine zE 31 [.quiet (.int .i64 0), .quiet (.bool true), .quiet (.bool true), .quiet (.int .i64 0), .quiet (.bool true), .quiet (.bool true), .quiet (.bool true), .quiet (.int .i64 0), .quiet (.bool true), .quiet (.bool true), .quiet (.bool true), .quiet (.int .i64 0), .quiet (.bool true), .quiet (.bool true), .quiet (.bool true), .quiet (.int .i64 0), .quiet (.bool true), .quiet (.bool true), .quiet (.bool true), .quiet (.int .i64 0), .quiet (.bool true), .quiet (.bool true), .quiet (.bool true), .quiet (.int .i64 0), .quiet (.bool true), .quiet (.bool true), .quiet (.bool true), .quiet (.int .i64 0), .quiet (.bool true), .quiet (.bool true), .quiet (.bool true)] H11 ?ho12 ?he12 (hL := ?hL12)
 case hL12 => exact trivial
 case ho12 => exact ar (ag (ar (ar (ag (ag (ar (ar (ag (ag (ar (ar (ag (ag (ar (ar (ag (ag (ar (ar (ag (ag (ar (ar (ag (ag (ar (ar (ag (ag (ar trivial))))))))))))))))))))))))))))))
 intro _ w12 H12
 clear H11
 refine zG rfl (zA (wp_seq ?_))
 refine zE 29 [.quiet (.bool true), .quiet (.bool true), .quiet (.bool true), .quiet (.bool true), .quiet (.bool true), .quiet (.agg (cel [mr0, mr1, mr2, mr3] ++ [Value.bool mrz]).toArray), .quiet (.agg (cel [mr0, mr1, mr2, mr3] ++ [Value.bool mrz]).toArray), .quiet (.bool true), .quiet (.bool true), .quiet (.bool true), .quiet (.agg (cel [mt0, mt1, mt2, mt3] ++ [Value.bool mtz]).toArray), .quiet (.agg (cel [mt0, mt1, mt2, mt3] ++ [Value.bool mtz]).toArray), .quiet (.bool true), .quiet (.bool true), .quiet (.bool true), .quiet (.agg (cel [0, 0, 0, 0] ++ [Value.bool true]).toArray), .quiet (.agg (cel [0, 0, 0, 0] ++ [Value.bool true]).toArray), .quiet (.bool true), .quiet (.bool true), .quiet (.bool true), .quiet (.agg (cel [ma0, ma1, ma2, ma3] ++ [Value.bool maz]).toArray), .quiet (.agg (cel [ma0, ma1, ma2, ma3] ++ [Value.bool maz]).toArray), .quiet (.bool true), .quiet (.bool true), .quiet (.bool true), .quiet (.agg (cel [mt0, mt1, mt2, mt3] ++ [Value.bool mtz]).toArray), .call (.bool true), .quiet (.bool true), .quiet (.bool true)] H12 ?ho13 ?he13 (hL := ?hL13)
 case hL13 => exact trivial
 case ho13 => exact ar (ar (ar (ag (ar (aq (fun w' h => lT h 7 Tryz.isAgg42 Tryz.sizeOf42) (aq (fun w' h => lT h 6 Tryz.isAgg42 Tryz.sizeOf42) (ak (fun γ => ⟨rfl, fun w' _ => exec_eqT42 E0.out rfl rfl rfl⟩) (ag (ar (aq (fun w' h => lT h 4 Tryz.isAgg42 Tryz.sizeOf42) (aq (fun w' h => lT h 3 Tryz.isAgg42 Tryz.sizeOf42) (ak (fun γ => ⟨rfl, fun w' _ => exec_eqT42 E1.out rfl rfl rfl⟩) (ag (ar (aq (fun w' h => lT h 1 Tryz.isAgg42 Tryz.sizeOf42) (ak (fun γ => ⟨rfl, fun w' _ => ex_buildP2t rfl rfl⟩) (ak (fun γ => ⟨rfl, fun w' _ => exec_eqT42 E2.out rfl rfl rfl⟩) (ag (ar (aq (fun w' h => lT h 0 Tryz.isAgg42 Tryz.sizeOf42) (aq (fun w' h => lT h 8 Tryz.isAgg42 Tryz.sizeOf42) (ak (fun γ => ⟨rfl, fun w' _ => exec_eqT42 E3.out rfl rfl rfl⟩) (ag (ar (aq (fun w' h => lT h 4 Tryz.isAgg42 Tryz.sizeOf42) (ac (fun w' h => ⟨23, #[.agg (cel [mt0, mt1, mt2, mt3] ++ [Value.bool mtz]).toArray], zC rfl call23 rfl (zX rfl), C12.out w' (h.one 11 rfl)⟩) (ag (ar trivial))))))))))))))))))))))))))))
 intro _ w13 H13
 clear H12
 refine zG rfl (zA (wp_ret ?_))
 repeat (first | refine zM ?_ | refine zK ?_)
 refine bodyPost_ret (v := .bool true) (by simp [results, Tryz.results6, go_sem, *]) rfl ?_
 exact ⟨rfl, H13.out.2⟩
end Rg
end Go.Proofs.YtaomlijondiaoaaGreatDoor
end
section
namespace Go.Proofs.YtaomlijondiaoaaGreatDoor
open Go.RowKit
namespace Rg
open NT
theorem group2_any ma0 ma1 ma2 ma3 maz mb0 mb1 mb2 mb3 mbz md0 md1 md2 md3 mdz (hma0 : ma0 < big) (hma1 : ma1 < big) (hma2 : ma2 < big) (hma3 : ma3 < big) (hmb0 : mb0 < big) (hmb1 : mb1 < big) (hmb2 : mb2 < big) (hmb3 : mb3 < big) (hmd0 : md0 < big) (hmd1 : md1 < big) (hmd2 : md2 < big) (hmd3 : md3 < big) (w : World) (hm : Mm w [(0, dtab)]) : Calls Tryz.prog 6 #[pv2 ma0 ma1 ma2 ma3 maz, pv2 mb0 mb1 mb2 mb3 mbz, pv2 md0 md1 md2 md3 mdz] w (Rt w (.bool true)) := by
 obtain ⟨I, hI⟩ := inv1_ex
 cases hA : rd2 ma0 ma1 ma2 ma3 maz with
 | none => exact group2_no0 ma0 ma1 ma2 ma3 mb0 mb1 mb2 mb3 md0 md1 md2 md3 maz mbz mdz awakeE (fun w hm => by have h := CheckE_2 hI ma0 ma1 ma2 ma3 maz hma0 hma1 hma2 hma3 w hm; rw [hA] at h; exact h) w hm
 | some P =>
  cases hB : rd2 mb0 mb1 mb2 mb3 mbz with
  | none => exact group2_no1 ma0 ma1 ma2 ma3 mb0 mb1 mb2 mb3 md0 md1 md2 md3 maz mbz mdz awakeE (fun w hm => by have h := CheckE_2 hI ma0 ma1 ma2 ma3 maz hma0 hma1 hma2 hma3 w hm; rw [hA] at h; exact h) (fun w hm => by have h := CheckE_2 hI mb0 mb1 mb2 mb3 mbz hmb0 hmb1 hmb2 hmb3 w hm; rw [hB] at h; exact h) w hm
  | some Q =>
   cases hD : rd2 md0 md1 md2 md3 mdz with
   | none => exact group2_no2 ma0 ma1 ma2 ma3 mb0 mb1 mb2 mb3 md0 md1 md2 md3 maz mbz mdz awakeE (fun w hm => by have h := CheckE_2 hI ma0 ma1 ma2 ma3 maz hma0 hma1 hma2 hma3 w hm; rw [hA] at h; exact h) (fun w hm => by have h := CheckE_2 hI mb0 mb1 mb2 mb3 mbz hmb0 hmb1 hmb2 hmb3 w hm; rw [hB] at h; exact h) (fun w hm => by have h := CheckE_2 hI md0 md1 md2 md3 mdz hmd0 hmd1 hmd2 hmd3 w hm; rw [hD] at h; exact h) w hm
   | some U =>
    obtain ⟨eA, oA⟩ := rd2_enc hI hA
    obtain ⟨eB, oB⟩ := rd2_enc hI hB
    obtain ⟨eD, oD⟩ := rd2_enc hI hD
    clear hA hB hD
    rw [eA, eB, eD]
    clear eA eB eD
    have oAB := (K2 hI).add_on oA oB
    have oBD := (K2 hI).add_on oB oD
    have oX := (K2 hI).add_on oAB oD
    have c5 := fun w hm => AddE_2 hI oB oA w hm
    rw [(K2 hI).comm Q P] at c5
    have c8 := fun w hm => AddE_2 hI oA oBD w hm
    rw [← (K2 hI).assoc oA oB oD] at c8
    have c10 := fun w hm => AddE_2 hI oA ((K2 hI).neg_on oA) w hm
    rw [(K2 hI).add_neg P] at c10
    have c11 := fun w hm => AddE_2 hI (Q := none) oA trivial w hm
    rw [(K2 hI).add_zero oA] at c11
    exact group2_yes (c2x0 P) (c2x1 P) (c2y0 P) (c2y1 P) (c2x0 Q) (c2x1 Q) (c2y0 Q) (c2y1 Q) (c2x0 U) (c2x1 U) (c2y0 U) (c2y1 U) (c2x0 ((K2 hI).add P Q)) (c2x1 ((K2 hI).add P Q)) (c2y0 ((K2 hI).add P Q)) (c2y1 ((K2 hI).add P Q)) (c2x0 ((K2 hI).add Q U)) (c2x1 ((K2 hI).add Q U)) (c2y0 ((K2 hI).add Q U)) (c2y1 ((K2 hI).add Q U)) (c2x0 ((K2 hI).add ((K2 hI).add P Q) U)) (c2x1 ((K2 hI).add ((K2 hI).add P Q) U)) (c2y0 ((K2 hI).add ((K2 hI).add P Q) U)) (c2y1 ((K2 hI).add ((K2 hI).add P Q) U)) (c2x0 ((K2 hI).neg P)) (c2x1 ((K2 hI).neg P)) (c2y0 ((K2 hI).neg P)) (c2y1 ((K2 hI).neg P)) (c2z P) (c2z Q) (c2z U) (c2z ((K2 hI).add P Q)) (c2z ((K2 hI).add Q U)) (c2z ((K2 hI).add ((K2 hI).add P Q) U)) (c2z ((K2 hI).neg P))
     awakeE (fun w hm => CkE_2 hI oA w hm) (fun w hm => CkE_2 hI oB w hm) (fun w hm => CkE_2 hI oD w hm) (fun w hm => AddE_2 hI oA oB w hm) c5 (fun w hm => AddE_2 hI oB oD w hm) (fun w hm => AddE_2 hI oAB oD w hm) c8 (fun w hm => NegE_2 hI oA w hm) c10 c11 (fun w hm => CkE_2 hI oX w hm)
     (refl_P2 (c2x0 ((K2 hI).add P Q)) (c2x1 ((K2 hI).add P Q)) (c2y0 ((K2 hI).add P Q)) (c2y1 ((K2 hI).add P Q)) (c2z ((K2 hI).add P Q)) (c2x0_big _) (c2x1_big _) (c2y0_big _) (c2y1_big _)) (refl_P2 (c2x0 ((K2 hI).add ((K2 hI).add P Q) U)) (c2x1 ((K2 hI).add ((K2 hI).add P Q) U)) (c2y0 ((K2 hI).add ((K2 hI).add P Q) U)) (c2y1 ((K2 hI).add ((K2 hI).add P Q) U)) (c2z ((K2 hI).add ((K2 hI).add P Q) U)) (c2x0_big _) (c2x1_big _) (c2y0_big _) (c2y1_big _)) (refl_P2 0 0 0 0 true big_pos big_pos big_pos big_pos) (refl_P2 (c2x0 P) (c2x1 P) (c2y0 P) (c2y1 P) (c2z P) (c2x0_big _) (c2x1_big _) (c2y0_big _) (c2y1_big _)) w hm
end Rg
end Go.Proofs.YtaomlijondiaoaaGreatDoor
end
section
namespace Go.Proofs.YtaomlijondiaoaaGreatDoor
open Go.ChangeShapes Go.WideShapes Go.ChangeAt Go.RowKit
set_option maxRecDepth 100000
theorem Tryz.own : ownKnob Tryz.prog.godebug = none := by kernel_rfl
theorem Tryz.laidOut : laidOutB Tryz.prog = true := by kernel_rfl
theorem wd_cons_zero (x r : Nat) (hx : x < 18446744073709551616) : wd (x + 18446744073709551616 * r) 0 = x := by
 unfold wd; rw [Nat.mul_zero, Nat.pow_zero, Nat.div_one]; omega
theorem wd_cons_succ (x r i : Nat) (hx : x < 18446744073709551616) : wd (x + 18446744073709551616 * r) (i + 1) = wd r i := by
 unfold wd
 rw [pow_step, Nat.mul_comm (2 ^ (64 * i)), ← Nat.div_div_eq_div_mul, show (x + 18446744073709551616 * r) / 18446744073709551616 = r by omega]
theorem lt_cons (x r k : Nat) (hx : x < 18446744073709551616) (hr : r < 2 ^ (64 * k)) : x + 18446744073709551616 * r < 2 ^ (64 * (k + 1)) := by
 rw [pow_step]; omega
theorem num_of_words (x : Nat → Nat) (hx : ∀ i, x i < 18446744073709551616) (n : Nat) : ∃ a, a < 2 ^ (64 * n) ∧ ∀ i, i < n → wd a i = x i := by
 induction n generalizing x with
 | zero => exact ⟨0, Nat.two_pow_pos _, fun i h => absurd h (Nat.not_lt_zero _)⟩
 | succ n ih =>
  obtain ⟨r, hr, hw⟩ := ih (fun i => x (i + 1)) (fun i => hx _)
  refine ⟨x 0 + 18446744073709551616 * r, lt_cons _ _ _ (hx 0) hr, fun i hi => ?_⟩
  cases i with
  | zero => exact wd_cons_zero _ _ (hx 0)
  | succ i => rw [wd_cons_succ _ _ _ (hx 0)]; exact hw i (by omega)
end Go.Proofs.YtaomlijondiaoaaGreatDoor
end
section
namespace Go.Proofs.YtaomlijondiaoaaGreatDoor
open Go.ChangeShapes Go.WideShapes Go.ChangeAt Go.RowKit
set_option maxRecDepth 100000
section
variable {H : Type} {enc : TypeId × Value → H} {w : World} {base : Nat} {sp : Nat → Bool} {held : Bool}
theorem cells_num {fuel : Nat} {cs : List Value} {x : DataW H × List MemPlace} (h : DataW.trod enc Tryz.prog w base sp held fuel 24 cs = some x) : ∃ a, a < big ∧ cs = zB a ∧ x.2 = [] := by
 obtain ⟨xs, m, -, hx, hl, hn, hel⟩ := DataW.trod_array Tryz.underlying24 h
 have hc : Tryz.prog.cellsOf 22 = 1 := by kernel_rfl
 have hc6 : Tryz.prog.cellsOf 24 = 6 := by kernel_rfl
 rw [hc6] at hl
 have key : ∀ i, i < 6 → ∃ n : Nat, n < 18446744073709551616 ∧ cs[i]? = some (.int .u64 n) ∧ ∃ z, xs[i]? = some z ∧ z.2 = [] := by
  intro i hi
  have h := hel i hi
  rw [hc] at h
  have hlt : i < xs.length := by rw [hn]; exact hi
  obtain ⟨z, hz⟩ : ∃ z, xs[i]? = some z := ⟨xs[i], List.getElem?_eq_getElem hlt⟩
  rw [hz] at h
  obtain ⟨n, e1, e2, e3⟩ := DataW.trod_int Tryz.underlying22 h
  have hb := bounds_u64 e3
  have e6 : ((cs.drop (i * 1)).take 1)[0]? = some (.int .u64 n) := by rw [e1]; rfl
  rw [Nat.mul_one, List.getElem?_take] at e6
  have e5 : (cs.drop i)[0]? = some (.int .u64 n) := by simpa using e6
  rw [List.getElem?_drop] at e5
  refine ⟨n.toNat, by omega, ?_, z, hz, by rw [e2]⟩
  rw [Int.toNat_of_nonneg hb.1]
  simpa using e5
 obtain ⟨n0, l0, c0, z0, y0, q0⟩ := key 0 (by omega)
 obtain ⟨n1, l1, c1, z1, y1, q1⟩ := key 1 (by omega)
 obtain ⟨n2, l2, c2, z2, y2, q2⟩ := key 2 (by omega)
 obtain ⟨n3, l3, c3, z3, y3, q3⟩ := key 3 (by omega)
 obtain ⟨n4, l4, c4, z4, y4, q4⟩ := key 4 (by omega)
 obtain ⟨n5, l5, c5, z5, y5, q5⟩ := key 5 (by omega)
 have hps : x.2 = [] := by
  have hx2 : x.2 = xs.flatMap (·.2) := congrArg Prod.snd hx
  rw [hx2, List.flatMap_eq_nil_iff]
  intro z hz
  obtain ⟨i, hi⟩ := List.mem_iff_getElem?.1 hz
  have hi6 : i < 6 := by
   have := (List.getElem?_eq_some_iff.1 hi).1
   omega
  obtain ⟨n, _, _, z', y, q⟩ := key i hi6
  rw [hi] at y; injection y with y; rw [y]; exact q
 obtain ⟨a, ha, hw⟩ := num_of_words (fun i => [n0, n1, n2, n3, n4, n5].getD i 0) (by
  intro i
  match i with
  | 0 => exact l0
  | 1 => exact l1
  | 2 => exact l2
  | 3 => exact l3
  | 4 => exact l4
  | 5 => exact l5
  | (i + 6) => simp) 6
 refine ⟨a, by rw [big]; exact ha, ?_, hps⟩
 have w0 : wd a 0 = n0 := hw 0 (by omega)
 have w1 : wd a 1 = n1 := hw 1 (by omega)
 have w2 : wd a 2 = n2 := hw 2 (by omega)
 have w3 : wd a 3 = n3 := hw 3 (by omega)
 have w4 : wd a 4 = n4 := hw 4 (by omega)
 have w5 : wd a 5 = n5 := hw 5 (by omega)
 unfold zB
 rw [w0, w1, w2, w3, w4, w5]
 apply List.ext_getElem?
 intro i
 match i with
 | 0 => exact c0
 | 1 => exact c1
 | 2 => exact c2
 | 3 => exact c3
 | 4 => exact c4
 | 5 => exact c5
 | i + 6 => rw [List.getElem?_eq_none (by omega)]; rfl
/-- An array of n parts of c cells each, whose parts open. -/
theorem cells_parts {t e : TypeId} {n c : Nat} {P : List Value → Prop} {fuel : Nat} {cs : List Value} {x : DataW H × List MemPlace} (ht : Tryz.prog.underlying t = some (.array n e)) (hce : Tryz.prog.cellsOf e = c) (hct : Tryz.prog.cellsOf t = n * c)
  (hop : ∀ {fuel : Nat} {cs : List Value} {x : DataW H × List MemPlace}, DataW.trod enc Tryz.prog w base sp held fuel e cs = some x → P cs ∧ x.2 = []) (h : DataW.trod enc Tryz.prog w base sp held fuel t cs = some x) :
  cs.length = n * c ∧ (∀ i, i < n → P ((cs.drop (i * c)).take c)) ∧ x.2 = [] := by
 obtain ⟨xs, m, -, hx, hl, hn, hel⟩ := DataW.trod_array ht h
 rw [hct] at hl
 rw [hce] at hel
 have key : ∀ i, i < n → P ((cs.drop (i * c)).take c) ∧ ∃ z, xs[i]? = some z ∧ z.2 = [] := fun i hi => by
  have h := hel i hi
  have hlt : i < xs.length := by rw [hn]; exact hi
  obtain ⟨z, hz⟩ : ∃ z, xs[i]? = some z := ⟨xs[i], List.getElem?_eq_getElem hlt⟩
  rw [hz] at h
  exact ⟨(hop h).1, z, hz, (hop h).2⟩
 refine ⟨hl, fun i hi => (key i hi).1, ?_⟩
 have hx2 : x.2 = xs.flatMap (·.2) := congrArg Prod.snd hx
 rw [hx2, List.flatMap_eq_nil_iff]
 intro z hz
 obtain ⟨i, hi⟩ := List.mem_iff_getElem?.1 hz
 have hin : i < n := by
  have := (List.getElem?_eq_some_iff.1 hi).1
  omega
 obtain ⟨_, z', y, q⟩ := key i hin
 rw [hi] at y; injection y with y; rw [y]; exact q
theorem cells_E2 {fuel : Nat} {cs : List Value} {x : DataW H × List MemPlace} (h : DataW.trod enc Tryz.prog w base sp held fuel 40 cs = some x) : (∃ a b, a < big ∧ b < big ∧ cs = Rg.cel [a, b]) ∧ x.2 = [] := by
 obtain ⟨hl, hp, hx⟩ := cells_parts (P := fun l => ∃ a, a < big ∧ l = zB a) (n := 2) (c := 6) Tryz.underlying40 (by kernel_rfl) (by kernel_rfl) (fun h => by obtain ⟨a, h1, h2, h3⟩ := cells_num h; exact ⟨⟨a, h1, h2⟩, h3⟩) h
 obtain ⟨a, ha, ea⟩ := hp 0 (by decide)
 obtain ⟨b, hb, eb⟩ := hp 1 (by decide)
 refine ⟨⟨a, b, ha, hb, ?_⟩, hx⟩
 rw [Nat.zero_mul, List.drop_zero] at ea
 rw [List.take_of_length_le (by rw [List.length_drop]; omega)] at eb
 have e := List.take_append_drop 6 cs
 rw [ea, show (6 : Nat) = 1 * 6 from rfl, eb] at e
 rw [← e]
 rfl
end
section
variable {H : Type} {enc : TypeId × Value → H} {w : World} {base : Nat} {sp : Nat → Bool} {held : Bool} {r : Reach} {b0 : Nat} {v : Value} {d : DataW H} {ps : List MemPlace}
end
section
variable {H : Type} {enc : TypeId × Value → H} {w : World} {base : Nat} {sp : Nat → Bool} {held : Bool}
end
section
variable {H : Type} {enc : TypeId × Value → H} {w : World} {base : Nat} {sp : Nat → Bool} {held : Bool} {r : Reach} {b0 : Nat} {v : Value} {d : DataW H} {ps : List MemPlace}
end
section
variable {H : Type} {enc : TypeId × Value → H} {w : World} {base : Nat} {sp : Nat → Bool} {held : Bool}
theorem cells_P2 {fuel : Nat} {cs : List Value} {x : DataW H × List MemPlace} (h : DataW.trod enc Tryz.prog w base sp held fuel 42 cs = some x) : (∃ a0 a1 b0 b1 z, a0 < big ∧ a1 < big ∧ b0 < big ∧ b1 < big ∧ cs = Rg.cel [a0, a1, b0, b1] ++ [Value.bool z]) ∧ x.2 = [] := by
 obtain ⟨xs, n, -, hx, hl, hn, hel⟩ := DataW.trod_struct Tryz.underlying42 h
 have hl' : cs.length = 25 := hl.trans (by kernel_rfl)
 have hn' : xs.length = 3 := hn
 match xs, hn' with
 | [x0, x1, x2], _ =>
  have f0 : DataW.trod enc Tryz.prog w base sp held n 40 ((cs.drop 0).take 12) = some x0 := by
   have f : DataW.trod enc Tryz.prog w base sp held n 40 ((cs.drop 0).take (Tryz.prog.cellsOf 40)) = some x0 := hel 0 _ rfl
   rw [show Tryz.prog.cellsOf 40 = 12 by kernel_rfl] at f
   exact f
  have f1 : DataW.trod enc Tryz.prog w base sp held n 40 ((cs.drop 12).take 12) = some x1 := by
   have f : DataW.trod enc Tryz.prog w base sp held n 40 ((cs.drop 12).take (Tryz.prog.cellsOf 40)) = some x1 := hel 1 _ rfl
   rw [show Tryz.prog.cellsOf 40 = 12 by kernel_rfl] at f
   exact f
  have f2 : DataW.trod enc Tryz.prog w base sp held n 4 ((cs.drop 24).take 1) = some x2 := by
   have f : DataW.trod enc Tryz.prog w base sp held n 4 ((cs.drop 24).take (Tryz.prog.cellsOf 4)) = some x2 := hel 2 _ rfl
   rw [show Tryz.prog.cellsOf 4 = 1 by kernel_rfl] at f
   exact f
  obtain ⟨⟨a0, a1, ha0, ha1, e0⟩, q0⟩ := cells_E2 f0
  obtain ⟨⟨b0, b1, hb0, hb1, e1⟩, q1⟩ := cells_E2 f1
  obtain ⟨z, e2, q2⟩ := DataW.trod_bool Tryz.underlying4 f2
  refine ⟨⟨a0, a1, b0, b1, z, ha0, ha1, hb0, hb1, ?_⟩, ?_⟩
  ·have h1 := List.take_append_drop 12 cs
   have h2 := List.take_append_drop 12 (cs.drop 12)
   rw [List.drop_drop] at h2
   have h3 : (cs.drop 24).take 1 = cs.drop 24 := List.take_of_length_le (by rw [List.length_drop]; omega)
   rw [List.drop_zero] at e0
   rw [e0] at h1
   rw [e1, show 12 + 12 = 24 from rfl, ← h3, e2] at h2
   rw [← h2] at h1
   rw [← h1]
   rfl
  ·rw [hx]
   show x0.2 ++ (x1.2 ++ (x2.2 ++ [])) = []
   rw [q0, q1, q2]
   rfl
end
section
variable {H : Type} {enc : TypeId × Value → H} {w : World} {base : Nat} {sp : Nat → Bool} {held : Bool} {r : Reach} {b0 : Nat} {v : Value} {d : DataW H} {ps : List MemPlace}
theorem open_P2 (hval : Value.okWide Tryz.prog w r b0 42 v) (hd : DataW.Trod enc Tryz.prog w base sp held 42 v d ps) : ∃ a0 a1 b0 b1 z, a0 < big ∧ a1 < big ∧ b0 < big ∧ b1 < big ∧ v = .agg (Rg.cel [a0, a1, b0, b1] ++ [Value.bool z]).toArray ∧ ps = [] := by
 unfold Value.okWide at hval
 rw [Tryz.underlying42] at hval
 obtain ⟨cs, rfl, hsz, _⟩ := hval
 obtain ⟨fuel, hf⟩ := hd
 obtain ⟨⟨a0, a1, b0, b1, z, ha0, ha1, hb0, hb1, e⟩, hx⟩ := cells_P2 hf
 refine ⟨a0, a1, b0, b1, z, ha0, ha1, hb0, hb1, ?_, hx⟩
 have e2 : cs.toList = Rg.cel [a0, a1, b0, b1] ++ [Value.bool z] := e
 rw [← e2, Array.toArray_toList]
end
theorem p2_stays {H : Type} {enc : TypeId × Value → H} {W W' : World} {v : Value} {d : DataW H}
  (h : DataW.Trod enc Tryz.prog W 0 (fun _ => true) true 42 v d []) (hb : Below W.heap.size W W') :
  DataW.Trod enc Tryz.prog W' 0 (fun b => decide (b < W.heap.size)) true 42 v d [] :=
 Below.trod Tryz.laidOut (by kernel_rfl) (by decide +kernel) h hb (fun _ hx => by cases hx)
end Go.Proofs.YtaomlijondiaoaaGreatDoor
end
section
namespace Go.Proofs.YtaomlijondiaoaaGreatDoor
open Go.ChangeShapes Go.WideShapes Go.ChangeAt Go.RowKit
namespace Rg
set_option maxRecDepth 100000
abbrev laidL : List (String × DataW Unit) := Rows.curveGroup1Row.laid
abbrev tabName : String := match laidL with
 | (n, _) :: _ => n
 | [] => Tryz.f3.name
theorem gTab : Tryz.prog.globalNamed tabName = some 0 := by kernel_rfl
theorem tTab : (Tryz.prog.globals[0]?).map (·.type) = some 200 := by kernel_rfl
theorem datTab : (Rows.laid_math_bits_deBruijn64tab : DataW Unit) = .agg (Lib.deBruijn64tab.map fun k => .lit (.int .u8 ((k : Nat) : Int))) := by kernel_rfl
theorem tab_of_laid {W : World} (h : laidMetH Tryz.prog laidL W) : Mm W [(0, dtab)] := by
 rw [MakeChecks.laidMetH_plain _ _ _ (by kernel_rfl)] at h
 obtain ⟨ps, ⟨g, t, cs, fuel, p, q, hg, ht, hv, hd, hq, hps⟩, hnd, hc⟩ := h
 obtain rfl := Option.some.inj (gTab.symm.trans hg)
 obtain rfl := Option.some.inj (tTab.symm.trans ht)
 obtain ⟨xs, m, -, hx, hlen, hn, hel⟩ := DataW.trod_array Tryz.underlying200 hd
 rw [datTab] at hx
 simp only [Prod.mk.injEq, DataW.agg.injEq] at hx
 have hc5 : Tryz.prog.cellsOf 5 = 1 := by kernel_rfl
 have hc81 : Tryz.prog.cellsOf 200 = 64 := by kernel_rfl
 rw [hc81] at hlen
 have hsz : cs.size = 64 := by simpa using hlen
 have hpl : ∀ i, i < 64 → MemPlace.cell 0 i ∈ ps := fun i hi => by
  rw [hps]
  refine List.mem_append_left _ (List.mem_append_left _ ?_)
  unfold MemPlace.row
  simp [hsz]
  omega
 obtain ⟨⟨c0, t0, hheap⟩, _⟩ := hc 0 0 (hpl 0 (by decide))
 have h0 : 0 < W.heap.size := by
  rcases Nat.lt_or_ge 0 W.heap.size with h' | h'
  ·exact h'
  ·rw [Array.getElem?_eq_none (by omega)] at hheap; cases hheap
 refine ⟨fun pq hpq => ?_, List.pairwise_singleton _ _⟩
 rw [List.mem_singleton.1 hpq]
 refine ⟨h0, fun j v hj => ?_⟩
 have hj64 : j < 64 := by
  have := (List.getElem?_eq_some_iff.1 hj).1
  exact this
 refine ⟨?_, ?_⟩
 ·rw [World.var?_cell hg hv j]
  have h1 := hel j hj64
  rw [hc5, Nat.mul_one] at h1
  have hlt : j < xs.length := by omega
  rw [List.getElem?_eq_getElem hlt] at h1
  obtain ⟨n, e1, e2, _⟩ := DataW.trod_int Tryz.underlying5 h1
  have e3 : cs[j]? = some (.int .u8 n) := by
   have e4 : ((cs.toList.drop j).take 1)[0]? = some (.int .u8 n) := by rw [e1]; rfl
   rw [List.getElem?_take, if_pos (by decide), List.getElem?_drop] at e4
   simpa using e4
  have e5 : (xs.map (·.1))[j]? = (Lib.deBruijn64tab.map fun k => DataW.lit (.int .u8 ((k : Nat) : Int)))[j]? := by rw [hx.1]
  rw [List.getElem?_map, List.getElem?_eq_getElem hlt, e2, List.getElem?_map] at e5
  unfold dtab at hj
  rw [List.getElem?_map] at hj
  cases hk : Lib.deBruijn64tab[j]? with
  | none => rw [hk] at hj; cases hj
  | some k =>
   rw [hk] at hj e5
   simp only [Option.map_some, Option.some.injEq, DataW.lit.injEq] at hj e5
   rw [e3, ← hj]
   simp only [Option.some.injEq]
   injection e5 with _ e6
   rw [e6]
 ·unfold World.frozen?
  rw [hheap]
  simp
theorem door_met (os : Os) (args : Array Value) : laidMetH Tryz.prog laidL ((World.doorLaid Tryz.prog 400 os).forCall (fun _ _ => 0) ⟨#[], args, []⟩).memory :=
 laidMetH_of_parts3 (fuel := 8) (laidMet_of_run' 8 (by kernel_rfl) (by kernel_rfl)) (by kernel_rfl) (by kernel_rfl)
end Rg
end Go.Proofs.YtaomlijondiaoaaGreatDoor
end
