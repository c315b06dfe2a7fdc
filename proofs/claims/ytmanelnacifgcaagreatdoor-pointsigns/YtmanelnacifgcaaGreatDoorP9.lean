/- Texts of the proof, joined. -/
import Derived.Test.YtmanelnacifgcaaGreatDoorP8
import Derived.ProofKit
import Derived.OpenShut
import Derived.Test.YtmanelnacifgcaaGreatDoorRows
import Derived.LaidMore
import Derived.Stop.Joined
import Derived.Test.YtmanelnacifgcaaGreatDoorTie
set_option maxRecDepth 100000
section
namespace Go.Proofs.YtmanelnacifgcaaGreatDoor
open Go.RowKit
namespace Rg
set_option maxHeartbeats 4000000 in
theorem signs_20 (ma0 ma1 md1 mb0 mb1 mb2 mb3 : Nat) (z2 : Bool) (f1 h1 : Nat → Int) (aw : ∀ w, Mm w [(2, dtab)] → Calls Tryz.prog 24 #[] w (Rt w (.bool true))) (n1 : ∀ w, Mm w [(2, dtab)] → Calls Tryz.prog 19 #[.agg (zW ma0 ma1 false).toArray] w (Rt w (.tuple #[.agg (zW ma0 md1 false).toArray, .int .i64 0]))) (p1 : ∀ w, Mm w [(2, dtab)] → Calls Tryz.prog 25 #[.agg (zW ma0 ma1 false).toArray] w fun e w' => Below w.heap.size w w' ∧ ∃ g, e = .returned (.tuple #[.slice (some ⟨g, 0, none⟩) 48 48, .int .i64 0]) ∧ w.heap.size ≤ g ∧ g < w'.heap.size ∧ Blk w' g (by8 f1 48)) (q1 : ∀ w, Mm w [(2, dtab)] → Calls Tryz.prog 25 #[.agg (zW ma0 md1 false).toArray] w fun e w' => Below w.heap.size w w' ∧ ∃ g, e = .returned (.tuple #[.slice (some ⟨g, 0, none⟩) 48 48, .int .i64 0]) ∧ w.heap.size ≤ g ∧ g < w'.heap.size ∧ Blk w' g (by8 h1 48)) (s1 : ∀ g h w, Mm w [(g, by8 f1 48)] → Mm w [(h, by8 h1 48)] → Calls Tryz.prog 29 #[.slice (some ⟨g, 1, none⟩) 47 47, .slice (some ⟨h, 1, none⟩) 47 47] w (Rt w (.bool true))) (d1 : bits .xor .u8 (f1 0) (h1 0) = 32) (e1 : ∀ w, (Op.equalIn 10000 24 (N ma1) (N 0)).run Tryz.prog w = .ok false w) (n2 : ∀ w, Mm w [(2, dtab)] → Calls Tryz.prog 30 #[.agg (pc2 mb0 mb1 mb2 mb3 z2).toArray] w (Rt w (.tuple #[.agg (pc2 0 0 0 0 false).toArray, .int .i64 5]))) (w : World) (hm : Mm w [(2, dtab)]) :
  Calls Tryz.prog 6 #[.agg (zW ma0 ma1 false).toArray, .agg (pc2 mb0 mb1 mb2 mb3 z2).toArray] w (Rt w (.bool true)) := by
 have H0 : Hid (_ ∧ _) := ⟨hm, Below.refl w.heap.size w⟩
 clear hm
 have AW : Hid _ := aw
 clear aw
 have N1 : Hid _ := n1
 clear n1
 have P1 : Hid _ := p1
 clear p1
 have Q1 : Hid _ := q1
 clear q1
 have S1 : Hid _ := s1
 clear s1
 have E1 : Hid _ := e1
 clear e1
 have N2 : Hid _ := n2
 clear n2
 go_enter Tryz.func6, Tryz.ntmps6
 refine wp_seq ?_
 refine zC 3 [.made (zW ma0 ma1 false) 27, .made (pc2 mb0 mb1 mb2 mb3 z2) 35, .q (.bool false)] (sB H0) ?ho1 ?he1
 case ho1 => exact am (zQ rfl rfl) (am (zQ rfl rfl) (ar trivial))
 intro J w1 l hM hl
 have H1 : Hid (Mm w1 ([(J 0, zW ma0 ma1 false), (J 1, pc2 mb0 mb1 mb2 mb3 z2)] ++ _) ∧ _) := wB H0 hM hl [0, 1]
 have o1_0 := vB H0 hM hl 0
 have o1_1 := vB H0 hM hl 1
 clear hM hl l
 generalize J 0 = J1_0 at H1 o1_0 ⊢
 generalize J 1 = J1_1 at H1 o1_1 ⊢
 clear J
 refine rN (wp_seq ?_)
 refine zD 2 [.call (.bool true), .q (.bool true)] H1 ?ho2 ?he2
 case ho2 => exact ac (fun w' h => eC call24 (AW.out w' (h.one 2 rfl))) (ar trivial)
 intro _ w2 H2
 clear H1
 refine rN (wp_seq ?_)
 refine zC 8 [.q (.agg (zW ma0 ma1 false).toArray), .call (.tuple #[.agg (zW ma0 md1 false).toArray, .int .i64 0]), .q (.tuple #[.agg (zW ma0 md1 false).toArray, .int .i64 0]), .q (.agg (zW ma0 md1 false).toArray), .q (.int .i64 0), .made (zW 0 0 false) 27, .laid 5 (zW 0 0 false) (zW ma0 md1 false), .q (.int .i64 0)] (sB H2) ?ho3 ?he3 (hL := ?hL3)
 case hL3 => exact ⟨⟨_, rfl⟩, trivial⟩
 case ho3 => exact bT 0 Ai27 As27 (ac (fun w' h => eC call19 (N1.out w' (h.one 2 rfl))) (ar (ag (ag (am (ex_madeP1 rfl) (ak (fun J => ⟨rfl, rfl, rfl, fun w' h => ex_laidT h rfl rfl As27 rfl rfl rfl⟩) (ar trivial)))))))
 intro J w3 l hM hl
 have H3 : Hid (Mm w3 ([(J 5, zW ma0 md1 false)] ++ _) ∧ _) := wB H2 hM hl [5]
 have o3_5 := vB H2 hM hl 5
 clear hM hl l H2
 generalize J 5 = J3_5 at H3 o3_5 ⊢
 clear J
 refine rN (wp_seq ?_)
 refine zC 8 [.q (.agg (pc2 mb0 mb1 mb2 mb3 z2).toArray), .call (.tuple #[.agg (pc2 0 0 0 0 false).toArray, .int .i64 5]), .q (.tuple #[.agg (pc2 0 0 0 0 false).toArray, .int .i64 5]), .q (.agg (pc2 0 0 0 0 false).toArray), .q (.int .i64 5), .made (pc2 0 0 0 0 false) 35, .laid 5 (pc2 0 0 0 0 false) (pc2 0 0 0 0 false), .q (.int .i64 5)] (sB H3) ?ho4 ?he4 (hL := ?hL4)
 case hL4 => exact ⟨⟨_, rfl⟩, trivial⟩
 case ho4 => exact bT 2 Ai35 As35 (ac (fun w' h => eC call30 (N2.out w' (h.one 3 rfl))) (ar (ag (ag (am (ex_madeP2 rfl) (ak (fun J => ⟨rfl, rfl, rfl, fun w' h => ex_laidT h rfl rfl As35 rfl rfl rfl⟩) (ar trivial)))))))
 intro J w4 l hM hl
 have H4 : Hid (Mm w4 ([(J 5, pc2 0 0 0 0 false)] ++ _) ∧ _) := wB H3 hM hl [5]
 have o4_5 := vB H3 hM hl 5
 clear hM hl l H3
 generalize J 5 = J4_5 at H4 o4_5 ⊢
 clear J
 refine rN (wp_seq (wp_seq ?_))
 refine zD 13 [.q (.int .i64 0), .q (.bool true), .q (.bool true), .q (PT J1_0 12), .q (.bool false), .q (.bool true), .q (.bool true), .q (.bool true), .q (PT J1_0 6), .q (N ma1), .q (N 0), .q (.bool true), .q (.bool true)] H4 ?ho5 ?he5
 case ho5 => exact ar (ag (ar (ag (bC 2 Ai4 (ag (ag (ar (ag (bN 2 (ak (by refine fun J => ⟨rfl, fun w' h => ?_⟩; clear h; exact ex_zero6 rfl) (ak (fun J => ⟨rfl, fun w' _ => exec_neq6 E1.out rfl rfl rfl⟩) (ag trivial))))))))))))
 intro _ w5 H5
 clear H4
 refine rN (wp_cond_true rfl (wp_seq ?_))
 refine zC 2 [.q (.agg (zW ma0 ma1 false).toArray), .born (fun g => .tuple #[.slice (some ⟨g, 0, none⟩) 48 48, .int .i64 0]) (by8 f1 48)] (sB H5) ?ho6 ?he6
 case ho6 => exact bT 2 Ai27 As27 (ak (fun J => ⟨rfl, fun w' h => eC call25 (P1.out w' (h.one 4 rfl))⟩) trivial)
 intro J w6 l hM hl
 have H6 : Hid (Mm w6 ([(J 1, by8 f1 48)] ++ _) ∧ _) := wB H5 hM hl [1]
 have o6_1 := vB H5 hM hl 1
 clear hM hl l H5
 generalize J 1 = J6_1 at H6 o6_1 ⊢
 clear J
 refine zH (l := [2, 3, 4, 5, 6]) rfl ?_
 refine zF (d := 42) rfl rfl rfl rfl ?_
 simp only [Act.put, sa, sz, ss]
 refine zF (d := 45) (v := .slice (some ⟨J6_1, 0, none⟩) 48 48) (w' := w6) rfl rfl rfl (by go_simp) ?_
 simp only [Act.put, sa, sz, ss]
 refine zF (d := 46) (v := .int .i64 0) (w' := w6) rfl rfl rfl (by go_simp) ?_
 simp only [Act.put, sa, sz, ss]
 refine zF (d := 10) rfl rfl rfl rfl ?_
 simp only [Act.put, sa, sz, ss]
 refine zF (d := 11) rfl rfl rfl rfl ?_
 simp only [Act.put, sa, sz, ss]
 refine zE (zA (wp_seq ?_))
 refine zC 2 [.q (.agg (zW ma0 md1 false).toArray), .born (fun g => .tuple #[.slice (some ⟨g, 0, none⟩) 48 48, .int .i64 0]) (by8 h1 48)] (sB H6) ?ho7 ?he7
 case ho7 => exact bT 2 Ai27 As27 (ak (fun J => ⟨rfl, fun w' h => eC call25 (Q1.out w' (h.one 5 rfl))⟩) trivial)
 intro J w7 l hM hl
 have H7 : Hid (Mm w7 ([(J 1, by8 h1 48)] ++ _) ∧ _) := wB H6 hM hl [1]
 have o7_1 := vB H6 hM hl 1
 clear hM hl l H6
 generalize J 1 = J7_1 at H7 o7_1 ⊢
 clear J
 refine zH (l := [2, 3, 4, 5, 6]) rfl ?_
 refine zF (d := 47) rfl rfl rfl rfl ?_
 simp only [Act.put, sa, sz, ss]
 refine zF (d := 50) (v := .slice (some ⟨J7_1, 0, none⟩) 48 48) (w' := w7) rfl rfl rfl (by go_simp) ?_
 simp only [Act.put, sa, sz, ss]
 refine zF (d := 51) (v := .int .i64 0) (w' := w7) rfl rfl rfl (by go_simp) ?_
 simp only [Act.put, sa, sz, ss]
 refine zF (d := 12) rfl rfl rfl rfl ?_
 simp only [Act.put, sa, sz, ss]
 refine zF (d := 13) rfl rfl rfl rfl ?_
 simp only [Act.put, sa, sz, ss]
 refine zE (zA (wp_seq ?_))
 refine zS 26 [.q (.slice (some ⟨J6_1, 0, none⟩) 48 48), .q (.int .i64 48), .q (.bool false), .q (.bool false), .q (.slice (some ⟨J7_1, 0, none⟩) 48 48), .q (.int .i64 48), .q (.bool false), .q (.bool false), .q (.bool false), .q (.slice (some ⟨J6_1, 0, none⟩) 48 48), .q (PT J6_1 0), .q (.int .u8 (f1 0)), .q (.slice (some ⟨J7_1, 0, none⟩) 48 48), .q (PT J7_1 0), .q (.int .u8 (h1 0)), .q (.int .u8 (bits .xor .u8 (f1 0) (h1 0))), .q (.bool false), .q (.bool false), .q (.bool false), .q (.slice (some ⟨J6_1, 0, none⟩) 48 48), .q (.slice (some ⟨J6_1, 1, none⟩) 47 47), .q (.slice (some ⟨J7_1, 0, none⟩) 48 48), .q (.slice (some ⟨J7_1, 1, none⟩) 47 47), .call (.bool true), .q (.bool false), .q (.bool false)] H7 ?ho8 ?he8 (hL := ?hL8)
 case hL8 => exact trivial
 case ho8 => exact ar (ag (ag (ar (ar (ag (ag (ag (ar (ar (ag (aq (fun w' h => ex_loadC h 1 rfl rfl rfl Ai5 (by8_get _ (by decide))) (ar (ag (aq (fun w' h => ex_loadC h 0 rfl rfl rfl Ai5 (by8_get _ (by decide))) (ag (ag (ag (ar (ar (ag (ar (ag (ac (fun w' h => eC call29 (S1.out J6_1 J7_1 w' (h.one 1 rfl) (h.one 0 rfl))) (ag (ag trivial)))))))))))))))))))))))))
 intro _ w8 H8
 clear H7
 refine rN (wp_cond_false rfl ?_)
 refine wp_skip (zA ?_)
 refine wp_seq (wp_seq ?_)
 refine zD 13 [.q (.int .i64 5), .q (.bool false), .q (.bool false), .gone, .gone, .gone, .q (.bool false), .q (.bool false), .gone, .gone, .gone, .gone, .q (.bool false)] H8 ?ho9 ?he9
 case ho9 => exact ar (ag (ar (ak (fun J => rfl) (ak (fun J => rfl) (ak (fun J => rfl) (ag (ar (ak (fun J => rfl) (ak (fun J => rfl) (ak (fun J => rfl) (ak (fun J => rfl) (ag trivial))))))))))))
 intro _ w9 H9
 clear H8
 refine rN (wp_cond_false rfl ?_)
 refine wp_skip (zA (wp_seq ?_))
 refine zD 2 [.q (.bool true), .q (.bool true)] H9 ?ho10 ?he10
 case ho10 => exact ar (ar trivial)
 intro _ w10 H10
 clear H9
 refine rN (wp_ret ?_)
 repeat (first | refine zJ ?_ | refine zI ?_)
 refine bodyPost_ret (v := .bool true) (by simp [results, Tryz.results6, go_sem, *]) rfl ?_
 exact ⟨rfl, H10.out.2⟩
set_option maxHeartbeats 4000000 in
theorem signs_21 (ma0 ma1 md1 mb0 mb1 mb2 mb3 me0 me1 me2 me3 : Nat) (y2 : Bool) (f1 h1 : Nat → Int) (aw : ∀ w, Mm w [(2, dtab)] → Calls Tryz.prog 24 #[] w (Rt w (.bool true))) (n1 : ∀ w, Mm w [(2, dtab)] → Calls Tryz.prog 19 #[.agg (zW ma0 ma1 false).toArray] w (Rt w (.tuple #[.agg (zW ma0 md1 false).toArray, .int .i64 0]))) (p1 : ∀ w, Mm w [(2, dtab)] → Calls Tryz.prog 25 #[.agg (zW ma0 ma1 false).toArray] w fun e w' => Below w.heap.size w w' ∧ ∃ g, e = .returned (.tuple #[.slice (some ⟨g, 0, none⟩) 48 48, .int .i64 0]) ∧ w.heap.size ≤ g ∧ g < w'.heap.size ∧ Blk w' g (by8 f1 48)) (q1 : ∀ w, Mm w [(2, dtab)] → Calls Tryz.prog 25 #[.agg (zW ma0 md1 false).toArray] w fun e w' => Below w.heap.size w w' ∧ ∃ g, e = .returned (.tuple #[.slice (some ⟨g, 0, none⟩) 48 48, .int .i64 0]) ∧ w.heap.size ≤ g ∧ g < w'.heap.size ∧ Blk w' g (by8 h1 48)) (s1 : ∀ g h w, Mm w [(g, by8 f1 48)] → Mm w [(h, by8 h1 48)] → Calls Tryz.prog 29 #[.slice (some ⟨g, 1, none⟩) 47 47, .slice (some ⟨h, 1, none⟩) 47 47] w (Rt w (.bool true))) (d1 : bits .xor .u8 (f1 0) (h1 0) = 32) (e1 : ∀ w, (Op.equalIn 10000 24 (N ma1) (N 0)).run Tryz.prog w = .ok false w) (n2 : ∀ w, Mm w [(2, dtab)] → Calls Tryz.prog 30 #[.agg (pc2 mb0 mb1 mb2 mb3 true).toArray] w (Rt w (.tuple #[.agg (pc2 me0 me1 me2 me3 y2).toArray, .int .i64 0]))) (w : World) (hm : Mm w [(2, dtab)]) :
  Calls Tryz.prog 6 #[.agg (zW ma0 ma1 false).toArray, .agg (pc2 mb0 mb1 mb2 mb3 true).toArray] w (Rt w (.bool true)) := by
 have H0 : Hid (_ ∧ _) := ⟨hm, Below.refl w.heap.size w⟩
 clear hm
 have AW : Hid _ := aw
 clear aw
 have N1 : Hid _ := n1
 clear n1
 have P1 : Hid _ := p1
 clear p1
 have Q1 : Hid _ := q1
 clear q1
 have S1 : Hid _ := s1
 clear s1
 have E1 : Hid _ := e1
 clear e1
 have N2 : Hid _ := n2
 clear n2
 go_enter Tryz.func6, Tryz.ntmps6
 refine wp_seq ?_
 refine zC 3 [.made (zW ma0 ma1 false) 27, .made (pc2 mb0 mb1 mb2 mb3 true) 35, .q (.bool false)] (sB H0) ?ho1 ?he1
 case ho1 => exact am (zQ rfl rfl) (am (zQ rfl rfl) (ar trivial))
 intro J w1 l hM hl
 have H1 : Hid (Mm w1 ([(J 0, zW ma0 ma1 false), (J 1, pc2 mb0 mb1 mb2 mb3 true)] ++ _) ∧ _) := wB H0 hM hl [0, 1]
 have o1_0 := vB H0 hM hl 0
 have o1_1 := vB H0 hM hl 1
 clear hM hl l
 generalize J 0 = J1_0 at H1 o1_0 ⊢
 generalize J 1 = J1_1 at H1 o1_1 ⊢
 clear J
 refine rN (wp_seq ?_)
 refine zD 2 [.call (.bool true), .q (.bool true)] H1 ?ho2 ?he2
 case ho2 => exact ac (fun w' h => eC call24 (AW.out w' (h.one 2 rfl))) (ar trivial)
 intro _ w2 H2
 clear H1
 refine rN (wp_seq ?_)
 refine zC 8 [.q (.agg (zW ma0 ma1 false).toArray), .call (.tuple #[.agg (zW ma0 md1 false).toArray, .int .i64 0]), .q (.tuple #[.agg (zW ma0 md1 false).toArray, .int .i64 0]), .q (.agg (zW ma0 md1 false).toArray), .q (.int .i64 0), .made (zW 0 0 false) 27, .laid 5 (zW 0 0 false) (zW ma0 md1 false), .q (.int .i64 0)] (sB H2) ?ho3 ?he3 (hL := ?hL3)
 case hL3 => exact ⟨⟨_, rfl⟩, trivial⟩
 case ho3 => exact bT 0 Ai27 As27 (ac (fun w' h => eC call19 (N1.out w' (h.one 2 rfl))) (ar (ag (ag (am (ex_madeP1 rfl) (ak (fun J => ⟨rfl, rfl, rfl, fun w' h => ex_laidT h rfl rfl As27 rfl rfl rfl⟩) (ar trivial)))))))
 intro J w3 l hM hl
 have H3 : Hid (Mm w3 ([(J 5, zW ma0 md1 false)] ++ _) ∧ _) := wB H2 hM hl [5]
 have o3_5 := vB H2 hM hl 5
 clear hM hl l H2
 generalize J 5 = J3_5 at H3 o3_5 ⊢
 clear J
 refine rN (wp_seq ?_)
 refine zC 8 [.q (.agg (pc2 mb0 mb1 mb2 mb3 true).toArray), .call (.tuple #[.agg (pc2 me0 me1 me2 me3 y2).toArray, .int .i64 0]), .q (.tuple #[.agg (pc2 me0 me1 me2 me3 y2).toArray, .int .i64 0]), .q (.agg (pc2 me0 me1 me2 me3 y2).toArray), .q (.int .i64 0), .made (pc2 0 0 0 0 false) 35, .laid 5 (pc2 0 0 0 0 false) (pc2 me0 me1 me2 me3 y2), .q (.int .i64 0)] (sB H3) ?ho4 ?he4 (hL := ?hL4)
 case hL4 => exact ⟨⟨_, rfl⟩, trivial⟩
 case ho4 => exact bT 2 Ai35 As35 (ac (fun w' h => eC call30 (N2.out w' (h.one 3 rfl))) (ar (ag (ag (am (ex_madeP2 rfl) (ak (fun J => ⟨rfl, rfl, rfl, fun w' h => ex_laidT h rfl rfl As35 rfl rfl rfl⟩) (ar trivial)))))))
 intro J w4 l hM hl
 have H4 : Hid (Mm w4 ([(J 5, pc2 me0 me1 me2 me3 y2)] ++ _) ∧ _) := wB H3 hM hl [5]
 have o4_5 := vB H3 hM hl 5
 clear hM hl l H3
 generalize J 5 = J4_5 at H4 o4_5 ⊢
 clear J
 refine rN (wp_seq (wp_seq ?_))
 refine zD 13 [.q (.int .i64 0), .q (.bool true), .q (.bool true), .q (PT J1_0 12), .q (.bool false), .q (.bool true), .q (.bool true), .q (.bool true), .q (PT J1_0 6), .q (N ma1), .q (N 0), .q (.bool true), .q (.bool true)] H4 ?ho5 ?he5
 case ho5 => exact ar (ag (ar (ag (bC 2 Ai4 (ag (ag (ar (ag (bN 2 (ak (by refine fun J => ⟨rfl, fun w' h => ?_⟩; clear h; exact ex_zero6 rfl) (ak (fun J => ⟨rfl, fun w' _ => exec_neq6 E1.out rfl rfl rfl⟩) (ag trivial))))))))))))
 intro _ w5 H5
 clear H4
 refine rN (wp_cond_true rfl (wp_seq ?_))
 refine zC 2 [.q (.agg (zW ma0 ma1 false).toArray), .born (fun g => .tuple #[.slice (some ⟨g, 0, none⟩) 48 48, .int .i64 0]) (by8 f1 48)] (sB H5) ?ho6 ?he6
 case ho6 => exact bT 2 Ai27 As27 (ak (fun J => ⟨rfl, fun w' h => eC call25 (P1.out w' (h.one 4 rfl))⟩) trivial)
 intro J w6 l hM hl
 have H6 : Hid (Mm w6 ([(J 1, by8 f1 48)] ++ _) ∧ _) := wB H5 hM hl [1]
 have o6_1 := vB H5 hM hl 1
 clear hM hl l H5
 generalize J 1 = J6_1 at H6 o6_1 ⊢
 clear J
 refine zH (l := [2, 3, 4, 5, 6]) rfl ?_
 refine zF (d := 42) rfl rfl rfl rfl ?_
 simp only [Act.put, sa, sz, ss]
 refine zF (d := 45) (v := .slice (some ⟨J6_1, 0, none⟩) 48 48) (w' := w6) rfl rfl rfl (by go_simp) ?_
 simp only [Act.put, sa, sz, ss]
 refine zF (d := 46) (v := .int .i64 0) (w' := w6) rfl rfl rfl (by go_simp) ?_
 simp only [Act.put, sa, sz, ss]
 refine zF (d := 10) rfl rfl rfl rfl ?_
 simp only [Act.put, sa, sz, ss]
 refine zF (d := 11) rfl rfl rfl rfl ?_
 simp only [Act.put, sa, sz, ss]
 refine zE (zA (wp_seq ?_))
 refine zC 2 [.q (.agg (zW ma0 md1 false).toArray), .born (fun g => .tuple #[.slice (some ⟨g, 0, none⟩) 48 48, .int .i64 0]) (by8 h1 48)] (sB H6) ?ho7 ?he7
 case ho7 => exact bT 2 Ai27 As27 (ak (fun J => ⟨rfl, fun w' h => eC call25 (Q1.out w' (h.one 5 rfl))⟩) trivial)
 intro J w7 l hM hl
 have H7 : Hid (Mm w7 ([(J 1, by8 h1 48)] ++ _) ∧ _) := wB H6 hM hl [1]
 have o7_1 := vB H6 hM hl 1
 clear hM hl l H6
 generalize J 1 = J7_1 at H7 o7_1 ⊢
 clear J
 refine zH (l := [2, 3, 4, 5, 6]) rfl ?_
 refine zF (d := 47) rfl rfl rfl rfl ?_
 simp only [Act.put, sa, sz, ss]
 refine zF (d := 50) (v := .slice (some ⟨J7_1, 0, none⟩) 48 48) (w' := w7) rfl rfl rfl (by go_simp) ?_
 simp only [Act.put, sa, sz, ss]
 refine zF (d := 51) (v := .int .i64 0) (w' := w7) rfl rfl rfl (by go_simp) ?_
 simp only [Act.put, sa, sz, ss]
 refine zF (d := 12) rfl rfl rfl rfl ?_
 simp only [Act.put, sa, sz, ss]
 refine zF (d := 13) rfl rfl rfl rfl ?_
 simp only [Act.put, sa, sz, ss]
 refine zE (zA (wp_seq ?_))
 refine zS 26 [.q (.slice (some ⟨J6_1, 0, none⟩) 48 48), .q (.int .i64 48), .q (.bool false), .q (.bool false), .q (.slice (some ⟨J7_1, 0, none⟩) 48 48), .q (.int .i64 48), .q (.bool false), .q (.bool false), .q (.bool false), .q (.slice (some ⟨J6_1, 0, none⟩) 48 48), .q (PT J6_1 0), .q (.int .u8 (f1 0)), .q (.slice (some ⟨J7_1, 0, none⟩) 48 48), .q (PT J7_1 0), .q (.int .u8 (h1 0)), .q (.int .u8 (bits .xor .u8 (f1 0) (h1 0))), .q (.bool false), .q (.bool false), .q (.bool false), .q (.slice (some ⟨J6_1, 0, none⟩) 48 48), .q (.slice (some ⟨J6_1, 1, none⟩) 47 47), .q (.slice (some ⟨J7_1, 0, none⟩) 48 48), .q (.slice (some ⟨J7_1, 1, none⟩) 47 47), .call (.bool true), .q (.bool false), .q (.bool false)] H7 ?ho8 ?he8 (hL := ?hL8)
 case hL8 => exact trivial
 case ho8 => exact ar (ag (ag (ar (ar (ag (ag (ag (ar (ar (ag (aq (fun w' h => ex_loadC h 1 rfl rfl rfl Ai5 (by8_get _ (by decide))) (ar (ag (aq (fun w' h => ex_loadC h 0 rfl rfl rfl Ai5 (by8_get _ (by decide))) (ag (ag (ag (ar (ar (ag (ar (ag (ac (fun w' h => eC call29 (S1.out J6_1 J7_1 w' (h.one 1 rfl) (h.one 0 rfl))) (ag (ag trivial)))))))))))))))))))))))))
 intro _ w8 H8
 clear H7
 refine rN (wp_cond_false rfl ?_)
 refine wp_skip (zA ?_)
 refine wp_seq (wp_seq ?_)
 refine zD 13 [.q (.int .i64 0), .q (.bool true), .q (.bool true), .q (PT J1_1 24), .q (.bool true), .q (.bool false), .q (.bool false), .q (.bool false), .gone, .gone, .gone, .gone, .q (.bool false)] H8 ?ho9 ?he9
 case ho9 => exact ar (ag (ar (ag (bC 5 Ai4 (ag (ag (ar (ak (fun J => rfl) (ak (fun J => rfl) (ak (fun J => rfl) (ak (fun J => rfl) (ag trivial))))))))))))
 intro _ w9 H9
 clear H8
 refine rN (wp_cond_false rfl ?_)
 refine wp_skip (zA (wp_seq ?_))
 refine zD 2 [.q (.bool true), .q (.bool true)] H9 ?ho10 ?he10
 case ho10 => exact ar (ar trivial)
 intro _ w10 H10
 clear H9
 refine rN (wp_ret ?_)
 repeat (first | refine zJ ?_ | refine zI ?_)
 refine bodyPost_ret (v := .bool true) (by simp [results, Tryz.results6, go_sem, *]) rfl ?_
 exact ⟨rfl, H10.out.2⟩
set_option maxHeartbeats 4000000 in
theorem signs_22 (ma0 ma1 md1 mb0 mb1 mb2 mb3 me2 me3 : Nat) (f1 h1 : Nat → Int) (f2 h2 : Nat → Int) (aw : ∀ w, Mm w [(2, dtab)] → Calls Tryz.prog 24 #[] w (Rt w (.bool true))) (n1 : ∀ w, Mm w [(2, dtab)] → Calls Tryz.prog 19 #[.agg (zW ma0 ma1 false).toArray] w (Rt w (.tuple #[.agg (zW ma0 md1 false).toArray, .int .i64 0]))) (p1 : ∀ w, Mm w [(2, dtab)] → Calls Tryz.prog 25 #[.agg (zW ma0 ma1 false).toArray] w fun e w' => Below w.heap.size w w' ∧ ∃ g, e = .returned (.tuple #[.slice (some ⟨g, 0, none⟩) 48 48, .int .i64 0]) ∧ w.heap.size ≤ g ∧ g < w'.heap.size ∧ Blk w' g (by8 f1 48)) (q1 : ∀ w, Mm w [(2, dtab)] → Calls Tryz.prog 25 #[.agg (zW ma0 md1 false).toArray] w fun e w' => Below w.heap.size w w' ∧ ∃ g, e = .returned (.tuple #[.slice (some ⟨g, 0, none⟩) 48 48, .int .i64 0]) ∧ w.heap.size ≤ g ∧ g < w'.heap.size ∧ Blk w' g (by8 h1 48)) (s1 : ∀ g h w, Mm w [(g, by8 f1 48)] → Mm w [(h, by8 h1 48)] → Calls Tryz.prog 29 #[.slice (some ⟨g, 1, none⟩) 47 47, .slice (some ⟨h, 1, none⟩) 47 47] w (Rt w (.bool true))) (d1 : bits .xor .u8 (f1 0) (h1 0) = 32) (e1 : ∀ w, (Op.equalIn 10000 24 (N ma1) (N 0)).run Tryz.prog w = .ok false w) (n2 : ∀ w, Mm w [(2, dtab)] → Calls Tryz.prog 30 #[.agg (pc2 mb0 mb1 mb2 mb3 false).toArray] w (Rt w (.tuple #[.agg (pc2 mb0 mb1 me2 me3 false).toArray, .int .i64 0]))) (p2 : ∀ w, Mm w [(2, dtab)] → Calls Tryz.prog 27 #[.agg (pc2 mb0 mb1 mb2 mb3 false).toArray] w fun e w' => Below w.heap.size w w' ∧ ∃ g x, ∃ _ : Nat, e = .returned (.tuple #[.slice (some ⟨g, 0, none⟩) 96 (96 + x), .int .i64 0]) ∧ w.heap.size ≤ g ∧ g < w'.heap.size ∧ Blk w' g (by8 f2 96)) (q2 : ∀ w, Mm w [(2, dtab)] → Calls Tryz.prog 27 #[.agg (pc2 mb0 mb1 me2 me3 false).toArray] w fun e w' => Below w.heap.size w w' ∧ ∃ g x, ∃ _ : Nat, e = .returned (.tuple #[.slice (some ⟨g, 0, none⟩) 96 (96 + x), .int .i64 0]) ∧ w.heap.size ≤ g ∧ g < w'.heap.size ∧ Blk w' g (by8 h2 96)) (s2 : ∀ g h x y w, Mm w [(g, by8 f2 96)] → Mm w [(h, by8 h2 96)] → Calls Tryz.prog 29 #[.slice (some ⟨g, 1, none⟩) 95 (96 + x - 1), .slice (some ⟨h, 1, none⟩) 95 (96 + y - 1)] w (Rt w (.bool true))) (d2 : bits .xor .u8 (f2 0) (h2 0) = 32) (e2 : ∀ w, (Op.equalIn 10000 33 (V [mb2, mb3]) (V [0, 0])).run Tryz.prog w = .ok false w) (w : World) (hm : Mm w [(2, dtab)]) :
  Calls Tryz.prog 6 #[.agg (zW ma0 ma1 false).toArray, .agg (pc2 mb0 mb1 mb2 mb3 false).toArray] w (Rt w (.bool true)) := by
 have H0 : Hid (_ ∧ _) := ⟨hm, Below.refl w.heap.size w⟩
 clear hm
 have AW : Hid _ := aw
 clear aw
 have N1 : Hid _ := n1
 clear n1
 have P1 : Hid _ := p1
 clear p1
 have Q1 : Hid _ := q1
 clear q1
 have S1 : Hid _ := s1
 clear s1
 have E1 : Hid _ := e1
 clear e1
 have N2 : Hid _ := n2
 clear n2
 have P2 : Hid _ := p2
 clear p2
 have Q2 : Hid _ := q2
 clear q2
 have S2 : Hid _ := s2
 clear s2
 have E2 : Hid _ := e2
 clear e2
 go_enter Tryz.func6, Tryz.ntmps6
 refine wp_seq ?_
 refine zC 3 [.made (zW ma0 ma1 false) 27, .made (pc2 mb0 mb1 mb2 mb3 false) 35, .q (.bool false)] (sB H0) ?ho1 ?he1
 case ho1 => exact am (zQ rfl rfl) (am (zQ rfl rfl) (ar trivial))
 intro J w1 l hM hl
 have H1 : Hid (Mm w1 ([(J 0, zW ma0 ma1 false), (J 1, pc2 mb0 mb1 mb2 mb3 false)] ++ _) ∧ _) := wB H0 hM hl [0, 1]
 have o1_0 := vB H0 hM hl 0
 have o1_1 := vB H0 hM hl 1
 clear hM hl l
 generalize J 0 = J1_0 at H1 o1_0 ⊢
 generalize J 1 = J1_1 at H1 o1_1 ⊢
 clear J
 refine rN (wp_seq ?_)
 refine zD 2 [.call (.bool true), .q (.bool true)] H1 ?ho2 ?he2
 case ho2 => exact ac (fun w' h => eC call24 (AW.out w' (h.one 2 rfl))) (ar trivial)
 intro _ w2 H2
 clear H1
 refine rN (wp_seq ?_)
 refine zC 8 [.q (.agg (zW ma0 ma1 false).toArray), .call (.tuple #[.agg (zW ma0 md1 false).toArray, .int .i64 0]), .q (.tuple #[.agg (zW ma0 md1 false).toArray, .int .i64 0]), .q (.agg (zW ma0 md1 false).toArray), .q (.int .i64 0), .made (zW 0 0 false) 27, .laid 5 (zW 0 0 false) (zW ma0 md1 false), .q (.int .i64 0)] (sB H2) ?ho3 ?he3 (hL := ?hL3)
 case hL3 => exact ⟨⟨_, rfl⟩, trivial⟩
 case ho3 => exact bT 0 Ai27 As27 (ac (fun w' h => eC call19 (N1.out w' (h.one 2 rfl))) (ar (ag (ag (am (ex_madeP1 rfl) (ak (fun J => ⟨rfl, rfl, rfl, fun w' h => ex_laidT h rfl rfl As27 rfl rfl rfl⟩) (ar trivial)))))))
 intro J w3 l hM hl
 have H3 : Hid (Mm w3 ([(J 5, zW ma0 md1 false)] ++ _) ∧ _) := wB H2 hM hl [5]
 have o3_5 := vB H2 hM hl 5
 clear hM hl l H2
 generalize J 5 = J3_5 at H3 o3_5 ⊢
 clear J
 refine rN (wp_seq ?_)
 refine zC 8 [.q (.agg (pc2 mb0 mb1 mb2 mb3 false).toArray), .call (.tuple #[.agg (pc2 mb0 mb1 me2 me3 false).toArray, .int .i64 0]), .q (.tuple #[.agg (pc2 mb0 mb1 me2 me3 false).toArray, .int .i64 0]), .q (.agg (pc2 mb0 mb1 me2 me3 false).toArray), .q (.int .i64 0), .made (pc2 0 0 0 0 false) 35, .laid 5 (pc2 0 0 0 0 false) (pc2 mb0 mb1 me2 me3 false), .q (.int .i64 0)] (sB H3) ?ho4 ?he4 (hL := ?hL4)
 case hL4 => exact ⟨⟨_, rfl⟩, trivial⟩
 case ho4 => exact bT 2 Ai35 As35 (ac (fun w' h => eC call30 (N2.out w' (h.one 3 rfl))) (ar (ag (ag (am (ex_madeP2 rfl) (ak (fun J => ⟨rfl, rfl, rfl, fun w' h => ex_laidT h rfl rfl As35 rfl rfl rfl⟩) (ar trivial)))))))
 intro J w4 l hM hl
 have H4 : Hid (Mm w4 ([(J 5, pc2 mb0 mb1 me2 me3 false)] ++ _) ∧ _) := wB H3 hM hl [5]
 have o4_5 := vB H3 hM hl 5
 clear hM hl l H3
 generalize J 5 = J4_5 at H4 o4_5 ⊢
 clear J
 refine rN (wp_seq (wp_seq ?_))
 refine zD 13 [.q (.int .i64 0), .q (.bool true), .q (.bool true), .q (PT J1_0 12), .q (.bool false), .q (.bool true), .q (.bool true), .q (.bool true), .q (PT J1_0 6), .q (N ma1), .q (N 0), .q (.bool true), .q (.bool true)] H4 ?ho5 ?he5
 case ho5 => exact ar (ag (ar (ag (bC 2 Ai4 (ag (ag (ar (ag (bN 2 (ak (by refine fun J => ⟨rfl, fun w' h => ?_⟩; clear h; exact ex_zero6 rfl) (ak (fun J => ⟨rfl, fun w' _ => exec_neq6 E1.out rfl rfl rfl⟩) (ag trivial))))))))))))
 intro _ w5 H5
 clear H4
 refine rN (wp_cond_true rfl (wp_seq ?_))
 refine zC 2 [.q (.agg (zW ma0 ma1 false).toArray), .born (fun g => .tuple #[.slice (some ⟨g, 0, none⟩) 48 48, .int .i64 0]) (by8 f1 48)] (sB H5) ?ho6 ?he6
 case ho6 => exact bT 2 Ai27 As27 (ak (fun J => ⟨rfl, fun w' h => eC call25 (P1.out w' (h.one 4 rfl))⟩) trivial)
 intro J w6 l hM hl
 have H6 : Hid (Mm w6 ([(J 1, by8 f1 48)] ++ _) ∧ _) := wB H5 hM hl [1]
 have o6_1 := vB H5 hM hl 1
 clear hM hl l H5
 generalize J 1 = J6_1 at H6 o6_1 ⊢
 clear J
 refine zH (l := [2, 3, 4, 5, 6]) rfl ?_
 refine zF (d := 42) rfl rfl rfl rfl ?_
 simp only [Act.put, sa, sz, ss]
 refine zF (d := 45) (v := .slice (some ⟨J6_1, 0, none⟩) 48 48) (w' := w6) rfl rfl rfl (by go_simp) ?_
 simp only [Act.put, sa, sz, ss]
 refine zF (d := 46) (v := .int .i64 0) (w' := w6) rfl rfl rfl (by go_simp) ?_
 simp only [Act.put, sa, sz, ss]
 refine zF (d := 10) rfl rfl rfl rfl ?_
 simp only [Act.put, sa, sz, ss]
 refine zF (d := 11) rfl rfl rfl rfl ?_
 simp only [Act.put, sa, sz, ss]
 refine zE (zA (wp_seq ?_))
 refine zC 2 [.q (.agg (zW ma0 md1 false).toArray), .born (fun g => .tuple #[.slice (some ⟨g, 0, none⟩) 48 48, .int .i64 0]) (by8 h1 48)] (sB H6) ?ho7 ?he7
 case ho7 => exact bT 2 Ai27 As27 (ak (fun J => ⟨rfl, fun w' h => eC call25 (Q1.out w' (h.one 5 rfl))⟩) trivial)
 intro J w7 l hM hl
 have H7 : Hid (Mm w7 ([(J 1, by8 h1 48)] ++ _) ∧ _) := wB H6 hM hl [1]
 have o7_1 := vB H6 hM hl 1
 clear hM hl l H6
 generalize J 1 = J7_1 at H7 o7_1 ⊢
 clear J
 refine zH (l := [2, 3, 4, 5, 6]) rfl ?_
 refine zF (d := 47) rfl rfl rfl rfl ?_
 simp only [Act.put, sa, sz, ss]
 refine zF (d := 50) (v := .slice (some ⟨J7_1, 0, none⟩) 48 48) (w' := w7) rfl rfl rfl (by go_simp) ?_
 simp only [Act.put, sa, sz, ss]
 refine zF (d := 51) (v := .int .i64 0) (w' := w7) rfl rfl rfl (by go_simp) ?_
 simp only [Act.put, sa, sz, ss]
 refine zF (d := 12) rfl rfl rfl rfl ?_
 simp only [Act.put, sa, sz, ss]
 refine zF (d := 13) rfl rfl rfl rfl ?_
 simp only [Act.put, sa, sz, ss]
 refine zE (zA (wp_seq ?_))
 refine zS 26 [.q (.slice (some ⟨J6_1, 0, none⟩) 48 48), .q (.int .i64 48), .q (.bool false), .q (.bool false), .q (.slice (some ⟨J7_1, 0, none⟩) 48 48), .q (.int .i64 48), .q (.bool false), .q (.bool false), .q (.bool false), .q (.slice (some ⟨J6_1, 0, none⟩) 48 48), .q (PT J6_1 0), .q (.int .u8 (f1 0)), .q (.slice (some ⟨J7_1, 0, none⟩) 48 48), .q (PT J7_1 0), .q (.int .u8 (h1 0)), .q (.int .u8 (bits .xor .u8 (f1 0) (h1 0))), .q (.bool false), .q (.bool false), .q (.bool false), .q (.slice (some ⟨J6_1, 0, none⟩) 48 48), .q (.slice (some ⟨J6_1, 1, none⟩) 47 47), .q (.slice (some ⟨J7_1, 0, none⟩) 48 48), .q (.slice (some ⟨J7_1, 1, none⟩) 47 47), .call (.bool true), .q (.bool false), .q (.bool false)] H7 ?ho8 ?he8 (hL := ?hL8)
 case hL8 => exact trivial
 case ho8 => exact ar (ag (ag (ar (ar (ag (ag (ag (ar (ar (ag (aq (fun w' h => ex_loadC h 1 rfl rfl rfl Ai5 (by8_get _ (by decide))) (ar (ag (aq (fun w' h => ex_loadC h 0 rfl rfl rfl Ai5 (by8_get _ (by decide))) (ag (ag (ag (ar (ar (ag (ar (ag (ac (fun w' h => eC call29 (S1.out J6_1 J7_1 w' (h.one 1 rfl) (h.one 0 rfl))) (ag (ag trivial)))))))))))))))))))))))))
 intro _ w8 H8
 clear H7
 refine rN (wp_cond_false rfl ?_)
 refine wp_skip (zA ?_)
 refine wp_seq (wp_seq ?_)
 refine zD 13 [.q (.int .i64 0), .q (.bool true), .q (.bool true), .q (PT J1_1 24), .q (.bool false), .q (.bool true), .q (.bool true), .q (.bool true), .q (PT J1_1 12), .q (V [mb2, mb3]), .q (V [0, 0]), .q (.bool true), .q (.bool true)] H8 ?ho9 ?he9
 case ho9 => exact ar (ag (ar (ag (bC 5 Ai4 (ag (ag (ar (ag (bT 5 Ai33 As33 (ak (fun J => ⟨rfl, fun w' _ => ex_buildE2z rfl⟩) (ak (fun J => ⟨rfl, fun w' _ => exec_neqT33 E2.out rfl rfl rfl⟩) (ag trivial))))))))))))
 intro _ w9 H9
 clear H8
 refine rN (wp_cond_true rfl (wp_seq ?_))
 refine zC 2 [.q (.agg (pc2 mb0 mb1 mb2 mb3 false).toArray), .bornX (fun g x y => .tuple #[.slice (some ⟨g, 0, none⟩) 96 (96 + x), .int .i64 0]) (by8 f2 96)] (sB H9) ?ho10 ?he10
 case ho10 => exact bT 5 Ai35 As35 (ak (fun J => ⟨rfl, fun w' h => eC call27 (P2.out w' (h.one 6 rfl))⟩) trivial)
 intro J w10 l hM hl
 have H10 : Hid (Mm w10 ([(J 1, by8 f2 96)] ++ _) ∧ _) := wB H9 hM hl [1]
 have o10_1 := vB H9 hM hl 1
 clear hM hl l H9
 generalize J 1 = J10_1 at H10 o10_1 ⊢
 generalize J 65537 = J10_65537
 clear J
 refine zH (l := [2, 3, 4, 5, 6]) rfl ?_
 refine zF (d := 91) rfl rfl rfl rfl ?_
 simp only [Act.put, sa, sz, ss]
 refine zF (d := 94) (v := .slice (some ⟨J10_1, 0, none⟩) 96 (96 + J10_65537)) (w' := w10) rfl rfl rfl (by go_simp) ?_
 simp only [Act.put, sa, sz, ss]
 refine zF (d := 95) (v := .int .i64 0) (w' := w10) rfl rfl rfl (by go_simp) ?_
 simp only [Act.put, sa, sz, ss]
 refine zF (d := 14) rfl rfl rfl rfl ?_
 simp only [Act.put, sa, sz, ss]
 refine zF (d := 15) rfl rfl rfl rfl ?_
 simp only [Act.put, sa, sz, ss]
 refine zE (zA (wp_seq ?_))
 refine zC 2 [.q (.agg (pc2 mb0 mb1 me2 me3 false).toArray), .bornX (fun g x y => .tuple #[.slice (some ⟨g, 0, none⟩) 96 (96 + x), .int .i64 0]) (by8 h2 96)] (sB H10) ?ho11 ?he11
 case ho11 => exact bT 3 Ai35 As35 (ak (fun J => ⟨rfl, fun w' h => eC call27 (Q2.out w' (h.one 7 rfl))⟩) trivial)
 intro J w11 l hM hl
 have H11 : Hid (Mm w11 ([(J 1, by8 h2 96)] ++ _) ∧ _) := wB H10 hM hl [1]
 have o11_1 := vB H10 hM hl 1
 clear hM hl l H10
 generalize J 1 = J11_1 at H11 o11_1 ⊢
 generalize J 65537 = J11_65537
 clear J
 refine zH (l := [2, 3, 4, 5, 6]) rfl ?_
 refine zF (d := 96) rfl rfl rfl rfl ?_
 simp only [Act.put, sa, sz, ss]
 refine zF (d := 99) (v := .slice (some ⟨J11_1, 0, none⟩) 96 (96 + J11_65537)) (w' := w11) rfl rfl rfl (by go_simp) ?_
 simp only [Act.put, sa, sz, ss]
 refine zF (d := 100) (v := .int .i64 0) (w' := w11) rfl rfl rfl (by go_simp) ?_
 simp only [Act.put, sa, sz, ss]
 refine zF (d := 16) rfl rfl rfl rfl ?_
 simp only [Act.put, sa, sz, ss]
 refine zF (d := 17) rfl rfl rfl rfl ?_
 simp only [Act.put, sa, sz, ss]
 refine zE (zA (wp_seq ?_))
 refine zS 26 [.q (.slice (some ⟨J10_1, 0, none⟩) 96 (96 + J10_65537)), .q (.int .i64 96), .q (.bool false), .q (.bool false), .q (.slice (some ⟨J11_1, 0, none⟩) 96 (96 + J11_65537)), .q (.int .i64 96), .q (.bool false), .q (.bool false), .q (.bool false), .q (.slice (some ⟨J10_1, 0, none⟩) 96 (96 + J10_65537)), .q (PT J10_1 0), .q (.int .u8 (f2 0)), .q (.slice (some ⟨J11_1, 0, none⟩) 96 (96 + J11_65537)), .q (PT J11_1 0), .q (.int .u8 (h2 0)), .q (.int .u8 (bits .xor .u8 (f2 0) (h2 0))), .q (.bool false), .q (.bool false), .q (.bool false), .q (.slice (some ⟨J10_1, 0, none⟩) 96 (96 + J10_65537)), .q (.slice (some ⟨J10_1, 1, none⟩) 95 ((96 + J10_65537) - 1)), .q (.slice (some ⟨J11_1, 0, none⟩) 96 (96 + J11_65537)), .q (.slice (some ⟨J11_1, 1, none⟩) 95 ((96 + J11_65537) - 1)), .call (.bool true), .q (.bool false), .q (.bool false)] H11 ?ho12 ?he12 (hL := ?hL12)
 case hL12 => exact trivial
 case ho12 => exact ar (ag (ag (ar (ar (ag (ag (ag (ar (ar (ag (aq (fun w' h => ex_loadC h 1 rfl rfl rfl Ai5 (by8_get _ (by decide))) (ar (ag (aq (fun w' h => ex_loadC h 0 rfl rfl rfl Ai5 (by8_get _ (by decide))) (ag (ag (ag (ar (ar (ak (by refine fun J => ⟨rfl, fun w' h => ?_⟩; clear h; go_simp <;> omega) (ar (ak (by refine fun J => ⟨rfl, fun w' h => ?_⟩; clear h; go_simp <;> omega) (ac (fun w' h => eC call29 (S2.out J10_1 J11_1 J10_65537 J11_65537 w' (h.one 1 rfl) (h.one 0 rfl))) (ag (ag trivial)))))))))))))))))))))))))
 intro _ w12 H12
 clear H11
 refine rN (wp_cond_false rfl ?_)
 refine wp_skip (zA (wp_seq ?_))
 refine zD 2 [.q (.bool true), .q (.bool true)] H12 ?ho13 ?he13
 case ho13 => exact ar (ar trivial)
 intro _ w13 H13
 clear H12
 refine rN (wp_ret ?_)
 repeat (first | refine zJ ?_ | refine zI ?_)
 refine bodyPost_ret (v := .bool true) (by simp [results, Tryz.results6, go_sem, *]) rfl ?_
 exact ⟨rfl, H13.out.2⟩
end Rg
end Go.Proofs.YtmanelnacifgcaaGreatDoor
end
section
namespace Go.Proofs.YtmanelnacifgcaaGreatDoor
open Go.RowKit
namespace Rg
open NT
theorem nez_2 (y : Fq) (h : y ≠ fqR.zero) : ∀ w, (Op.equalIn 10000 33 (V [q0 y, q1 y]) (V [0, 0])).run Tryz.prog w = .ok false w := eqz_2 y (decide_eq_false h)
theorem signs_any ma0 ma1 maz mb0 mb1 mb2 mb3 mbz (hma0 : ma0 < big) (hma1 : ma1 < big) (hmb0 : mb0 < big) (hmb1 : mb1 < big) (hmb2 : mb2 < big) (hmb3 : mb3 < big) (w : World) (hm : Mm w [(2, dtab)]) : Calls Tryz.prog 6 #[pv1 ma0 ma1 maz, pv2 mb0 mb1 mb2 mb3 mbz] w (Rt w (.bool true)) := by
 obtain ⟨I, hI⟩ := inv1_ex
 cases hA : rd1 ma0 ma1 maz with
 | none =>
  cases hB : rd2 mb0 mb1 mb2 mb3 mbz with
  | none => exact signs_00 ma0 ma1 mb0 mb1 mb2 mb3 maz mbz  awake5E (fun w hm => NegN_1 hI ma0 ma1 maz hma0 hma1 hA w hm) (fun w hm => NegN_2 hI mb0 mb1 mb2 mb3 mbz hmb0 hmb1 hmb2 hmb3 hB w hm) w hm
  | some Q =>
   obtain ⟨eB, oB⟩ := rd2_enc hI hB
   rw [eB]
   clear eB hB
   rcases Q with _ | ⟨xB, yB⟩
   ·exact signs_01 ma0 ma1 0 0 0 0 0 0 0 0 maz true  awake5E (fun w hm => NegN_1 hI ma0 ma1 maz hma0 hma1 hA w hm) (fun w hm => NegE_2 hI (P := none) trivial w hm) w hm
   ·exact signs_02 ma0 ma1 (q0 xB) (q1 xB) (q0 yB) (q1 yB) (q0 (fqR.neg yB)) (q1 (fqR.neg yB)) maz (ro2 xB yB) (ro2 xB (fqR.neg yB)) awake5E (fun w hm => NegN_1 hI ma0 ma1 maz hma0 hma1 hA w hm) (fun w hm => NegE_2 hI oB w hm) (fun w hm => bytesE_2 hI oB w hm) (fun w hm => bytesE_2 hI ((K2 hI).neg_on oB) w hm) (fun g k x y w hg hk => sameB _ _ 95 (96 + x - 1) (96 + y - 1) (by omega) (by omega) (ro2_same xB yB _) g k w hg hk) (ro2_xor xB yB ((K2 hI).y_ne oB)) (nez_2 yB ((K2 hI).y_ne oB)) w hm
 | some P =>
  obtain ⟨eA, oA⟩ := rd1_enc hI hA
  rw [eA]
  clear eA hA
  rcases P with _ | ⟨xA, yA⟩
  ·clear oA
   cases hB : rd2 mb0 mb1 mb2 mb3 mbz with
   | none => exact signs_10 0 0 0 0 mb0 mb1 mb2 mb3 true mbz  awake5E (fun w hm => NegE_1 hI (P := none) trivial w hm) (fun w hm => NegN_2 hI mb0 mb1 mb2 mb3 mbz hmb0 hmb1 hmb2 hmb3 hB w hm) w hm
   | some Q =>
    obtain ⟨eB, oB⟩ := rd2_enc hI hB
    rw [eB]
    clear eB hB
    rcases Q with _ | ⟨xB, yB⟩
    ·exact signs_11 0 0 0 0 0 0 0 0 0 0 0 0 true true  awake5E (fun w hm => NegE_1 hI (P := none) trivial w hm) (fun w hm => NegE_2 hI (P := none) trivial w hm) w hm
    ·exact signs_12 0 0 0 0 (q0 xB) (q1 xB) (q0 yB) (q1 yB) (q0 (fqR.neg yB)) (q1 (fqR.neg yB)) true (ro2 xB yB) (ro2 xB (fqR.neg yB)) awake5E (fun w hm => NegE_1 hI (P := none) trivial w hm) (fun w hm => NegE_2 hI oB w hm) (fun w hm => bytesE_2 hI oB w hm) (fun w hm => bytesE_2 hI ((K2 hI).neg_on oB) w hm) (fun g k x y w hg hk => sameB _ _ 95 (96 + x - 1) (96 + y - 1) (by omega) (by omega) (ro2_same xB yB _) g k w hg hk) (ro2_xor xB yB ((K2 hI).y_ne oB)) (nez_2 yB ((K2 hI).y_ne oB)) w hm
  ·clear hma0 hma1
   cases hB : rd2 mb0 mb1 mb2 mb3 mbz with
   | none => exact signs_20 (p0 xA) (p0 yA) (p0 (fpR.neg yA)) mb0 mb1 mb2 mb3 mbz (ro1 xA yA) (ro1 xA (fpR.neg yA)) awake5E (fun w hm => NegE_1 hI oA w hm) (fun w hm => bytesE_1 hI oA w hm) (fun w hm => bytesE_1 hI ((K1 hI).neg_on oA) w hm) (fun g k w hg hk => sameB _ _ 47 47 47 (by decide) (by decide) (ro1_same xA yA _) g k w hg hk) (ro1_xor xA yA ((K1 hI).y_ne oA)) (eqz_1 yA (decide_eq_false ((K1 hI).y_ne oA))) (fun w hm => NegN_2 hI mb0 mb1 mb2 mb3 mbz hmb0 hmb1 hmb2 hmb3 hB w hm) w hm
   | some Q =>
    obtain ⟨eB, oB⟩ := rd2_enc hI hB
    rw [eB]
    clear eB hB
    rcases Q with _ | ⟨xB, yB⟩
    ·exact signs_21 (p0 xA) (p0 yA) (p0 (fpR.neg yA)) 0 0 0 0 0 0 0 0 true (ro1 xA yA) (ro1 xA (fpR.neg yA)) awake5E (fun w hm => NegE_1 hI oA w hm) (fun w hm => bytesE_1 hI oA w hm) (fun w hm => bytesE_1 hI ((K1 hI).neg_on oA) w hm) (fun g k w hg hk => sameB _ _ 47 47 47 (by decide) (by decide) (ro1_same xA yA _) g k w hg hk) (ro1_xor xA yA ((K1 hI).y_ne oA)) (eqz_1 yA (decide_eq_false ((K1 hI).y_ne oA))) (fun w hm => NegE_2 hI (P := none) trivial w hm) w hm
    ·exact signs_22 (p0 xA) (p0 yA) (p0 (fpR.neg yA)) (q0 xB) (q1 xB) (q0 yB) (q1 yB) (q0 (fqR.neg yB)) (q1 (fqR.neg yB))  (ro1 xA yA) (ro1 xA (fpR.neg yA)) (ro2 xB yB) (ro2 xB (fqR.neg yB)) awake5E (fun w hm => NegE_1 hI oA w hm) (fun w hm => bytesE_1 hI oA w hm) (fun w hm => bytesE_1 hI ((K1 hI).neg_on oA) w hm) (fun g k w hg hk => sameB _ _ 47 47 47 (by decide) (by decide) (ro1_same xA yA _) g k w hg hk) (ro1_xor xA yA ((K1 hI).y_ne oA)) (eqz_1 yA (decide_eq_false ((K1 hI).y_ne oA))) (fun w hm => NegE_2 hI oB w hm) (fun w hm => bytesE_2 hI oB w hm) (fun w hm => bytesE_2 hI ((K2 hI).neg_on oB) w hm) (fun g k x y w hg hk => sameB _ _ 95 (96 + x - 1) (96 + y - 1) (by omega) (by omega) (ro2_same xB yB _) g k w hg hk) (ro2_xor xB yB ((K2 hI).y_ne oB)) (nez_2 yB ((K2 hI).y_ne oB)) w hm
end Rg
end Go.Proofs.YtmanelnacifgcaaGreatDoor
end
section
namespace Go.Proofs.YtmanelnacifgcaaGreatDoor
open Go.ChangeShapes Go.WideShapes Go.ChangeAt Go.RowKit
set_option maxRecDepth 100000
theorem Tryz.own : ownKnob Tryz.prog.godebug = none := by kernel_rfl
theorem Tryz.laidOut : laidOutB Tryz.prog = true := by kernel_rfl
theorem wd_cons_zero (x r : Nat) (hx : x < 18446744073709551616) : wd (x + 18446744073709551616 * r) 0 = x := by
 unfold wd; rw [Nat.mul_zero, Nat.pow_zero, Nat.div_one]; omega
theorem wd_cons_succ (x r i : Nat) (hx : x < 18446744073709551616) : wd (x + 18446744073709551616 * r) (i + 1) = wd r i := by
 unfold wd
 rw [pow_step, Nat.mul_comm (2 ^ (64 * i)), ← Nat.div_div_eq_div_mul, show (x + 18446744073709551616 * r) / 18446744073709551616 = r by omega]
theorem lt_cons (x r k : Nat) (hx : x < 18446744073709551616) (hr : r < 2 ^ (64 * k)) : x + 18446744073709551616 * r < 2 ^ (64 * (k + 1)) := by
 rw [pow_step]; omega
theorem num_of_words (x : Nat → Nat) (hx : ∀ i, x i < 18446744073709551616) (n : Nat) : ∃ a, a < 2 ^ (64 * n) ∧ ∀ i, i < n → wd a i = x i := by
 induction n generalizing x with
 | zero => exact ⟨0, Nat.two_pow_pos _, fun i h => absurd h (Nat.not_lt_zero _)⟩
 | succ n ih =>
  obtain ⟨r, hr, hw⟩ := ih (fun i => x (i + 1)) (fun i => hx _)
  refine ⟨x 0 + 18446744073709551616 * r, lt_cons _ _ _ (hx 0) hr, fun i hi => ?_⟩
  cases i with
  | zero => exact wd_cons_zero _ _ (hx 0)
  | succ i => rw [wd_cons_succ _ _ _ (hx 0)]; exact hw i (by omega)
end Go.Proofs.YtmanelnacifgcaaGreatDoor
end
section
namespace Go.Proofs.YtmanelnacifgcaaGreatDoor
open Go.ChangeShapes Go.WideShapes Go.ChangeAt Go.RowKit
set_option maxRecDepth 100000
section
variable {H : Type} {enc : TypeId × Value → H} {w : World} {base : Nat} {sp : Nat → Bool} {held : Bool}
theorem cells_num {fuel : Nat} {cs : List Value} {x : DataW H × List MemPlace} (h : DataW.trod enc Tryz.prog w base sp held fuel 24 cs = some x) : ∃ a, a < big ∧ cs = zB a ∧ x.2 = [] := by
 obtain ⟨xs, m, -, hx, hl, hn, hel⟩ := DataW.trod_array Tryz.underlying24 h
 have hc : Tryz.prog.cellsOf 22 = 1 := by kernel_rfl
 have hc6 : Tryz.prog.cellsOf 24 = 6 := by kernel_rfl
 rw [hc6] at hl
 have key : ∀ i, i < 6 → ∃ n : Nat, n < 18446744073709551616 ∧ cs[i]? = some (.int .u64 n) ∧ ∃ z, xs[i]? = some z ∧ z.2 = [] := by
  intro i hi
  have h := hel i hi
  rw [hc] at h
  have hlt : i < xs.length := by rw [hn]; exact hi
  obtain ⟨z, hz⟩ : ∃ z, xs[i]? = some z := ⟨xs[i], List.getElem?_eq_getElem hlt⟩
  rw [hz] at h
  obtain ⟨n, e1, e2, e3⟩ := DataW.trod_int Tryz.underlying22 h
  have hb := bounds_u64 e3
  have e6 : ((cs.drop (i * 1)).take 1)[0]? = some (.int .u64 n) := by rw [e1]; rfl
  rw [Nat.mul_one, List.getElem?_take] at e6
  have e5 : (cs.drop i)[0]? = some (.int .u64 n) := by simpa using e6
  rw [List.getElem?_drop] at e5
  refine ⟨n.toNat, by omega, ?_, z, hz, by rw [e2]⟩
  rw [Int.toNat_of_nonneg hb.1]
  simpa using e5
 obtain ⟨n0, l0, c0, z0, y0, q0⟩ := key 0 (by omega)
 obtain ⟨n1, l1, c1, z1, y1, q1⟩ := key 1 (by omega)
 obtain ⟨n2, l2, c2, z2, y2, q2⟩ := key 2 (by omega)
 obtain ⟨n3, l3, c3, z3, y3, q3⟩ := key 3 (by omega)
 obtain ⟨n4, l4, c4, z4, y4, q4⟩ := key 4 (by omega)
 obtain ⟨n5, l5, c5, z5, y5, q5⟩ := key 5 (by omega)
 have hps : x.2 = [] := by
  have hx2 : x.2 = xs.flatMap (·.2) := congrArg Prod.snd hx
  rw [hx2, List.flatMap_eq_nil_iff]
  intro z hz
  obtain ⟨i, hi⟩ := List.mem_iff_getElem?.1 hz
  have hi6 : i < 6 := by
   have := (List.getElem?_eq_some_iff.1 hi).1
   omega
  obtain ⟨n, _, _, z', y, q⟩ := key i hi6
  rw [hi] at y; injection y with y; rw [y]; exact q
 obtain ⟨a, ha, hw⟩ := num_of_words (fun i => [n0, n1, n2, n3, n4, n5].getD i 0) (by
  intro i
  match i with
  | 0 => exact l0
  | 1 => exact l1
  | 2 => exact l2
  | 3 => exact l3
  | 4 => exact l4
  | 5 => exact l5
  | (i + 6) => simp) 6
 refine ⟨a, by rw [big]; exact ha, ?_, hps⟩
 have w0 : wd a 0 = n0 := hw 0 (by omega)
 have w1 : wd a 1 = n1 := hw 1 (by omega)
 have w2 : wd a 2 = n2 := hw 2 (by omega)
 have w3 : wd a 3 = n3 := hw 3 (by omega)
 have w4 : wd a 4 = n4 := hw 4 (by omega)
 have w5 : wd a 5 = n5 := hw 5 (by omega)
 unfold zB
 rw [w0, w1, w2, w3, w4, w5]
 apply List.ext_getElem?
 intro i
 match i with
 | 0 => exact c0
 | 1 => exact c1
 | 2 => exact c2
 | 3 => exact c3
 | 4 => exact c4
 | 5 => exact c5
 | i + 6 => rw [List.getElem?_eq_none (by omega)]; rfl
/-- An array of n parts of c cells each, whose parts open. -/
theorem cells_parts {t e : TypeId} {n c : Nat} {P : List Value → Prop} {fuel : Nat} {cs : List Value} {x : DataW H × List MemPlace} (ht : Tryz.prog.underlying t = some (.array n e)) (hce : Tryz.prog.cellsOf e = c) (hct : Tryz.prog.cellsOf t = n * c)
  (hop : ∀ {fuel : Nat} {cs : List Value} {x : DataW H × List MemPlace}, DataW.trod enc Tryz.prog w base sp held fuel e cs = some x → P cs ∧ x.2 = []) (h : DataW.trod enc Tryz.prog w base sp held fuel t cs = some x) :
  cs.length = n * c ∧ (∀ i, i < n → P ((cs.drop (i * c)).take c)) ∧ x.2 = [] := by
 obtain ⟨xs, m, -, hx, hl, hn, hel⟩ := DataW.trod_array ht h
 rw [hct] at hl
 rw [hce] at hel
 have key : ∀ i, i < n → P ((cs.drop (i * c)).take c) ∧ ∃ z, xs[i]? = some z ∧ z.2 = [] := fun i hi => by
  have h := hel i hi
  have hlt : i < xs.length := by rw [hn]; exact hi
  obtain ⟨z, hz⟩ : ∃ z, xs[i]? = some z := ⟨xs[i], List.getElem?_eq_getElem hlt⟩
  rw [hz] at h
  exact ⟨(hop h).1, z, hz, (hop h).2⟩
 refine ⟨hl, fun i hi => (key i hi).1, ?_⟩
 have hx2 : x.2 = xs.flatMap (·.2) := congrArg Prod.snd hx
 rw [hx2, List.flatMap_eq_nil_iff]
 intro z hz
 obtain ⟨i, hi⟩ := List.mem_iff_getElem?.1 hz
 have hin : i < n := by
  have := (List.getElem?_eq_some_iff.1 hi).1
  omega
 obtain ⟨_, z', y, q⟩ := key i hin
 rw [hi] at y; injection y with y; rw [y]; exact q
theorem cells_E2 {fuel : Nat} {cs : List Value} {x : DataW H × List MemPlace} (h : DataW.trod enc Tryz.prog w base sp held fuel 33 cs = some x) : (∃ a b, a < big ∧ b < big ∧ cs = Rg.cel [a, b]) ∧ x.2 = [] := by
 obtain ⟨hl, hp, hx⟩ := cells_parts (P := fun l => ∃ a, a < big ∧ l = zB a) (n := 2) (c := 6) Tryz.underlying33 (by kernel_rfl) (by kernel_rfl) (fun h => by obtain ⟨a, h1, h2, h3⟩ := cells_num h; exact ⟨⟨a, h1, h2⟩, h3⟩) h
 obtain ⟨a, ha, ea⟩ := hp 0 (by decide)
 obtain ⟨b, hb, eb⟩ := hp 1 (by decide)
 refine ⟨⟨a, b, ha, hb, ?_⟩, hx⟩
 rw [Nat.zero_mul, List.drop_zero] at ea
 rw [List.take_of_length_le (by rw [List.length_drop]; omega)] at eb
 have e := List.take_append_drop 6 cs
 rw [ea, show (6 : Nat) = 1 * 6 from rfl, eb] at e
 rw [← e]
 rfl
end
section
variable {H : Type} {enc : TypeId × Value → H} {w : World} {base : Nat} {sp : Nat → Bool} {held : Bool} {r : Reach} {b0 : Nat} {v : Value} {d : DataW H} {ps : List MemPlace}
end
section
variable {H : Type} {enc : TypeId × Value → H} {w : World} {base : Nat} {sp : Nat → Bool} {held : Bool}
theorem cells_P1 {fuel : Nat} {cs : List Value} {x : DataW H × List MemPlace} (h : DataW.trod enc Tryz.prog w base sp held fuel 27 cs = some x) : (∃ a b z, a < big ∧ b < big ∧ cs = Rg.cel [a, b] ++ [Value.bool z]) ∧ x.2 = [] := by
 obtain ⟨xs, n, -, hx, hl, hn, hel⟩ := DataW.trod_struct Tryz.underlying27 h
 have hl' : cs.length = 13 := hl.trans (by kernel_rfl)
 have hn' : xs.length = 3 := hn
 match xs, hn' with
 | [x0, x1, x2], _ =>
  have f0 : DataW.trod enc Tryz.prog w base sp held n 24 ((cs.drop 0).take 6) = some x0 := by
   have f : DataW.trod enc Tryz.prog w base sp held n 24 ((cs.drop 0).take (Tryz.prog.cellsOf 24)) = some x0 := hel 0 _ rfl
   rw [show Tryz.prog.cellsOf 24 = 6 by kernel_rfl] at f
   exact f
  have f1 : DataW.trod enc Tryz.prog w base sp held n 24 ((cs.drop 6).take 6) = some x1 := by
   have f : DataW.trod enc Tryz.prog w base sp held n 24 ((cs.drop 6).take (Tryz.prog.cellsOf 24)) = some x1 := hel 1 _ rfl
   rw [show Tryz.prog.cellsOf 24 = 6 by kernel_rfl] at f
   exact f
  have f2 : DataW.trod enc Tryz.prog w base sp held n 4 ((cs.drop 12).take 1) = some x2 := by
   have f : DataW.trod enc Tryz.prog w base sp held n 4 ((cs.drop 12).take (Tryz.prog.cellsOf 4)) = some x2 := hel 2 _ rfl
   rw [show Tryz.prog.cellsOf 4 = 1 by kernel_rfl] at f
   exact f
  obtain ⟨a, ha, e0, q0⟩ := cells_num f0
  obtain ⟨b, hb, e1, q1⟩ := cells_num f1
  obtain ⟨z, e2, q2⟩ := DataW.trod_bool Tryz.underlying4 f2
  refine ⟨⟨a, b, z, ha, hb, ?_⟩, ?_⟩
  ·have h1 := List.take_append_drop 6 cs
   have h2 := List.take_append_drop 6 (cs.drop 6)
   rw [List.drop_drop] at h2
   have h3 : (cs.drop 12).take 1 = cs.drop 12 := List.take_of_length_le (by rw [List.length_drop]; omega)
   rw [List.drop_zero] at e0
   rw [e0] at h1
   rw [e1, show 6 + 6 = 12 from rfl, ← h3, e2] at h2
   rw [← h2] at h1
   rw [← h1]
   rfl
  ·rw [hx]
   show x0.2 ++ (x1.2 ++ (x2.2 ++ [])) = []
   rw [q0, q1, q2]
   rfl
end
section
variable {H : Type} {enc : TypeId × Value → H} {w : World} {base : Nat} {sp : Nat → Bool} {held : Bool} {r : Reach} {b0 : Nat} {v : Value} {d : DataW H} {ps : List MemPlace}
theorem open_P1 (hval : Value.okWide Tryz.prog w r b0 27 v) (hd : DataW.Trod enc Tryz.prog w base sp held 27 v d ps) : ∃ a b z, a < big ∧ b < big ∧ v = .agg (Rg.cel [a, b] ++ [Value.bool z]).toArray ∧ ps = [] := by
 unfold Value.okWide at hval
 rw [Tryz.underlying27] at hval
 obtain ⟨cs, rfl, hsz, _⟩ := hval
 obtain ⟨fuel, hf⟩ := hd
 obtain ⟨⟨a, b, z, ha, hb, e⟩, hx⟩ := cells_P1 hf
 refine ⟨a, b, z, ha, hb, ?_, hx⟩
 have e2 : cs.toList = Rg.cel [a, b] ++ [Value.bool z] := e
 rw [← e2, Array.toArray_toList]
end
theorem p1_stays {H : Type} {enc : TypeId × Value → H} {W W' : World} {v : Value} {d : DataW H}
  (h : DataW.Trod enc Tryz.prog W 0 (fun _ => true) true 27 v d []) (hb : Below W.heap.size W W') :
  DataW.Trod enc Tryz.prog W' 0 (fun b => decide (b < W.heap.size)) true 27 v d [] :=
 Below.trod Tryz.laidOut (by kernel_rfl) (by decide +kernel) h hb (fun _ hx => by cases hx)
section
variable {H : Type} {enc : TypeId × Value → H} {w : World} {base : Nat} {sp : Nat → Bool} {held : Bool}
theorem cells_P2 {fuel : Nat} {cs : List Value} {x : DataW H × List MemPlace} (h : DataW.trod enc Tryz.prog w base sp held fuel 35 cs = some x) : (∃ a0 a1 b0 b1 z, a0 < big ∧ a1 < big ∧ b0 < big ∧ b1 < big ∧ cs = Rg.cel [a0, a1, b0, b1] ++ [Value.bool z]) ∧ x.2 = [] := by
 obtain ⟨xs, n, -, hx, hl, hn, hel⟩ := DataW.trod_struct Tryz.underlying35 h
 have hl' : cs.length = 25 := hl.trans (by kernel_rfl)
 have hn' : xs.length = 3 := hn
 match xs, hn' with
 | [x0, x1, x2], _ =>
  have f0 : DataW.trod enc Tryz.prog w base sp held n 33 ((cs.drop 0).take 12) = some x0 := by
   have f : DataW.trod enc Tryz.prog w base sp held n 33 ((cs.drop 0).take (Tryz.prog.cellsOf 33)) = some x0 := hel 0 _ rfl
   rw [show Tryz.prog.cellsOf 33 = 12 by kernel_rfl] at f
   exact f
  have f1 : DataW.trod enc Tryz.prog w base sp held n 33 ((cs.drop 12).take 12) = some x1 := by
   have f : DataW.trod enc Tryz.prog w base sp held n 33 ((cs.drop 12).take (Tryz.prog.cellsOf 33)) = some x1 := hel 1 _ rfl
   rw [show Tryz.prog.cellsOf 33 = 12 by kernel_rfl] at f
   exact f
  have f2 : DataW.trod enc Tryz.prog w base sp held n 4 ((cs.drop 24).take 1) = some x2 := by
   have f : DataW.trod enc Tryz.prog w base sp held n 4 ((cs.drop 24).take (Tryz.prog.cellsOf 4)) = some x2 := hel 2 _ rfl
   rw [show Tryz.prog.cellsOf 4 = 1 by kernel_rfl] at f
   exact f
  obtain ⟨⟨a0, a1, ha0, ha1, e0⟩, q0⟩ := cells_E2 f0
  obtain ⟨⟨b0, b1, hb0, hb1, e1⟩, q1⟩ := cells_E2 f1
  obtain ⟨z, e2, q2⟩ := DataW.trod_bool Tryz.underlying4 f2
  refine ⟨⟨a0, a1, b0, b1, z, ha0, ha1, hb0, hb1, ?_⟩, ?_⟩
  ·have h1 := List.take_append_drop 12 cs
   have h2 := List.take_append_drop 12 (cs.drop 12)
   rw [List.drop_drop] at h2
   have h3 : (cs.drop 24).take 1 = cs.drop 24 := List.take_of_length_le (by rw [List.length_drop]; omega)
   rw [List.drop_zero] at e0
   rw [e0] at h1
   rw [e1, show 12 + 12 = 24 from rfl, ← h3, e2] at h2
   rw [← h2] at h1
   rw [← h1]
   rfl
  ·rw [hx]
   show x0.2 ++ (x1.2 ++ (x2.2 ++ [])) = []
   rw [q0, q1, q2]
   rfl
end
section
variable {H : Type} {enc : TypeId × Value → H} {w : World} {base : Nat} {sp : Nat → Bool} {held : Bool} {r : Reach} {b0 : Nat} {v : Value} {d : DataW H} {ps : List MemPlace}
theorem open_P2 (hval : Value.okWide Tryz.prog w r b0 35 v) (hd : DataW.Trod enc Tryz.prog w base sp held 35 v d ps) : ∃ a0 a1 b0 b1 z, a0 < big ∧ a1 < big ∧ b0 < big ∧ b1 < big ∧ v = .agg (Rg.cel [a0, a1, b0, b1] ++ [Value.bool z]).toArray ∧ ps = [] := by
 unfold Value.okWide at hval
 rw [Tryz.underlying35] at hval
 obtain ⟨cs, rfl, hsz, _⟩ := hval
 obtain ⟨fuel, hf⟩ := hd
 obtain ⟨⟨a0, a1, b0, b1, z, ha0, ha1, hb0, hb1, e⟩, hx⟩ := cells_P2 hf
 refine ⟨a0, a1, b0, b1, z, ha0, ha1, hb0, hb1, ?_, hx⟩
 have e2 : cs.toList = Rg.cel [a0, a1, b0, b1] ++ [Value.bool z] := e
 rw [← e2, Array.toArray_toList]
end
theorem p2_stays {H : Type} {enc : TypeId × Value → H} {W W' : World} {v : Value} {d : DataW H}
  (h : DataW.Trod enc Tryz.prog W 0 (fun _ => true) true 35 v d []) (hb : Below W.heap.size W W') :
  DataW.Trod enc Tryz.prog W' 0 (fun b => decide (b < W.heap.size)) true 35 v d [] :=
 Below.trod Tryz.laidOut (by kernel_rfl) (by decide +kernel) h hb (fun _ hx => by cases hx)
end Go.Proofs.YtmanelnacifgcaaGreatDoor
end
section
namespace Go.Proofs.YtmanelnacifgcaaGreatDoor
open Go.ChangeShapes Go.WideShapes Go.ChangeAt Go.RowKit
namespace Rg
set_option maxRecDepth 100000
abbrev laidL : List (String × DataW Unit) := Rows.curveOrdersRow.laid
abbrev tabName : String := match laidL with
 | (n, _) :: _ => n
 | [] => Tryz.f3.name
theorem gTab : Tryz.prog.globalNamed tabName = some 2 := by kernel_rfl
theorem tTab : (Tryz.prog.globals[2]?).map (·.type) = some 192 := by kernel_rfl
theorem datTab : (Rows.laid_math_bits_deBruijn64tab : DataW Unit) = .agg (Lib.deBruijn64tab.map fun k => .lit (.int .u8 ((k : Nat) : Int))) := by kernel_rfl
theorem tab_of_laid {W : World} (h : laidMetH Tryz.prog laidL W) : Mm W [(2, dtab)] := by
 rw [MakeChecks.laidMetH_plain _ _ _ (by kernel_rfl)] at h
 obtain ⟨ps, ⟨g, t, cs, fuel, p, q, hg, ht, hv, hd, hq, hps⟩, hnd, hc⟩ := h
 obtain rfl := Option.some.inj (gTab.symm.trans hg)
 obtain rfl := Option.some.inj (tTab.symm.trans ht)
 obtain ⟨xs, m, -, hx, hlen, hn, hel⟩ := DataW.trod_array Tryz.underlying192 hd
 rw [datTab] at hx
 simp only [Prod.mk.injEq, DataW.agg.injEq] at hx
 have hc5 : Tryz.prog.cellsOf 5 = 1 := by kernel_rfl
 have hc81 : Tryz.prog.cellsOf 192 = 64 := by kernel_rfl
 rw [hc81] at hlen
 have hsz : cs.size = 64 := by simpa using hlen
 have hpl : ∀ i, i < 64 → MemPlace.cell 2 i ∈ ps := fun i hi => by
  rw [hps]
  refine List.mem_append_left _ (List.mem_append_left _ ?_)
  unfold MemPlace.row
  simp [hsz]
  omega
 obtain ⟨⟨c0, t0, hheap⟩, _⟩ := hc 2 0 (hpl 0 (by decide))
 have h0 : 2 < W.heap.size := by
  rcases Nat.lt_or_ge 2 W.heap.size with h' | h'
  ·exact h'
  ·rw [Array.getElem?_eq_none (by omega)] at hheap; cases hheap
 refine ⟨fun pq hpq => ?_, List.pairwise_singleton _ _⟩
 rw [List.mem_singleton.1 hpq]
 refine ⟨h0, fun j v hj => ?_⟩
 have hj64 : j < 64 := by
  have := (List.getElem?_eq_some_iff.1 hj).1
  exact this
 refine ⟨?_, ?_⟩
 ·rw [World.var?_cell hg hv j]
  have h1 := hel j hj64
  rw [hc5, Nat.mul_one] at h1
  have hlt : j < xs.length := by omega
  rw [List.getElem?_eq_getElem hlt] at h1
  obtain ⟨n, e1, e2, _⟩ := DataW.trod_int Tryz.underlying5 h1
  have e3 : cs[j]? = some (.int .u8 n) := by
   have e4 : ((cs.toList.drop j).take 1)[0]? = some (.int .u8 n) := by rw [e1]; rfl
   rw [List.getElem?_take, if_pos (by decide), List.getElem?_drop] at e4
   simpa using e4
  have e5 : (xs.map (·.1))[j]? = (Lib.deBruijn64tab.map fun k => DataW.lit (.int .u8 ((k : Nat) : Int)))[j]? := by rw [hx.1]
  rw [List.getElem?_map, List.getElem?_eq_getElem hlt, e2, List.getElem?_map] at e5
  unfold dtab at hj
  rw [List.getElem?_map] at hj
  cases hk : Lib.deBruijn64tab[j]? with
  | none => rw [hk] at hj; cases hj
  | some k =>
   rw [hk] at hj e5
   simp only [Option.map_some, Option.some.injEq, DataW.lit.injEq] at hj e5
   rw [e3, ← hj]
   simp only [Option.some.injEq]
   injection e5 with _ e6
   rw [e6]
 ·unfold World.frozen?
  rw [hheap]
  simp
theorem door_met (os : Os) (args : Array Value) : laidMetH Tryz.prog laidL ((World.doorLaid Tryz.prog 400 os).forCall (fun _ _ => 0) ⟨#[], args, []⟩).memory :=
 laidMetH_of_parts3 (fuel := 8) (laidMet_of_run' 8 (by kernel_rfl) (by kernel_rfl)) (by kernel_rfl) (by kernel_rfl)
end Rg
end Go.Proofs.YtmanelnacifgcaaGreatDoor
end
