/- Texts of the proof, joined. -/
import Derived.Test.YtkkippfikfjdpaaP2
section
namespace Go.Proofs.Ytkkippfikfjdpaa
open Go.RowKit
namespace Rg
set_option maxRecDepth 100000
/-- A number of 32 bits, turned left. -/
def lrt (x n : Nat) : Nat := ou (sl x n) (sr x (32 - n))
/-- Four bytes, the lowest first. -/
def fo (P : Nat → Nat) (at' : Nat) : Nat := ou (ou (ou (c32 (P at')) (sl (c32 (P (at' + 1))) 8)) (sl (c32 (P (at' + 2))) 16)) (sl (c32 (P (at' + 3))) 24)
def qa (x : Nat → Nat) (a b : Nat) : Nat → Nat := up x a (ad (x a) (x b))
def qx (x : Nat → Nat) (d a k : Nat) : Nat → Nat := up x d (lrt (xo (x d) (x a)) k)
/-- A quarter round. -/
def qr (x : Nat → Nat) (a b c d : Nat) : Nat → Nat := qx (qa (qx (qa (qx (qa (qx (qa x a b) d a 16) c d) b c 12) a b) d a 8) c d) b c 7
set_option maxRecDepth 100000 in
theorem left_any (x n : Nat) (hn : n < 32) (w : World) :
    Calls Try.prog 58 #[W32 x, .int .i64 ((n : Nat) : Int)] w fun e w' => e = .returned (W32 (lrt x n)) ∧ Below w.heap.size w w' := by
  have H0 : Hid (_ ∧ _) := ⟨Mm.nil w, Below.refl w.heap.size w⟩
  go_enter Try.func58, Try.ntmps58
  refine wp_seq ?_
  refine walk_seqB 1 [.quiet (.int .u32 0)] H0 ?ho1 ?he1
  case ho1 => exact ak (fun _ => ⟨rfl, fun _ _ => rfl⟩) trivial
  intro _ w1 H1
  refine rest0 rfl (then_normal (wp_seq ?_))
  refine walk_anyB 9 [.quiet (W32 x), .quiet (.int .i64 ((n : Nat) : Int)), .quiet (W32 (sl x n)), .quiet (W32 x), .quiet (.int .i64 ((n : Nat) : Int)), .quiet (.int .i64 ((32 - n : Nat) : Int)), .quiet (W32 (sr x (32 - n))), .quiet (W32 (ou (sl x n) (sr x (32 - n)))), .quiet (W32 (ou (sl x n) (sr x (32 - n))))] H1 ?ho2 ?he2
  case ho2 => exact ak (fun _ => ⟨rfl, fun _ _ => rfl⟩) (ak (fun _ => ⟨rfl, fun _ _ => rfl⟩) (ak (fun γ => ⟨rfl, fun w' _ => ex_shl32 (k := n) (by omega) rfl rfl rfl⟩) (ak (fun _ => ⟨rfl, fun _ _ => rfl⟩) (ak (fun _ => ⟨rfl, fun _ _ => rfl⟩) (ak (by refine fun γ => ⟨rfl, fun w' h => ?_⟩; clear h; go_simp; rw [IntKind.wrap_i64]; omega) (ak (fun γ => ⟨rfl, fun w' _ => ex_shr32 (k := 32 - n) (by omega) rfl rfl rfl⟩) (ak (fun γ => ⟨rfl, fun w' _ => ex_or32 rfl rfl rfl⟩) (ak (fun _ => ⟨rfl, fun _ _ => rfl⟩) trivial))))))))
  intro _ w2 H2
  clear H1
  refine rest0 rfl (then_normal (wp_ret ?_))
  repeat (first | refine then_ret ?_ | refine block_ret ?_)
  refine bodyPost_ret (v := W32 (ou (sl x n) (sr x (32 - n)))) (by simp [results, Try.results58, go_sem, *]) rfl ?_
  exact ⟨rfl, H2.out.2⟩
set_option maxRecDepth 100000 in
theorem four_any (P : Nat → Nat) (g o n cp i : Nat) (hi : i + 4 ≤ n) (hn : n < 4611686018427387904) (w : World) (hR : Rs g o n P w) :
    Calls Try.prog 47 #[.slice (some ⟨g, o, none⟩) n cp, .int .i64 ((i : Nat) : Int)] w fun e w' => e = .returned (W32 (fo P i)) ∧ Below w.heap.size w w' := by
  have H0 : Hid (_ ∧ _) := ⟨Mm.nil w, Below.refl w.heap.size w⟩
  have R0 : Hid (Rs g o n P w) := hR
  clear hR
  go_enter Try.func47, Try.ntmps47
  refine wp_seq ?_
  refine walk_seqB 1 [.quiet (.int .u32 0)] H0 ?ho1 ?he1
  case ho1 => exact ak (fun _ => ⟨rfl, fun _ _ => rfl⟩) trivial
  intro _ w1 H1
  refine rest0 rfl (then_normal (wp_seq ?_))
  refine (walk_any) (by kernel_rfl) 30 [.quiet (.slice (some ⟨g, o, none⟩) n cp), .quiet (.int .i64 ((i : Nat) : Int)), .quiet (PT g (o + i)), .quiet (Z8 (P i)), .quiet (W32 (c32 (P i))), .quiet (.slice (some ⟨g, o, none⟩) n cp), .quiet (.int .i64 ((i : Nat) : Int)), .quiet (.int .i64 ((i + 1 : Nat) : Int)), .quiet (PT g (o + (i + 1))), .quiet (Z8 (P (i + 1))), .quiet (W32 (c32 (P (i + 1)))), .quiet (W32 (sl (c32 (P (i + 1))) 8)), .quiet (W32 (ou (c32 (P i)) (sl (c32 (P (i + 1))) 8))), .quiet (.slice (some ⟨g, o, none⟩) n cp), .quiet (.int .i64 ((i : Nat) : Int)), .quiet (.int .i64 ((i + 2 : Nat) : Int)), .quiet (PT g (o + (i + 2))), .quiet (Z8 (P (i + 2))), .quiet (W32 (c32 (P (i + 2)))), .quiet (W32 (sl (c32 (P (i + 2))) 16)), .quiet (W32 (ou (ou (c32 (P i)) (sl (c32 (P (i + 1))) 8)) (sl (c32 (P (i + 2))) 16))), .quiet (.slice (some ⟨g, o, none⟩) n cp), .quiet (.int .i64 ((i : Nat) : Int)), .quiet (.int .i64 ((i + 3 : Nat) : Int)), .quiet (PT g (o + (i + 3))), .quiet (Z8 (P (i + 3))), .quiet (W32 (c32 (P (i + 3)))), .quiet (W32 (sl (c32 (P (i + 3))) 24)), .quiet (W32 (ou (ou (ou (c32 (P i)) (sl (c32 (P (i + 1))) 8)) (sl (c32 (P (i + 2))) 16)) (sl (c32 (P (i + 3))) 24))), .quiet (W32 (ou (ou (ou (c32 (P i)) (sl (c32 (P (i + 1))) 8)) (sl (c32 (P (i + 2))) 16)) (sl (c32 (P (i + 3))) 24)))] (fun u' => Mm u' [] ∧ Rs g o n P u') ?pre2 ?F2 ?hpre2 (fun γ => ?hF2) (by kernel_rfl) ?hL2 ?hS2 ?ho2 ?he2
  case hpre2 => simp only [tk, tz]; rfl
  case hF2 => simp only [fill, Kind.val, Act.put, sa, sz, ss]; rfl
  case hL2 => exact trivial
  case hS2 => exact fun w' hb => ⟨H1.out.1.below hb, R0.out.below (H1.out.2.trans (hb.mono H1.out.2.size))⟩
  case ho2 =>
    refine ak (fun _ => ⟨rfl, fun _ _ => rfl⟩) ?_
    refine ak (fun _ => ⟨rfl, fun _ _ => rfl⟩) ?_
    refine ak (fun γ => ⟨rfl, fun w' _ => ex_ixS22 (m := n) (j := i) rfl rfl rfl (by omega)⟩) ?_
    refine ak (fun γ => ⟨rfl, fun w' hX => ex_ldR (k := i) hX.2 (by omega) rfl rfl⟩) ?_
    refine ak (fun γ => ⟨rfl, fun w' _ => ex_cv5_51 rfl rfl⟩) ?_
    refine ak (fun _ => ⟨rfl, fun _ _ => rfl⟩) ?_
    refine ak (fun _ => ⟨rfl, fun _ _ => rfl⟩) ?_
    refine ak (by refine fun γ => ⟨rfl, fun w' h => ?_⟩; clear h; go_simp; rw [IntKind.wrap_i64]; omega) ?_
    refine ak (fun γ => ⟨rfl, fun w' _ => ex_ixS22 (m := n) (j := i + 1) rfl rfl rfl (by omega)⟩) ?_
    refine ak (fun γ => ⟨rfl, fun w' hX => ex_ldR (k := i + 1) hX.2 (by omega) rfl rfl⟩) ?_
    refine ak (fun γ => ⟨rfl, fun w' _ => ex_cv5_51 rfl rfl⟩) ?_
    refine ak (fun γ => ⟨rfl, fun w' _ => ex_shl32 (k := 8) (by decide) rfl rfl rfl⟩) ?_
    refine ak (fun γ => ⟨rfl, fun w' _ => ex_or32 rfl rfl rfl⟩) ?_
    refine ak (fun _ => ⟨rfl, fun _ _ => rfl⟩) ?_
    refine ak (fun _ => ⟨rfl, fun _ _ => rfl⟩) ?_
    refine ak (by refine fun γ => ⟨rfl, fun w' h => ?_⟩; clear h; go_simp; rw [IntKind.wrap_i64]; omega) ?_
    refine ak (fun γ => ⟨rfl, fun w' _ => ex_ixS22 (m := n) (j := i + 2) rfl rfl rfl (by omega)⟩) ?_
    refine ak (fun γ => ⟨rfl, fun w' hX => ex_ldR (k := i + 2) hX.2 (by omega) rfl rfl⟩) ?_
    refine ak (fun γ => ⟨rfl, fun w' _ => ex_cv5_51 rfl rfl⟩) ?_
    refine ak (fun γ => ⟨rfl, fun w' _ => ex_shl32 (k := 16) (by decide) rfl rfl rfl⟩) ?_
    refine ak (fun γ => ⟨rfl, fun w' _ => ex_or32 rfl rfl rfl⟩) ?_
    refine ak (fun _ => ⟨rfl, fun _ _ => rfl⟩) ?_
    refine ak (fun _ => ⟨rfl, fun _ _ => rfl⟩) ?_
    refine ak (by refine fun γ => ⟨rfl, fun w' h => ?_⟩; clear h; go_simp; rw [IntKind.wrap_i64]; omega) ?_
    refine ak (fun γ => ⟨rfl, fun w' _ => ex_ixS22 (m := n) (j := i + 3) rfl rfl rfl (by omega)⟩) ?_
    refine ak (fun γ => ⟨rfl, fun w' hX => ex_ldR (k := i + 3) hX.2 (by omega) rfl rfl⟩) ?_
    refine ak (fun γ => ⟨rfl, fun w' _ => ex_cv5_51 rfl rfl⟩) ?_
    refine ak (fun γ => ⟨rfl, fun w' _ => ex_shl32 (k := 24) (by decide) rfl rfl rfl⟩) ?_
    refine ak (fun γ => ⟨rfl, fun w' _ => ex_or32 rfl rfl rfl⟩) ?_
    refine ak (fun _ => ⟨rfl, fun _ _ => rfl⟩) ?_
    exact trivial
  intro γ w2 l hM hl
  have H2 := keepB H1 hM.below
  clear hM hl l H1 γ
  refine rest0 rfl (then_normal (wp_ret ?_))
  repeat (first | refine then_ret ?_ | refine block_ret ?_)
  refine bodyPost_ret (v := W32 (ou (ou (ou (c32 (P i)) (sl (c32 (P (i + 1))) 8)) (sl (c32 (P (i + 2))) 16)) (sl (c32 (P (i + 3))) 24))) (by simp [results, Try.results47, go_sem, *]) rfl ?_
  exact ⟨rfl, H2.out.2⟩
theorem call58 : ∀ args w, (callFunc 58 args).run Try.prog w = .ok (.enter 58 args) w := by intro args w; go_simp
set_option maxHeartbeats 1000000 in
set_option maxRecDepth 100000 in
theorem quarter_any (x : Nat → Nat) (a b c d : Nat) (ha : a < 16) (hb : b < 16) (hc : c < 16) (hd : d < 16) (w : World) :
    Calls Try.prog 48 #[.agg (ints .u32 x 16).toArray, .int .i64 ((a : Nat) : Int), .int .i64 ((b : Nat) : Int), .int .i64 ((c : Nat) : Int), .int .i64 ((d : Nat) : Int)] w fun e w' => e = .returned (.agg (ints .u32 (qr x a b c d) 16).toArray) ∧ Below w.heap.size w w' := by
  have H0 : Hid (_ ∧ _) := ⟨Mm.nil w, Below.refl w.heap.size w⟩
  go_enter Try.func48, Try.ntmps48
  refine wp_seq ?_
  refine walk_seqA 2 [.made (ints .u32 x 16) 49, .made (ints .u32 (fun _ => 0) 16) 49] (sB H0) ?ho1 ?he1
  case ho1 => exact ak (fun γ => ⟨rfl, fun w' => ex_boxT rfl rfl⟩) (ak (fun γ => ⟨rfl, fun w' => ex_mk49 rfl⟩) trivial)
  intro γ w1 l hM hl
  have H1 : Hid (Mm w1 [(γ 0, ints .u32 x 16), (γ 1, ints .u32 (fun _ => 0) 16)] ∧ _) := growB H0 hM (Nat.le_refl _) hl [0, 1] rfl (by decide)
  have o1_0 := ownB H0 hM (Nat.le_refl _) hl (i := 0) rfl
  have o1_1 := ownB H0 hM (Nat.le_refl _) hl (i := 1) rfl
  clear hM hl l
  generalize γ 0 = γ1_0 at H1 o1_0 ⊢
  generalize γ 1 = γ1_1 at H1 o1_1 ⊢
  clear γ
  refine rest0 rfl (then_normal (wp_seq ?_))
  refine walk_anyB 9 [.quiet (.int .i64 ((a : Nat) : Int)), .quiet (.int .i64 ((a : Nat) : Int)), .quiet (PT γ1_0 a), .quiet (W32 (x a)), .quiet (.int .i64 ((b : Nat) : Int)), .quiet (PT γ1_0 b), .quiet (W32 (x b)), .quiet (W32 (ad (x a) (x b))), .quiet (PT γ1_0 a)] H1 ?ho2 ?he2
  case ho2 => exact ak (fun _ => ⟨rfl, fun _ _ => rfl⟩) (ak (fun _ => ⟨rfl, fun _ _ => rfl⟩) (ak (fun γ => ⟨rfl, fun w' _ => ex_ix0_49 (j := a) rfl rfl rfl (by omega)⟩) (ak (fun γ => ⟨rfl, fun w' h => ex_loadC h 0 rfl rfl rfl Try.isAgg23 (ints_get _ _ (by omega))⟩) (ak (fun _ => ⟨rfl, fun _ _ => rfl⟩) (ak (fun γ => ⟨rfl, fun w' _ => ex_ix0_49 (j := b) rfl rfl rfl (by omega)⟩) (ak (fun γ => ⟨rfl, fun w' h => ex_loadC h 0 rfl rfl rfl Try.isAgg23 (ints_get _ _ (by omega))⟩) (ak (fun γ => ⟨rfl, fun w' _ => ex_add32 rfl rfl rfl⟩) (ak (fun γ => ⟨rfl, fun w' _ => ex_ix0_49 (j := a) rfl rfl rfl (by omega)⟩) trivial))))))))
  intro _ w2 H2
  clear H1
  refine rest_at (l := [9]) rfl ?_
  refine rest_store rfl rfl rfl (ex_storeI H2.out.1 0 rfl rfl Try.sizeOf23 rfl rfl (by rw [ints_len]; omega)) ?_
  have H3 : Hid (Mm (w2.setCells γ1_0 a ([W32 (ad (x a) (x b))])) [(γ1_0, ints .u32 (qa x a b) 16), (γ1_1, ints .u32 (fun _ => 0) 16)] ∧ Below w.heap.size w (w2.setCells γ1_0 a ([W32 (ad (x a) (x b))]))) := ⟨by
    have h := H2.out.1.put 0 (off := a) (vs := [W32 (ad (x a) (x b))]) rfl (by rw [ints_len]; simp only [List.length_cons, List.length_nil]; omega)
    rw [ints_patch _ _ _ _ (by omega), show ints .u32 (up x a (ad (x a) (x b))) 16 = ints .u32 (qa x a b) 16 by rw [show (up x a (ad (x a) (x b))) = qa x a b from rfl]] at h
    exact h, below_setCells _ o1_0.out _ _ _ H2.out.2⟩
  clear H2
  generalize hgw : World.setCells _ _ _ _ = w3 at H3 ⊢
  clear hgw
  refine rest_nil (then_normal (wp_seq ?_))
  refine walk_anyB 10 [.quiet (.int .i64 ((d : Nat) : Int)), .quiet (.int .i64 ((d : Nat) : Int)), .quiet (PT γ1_0 d), .quiet (W32 ((qa x a b) d)), .quiet (.int .i64 ((a : Nat) : Int)), .quiet (PT γ1_0 a), .quiet (W32 ((qa x a b) a)), .quiet (W32 (xo ((qa x a b) d) ((qa x a b) a))), .call (W32 (lrt (xo ((qa x a b) d) ((qa x a b) a)) 16)), .quiet (PT γ1_0 d)] H3 ?ho3 ?he3
  case ho3 => exact ak (fun _ => ⟨rfl, fun _ _ => rfl⟩) (ak (fun _ => ⟨rfl, fun _ _ => rfl⟩) (ak (fun γ => ⟨rfl, fun w' _ => ex_ix0_49 (j := d) rfl rfl rfl (by omega)⟩) (ak (fun γ => ⟨rfl, fun w' h => ex_loadC h 0 rfl rfl rfl Try.isAgg23 (ints_get _ _ (by omega))⟩) (ak (fun _ => ⟨rfl, fun _ _ => rfl⟩) (ak (fun γ => ⟨rfl, fun w' _ => ex_ix0_49 (j := a) rfl rfl rfl (by omega)⟩) (ak (fun γ => ⟨rfl, fun w' h => ex_loadC h 0 rfl rfl rfl Try.isAgg23 (ints_get _ _ (by omega))⟩) (ak (fun γ => ⟨rfl, fun w' _ => ex_xor32 rfl rfl rfl⟩) (ak (fun γ => ⟨rfl, fun w' h => ⟨58, #[W32 (xo ((qa x a b) d) ((qa x a b) a)), .int .i64 16], exec_call rfl call58 rfl (mpn rfl), left_any (xo ((qa x a b) d) ((qa x a b) a)) 16 (by decide) w'⟩⟩) (ak (fun γ => ⟨rfl, fun w' _ => ex_ix0_49 (j := d) rfl rfl rfl (by omega)⟩) trivial)))))))))
  intro _ w4 H4
  clear H3
  refine rest_at (l := [10]) rfl ?_
  refine rest_store rfl rfl rfl (ex_storeI H4.out.1 0 rfl rfl Try.sizeOf23 rfl rfl (by rw [ints_len]; omega)) ?_
  have H5 : Hid (Mm (w4.setCells γ1_0 d ([W32 (lrt (xo ((qa x a b) d) ((qa x a b) a)) 16)])) [(γ1_0, ints .u32 (qx (qa x a b) d a 16) 16), (γ1_1, ints .u32 (fun _ => 0) 16)] ∧ Below w.heap.size w (w4.setCells γ1_0 d ([W32 (lrt (xo ((qa x a b) d) ((qa x a b) a)) 16)]))) := ⟨by
    have h := H4.out.1.put 0 (off := d) (vs := [W32 (lrt (xo ((qa x a b) d) ((qa x a b) a)) 16)]) rfl (by rw [ints_len]; simp only [List.length_cons, List.length_nil]; omega)
    rw [ints_patch _ _ _ _ (by omega), show ints .u32 (up (qa x a b) d (lrt (xo ((qa x a b) d) ((qa x a b) a)) 16)) 16 = ints .u32 (qx (qa x a b) d a 16) 16 by rw [show (up (qa x a b) d (lrt (xo ((qa x a b) d) ((qa x a b) a)) 16)) = qx (qa x a b) d a 16 from rfl]] at h
    exact h, below_setCells _ o1_0.out _ _ _ H4.out.2⟩
  clear H4
  generalize hgw : World.setCells _ _ _ _ = w5 at H5 ⊢
  clear hgw
  refine rest_nil (then_normal (wp_seq ?_))
  refine walk_anyB 9 [.quiet (.int .i64 ((c : Nat) : Int)), .quiet (.int .i64 ((c : Nat) : Int)), .quiet (PT γ1_0 c), .quiet (W32 ((qx (qa x a b) d a 16) c)), .quiet (.int .i64 ((d : Nat) : Int)), .quiet (PT γ1_0 d), .quiet (W32 ((qx (qa x a b) d a 16) d)), .quiet (W32 (ad ((qx (qa x a b) d a 16) c) ((qx (qa x a b) d a 16) d))), .quiet (PT γ1_0 c)] H5 ?ho4 ?he4
  case ho4 => exact ak (fun _ => ⟨rfl, fun _ _ => rfl⟩) (ak (fun _ => ⟨rfl, fun _ _ => rfl⟩) (ak (fun γ => ⟨rfl, fun w' _ => ex_ix0_49 (j := c) rfl rfl rfl (by omega)⟩) (ak (fun γ => ⟨rfl, fun w' h => ex_loadC h 0 rfl rfl rfl Try.isAgg23 (ints_get _ _ (by omega))⟩) (ak (fun _ => ⟨rfl, fun _ _ => rfl⟩) (ak (fun γ => ⟨rfl, fun w' _ => ex_ix0_49 (j := d) rfl rfl rfl (by omega)⟩) (ak (fun γ => ⟨rfl, fun w' h => ex_loadC h 0 rfl rfl rfl Try.isAgg23 (ints_get _ _ (by omega))⟩) (ak (fun γ => ⟨rfl, fun w' _ => ex_add32 rfl rfl rfl⟩) (ak (fun γ => ⟨rfl, fun w' _ => ex_ix0_49 (j := c) rfl rfl rfl (by omega)⟩) trivial))))))))
  intro _ w6 H6
  clear H5
  refine rest_at (l := [9]) rfl ?_
  refine rest_store rfl rfl rfl (ex_storeI H6.out.1 0 rfl rfl Try.sizeOf23 rfl rfl (by rw [ints_len]; omega)) ?_
  have H7 : Hid (Mm (w6.setCells γ1_0 c ([W32 (ad ((qx (qa x a b) d a 16) c) ((qx (qa x a b) d a 16) d))])) [(γ1_0, ints .u32 (qa (qx (qa x a b) d a 16) c d) 16), (γ1_1, ints .u32 (fun _ => 0) 16)] ∧ Below w.heap.size w (w6.setCells γ1_0 c ([W32 (ad ((qx (qa x a b) d a 16) c) ((qx (qa x a b) d a 16) d))]))) := ⟨by
    have h := H6.out.1.put 0 (off := c) (vs := [W32 (ad ((qx (qa x a b) d a 16) c) ((qx (qa x a b) d a 16) d))]) rfl (by rw [ints_len]; simp only [List.length_cons, List.length_nil]; omega)
    rw [ints_patch _ _ _ _ (by omega), show ints .u32 (up (qx (qa x a b) d a 16) c (ad ((qx (qa x a b) d a 16) c) ((qx (qa x a b) d a 16) d))) 16 = ints .u32 (qa (qx (qa x a b) d a 16) c d) 16 by rw [show (up (qx (qa x a b) d a 16) c (ad ((qx (qa x a b) d a 16) c) ((qx (qa x a b) d a 16) d))) = qa (qx (qa x a b) d a 16) c d from rfl]] at h
    exact h, below_setCells _ o1_0.out _ _ _ H6.out.2⟩
  clear H6
  generalize hgw : World.setCells _ _ _ _ = w7 at H7 ⊢
  clear hgw
  refine rest_nil (then_normal (wp_seq ?_))
  refine walk_anyB 10 [.quiet (.int .i64 ((b : Nat) : Int)), .quiet (.int .i64 ((b : Nat) : Int)), .quiet (PT γ1_0 b), .quiet (W32 ((qa (qx (qa x a b) d a 16) c d) b)), .quiet (.int .i64 ((c : Nat) : Int)), .quiet (PT γ1_0 c), .quiet (W32 ((qa (qx (qa x a b) d a 16) c d) c)), .quiet (W32 (xo ((qa (qx (qa x a b) d a 16) c d) b) ((qa (qx (qa x a b) d a 16) c d) c))), .call (W32 (lrt (xo ((qa (qx (qa x a b) d a 16) c d) b) ((qa (qx (qa x a b) d a 16) c d) c)) 12)), .quiet (PT γ1_0 b)] H7 ?ho5 ?he5
  case ho5 => exact ak (fun _ => ⟨rfl, fun _ _ => rfl⟩) (ak (fun _ => ⟨rfl, fun _ _ => rfl⟩) (ak (fun γ => ⟨rfl, fun w' _ => ex_ix0_49 (j := b) rfl rfl rfl (by omega)⟩) (ak (fun γ => ⟨rfl, fun w' h => ex_loadC h 0 rfl rfl rfl Try.isAgg23 (ints_get _ _ (by omega))⟩) (ak (fun _ => ⟨rfl, fun _ _ => rfl⟩) (ak (fun γ => ⟨rfl, fun w' _ => ex_ix0_49 (j := c) rfl rfl rfl (by omega)⟩) (ak (fun γ => ⟨rfl, fun w' h => ex_loadC h 0 rfl rfl rfl Try.isAgg23 (ints_get _ _ (by omega))⟩) (ak (fun γ => ⟨rfl, fun w' _ => ex_xor32 rfl rfl rfl⟩) (ak (fun γ => ⟨rfl, fun w' h => ⟨58, #[W32 (xo ((qa (qx (qa x a b) d a 16) c d) b) ((qa (qx (qa x a b) d a 16) c d) c)), .int .i64 12], exec_call rfl call58 rfl (mpn rfl), left_any (xo ((qa (qx (qa x a b) d a 16) c d) b) ((qa (qx (qa x a b) d a 16) c d) c)) 12 (by decide) w'⟩⟩) (ak (fun γ => ⟨rfl, fun w' _ => ex_ix0_49 (j := b) rfl rfl rfl (by omega)⟩) trivial)))))))))
  intro _ w8 H8
  clear H7
  refine rest_at (l := [10]) rfl ?_
  refine rest_store rfl rfl rfl (ex_storeI H8.out.1 0 rfl rfl Try.sizeOf23 rfl rfl (by rw [ints_len]; omega)) ?_
  have H9 : Hid (Mm (w8.setCells γ1_0 b ([W32 (lrt (xo ((qa (qx (qa x a b) d a 16) c d) b) ((qa (qx (qa x a b) d a 16) c d) c)) 12)])) [(γ1_0, ints .u32 (qx (qa (qx (qa x a b) d a 16) c d) b c 12) 16), (γ1_1, ints .u32 (fun _ => 0) 16)] ∧ Below w.heap.size w (w8.setCells γ1_0 b ([W32 (lrt (xo ((qa (qx (qa x a b) d a 16) c d) b) ((qa (qx (qa x a b) d a 16) c d) c)) 12)]))) := ⟨by
    have h := H8.out.1.put 0 (off := b) (vs := [W32 (lrt (xo ((qa (qx (qa x a b) d a 16) c d) b) ((qa (qx (qa x a b) d a 16) c d) c)) 12)]) rfl (by rw [ints_len]; simp only [List.length_cons, List.length_nil]; omega)
    rw [ints_patch _ _ _ _ (by omega), show ints .u32 (up (qa (qx (qa x a b) d a 16) c d) b (lrt (xo ((qa (qx (qa x a b) d a 16) c d) b) ((qa (qx (qa x a b) d a 16) c d) c)) 12)) 16 = ints .u32 (qx (qa (qx (qa x a b) d a 16) c d) b c 12) 16 by rw [show (up (qa (qx (qa x a b) d a 16) c d) b (lrt (xo ((qa (qx (qa x a b) d a 16) c d) b) ((qa (qx (qa x a b) d a 16) c d) c)) 12)) = qx (qa (qx (qa x a b) d a 16) c d) b c 12 from rfl]] at h
    exact h, below_setCells _ o1_0.out _ _ _ H8.out.2⟩
  clear H8
  generalize hgw : World.setCells _ _ _ _ = w9 at H9 ⊢
  clear hgw
  refine rest_nil (then_normal (wp_seq ?_))
  refine walk_anyB 9 [.quiet (.int .i64 ((a : Nat) : Int)), .quiet (.int .i64 ((a : Nat) : Int)), .quiet (PT γ1_0 a), .quiet (W32 ((qx (qa (qx (qa x a b) d a 16) c d) b c 12) a)), .quiet (.int .i64 ((b : Nat) : Int)), .quiet (PT γ1_0 b), .quiet (W32 ((qx (qa (qx (qa x a b) d a 16) c d) b c 12) b)), .quiet (W32 (ad ((qx (qa (qx (qa x a b) d a 16) c d) b c 12) a) ((qx (qa (qx (qa x a b) d a 16) c d) b c 12) b))), .quiet (PT γ1_0 a)] H9 ?ho6 ?he6
  case ho6 => exact ak (fun _ => ⟨rfl, fun _ _ => rfl⟩) (ak (fun _ => ⟨rfl, fun _ _ => rfl⟩) (ak (fun γ => ⟨rfl, fun w' _ => ex_ix0_49 (j := a) rfl rfl rfl (by omega)⟩) (ak (fun γ => ⟨rfl, fun w' h => ex_loadC h 0 rfl rfl rfl Try.isAgg23 (ints_get _ _ (by omega))⟩) (ak (fun _ => ⟨rfl, fun _ _ => rfl⟩) (ak (fun γ => ⟨rfl, fun w' _ => ex_ix0_49 (j := b) rfl rfl rfl (by omega)⟩) (ak (fun γ => ⟨rfl, fun w' h => ex_loadC h 0 rfl rfl rfl Try.isAgg23 (ints_get _ _ (by omega))⟩) (ak (fun γ => ⟨rfl, fun w' _ => ex_add32 rfl rfl rfl⟩) (ak (fun γ => ⟨rfl, fun w' _ => ex_ix0_49 (j := a) rfl rfl rfl (by omega)⟩) trivial))))))))
  intro _ w10 H10
  clear H9
  refine rest_at (l := [9]) rfl ?_
  refine rest_store rfl rfl rfl (ex_storeI H10.out.1 0 rfl rfl Try.sizeOf23 rfl rfl (by rw [ints_len]; omega)) ?_
  have H11 : Hid (Mm (w10.setCells γ1_0 a ([W32 (ad ((qx (qa (qx (qa x a b) d a 16) c d) b c 12) a) ((qx (qa (qx (qa x a b) d a 16) c d) b c 12) b))])) [(γ1_0, ints .u32 (qa (qx (qa (qx (qa x a b) d a 16) c d) b c 12) a b) 16), (γ1_1, ints .u32 (fun _ => 0) 16)] ∧ Below w.heap.size w (w10.setCells γ1_0 a ([W32 (ad ((qx (qa (qx (qa x a b) d a 16) c d) b c 12) a) ((qx (qa (qx (qa x a b) d a 16) c d) b c 12) b))]))) := ⟨by
    have h := H10.out.1.put 0 (off := a) (vs := [W32 (ad ((qx (qa (qx (qa x a b) d a 16) c d) b c 12) a) ((qx (qa (qx (qa x a b) d a 16) c d) b c 12) b))]) rfl (by rw [ints_len]; simp only [List.length_cons, List.length_nil]; omega)
    rw [ints_patch _ _ _ _ (by omega), show ints .u32 (up (qx (qa (qx (qa x a b) d a 16) c d) b c 12) a (ad ((qx (qa (qx (qa x a b) d a 16) c d) b c 12) a) ((qx (qa (qx (qa x a b) d a 16) c d) b c 12) b))) 16 = ints .u32 (qa (qx (qa (qx (qa x a b) d a 16) c d) b c 12) a b) 16 by rw [show (up (qx (qa (qx (qa x a b) d a 16) c d) b c 12) a (ad ((qx (qa (qx (qa x a b) d a 16) c d) b c 12) a) ((qx (qa (qx (qa x a b) d a 16) c d) b c 12) b))) = qa (qx (qa (qx (qa x a b) d a 16) c d) b c 12) a b from rfl]] at h
    exact h, below_setCells _ o1_0.out _ _ _ H10.out.2⟩
  clear H10
  generalize hgw : World.setCells _ _ _ _ = w11 at H11 ⊢
  clear hgw
  refine rest_nil (then_normal (wp_seq ?_))
  refine walk_anyB 10 [.quiet (.int .i64 ((d : Nat) : Int)), .quiet (.int .i64 ((d : Nat) : Int)), .quiet (PT γ1_0 d), .quiet (W32 ((qa (qx (qa (qx (qa x a b) d a 16) c d) b c 12) a b) d)), .quiet (.int .i64 ((a : Nat) : Int)), .quiet (PT γ1_0 a), .quiet (W32 ((qa (qx (qa (qx (qa x a b) d a 16) c d) b c 12) a b) a)), .quiet (W32 (xo ((qa (qx (qa (qx (qa x a b) d a 16) c d) b c 12) a b) d) ((qa (qx (qa (qx (qa x a b) d a 16) c d) b c 12) a b) a))), .call (W32 (lrt (xo ((qa (qx (qa (qx (qa x a b) d a 16) c d) b c 12) a b) d) ((qa (qx (qa (qx (qa x a b) d a 16) c d) b c 12) a b) a)) 8)), .quiet (PT γ1_0 d)] H11 ?ho7 ?he7
  case ho7 => exact ak (fun _ => ⟨rfl, fun _ _ => rfl⟩) (ak (fun _ => ⟨rfl, fun _ _ => rfl⟩) (ak (fun γ => ⟨rfl, fun w' _ => ex_ix0_49 (j := d) rfl rfl rfl (by omega)⟩) (ak (fun γ => ⟨rfl, fun w' h => ex_loadC h 0 rfl rfl rfl Try.isAgg23 (ints_get _ _ (by omega))⟩) (ak (fun _ => ⟨rfl, fun _ _ => rfl⟩) (ak (fun γ => ⟨rfl, fun w' _ => ex_ix0_49 (j := a) rfl rfl rfl (by omega)⟩) (ak (fun γ => ⟨rfl, fun w' h => ex_loadC h 0 rfl rfl rfl Try.isAgg23 (ints_get _ _ (by omega))⟩) (ak (fun γ => ⟨rfl, fun w' _ => ex_xor32 rfl rfl rfl⟩) (ak (fun γ => ⟨rfl, fun w' h => ⟨58, #[W32 (xo ((qa (qx (qa (qx (qa x a b) d a 16) c d) b c 12) a b) d) ((qa (qx (qa (qx (qa x a b) d a 16) c d) b c 12) a b) a)), .int .i64 8], exec_call rfl call58 rfl (mpn rfl), left_any (xo ((qa (qx (qa (qx (qa x a b) d a 16) c d) b c 12) a b) d) ((qa (qx (qa (qx (qa x a b) d a 16) c d) b c 12) a b) a)) 8 (by decide) w'⟩⟩) (ak (fun γ => ⟨rfl, fun w' _ => ex_ix0_49 (j := d) rfl rfl rfl (by omega)⟩) trivial)))))))))
  intro _ w12 H12
  clear H11
  refine rest_at (l := [10]) rfl ?_
  refine rest_store rfl rfl rfl (ex_storeI H12.out.1 0 rfl rfl Try.sizeOf23 rfl rfl (by rw [ints_len]; omega)) ?_
  have H13 : Hid (Mm (w12.setCells γ1_0 d ([W32 (lrt (xo ((qa (qx (qa (qx (qa x a b) d a 16) c d) b c 12) a b) d) ((qa (qx (qa (qx (qa x a b) d a 16) c d) b c 12) a b) a)) 8)])) [(γ1_0, ints .u32 (qx (qa (qx (qa (qx (qa x a b) d a 16) c d) b c 12) a b) d a 8) 16), (γ1_1, ints .u32 (fun _ => 0) 16)] ∧ Below w.heap.size w (w12.setCells γ1_0 d ([W32 (lrt (xo ((qa (qx (qa (qx (qa x a b) d a 16) c d) b c 12) a b) d) ((qa (qx (qa (qx (qa x a b) d a 16) c d) b c 12) a b) a)) 8)]))) := ⟨by
    have h := H12.out.1.put 0 (off := d) (vs := [W32 (lrt (xo ((qa (qx (qa (qx (qa x a b) d a 16) c d) b c 12) a b) d) ((qa (qx (qa (qx (qa x a b) d a 16) c d) b c 12) a b) a)) 8)]) rfl (by rw [ints_len]; simp only [List.length_cons, List.length_nil]; omega)
    rw [ints_patch _ _ _ _ (by omega), show ints .u32 (up (qa (qx (qa (qx (qa x a b) d a 16) c d) b c 12) a b) d (lrt (xo ((qa (qx (qa (qx (qa x a b) d a 16) c d) b c 12) a b) d) ((qa (qx (qa (qx (qa x a b) d a 16) c d) b c 12) a b) a)) 8)) 16 = ints .u32 (qx (qa (qx (qa (qx (qa x a b) d a 16) c d) b c 12) a b) d a 8) 16 by rw [show (up (qa (qx (qa (qx (qa x a b) d a 16) c d) b c 12) a b) d (lrt (xo ((qa (qx (qa (qx (qa x a b) d a 16) c d) b c 12) a b) d) ((qa (qx (qa (qx (qa x a b) d a 16) c d) b c 12) a b) a)) 8)) = qx (qa (qx (qa (qx (qa x a b) d a 16) c d) b c 12) a b) d a 8 from rfl]] at h
    exact h, below_setCells _ o1_0.out _ _ _ H12.out.2⟩
  clear H12
  generalize hgw : World.setCells _ _ _ _ = w13 at H13 ⊢
  clear hgw
  refine rest_nil (then_normal (wp_seq ?_))
  refine walk_anyB 9 [.quiet (.int .i64 ((c : Nat) : Int)), .quiet (.int .i64 ((c : Nat) : Int)), .quiet (PT γ1_0 c), .quiet (W32 ((qx (qa (qx (qa (qx (qa x a b) d a 16) c d) b c 12) a b) d a 8) c)), .quiet (.int .i64 ((d : Nat) : Int)), .quiet (PT γ1_0 d), .quiet (W32 ((qx (qa (qx (qa (qx (qa x a b) d a 16) c d) b c 12) a b) d a 8) d)), .quiet (W32 (ad ((qx (qa (qx (qa (qx (qa x a b) d a 16) c d) b c 12) a b) d a 8) c) ((qx (qa (qx (qa (qx (qa x a b) d a 16) c d) b c 12) a b) d a 8) d))), .quiet (PT γ1_0 c)] H13 ?ho8 ?he8
  case ho8 => exact ak (fun _ => ⟨rfl, fun _ _ => rfl⟩) (ak (fun _ => ⟨rfl, fun _ _ => rfl⟩) (ak (fun γ => ⟨rfl, fun w' _ => ex_ix0_49 (j := c) rfl rfl rfl (by omega)⟩) (ak (fun γ => ⟨rfl, fun w' h => ex_loadC h 0 rfl rfl rfl Try.isAgg23 (ints_get _ _ (by omega))⟩) (ak (fun _ => ⟨rfl, fun _ _ => rfl⟩) (ak (fun γ => ⟨rfl, fun w' _ => ex_ix0_49 (j := d) rfl rfl rfl (by omega)⟩) (ak (fun γ => ⟨rfl, fun w' h => ex_loadC h 0 rfl rfl rfl Try.isAgg23 (ints_get _ _ (by omega))⟩) (ak (fun γ => ⟨rfl, fun w' _ => ex_add32 rfl rfl rfl⟩) (ak (fun γ => ⟨rfl, fun w' _ => ex_ix0_49 (j := c) rfl rfl rfl (by omega)⟩) trivial))))))))
  intro _ w14 H14
  clear H13
  refine rest_at (l := [9]) rfl ?_
  refine rest_store rfl rfl rfl (ex_storeI H14.out.1 0 rfl rfl Try.sizeOf23 rfl rfl (by rw [ints_len]; omega)) ?_
  have H15 : Hid (Mm (w14.setCells γ1_0 c ([W32 (ad ((qx (qa (qx (qa (qx (qa x a b) d a 16) c d) b c 12) a b) d a 8) c) ((qx (qa (qx (qa (qx (qa x a b) d a 16) c d) b c 12) a b) d a 8) d))])) [(γ1_0, ints .u32 (qa (qx (qa (qx (qa (qx (qa x a b) d a 16) c d) b c 12) a b) d a 8) c d) 16), (γ1_1, ints .u32 (fun _ => 0) 16)] ∧ Below w.heap.size w (w14.setCells γ1_0 c ([W32 (ad ((qx (qa (qx (qa (qx (qa x a b) d a 16) c d) b c 12) a b) d a 8) c) ((qx (qa (qx (qa (qx (qa x a b) d a 16) c d) b c 12) a b) d a 8) d))]))) := ⟨by
    have h := H14.out.1.put 0 (off := c) (vs := [W32 (ad ((qx (qa (qx (qa (qx (qa x a b) d a 16) c d) b c 12) a b) d a 8) c) ((qx (qa (qx (qa (qx (qa x a b) d a 16) c d) b c 12) a b) d a 8) d))]) rfl (by rw [ints_len]; simp only [List.length_cons, List.length_nil]; omega)
    rw [ints_patch _ _ _ _ (by omega), show ints .u32 (up (qx (qa (qx (qa (qx (qa x a b) d a 16) c d) b c 12) a b) d a 8) c (ad ((qx (qa (qx (qa (qx (qa x a b) d a 16) c d) b c 12) a b) d a 8) c) ((qx (qa (qx (qa (qx (qa x a b) d a 16) c d) b c 12) a b) d a 8) d))) 16 = ints .u32 (qa (qx (qa (qx (qa (qx (qa x a b) d a 16) c d) b c 12) a b) d a 8) c d) 16 by rw [show (up (qx (qa (qx (qa (qx (qa x a b) d a 16) c d) b c 12) a b) d a 8) c (ad ((qx (qa (qx (qa (qx (qa x a b) d a 16) c d) b c 12) a b) d a 8) c) ((qx (qa (qx (qa (qx (qa x a b) d a 16) c d) b c 12) a b) d a 8) d))) = qa (qx (qa (qx (qa (qx (qa x a b) d a 16) c d) b c 12) a b) d a 8) c d from rfl]] at h
    exact h, below_setCells _ o1_0.out _ _ _ H14.out.2⟩
  clear H14
  generalize hgw : World.setCells _ _ _ _ = w15 at H15 ⊢
  clear hgw
  refine rest_nil (then_normal (wp_seq ?_))
  refine walk_anyB 10 [.quiet (.int .i64 ((b : Nat) : Int)), .quiet (.int .i64 ((b : Nat) : Int)), .quiet (PT γ1_0 b), .quiet (W32 ((qa (qx (qa (qx (qa (qx (qa x a b) d a 16) c d) b c 12) a b) d a 8) c d) b)), .quiet (.int .i64 ((c : Nat) : Int)), .quiet (PT γ1_0 c), .quiet (W32 ((qa (qx (qa (qx (qa (qx (qa x a b) d a 16) c d) b c 12) a b) d a 8) c d) c)), .quiet (W32 (xo ((qa (qx (qa (qx (qa (qx (qa x a b) d a 16) c d) b c 12) a b) d a 8) c d) b) ((qa (qx (qa (qx (qa (qx (qa x a b) d a 16) c d) b c 12) a b) d a 8) c d) c))), .call (W32 (lrt (xo ((qa (qx (qa (qx (qa (qx (qa x a b) d a 16) c d) b c 12) a b) d a 8) c d) b) ((qa (qx (qa (qx (qa (qx (qa x a b) d a 16) c d) b c 12) a b) d a 8) c d) c)) 7)), .quiet (PT γ1_0 b)] H15 ?ho9 ?he9
  case ho9 => exact ak (fun _ => ⟨rfl, fun _ _ => rfl⟩) (ak (fun _ => ⟨rfl, fun _ _ => rfl⟩) (ak (fun γ => ⟨rfl, fun w' _ => ex_ix0_49 (j := b) rfl rfl rfl (by omega)⟩) (ak (fun γ => ⟨rfl, fun w' h => ex_loadC h 0 rfl rfl rfl Try.isAgg23 (ints_get _ _ (by omega))⟩) (ak (fun _ => ⟨rfl, fun _ _ => rfl⟩) (ak (fun γ => ⟨rfl, fun w' _ => ex_ix0_49 (j := c) rfl rfl rfl (by omega)⟩) (ak (fun γ => ⟨rfl, fun w' h => ex_loadC h 0 rfl rfl rfl Try.isAgg23 (ints_get _ _ (by omega))⟩) (ak (fun γ => ⟨rfl, fun w' _ => ex_xor32 rfl rfl rfl⟩) (ak (fun γ => ⟨rfl, fun w' h => ⟨58, #[W32 (xo ((qa (qx (qa (qx (qa (qx (qa x a b) d a 16) c d) b c 12) a b) d a 8) c d) b) ((qa (qx (qa (qx (qa (qx (qa x a b) d a 16) c d) b c 12) a b) d a 8) c d) c)), .int .i64 7], exec_call rfl call58 rfl (mpn rfl), left_any (xo ((qa (qx (qa (qx (qa (qx (qa x a b) d a 16) c d) b c 12) a b) d a 8) c d) b) ((qa (qx (qa (qx (qa (qx (qa x a b) d a 16) c d) b c 12) a b) d a 8) c d) c)) 7 (by decide) w'⟩⟩) (ak (fun γ => ⟨rfl, fun w' _ => ex_ix0_49 (j := b) rfl rfl rfl (by omega)⟩) trivial)))))))))
  intro _ w16 H16
  clear H15
  refine rest_at (l := [10]) rfl ?_
  refine rest_store rfl rfl rfl (ex_storeI H16.out.1 0 rfl rfl Try.sizeOf23 rfl rfl (by rw [ints_len]; omega)) ?_
  have H17 : Hid (Mm (w16.setCells γ1_0 b ([W32 (lrt (xo ((qa (qx (qa (qx (qa (qx (qa x a b) d a 16) c d) b c 12) a b) d a 8) c d) b) ((qa (qx (qa (qx (qa (qx (qa x a b) d a 16) c d) b c 12) a b) d a 8) c d) c)) 7)])) [(γ1_0, ints .u32 (qx (qa (qx (qa (qx (qa (qx (qa x a b) d a 16) c d) b c 12) a b) d a 8) c d) b c 7) 16), (γ1_1, ints .u32 (fun _ => 0) 16)] ∧ Below w.heap.size w (w16.setCells γ1_0 b ([W32 (lrt (xo ((qa (qx (qa (qx (qa (qx (qa x a b) d a 16) c d) b c 12) a b) d a 8) c d) b) ((qa (qx (qa (qx (qa (qx (qa x a b) d a 16) c d) b c 12) a b) d a 8) c d) c)) 7)]))) := ⟨by
    have h := H16.out.1.put 0 (off := b) (vs := [W32 (lrt (xo ((qa (qx (qa (qx (qa (qx (qa x a b) d a 16) c d) b c 12) a b) d a 8) c d) b) ((qa (qx (qa (qx (qa (qx (qa x a b) d a 16) c d) b c 12) a b) d a 8) c d) c)) 7)]) rfl (by rw [ints_len]; simp only [List.length_cons, List.length_nil]; omega)
    rw [ints_patch _ _ _ _ (by omega), show ints .u32 (up (qa (qx (qa (qx (qa (qx (qa x a b) d a 16) c d) b c 12) a b) d a 8) c d) b (lrt (xo ((qa (qx (qa (qx (qa (qx (qa x a b) d a 16) c d) b c 12) a b) d a 8) c d) b) ((qa (qx (qa (qx (qa (qx (qa x a b) d a 16) c d) b c 12) a b) d a 8) c d) c)) 7)) 16 = ints .u32 (qx (qa (qx (qa (qx (qa (qx (qa x a b) d a 16) c d) b c 12) a b) d a 8) c d) b c 7) 16 by rw [show (up (qa (qx (qa (qx (qa (qx (qa x a b) d a 16) c d) b c 12) a b) d a 8) c d) b (lrt (xo ((qa (qx (qa (qx (qa (qx (qa x a b) d a 16) c d) b c 12) a b) d a 8) c d) b) ((qa (qx (qa (qx (qa (qx (qa x a b) d a 16) c d) b c 12) a b) d a 8) c d) c)) 7)) = qx (qa (qx (qa (qx (qa (qx (qa x a b) d a 16) c d) b c 12) a b) d a 8) c d) b c 7 from rfl]] at h
    exact h, below_setCells _ o1_0.out _ _ _ H16.out.2⟩
  clear H16
  generalize hgw : World.setCells _ _ _ _ = w17 at H17 ⊢
  clear hgw
  refine rest_nil (then_normal (wp_seq ?_))
  refine walk_seqB 1 [.quiet (.agg (ints .u32 (qx (qa (qx (qa (qx (qa (qx (qa x a b) d a 16) c d) b c 12) a b) d a 8) c d) b c 7) 16).toArray)] H17 ?ho10 ?he10
  case ho10 => exact ak (fun γ => ⟨rfl, fun w' h => ex_loadT h 0 rfl rfl rfl Try.isAgg49 Try.sizeOf49 (ints_whole _ _ _) (ints_len _ _ _)⟩) trivial
  intro _ w18 H18
  clear H17
  refine rest_at (l := [1]) rfl ?_
  refine rest_store rfl rfl rfl (ex_storeT (vs := ints .u32 (qx (qa (qx (qa (qx (qa (qx (qa x a b) d a 16) c d) b c 12) a b) d a 8) c d) b c 7) 16) H18.out.1 1 rfl rfl rfl rfl (by rw [ints_len]; exact Try.sizeOf49) (ints_all _ _ _) (by simp [ints_len])) ?_
  have H19 : Hid (Mm (w18.setCells γ1_1 0 (ints .u32 (qx (qa (qx (qa (qx (qa (qx (qa x a b) d a 16) c d) b c 12) a b) d a 8) c d) b c 7) 16)) [(γ1_0, ints .u32 (qx (qa (qx (qa (qx (qa (qx (qa x a b) d a 16) c d) b c 12) a b) d a 8) c d) b c 7) 16), (γ1_1, ints .u32 (qx (qa (qx (qa (qx (qa (qx (qa x a b) d a 16) c d) b c 12) a b) d a 8) c d) b c 7) 16)] ∧ Below w.heap.size w (w18.setCells γ1_1 0 (ints .u32 (qx (qa (qx (qa (qx (qa (qx (qa x a b) d a 16) c d) b c 12) a b) d a 8) c d) b c 7) 16))) := ⟨by
    have h := H18.out.1.put 1 (off := 0) (vs := ints .u32 (qx (qa (qx (qa (qx (qa (qx (qa x a b) d a 16) c d) b c 12) a b) d a 8) c d) b c 7) 16) rfl (by simp [ints_len])
    rw [ints_patch0 _ _ _ _] at h
    exact h, below_setCells _ o1_1.out _ _ _ H18.out.2⟩
  clear H18
  generalize hgw : World.setCells _ _ _ _ = w19 at H19 ⊢
  clear hgw
  refine rest_nil (then_normal (wp_ret ?_))
  repeat (first | refine then_ret ?_ | refine block_ret ?_)
  have hf0 := var_T H19.out.1 1 rfl Try.isAgg49 Try.sizeOf49 (ints_len _ _ _)
  refine bodyPost_ret (v := .agg (ints .u32 (qx (qa (qx (qa (qx (qa (qx (qa x a b) d a 16) c d) b c 12) a b) d a 8) c d) b c 7) 16).toArray) (by simp [results, Try.results48, asAddr, hf0]) rfl ?_
  exact ⟨rfl, H19.out.2⟩
end Rg
end Go.Proofs.Ytkkippfikfjdpaa
end
section
namespace Go.Proofs.Ytkkippfikfjdpaa
open Go.RowKit
namespace Rg
set_option maxRecDepth 100000
/-- The number whose digits by 256 a row is, the lowest first. -/
def nv (f : Nat → Nat) : Nat → Nat
  | 0 => 0
  | n + 1 => nv f n + f n * 256 ^ n
theorem nv_succ (f : Nat → Nat) (n : Nat) : nv f (n + 1) = nv f n + f n * 256 ^ n := rfl
theorem nv_cg {f g : Nat → Nat} : ∀ n, (∀ i, i < n → f i = g i) → nv f n = nv g n
  | 0, _ => rfl
  | n + 1, h => by rw [nv_succ, nv_succ, nv_cg n (fun i hi => h i (by omega)), h n (by omega)]
theorem pow_pos256 (n : Nat) : 0 < 256 ^ n := Nat.pow_pos (by decide)
theorem nv_lt {f : Nat → Nat} : ∀ n, (∀ i, i < n → f i < 256) → nv f n < 256 ^ n
  | 0, _ => by show 0 < 1; decide
  | n + 1, h => by
    have h1 := nv_lt n (fun i hi => h i (by omega))
    have h2 := h n (by omega)
    rw [nv_succ, Nat.pow_succ]
    have h3 : f n * 256 ^ n ≤ 255 * 256 ^ n := Nat.mul_le_mul_right _ (by omega)
    omega
/-- What is behind the first i digits. -/
theorem nv_split (f : Nat → Nat) (i : Nat) : ∀ m, nv f (i + m) = nv f i + 256 ^ i * nv (fun j => f (i + j)) m
  | 0 => by show nv f i = nv f i + 256 ^ i * 0; omega
  | m + 1 => by
    show nv f (i + m) + f (i + m) * 256 ^ (i + m) = nv f i + 256 ^ i * (nv (fun j => f (i + j)) m + f (i + m) * 256 ^ m)
    rw [nv_split f i m, Nat.mul_add, Nat.pow_add, Nat.mul_left_comm (256 ^ i) (f (i + m)), Nat.add_assoc]
theorem nv_digit {f : Nat → Nat} {n i : Nat} (h : ∀ j, j < n → f j < 256) (hi : i < n) : nv f n / 256 ^ i % 256 = f i := by
  obtain ⟨m, rfl⟩ : ∃ m, n = i + (m + 1) := ⟨n - i - 1, by omega⟩
  rw [nv_split, Nat.add_comm, Nat.mul_add_div (pow_pos256 i), Nat.div_eq_of_lt (nv_lt i (fun j hj => h j (by omega))), Nat.add_zero, Nat.add_comm m 1, nv_split]
  show (0 + f (i + 0) * 1 + 256 ^ 1 * _) % 256 = f i
  have := h i hi
  rw [Nat.pow_one, Nat.add_zero]
  omega
theorem nv_up {f : Nat → Nat} {j v : Nat} : ∀ {n}, j < n → nv (fun i => if i = j then f i + v else f i) n = nv f n + v * 256 ^ j
  | 0, h => absurd h (by omega)
  | n + 1, h => by
    rw [nv_succ, nv_succ]
    by_cases e : j = n
    · subst e
      rw [nv_cg (g := f) j (fun i hi => by rw [if_neg (by omega)]), if_pos rfl, Nat.add_mul]
      omega
    · rw [nv_up (by omega : j < n), if_neg (by omega)]
      omega
/-- Digits by carrying. -/
def cy (z : Nat → Nat) : Nat → Nat
  | 0 => 0
  | i + 1 => (cy z i + z i) / 256
def dz (z : Nat → Nat) (i : Nat) : Nat := (cy z i + z i) % 256
theorem dz_lt (z : Nat → Nat) (i : Nat) : dz z i < 256 := Nat.mod_lt _ (by decide)
theorem nv_dz (z : Nat → Nat) : ∀ n, nv (dz z) n + cy z n * 256 ^ n = nv z n
  | 0 => rfl
  | n + 1 => by
    rw [nv_succ, nv_succ, ← nv_dz z n]
    show nv (dz z) n + (cy z n + z n) % 256 * 256 ^ n + (cy z n + z n) / 256 * 256 ^ (n + 1) = _
    rw [Nat.pow_succ, Nat.mul_comm (256 ^ n) 256, ← Nat.mul_assoc, Nat.add_assoc, ← Nat.add_mul]
    have : (cy z n + z n) % 256 + (cy z n + z n) / 256 * 256 = cy z n + z n := by omega
    rw [this, Nat.add_mul, Nat.add_assoc]
/-- If the number goes into n digits nothing is carried out. -/
theorem dz_whole {z : Nat → Nat} {n : Nat} (h : nv z n < 256 ^ n) : cy z n = 0 ∧ nv (dz z) n = nv z n := by
  have e := nv_dz z n
  have hp := pow_pos256 n
  have h0 : cy z n = 0 := by
    rcases Nat.eq_zero_or_pos (cy z n) with h1 | h1
    · exact h1
    · have : 1 * 256 ^ n ≤ cy z n * 256 ^ n := Nat.mul_le_mul_right _ h1
      omega
  rw [h0, Nat.zero_mul, Nat.add_zero] at e
  exact ⟨h0, e⟩
theorem nv_zero : ∀ n, nv (fun _ => 0) n = 0
  | 0 => rfl
  | n + 1 => by rw [nv_succ, nv_zero n]; omega
theorem nv_add (f g : Nat → Nat) : ∀ n, nv (fun i => f i + g i) n = nv f n + nv g n
  | 0 => rfl
  | n + 1 => by rw [nv_succ, nv_succ, nv_succ, nv_add f g n, Nat.add_mul]; omega
theorem nv_mul (c : Nat) (f : Nat → Nat) : ∀ n, nv (fun i => c * f i) n = c * nv f n
  | 0 => rfl
  | n + 1 => by rw [nv_succ, nv_succ, nv_mul c f n, Nat.mul_add, Nat.mul_assoc]
/-- A row that is 0 from m on. -/
theorem nv_more {f : Nat → Nat} {m n : Nat} (hm : m ≤ n) (h : ∀ i, m ≤ i → i < n → f i = 0) : nv f n = nv f m := by
  obtain ⟨k, rfl⟩ : ∃ k, n = m + k := ⟨n - m, by omega⟩
  rw [nv_split, nv_cg (g := fun _ => 0) k (fun i hi => h (m + i) (by omega) (by omega)), nv_zero, Nat.mul_zero, Nat.add_zero]
/-- The products, gathered by place: behind i rows and k of the next. -/
def cw (x y : Nat → Nat) (i : Nat) (g : Nat → Nat) : Nat → Nat → Nat
  | 0 => g
  | k + 1 => fun j => if j = i + k then cw x y i g k j + x i * y k else cw x y i g k j
def cv (x y : Nat → Nat) (N : Nat) : Nat → Nat → Nat
  | 0 => fun _ => 0
  | i + 1 => cw x y i (cv x y N i) N
theorem nv_cw (x y : Nat → Nat) (i : Nat) (g : Nat → Nat) {n : Nat} : ∀ k, i + k ≤ n → nv (cw x y i g k) n = nv g n + 256 ^ i * (x i * nv y k)
  | 0, _ => by show nv g n = nv g n + 256 ^ i * (x i * 0); omega
  | k + 1, h => by
    show nv (fun j => if j = i + k then cw x y i g k j + x i * y k else cw x y i g k j) n = _
    rw [nv_up (by omega : i + k < n), nv_cw x y i g k (by omega), nv_succ, Nat.mul_add, Nat.mul_add, Nat.add_assoc, Nat.pow_add]
    congr 2
    rw [Nat.mul_comm (x i * y k), Nat.mul_assoc, ← Nat.mul_assoc (x i) (y k), Nat.mul_comm (x i * y k)]
theorem nv_cv (x y : Nat → Nat) (N : Nat) {n : Nat} : ∀ i, i + N ≤ n + 1 → nv (cv x y N i) n = nv x i * nv y N
  | 0, _ => by show nv (fun _ => 0) n = 0 * _; rw [nv_zero, Nat.zero_mul]
  | i + 1, h => by
    show nv (cw x y i (cv x y N i) N) n = _
    rw [nv_cw x y i _ N (by omega), nv_cv x y N i (by omega), nv_succ, Nat.add_mul, Nat.mul_right_comm (x i), Nat.mul_comm (256 ^ i)]
theorem cw_le {x y : Nat → Nat} {i : Nat} {g : Nat → Nat} {B C : Nat} (hx : x i ≤ 255) (hy : ∀ k, y k ≤ 255) (hg : ∀ j, g j ≤ B) (hC : C = B + 65025) : ∀ k j, cw x y i g k j ≤ C ∧ (i + k ≤ j → cw x y i g k j ≤ B)
  | 0, j => ⟨by have := hg j; show g j ≤ C; omega, fun _ => hg j⟩
  | k + 1, j => by
    have h1 := cw_le hx hy hg hC k j
    show (if j = i + k then cw x y i g k j + x i * y k else cw x y i g k j) ≤ C ∧ (i + (k + 1) ≤ j → (if j = i + k then cw x y i g k j + x i * y k else cw x y i g k j) ≤ B)
    have h2 : x i * y k ≤ 255 * 255 := Nat.mul_le_mul hx (hy k)
    by_cases e : j = i + k
    · rw [if_pos e]
      exact ⟨by have := h1.2 (by omega); omega, fun h => absurd h (by omega)⟩
    · rw [if_neg e]
      exact ⟨h1.1, fun h => h1.2 (by omega)⟩
theorem cv_le {x y : Nat → Nat} {N : Nat} (hx : ∀ k, x k ≤ 255) (hy : ∀ k, y k ≤ 255) : ∀ i j, cv x y N i j ≤ 65025 * i
  | 0, _ => by show 0 ≤ _; omega
  | i + 1, j => (cw_le (hx i) hy (cv_le (N := N) hx hy i) (C := 65025 * (i + 1)) (by omega) N j).1
/-- A row that ends with a 0 digit above: the whole by 4. -/
def hg (g : Nat → Nat) (j : Nat) : Nat := g j / 4 + g (j + 1) % 4 * 64
theorem nv_hg (g : Nat → Nat) : ∀ n, 4 * nv (hg g) n + g 0 % 4 = nv g n + g n % 4 * 256 ^ n
  | 0 => by show 4 * 0 + g 0 % 4 = 0 + g 0 % 4 * 1; omega
  | n + 1 => by
    have h := nv_hg g n
    have e : 4 * (hg g n * 256 ^ n) = g n / 4 * 4 * 256 ^ n + g (n + 1) % 4 * 256 ^ (n + 1) := by
      show 4 * ((g n / 4 + g (n + 1) % 4 * 64) * 256 ^ n) = _
      rw [← Nat.mul_assoc, Nat.mul_add, Nat.add_mul, Nat.mul_comm 4 (g n / 4), Nat.pow_succ]
      congr 1
      rw [Nat.mul_comm (256 ^ n) 256, ← Nat.mul_assoc (g (n + 1) % 4)]
      congr 1
      omega
    have e2 : g n % 4 * 256 ^ n + g n / 4 * 4 * 256 ^ n = g n * 256 ^ n := by
      rw [← Nat.add_mul]
      congr 1
      omega
    rw [nv_succ, nv_succ, Nat.mul_add, e]
    omega
theorem pw16 : (4 : Nat) * 256 ^ 16 = 2 ^ 130 := by decide
/-- What stands from the bit 130 on. -/
theorem nv_high {w : Nat → Nat} {m : Nat} (h : ∀ j, j < 16 → w j < 256) (hm : w (16 + m) % 4 = 0) : nv (hg (fun j => w (16 + j))) m = nv w (16 + m) / 2 ^ 130 := by
  have e := nv_hg (fun j => w (16 + j)) m
  have hm' : (fun j => w (16 + j)) m % 4 = 0 := hm
  rw [hm'] at e
  have e2 := nv_split w 16 m
  have e3 := nv_lt 16 h
  rw [e2, ← pw16, Nat.mul_comm 4 (256 ^ 16), ← Nat.div_div_eq_div_mul, Nat.add_comm, Nat.mul_add_div (pow_pos256 16), Nat.div_eq_of_lt e3]
  omega
def lw (w : Nat → Nat) (j : Nat) : Nat := if j < 16 then w j else if j = 16 then w 16 % 4 else 0
theorem nv_low {w : Nat → Nat} {m : Nat} (h : ∀ j, j < 16 → w j < 256) : nv (lw w) (16 + (m + 1)) = nv w (16 + (m + 1)) % 2 ^ 130 := by
  have e3 := nv_lt 16 h
  rw [nv_more (f := lw w) (m := 17) (by omega) (fun i h1 _ => by unfold lw; rw [if_neg (by omega), if_neg (by omega)]), nv_succ, nv_cg (g := w) 16 (fun i hi => by unfold lw; rw [if_pos hi])]
  rw [nv_split w 16, Nat.add_comm m 1, nv_split _ 1 m, ← pw16]
  show _ + lw w 16 * 256 ^ 16 = (nv w 16 + 256 ^ 16 * (0 + w (16 + 0) * 1 + 256 ^ 1 * nv _ m)) % (4 * 256 ^ 16)
  have e4 : lw w 16 = w 16 % 4 := rfl
  rw [e4, Nat.zero_add, Nat.add_zero, Nat.mul_one]
  generalize nv (fun j => w (16 + (1 + j))) m = t
  generalize nv w 16 = s at e3 ⊢
  generalize w 16 = v
  generalize (256 : Nat) ^ 16 = B at e3 ⊢
  have hB : 0 < B := by omega
  rw [Nat.mul_comm 4 B, Nat.mod_mul, Nat.add_mul_mod_self_left, Nat.mod_eq_of_lt e3, Nat.add_comm s (B * (v + _)), Nat.mul_add_div hB, Nat.div_eq_of_lt e3, Nat.add_zero, Nat.mul_comm (v % 4)]
  congr 2
  omega
theorem nv_pos {f : Nat → Nat} : ∀ n, nv f n = 0 ↔ ∀ i, i < n → f i = 0
  | 0 => ⟨fun _ i h => absurd h (by omega), fun _ => rfl⟩
  | n + 1 => by
    rw [nv_succ]
    have hp := pow_pos256 n
    constructor
    · intro h i hi
      have h1 : nv f n = 0 := by omega
      have h2 : f n * 256 ^ n = 0 := by omega
      by_cases e : i = n
      · subst e
        rcases Nat.mul_eq_zero.mp h2 with h3 | h3
        · exact h3
        · omega
      · exact (nv_pos n).mp h1 i (by omega)
    · intro h
      rw [(nv_pos n).mpr (fun i hi => h i (by omega)), h n (by omega)]
      omega
def P5 : Nat := 2 ^ 130 - 5
/-- What one turn of folding makes of a number. -/
def fN (n : Nat) : Nat := n % 2 ^ 130 + 5 * (n / 2 ^ 130)
theorem fN_lt {n : Nat} (h : 0 < n / 2 ^ 130) : fN n < n := by unfold fN; omega
theorem fN_mod (n : Nat) : fN n % P5 = n % P5 := by
  have e : n = fN n + P5 * (n / 2 ^ 130) := by unfold fN P5; omega
  rw [show n % P5 = (fN n + P5 * (n / 2 ^ 130)) % P5 from congrArg (· % P5) e, Nat.add_mul_mod_self_left]
/-- The end of folding: all digits are full. -/
theorem nv_full : ∀ n, nv (fun _ => 255) n + 1 = 256 ^ n
  | 0 => rfl
  | n + 1 => by rw [nv_succ, Nat.pow_succ]; have := nv_full n; omega
theorem full_iff {f : Nat → Nat} {n : Nat} (h : ∀ i, i < n → f i < 256) : nv f n + 1 = 256 ^ n ↔ ∀ i, i < n → f i = 255 := by
  constructor
  · intro e i hi
    have e2 : nv f n = nv (fun _ => 255) n := by have := nv_full n; omega
    have := nv_digit h hi
    rw [e2, nv_digit (f := fun _ => 255) (fun _ _ => by decide) hi] at this
    exact this.symm
  · intro e
    rw [nv_cg (g := fun _ => 255) n e, nv_full]
theorem last_fold {w : Nat → Nat} (h : ∀ i, i < 17 → w i < 256) (hN : nv w 17 < 2 ^ 130) :
    ((w 16 = 3 ∧ (∀ i, 1 ≤ i → i < 16 → w i = 255)) ∧ 251 ≤ w 0 → nv w 17 % P5 = w 0 - 251) ∧
    (¬ ((w 16 = 3 ∧ (∀ i, 1 ≤ i → i < 16 → w i = 255)) ∧ 251 ≤ w 0) → nv w 17 % P5 = nv w 17) := by
  have e : nv w 17 = w 0 + 256 * nv (fun j => w (1 + j)) 15 + w 16 * 256 ^ 16 := by
    have e1 : nv w 16 = (0 + w 0 * 1) + 256 ^ 1 * nv (fun j => w (1 + j)) 15 := nv_split w 1 15
    rw [nv_succ, e1]
    omega
  have hf := full_iff (f := fun j => w (1 + j)) (n := 15) (fun i hi => h (1 + i) (by omega))
  have hl := nv_lt (f := fun j => w (1 + j)) 15 (fun i hi => h (1 + i) (by omega))
  have h0 := h 0 (by decide)
  generalize nv (fun j => w (1 + j)) 15 = t at e hf hl
  have c15 : (256 : Nat) ^ 15 = 1329227995784915872903807060280344576 := by decide
  have c16 : (256 : Nat) ^ 16 = 340282366920938463463374607431768211456 := by decide
  have c130 : (2 : Nat) ^ 130 = 1361129467683753853853498429727072845824 := by decide
  have cP : P5 = 1361129467683753853853498429727072845819 := by decide
  have hff : (∀ i, 1 ≤ i → i < 16 → w i = 255) ↔ t + 1 = 256 ^ 15 := by
    rw [hf]
    exact ⟨fun a i hi => a (1 + i) (by omega) (by omega), fun a i h1 h2 => by have := a (i - 1) (by omega); rwa [show 1 + (i - 1) = i from by omega] at this⟩
  rw [hff, c15, cP]
  rw [c15] at hl
  rw [c130] at hN
  rw [c16] at e
  constructor
  · intro hh
    rw [e]
    omega
  · intro hh
    rw [Nat.mod_eq_of_lt]
    omega
/-- What stands from the bit 130 on, of a row of 70 digits. -/
def hvv (v : Nat → Nat) (k : Nat) : Nat := v (16 + k) / 4 + (if 16 + k + 1 < 70 then v (16 + k + 1) else 0) % 4 * 64
def hz (v : Nat → Nat) (k j : Nat) : Nat := if j < k then hvv v j else 0
def sm (v : Nat → Nat) : Nat → Bool
  | 0 => false
  | k + 1 => sm v k || decide (0 < hvv v k)
theorem hz_set (v : Nat → Nat) (k x : Nat) (hx : x = hvv v k) : up (hz v k) (16 + k - 16) x = hz v (k + 1) := by
  subst hx
  funext j
  unfold up hz
  by_cases h : j = 16 + k - 16
  · have e : j = k := by omega
    subst e
    rw [if_pos h, if_pos (by omega)]
  · rw [if_neg h]
    by_cases h2 : j < k
    · rw [if_pos h2, if_pos (by omega)]
    · rw [if_neg h2, if_neg (by omega)]
theorem hz_zero (v : Nat → Nat) : hz v 0 = fun _ => 0 := by
  funext j
  unfold hz
  rw [if_neg (by omega)]
theorem hz_at (v : Nat → Nat) (k : Nat) : hz v (k + 1) (16 + k - 16) = hvv v k := by
  unfold hz
  rw [if_pos (by omega), show 16 + k - 16 = k by omega]
theorem hv_le {v : Nat → Nat} (h : ∀ j, v j < 256) (k : Nat) : hvv v k ≤ 255 := by
  unfold hvv
  have h1 := h (16 + k)
  omega
theorem hz_le {v : Nat → Nat} (h : ∀ j, v j < 256) (k j : Nat) : hz v k j ≤ 255 := by
  unfold hz
  by_cases e : j < k
  · rw [if_pos e]; exact hv_le h j
  · rw [if_neg e]; omega
theorem nv_hv {v : Nat → Nat} (h : ∀ j, v j < 256) : nv (hvv v) 54 = nv v 70 / 2 ^ 130 := by
  have e := nv_high (w := fun j => if j < 70 then v j else 0) (m := 54) (fun j hj => by rw [if_pos (by omega)]; exact h j) (by rw [if_neg (by omega)])
  rw [nv_cg (f := fun j => if j < 70 then v j else 0) (g := v) 70 (fun i hi => if_pos hi)] at e
  rw [← e]
  refine nv_cg 54 (fun i hi => ?_)
  unfold hvv hg
  dsimp only
  rw [if_pos (by omega : 16 + i < 70)]
  rfl
theorem sm_iff (v : Nat → Nat) : ∀ k, sm v k = false ↔ ∀ i, i < k → hvv v i = 0
  | 0 => ⟨fun _ i h => absurd h (by omega), fun _ => rfl⟩
  | k + 1 => by
    show (sm v k || decide (0 < hvv v k)) = false ↔ _
    rw [Bool.or_eq_false_iff, sm_iff v k, decide_eq_false_iff_not]
    exact ⟨fun h i hi => by
      by_cases e : i = k
      · subst e; have := h.2; omega
      · exact h.1 i (by omega), fun h => ⟨fun i hi => h i (by omega), by have := h k (by omega); omega⟩⟩
theorem sm_no {v : Nat → Nat} (h : ∀ j, v j < 256) (hb : ¬ 0 < nv v 70 / 2 ^ 130) : sm v 54 = false := by
  rw [sm_iff]
  have e : nv (hvv v) 54 = 0 := by rw [nv_hv h]; omega
  exact (nv_pos 54).mp e
theorem sm_yes {v : Nat → Nat} (h : ∀ j, v j < 256) (hb : 0 < nv v 70 / 2 ^ 130) : sm v 54 = true := by
  rcases hs : sm v 54 with _ | _
  · have e := (nv_pos 54).mpr ((sm_iff v 54).mp hs)
    rw [nv_hv h] at e
    omega
  · rfl
/-- What stands below the bit 130. -/
def lo (v : Nat → Nat) (k j : Nat) : Nat := if 17 ≤ j ∧ j < 17 + k then 0 else v j
def le' (v : Nat → Nat) (j : Nat) : Nat := if j = 16 then v 16 % 4 else lo v 53 j
theorem lo_zero (v : Nat → Nat) : lo v 0 = v := by
  funext j
  unfold lo
  rw [if_neg (by omega)]
theorem lo_set (v : Nat → Nat) (k : Nat) : up (lo v k) (17 + k) 0 = lo v (k + 1) := by
  funext j
  unfold up lo
  by_cases h : j = 17 + k
  · rw [if_pos h, if_pos (by omega)]
  · rw [if_neg h]
    by_cases h2 : 17 ≤ j ∧ j < 17 + k
    · rw [if_pos h2, if_pos (by omega)]
    · rw [if_neg h2, if_neg (by omega)]
theorem lo_16 (v : Nat → Nat) : lo v 53 16 = v 16 := by unfold lo; rw [if_neg (by omega)]
theorem le_set (v : Nat → Nat) : up (lo v 53) 16 (lo v 53 16 % 4) = le' v := by
  rw [lo_16]
  rfl
theorem le_lt {v : Nat → Nat} (h : ∀ j, v j < 256) (j : Nat) : le' v j < 256 := by
  unfold le' lo
  split
  · omega
  · split
    · omega
    · exact h j
theorem nv_le' {v : Nat → Nat} (h : ∀ j, v j < 256) : nv (le' v) 70 = nv v 70 % 2 ^ 130 := by
  rw [← nv_low (w := v) (m := 53) (fun j _ => h j)]
  refine nv_cg 70 (fun i hi => ?_)
  unfold le' lo lw
  by_cases e : i = 16
  · rw [if_pos e, if_neg (by omega), if_pos e]
  · rw [if_neg e]
    by_cases e2 : i < 16
    · rw [if_neg (by omega), if_pos e2]
    · rw [if_pos (by omega), if_neg e2, if_neg e]
def zz (v : Nat → Nat) (j : Nat) : Nat := le' v j + 5 * hz v 54 j
theorem zz_le {v : Nat → Nat} (h : ∀ j, v j < 256) (j : Nat) : zz v j ≤ 1530 := by
  unfold zz
  have h1 := le_lt h j
  have h2 := hz_le h 54 j
  omega
theorem cy_le {z : Nat → Nat} {B C : Nat} (h : ∀ j, z j ≤ B) (hC : (C + B) / 256 ≤ C) : ∀ k, cy z k ≤ C
  | 0 => Nat.zero_le _
  | k + 1 => by
    show (cy z k + z k) / 256 ≤ C
    have h1 := cy_le h hC k
    have h2 := h k
    omega
theorem nv_zz {v : Nat → Nat} (h : ∀ j, v j < 256) : nv (zz v) 70 = fN (nv v 70) := by
  unfold zz
  rw [nv_add, nv_mul, nv_le' h, nv_more (f := hz v 54) (m := 54) (by decide) (fun i h1 _ => by unfold hz; rw [if_neg (by omega)]), nv_cg (f := hz v 54) (g := hvv v) 54 (fun i hi => by unfold hz; rw [if_pos hi]), nv_hv h]
  rfl
/-- The row while it is carried. -/
def cr (v : Nat → Nat) (k j : Nat) : Nat := if j < k then dz (zz v) j else le' v j
theorem cr_zero (v : Nat → Nat) : cr v 0 = le' v := by
  funext j
  unfold cr
  rw [if_neg (by omega)]
theorem cr_at (v : Nat → Nat) (k : Nat) : cr v k k = le' v k := by unfold cr; rw [if_neg (by omega)]
theorem cr_nx (v : Nat → Nat) (k : Nat) : cy (zz v) k + cr v k k + 5 * hz v 54 k = cy (zz v) k + zz v k := by
  rw [cr_at]
  unfold zz
  omega
theorem cr_set (v : Nat → Nat) (k : Nat) : up (cr v k) k ((cy (zz v) k + cr v k k + 5 * hz v 54 k) % 256) = cr v (k + 1) := by
  rw [cr_nx]
  funext j
  unfold up cr
  by_cases h : j = k
  · subst h
    rw [if_pos rfl, if_pos (by omega)]
    rfl
  · rw [if_neg h]
    by_cases h2 : j < k
    · rw [if_pos h2, if_pos (by omega)]
    · rw [if_neg h2, if_neg (by omega)]
theorem cy_nx (v : Nat → Nat) (k : Nat) : (cy (zz v) k + cr v k k + 5 * hz v 54 k) / 256 = cy (zz v) (k + 1) := by
  rw [cr_nx]
  rfl
theorem cr_lt {v : Nat → Nat} (h : ∀ j, v j < 256) (k j : Nat) : cr v k j < 256 := by
  unfold cr
  split
  · exact dz_lt _ _
  · exact le_lt h j
/-- One turn of folding. -/
theorem fold_turn {v : Nat → Nat} (h : ∀ j, v j < 256) (hb : 0 < nv v 70 / 2 ^ 130) : nv (cr v 70) 70 = fN (nv v 70) := by
  have e1 : nv (cr v 70) 70 = nv (dz (zz v)) 70 := nv_cg 70 (fun i hi => by unfold cr; rw [if_pos hi])
  have e2 := fN_lt hb
  have e3 := nv_lt (f := v) 70 (fun i _ => h i)
  rw [e1, (dz_whole (z := zz v) (n := 70) (by rw [nv_zz h]; omega)).2, nv_zz h]
/-- A number's digits. -/
def dg (n j : Nat) : Nat := n / 256 ^ j % 256
theorem dg_lt (n j : Nat) : dg n j < 256 := Nat.mod_lt _ (by decide)
def gr (u : Nat → Nat) (k j : Nat) : Nat := if j < k then u j else 0
theorem gr_zero (u : Nat → Nat) : gr u 0 = fun _ => 0 := by
  funext j
  unfold gr
  rw [if_neg (by omega)]
theorem gr_set (u : Nat → Nat) (k : Nat) : up (gr u k) k (u k) = gr u (k + 1) := by
  funext j
  unfold up gr
  by_cases h : j = k
  · subst h; rw [if_pos rfl, if_pos (by omega)]
  · rw [if_neg h]
    by_cases h2 : j < k
    · rw [if_pos h2, if_pos (by omega)]
    · rw [if_neg h2, if_neg (by omega)]
theorem gr_dg {u : Nat → Nat} {n m : Nat} (h : ∀ j, u j < 256) (e : nv u m = n) : ints .i64 (gr u m) m = ints .i64 (dg n) m := by
  refine ints_congr fun j hj => ?_
  unfold gr dg
  rw [if_pos hj, ← e, nv_digit (fun i _ => h i) hj]
/-- Whether all digits in the middle are full. -/
def fl (v : Nat → Nat) : Nat → Bool
  | 0 => decide (v 16 = 3)
  | k + 1 => fl v k && decide (v (1 + k) = 255)
theorem fl_iff (v : Nat → Nat) : ∀ k, fl v k = true ↔ v 16 = 3 ∧ ∀ i, 1 ≤ i → i < 1 + k → v i = 255
  | 0 => by
    show decide (v 16 = 3) = true ↔ _
    rw [decide_eq_true_iff]
    exact ⟨fun h => ⟨h, fun i h1 h2 => absurd h2 (by omega)⟩, fun h => h.1⟩
  | k + 1 => by
    show (fl v k && decide (v (1 + k) = 255)) = true ↔ _
    rw [Bool.and_eq_true, fl_iff v k, decide_eq_true_iff]
    exact ⟨fun h => ⟨h.1.1, fun i h1 h2 => by
      by_cases e : i = 1 + k
      · rw [e]; exact h.2
      · exact h.1.2 i h1 (by omega)⟩, fun h => ⟨⟨h.1, fun i h1 h2 => h.2 i h1 (by omega)⟩, h.2 (1 + k) (by omega) (by omega)⟩⟩
theorem small_70 {v : Nat → Nat} (hb : ¬ 0 < nv v 70 / 2 ^ 130) : (∀ j, 17 ≤ j → j < 70 → v j = 0) ∧ nv v 70 = nv v 17 ∧ nv v 34 = nv v 17 ∧ nv v 17 < 2 ^ 130 := by
  have e := nv_split v 17 53
  have c17 : (256 : Nat) ^ 17 = 87112285931760246646623899502532662132736 := by decide
  have c130 : (2 : Nat) ^ 130 = 1361129467683753853853498429727072845824 := by decide
  have hs : nv v 70 < 2 ^ 130 := by rw [c130] at hb ⊢; omega
  have hz : nv (fun j => v (17 + j)) 53 = 0 := by
    rw [c17] at e
    rw [c130] at hs
    have e' : nv v 70 = nv v 17 + 87112285931760246646623899502532662132736 * nv (fun j => v (17 + j)) 53 := e
    omega
  have h0 : ∀ j, 17 ≤ j → j < 70 → v j = 0 := fun j h1 h2 => by
    have := (nv_pos 53).mp hz (j - 17) (by omega)
    rwa [show 17 + (j - 17) = j by omega] at this
  have e70 : nv v 70 = nv v 17 := nv_more (by decide) h0
  exact ⟨h0, e70, nv_more (by decide) (fun j h1 h2 => h0 j h1 (by omega)), by rw [← e70]; exact hs⟩
theorem end_full {v : Nat → Nat} {n : Nat} (h : ∀ j, v j < 256) (hb : ¬ 0 < nv v 70 / 2 ^ 130) (hn : nv v 70 % P5 = n) (hf : fl v 15 = true) (h0 : 251 ≤ v 0) : nv (up (fun _ => 0) 0 (v 0 - 251)) 34 = n := by
  obtain ⟨_, e70, _, hs⟩ := small_70 hb
  have l := (last_fold (w := v) (fun i _ => h i) hs).1 ⟨⟨((fl_iff v 15).mp hf).1, fun i h1 h2 => ((fl_iff v 15).mp hf).2 i h1 (by omega)⟩, h0⟩
  rw [← hn, e70, l, nv_more (m := 1) (by decide) (fun i h1 _ => by unfold up; rw [if_neg (by omega)])]
  show 0 + up (fun _ => 0) 0 (v 0 - 251) 0 * 1 = _
  unfold up
  rw [if_pos rfl]
  omega
theorem end_else {v : Nat → Nat} {n : Nat} (h : ∀ j, v j < 256) (hb : ¬ 0 < nv v 70 / 2 ^ 130) (hn : nv v 70 % P5 = n) (hf : ¬ (fl v 15 = true ∧ 251 ≤ v 0)) : nv v 34 = n := by
  obtain ⟨_, e70, e34, hs⟩ := small_70 hb
  have l := (last_fold (w := v) (fun i _ => h i) hs).2 (fun hh => hf ⟨(fl_iff v 15).mpr ⟨hh.1.1, fun i h1 h2 => hh.1.2 i h1 (by omega)⟩, hh.2⟩)
  rw [← hn, e70, l, e34]
section
variable {ρ : Operand → Value} {o : Oper} {x y : Operand} {a b : Nat} {w : World}
theorem ex_eql3 (ho : o.op = .binOp .eql 3 x y 3) (hx : ρ x = .int .i64 ((a : Nat) : Int)) (hy : ρ y = .int .i64 ((b : Nat) : Int)) : (execOp ρ o).run Try.prog w = .ok (.value (.bool (decide (a = b)))) w := by
  simp only [execOp, ho, hx, hy]
  clear ho hx hy
  by_cases h : a = b
  · subst h
    go_simp
  · have h2 : ¬ (a : Int) = (b : Int) := by omega
    go_simp
theorem ex_gtr3 (ho : o.op = .binOp .gtr 3 x y 3) (hx : ρ x = .int .i64 ((a : Nat) : Int)) (hy : ρ y = .int .i64 ((b : Nat) : Int)) : (execOp ρ o).run Try.prog w = .ok (.value (.bool (decide (b < a)))) w := by
  simp only [execOp, ho, hx, hy]
  clear ho hx hy
  by_cases h : b < a
  · have h2 : (b : Int) < (a : Int) := by omega
    go_simp
  · have h2 : ¬ (b : Int) < (a : Int) := by omega
    go_simp
end
end Rg
end Go.Proofs.Ytkkippfikfjdpaa
end
