/- Texts of the proof, joined. -/
import Derived.Test.YtolflfjfegngnaaDoorP6
import Derived.LaidMore
import Derived.Stop.Joined
import Derived.Lib.LaidTab
import Derived.ProofKit
import Derived.OpenShut
import Derived.ChangeSlices
import Derived.Test.YtolflfjfegngnaaDoorRows
import Derived.Test.YtolflfjfegngnaaDoorTie
section
namespace Go.Proofs.YtolflfjfegngnaaDoor
open Go.RowKit
namespace Rg
set_option maxRecDepth 100000
theorem fit1 {ys zs : List Int} {b c : Pt8} (hb : Ar ys b) (hc : Ar zs c) (h1 : b.n ≤ 2000) (h2 : c.n ≤ 2000) (i : Nat) : (xpd (kf (lf ys) b.n) (lf zs) c.n) i = (xd (kd b.f b.n) c.f c.n) i := by
  rw [hb.f, hc.f]
  exact xpd_xd (fun j _ => kf_kd (fun _ _ => rfl) (lf_lt hb.by_) (by omega) j) (fun _ _ => rfl) (lf_lt hc.by_) (by omega) i
theorem fit2 {xs ys zs : List Int} {a b c : Pt8} (ha : Ar xs a) (hb : Ar ys b) (hc : Ar zs c) (h0 : a.n ≤ 2000) (h1 : b.n ≤ 2000) (h2 : c.n ≤ 2000) (i : Nat) : (xpd (kf (hmc (kf (lf xs) a.n) (lf ys) b.n) 32) (lf zs) c.n) i = (xd (kd (dh (kd a.f a.n) b.f b.n) 32) c.f c.n) i := by
  have hk : ∀ j, j < 32 → (hmc (kf (lf xs) a.n) (lf ys) b.n) j = (dh (kd (lf xs) a.n) (lf ys) b.n) j := fun j hj => hmc_dh (fun j3 _ => kf_kd (fun _ _ => rfl) (lf_lt ha.by_) (by omega) j3) (fun _ _ => rfl) (lf_lt hb.by_) (by omega) j hj
  rw [ha.f, hb.f, hc.f]
  exact xpd_xd (fun j _ => kf_kd hk (ds_lt _ _) (by decide) j) (fun _ _ => rfl) (lf_lt hc.by_) (by omega) i
set_option maxHeartbeats 8000000 in
set_option maxRecDepth 100000 in
theorem derives_l1 (xs ys zs : List Int) (a b c : Pt8) (z : Int) (hl : 2000 < a.n) (w : World) (hm : Mm w [(0, ints .u32 fT 8), (1, ints .u32 kT 64)]) (hRa : a.bs xs w) (hRb : b.bs ys w) (hRc : c.bs zs w) :
    Calls Tryd.prog 10 #[.slice a.p a.n a.cp, .slice b.p b.n b.cp, .slice c.p c.n c.cp, .int .i64 z] w fun e w' => e = .returned (.bool true) ∧ Below w.heap.size w w' := by
  have H0 : Hid (_ ∧ _) := ⟨hm, Below.refl w.heap.size w⟩
  clear hm
  have RA : Hid (a.bs xs w) := hRa
  have RB : Hid (b.bs ys w) := hRb
  have RC : Hid (c.bs zs w) := hRc
  clear hRa hRb hRc
  go_enter Tryd.func10, Tryd.ntmps10
  refine wp_seq ?_
  refine walk_seqB 1 [.quiet (.bool false)] H0 ?ho1 ?he1
  case ho1 => exact ak (fun _ => ⟨rfl, fun _ _ => rfl⟩) trivial
  intro _ w1 H1
  refine rest0 rfl (then_normal (wp_seq (wp_seq ?_)))
  refine walk_seqB 13 [.quiet (.slice a.p a.n a.cp), .quiet (.int .i64 ((a.n : Nat) : Int)), .quiet (.bool true), .quiet (.bool true), .gone, .gone, .gone, .quiet (.bool true), .quiet (.bool true), .gone, .gone, .gone, .quiet (.bool true)] H1 ?ho2 ?he2
  case ho2 => exact ak (fun _ => ⟨rfl, fun _ _ => rfl⟩) (ak (by refine fun γ => ⟨rfl, fun w' h => ?_⟩; clear h; go_simp) (ak (by refine fun γ => ⟨rfl, fun w' h => ?_⟩; clear h; go_simp <;> omega) (ak (fun _ => ⟨rfl, fun _ _ => rfl⟩) (ak (fun γ => rfl) (ak (fun γ => rfl) (ak (fun γ => rfl) (ak (by refine fun γ => ⟨rfl, fun w' h => ?_⟩; clear h; go_simp) (ak (fun _ => ⟨rfl, fun _ _ => rfl⟩) (ak (fun γ => rfl) (ak (fun γ => rfl) (ak (fun γ => rfl) (ak (by refine fun γ => ⟨rfl, fun w' h => ?_⟩; clear h; go_simp) trivial))))))))))))
  intro _ w2 H2
  clear H1
  refine rest0 rfl (then_normal (wp_cond_true rfl (wp_seq ?_)))
  refine walk_seqB 1 [.quiet (.bool true)] H2 ?ho3 ?he3
  case ho3 => exact ak (fun _ => ⟨rfl, fun _ _ => rfl⟩) trivial
  intro _ w3 H3
  clear H2
  refine rest0 rfl (then_normal (wp_ret ?_))
  repeat (first | refine then_ret ?_ | refine block_ret ?_)
  refine bodyPost_ret (v := .bool true) (by simp [results, Tryd.results10, go_sem, *]) rfl ?_
  exact ⟨rfl, H3.out.2⟩
set_option maxHeartbeats 8000000 in
set_option maxRecDepth 100000 in
theorem derives_l2 (xs ys zs : List Int) (a b c : Pt8) (z : Int) (hk : a.n ≤ 2000) (hl : 2000 < b.n) (w : World) (hm : Mm w [(0, ints .u32 fT 8), (1, ints .u32 kT 64)]) (hRa : a.bs xs w) (hRb : b.bs ys w) (hRc : c.bs zs w) :
    Calls Tryd.prog 10 #[.slice a.p a.n a.cp, .slice b.p b.n b.cp, .slice c.p c.n c.cp, .int .i64 z] w fun e w' => e = .returned (.bool true) ∧ Below w.heap.size w w' := by
  have H0 : Hid (_ ∧ _) := ⟨hm, Below.refl w.heap.size w⟩
  clear hm
  have RA : Hid (a.bs xs w) := hRa
  have RB : Hid (b.bs ys w) := hRb
  have RC : Hid (c.bs zs w) := hRc
  clear hRa hRb hRc
  go_enter Tryd.func10, Tryd.ntmps10
  refine wp_seq ?_
  refine walk_seqB 1 [.quiet (.bool false)] H0 ?ho1 ?he1
  case ho1 => exact ak (fun _ => ⟨rfl, fun _ _ => rfl⟩) trivial
  intro _ w1 H1
  refine rest0 rfl (then_normal (wp_seq (wp_seq ?_)))
  refine walk_seqB 13 [.quiet (.slice a.p a.n a.cp), .quiet (.int .i64 ((a.n : Nat) : Int)), .quiet (.bool false), .quiet (.bool false), .quiet (.slice b.p b.n b.cp), .quiet (.int .i64 ((b.n : Nat) : Int)), .quiet (.bool true), .quiet (.bool true), .quiet (.bool true), .gone, .gone, .gone, .quiet (.bool true)] H1 ?ho2 ?he2
  case ho2 => exact ak (fun _ => ⟨rfl, fun _ _ => rfl⟩) (ak (by refine fun γ => ⟨rfl, fun w' h => ?_⟩; clear h; go_simp) (ak (by refine fun γ => ⟨rfl, fun w' h => ?_⟩; clear h; go_simp <;> omega) (ak (fun _ => ⟨rfl, fun _ _ => rfl⟩) (ak (fun _ => ⟨rfl, fun _ _ => rfl⟩) (ak (by refine fun γ => ⟨rfl, fun w' h => ?_⟩; clear h; go_simp) (ak (by refine fun γ => ⟨rfl, fun w' h => ?_⟩; clear h; go_simp <;> omega) (ak (by refine fun γ => ⟨rfl, fun w' h => ?_⟩; clear h; go_simp) (ak (fun _ => ⟨rfl, fun _ _ => rfl⟩) (ak (fun γ => rfl) (ak (fun γ => rfl) (ak (fun γ => rfl) (ak (by refine fun γ => ⟨rfl, fun w' h => ?_⟩; clear h; go_simp) trivial))))))))))))
  intro _ w2 H2
  clear H1
  refine rest0 rfl (then_normal (wp_cond_true rfl (wp_seq ?_)))
  refine walk_seqB 1 [.quiet (.bool true)] H2 ?ho3 ?he3
  case ho3 => exact ak (fun _ => ⟨rfl, fun _ _ => rfl⟩) trivial
  intro _ w3 H3
  clear H2
  refine rest0 rfl (then_normal (wp_ret ?_))
  repeat (first | refine then_ret ?_ | refine block_ret ?_)
  refine bodyPost_ret (v := .bool true) (by simp [results, Tryd.results10, go_sem, *]) rfl ?_
  exact ⟨rfl, H3.out.2⟩
set_option maxHeartbeats 8000000 in
set_option maxRecDepth 100000 in
theorem derives_l3 (xs ys zs : List Int) (a b c : Pt8) (z : Int) (hk : a.n ≤ 2000) (hk2 : b.n ≤ 2000) (hl : 2000 < c.n) (w : World) (hm : Mm w [(0, ints .u32 fT 8), (1, ints .u32 kT 64)]) (hRa : a.bs xs w) (hRb : b.bs ys w) (hRc : c.bs zs w) :
    Calls Tryd.prog 10 #[.slice a.p a.n a.cp, .slice b.p b.n b.cp, .slice c.p c.n c.cp, .int .i64 z] w fun e w' => e = .returned (.bool true) ∧ Below w.heap.size w w' := by
  have H0 : Hid (_ ∧ _) := ⟨hm, Below.refl w.heap.size w⟩
  clear hm
  have RA : Hid (a.bs xs w) := hRa
  have RB : Hid (b.bs ys w) := hRb
  have RC : Hid (c.bs zs w) := hRc
  clear hRa hRb hRc
  go_enter Tryd.func10, Tryd.ntmps10
  refine wp_seq ?_
  refine walk_seqB 1 [.quiet (.bool false)] H0 ?ho1 ?he1
  case ho1 => exact ak (fun _ => ⟨rfl, fun _ _ => rfl⟩) trivial
  intro _ w1 H1
  refine rest0 rfl (then_normal (wp_seq (wp_seq ?_)))
  refine walk_seqB 13 [.quiet (.slice a.p a.n a.cp), .quiet (.int .i64 ((a.n : Nat) : Int)), .quiet (.bool false), .quiet (.bool false), .quiet (.slice b.p b.n b.cp), .quiet (.int .i64 ((b.n : Nat) : Int)), .quiet (.bool false), .quiet (.bool false), .quiet (.bool false), .quiet (.slice c.p c.n c.cp), .quiet (.int .i64 ((c.n : Nat) : Int)), .quiet (.bool true), .quiet (.bool true)] H1 ?ho2 ?he2
  case ho2 => exact ak (fun _ => ⟨rfl, fun _ _ => rfl⟩) (ak (by refine fun γ => ⟨rfl, fun w' h => ?_⟩; clear h; go_simp) (ak (by refine fun γ => ⟨rfl, fun w' h => ?_⟩; clear h; go_simp <;> omega) (ak (fun _ => ⟨rfl, fun _ _ => rfl⟩) (ak (fun _ => ⟨rfl, fun _ _ => rfl⟩) (ak (by refine fun γ => ⟨rfl, fun w' h => ?_⟩; clear h; go_simp) (ak (by refine fun γ => ⟨rfl, fun w' h => ?_⟩; clear h; go_simp <;> omega) (ak (by refine fun γ => ⟨rfl, fun w' h => ?_⟩; clear h; go_simp) (ak (fun _ => ⟨rfl, fun _ _ => rfl⟩) (ak (fun _ => ⟨rfl, fun _ _ => rfl⟩) (ak (by refine fun γ => ⟨rfl, fun w' h => ?_⟩; clear h; go_simp) (ak (by refine fun γ => ⟨rfl, fun w' h => ?_⟩; clear h; go_simp <;> omega) (ak (by refine fun γ => ⟨rfl, fun w' h => ?_⟩; clear h; go_simp) trivial))))))))))))
  intro _ w2 H2
  clear H1
  refine rest0 rfl (then_normal (wp_cond_true rfl (wp_seq ?_)))
  refine walk_seqB 1 [.quiet (.bool true)] H2 ?ho3 ?he3
  case ho3 => exact ak (fun _ => ⟨rfl, fun _ _ => rfl⟩) trivial
  intro _ w3 H3
  clear H2
  refine rest0 rfl (then_normal (wp_ret ?_))
  repeat (first | refine then_ret ?_ | refine block_ret ?_)
  refine bodyPost_ret (v := .bool true) (by simp [results, Tryd.results10, go_sem, *]) rfl ?_
  exact ⟨rfl, H3.out.2⟩
set_option maxHeartbeats 8000000 in
set_option maxRecDepth 100000 in
theorem derives_ok (xs ys zs : List Int) (a b c : Pt8) (ha : Ar xs a) (hb : Ar ys b) (hc : Ar zs c) (n : Nat) (hn : n ≤ 8160) (hka : a.n ≤ 2000) (hkb : b.n ≤ 2000) (hkc : c.n ≤ 2000) (w : World) (hm : Mm w [(0, ints .u32 fT 8), (1, ints .u32 kT 64)]) (hRa : a.bs xs w) (hRb : b.bs ys w) (hRc : c.bs zs w) :
    Calls Tryd.prog 10 #[.slice a.p a.n a.cp, .slice b.p b.n b.cp, .slice c.p c.n c.cp, .int .i64 ((n : Nat) : Int)] w fun e w' => e = .returned (.bool true) ∧ Below w.heap.size w w' := by
  have H0 : Hid (_ ∧ _) := ⟨hm, Below.refl w.heap.size w⟩
  clear hm
  have RA : Hid (a.bs xs w) := hRa
  have RB : Hid (b.bs ys w) := hRb
  have RC : Hid (c.bs zs w) := hRc
  clear hRa hRb hRc
  go_enter Tryd.func10, Tryd.ntmps10
  refine wp_seq ?_
  refine walk_seqB 1 [.quiet (.bool false)] H0 ?ho1 ?he1
  case ho1 => exact ak (fun _ => ⟨rfl, fun _ _ => rfl⟩) trivial
  intro _ w1 H1
  refine rest0 rfl (then_normal (wp_seq (wp_seq ?_)))
  refine walk_seqB 13 [.quiet (.slice a.p a.n a.cp), .quiet (.int .i64 ((a.n : Nat) : Int)), .quiet (.bool false), .quiet (.bool false), .quiet (.slice b.p b.n b.cp), .quiet (.int .i64 ((b.n : Nat) : Int)), .quiet (.bool false), .quiet (.bool false), .quiet (.bool false), .quiet (.slice c.p c.n c.cp), .quiet (.int .i64 ((c.n : Nat) : Int)), .quiet (.bool false), .quiet (.bool false)] H1 ?ho2 ?he2
  case ho2 => exact ak (fun _ => ⟨rfl, fun _ _ => rfl⟩) (ak (by refine fun γ => ⟨rfl, fun w' h => ?_⟩; clear h; go_simp) (ak (by refine fun γ => ⟨rfl, fun w' h => ?_⟩; clear h; go_simp <;> omega) (ak (fun _ => ⟨rfl, fun _ _ => rfl⟩) (ak (fun _ => ⟨rfl, fun _ _ => rfl⟩) (ak (by refine fun γ => ⟨rfl, fun w' h => ?_⟩; clear h; go_simp) (ak (by refine fun γ => ⟨rfl, fun w' h => ?_⟩; clear h; go_simp <;> omega) (ak (by refine fun γ => ⟨rfl, fun w' h => ?_⟩; clear h; go_simp) (ak (fun _ => ⟨rfl, fun _ _ => rfl⟩) (ak (fun _ => ⟨rfl, fun _ _ => rfl⟩) (ak (by refine fun γ => ⟨rfl, fun w' h => ?_⟩; clear h; go_simp) (ak (by refine fun γ => ⟨rfl, fun w' h => ?_⟩; clear h; go_simp <;> omega) (ak (by refine fun γ => ⟨rfl, fun w' h => ?_⟩; clear h; go_simp) trivial))))))))))))
  intro _ w2 H2
  clear H1
  refine rest0 rfl (then_normal (wp_cond_false rfl ?_))
  refine wp_skip (then_normal (wp_seq ?_))
  refine (walk_seq) 6 [.quiet (.slice a.p a.n a.cp), .born (fun g => .slice (some ⟨g, 0, none⟩) a.n (a.n + 3)) (ints .u8 (lf xs) (a.n + 3)), .quiet (.slice b.p b.n b.cp), .born (fun g => .slice (some ⟨g, 0, none⟩) b.n (b.n + 3)) (ints .u8 (lf ys) (b.n + 3)), .quiet (.slice c.p c.n c.cp), .born (fun g => .slice (some ⟨g, 0, none⟩) c.n (c.n + 3)) (ints .u8 (lf zs) (c.n + 3))] (fun u' => Mm u' [(0, ints .u32 fT 8), (1, ints .u32 kT 64)] ∧ (a.bs xs u' ∧ b.bs ys u' ∧ c.bs zs u')) ?pre3 ?F3 ?hpre3 (fun γ => ?hF3) (by kernel_rfl) ?hL3 ?hS3 ?ho3 ?he3
  case hpre3 => simp only [tk, tz]; rfl
  case hF3 => simp only [fill, Kind.val, Act.put, sa, sz, ss]; rfl
  case hL3 => exact trivial
  case hS3 => exact fun w' hb => ⟨H2.out.1.below hb, ⟨RA.out.below (H2.out.2.trans (hb.mono H2.out.2.size)), RB.out.below (H2.out.2.trans (hb.mono H2.out.2.size)), RC.out.below (H2.out.2.trans (hb.mono H2.out.2.size))⟩⟩
  case ho3 =>
    refine ak (fun _ => ⟨rfl, fun _ _ => rfl⟩) ?_
    refine ak (fun γ => ⟨rfl, fun w' hX => ⟨13, #[.slice a.p a.n a.cp], exec_call rfl call13 rfl (mpn rfl), lent_part ha (by omega) w' hX.2.1⟩⟩) ?_
    refine ak (fun _ => ⟨rfl, fun _ _ => rfl⟩) ?_
    refine ak (fun γ => ⟨rfl, fun w' hX => ⟨13, #[.slice b.p b.n b.cp], exec_call rfl call13 rfl (mpn rfl), lent_part hb (by omega) w' hX.2.2.1⟩⟩) ?_
    refine ak (fun _ => ⟨rfl, fun _ _ => rfl⟩) ?_
    refine ak (fun γ => ⟨rfl, fun w' hX => ⟨13, #[.slice c.p c.n c.cp], exec_call rfl call13 rfl (mpn rfl), lent_part hc (by omega) w' hX.2.2.2⟩⟩) ?_
    exact trivial
  intro γ w3 l hM hl
  have H3 : Hid (Mm w3 [(γ 1, ints .u8 (lf xs) (a.n + 3)), (γ 3, ints .u8 (lf ys) (b.n + 3)), (γ 5, ints .u8 (lf zs) (c.n + 3)), (0, ints .u32 fT 8), (1, ints .u32 kT 64)] ∧ _) := growB H2 hM (Nat.le_refl _) hl [1, 3, 5] rfl (by decide)
  have o3_1 := ownB H2 hM (Nat.le_refl _) hl (i := 1) rfl
  have o3_3 := ownB H2 hM (Nat.le_refl _) hl (i := 3) rfl
  have o3_5 := ownB H2 hM (Nat.le_refl _) hl (i := 5) rfl
  clear hM hl l H2
  generalize γ 1 = γ3_1 at H3 o3_1 ⊢
  generalize γ 3 = γ3_3 at H3 o3_3 ⊢
  generalize γ 5 = γ3_5 at H3 o3_5 ⊢
  clear γ
  refine rest_at (l := [6, 7, 8]) rfl ?_
  refine rest_set (d := 9) (v := .slice (some ⟨γ3_1, 0, none⟩) a.n (a.n + 3)) (w' := w3) rfl rfl rfl rfl ?_
  simp only [Act.put, sa, sz, ss]
  refine rest_set (d := 10) (v := .slice (some ⟨γ3_3, 0, none⟩) b.n (b.n + 3)) (w' := w3) rfl rfl rfl rfl ?_
  simp only [Act.put, sa, sz, ss]
  refine rest_set (d := 11) (v := .slice (some ⟨γ3_5, 0, none⟩) c.n (c.n + 3)) (w' := w3) rfl rfl rfl rfl ?_
  simp only [Act.put, sa, sz, ss]
  refine rest_nil (then_normal (wp_seq ?_))
  refine walk_seqA 4 [.quiet (.slice (some ⟨γ3_3, 0, none⟩) b.n (b.n + 3)), .quiet (.slice (some ⟨γ3_5, 0, none⟩) c.n (c.n + 3)), .quiet (.int .i64 ((n : Nat) : Int)), .born (fun g => .tuple #[.slice (some ⟨g, 0, none⟩) n n, .int .i64 0]) (ints .u8 (xpd (kf (lf ys) b.n) (lf zs) c.n) n)] (sB H3) ?ho4 ?he4
  case ho4 => exact ak (fun _ => ⟨rfl, fun _ _ => rfl⟩) (ak (fun _ => ⟨rfl, fun _ _ => rfl⟩) (ak (fun _ => ⟨rfl, fun _ _ => rfl⟩) (ak (fun γ => ⟨rfl, fun w' h => ⟨37, #[.slice (some ⟨γ3_3, 0, none⟩) b.n (b.n + 3), .slice (some ⟨γ3_5, 0, none⟩) c.n (c.n + 3), .int .i64 ((n : Nat) : Int)], exec_call rfl call37 rfl (mpn rfl), Expand_ok (pc γ3_3 b.n (b.n + 3) (lf ys)) (pc γ3_5 c.n (c.n + 3) (lf zs)) n (pc_ok _ _ _ _) (pc_ok _ _ _ _) (show b.n < 4611686018427387904 by omega) (show c.n ≤ 1048576 by omega) hn w' (h.two 3 4 rfl rfl (by decide)) (h.rs 1 rfl (Nat.le_add_right _ _)) (h.rs 2 rfl (Nat.le_add_right _ _))⟩⟩) trivial)))
  intro γ w4 l hM hl
  have H4 : Hid (Mm w4 [(γ 3, ints .u8 (xpd (kf (lf ys) b.n) (lf zs) c.n) n), (γ3_1, ints .u8 (lf xs) (a.n + 3)), (γ3_3, ints .u8 (lf ys) (b.n + 3)), (γ3_5, ints .u8 (lf zs) (c.n + 3)), (0, ints .u32 fT 8), (1, ints .u32 kT 64)] ∧ _) := growB H3 hM (Nat.le_refl _) hl [3] rfl (by decide)
  have o4_3 := ownB H3 hM (Nat.le_refl _) hl (i := 3) rfl
  clear hM hl l H3
  generalize γ 3 = γ4_3 at H4 o4_3 ⊢
  clear γ
  refine rest_at (l := [4, 5, 6, 7, 8]) rfl ?_
  refine rest_set (d := 39) (v := .tuple #[.slice (some ⟨γ4_3, 0, none⟩) n n, .int .i64 0]) (w' := w4) rfl rfl rfl rfl ?_
  simp only [Act.put, sa, sz, ss]
  refine rest_set (d := 44) (v := .slice (some ⟨γ4_3, 0, none⟩) n n) (w' := w4) rfl rfl rfl (by go_simp) ?_
  simp only [Act.put, sa, sz, ss]
  refine rest_set (d := 45) (v := .int .i64 0) (w' := w4) rfl rfl rfl (by go_simp) ?_
  simp only [Act.put, sa, sz, ss]
  refine rest_set (d := 12) (v := .slice (some ⟨γ4_3, 0, none⟩) n n) (w' := w4) rfl rfl rfl rfl ?_
  simp only [Act.put, sa, sz, ss]
  refine rest_set (d := 13) (v := .int .i64 0) (w' := w4) rfl rfl rfl rfl ?_
  simp only [Act.put, sa, sz, ss]
  refine rest_nil (then_normal (wp_seq ?_))
  refine walk_seqB 3 [.quiet (.slice b.p b.n b.cp), .quiet (.slice c.p c.n c.cp), .quiet (.int .i64 ((n : Nat) : Int))] H4 ?ho5 ?he5
  case ho5 => exact ak (fun _ => ⟨rfl, fun _ _ => rfl⟩) (ak (fun _ => ⟨rfl, fun _ _ => rfl⟩) (ak (fun _ => ⟨rfl, fun _ _ => rfl⟩) trivial))
  intro _ w5 H5
  clear H4
  refine rest_at (l := [3, 4, 5, 6, 7, 8]) rfl ?_
  refine rest_enter (d := 50) rfl rfl rfl (exec_call (args := #[.slice b.p b.n b.cp, .slice c.p c.n c.cp, .int .i64 ((n : Nat) : Int)]) rfl call38 rfl (mpn rfl)) ((Calls.mono (dExpand_ok b c n hb.ok hc.ok hb.nn hc.nn (by omega) (by omega) hn w5 (RB.out.below H5.out.2).2 (RC.out.below H5.out.2).2) (fun e w2 hh => by obtain ⟨v, c', he, h1, h2⟩ := hh; exact ⟨_, he, v, c', rfl, h1, h2⟩) : Calls Tryd.prog 38 #[.slice b.p b.n b.cp, .slice c.p c.n c.cp, .int .i64 ((n : Nat) : Int)] w5 (fun e w' => ∃ v, e = .returned v ∧ (∃ u c', v = .tuple #[u, .int .i64 0] ∧ BSl w' ((List.range n).map fun i => (((xd (kd b.f b.n) c.f c.n) i : Nat) : Int)) c' u ∧ Below w5.heap.size w5 w')))) ?_
  rintro _ w6 ⟨u5, c5, rfl, hB3, hb3⟩
  have H6 : Hid (Mm w6 [(γ4_3, ints .u8 (xpd (kf (lf ys) b.n) (lf zs) c.n) n), (γ3_1, ints .u8 (lf xs) (a.n + 3)), (γ3_3, ints .u8 (lf ys) (b.n + 3)), (γ3_5, ints .u8 (lf zs) (c.n + 3)), (0, ints .u32 fT 8), (1, ints .u32 kT 64)] ∧ Bk w (fun u => BSl u ((List.range n).map fun i => (((xd (kd b.f b.n) c.f c.n) i : Nat) : Int)) c5 u5) w6) := ⟨H5.out.1.below hb3, Bk.of H5.out.2 hb3 hB3⟩
  clear hb3 hB3 H5
  simp only [Act.put, sa, sz, ss]
  refine rest_set (d := 46) (v := .tuple #[u5, .int .i64 0]) (w' := w6) rfl rfl rfl rfl ?_
  simp only [Act.put, sa, sz, ss]
  refine rest_set (d := 51) (v := u5) (w' := w6) rfl rfl rfl (by go_simp) ?_
  simp only [Act.put, sa, sz, ss]
  refine rest_set (d := 52) (v := .int .i64 0) (w' := w6) rfl rfl rfl (by go_simp) ?_
  simp only [Act.put, sa, sz, ss]
  refine rest_set (d := 14) (v := u5) (w' := w6) rfl rfl rfl rfl ?_
  simp only [Act.put, sa, sz, ss]
  refine rest_set (d := 15) (v := .int .i64 0) (w' := w6) rfl rfl rfl rfl ?_
  simp only [Act.put, sa, sz, ss]
  refine rest_nil (then_normal (wp_seq ?_))
  refine walk_seqA 5 [.quiet (.slice (some ⟨γ3_1, 0, none⟩) a.n (a.n + 3)), .quiet (.slice (some ⟨γ3_3, 0, none⟩) b.n (b.n + 3)), .quiet (.slice (some ⟨γ3_5, 0, none⟩) c.n (c.n + 3)), .quiet (.int .i64 ((n : Nat) : Int)), .born (fun g => .tuple #[.slice (some ⟨g, 0, none⟩) n n, .int .i64 0]) (ints .u8 (xpd (kf (hmc (kf (lf xs) a.n) (lf ys) b.n) 32) (lf zs) c.n) n)] (sB H6) ?ho6 ?he6
  case ho6 => exact ak (fun _ => ⟨rfl, fun _ _ => rfl⟩) (ak (fun _ => ⟨rfl, fun _ _ => rfl⟩) (ak (fun _ => ⟨rfl, fun _ _ => rfl⟩) (ak (fun _ => ⟨rfl, fun _ _ => rfl⟩) (ak (fun γ => ⟨rfl, fun w' h => ⟨39, #[.slice (some ⟨γ3_1, 0, none⟩) a.n (a.n + 3), .slice (some ⟨γ3_3, 0, none⟩) b.n (b.n + 3), .slice (some ⟨γ3_5, 0, none⟩) c.n (c.n + 3), .int .i64 ((n : Nat) : Int)], exec_call rfl call39 rfl (mpn rfl), Derive_ok (pc γ3_1 a.n (a.n + 3) (lf xs)) (pc γ3_3 b.n (b.n + 3) (lf ys)) (pc γ3_5 c.n (c.n + 3) (lf zs)) n (pc_ok _ _ _ _) (pc_ok _ _ _ _) (pc_ok _ _ _ _) (show a.n < 4611686018427387904 by omega) (show b.n ≤ 1048576 by omega) (show c.n ≤ 1048576 by omega) hn w' (h.two 4 5 rfl rfl (by decide)) (h.rs 1 rfl (Nat.le_add_right _ _)) (h.rs 2 rfl (Nat.le_add_right _ _)) (h.rs 3 rfl (Nat.le_add_right _ _))⟩⟩) trivial))))
  intro γ w7 l hM hl
  have M7 : Mm w7 [(γ 4, ints .u8 (xpd (kf (hmc (kf (lf xs) a.n) (lf ys) b.n) 32) (lf zs) c.n) n), (γ4_3, ints .u8 (xpd (kf (lf ys) b.n) (lf zs) c.n) n), (γ3_1, ints .u8 (lf xs) (a.n + 3)), (γ3_3, ints .u8 (lf ys) (b.n + 3)), (γ3_5, ints .u8 (lf zs) (c.n + 3)), (0, ints .u32 fT 8), (1, ints .u32 kT 64)] := H6.out.1.grow hM (Nat.le_refl _) hl [4] rfl (by decide)
  have B7 : Bk w (fun u => BSl u ((List.range n).map fun i => (((xd (kd b.f b.n) c.f c.n) i : Nat) : Int)) c5 u5) w7 := Bk.step H6.out.2 (hM.below)
  have o6_4 : Hid (w.heap.size ≤ γ 4) := Nat.le_trans H6.out.2.size (hM.fin (Nat.le_refl _) hl (i := 4) rfl).2.1
  clear hM hl l H6
  generalize γ 4 = γ6_4 at M7 o6_4 ⊢
  clear γ
  have H7 : Hid (_ ∧ _) := ⟨M7, B7⟩
  clear M7 B7
  refine rest_at (l := [5, 6, 7, 8, 9]) rfl ?_
  refine rest_set (d := 53) (v := .tuple #[.slice (some ⟨γ6_4, 0, none⟩) n n, .int .i64 0]) (w' := w7) rfl rfl rfl rfl ?_
  simp only [Act.put, sa, sz, ss]
  refine rest_set (d := 59) (v := .slice (some ⟨γ6_4, 0, none⟩) n n) (w' := w7) rfl rfl rfl (by go_simp) ?_
  simp only [Act.put, sa, sz, ss]
  refine rest_set (d := 60) (v := .int .i64 0) (w' := w7) rfl rfl rfl (by go_simp) ?_
  simp only [Act.put, sa, sz, ss]
  refine rest_set (d := 16) (v := .slice (some ⟨γ6_4, 0, none⟩) n n) (w' := w7) rfl rfl rfl rfl ?_
  simp only [Act.put, sa, sz, ss]
  refine rest_set (d := 17) (v := .int .i64 0) (w' := w7) rfl rfl rfl rfl ?_
  simp only [Act.put, sa, sz, ss]
  refine rest_nil (then_normal (wp_seq ?_))
  refine walk_seqA 4 [.quiet (.slice a.p a.n a.cp), .quiet (.slice b.p b.n b.cp), .quiet (.slice c.p c.n c.cp), .quiet (.int .i64 ((n : Nat) : Int))] (sB H7) ?ho7 ?he7
  case ho7 => exact ak (fun _ => ⟨rfl, fun _ _ => rfl⟩) (ak (fun _ => ⟨rfl, fun _ _ => rfl⟩) (ak (fun _ => ⟨rfl, fun _ _ => rfl⟩) (ak (fun _ => ⟨rfl, fun _ _ => rfl⟩) trivial)))
  intro γ w8 l hM hl
  have M8 : Mm w8 [(γ6_4, ints .u8 (xpd (kf (hmc (kf (lf xs) a.n) (lf ys) b.n) 32) (lf zs) c.n) n), (γ4_3, ints .u8 (xpd (kf (lf ys) b.n) (lf zs) c.n) n), (γ3_1, ints .u8 (lf xs) (a.n + 3)), (γ3_3, ints .u8 (lf ys) (b.n + 3)), (γ3_5, ints .u8 (lf zs) (c.n + 3)), (0, ints .u32 fT 8), (1, ints .u32 kT 64)] := H7.out.1.grow hM (Nat.le_refl _) hl [] rfl (by decide)
  have B8 : Bk w (fun u => BSl u ((List.range n).map fun i => (((xd (kd b.f b.n) c.f c.n) i : Nat) : Int)) c5 u5) w8 := Bk.step H7.out.2 (hM.below)
  clear hM hl l H7
  clear γ
  have H8 : Hid (_ ∧ _) := ⟨M8, B8⟩
  clear M8 B8
  refine rest_at (l := [4, 5, 6, 7, 8, 9]) rfl ?_
  refine rest_enter (d := 66) rfl rfl rfl (exec_call (args := #[.slice a.p a.n a.cp, .slice b.p b.n b.cp, .slice c.p c.n c.cp, .int .i64 ((n : Nat) : Int)]) rfl call40 rfl (mpn rfl)) ((Calls.mono (dDerive_ok a b c n ha.ok hb.ok hc.ok ha.nn hb.nn hc.nn (by omega) (by omega) (by omega) hn w8 (RA.out.below H8.out.2.b).2 (RB.out.below H8.out.2.b).2 (RC.out.below H8.out.2.b).2) (fun e w2 hh => by obtain ⟨v, c', he, h1, h2⟩ := hh; exact ⟨_, he, v, c', rfl, h1, h2⟩) : Calls Tryd.prog 40 #[.slice a.p a.n a.cp, .slice b.p b.n b.cp, .slice c.p c.n c.cp, .int .i64 ((n : Nat) : Int)] w8 (fun e w' => ∃ v, e = .returned v ∧ (∃ u c', v = .tuple #[u, .int .i64 0] ∧ BSl w' ((List.range n).map fun i => (((xd (kd (dh (kd a.f a.n) b.f b.n) 32) c.f c.n) i : Nat) : Int)) c' u ∧ Below w8.heap.size w8 w')))) ?_
  rintro _ w9 ⟨u7, c7, rfl, hB3, hb3⟩
  have H9 : Hid (Mm w9 [(γ6_4, ints .u8 (xpd (kf (hmc (kf (lf xs) a.n) (lf ys) b.n) 32) (lf zs) c.n) n), (γ4_3, ints .u8 (xpd (kf (lf ys) b.n) (lf zs) c.n) n), (γ3_1, ints .u8 (lf xs) (a.n + 3)), (γ3_3, ints .u8 (lf ys) (b.n + 3)), (γ3_5, ints .u8 (lf zs) (c.n + 3)), (0, ints .u32 fT 8), (1, ints .u32 kT 64)] ∧ Bk w (fun u => BSl u ((List.range n).map fun i => (((xd (kd b.f b.n) c.f c.n) i : Nat) : Int)) c5 u5 ∧ BSl u ((List.range n).map fun i => (((xd (kd (dh (kd a.f a.n) b.f b.n) 32) c.f c.n) i : Nat) : Int)) c7 u7) w9) := ⟨H8.out.1.below hb3, Bk.and H8.out.2 hb3 hB3⟩
  clear hb3 hB3 H8
  simp only [Act.put, sa, sz, ss]
  refine rest_set (d := 61) (v := .tuple #[u7, .int .i64 0]) (w' := w9) rfl rfl rfl rfl ?_
  simp only [Act.put, sa, sz, ss]
  refine rest_set (d := 67) (v := u7) (w' := w9) rfl rfl rfl (by go_simp) ?_
  simp only [Act.put, sa, sz, ss]
  refine rest_set (d := 68) (v := .int .i64 0) (w' := w9) rfl rfl rfl (by go_simp) ?_
  simp only [Act.put, sa, sz, ss]
  refine rest_set (d := 18) (v := u7) (w' := w9) rfl rfl rfl rfl ?_
  simp only [Act.put, sa, sz, ss]
  refine rest_set (d := 19) (v := .int .i64 0) (w' := w9) rfl rfl rfl rfl ?_
  simp only [Act.put, sa, sz, ss]
  refine rest_nil (then_normal ?_)
  refine wp_seq (wp_seq ?_)
  refine (walk_seq) 20 [.quiet (.slice (some ⟨γ4_3, 0, none⟩) n n), .quiet (u5), .call (.bool true), .quiet (.bool false), .quiet (.bool false), .quiet (.int .i64 0), .quiet (.int .i64 0), .quiet (.bool false), .quiet (.bool false), .quiet (.bool false), .quiet (.slice (some ⟨γ6_4, 0, none⟩) n n), .quiet (u7), .call (.bool true), .quiet (.bool false), .quiet (.bool false), .quiet (.bool false), .quiet (.int .i64 0), .quiet (.int .i64 0), .quiet (.bool false), .quiet (.bool false)] (fun u' => Mm u' [(γ6_4, ints .u8 (xpd (kf (hmc (kf (lf xs) a.n) (lf ys) b.n) 32) (lf zs) c.n) n), (γ4_3, ints .u8 (xpd (kf (lf ys) b.n) (lf zs) c.n) n), (γ3_1, ints .u8 (lf xs) (a.n + 3)), (γ3_3, ints .u8 (lf ys) (b.n + 3)), (γ3_5, ints .u8 (lf zs) (c.n + 3)), (0, ints .u32 fT 8), (1, ints .u32 kT 64)] ∧ (a.bs xs u' ∧ b.bs ys u' ∧ c.bs zs u' ∧ BSl u'  ((List.range n).map fun i => (((xd (kd b.f b.n) c.f c.n) i : Nat) : Int)) c5 u5 ∧ BSl u'  ((List.range n).map fun i => (((xd (kd (dh (kd a.f a.n) b.f b.n) 32) c.f c.n) i : Nat) : Int)) c7 u7)) ?pre8 ?F8 ?hpre8 (fun γ => ?hF8) (by kernel_rfl) ?hL8 ?hS8 ?ho8 ?he8
  case hpre8 => simp only [tk, tz]; rfl
  case hF8 => simp only [fill, Kind.val, Act.put, sa, sz, ss]; rfl
  case hL8 => exact trivial
  case hS8 => exact fun w' hb => ⟨H9.out.1.below hb, ⟨RA.out.below (Bk.step H9.out.2 (hb)).b, RB.out.below (Bk.step H9.out.2 (hb)).b, RC.out.below (Bk.step H9.out.2 (hb)).b, (Bk.step H9.out.2 (hb)).r⟩⟩
  case ho8 =>
    refine ak (fun _ => ⟨rfl, fun _ _ => rfl⟩) ?_
    refine ak (fun _ => ⟨rfl, fun _ _ => rfl⟩) ?_
    refine ak (fun γ => ⟨rfl, fun w' hX => have h := hX.1; ⟨36, #[.slice (some ⟨γ4_3, 0, none⟩) n n, u5], exec_call rfl call36 rfl (mpn rfl), same_fg (h.bsl 1 rfl (Nat.le_refl _) (Nat.le_refl _)) hX.2.2.2.2.1 (fit1 hb hc hkb hkc)⟩⟩) ?_
    refine ak (by refine fun γ => ⟨rfl, fun w' h => ?_⟩; clear h; go_simp) ?_
    refine ak (fun _ => ⟨rfl, fun _ _ => rfl⟩) ?_
    refine ak (fun _ => ⟨rfl, fun _ _ => rfl⟩) ?_
    refine ak (fun _ => ⟨rfl, fun _ _ => rfl⟩) ?_
    refine ak (by refine fun γ => ⟨rfl, fun w' h => ?_⟩; clear h; go_simp <;> omega) ?_
    refine ak (by refine fun γ => ⟨rfl, fun w' h => ?_⟩; clear h; go_simp) ?_
    refine ak (fun _ => ⟨rfl, fun _ _ => rfl⟩) ?_
    refine ak (fun _ => ⟨rfl, fun _ _ => rfl⟩) ?_
    refine ak (fun _ => ⟨rfl, fun _ _ => rfl⟩) ?_
    refine ak (fun γ => ⟨rfl, fun w' hX => have h := hX.1; ⟨36, #[.slice (some ⟨γ6_4, 0, none⟩) n n, u7], exec_call rfl call36 rfl (mpn rfl), same_fg (h.bsl 0 rfl (Nat.le_refl _) (Nat.le_refl _)) hX.2.2.2.2.2 (fit2 ha hb hc hka hkb hkc)⟩⟩) ?_
    refine ak (by refine fun γ => ⟨rfl, fun w' h => ?_⟩; clear h; go_simp) ?_
    refine ak (by refine fun γ => ⟨rfl, fun w' h => ?_⟩; clear h; go_simp) ?_
    refine ak (fun _ => ⟨rfl, fun _ _ => rfl⟩) ?_
    refine ak (fun _ => ⟨rfl, fun _ _ => rfl⟩) ?_
    refine ak (fun _ => ⟨rfl, fun _ _ => rfl⟩) ?_
    refine ak (by refine fun γ => ⟨rfl, fun w' h => ?_⟩; clear h; go_simp <;> omega) ?_
    refine ak (by refine fun γ => ⟨rfl, fun w' h => ?_⟩; clear h; go_simp) ?_
    exact trivial
  intro γ w10 l hM hl
  have M10 : Mm w10 [(γ6_4, ints .u8 (xpd (kf (hmc (kf (lf xs) a.n) (lf ys) b.n) 32) (lf zs) c.n) n), (γ4_3, ints .u8 (xpd (kf (lf ys) b.n) (lf zs) c.n) n), (γ3_1, ints .u8 (lf xs) (a.n + 3)), (γ3_3, ints .u8 (lf ys) (b.n + 3)), (γ3_5, ints .u8 (lf zs) (c.n + 3)), (0, ints .u32 fT 8), (1, ints .u32 kT 64)] := H9.out.1.grow hM (Nat.le_refl _) hl [] rfl (by decide)
  have B10 : Bk w (fun u => BSl u ((List.range n).map fun i => (((xd (kd b.f b.n) c.f c.n) i : Nat) : Int)) c5 u5 ∧ BSl u ((List.range n).map fun i => (((xd (kd (dh (kd a.f a.n) b.f b.n) 32) c.f c.n) i : Nat) : Int)) c7 u7) w10 := Bk.step H9.out.2 (hM.below)
  clear hM hl l H9
  clear γ
  have H10 : Hid (_ ∧ _) := ⟨M10, B10⟩
  clear M10 B10
  refine rest0 rfl (then_normal (wp_cond_false rfl ?_))
  refine wp_skip (then_normal (wp_seq ?_))
  refine walk_seqA 5 [.quiet (.slice (some ⟨γ4_3, 0, none⟩) n n), .quiet (.slice (some ⟨γ6_4, 0, none⟩) n n), .quiet (.slice (some ⟨γ3_1, 0, none⟩) a.n (a.n + 3)), .quiet (.slice (some ⟨γ3_3, 0, none⟩) b.n (b.n + 3)), .quiet (.slice (some ⟨γ3_5, 0, none⟩) c.n (c.n + 3))] (sB H10) ?ho9 ?he9
  case ho9 => exact ak (fun _ => ⟨rfl, fun _ _ => rfl⟩) (ak (fun _ => ⟨rfl, fun _ _ => rfl⟩) (ak (fun _ => ⟨rfl, fun _ _ => rfl⟩) (ak (fun _ => ⟨rfl, fun _ _ => rfl⟩) (ak (fun _ => ⟨rfl, fun _ _ => rfl⟩) trivial))))
  intro γ w11 l hM hl
  have M11 : Mm w11 [(γ6_4, ints .u8 (xpd (kf (hmc (kf (lf xs) a.n) (lf ys) b.n) 32) (lf zs) c.n) n), (γ4_3, ints .u8 (xpd (kf (lf ys) b.n) (lf zs) c.n) n), (γ3_1, ints .u8 (lf xs) (a.n + 3)), (γ3_3, ints .u8 (lf ys) (b.n + 3)), (γ3_5, ints .u8 (lf zs) (c.n + 3)), (0, ints .u32 fT 8), (1, ints .u32 kT 64)] := H10.out.1.grow hM (Nat.le_refl _) hl [] rfl (by decide)
  have B11 : Bk w (fun u => BSl u ((List.range n).map fun i => (((xd (kd b.f b.n) c.f c.n) i : Nat) : Int)) c5 u5 ∧ BSl u ((List.range n).map fun i => (((xd (kd (dh (kd a.f a.n) b.f b.n) 32) c.f c.n) i : Nat) : Int)) c7 u7) w11 := Bk.step H10.out.2 (hM.below)
  clear hM hl l H10
  clear γ
  have H11 : Hid (_ ∧ _) := ⟨M11, B11⟩
  clear M11 B11
  refine rest_at (l := [5, 6, 7, 8, 9, 10, 11, 12, 13, 14, 15, 16, 17, 18, 19, 20, 21, 22]) rfl ?_
  refine rest_set (d := 94) (v := .slice (some ⟨w11.heap.size, 0, none⟩) 5 5) (w' := (w11.alloc (.cells ([Value.slice (some ⟨γ4_3, 0, none⟩) n n, Value.slice (some ⟨γ6_4, 0, none⟩) n n, Value.slice (some ⟨γ3_1, 0, none⟩) a.n (a.n + 3), Value.slice (some ⟨γ3_3, 0, none⟩) b.n (b.n + 3), Value.slice (some ⟨γ3_5, 0, none⟩) c.n (c.n + 3)] : List Value).toArray 22))) rfl rfl rfl (ex_bsL5 rfl rfl rfl rfl rfl rfl) ?_
  simp only [Act.put, sa, sz, ss]
  have o_γs12 : Hid (w.heap.size ≤ w11.heap.size) := H11.out.2.size
  have H12 : Hid (Mm (w11.alloc (.cells ([Value.slice (some ⟨γ4_3, 0, none⟩) n n, Value.slice (some ⟨γ6_4, 0, none⟩) n n, Value.slice (some ⟨γ3_1, 0, none⟩) a.n (a.n + 3), Value.slice (some ⟨γ3_3, 0, none⟩) b.n (b.n + 3), Value.slice (some ⟨γ3_5, 0, none⟩) c.n (c.n + 3)] : List Value).toArray 22)) ((w11.heap.size, [Value.slice (some ⟨γ4_3, 0, none⟩) n n, Value.slice (some ⟨γ6_4, 0, none⟩) n n, Value.slice (some ⟨γ3_1, 0, none⟩) a.n (a.n + 3), Value.slice (some ⟨γ3_3, 0, none⟩) b.n (b.n + 3), Value.slice (some ⟨γ3_5, 0, none⟩) c.n (c.n + 3)]) :: [(γ6_4, ints .u8 (xpd (kf (hmc (kf (lf xs) a.n) (lf ys) b.n) 32) (lf zs) c.n) n), (γ4_3, ints .u8 (xpd (kf (lf ys) b.n) (lf zs) c.n) n), (γ3_1, ints .u8 (lf xs) (a.n + 3)), (γ3_3, ints .u8 (lf ys) (b.n + 3)), (γ3_5, ints .u8 (lf zs) (c.n + 3)), (0, ints .u32 fT 8), (1, ints .u32 kT 64)]) ∧ Bk w (fun u => BSl u ((List.range n).map fun i => (((xd (kd b.f b.n) c.f c.n) i : Nat) : Int)) c5 u5 ∧ BSl u ((List.range n).map fun i => (((xd (kd (dh (kd a.f a.n) b.f b.n) 32) c.f c.n) i : Nat) : Int)) c7 u7) (w11.alloc (.cells ([Value.slice (some ⟨γ4_3, 0, none⟩) n n, Value.slice (some ⟨γ6_4, 0, none⟩) n n, Value.slice (some ⟨γ3_1, 0, none⟩) a.n (a.n + 3), Value.slice (some ⟨γ3_3, 0, none⟩) b.n (b.n + 3), Value.slice (some ⟨γ3_5, 0, none⟩) c.n (c.n + 3)] : List Value).toArray 22))) := ⟨H11.out.1.alloc _ 22 rfl, Bk.step H11.out.2 (((Below.refl _ _).alloc (Nat.le_refl _) _))⟩
  clear H11
  generalize hgw : (w11.alloc (.cells ([Value.slice (some ⟨γ4_3, 0, none⟩) n n, Value.slice (some ⟨γ6_4, 0, none⟩) n n, Value.slice (some ⟨γ3_1, 0, none⟩) a.n (a.n + 3), Value.slice (some ⟨γ3_3, 0, none⟩) b.n (b.n + 3), Value.slice (some ⟨γ3_5, 0, none⟩) c.n (c.n + 3)] : List Value).toArray 22)) = w12 at H12 ⊢
  clear hgw
  generalize w11.heap.size = γs12 at o_γs12 H12 ⊢
  refine rest_enter (d := 95) (R := fun vv w' => vv = .bool true ∧ Below w12.heap.size w12 w') rfl rfl rfl (exec_call (args := #[.slice (some ⟨γs12, 0, none⟩) 5 5]) rfl call41 rfl (mpn rfl)) (Calls.mono (apart5 (ap_ok (Nat.le_refl _) (by omega) (xpd_lt _ _ _)) (ap_ok (Nat.le_refl _) (by omega) (xpd_lt _ _ _)) (ap_ok (Nat.le_add_right _ _) (by omega) (lf_lt ha.by_)) (ap_ok (Nat.le_add_right _ _) (by omega) (lf_lt hb.by_)) (ap_ok (Nat.le_add_right _ _) (by omega) (lf_lt hc.by_)) (H12.out.1.sel [0, 2, 1, 3, 4, 5] (by decide) rfl)) (fun e w2 hh => ⟨_, hh.1, rfl, hh.2⟩)) ?_
  rintro _ w13 ⟨rfl, hb⟩
  have H13 : Hid (_ ∧ _) := ⟨H12.out.1.below hb, Bk.step H12.out.2 (hb)⟩
  clear hb H12
  simp only [Act.put, sa, sz, ss]
  refine rest_set (d := 96) (v := .bool true) (w' := w13) rfl rfl rfl rfl ?_
  simp only [Act.put, sa, sz, ss]
  refine rest_set (d := 97) (v := .slice (some ⟨γ3_1, 0, none⟩) a.n (a.n + 3)) (w' := w13) rfl rfl rfl rfl ?_
  simp only [Act.put, sa, sz, ss]
  refine rest_set (d := 98) (v := .slice a.p a.n a.cp) (w' := w13) rfl rfl rfl rfl ?_
  simp only [Act.put, sa, sz, ss]
  refine rest_enter (d := 99) (R := fun vv w' => vv = .bool true ∧ Below w13.heap.size w13 w') rfl rfl rfl (exec_call (args := #[.slice (some ⟨γ3_1, 0, none⟩) a.n (a.n + 3), .slice a.p a.n a.cp]) rfl call16 rfl (mpn rfl)) (Calls.mono (kept_part ha (by omega) H13.out.1 3 rfl (RA.out.below H13.out.2.b)) (fun e w2 hh => ⟨_, hh.1, rfl, hh.2⟩)) ?_
  rintro _ w14 ⟨rfl, hb⟩
  have H14 : Hid (_ ∧ _) := ⟨H13.out.1.below hb, Bk.step H13.out.2 (hb)⟩
  clear hb H13
  simp only [Act.put, sa, sz, ss]
  refine rest_set (d := 100) (v := .bool true) (w' := w14) rfl rfl rfl (by go_simp) ?_
  simp only [Act.put, sa, sz, ss]
  refine rest_set (d := 101) (v := .bool true) (w' := w14) rfl rfl rfl rfl ?_
  simp only [Act.put, sa, sz, ss]
  refine rest_set (d := 102) (v := .slice (some ⟨γ3_3, 0, none⟩) b.n (b.n + 3)) (w' := w14) rfl rfl rfl rfl ?_
  simp only [Act.put, sa, sz, ss]
  refine rest_set (d := 103) (v := .slice b.p b.n b.cp) (w' := w14) rfl rfl rfl rfl ?_
  simp only [Act.put, sa, sz, ss]
  refine rest_enter (d := 104) (R := fun vv w' => vv = .bool true ∧ Below w14.heap.size w14 w') rfl rfl rfl (exec_call (args := #[.slice (some ⟨γ3_3, 0, none⟩) b.n (b.n + 3), .slice b.p b.n b.cp]) rfl call16 rfl (mpn rfl)) (Calls.mono (kept_part hb (by omega) H14.out.1 4 rfl (RB.out.below H14.out.2.b)) (fun e w2 hh => ⟨_, hh.1, rfl, hh.2⟩)) ?_
  rintro _ w15 ⟨rfl, hb⟩
  have H15 : Hid (_ ∧ _) := ⟨H14.out.1.below hb, Bk.step H14.out.2 (hb)⟩
  clear hb H14
  simp only [Act.put, sa, sz, ss]
  refine rest_set (d := 105) (v := .bool true) (w' := w15) rfl rfl rfl (by go_simp) ?_
  simp only [Act.put, sa, sz, ss]
  refine rest_set (d := 106) (v := .bool true) (w' := w15) rfl rfl rfl rfl ?_
  simp only [Act.put, sa, sz, ss]
  refine rest_set (d := 107) (v := .slice (some ⟨γ3_5, 0, none⟩) c.n (c.n + 3)) (w' := w15) rfl rfl rfl rfl ?_
  simp only [Act.put, sa, sz, ss]
  refine rest_set (d := 108) (v := .slice c.p c.n c.cp) (w' := w15) rfl rfl rfl rfl ?_
  simp only [Act.put, sa, sz, ss]
  refine rest_enter (d := 109) (R := fun vv w' => vv = .bool true ∧ Below w15.heap.size w15 w') rfl rfl rfl (exec_call (args := #[.slice (some ⟨γ3_5, 0, none⟩) c.n (c.n + 3), .slice c.p c.n c.cp]) rfl call16 rfl (mpn rfl)) (Calls.mono (kept_part hc (by omega) H15.out.1 5 rfl (RC.out.below H15.out.2.b)) (fun e w2 hh => ⟨_, hh.1, rfl, hh.2⟩)) ?_
  rintro _ w16 ⟨rfl, hb⟩
  have H16 : Hid (_ ∧ _) := ⟨H15.out.1.below hb, Bk.step H15.out.2 (hb)⟩
  clear hb H15
  simp only [Act.put, sa, sz, ss]
  refine rest_set (d := 110) (v := .bool true) (w' := w16) rfl rfl rfl (by go_simp) ?_
  simp only [Act.put, sa, sz, ss]
  refine rest_set (d := 8) (v := .bool true) (w' := w16) rfl rfl rfl rfl ?_
  simp only [Act.put, sa, sz, ss]
  refine rest_nil (then_normal (wp_ret ?_))
  repeat (first | refine then_ret ?_ | refine block_ret ?_)
  refine bodyPost_ret (v := .bool true) (by simp [results, Tryd.results10, go_sem, *]) rfl ?_
  exact ⟨rfl, H16.out.2.b⟩
set_option maxHeartbeats 8000000 in
set_option maxRecDepth 100000 in
theorem derives_neg (xs ys zs : List Int) (a b c : Pt8) (ha : Ar xs a) (hb : Ar ys b) (hc : Ar zs c) (z : Int) (hz : z < 0) (hka : a.n ≤ 2000) (hkb : b.n ≤ 2000) (hkc : c.n ≤ 2000) (w : World) (hm : Mm w [(0, ints .u32 fT 8), (1, ints .u32 kT 64)]) (hRa : a.bs xs w) (hRb : b.bs ys w) (hRc : c.bs zs w) :
    Calls Tryd.prog 10 #[.slice a.p a.n a.cp, .slice b.p b.n b.cp, .slice c.p c.n c.cp, .int .i64 z] w fun e w' => e = .returned (.bool true) ∧ Below w.heap.size w w' := by
  have H0 : Hid (_ ∧ _) := ⟨hm, Below.refl w.heap.size w⟩
  clear hm
  have RA : Hid (a.bs xs w) := hRa
  have RB : Hid (b.bs ys w) := hRb
  have RC : Hid (c.bs zs w) := hRc
  clear hRa hRb hRc
  go_enter Tryd.func10, Tryd.ntmps10
  refine wp_seq ?_
  refine walk_seqB 1 [.quiet (.bool false)] H0 ?ho1 ?he1
  case ho1 => exact ak (fun _ => ⟨rfl, fun _ _ => rfl⟩) trivial
  intro _ w1 H1
  refine rest0 rfl (then_normal (wp_seq (wp_seq ?_)))
  refine walk_seqB 13 [.quiet (.slice a.p a.n a.cp), .quiet (.int .i64 ((a.n : Nat) : Int)), .quiet (.bool false), .quiet (.bool false), .quiet (.slice b.p b.n b.cp), .quiet (.int .i64 ((b.n : Nat) : Int)), .quiet (.bool false), .quiet (.bool false), .quiet (.bool false), .quiet (.slice c.p c.n c.cp), .quiet (.int .i64 ((c.n : Nat) : Int)), .quiet (.bool false), .quiet (.bool false)] H1 ?ho2 ?he2
  case ho2 => exact ak (fun _ => ⟨rfl, fun _ _ => rfl⟩) (ak (by refine fun γ => ⟨rfl, fun w' h => ?_⟩; clear h; go_simp) (ak (by refine fun γ => ⟨rfl, fun w' h => ?_⟩; clear h; go_simp <;> omega) (ak (fun _ => ⟨rfl, fun _ _ => rfl⟩) (ak (fun _ => ⟨rfl, fun _ _ => rfl⟩) (ak (by refine fun γ => ⟨rfl, fun w' h => ?_⟩; clear h; go_simp) (ak (by refine fun γ => ⟨rfl, fun w' h => ?_⟩; clear h; go_simp <;> omega) (ak (by refine fun γ => ⟨rfl, fun w' h => ?_⟩; clear h; go_simp) (ak (fun _ => ⟨rfl, fun _ _ => rfl⟩) (ak (fun _ => ⟨rfl, fun _ _ => rfl⟩) (ak (by refine fun γ => ⟨rfl, fun w' h => ?_⟩; clear h; go_simp) (ak (by refine fun γ => ⟨rfl, fun w' h => ?_⟩; clear h; go_simp <;> omega) (ak (by refine fun γ => ⟨rfl, fun w' h => ?_⟩; clear h; go_simp) trivial))))))))))))
  intro _ w2 H2
  clear H1
  refine rest0 rfl (then_normal (wp_cond_false rfl ?_))
  refine wp_skip (then_normal (wp_seq ?_))
  refine (walk_seq) 6 [.quiet (.slice a.p a.n a.cp), .born (fun g => .slice (some ⟨g, 0, none⟩) a.n (a.n + 3)) (ints .u8 (lf xs) (a.n + 3)), .quiet (.slice b.p b.n b.cp), .born (fun g => .slice (some ⟨g, 0, none⟩) b.n (b.n + 3)) (ints .u8 (lf ys) (b.n + 3)), .quiet (.slice c.p c.n c.cp), .born (fun g => .slice (some ⟨g, 0, none⟩) c.n (c.n + 3)) (ints .u8 (lf zs) (c.n + 3))] (fun u' => Mm u' [(0, ints .u32 fT 8), (1, ints .u32 kT 64)] ∧ (a.bs xs u' ∧ b.bs ys u' ∧ c.bs zs u')) ?pre3 ?F3 ?hpre3 (fun γ => ?hF3) (by kernel_rfl) ?hL3 ?hS3 ?ho3 ?he3
  case hpre3 => simp only [tk, tz]; rfl
  case hF3 => simp only [fill, Kind.val, Act.put, sa, sz, ss]; rfl
  case hL3 => exact trivial
  case hS3 => exact fun w' hb => ⟨H2.out.1.below hb, ⟨RA.out.below (H2.out.2.trans (hb.mono H2.out.2.size)), RB.out.below (H2.out.2.trans (hb.mono H2.out.2.size)), RC.out.below (H2.out.2.trans (hb.mono H2.out.2.size))⟩⟩
  case ho3 =>
    refine ak (fun _ => ⟨rfl, fun _ _ => rfl⟩) ?_
    refine ak (fun γ => ⟨rfl, fun w' hX => ⟨13, #[.slice a.p a.n a.cp], exec_call rfl call13 rfl (mpn rfl), lent_part ha (by omega) w' hX.2.1⟩⟩) ?_
    refine ak (fun _ => ⟨rfl, fun _ _ => rfl⟩) ?_
    refine ak (fun γ => ⟨rfl, fun w' hX => ⟨13, #[.slice b.p b.n b.cp], exec_call rfl call13 rfl (mpn rfl), lent_part hb (by omega) w' hX.2.2.1⟩⟩) ?_
    refine ak (fun _ => ⟨rfl, fun _ _ => rfl⟩) ?_
    refine ak (fun γ => ⟨rfl, fun w' hX => ⟨13, #[.slice c.p c.n c.cp], exec_call rfl call13 rfl (mpn rfl), lent_part hc (by omega) w' hX.2.2.2⟩⟩) ?_
    exact trivial
  intro γ w3 l hM hl
  have H3 : Hid (Mm w3 [(γ 1, ints .u8 (lf xs) (a.n + 3)), (γ 3, ints .u8 (lf ys) (b.n + 3)), (γ 5, ints .u8 (lf zs) (c.n + 3)), (0, ints .u32 fT 8), (1, ints .u32 kT 64)] ∧ _) := growB H2 hM (Nat.le_refl _) hl [1, 3, 5] rfl (by decide)
  have o3_1 := ownB H2 hM (Nat.le_refl _) hl (i := 1) rfl
  have o3_3 := ownB H2 hM (Nat.le_refl _) hl (i := 3) rfl
  have o3_5 := ownB H2 hM (Nat.le_refl _) hl (i := 5) rfl
  clear hM hl l H2
  generalize γ 1 = γ3_1 at H3 o3_1 ⊢
  generalize γ 3 = γ3_3 at H3 o3_3 ⊢
  generalize γ 5 = γ3_5 at H3 o3_5 ⊢
  clear γ
  refine rest_at (l := [6, 7, 8]) rfl ?_
  refine rest_set (d := 9) (v := .slice (some ⟨γ3_1, 0, none⟩) a.n (a.n + 3)) (w' := w3) rfl rfl rfl rfl ?_
  simp only [Act.put, sa, sz, ss]
  refine rest_set (d := 10) (v := .slice (some ⟨γ3_3, 0, none⟩) b.n (b.n + 3)) (w' := w3) rfl rfl rfl rfl ?_
  simp only [Act.put, sa, sz, ss]
  refine rest_set (d := 11) (v := .slice (some ⟨γ3_5, 0, none⟩) c.n (c.n + 3)) (w' := w3) rfl rfl rfl rfl ?_
  simp only [Act.put, sa, sz, ss]
  refine rest_nil (then_normal (wp_seq ?_))
  refine walk_seqB 9 [.quiet (.slice (some ⟨γ3_3, 0, none⟩) b.n (b.n + 3)), .quiet (.slice (some ⟨γ3_5, 0, none⟩) c.n (c.n + 3)), .quiet (.int .i64 z), .call (.tuple #[.slice none 0 0, .int .i64 3]), .quiet (.tuple #[.slice none 0 0, .int .i64 3]), .quiet (.slice none 0 0), .quiet (.int .i64 3), .quiet (.slice none 0 0), .quiet (.int .i64 3)] H3 ?ho4 ?he4
  case ho4 => exact ak (fun _ => ⟨rfl, fun _ _ => rfl⟩) (ak (fun _ => ⟨rfl, fun _ _ => rfl⟩) (ak (fun _ => ⟨rfl, fun _ _ => rfl⟩) (ak (fun γ => ⟨rfl, fun w' h => ⟨37, #[.slice (some ⟨γ3_3, 0, none⟩) b.n (b.n + 3), .slice (some ⟨γ3_5, 0, none⟩) c.n (c.n + 3), .int .i64 z], exec_call rfl call37 rfl (mpn rfl), Expand_neg _ _ z hz w'⟩⟩) (ak (fun _ => ⟨rfl, fun _ _ => rfl⟩) (ak (by refine fun γ => ⟨rfl, fun w' h => ?_⟩; clear h; go_simp) (ak (by refine fun γ => ⟨rfl, fun w' h => ?_⟩; clear h; go_simp) (ak (fun _ => ⟨rfl, fun _ _ => rfl⟩) (ak (fun _ => ⟨rfl, fun _ _ => rfl⟩) trivial))))))))
  intro _ w4 H4
  clear H3
  refine rest0 rfl (then_normal (wp_seq ?_))
  refine walk_seqB 9 [.quiet (.slice b.p b.n b.cp), .quiet (.slice c.p c.n c.cp), .quiet (.int .i64 z), .call (.tuple #[.slice none 0 0, .int .i64 3]), .quiet (.tuple #[.slice none 0 0, .int .i64 3]), .quiet (.slice none 0 0), .quiet (.int .i64 3), .quiet (.slice none 0 0), .quiet (.int .i64 3)] H4 ?ho5 ?he5
  case ho5 => exact ak (fun _ => ⟨rfl, fun _ _ => rfl⟩) (ak (fun _ => ⟨rfl, fun _ _ => rfl⟩) (ak (fun _ => ⟨rfl, fun _ _ => rfl⟩) (ak (fun γ => ⟨rfl, fun w' h => ⟨38, #[.slice b.p b.n b.cp, .slice c.p c.n c.cp, .int .i64 z], exec_call rfl call38 rfl (mpn rfl), dExpand_neg _ _ z hz w'⟩⟩) (ak (fun _ => ⟨rfl, fun _ _ => rfl⟩) (ak (by refine fun γ => ⟨rfl, fun w' h => ?_⟩; clear h; go_simp) (ak (by refine fun γ => ⟨rfl, fun w' h => ?_⟩; clear h; go_simp) (ak (fun _ => ⟨rfl, fun _ _ => rfl⟩) (ak (fun _ => ⟨rfl, fun _ _ => rfl⟩) trivial))))))))
  intro _ w5 H5
  clear H4
  refine rest0 rfl (then_normal (wp_seq ?_))
  refine walk_seqB 10 [.quiet (.slice (some ⟨γ3_1, 0, none⟩) a.n (a.n + 3)), .quiet (.slice (some ⟨γ3_3, 0, none⟩) b.n (b.n + 3)), .quiet (.slice (some ⟨γ3_5, 0, none⟩) c.n (c.n + 3)), .quiet (.int .i64 z), .call (.tuple #[.slice none 0 0, .int .i64 3]), .quiet (.tuple #[.slice none 0 0, .int .i64 3]), .quiet (.slice none 0 0), .quiet (.int .i64 3), .quiet (.slice none 0 0), .quiet (.int .i64 3)] H5 ?ho6 ?he6
  case ho6 => exact ak (fun _ => ⟨rfl, fun _ _ => rfl⟩) (ak (fun _ => ⟨rfl, fun _ _ => rfl⟩) (ak (fun _ => ⟨rfl, fun _ _ => rfl⟩) (ak (fun _ => ⟨rfl, fun _ _ => rfl⟩) (ak (fun γ => ⟨rfl, fun w' h => ⟨39, #[.slice (some ⟨γ3_1, 0, none⟩) a.n (a.n + 3), .slice (some ⟨γ3_3, 0, none⟩) b.n (b.n + 3), .slice (some ⟨γ3_5, 0, none⟩) c.n (c.n + 3), .int .i64 z], exec_call rfl call39 rfl (mpn rfl), Derive_neg (pc γ3_1 a.n (a.n + 3) (lf xs)) (pc γ3_3 b.n (b.n + 3) (lf ys)) _ z (pc_ok _ _ _ _) (pc_ok _ _ _ _) (show a.n < 4611686018427387904 by omega) (show b.n ≤ 1048576 by omega) hz w' (h.two 3 4 rfl rfl (by decide)) (h.rs 0 rfl (Nat.le_add_right _ _)) (h.rs 1 rfl (Nat.le_add_right _ _))⟩⟩) (ak (fun _ => ⟨rfl, fun _ _ => rfl⟩) (ak (by refine fun γ => ⟨rfl, fun w' h => ?_⟩; clear h; go_simp) (ak (by refine fun γ => ⟨rfl, fun w' h => ?_⟩; clear h; go_simp) (ak (fun _ => ⟨rfl, fun _ _ => rfl⟩) (ak (fun _ => ⟨rfl, fun _ _ => rfl⟩) trivial)))))))))
  intro _ w6 H6
  clear H5
  refine rest0 rfl (then_normal (wp_seq ?_))
  refine (walk_seq) 10 [.quiet (.slice a.p a.n a.cp), .quiet (.slice b.p b.n b.cp), .quiet (.slice c.p c.n c.cp), .quiet (.int .i64 z), .call (.tuple #[.slice none 0 0, .int .i64 3]), .quiet (.tuple #[.slice none 0 0, .int .i64 3]), .quiet (.slice none 0 0), .quiet (.int .i64 3), .quiet (.slice none 0 0), .quiet (.int .i64 3)] (fun u' => Mm u' [(γ3_1, ints .u8 (lf xs) (a.n + 3)), (γ3_3, ints .u8 (lf ys) (b.n + 3)), (γ3_5, ints .u8 (lf zs) (c.n + 3)), (0, ints .u32 fT 8), (1, ints .u32 kT 64)] ∧ (a.bs xs u' ∧ b.bs ys u' ∧ c.bs zs u')) ?pre7 ?F7 ?hpre7 (fun γ => ?hF7) (by kernel_rfl) ?hL7 ?hS7 ?ho7 ?he7
  case hpre7 => simp only [tk, tz]; rfl
  case hF7 => simp only [fill, Kind.val, Act.put, sa, sz, ss]; rfl
  case hL7 => exact trivial
  case hS7 => exact fun w' hb => ⟨H6.out.1.below hb, ⟨RA.out.below (H6.out.2.trans (hb.mono H6.out.2.size)), RB.out.below (H6.out.2.trans (hb.mono H6.out.2.size)), RC.out.below (H6.out.2.trans (hb.mono H6.out.2.size))⟩⟩
  case ho7 =>
    refine ak (fun _ => ⟨rfl, fun _ _ => rfl⟩) ?_
    refine ak (fun _ => ⟨rfl, fun _ _ => rfl⟩) ?_
    refine ak (fun _ => ⟨rfl, fun _ _ => rfl⟩) ?_
    refine ak (fun _ => ⟨rfl, fun _ _ => rfl⟩) ?_
    refine ak (fun γ => ⟨rfl, fun w' hX => ⟨40, #[.slice a.p a.n a.cp, .slice b.p b.n b.cp, .slice c.p c.n c.cp, .int .i64 z], exec_call rfl call40 rfl (mpn rfl), dDerive_neg a b _ z ha.ok hb.ok ha.nn hb.nn (by omega) (by omega) hz w' hX.2.1.2 hX.2.2.1.2⟩⟩) ?_
    refine ak (fun _ => ⟨rfl, fun _ _ => rfl⟩) ?_
    refine ak (by refine fun γ => ⟨rfl, fun w' h => ?_⟩; clear h; go_simp) ?_
    refine ak (by refine fun γ => ⟨rfl, fun w' h => ?_⟩; clear h; go_simp) ?_
    refine ak (fun _ => ⟨rfl, fun _ _ => rfl⟩) ?_
    refine ak (fun _ => ⟨rfl, fun _ _ => rfl⟩) ?_
    exact trivial
  intro γ w7 l hM hl
  have H7 := keepB H6 hM.below
  clear hM hl l H6 γ
  refine rest0 rfl (then_normal (wp_seq (wp_seq ?_)))
  refine walk_seqB 20 [.quiet (.slice none 0 0), .quiet (.slice none 0 0), .call (.bool true), .quiet (.bool false), .quiet (.bool false), .quiet (.int .i64 3), .quiet (.int .i64 3), .quiet (.bool false), .quiet (.bool false), .quiet (.bool false), .quiet (.slice none 0 0), .quiet (.slice none 0 0), .call (.bool true), .quiet (.bool false), .quiet (.bool false), .quiet (.bool false), .quiet (.int .i64 3), .quiet (.int .i64 3), .quiet (.bool false), .quiet (.bool false)] H7 ?ho8 ?he8
  case ho8 => exact ak (fun _ => ⟨rfl, fun _ _ => rfl⟩) (ak (fun _ => ⟨rfl, fun _ _ => rfl⟩) (ak (fun γ => ⟨rfl, fun w' h => ⟨36, #[.slice none 0 0, .slice none 0 0], exec_call rfl call36 rfl (mpn rfl), same_bb (.void none rfl : BSl w' [] 0 _) (.void none rfl : BSl w' [] 0 _)⟩⟩) (ak (by refine fun γ => ⟨rfl, fun w' h => ?_⟩; clear h; go_simp) (ak (fun _ => ⟨rfl, fun _ _ => rfl⟩) (ak (fun _ => ⟨rfl, fun _ _ => rfl⟩) (ak (fun _ => ⟨rfl, fun _ _ => rfl⟩) (ak (by refine fun γ => ⟨rfl, fun w' h => ?_⟩; clear h; go_simp <;> omega) (ak (by refine fun γ => ⟨rfl, fun w' h => ?_⟩; clear h; go_simp) (ak (fun _ => ⟨rfl, fun _ _ => rfl⟩) (ak (fun _ => ⟨rfl, fun _ _ => rfl⟩) (ak (fun _ => ⟨rfl, fun _ _ => rfl⟩) (ak (fun γ => ⟨rfl, fun w' h => ⟨36, #[.slice none 0 0, .slice none 0 0], exec_call rfl call36 rfl (mpn rfl), same_bb (.void none rfl : BSl w' [] 0 _) (.void none rfl : BSl w' [] 0 _)⟩⟩) (ak (by refine fun γ => ⟨rfl, fun w' h => ?_⟩; clear h; go_simp) (ak (by refine fun γ => ⟨rfl, fun w' h => ?_⟩; clear h; go_simp) (ak (fun _ => ⟨rfl, fun _ _ => rfl⟩) (ak (fun _ => ⟨rfl, fun _ _ => rfl⟩) (ak (fun _ => ⟨rfl, fun _ _ => rfl⟩) (ak (by refine fun γ => ⟨rfl, fun w' h => ?_⟩; clear h; go_simp <;> omega) (ak (by refine fun γ => ⟨rfl, fun w' h => ?_⟩; clear h; go_simp) trivial)))))))))))))))))))
  intro _ w8 H8
  clear H7
  refine rest0 rfl (then_normal (wp_cond_false rfl ?_))
  refine wp_skip (then_normal (wp_seq ?_))
  refine walk_seqB 5 [.quiet (.slice none 0 0), .quiet (.slice none 0 0), .quiet (.slice (some ⟨γ3_1, 0, none⟩) a.n (a.n + 3)), .quiet (.slice (some ⟨γ3_3, 0, none⟩) b.n (b.n + 3)), .quiet (.slice (some ⟨γ3_5, 0, none⟩) c.n (c.n + 3))] H8 ?ho9 ?he9
  case ho9 => exact ak (fun _ => ⟨rfl, fun _ _ => rfl⟩) (ak (fun _ => ⟨rfl, fun _ _ => rfl⟩) (ak (fun _ => ⟨rfl, fun _ _ => rfl⟩) (ak (fun _ => ⟨rfl, fun _ _ => rfl⟩) (ak (fun _ => ⟨rfl, fun _ _ => rfl⟩) trivial))))
  intro _ w9 H9
  clear H8
  refine rest_at (l := [5, 6, 7, 8, 9, 10, 11, 12, 13, 14, 15, 16, 17, 18, 19, 20, 21, 22]) rfl ?_
  refine rest_set (d := 94) (v := .slice (some ⟨w9.heap.size, 0, none⟩) 5 5) (w' := (w9.alloc (.cells ([Value.slice none 0 0, Value.slice none 0 0, Value.slice (some ⟨γ3_1, 0, none⟩) a.n (a.n + 3), Value.slice (some ⟨γ3_3, 0, none⟩) b.n (b.n + 3), Value.slice (some ⟨γ3_5, 0, none⟩) c.n (c.n + 3)] : List Value).toArray 22))) rfl rfl rfl (ex_bsL5 rfl rfl rfl rfl rfl rfl) ?_
  simp only [Act.put, sa, sz, ss]
  have o_γs10 : Hid (w.heap.size ≤ w9.heap.size) := H9.out.2.size
  have H10 : Hid (Mm (w9.alloc (.cells ([Value.slice none 0 0, Value.slice none 0 0, Value.slice (some ⟨γ3_1, 0, none⟩) a.n (a.n + 3), Value.slice (some ⟨γ3_3, 0, none⟩) b.n (b.n + 3), Value.slice (some ⟨γ3_5, 0, none⟩) c.n (c.n + 3)] : List Value).toArray 22)) ((w9.heap.size, [Value.slice none 0 0, Value.slice none 0 0, Value.slice (some ⟨γ3_1, 0, none⟩) a.n (a.n + 3), Value.slice (some ⟨γ3_3, 0, none⟩) b.n (b.n + 3), Value.slice (some ⟨γ3_5, 0, none⟩) c.n (c.n + 3)]) :: [(γ3_1, ints .u8 (lf xs) (a.n + 3)), (γ3_3, ints .u8 (lf ys) (b.n + 3)), (γ3_5, ints .u8 (lf zs) (c.n + 3)), (0, ints .u32 fT 8), (1, ints .u32 kT 64)]) ∧ Below w.heap.size w (w9.alloc (.cells ([Value.slice none 0 0, Value.slice none 0 0, Value.slice (some ⟨γ3_1, 0, none⟩) a.n (a.n + 3), Value.slice (some ⟨γ3_3, 0, none⟩) b.n (b.n + 3), Value.slice (some ⟨γ3_5, 0, none⟩) c.n (c.n + 3)] : List Value).toArray 22))) := ⟨H9.out.1.alloc _ 22 rfl, H9.out.2.trans (((Below.refl _ _).alloc (Nat.le_refl _) _).mono H9.out.2.size)⟩
  clear H9
  generalize hgw : (w9.alloc (.cells ([Value.slice none 0 0, Value.slice none 0 0, Value.slice (some ⟨γ3_1, 0, none⟩) a.n (a.n + 3), Value.slice (some ⟨γ3_3, 0, none⟩) b.n (b.n + 3), Value.slice (some ⟨γ3_5, 0, none⟩) c.n (c.n + 3)] : List Value).toArray 22)) = w10 at H10 ⊢
  clear hgw
  generalize w9.heap.size = γs10 at o_γs10 H10 ⊢
  refine rest_enter (d := 95) (R := fun vv w' => vv = .bool true ∧ Below w10.heap.size w10 w') rfl rfl rfl (exec_call (args := #[.slice (some ⟨γs10, 0, none⟩) 5 5]) rfl call41 rfl (mpn rfl)) (Calls.mono (apart3 (ap_ok (Nat.le_add_right _ _) (by omega) (lf_lt ha.by_)) (ap_ok (Nat.le_add_right _ _) (by omega) (lf_lt hb.by_)) (ap_ok (Nat.le_add_right _ _) (by omega) (lf_lt hc.by_)) (H10.out.1.sel [0, 1, 2, 3] (by decide) rfl)) (fun e w2 hh => ⟨_, hh.1, rfl, hh.2⟩)) ?_
  rintro _ w11 ⟨rfl, hb⟩
  have H11 : Hid (_ ∧ _) := ⟨H10.out.1.below hb, H10.out.2.trans (hb.mono H10.out.2.size)⟩
  clear hb H10
  simp only [Act.put, sa, sz, ss]
  refine rest_set (d := 96) (v := .bool true) (w' := w11) rfl rfl rfl rfl ?_
  simp only [Act.put, sa, sz, ss]
  refine rest_set (d := 97) (v := .slice (some ⟨γ3_1, 0, none⟩) a.n (a.n + 3)) (w' := w11) rfl rfl rfl rfl ?_
  simp only [Act.put, sa, sz, ss]
  refine rest_set (d := 98) (v := .slice a.p a.n a.cp) (w' := w11) rfl rfl rfl rfl ?_
  simp only [Act.put, sa, sz, ss]
  refine rest_enter (d := 99) (R := fun vv w' => vv = .bool true ∧ Below w11.heap.size w11 w') rfl rfl rfl (exec_call (args := #[.slice (some ⟨γ3_1, 0, none⟩) a.n (a.n + 3), .slice a.p a.n a.cp]) rfl call16 rfl (mpn rfl)) (Calls.mono (kept_part ha (by omega) H11.out.1 1 rfl (RA.out.below H11.out.2)) (fun e w2 hh => ⟨_, hh.1, rfl, hh.2⟩)) ?_
  rintro _ w12 ⟨rfl, hb⟩
  have H12 : Hid (_ ∧ _) := ⟨H11.out.1.below hb, H11.out.2.trans (hb.mono H11.out.2.size)⟩
  clear hb H11
  simp only [Act.put, sa, sz, ss]
  refine rest_set (d := 100) (v := .bool true) (w' := w12) rfl rfl rfl (by go_simp) ?_
  simp only [Act.put, sa, sz, ss]
  refine rest_set (d := 101) (v := .bool true) (w' := w12) rfl rfl rfl rfl ?_
  simp only [Act.put, sa, sz, ss]
  refine rest_set (d := 102) (v := .slice (some ⟨γ3_3, 0, none⟩) b.n (b.n + 3)) (w' := w12) rfl rfl rfl rfl ?_
  simp only [Act.put, sa, sz, ss]
  refine rest_set (d := 103) (v := .slice b.p b.n b.cp) (w' := w12) rfl rfl rfl rfl ?_
  simp only [Act.put, sa, sz, ss]
  refine rest_enter (d := 104) (R := fun vv w' => vv = .bool true ∧ Below w12.heap.size w12 w') rfl rfl rfl (exec_call (args := #[.slice (some ⟨γ3_3, 0, none⟩) b.n (b.n + 3), .slice b.p b.n b.cp]) rfl call16 rfl (mpn rfl)) (Calls.mono (kept_part hb (by omega) H12.out.1 2 rfl (RB.out.below H12.out.2)) (fun e w2 hh => ⟨_, hh.1, rfl, hh.2⟩)) ?_
  rintro _ w13 ⟨rfl, hb⟩
  have H13 : Hid (_ ∧ _) := ⟨H12.out.1.below hb, H12.out.2.trans (hb.mono H12.out.2.size)⟩
  clear hb H12
  simp only [Act.put, sa, sz, ss]
  refine rest_set (d := 105) (v := .bool true) (w' := w13) rfl rfl rfl (by go_simp) ?_
  simp only [Act.put, sa, sz, ss]
  refine rest_set (d := 106) (v := .bool true) (w' := w13) rfl rfl rfl rfl ?_
  simp only [Act.put, sa, sz, ss]
  refine rest_set (d := 107) (v := .slice (some ⟨γ3_5, 0, none⟩) c.n (c.n + 3)) (w' := w13) rfl rfl rfl rfl ?_
  simp only [Act.put, sa, sz, ss]
  refine rest_set (d := 108) (v := .slice c.p c.n c.cp) (w' := w13) rfl rfl rfl rfl ?_
  simp only [Act.put, sa, sz, ss]
  refine rest_enter (d := 109) (R := fun vv w' => vv = .bool true ∧ Below w13.heap.size w13 w') rfl rfl rfl (exec_call (args := #[.slice (some ⟨γ3_5, 0, none⟩) c.n (c.n + 3), .slice c.p c.n c.cp]) rfl call16 rfl (mpn rfl)) (Calls.mono (kept_part hc (by omega) H13.out.1 3 rfl (RC.out.below H13.out.2)) (fun e w2 hh => ⟨_, hh.1, rfl, hh.2⟩)) ?_
  rintro _ w14 ⟨rfl, hb⟩
  have H14 : Hid (_ ∧ _) := ⟨H13.out.1.below hb, H13.out.2.trans (hb.mono H13.out.2.size)⟩
  clear hb H13
  simp only [Act.put, sa, sz, ss]
  refine rest_set (d := 110) (v := .bool true) (w' := w14) rfl rfl rfl (by go_simp) ?_
  simp only [Act.put, sa, sz, ss]
  refine rest_set (d := 8) (v := .bool true) (w' := w14) rfl rfl rfl rfl ?_
  simp only [Act.put, sa, sz, ss]
  refine rest_nil (then_normal (wp_ret ?_))
  repeat (first | refine then_ret ?_ | refine block_ret ?_)
  refine bodyPost_ret (v := .bool true) (by simp [results, Tryd.results10, go_sem, *]) rfl ?_
  exact ⟨rfl, H14.out.2⟩
set_option maxHeartbeats 8000000 in
set_option maxRecDepth 100000 in
theorem derives_big (xs ys zs : List Int) (a b c : Pt8) (ha : Ar xs a) (hb : Ar ys b) (hc : Ar zs c) (z : Int) (hz : 8160 < z) (hka : a.n ≤ 2000) (hkb : b.n ≤ 2000) (hkc : c.n ≤ 2000) (w : World) (hm : Mm w [(0, ints .u32 fT 8), (1, ints .u32 kT 64)]) (hRa : a.bs xs w) (hRb : b.bs ys w) (hRc : c.bs zs w) :
    Calls Tryd.prog 10 #[.slice a.p a.n a.cp, .slice b.p b.n b.cp, .slice c.p c.n c.cp, .int .i64 z] w fun e w' => e = .returned (.bool true) ∧ Below w.heap.size w w' := by
  have H0 : Hid (_ ∧ _) := ⟨hm, Below.refl w.heap.size w⟩
  clear hm
  have RA : Hid (a.bs xs w) := hRa
  have RB : Hid (b.bs ys w) := hRb
  have RC : Hid (c.bs zs w) := hRc
  clear hRa hRb hRc
  go_enter Tryd.func10, Tryd.ntmps10
  refine wp_seq ?_
  refine walk_seqB 1 [.quiet (.bool false)] H0 ?ho1 ?he1
  case ho1 => exact ak (fun _ => ⟨rfl, fun _ _ => rfl⟩) trivial
  intro _ w1 H1
  refine rest0 rfl (then_normal (wp_seq (wp_seq ?_)))
  refine walk_seqB 13 [.quiet (.slice a.p a.n a.cp), .quiet (.int .i64 ((a.n : Nat) : Int)), .quiet (.bool false), .quiet (.bool false), .quiet (.slice b.p b.n b.cp), .quiet (.int .i64 ((b.n : Nat) : Int)), .quiet (.bool false), .quiet (.bool false), .quiet (.bool false), .quiet (.slice c.p c.n c.cp), .quiet (.int .i64 ((c.n : Nat) : Int)), .quiet (.bool false), .quiet (.bool false)] H1 ?ho2 ?he2
  case ho2 => exact ak (fun _ => ⟨rfl, fun _ _ => rfl⟩) (ak (by refine fun γ => ⟨rfl, fun w' h => ?_⟩; clear h; go_simp) (ak (by refine fun γ => ⟨rfl, fun w' h => ?_⟩; clear h; go_simp <;> omega) (ak (fun _ => ⟨rfl, fun _ _ => rfl⟩) (ak (fun _ => ⟨rfl, fun _ _ => rfl⟩) (ak (by refine fun γ => ⟨rfl, fun w' h => ?_⟩; clear h; go_simp) (ak (by refine fun γ => ⟨rfl, fun w' h => ?_⟩; clear h; go_simp <;> omega) (ak (by refine fun γ => ⟨rfl, fun w' h => ?_⟩; clear h; go_simp) (ak (fun _ => ⟨rfl, fun _ _ => rfl⟩) (ak (fun _ => ⟨rfl, fun _ _ => rfl⟩) (ak (by refine fun γ => ⟨rfl, fun w' h => ?_⟩; clear h; go_simp) (ak (by refine fun γ => ⟨rfl, fun w' h => ?_⟩; clear h; go_simp <;> omega) (ak (by refine fun γ => ⟨rfl, fun w' h => ?_⟩; clear h; go_simp) trivial))))))))))))
  intro _ w2 H2
  clear H1
  refine rest0 rfl (then_normal (wp_cond_false rfl ?_))
  refine wp_skip (then_normal (wp_seq ?_))
  refine (walk_seq) 6 [.quiet (.slice a.p a.n a.cp), .born (fun g => .slice (some ⟨g, 0, none⟩) a.n (a.n + 3)) (ints .u8 (lf xs) (a.n + 3)), .quiet (.slice b.p b.n b.cp), .born (fun g => .slice (some ⟨g, 0, none⟩) b.n (b.n + 3)) (ints .u8 (lf ys) (b.n + 3)), .quiet (.slice c.p c.n c.cp), .born (fun g => .slice (some ⟨g, 0, none⟩) c.n (c.n + 3)) (ints .u8 (lf zs) (c.n + 3))] (fun u' => Mm u' [(0, ints .u32 fT 8), (1, ints .u32 kT 64)] ∧ (a.bs xs u' ∧ b.bs ys u' ∧ c.bs zs u')) ?pre3 ?F3 ?hpre3 (fun γ => ?hF3) (by kernel_rfl) ?hL3 ?hS3 ?ho3 ?he3
  case hpre3 => simp only [tk, tz]; rfl
  case hF3 => simp only [fill, Kind.val, Act.put, sa, sz, ss]; rfl
  case hL3 => exact trivial
  case hS3 => exact fun w' hb => ⟨H2.out.1.below hb, ⟨RA.out.below (H2.out.2.trans (hb.mono H2.out.2.size)), RB.out.below (H2.out.2.trans (hb.mono H2.out.2.size)), RC.out.below (H2.out.2.trans (hb.mono H2.out.2.size))⟩⟩
  case ho3 =>
    refine ak (fun _ => ⟨rfl, fun _ _ => rfl⟩) ?_
    refine ak (fun γ => ⟨rfl, fun w' hX => ⟨13, #[.slice a.p a.n a.cp], exec_call rfl call13 rfl (mpn rfl), lent_part ha (by omega) w' hX.2.1⟩⟩) ?_
    refine ak (fun _ => ⟨rfl, fun _ _ => rfl⟩) ?_
    refine ak (fun γ => ⟨rfl, fun w' hX => ⟨13, #[.slice b.p b.n b.cp], exec_call rfl call13 rfl (mpn rfl), lent_part hb (by omega) w' hX.2.2.1⟩⟩) ?_
    refine ak (fun _ => ⟨rfl, fun _ _ => rfl⟩) ?_
    refine ak (fun γ => ⟨rfl, fun w' hX => ⟨13, #[.slice c.p c.n c.cp], exec_call rfl call13 rfl (mpn rfl), lent_part hc (by omega) w' hX.2.2.2⟩⟩) ?_
    exact trivial
  intro γ w3 l hM hl
  have H3 : Hid (Mm w3 [(γ 1, ints .u8 (lf xs) (a.n + 3)), (γ 3, ints .u8 (lf ys) (b.n + 3)), (γ 5, ints .u8 (lf zs) (c.n + 3)), (0, ints .u32 fT 8), (1, ints .u32 kT 64)] ∧ _) := growB H2 hM (Nat.le_refl _) hl [1, 3, 5] rfl (by decide)
  have o3_1 := ownB H2 hM (Nat.le_refl _) hl (i := 1) rfl
  have o3_3 := ownB H2 hM (Nat.le_refl _) hl (i := 3) rfl
  have o3_5 := ownB H2 hM (Nat.le_refl _) hl (i := 5) rfl
  clear hM hl l H2
  generalize γ 1 = γ3_1 at H3 o3_1 ⊢
  generalize γ 3 = γ3_3 at H3 o3_3 ⊢
  generalize γ 5 = γ3_5 at H3 o3_5 ⊢
  clear γ
  refine rest_at (l := [6, 7, 8]) rfl ?_
  refine rest_set (d := 9) (v := .slice (some ⟨γ3_1, 0, none⟩) a.n (a.n + 3)) (w' := w3) rfl rfl rfl rfl ?_
  simp only [Act.put, sa, sz, ss]
  refine rest_set (d := 10) (v := .slice (some ⟨γ3_3, 0, none⟩) b.n (b.n + 3)) (w' := w3) rfl rfl rfl rfl ?_
  simp only [Act.put, sa, sz, ss]
  refine rest_set (d := 11) (v := .slice (some ⟨γ3_5, 0, none⟩) c.n (c.n + 3)) (w' := w3) rfl rfl rfl rfl ?_
  simp only [Act.put, sa, sz, ss]
  refine rest_nil (then_normal (wp_seq ?_))
  refine walk_seqB 9 [.quiet (.slice (some ⟨γ3_3, 0, none⟩) b.n (b.n + 3)), .quiet (.slice (some ⟨γ3_5, 0, none⟩) c.n (c.n + 3)), .quiet (.int .i64 z), .call (.tuple #[.slice none 0 0, .int .i64 3]), .quiet (.tuple #[.slice none 0 0, .int .i64 3]), .quiet (.slice none 0 0), .quiet (.int .i64 3), .quiet (.slice none 0 0), .quiet (.int .i64 3)] H3 ?ho4 ?he4
  case ho4 => exact ak (fun _ => ⟨rfl, fun _ _ => rfl⟩) (ak (fun _ => ⟨rfl, fun _ _ => rfl⟩) (ak (fun _ => ⟨rfl, fun _ _ => rfl⟩) (ak (fun γ => ⟨rfl, fun w' h => ⟨37, #[.slice (some ⟨γ3_3, 0, none⟩) b.n (b.n + 3), .slice (some ⟨γ3_5, 0, none⟩) c.n (c.n + 3), .int .i64 z], exec_call rfl call37 rfl (mpn rfl), Expand_big _ _ z hz w'⟩⟩) (ak (fun _ => ⟨rfl, fun _ _ => rfl⟩) (ak (by refine fun γ => ⟨rfl, fun w' h => ?_⟩; clear h; go_simp) (ak (by refine fun γ => ⟨rfl, fun w' h => ?_⟩; clear h; go_simp) (ak (fun _ => ⟨rfl, fun _ _ => rfl⟩) (ak (fun _ => ⟨rfl, fun _ _ => rfl⟩) trivial))))))))
  intro _ w4 H4
  clear H3
  refine rest0 rfl (then_normal (wp_seq ?_))
  refine walk_seqB 9 [.quiet (.slice b.p b.n b.cp), .quiet (.slice c.p c.n c.cp), .quiet (.int .i64 z), .call (.tuple #[.slice none 0 0, .int .i64 3]), .quiet (.tuple #[.slice none 0 0, .int .i64 3]), .quiet (.slice none 0 0), .quiet (.int .i64 3), .quiet (.slice none 0 0), .quiet (.int .i64 3)] H4 ?ho5 ?he5
  case ho5 => exact ak (fun _ => ⟨rfl, fun _ _ => rfl⟩) (ak (fun _ => ⟨rfl, fun _ _ => rfl⟩) (ak (fun _ => ⟨rfl, fun _ _ => rfl⟩) (ak (fun γ => ⟨rfl, fun w' h => ⟨38, #[.slice b.p b.n b.cp, .slice c.p c.n c.cp, .int .i64 z], exec_call rfl call38 rfl (mpn rfl), dExpand_big _ _ z hz w'⟩⟩) (ak (fun _ => ⟨rfl, fun _ _ => rfl⟩) (ak (by refine fun γ => ⟨rfl, fun w' h => ?_⟩; clear h; go_simp) (ak (by refine fun γ => ⟨rfl, fun w' h => ?_⟩; clear h; go_simp) (ak (fun _ => ⟨rfl, fun _ _ => rfl⟩) (ak (fun _ => ⟨rfl, fun _ _ => rfl⟩) trivial))))))))
  intro _ w5 H5
  clear H4
  refine rest0 rfl (then_normal (wp_seq ?_))
  refine walk_seqB 10 [.quiet (.slice (some ⟨γ3_1, 0, none⟩) a.n (a.n + 3)), .quiet (.slice (some ⟨γ3_3, 0, none⟩) b.n (b.n + 3)), .quiet (.slice (some ⟨γ3_5, 0, none⟩) c.n (c.n + 3)), .quiet (.int .i64 z), .call (.tuple #[.slice none 0 0, .int .i64 3]), .quiet (.tuple #[.slice none 0 0, .int .i64 3]), .quiet (.slice none 0 0), .quiet (.int .i64 3), .quiet (.slice none 0 0), .quiet (.int .i64 3)] H5 ?ho6 ?he6
  case ho6 => exact ak (fun _ => ⟨rfl, fun _ _ => rfl⟩) (ak (fun _ => ⟨rfl, fun _ _ => rfl⟩) (ak (fun _ => ⟨rfl, fun _ _ => rfl⟩) (ak (fun _ => ⟨rfl, fun _ _ => rfl⟩) (ak (fun γ => ⟨rfl, fun w' h => ⟨39, #[.slice (some ⟨γ3_1, 0, none⟩) a.n (a.n + 3), .slice (some ⟨γ3_3, 0, none⟩) b.n (b.n + 3), .slice (some ⟨γ3_5, 0, none⟩) c.n (c.n + 3), .int .i64 z], exec_call rfl call39 rfl (mpn rfl), Derive_big (pc γ3_1 a.n (a.n + 3) (lf xs)) (pc γ3_3 b.n (b.n + 3) (lf ys)) _ z (pc_ok _ _ _ _) (pc_ok _ _ _ _) (show a.n < 4611686018427387904 by omega) (show b.n ≤ 1048576 by omega) hz w' (h.two 3 4 rfl rfl (by decide)) (h.rs 0 rfl (Nat.le_add_right _ _)) (h.rs 1 rfl (Nat.le_add_right _ _))⟩⟩) (ak (fun _ => ⟨rfl, fun _ _ => rfl⟩) (ak (by refine fun γ => ⟨rfl, fun w' h => ?_⟩; clear h; go_simp) (ak (by refine fun γ => ⟨rfl, fun w' h => ?_⟩; clear h; go_simp) (ak (fun _ => ⟨rfl, fun _ _ => rfl⟩) (ak (fun _ => ⟨rfl, fun _ _ => rfl⟩) trivial)))))))))
  intro _ w6 H6
  clear H5
  refine rest0 rfl (then_normal (wp_seq ?_))
  refine (walk_seq) 10 [.quiet (.slice a.p a.n a.cp), .quiet (.slice b.p b.n b.cp), .quiet (.slice c.p c.n c.cp), .quiet (.int .i64 z), .call (.tuple #[.slice none 0 0, .int .i64 3]), .quiet (.tuple #[.slice none 0 0, .int .i64 3]), .quiet (.slice none 0 0), .quiet (.int .i64 3), .quiet (.slice none 0 0), .quiet (.int .i64 3)] (fun u' => Mm u' [(γ3_1, ints .u8 (lf xs) (a.n + 3)), (γ3_3, ints .u8 (lf ys) (b.n + 3)), (γ3_5, ints .u8 (lf zs) (c.n + 3)), (0, ints .u32 fT 8), (1, ints .u32 kT 64)] ∧ (a.bs xs u' ∧ b.bs ys u' ∧ c.bs zs u')) ?pre7 ?F7 ?hpre7 (fun γ => ?hF7) (by kernel_rfl) ?hL7 ?hS7 ?ho7 ?he7
  case hpre7 => simp only [tk, tz]; rfl
  case hF7 => simp only [fill, Kind.val, Act.put, sa, sz, ss]; rfl
  case hL7 => exact trivial
  case hS7 => exact fun w' hb => ⟨H6.out.1.below hb, ⟨RA.out.below (H6.out.2.trans (hb.mono H6.out.2.size)), RB.out.below (H6.out.2.trans (hb.mono H6.out.2.size)), RC.out.below (H6.out.2.trans (hb.mono H6.out.2.size))⟩⟩
  case ho7 =>
    refine ak (fun _ => ⟨rfl, fun _ _ => rfl⟩) ?_
    refine ak (fun _ => ⟨rfl, fun _ _ => rfl⟩) ?_
    refine ak (fun _ => ⟨rfl, fun _ _ => rfl⟩) ?_
    refine ak (fun _ => ⟨rfl, fun _ _ => rfl⟩) ?_
    refine ak (fun γ => ⟨rfl, fun w' hX => ⟨40, #[.slice a.p a.n a.cp, .slice b.p b.n b.cp, .slice c.p c.n c.cp, .int .i64 z], exec_call rfl call40 rfl (mpn rfl), dDerive_big a b _ z ha.ok hb.ok ha.nn hb.nn (by omega) (by omega) hz w' hX.2.1.2 hX.2.2.1.2⟩⟩) ?_
    refine ak (fun _ => ⟨rfl, fun _ _ => rfl⟩) ?_
    refine ak (by refine fun γ => ⟨rfl, fun w' h => ?_⟩; clear h; go_simp) ?_
    refine ak (by refine fun γ => ⟨rfl, fun w' h => ?_⟩; clear h; go_simp) ?_
    refine ak (fun _ => ⟨rfl, fun _ _ => rfl⟩) ?_
    refine ak (fun _ => ⟨rfl, fun _ _ => rfl⟩) ?_
    exact trivial
  intro γ w7 l hM hl
  have H7 := keepB H6 hM.below
  clear hM hl l H6 γ
  refine rest0 rfl (then_normal (wp_seq (wp_seq ?_)))
  refine walk_seqB 20 [.quiet (.slice none 0 0), .quiet (.slice none 0 0), .call (.bool true), .quiet (.bool false), .quiet (.bool false), .quiet (.int .i64 3), .quiet (.int .i64 3), .quiet (.bool false), .quiet (.bool false), .quiet (.bool false), .quiet (.slice none 0 0), .quiet (.slice none 0 0), .call (.bool true), .quiet (.bool false), .quiet (.bool false), .quiet (.bool false), .quiet (.int .i64 3), .quiet (.int .i64 3), .quiet (.bool false), .quiet (.bool false)] H7 ?ho8 ?he8
  case ho8 => exact ak (fun _ => ⟨rfl, fun _ _ => rfl⟩) (ak (fun _ => ⟨rfl, fun _ _ => rfl⟩) (ak (fun γ => ⟨rfl, fun w' h => ⟨36, #[.slice none 0 0, .slice none 0 0], exec_call rfl call36 rfl (mpn rfl), same_bb (.void none rfl : BSl w' [] 0 _) (.void none rfl : BSl w' [] 0 _)⟩⟩) (ak (by refine fun γ => ⟨rfl, fun w' h => ?_⟩; clear h; go_simp) (ak (fun _ => ⟨rfl, fun _ _ => rfl⟩) (ak (fun _ => ⟨rfl, fun _ _ => rfl⟩) (ak (fun _ => ⟨rfl, fun _ _ => rfl⟩) (ak (by refine fun γ => ⟨rfl, fun w' h => ?_⟩; clear h; go_simp <;> omega) (ak (by refine fun γ => ⟨rfl, fun w' h => ?_⟩; clear h; go_simp) (ak (fun _ => ⟨rfl, fun _ _ => rfl⟩) (ak (fun _ => ⟨rfl, fun _ _ => rfl⟩) (ak (fun _ => ⟨rfl, fun _ _ => rfl⟩) (ak (fun γ => ⟨rfl, fun w' h => ⟨36, #[.slice none 0 0, .slice none 0 0], exec_call rfl call36 rfl (mpn rfl), same_bb (.void none rfl : BSl w' [] 0 _) (.void none rfl : BSl w' [] 0 _)⟩⟩) (ak (by refine fun γ => ⟨rfl, fun w' h => ?_⟩; clear h; go_simp) (ak (by refine fun γ => ⟨rfl, fun w' h => ?_⟩; clear h; go_simp) (ak (fun _ => ⟨rfl, fun _ _ => rfl⟩) (ak (fun _ => ⟨rfl, fun _ _ => rfl⟩) (ak (fun _ => ⟨rfl, fun _ _ => rfl⟩) (ak (by refine fun γ => ⟨rfl, fun w' h => ?_⟩; clear h; go_simp <;> omega) (ak (by refine fun γ => ⟨rfl, fun w' h => ?_⟩; clear h; go_simp) trivial)))))))))))))))))))
  intro _ w8 H8
  clear H7
  refine rest0 rfl (then_normal (wp_cond_false rfl ?_))
  refine wp_skip (then_normal (wp_seq ?_))
  refine walk_seqB 5 [.quiet (.slice none 0 0), .quiet (.slice none 0 0), .quiet (.slice (some ⟨γ3_1, 0, none⟩) a.n (a.n + 3)), .quiet (.slice (some ⟨γ3_3, 0, none⟩) b.n (b.n + 3)), .quiet (.slice (some ⟨γ3_5, 0, none⟩) c.n (c.n + 3))] H8 ?ho9 ?he9
  case ho9 => exact ak (fun _ => ⟨rfl, fun _ _ => rfl⟩) (ak (fun _ => ⟨rfl, fun _ _ => rfl⟩) (ak (fun _ => ⟨rfl, fun _ _ => rfl⟩) (ak (fun _ => ⟨rfl, fun _ _ => rfl⟩) (ak (fun _ => ⟨rfl, fun _ _ => rfl⟩) trivial))))
  intro _ w9 H9
  clear H8
  refine rest_at (l := [5, 6, 7, 8, 9, 10, 11, 12, 13, 14, 15, 16, 17, 18, 19, 20, 21, 22]) rfl ?_
  refine rest_set (d := 94) (v := .slice (some ⟨w9.heap.size, 0, none⟩) 5 5) (w' := (w9.alloc (.cells ([Value.slice none 0 0, Value.slice none 0 0, Value.slice (some ⟨γ3_1, 0, none⟩) a.n (a.n + 3), Value.slice (some ⟨γ3_3, 0, none⟩) b.n (b.n + 3), Value.slice (some ⟨γ3_5, 0, none⟩) c.n (c.n + 3)] : List Value).toArray 22))) rfl rfl rfl (ex_bsL5 rfl rfl rfl rfl rfl rfl) ?_
  simp only [Act.put, sa, sz, ss]
  have o_γs10 : Hid (w.heap.size ≤ w9.heap.size) := H9.out.2.size
  have H10 : Hid (Mm (w9.alloc (.cells ([Value.slice none 0 0, Value.slice none 0 0, Value.slice (some ⟨γ3_1, 0, none⟩) a.n (a.n + 3), Value.slice (some ⟨γ3_3, 0, none⟩) b.n (b.n + 3), Value.slice (some ⟨γ3_5, 0, none⟩) c.n (c.n + 3)] : List Value).toArray 22)) ((w9.heap.size, [Value.slice none 0 0, Value.slice none 0 0, Value.slice (some ⟨γ3_1, 0, none⟩) a.n (a.n + 3), Value.slice (some ⟨γ3_3, 0, none⟩) b.n (b.n + 3), Value.slice (some ⟨γ3_5, 0, none⟩) c.n (c.n + 3)]) :: [(γ3_1, ints .u8 (lf xs) (a.n + 3)), (γ3_3, ints .u8 (lf ys) (b.n + 3)), (γ3_5, ints .u8 (lf zs) (c.n + 3)), (0, ints .u32 fT 8), (1, ints .u32 kT 64)]) ∧ Below w.heap.size w (w9.alloc (.cells ([Value.slice none 0 0, Value.slice none 0 0, Value.slice (some ⟨γ3_1, 0, none⟩) a.n (a.n + 3), Value.slice (some ⟨γ3_3, 0, none⟩) b.n (b.n + 3), Value.slice (some ⟨γ3_5, 0, none⟩) c.n (c.n + 3)] : List Value).toArray 22))) := ⟨H9.out.1.alloc _ 22 rfl, H9.out.2.trans (((Below.refl _ _).alloc (Nat.le_refl _) _).mono H9.out.2.size)⟩
  clear H9
  generalize hgw : (w9.alloc (.cells ([Value.slice none 0 0, Value.slice none 0 0, Value.slice (some ⟨γ3_1, 0, none⟩) a.n (a.n + 3), Value.slice (some ⟨γ3_3, 0, none⟩) b.n (b.n + 3), Value.slice (some ⟨γ3_5, 0, none⟩) c.n (c.n + 3)] : List Value).toArray 22)) = w10 at H10 ⊢
  clear hgw
  generalize w9.heap.size = γs10 at o_γs10 H10 ⊢
  refine rest_enter (d := 95) (R := fun vv w' => vv = .bool true ∧ Below w10.heap.size w10 w') rfl rfl rfl (exec_call (args := #[.slice (some ⟨γs10, 0, none⟩) 5 5]) rfl call41 rfl (mpn rfl)) (Calls.mono (apart3 (ap_ok (Nat.le_add_right _ _) (by omega) (lf_lt ha.by_)) (ap_ok (Nat.le_add_right _ _) (by omega) (lf_lt hb.by_)) (ap_ok (Nat.le_add_right _ _) (by omega) (lf_lt hc.by_)) (H10.out.1.sel [0, 1, 2, 3] (by decide) rfl)) (fun e w2 hh => ⟨_, hh.1, rfl, hh.2⟩)) ?_
  rintro _ w11 ⟨rfl, hb⟩
  have H11 : Hid (_ ∧ _) := ⟨H10.out.1.below hb, H10.out.2.trans (hb.mono H10.out.2.size)⟩
  clear hb H10
  simp only [Act.put, sa, sz, ss]
  refine rest_set (d := 96) (v := .bool true) (w' := w11) rfl rfl rfl rfl ?_
  simp only [Act.put, sa, sz, ss]
  refine rest_set (d := 97) (v := .slice (some ⟨γ3_1, 0, none⟩) a.n (a.n + 3)) (w' := w11) rfl rfl rfl rfl ?_
  simp only [Act.put, sa, sz, ss]
  refine rest_set (d := 98) (v := .slice a.p a.n a.cp) (w' := w11) rfl rfl rfl rfl ?_
  simp only [Act.put, sa, sz, ss]
  refine rest_enter (d := 99) (R := fun vv w' => vv = .bool true ∧ Below w11.heap.size w11 w') rfl rfl rfl (exec_call (args := #[.slice (some ⟨γ3_1, 0, none⟩) a.n (a.n + 3), .slice a.p a.n a.cp]) rfl call16 rfl (mpn rfl)) (Calls.mono (kept_part ha (by omega) H11.out.1 1 rfl (RA.out.below H11.out.2)) (fun e w2 hh => ⟨_, hh.1, rfl, hh.2⟩)) ?_
  rintro _ w12 ⟨rfl, hb⟩
  have H12 : Hid (_ ∧ _) := ⟨H11.out.1.below hb, H11.out.2.trans (hb.mono H11.out.2.size)⟩
  clear hb H11
  simp only [Act.put, sa, sz, ss]
  refine rest_set (d := 100) (v := .bool true) (w' := w12) rfl rfl rfl (by go_simp) ?_
  simp only [Act.put, sa, sz, ss]
  refine rest_set (d := 101) (v := .bool true) (w' := w12) rfl rfl rfl rfl ?_
  simp only [Act.put, sa, sz, ss]
  refine rest_set (d := 102) (v := .slice (some ⟨γ3_3, 0, none⟩) b.n (b.n + 3)) (w' := w12) rfl rfl rfl rfl ?_
  simp only [Act.put, sa, sz, ss]
  refine rest_set (d := 103) (v := .slice b.p b.n b.cp) (w' := w12) rfl rfl rfl rfl ?_
  simp only [Act.put, sa, sz, ss]
  refine rest_enter (d := 104) (R := fun vv w' => vv = .bool true ∧ Below w12.heap.size w12 w') rfl rfl rfl (exec_call (args := #[.slice (some ⟨γ3_3, 0, none⟩) b.n (b.n + 3), .slice b.p b.n b.cp]) rfl call16 rfl (mpn rfl)) (Calls.mono (kept_part hb (by omega) H12.out.1 2 rfl (RB.out.below H12.out.2)) (fun e w2 hh => ⟨_, hh.1, rfl, hh.2⟩)) ?_
  rintro _ w13 ⟨rfl, hb⟩
  have H13 : Hid (_ ∧ _) := ⟨H12.out.1.below hb, H12.out.2.trans (hb.mono H12.out.2.size)⟩
  clear hb H12
  simp only [Act.put, sa, sz, ss]
  refine rest_set (d := 105) (v := .bool true) (w' := w13) rfl rfl rfl (by go_simp) ?_
  simp only [Act.put, sa, sz, ss]
  refine rest_set (d := 106) (v := .bool true) (w' := w13) rfl rfl rfl rfl ?_
  simp only [Act.put, sa, sz, ss]
  refine rest_set (d := 107) (v := .slice (some ⟨γ3_5, 0, none⟩) c.n (c.n + 3)) (w' := w13) rfl rfl rfl rfl ?_
  simp only [Act.put, sa, sz, ss]
  refine rest_set (d := 108) (v := .slice c.p c.n c.cp) (w' := w13) rfl rfl rfl rfl ?_
  simp only [Act.put, sa, sz, ss]
  refine rest_enter (d := 109) (R := fun vv w' => vv = .bool true ∧ Below w13.heap.size w13 w') rfl rfl rfl (exec_call (args := #[.slice (some ⟨γ3_5, 0, none⟩) c.n (c.n + 3), .slice c.p c.n c.cp]) rfl call16 rfl (mpn rfl)) (Calls.mono (kept_part hc (by omega) H13.out.1 3 rfl (RC.out.below H13.out.2)) (fun e w2 hh => ⟨_, hh.1, rfl, hh.2⟩)) ?_
  rintro _ w14 ⟨rfl, hb⟩
  have H14 : Hid (_ ∧ _) := ⟨H13.out.1.below hb, H13.out.2.trans (hb.mono H13.out.2.size)⟩
  clear hb H13
  simp only [Act.put, sa, sz, ss]
  refine rest_set (d := 110) (v := .bool true) (w' := w14) rfl rfl rfl (by go_simp) ?_
  simp only [Act.put, sa, sz, ss]
  refine rest_set (d := 8) (v := .bool true) (w' := w14) rfl rfl rfl rfl ?_
  simp only [Act.put, sa, sz, ss]
  refine rest_nil (then_normal (wp_ret ?_))
  repeat (first | refine then_ret ?_ | refine block_ret ?_)
  refine bodyPost_ret (v := .bool true) (by simp [results, Tryd.results10, go_sem, *]) rfl ?_
  exact ⟨rfl, H14.out.2⟩
theorem derives_any (xs : List Int) (c1 : Nat) (v : Value) (hx : ∀ x ∈ xs, 0 ≤ x ∧ x < 256) (ys : List Int) (c2 : Nat) (u : Value) (hy : ∀ x ∈ ys, 0 ≤ x ∧ x < 256) (zs : List Int) (c3 : Nat) (t : Value) (ht : ∀ x ∈ zs, 0 ≤ x ∧ x < 256) (z : Int) (w : World) (hm : Mm w [(0, ints .u32 fT 8), (1, ints .u32 kT 64)]) (h : BSl w xs c1 v) (h0 : v = .slice none 0 0 ∨ ∃ a k c', v = .slice (some a) k c') (k : BSl w ys c2 u) (k0 : u = .slice none 0 0 ∨ ∃ a k c', u = .slice (some a) k c') (q : BSl w zs c3 t) (q0 : t = .slice none 0 0 ∨ ∃ a k c', t = .slice (some a) k c') : Calls Tryd.prog 10 #[v, u, t, .int .i64 z] w fun e w' => e = .returned (.bool true) ∧ Below w.heap.size w w' := by
  obtain ⟨a, rfl, ha, hA⟩ := bsl_ar hx h h0
  obtain ⟨b, rfl, hb, hB⟩ := bsl_ar hy k k0
  obtain ⟨c, rfl, hc, hC⟩ := bsl_ar ht q q0
  by_cases h1 : 2000 < a.n
  · exact derives_l1 xs ys zs a b c z h1 w hm hA hB hC
  · by_cases h2 : 2000 < b.n
    · exact derives_l2 xs ys zs a b c z (by omega) h2 w hm hA hB hC
    · by_cases h3 : 2000 < c.n
      · exact derives_l3 xs ys zs a b c z (by omega) (by omega) h3 w hm hA hB hC
      · by_cases h4 : z < 0
        · exact derives_neg xs ys zs a b c ha hb hc z h4 (by omega) (by omega) (by omega) w hm hA hB hC
        · by_cases h5 : 8160 < z
          · exact derives_big xs ys zs a b c ha hb hc z h5 (by omega) (by omega) (by omega) w hm hA hB hC
          · obtain ⟨n, rfl⟩ : ∃ n : Nat, z = n := ⟨z.toNat, by omega⟩
            exact derives_ok xs ys zs a b c ha hb hc n (by omega) (by omega) (by omega) (by omega) w hm hA hB hC
end Rg
end Go.Proofs.YtolflfjfegngnaaDoor
end
section
namespace Go.Proofs.YtolflfjfegngnaaDoor
open Go.ChangeShapes Go.WideShapes Go.ChangeAt Go.RowKit
theorem Tryd.own : ownKnob Tryd.prog.godebug = none := by kernel_rfl
theorem Tryd.laidOut : laidOutB Tryd.prog = true := by kernel_rfl
theorem Tryd.cells5 : Tryd.prog.cellsOf 5 = 1 := by kernel_rfl
set_option maxRecDepth 100000 in
theorem open_bytes {H : Type} {enc : TypeId × Value → H} {w : World} {base : Nat} {sp : Nat → Bool} {held : Bool} {r : Reach} {b0 : Nat} {v : Value} {d : DataW H} {ps : List MemPlace}
    (hval : Value.okWide Tryd.prog w r b0 22 v) (hd : DataW.Trod enc Tryd.prog w base sp held 22 v d ps) :
    ∃ xs c, BSl w xs c v ∧ (∀ x ∈ xs, 0 ≤ x ∧ x < 256) ∧ (v = .slice none 0 0 ∨ ∃ a k c', v = .slice (some a) k c') ∧ ∀ x ∈ ps, x.block < w.heap.size := by
  obtain ⟨a0, len, cap, rfl⟩ := okWide_slice Tryd.underlying22 hval
  obtain ⟨fuel, hf⟩ := hd
  rcases open_ints Tryd.underlying22 Tryd.underlying5 Tryd.cells5 hf with ⟨hcs, hx⟩ | ⟨a, len', cap', zs, hcs, _, hl, hm, hz, hx, hcell, hwz⟩
  · simp [Value.cells] at hcs
    obtain ⟨rfl, rfl, rfl⟩ := hcs
    simp only [Prod.mk.injEq] at hx
    obtain ⟨_, rfl⟩ := hx
    exact ⟨[], 0, .void none rfl, by simp, .inl rfl, by simp⟩
  · simp [Value.cells] at hcs
    obtain ⟨rfl, rfl, rfl⟩ := hcs
    simp only [Prod.mk.injEq] at hx
    obtain ⟨_, rfl⟩ := hx
    have hlz : len ≤ zs.length := by rw [hz]; split <;> omega
    have hps : ∀ x ∈ MemPlace.row a zs.length, x.block < w.heap.size := fun x hx => by
      obtain ⟨i, hi, rfl⟩ := MemPlace.mem_row.1 hx
      have := World.block_lt_of_cell? w _ (hcell i hi)
      obtain ⟨b, off, rfl, _⟩ := ints_at hcell (by omega)
      exact World.block_lt_of_cell? w _ (hcell 0 (by omega))
    have hb : ∀ x ∈ zs, 0 ≤ x ∧ x < 256 := fun x hx => by
      have := bounds_u8 (hwz x hx)
      omega
    by_cases h0 : len = 0
    · subst h0
      exact ⟨[], cap, .void (some a) rfl, by simp, .inr ⟨_, _, _, rfl⟩, hps⟩
    · obtain ⟨b, off, rfl, hc⟩ := ints_at hcell (by omega)
      refine ⟨zs.take len, cap, ?_, fun x hx => hb x (List.mem_of_mem_take hx), .inr ⟨_, _, _, rfl⟩, hps⟩
      have hlen : (zs.take len).length = len := by simp; omega
      have hf : BSl w (zs.take len) cap (.slice (some ⟨b, off, none⟩) (zs.take len).length cap) := .full b off (World.block_lt_of_cell? w _ (hc 0 (by omega))) (by rw [hlen]; exact hl) (fun i hi => by
        rw [hlen] at hi
        rw [hc i (by omega)]
        simp [hi])
      rw [hlen] at hf
      exact hf
namespace Rg
abbrev laidL : List (String × DataW Unit) := Rows.digestSumsRow.laid
abbrev laidN : List (String × DataW Unit) := Rows.digestNilRow.laid
abbrev nmA : String := match laidL with
  | (n, _) :: _ => n
  | [] => Tryd.f3.name
abbrev nmB : String := match laidN with
  | (n, _) :: _ => n
  | [] => Tryd.f3.name
theorem gA' : Tryd.prog.globalNamed nmA = some 0 := by kernel_rfl
theorem gB' : Tryd.prog.globalNamed nmB = some 1 := by kernel_rfl
theorem tA : (Tryd.prog.globals[0]?).map (·.type) = some 53 := by kernel_rfl
theorem tB : (Tryd.prog.globals[1]?).map (·.type) = some 78 := by kernel_rfl
theorem datA : (Rows.laid_reliquary_digest_first : DataW Unit) = Lib.tabData .u32 ((List.range 8).map fun j => (fT j : Int)) := by kernel_rfl
theorem datB : (Rows.laid_reliquary_digest_rounds : DataW Unit) = Lib.tabData .u32 ((List.range 64).map fun j => (kT j : Int)) := by kernel_rfl
theorem map_ints (f : Nat → Nat) (n : Nat) : (((List.range n).map fun j => (f j : Int)).map fun z => Value.int .u32 z) = ints .u32 f n := by
  unfold ints
  rw [List.map_map]
  rfl
theorem blk_of {W : World} {g n : Nat} {f : Nat → Nat} {nm : String} {cs : Array Value} (hg : Tryd.prog.globalNamed nm = some g) (hv : W.var? Tryd.prog nm = some cs) (hcs : cs.toList = ints .u32 f n) (hn : 0 < n) {ps : List MemPlace} (hpl : ∀ i, i < n → MemPlace.cell g i ∈ ps)
    (hc : ∀ b off, MemPlace.cell b off ∈ ps → (∃ c t, W.heap[b]? = some (.cells c t (0, 0))) ∧ ∀ u v, W.cell? ⟨b, off, Option.none⟩ = some (.iface u v) → Value.okWide Tryd.prog W .any 0 u v) : g < W.heap.size ∧ Blk W g (ints .u32 f n) := by
  obtain ⟨⟨c0, t0, hheap⟩, _⟩ := hc g 0 (hpl 0 hn)
  refine ⟨?_, fun j v hj => ⟨?_, ?_⟩⟩
  · rcases Nat.lt_or_ge g W.heap.size with h' | h'
    · exact h'
    · rw [Array.getElem?_eq_none (by omega)] at hheap; cases hheap
  · rw [World.var?_cell hg hv j]
    rw [← hcs] at hj
    simpa using hj
  · unfold World.frozen?
    rw [hheap]
    simp
set_option maxRecDepth 100000 in
theorem tabs_of_laid {W : World} (h : laidMetH Tryd.prog laidL W) : Mm W [(0, ints .u32 fT 8), (1, ints .u32 kT 64)] := by
  rw [MakeChecks.laidMetH_plain _ _ _ (by kernel_rfl)] at h
  obtain ⟨ps, ⟨g, t, cs, fuel, p, q, hg, ht, hv, hd, ⟨g2, t2, cs2, fuel2, p2, q2, hg2, ht2, hv2, hd2, hq2, hps2⟩, hps⟩, hnd, hc⟩ := h
  obtain rfl := Option.some.inj (gA'.symm.trans hg)
  obtain rfl := Option.some.inj (tA.symm.trans ht)
  obtain rfl := Option.some.inj (gB'.symm.trans hg2)
  obtain rfl := Option.some.inj (tB.symm.trans ht2)
  rw [datA] at hd
  rw [datB] at hd2
  have e1 := Lib.cells_of_tab (P := Tryd.prog) (t := 53) (e := 51) (n := 8) (k := .u32) (by kernel_rfl) (by kernel_rfl) (by kernel_rfl) (by kernel_rfl) hd
  have e2 := Lib.cells_of_tab (P := Tryd.prog) (t := 78) (e := 51) (n := 64) (k := .u32) (by kernel_rfl) (by kernel_rfl) (by kernel_rfl) (by kernel_rfl) hd2
  rw [map_ints] at e1 e2
  have s1 : cs.size = 8 := by rw [← Array.length_toList, e1, ints_len]
  have s2 : cs2.size = 64 := by rw [← Array.length_toList, e2, ints_len]
  have b1 := blk_of (f := fT) (n := 8) hg hv e1 (by decide) (ps := ps) (fun i hi => by
    rw [hps]
    refine List.mem_append_left _ (List.mem_append_left _ ?_)
    unfold MemPlace.row
    simp [s1]
    omega) hc
  have b2 := blk_of (f := kT) (n := 64) hg2 hv2 e2 (by decide) (ps := ps) (fun i hi => by
    rw [hps, hps2]
    refine List.mem_append_right _ (List.mem_append_left _ (List.mem_append_left _ ?_))
    unfold MemPlace.row
    simp [s2]
    omega) hc
  refine ⟨fun pq hpq => ?_, ?_⟩
  · rcases List.mem_cons.1 hpq with rfl | hpq
    · exact b1
    · rw [List.mem_singleton.1 hpq]; exact b2
  · simp
theorem door_met (os : Os) (args : Array Value) : laidMetH Tryd.prog laidL ((World.doorLaid Tryd.prog 400 os).forCall (fun _ _ => 0) ⟨#[], args, []⟩).memory :=
  laidMetH_of_parts3 (fuel := 8) (laidMet_of_run' 8 (by kernel_rfl) (by kernel_rfl)) (by kernel_rfl) (by kernel_rfl)
end Rg
end Go.Proofs.YtolflfjfegngnaaDoor
end
