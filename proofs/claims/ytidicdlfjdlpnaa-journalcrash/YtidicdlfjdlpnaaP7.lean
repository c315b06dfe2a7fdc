/- Texts of the proof, joined. -/
import Derived.Test.YtidicdlfjdlpnaaP6
section
namespace Go.Proofs.Ytidicdlfjdlpnaa
open Go.RowKit
namespace Rg
namespace Wi
theorem call21 : ∀ args w, (callFunc 21 args).run Try.prog w = .ok (.enter 21 args) w := by intro args w; go_simp
theorem call27 : ∀ args w, (callFunc 27 args).run Try.prog w = .ok (.enter 27 args) w := by intro args w; go_simp
theorem call90 : ∀ args w, (callFunc 90 args).run Try.prog w = .ok (.enter 90 args) w := by intro args w; go_simp
set_option maxRecDepth 100000
set_option maxHeartbeats 2000000 in
set_option maxRecDepth 100000 in
theorem jmade (j d c z : Nat) (s : ByteArray) (w : World) (hm : Mm w [(j, jc d s c z)]) :
    Calls Try.prog 90 #[PT j 0] w fun e w' => e = .returned (.bool true) ∧ Below w.heap.size w w' := by
  have H0 : Hid (_ ∧ _) := ⟨hm, Below.refl w.heap.size w⟩
  clear hm
  go_enter Try.func90, Try.ntmps90
  refine wp_seq ?_
  refine sq_startW (l := [0]) rfl (fun u0 hu0 => ?_)
  have H1 : Hid (Mm u0 [(j, jc d s c z)] ∧ Below w.heap.size w u0) := by rw [hu0]; exact H0
  clear hu0 H0
  refine rest_set (d := 2) (v := .bool false) (w' := u0) rfl rfl rfl (rfl) ?_
  simp only [Act.put, sa, sz, ss]
  refine rest_nil (then_normal (wp_seq ?_))
  refine sq_start (l := [0, 1, 2, 3, 4, 5, 6, 7, 8, 9]) rfl ?_
  refine rest_set (d := 3) (v := PT j 0) (w' := u0) rfl rfl rfl (rfl) ?_
  simp only [Act.put, sa, sz, ss]
  refine rest_set (d := 4) (v := .bool true) (w' := u0) rfl rfl rfl (by go_simp) ?_
  simp only [Act.put, sa, sz, ss]
  refine rest_set (d := 5) (v := .bool true) (w' := u0) rfl rfl rfl (rfl) ?_
  simp only [Act.put, sa, sz, ss]
  refine rest_set (d := 6) (v := PT j 0) (w' := u0) rfl rfl rfl (rfl) ?_
  simp only [Act.put, sa, sz, ss]
  refine rest_set (d := 7) (v := PT j 0) (w' := u0) rfl rfl rfl (by go_simp) ?_
  simp only [Act.put, sa, sz, ss]
  refine rest_set (d := 8) (v := PT j 0) (w' := u0) rfl rfl rfl (by go_simp) ?_
  simp only [Act.put, sa, sz, ss]
  refine rest_set (d := 9) (v := PT d 0) (w' := u0) rfl rfl rfl (ex_loadC H1.out.1 0 rfl rfl rfl Try.isAgg25 (rfl)) ?_
  simp only [Act.put, sa, sz, ss]
  refine rest_set (d := 10) (v := .bool true) (w' := u0) rfl rfl rfl (by go_simp) ?_
  simp only [Act.put, sa, sz, ss]
  refine rest_set (d := 11) (v := .bool true) (w' := u0) rfl rfl rfl (by go_simp) ?_
  simp only [Act.put, sa, sz, ss]
  refine rest_set (d := 2) (v := .bool true) (w' := u0) rfl rfl rfl (rfl) ?_
  simp only [Act.put, sa, sz, ss]
  refine rest_nil (then_normal (wp_ret ?_))
  repeat (first | refine then_ret ?_ | refine block_ret ?_)
  refine bodyPost_ret (v := .bool true) (by simp [results, Try.results90, go_sem, *]) rfl ?_
  exact ⟨rfl, H1.out.2⟩
set_option maxHeartbeats 2000000 in
set_option maxRecDepth 100000 in
theorem jlen (j d c z : Nat) (s : ByteArray) (w : World) (hm : Mm w [(j, jc d s c z)]) :
    Calls Try.prog 46 #[PT j 0] w fun e w' => e = .returned (.int .i64 ((c : Nat) : Int)) ∧ Below w.heap.size w w' := by
  have H0 : Hid (_ ∧ _) := ⟨hm, Below.refl w.heap.size w⟩
  clear hm
  go_enter Try.func46, Try.ntmps46
  refine wp_seq ?_
  refine sq_startW (l := [0]) rfl (fun u0 hu0 => ?_)
  have H1 : Hid (Mm u0 [(j, jc d s c z)] ∧ Below w.heap.size w u0) := by rw [hu0]; exact H0
  clear hu0 H0
  refine rest_set (d := 2) (v := .int .i64 0) (w' := u0) rfl rfl rfl (rfl) ?_
  simp only [Act.put, sa, sz, ss]
  refine rest_nil (then_normal ?_)
  refine wp_seq (wp_seq ?_)
  refine sq_start (l := [0, 1, 2]) rfl ?_
  refine rest_set (d := 3) (v := PT j 0) (w' := u0) rfl rfl rfl (rfl) ?_
  simp only [Act.put, sa, sz, ss]
  refine rest_enter (d := 4) (R := fun vv w' => vv = .bool true ∧ Below u0.heap.size u0 w') rfl rfl rfl (exec_call (args := #[PT j 0]) rfl call90 rfl (mpn rfl)) (Calls.mono (jmade j d c z s u0 (H1.out.1.one 0 rfl)) (fun e w2 hh => ⟨_, hh.1, rfl, hh.2⟩)) ?_
  rintro _ w2 ⟨rfl, hb⟩
  have H2 : Hid (Mm w2 [(j, jc d s c z)] ∧ Below w.heap.size w w2) := ⟨H1.out.1.below hb, H1.out.2.trans (hb.mono H1.out.2.size)⟩
  clear hb
  clear H1
  simp only [Act.put, sa, sz, ss]
  refine rest_set (d := 5) (v := .bool false) (w' := w2) rfl rfl rfl (by go_simp) ?_
  simp only [Act.put, sa, sz, ss]
  refine rest_nil (then_normal ?_)
  refine wp_cond_false rfl (wp_skip ?_)
  refine then_normal (wp_seq ?_)
  refine sq_start (l := [0, 1, 2, 3, 4]) rfl ?_
  refine rest_set (d := 6) (v := PT j 0) (w' := w2) rfl rfl rfl (rfl) ?_
  simp only [Act.put, sa, sz, ss]
  refine rest_set (d := 7) (v := PT j 0) (w' := w2) rfl rfl rfl (by go_simp) ?_
  simp only [Act.put, sa, sz, ss]
  refine rest_set (d := 8) (v := PT j 258) (w' := w2) rfl rfl rfl (by go_simp) ?_
  simp only [Act.put, sa, sz, ss]
  refine rest_set (d := 9) (v := .int .i64 ((c : Nat) : Int)) (w' := w2) rfl rfl rfl (ex_loadC H2.out.1 0 rfl rfl rfl Try.isAgg3 (jc_c _ _ _ _)) ?_
  simp only [Act.put, sa, sz, ss]
  refine rest_set (d := 2) (v := .int .i64 ((c : Nat) : Int)) (w' := w2) rfl rfl rfl (rfl) ?_
  simp only [Act.put, sa, sz, ss]
  refine rest_nil (then_normal (wp_ret ?_))
  repeat (first | refine then_ret ?_ | refine block_ret ?_)
  refine bodyPost_ret (v := .int .i64 ((c : Nat) : Int)) (by simp [results, Try.results46, go_sem, *]) rfl ?_
  exact ⟨rfl, H2.out.2⟩
set_option maxHeartbeats 2000000 in
set_option maxRecDepth 100000 in
theorem jsize (j d c z : Nat) (s : ByteArray) (w : World) (hm : Mm w [(j, jc d s c z)]) :
    Calls Try.prog 47 #[PT j 0] w fun e w' => e = .returned (.int .i64 ((z : Nat) : Int)) ∧ Below w.heap.size w w' := by
  have H0 : Hid (_ ∧ _) := ⟨hm, Below.refl w.heap.size w⟩
  clear hm
  go_enter Try.func47, Try.ntmps47
  refine wp_seq ?_
  refine sq_startW (l := [0]) rfl (fun u0 hu0 => ?_)
  have H1 : Hid (Mm u0 [(j, jc d s c z)] ∧ Below w.heap.size w u0) := by rw [hu0]; exact H0
  clear hu0 H0
  refine rest_set (d := 2) (v := .int .i64 0) (w' := u0) rfl rfl rfl (rfl) ?_
  simp only [Act.put, sa, sz, ss]
  refine rest_nil (then_normal ?_)
  refine wp_seq (wp_seq ?_)
  refine sq_start (l := [0, 1, 2]) rfl ?_
  refine rest_set (d := 3) (v := PT j 0) (w' := u0) rfl rfl rfl (rfl) ?_
  simp only [Act.put, sa, sz, ss]
  refine rest_enter (d := 4) (R := fun vv w' => vv = .bool true ∧ Below u0.heap.size u0 w') rfl rfl rfl (exec_call (args := #[PT j 0]) rfl call90 rfl (mpn rfl)) (Calls.mono (jmade j d c z s u0 (H1.out.1.one 0 rfl)) (fun e w2 hh => ⟨_, hh.1, rfl, hh.2⟩)) ?_
  rintro _ w2 ⟨rfl, hb⟩
  have H2 : Hid (Mm w2 [(j, jc d s c z)] ∧ Below w.heap.size w w2) := ⟨H1.out.1.below hb, H1.out.2.trans (hb.mono H1.out.2.size)⟩
  clear hb
  clear H1
  simp only [Act.put, sa, sz, ss]
  refine rest_set (d := 5) (v := .bool false) (w' := w2) rfl rfl rfl (by go_simp) ?_
  simp only [Act.put, sa, sz, ss]
  refine rest_nil (then_normal ?_)
  refine wp_cond_false rfl (wp_skip ?_)
  refine then_normal (wp_seq ?_)
  refine sq_start (l := [0, 1, 2, 3, 4]) rfl ?_
  refine rest_set (d := 6) (v := PT j 0) (w' := w2) rfl rfl rfl (rfl) ?_
  simp only [Act.put, sa, sz, ss]
  refine rest_set (d := 7) (v := PT j 0) (w' := w2) rfl rfl rfl (by go_simp) ?_
  simp only [Act.put, sa, sz, ss]
  refine rest_set (d := 8) (v := PT j 259) (w' := w2) rfl rfl rfl (by go_simp) ?_
  simp only [Act.put, sa, sz, ss]
  refine rest_set (d := 9) (v := .int .i64 ((z : Nat) : Int)) (w' := w2) rfl rfl rfl (ex_loadC H2.out.1 0 rfl rfl rfl Try.isAgg3 (jc_z _ _ _ _)) ?_
  simp only [Act.put, sa, sz, ss]
  refine rest_set (d := 2) (v := .int .i64 ((z : Nat) : Int)) (w' := w2) rfl rfl rfl (rfl) ?_
  simp only [Act.put, sa, sz, ss]
  refine rest_nil (then_normal (wp_ret ?_))
  repeat (first | refine then_ret ?_ | refine block_ret ?_)
  refine bodyPost_ret (v := .int .i64 ((z : Nat) : Int)) (by simp [results, Try.results47, go_sem, *]) rfl ?_
  exact ⟨rfl, H2.out.2⟩
set_option maxHeartbeats 2000000 in
set_option maxRecDepth 100000 in
theorem jsync_some (j d c z : Nat) (s : ByteArray) (m : Nat) (hm0 : 0 < m) (r : Int) (I1 : World → Prop) (w : World) (hm : Mm w [(j, jc d s c z)]) (hpez : ∀ u, Below w.heap.size w u → Calls Try.prog 27 #[PT d 0, .string s] u fun e u' => e = .returned (.int .i64 ((m : Nat) : Int)) ∧ Below u.heap.size u u') (s1z : ∀ u u', I1 u → Below u.heap.size u u' → I1 u') (hsyz : ∀ u, Below w.heap.size w u → Calls Try.prog 21 #[PT d 0, .string s] u fun e u' => e = .returned (.int .i64 r) ∧ I1 u') :
    Calls Try.prog 45 #[PT j 0] w fun e w' => e = .returned (.int .i64 r) ∧ I1 w' := by
  have H0 : Hid (_ ∧ _) := ⟨hm, Below.refl w.heap.size w⟩
  clear hm
  have hpe : Hid _ := hpez
  clear hpez
  have s1 : Hid _ := s1z
  have hsy : Hid _ := hsyz
  clear s1z hsyz
  go_enter Try.func45, Try.ntmps45
  refine wp_seq ?_
  refine sq_startW (l := [0]) rfl (fun u0 hu0 => ?_)
  have H1 : Hid (Mm u0 [(j, jc d s c z)] ∧ Below w.heap.size w u0) := by rw [hu0]; exact H0
  clear hu0 H0
  refine rest_set (d := 2) (v := .int .i64 0) (w' := u0) rfl rfl rfl (rfl) ?_
  simp only [Act.put, sa, sz, ss]
  refine rest_nil (then_normal ?_)
  refine wp_seq (wp_seq ?_)
  refine sq_start (l := [0, 1, 2]) rfl ?_
  refine rest_set (d := 3) (v := PT j 0) (w' := u0) rfl rfl rfl (rfl) ?_
  simp only [Act.put, sa, sz, ss]
  refine rest_enter (d := 4) (R := fun vv w' => vv = .bool true ∧ Below u0.heap.size u0 w') rfl rfl rfl (exec_call (args := #[PT j 0]) rfl call90 rfl (mpn rfl)) (Calls.mono (jmade j d c z s u0 (H1.out.1.one 0 rfl)) (fun e w2 hh => ⟨_, hh.1, rfl, hh.2⟩)) ?_
  rintro _ w2 ⟨rfl, hb⟩
  have H2 : Hid (Mm w2 [(j, jc d s c z)] ∧ Below w.heap.size w w2) := ⟨H1.out.1.below hb, H1.out.2.trans (hb.mono H1.out.2.size)⟩
  clear hb
  clear H1
  simp only [Act.put, sa, sz, ss]
  refine rest_set (d := 5) (v := .bool false) (w' := w2) rfl rfl rfl (by go_simp) ?_
  simp only [Act.put, sa, sz, ss]
  refine rest_nil (then_normal ?_)
  refine wp_cond_false rfl (wp_skip ?_)
  refine then_normal (wp_seq (wp_seq ?_))
  refine walk_anyB 8 [.quiet (PT j 0), .quiet (PT j 0), .quiet (PT j 0), .quiet (PT d 0), .quiet (PT j 0), .quiet (PT j 0), .quiet (PT j 1), .quiet (.string s)] H2 ?ho3 ?he3
  case ho3 => exact ak (fun _ => ⟨rfl, fun _ _ => rfl⟩) (ak (by refine fun γ => ⟨rfl, fun w' h => ?_⟩; clear h; go_simp) (ak (by refine fun γ => ⟨rfl, fun w' h => ?_⟩; clear h; go_simp) (ak (fun γ => ⟨rfl, fun w' h => ex_loadC h 0 rfl rfl rfl Try.isAgg25 (rfl)⟩) (ak (fun _ => ⟨rfl, fun _ _ => rfl⟩) (ak (by refine fun γ => ⟨rfl, fun w' h => ?_⟩; clear h; go_simp) (ak (by refine fun γ => ⟨rfl, fun w' h => ?_⟩; clear h; go_simp) (ak (fun γ => ⟨rfl, fun w' h => ex_loadC h 0 rfl rfl rfl Try.isAgg9 (rfl)⟩) trivial)))))))
  intro _ w3 H3
  clear H2
  refine rest_at (l := [8, 9]) rfl ?_
  refine rest_enter (d := 14) (R := fun vv w' => vv = .int .i64 ((m : Nat) : Int) ∧ Below w3.heap.size w3 w') rfl rfl rfl (exec_call (args := #[PT d 0, .string s]) rfl call27 rfl (mpn rfl)) (Calls.mono (hpe.out w3 H3.out.2) (fun e w2 hh => ⟨_, hh.1, rfl, hh.2⟩)) ?_
  rintro _ w4 ⟨rfl, hb⟩
  have H4 : Hid (Mm w4 [(j, jc d s c z)] ∧ Below w.heap.size w w4) := ⟨H3.out.1.below hb, H3.out.2.trans (hb.mono H3.out.2.size)⟩
  clear hb
  clear H3
  simp only [Act.put, sa, sz, ss]
  refine rest_set (d := 15) (v := .bool false) (w' := w4) rfl rfl rfl (by go_simp <;> omega) ?_
  simp only [Act.put, sa, sz, ss]
  refine rest_nil (then_normal ?_)
  refine wp_cond_false rfl (wp_skip ?_)
  refine then_normal (wp_seq ?_)
  refine walk_anyB 8 [.quiet (PT j 0), .quiet (PT j 0), .quiet (PT j 0), .quiet (PT d 0), .quiet (PT j 0), .quiet (PT j 0), .quiet (PT j 1), .quiet (.string s)] H4 ?ho4 ?he4
  case ho4 => exact ak (fun _ => ⟨rfl, fun _ _ => rfl⟩) (ak (by refine fun γ => ⟨rfl, fun w' h => ?_⟩; clear h; go_simp) (ak (by refine fun γ => ⟨rfl, fun w' h => ?_⟩; clear h; go_simp) (ak (fun γ => ⟨rfl, fun w' h => ex_loadC h 0 rfl rfl rfl Try.isAgg25 (rfl)⟩) (ak (fun _ => ⟨rfl, fun _ _ => rfl⟩) (ak (by refine fun γ => ⟨rfl, fun w' h => ?_⟩; clear h; go_simp) (ak (by refine fun γ => ⟨rfl, fun w' h => ?_⟩; clear h; go_simp) (ak (fun γ => ⟨rfl, fun w' h => ex_loadC h 0 rfl rfl rfl Try.isAgg9 (rfl)⟩) trivial)))))))
  intro _ w5 H5
  clear H4
  refine rest_at (l := [8, 9]) rfl ?_
  refine rest_enter (d := 24) (R := fun vv w' => vv = .int .i64 r ∧ I1 w') rfl rfl rfl (exec_call (args := #[PT d 0, .string s]) rfl call21 rfl (mpn rfl)) (Calls.mono (hsy.out w5 H5.out.2) (fun e w2 hh => ⟨_, hh.1, rfl, hh.2⟩)) ?_
  rintro _ w6 ⟨rfl, hI⟩
  have H6 : Hid (Mm w6 [] ∧ I1 w6) := ⟨Mm.nil _, hI⟩
  clear hI H5
  simp only [Act.put, sa, sz, ss]
  refine rest_set (d := 2) (v := .int .i64 r) (w' := w6) rfl rfl rfl (rfl) ?_
  simp only [Act.put, sa, sz, ss]
  refine rest_nil (then_normal (wp_ret ?_))
  repeat (first | refine then_ret ?_ | refine block_ret ?_)
  refine bodyPost_ret (v := .int .i64 r) (by simp [results, Try.results45, go_sem, *]) rfl ?_
  exact ⟨rfl, H6.out.2⟩
set_option maxHeartbeats 2000000 in
set_option maxRecDepth 100000 in
theorem jappend_ok (j d c z : Nat) (s : ByteArray) (q : Pt8) (hL : q.n ≤ 65536) (hc : c < 4611686018427387904) (hz : z < 4611686018427387904) (I2 : World → Prop) (w : World) (hm : Mm w [(j, jc d s c z)]) (hq0 : Pok q ∧ q.rs w) (hqn0 : q.p = none → q.cp = 0) (s2z : ∀ u u', I2 u → Below u.heap.size u u' → I2 u') (s2pz : ∀ u off vs, I2 u → I2 (u.setCells j off vs)) (hapz : ∀ q2 u, Pw w (8 + q.n + 4) (frm q.f q.n) q2 u → Calls Try.prog 19 #[PT d 0, .string s, .slice q2.p q2.n q2.cp] u fun e u' => e = .returned (.int .i64 0) ∧ I2 u' ∧ u.heap.size ≤ u'.heap.size ∧ u'.heap[j]? = u.heap[j]?) :
    Calls Try.prog 44 #[PT j 0, .slice q.p q.n q.cp] w fun e w' => e = .returned (.int .i64 0) ∧ Mm w' [(j, jc d s (c + 1) (z + (8 + q.n + 4)))] ∧ I2 w' := by
  have H0 : Hid (_ ∧ _) := ⟨hm, Below.refl w.heap.size w⟩
  clear hm
  have hq : Hid _ := hq0
  clear hq0
  have hqn : Hid _ := hqn0
  clear hqn0
  have s2 : Hid _ := s2z
  have s2p : Hid _ := s2pz
  have hap : Hid _ := hapz
  clear s2z s2pz hapz
  go_enter Try.func44, Try.ntmps44
  refine wp_seq ?_
  refine sq_startW (l := [0]) rfl (fun u0 hu0 => ?_)
  have H1 : Hid (Mm u0 [(j, jc d s c z)] ∧ Below w.heap.size w u0) := by rw [hu0]; exact H0
  clear hu0 H0
  refine rest_set (d := 4) (v := .int .i64 0) (w' := u0) rfl rfl rfl (rfl) ?_
  simp only [Act.put, sa, sz, ss]
  refine rest_nil (then_normal ?_)
  refine wp_seq (wp_seq ?_)
  refine sq_start (l := [0, 1, 2]) rfl ?_
  refine rest_set (d := 8) (v := PT j 0) (w' := u0) rfl rfl rfl (rfl) ?_
  simp only [Act.put, sa, sz, ss]
  refine rest_enter (d := 9) (R := fun vv w' => vv = .bool true ∧ Below u0.heap.size u0 w') rfl rfl rfl (exec_call (args := #[PT j 0]) rfl call90 rfl (mpn rfl)) (Calls.mono (jmade j d c z s u0 (H1.out.1.one 0 rfl)) (fun e w2 hh => ⟨_, hh.1, rfl, hh.2⟩)) ?_
  rintro _ w2 ⟨rfl, hb⟩
  have H2 : Hid (Mm w2 [(j, jc d s c z)] ∧ Below w.heap.size w w2) := ⟨H1.out.1.below hb, H1.out.2.trans (hb.mono H1.out.2.size)⟩
  clear hb
  clear H1
  simp only [Act.put, sa, sz, ss]
  refine rest_set (d := 10) (v := .bool false) (w' := w2) rfl rfl rfl (by go_simp) ?_
  simp only [Act.put, sa, sz, ss]
  refine rest_nil (then_normal ?_)
  refine wp_cond_false rfl (wp_skip ?_)
  refine then_normal (wp_seq ?_)
  refine sq_start (l := [0, 1, 2, 3, 4, 5, 6, 7, 8, 9]) rfl ?_
  refine rest_set (d := 12) (v := PT j 0) (w' := w2) rfl rfl rfl (rfl) ?_
  simp only [Act.put, sa, sz, ss]
  refine rest_set (d := 13) (v := PT j 0) (w' := w2) rfl rfl rfl (by go_simp) ?_
  simp only [Act.put, sa, sz, ss]
  refine rest_set (d := 14) (v := PT j 2) (w' := w2) rfl rfl rfl (by go_simp) ?_
  simp only [Act.put, sa, sz, ss]
  refine rest_set (d := 15) (v := .slice q.p q.n q.cp) (w' := w2) rfl rfl rfl (rfl) ?_
  simp only [Act.put, sa, sz, ss]
  refine rest_enter (d := 16) (R := fun vv w' => ∃ v, vv = .tuple #[v, .int .i64 0] ∧ Cw w2 v (8 + q.n + 4) (frm q.f q.n) w') rfl rfl rfl (exec_call (args := #[PT j 2, .slice q.p q.n q.cp]) rfl call82 rfl (mpn rfl)) (Calls.mono (frame_ok j 2 q hL w2 (Tb.jc (H2.out.1.one 0 rfl)) ⟨hq.out.1, hq.out.2.below H2.out.2⟩ hqn.out) (fun e w2 hh => by obtain ⟨v', he, hO⟩ := hh; exact ⟨_, he, _, rfl, hO⟩)) ?_
  rintro _ w3 ⟨vr, rfl, hO⟩
  have hM := H2.out.1.below hO.b
  have hcw := Cw.up H2.out.2 hO
  obtain ⟨q2, rfl, e2, e3, e4, e5, e6, e7⟩ := hcw.part
  have hq2n : Hid _ := e4
  have H3 : Hid (Mm w3 [(j, jc d s c z)] ∧ Pw w (8 + q.n + 4) (frm q.f q.n) q2 w3) := ⟨hM, hcw.b, e2, e3, e6, e4, e5, e7⟩
  clear hO hM hcw e2 e3 e4 e5 e6 e7 H2
  simp only [Act.put, sa, sz, ss]
  refine rest_set (d := 11) (v := .tuple #[.slice q2.p q2.n q2.cp, .int .i64 0]) (w' := w3) rfl rfl rfl (rfl) ?_
  simp only [Act.put, sa, sz, ss]
  refine rest_set (d := 17) (v := .slice q2.p q2.n q2.cp) (w' := w3) rfl rfl rfl (by go_simp) ?_
  simp only [Act.put, sa, sz, ss]
  refine rest_set (d := 18) (v := .int .i64 0) (w' := w3) rfl rfl rfl (by go_simp) ?_
  simp only [Act.put, sa, sz, ss]
  refine rest_set (d := 5) (v := .slice q2.p q2.n q2.cp) (w' := w3) rfl rfl rfl (rfl) ?_
  simp only [Act.put, sa, sz, ss]
  refine rest_set (d := 6) (v := .int .i64 0) (w' := w3) rfl rfl rfl (rfl) ?_
  simp only [Act.put, sa, sz, ss]
  refine rest_nil (then_normal ?_)
  refine wp_seq (wp_seq ?_)
  refine sq_start (l := [0, 1]) rfl ?_
  refine rest_set (d := 19) (v := .int .i64 0) (w' := w3) rfl rfl rfl (rfl) ?_
  simp only [Act.put, sa, sz, ss]
  refine rest_set (d := 20) (v := .bool false) (w' := w3) rfl rfl rfl (by kernel_rfl) ?_
  simp only [Act.put, sa, sz, ss]
  refine rest_nil (then_normal ?_)
  refine wp_cond_false rfl (wp_skip ?_)
  refine then_normal (wp_seq (wp_seq ?_))
  refine walk_anyA 9 [.quiet (PT j 0), .quiet (PT j 0), .quiet (PT j 0), .quiet (PT d 0), .quiet (PT j 0), .quiet (PT j 0), .quiet (PT j 1), .quiet (.string s), .quiet (.slice q2.p q2.n q2.cp)] (sB H3) ?ho5 ?he5
  case ho5 => exact ak (fun _ => ⟨rfl, fun _ _ => rfl⟩) (ak (by refine fun γ => ⟨rfl, fun w' h => ?_⟩; clear h; go_simp) (ak (by refine fun γ => ⟨rfl, fun w' h => ?_⟩; clear h; go_simp) (ak (fun γ => ⟨rfl, fun w' h => ex_loadC h 0 rfl rfl rfl Try.isAgg25 (rfl)⟩) (ak (fun _ => ⟨rfl, fun _ _ => rfl⟩) (ak (by refine fun γ => ⟨rfl, fun w' h => ?_⟩; clear h; go_simp) (ak (by refine fun γ => ⟨rfl, fun w' h => ?_⟩; clear h; go_simp) (ak (fun γ => ⟨rfl, fun w' h => ex_loadC h 0 rfl rfl rfl Try.isAgg9 (rfl)⟩) (ak (fun _ => ⟨rfl, fun _ _ => rfl⟩) trivial))))))))
  intro γ w4 l hM hl
  have M4 : Mm w4 [(j, jc d s c z)] := H3.out.1.grow hM (Nat.le_refl _) hl [] rfl (by decide)
  have B4 : Pw w (8 + q.n + 4) (frm q.f q.n) q2 w4 := Pw.step H3.out.2 (hM.below)
  clear hM hl l H3
  clear γ
  have H4 : Hid (_ ∧ _) := ⟨M4, B4⟩
  clear M4 B4
  refine rest_at (l := [9, 10]) rfl ?_
  refine rest_enter (d := 31) (R := fun vv w' => vv = .int .i64 0 ∧ I2 w' ∧ w4.heap.size ≤ w'.heap.size ∧ w'.heap[j]? = w4.heap[j]?) rfl rfl rfl (exec_call (args := #[PT d 0, .string s, .slice q2.p q2.n q2.cp]) rfl call19 rfl (mpn rfl)) (Calls.mono (hap.out q2 w4 H4.out.2) (fun e w2 hh => ⟨_, hh.1, rfl, hh.2⟩)) ?_
  rintro _ w5 ⟨rfl, hI, hz1, hz2⟩
  have H5 : Hid (Mm w5 [(j, jc d s c z)] ∧ I2 w5) := ⟨Mm.keep1 H4.out.1 hz1 hz2, hI⟩
  clear hI hz1 hz2 H4
  simp only [Act.put, sa, sz, ss]
  refine rest_set (d := 7) (v := .int .i64 0) (w' := w5) rfl rfl rfl (rfl) ?_
  simp only [Act.put, sa, sz, ss]
  refine rest_nil (then_normal (wp_seq ?_))
  refine sq_start (l := [0, 1]) rfl ?_
  refine rest_set (d := 32) (v := .int .i64 0) (w' := w5) rfl rfl rfl (rfl) ?_
  simp only [Act.put, sa, sz, ss]
  refine rest_set (d := 33) (v := .bool false) (w' := w5) rfl rfl rfl (by kernel_rfl) ?_
  simp only [Act.put, sa, sz, ss]
  refine rest_nil (then_normal ?_)
  refine wp_cond_false rfl (wp_skip ?_)
  refine then_normal (wp_seq ?_)
  refine sq_start (l := [0, 1, 2, 3, 4, 5, 6, 7]) rfl ?_
  refine rest_set (d := 35) (v := PT j 0) (w' := w5) rfl rfl rfl (rfl) ?_
  simp only [Act.put, sa, sz, ss]
  refine rest_set (d := 36) (v := PT j 0) (w' := w5) rfl rfl rfl (by go_simp) ?_
  simp only [Act.put, sa, sz, ss]
  refine rest_set (d := 37) (v := PT j 258) (w' := w5) rfl rfl rfl (by go_simp) ?_
  simp only [Act.put, sa, sz, ss]
  refine rest_set (d := 38) (v := .int .i64 ((c : Nat) : Int)) (w' := w5) rfl rfl rfl (ex_loadC H5.out.1 0 rfl rfl rfl Try.isAgg3 (jc_c _ _ _ _)) ?_
  simp only [Act.put, sa, sz, ss]
  refine rest_set (d := 39) (v := .int .i64 ((c + 1 : Nat) : Int)) (w' := w5) rfl rfl rfl (by go_simp; rw [IntKind.wrap_i64]; have := hq2n.out; omega) ?_
  simp only [Act.put, sa, sz, ss]
  refine rest_set (d := 40) (v := PT j 0) (w' := w5) rfl rfl rfl (by go_simp) ?_
  simp only [Act.put, sa, sz, ss]
  refine rest_set (d := 41) (v := PT j 258) (w' := w5) rfl rfl rfl (by go_simp) ?_
  simp only [Act.put, sa, sz, ss]
  refine rest_store rfl rfl rfl (ex_st1 (v := .int .i64 ((c + 1 : Nat) : Int)) H5.out.1 0 rfl rfl Try.sizeOf3 rfl rfl rfl (by rw [jc_len]; decide)) ?_
  have H6 : Hid (Mm (w5.setCells j 258 [Value.int .i64 ((c + 1 : Nat) : Int)]) [(j, jc d s (c + 1) z)] ∧ I2 (w5.setCells j 258 [Value.int .i64 ((c + 1 : Nat) : Int)])) := ⟨by
    have h := H5.out.1.put 0 (off := 258) (vs := [Value.int .i64 ((c + 1 : Nat) : Int)]) rfl (by rw [jc_len]; show 258 + 1 ≤ 260; decide)
    rw [jc_putc] at h
    exact h, s2p.out _ _ _ H5.out.2⟩
  clear H5
  generalize hgw : World.setCells _ _ _ _ = w6 at H6 ⊢
  clear hgw
  refine rest_nil (then_normal (wp_seq ?_))
  refine sq_start (l := [0, 1, 2, 3, 4, 5, 6, 7, 8, 9]) rfl ?_
  refine rest_set (d := 42) (v := PT j 0) (w' := w6) rfl rfl rfl (rfl) ?_
  simp only [Act.put, sa, sz, ss]
  refine rest_set (d := 43) (v := PT j 0) (w' := w6) rfl rfl rfl (by go_simp) ?_
  simp only [Act.put, sa, sz, ss]
  refine rest_set (d := 44) (v := PT j 259) (w' := w6) rfl rfl rfl (by go_simp) ?_
  simp only [Act.put, sa, sz, ss]
  refine rest_set (d := 45) (v := .int .i64 ((z : Nat) : Int)) (w' := w6) rfl rfl rfl (ex_loadC H6.out.1 0 rfl rfl rfl Try.isAgg3 (jc_z _ _ _ _)) ?_
  simp only [Act.put, sa, sz, ss]
  refine rest_set (d := 46) (v := .slice q2.p q2.n q2.cp) (w' := w6) rfl rfl rfl (rfl) ?_
  simp only [Act.put, sa, sz, ss]
  refine rest_set (d := 47) (v := .int .i64 ((q2.n : Nat) : Int)) (w' := w6) rfl rfl rfl (by go_simp) ?_
  simp only [Act.put, sa, sz, ss]
  refine rest_set (d := 48) (v := .int .i64 ((z + q2.n : Nat) : Int)) (w' := w6) rfl rfl rfl (by go_simp; rw [IntKind.wrap_i64]; have := hq2n.out; omega) ?_
  simp only [Act.put, sa, sz, ss]
  refine rest_set (d := 49) (v := PT j 0) (w' := w6) rfl rfl rfl (by go_simp) ?_
  simp only [Act.put, sa, sz, ss]
  refine rest_set (d := 50) (v := PT j 259) (w' := w6) rfl rfl rfl (by go_simp) ?_
  simp only [Act.put, sa, sz, ss]
  refine rest_store rfl rfl rfl (ex_st1 (v := .int .i64 ((z + q2.n : Nat) : Int)) H6.out.1 0 rfl rfl Try.sizeOf3 rfl rfl rfl (by rw [jc_len]; decide)) ?_
  have H7 : Hid (Mm (w6.setCells j 259 [Value.int .i64 ((z + q2.n : Nat) : Int)]) [(j, jc d s (c + 1) (z + q2.n))] ∧ I2 (w6.setCells j 259 [Value.int .i64 ((z + q2.n : Nat) : Int)])) := ⟨by
    have h := H6.out.1.put 0 (off := 259) (vs := [Value.int .i64 ((z + q2.n : Nat) : Int)]) rfl (by rw [jc_len]; show 259 + 1 ≤ 260; decide)
    rw [jc_putz] at h
    exact h, s2p.out _ _ _ H6.out.2⟩
  clear H6
  generalize hgw : World.setCells _ _ _ _ = w7 at H7 ⊢
  clear hgw
  refine rest_nil (then_normal (wp_seq ?_))
  refine sq_start (l := [0]) rfl ?_
  refine rest_set (d := 4) (v := .int .i64 0) (w' := w7) rfl rfl rfl (rfl) ?_
  simp only [Act.put, sa, sz, ss]
  refine rest_nil (then_normal (wp_ret ?_))
  repeat (first | refine then_ret ?_ | refine block_ret ?_)
  refine bodyPost_ret (v := .int .i64 0) (by simp [results, Try.results44, go_sem, *]) rfl ?_
  exact ⟨rfl, by have h := H7.out.1; rw [hq2n.out] at h; exact h, H7.out.2⟩
end Wi
end Rg
end Go.Proofs.Ytidicdlfjdlpnaa
end
section
namespace Go.Proofs.Ytidicdlfjdlpnaa
open Go.RowKit
namespace Rg
namespace Wi
theorem call20 : ∀ args w, (callFunc 20 args).run Try.prog w = .ok (.enter 20 args) w := by intro args w; go_simp
theorem call84 : ∀ args w, (callFunc 84 args).run Try.prog w = .ok (.enter 84 args) w := by intro args w; go_simp
theorem call91 : ∀ args w, (callFunc 91 args).run Try.prog w = .ok (.enter 91 args) w := by intro args w; go_simp
theorem call93 : ∀ args w, (callFunc 93 args).run Try.prog w = .ok (.enter 93 args) w := by intro args w; go_simp
set_option maxRecDepth 100000
set_option maxHeartbeats 2000000 in
set_option maxRecDepth 100000 in
theorem jcut_ok (d : Nat) (s : ByteArray) (k : Nat) (r : Int) (I0 I1 I2 : World → Prop) (w : World) (h0 : I0 w) (s0z : ∀ u u', I0 u → Below u.heap.size u u' → I0 u') (s1z : ∀ u u', I1 u → Below u.heap.size u u' → I1 u') (s2z : ∀ u u', I2 u → Below u.heap.size u u' → I2 u') (hcuz : ∀ u, I0 u → Calls Try.prog 20 #[PT d 0, .string s, .int .i64 ((k : Nat) : Int)] u fun e u' => e = .returned (.int .i64 0) ∧ I1 u') (hsyz : ∀ u, I1 u → Calls Try.prog 21 #[PT d 0, .string s] u fun e u' => e = .returned (.int .i64 r) ∧ I2 u') :
    Calls Try.prog 93 #[PT d 0, .string s, .int .i64 ((k : Nat) : Int)] w fun e w' => e = .returned (.int .i64 r) ∧ I2 w' := by
  have H0 : Hid (_ ∧ _) := ⟨Mm.nil w, h0⟩
  have s0 : Hid _ := s0z
  have s1 : Hid _ := s1z
  have s2 : Hid _ := s2z
  have hcu : Hid _ := hcuz
  have hsy : Hid _ := hsyz
  clear h0 s0z s1z s2z hcuz hsyz
  go_enter Try.func93, Try.ntmps93
  refine wp_seq ?_
  refine sq_startW (l := [0]) rfl (fun u0 hu0 => ?_)
  have H1 : Hid (Mm u0 [] ∧ I0 u0) := by rw [hu0]; exact H0
  clear hu0 H0
  refine rest_set (d := 6) (v := .int .i64 0) (w' := u0) rfl rfl rfl (rfl) ?_
  simp only [Act.put, sa, sz, ss]
  refine rest_nil (then_normal ?_)
  refine wp_seq (wp_seq ?_)
  refine sq_start (l := [0, 1, 2, 3, 4]) rfl ?_
  refine rest_set (d := 8) (v := PT d 0) (w' := u0) rfl rfl rfl (rfl) ?_
  simp only [Act.put, sa, sz, ss]
  refine rest_set (d := 9) (v := .string s) (w' := u0) rfl rfl rfl (rfl) ?_
  simp only [Act.put, sa, sz, ss]
  refine rest_set (d := 10) (v := .int .i64 ((k : Nat) : Int)) (w' := u0) rfl rfl rfl (rfl) ?_
  simp only [Act.put, sa, sz, ss]
  refine rest_enter (d := 11) (R := fun vv w' => vv = .int .i64 0 ∧ I1 w') rfl rfl rfl (exec_call (args := #[PT d 0, .string s, .int .i64 ((k : Nat) : Int)]) rfl call20 rfl (mpn rfl)) (Calls.mono (hcu.out u0 H1.out.2) (fun e w2 hh => ⟨_, hh.1, rfl, hh.2⟩)) ?_
  rintro _ w2 ⟨rfl, hI⟩
  have H2 : Hid (Mm w2 [] ∧ I1 w2) := ⟨Mm.nil _, hI⟩
  clear hI H1
  simp only [Act.put, sa, sz, ss]
  refine rest_set (d := 7) (v := .int .i64 0) (w' := w2) rfl rfl rfl (rfl) ?_
  simp only [Act.put, sa, sz, ss]
  refine rest_nil (then_normal (wp_seq ?_))
  refine sq_start (l := [0, 1]) rfl ?_
  refine rest_set (d := 12) (v := .int .i64 0) (w' := w2) rfl rfl rfl (rfl) ?_
  simp only [Act.put, sa, sz, ss]
  refine rest_set (d := 13) (v := .bool false) (w' := w2) rfl rfl rfl (by kernel_rfl) ?_
  simp only [Act.put, sa, sz, ss]
  refine rest_nil (then_normal ?_)
  refine wp_cond_false rfl (wp_skip ?_)
  refine then_normal (wp_seq ?_)
  refine sq_start (l := [0, 1, 2, 3]) rfl ?_
  refine rest_set (d := 15) (v := PT d 0) (w' := w2) rfl rfl rfl (rfl) ?_
  simp only [Act.put, sa, sz, ss]
  refine rest_set (d := 16) (v := .string s) (w' := w2) rfl rfl rfl (rfl) ?_
  simp only [Act.put, sa, sz, ss]
  refine rest_enter (d := 17) (R := fun vv w' => vv = .int .i64 r ∧ I2 w') rfl rfl rfl (exec_call (args := #[PT d 0, .string s]) rfl call21 rfl (mpn rfl)) (Calls.mono (hsy.out w2 H2.out.2) (fun e w2 hh => ⟨_, hh.1, rfl, hh.2⟩)) ?_
  rintro _ w3 ⟨rfl, hI⟩
  have H3 : Hid (Mm w3 [] ∧ I2 w3) := ⟨Mm.nil _, hI⟩
  clear hI H2
  simp only [Act.put, sa, sz, ss]
  refine rest_set (d := 6) (v := .int .i64 r) (w' := w3) rfl rfl rfl (rfl) ?_
  simp only [Act.put, sa, sz, ss]
  refine rest_nil (then_normal (wp_ret ?_))
  repeat (first | refine then_ret ?_ | refine block_ret ?_)
  refine bodyPost_ret (v := .int .i64 r) (by simp [results, Try.results93, go_sem, *]) rfl ?_
  exact ⟨rfl, H3.out.2⟩
/-- A list of parts in memory above B. -/
structure Lq (B : Nat) (vv : Value) (m : Nat) (P : Nat → Pt8) (u : World) : Prop where
  own : u.ownsRow B 34 1 vv m (pcs P m)
  ok : ∀ i, i < m → Pok (P i) ∧ ((P i).p = none → (P i).cp = 0) ∧ (P i).rs u ∧ (0 < (P i).n → B ≤ (P i).gb)
section
variable {B m : Nat} {vv : Value} {P : Nat → Pt8} {w u u' : World}
theorem Lr.lq (h : Lr w vv m P u) : Lq w.heap.size vv m P u := ⟨h.own, fun i hi => ⟨(h.ok i hi).1, (h.ok i hi).2.1, (h.ok i hi).2.2.1, fun h0 => ((h.ok i hi).2.2.2 h0).1⟩⟩
theorem Lq.lo (h : Lq B vv m P u) : ∀ x ∈ vbl vv, B ≤ x := fun x hx => by
  unfold vbl at hx
  cases hv : vv.ownBlock with
  | none => rw [hv] at hx; simp at hx
  | some k => rw [hv] at hx; simp at hx; subst hx; exact (World.ownsRow.lt h.own _ hv).1
theorem Lq.chg (h : Lq B vv m P u) {L : List Nat} (hc : Chg L u u') (hL : ∀ x ∈ L, x < B) : Lq B vv m P u' :=
  ⟨own_keep h.own (fun x hx => hc.block x (own_lt h.own x hx) (fun hm => absurd (hL x hm) (Nat.not_lt.2 (h.lo x hx)))), fun i hi => ⟨(h.ok i hi).1, (h.ok i hi).2.1, (h.ok i hi).2.2.1.keep hc.size (fun h0 => hc.block _ ((h.ok i hi).2.2.1.lt h0) (fun hm => absurd (hL _ hm) (Nat.not_lt.2 ((h.ok i hi).2.2.2 h0)))), (h.ok i hi).2.2.2⟩⟩
theorem Lq.step (h : Lq B vv m P u) (hb : Below u.heap.size u u') : Lq B vv m P u' := h.chg (L := []) (Chg.of hb) (fun _ hx => by cases hx)
theorem Lq.put (h : Lq B vv m P u) {j : Nat} (hj : j < B) (off : Nat) (vs : List Value) : Lq B vv m P (u.setCells j off vs) := h.chg (L := [j]) ((Chg.refl _ _).put (.inl (List.mem_cons_self ..))) (fun x hx => by rw [List.mem_singleton.1 hx]; exact hj)
end
theorem ex_bj {ρ : Operand → Value} {o : Oper} {x0 x1 x2 : Operand} {d : Nat} {s : ByteArray} {w : World} (ho : o.op = .build 90 #[(0, x0), (1, x1), (2, x2)]) (h0 : ρ x0 = PT d 0) (h1 : ρ x1 = .string s) (h2 : ρ x2 = .agg (ints .u32 crt 256).toArray) : (execOp ρ o).run Try.prog w = .ok (.value (.agg (jc d s 0 0).toArray)) w := by
  simp only [execOp, ho, List.map_toArray, List.map_cons, List.map_nil, h0, h1, h2]
  kernel_rfl
/-- How the reading of a log ends where it is not broken. -/
def End (f : Nat → Nat) (n : Nat) (A : Nat → Nat) (M : Nat) : Prop := n < A M + 8 ∨ ∃ L, A M + 8 ≤ n ∧ n < A M + 8 + L + 4 ∧ Hdk (sh f (A M)) L
theorem read_fine (g t : Nat) (q : Pt8) (A Ln : Nat → Nat) (M : Nat) (hbq : q.n ≤ 1048576) (w : World) (hT : Tb g t w) (hq : Pok q ∧ q.rs w) (hqn : q.p = none → q.cp = 0) (hlg : Lgk q.f q.n A Ln M) (he : End q.f q.n A M) : Calls Try.prog 84 #[PT g t, .slice q.p q.n q.cp] w fun e w' => ∃ v P, e = .returned (.tuple #[v, .int .i64 ((A M : Nat) : Int), .int .i64 0]) ∧ Lr w v M P w' ∧ ∀ i, i < M → (P i).n = Ln i ∧ ∀ j, j < Ln i → (P i).f j = q.f (A i + 8 + j) := by
  rcases he with h | ⟨L, h1, h2, h3⟩
  · exact read_short g t q A Ln M hbq h w hT hq hqn hlg
  · exact read_torn g t q A Ln M hbq L h1 h2 w hT hq hqn hlg h3
theorem ex_lnL {ρ : Operand → Value} {o : Oper} {x : Operand} {v : Value} {B n : Nat} {xs : List Value} {w : World} (h : w.ownsRow B 34 1 v n xs) (ho : o.op = .call { callee := .builtin .len, args := #[x], argTypes := #[61] }) (hx : ρ x = v) : (execOp ρ o).run Try.prog w = .ok (.value (.int .i64 ((n : Nat) : Int))) w := by
  obtain ⟨p, c, rfl, _⟩ := own_slice h
  simp only [execOp, ho]
  clear h ho
  go_simp
set_option maxHeartbeats 4000000 in
set_option maxRecDepth 100000 in
theorem jopen_whole (d : Nat) (s : ByteArray) (hs : s.size ≤ 281474976710656) (N : Nat) (C : Nat → Nat) (A Ln : Nat → Nat) (M : Nat) (hN : N ≤ 1048576) (hw0 : A M = N) (w : World) (hcnz : ∀ u, Below w.heap.size w u → Calls Try.prog 91 #[PT d 0, .string s] u fun e u' => ∃ q : Pt8, e = .returned (.tuple #[.slice q.p q.n q.cp, .int .i64 0]) ∧ Pw w N C q u') (hlgz : Lgk C N A Ln M) (henz : End C N A M) :
    Calls Try.prog 48 #[PT d 0, .string s] w fun e w' => ∃ j v P B, e = .returned (.tuple #[PT j 0, v, .int .i64 0]) ∧ Mm w' [(j, jc d s M (A M))] ∧ Below w.heap.size w w' ∧ Lq B v M P w' ∧ w.heap.size ≤ j ∧ j < B ∧ ∀ i, i < M → (P i).n = Ln i ∧ ∀ k, k < Ln i → (P i).f k = C (A i + 8 + k) := by
  have H0 : Hid (_ ∧ _) := ⟨Mm.nil w, Below.refl w.heap.size w⟩
  have hcn : Hid _ := hcnz
  have hlg : Hid _ := hlgz
  have hen : Hid _ := henz
  clear hcnz hlgz henz
  go_enter Try.func48, Try.ntmps48
  refine wp_seq ?_
  refine sq_startW (l := [0, 1, 2]) rfl (fun u0 hu0 => ?_)
  have H1 : Hid (Mm u0 [] ∧ Below w.heap.size w u0) := by rw [hu0]; exact H0
  clear hu0 H0
  refine rest_set (d := 4) (v := .pointer none) (w' := u0) rfl rfl rfl (rfl) ?_
  simp only [Act.put, sa, sz, ss]
  refine rest_set (d := 5) (v := .slice none 0 0) (w' := u0) rfl rfl rfl (rfl) ?_
  simp only [Act.put, sa, sz, ss]
  refine rest_set (d := 6) (v := .int .i64 0) (w' := u0) rfl rfl rfl (rfl) ?_
  simp only [Act.put, sa, sz, ss]
  refine rest_nil (then_normal (wp_seq ?_))
  refine sq_start (l := [0, 1, 2, 3, 4, 5, 6, 7]) rfl ?_
  refine rest_set (d := 14) (v := PT d 0) (w' := u0) rfl rfl rfl (rfl) ?_
  simp only [Act.put, sa, sz, ss]
  refine rest_set (d := 15) (v := .string s) (w' := u0) rfl rfl rfl (rfl) ?_
  simp only [Act.put, sa, sz, ss]
  refine rest_enter (d := 16) (R := fun vv w' => ∃ q : Pt8, vv = .tuple #[.slice q.p q.n q.cp, .int .i64 0] ∧ Pw w N C q w') rfl rfl rfl (exec_call (args := #[PT d 0, .string s]) rfl call91 rfl (mpn rfl)) (Calls.mono (hcn.out u0 H1.out.2) (fun e w2 hh => by obtain ⟨q, he, hI⟩ := hh; exact ⟨_, he, q, rfl, hI⟩)) ?_
  rintro _ w2 ⟨q, rfl, hI⟩
  have hqN : Hid _ := hI.n
  have hqC : Hid _ := hI.f
  have H2 : Hid (Mm w2 [] ∧ Pw w N C q w2) := ⟨Mm.nil _, hI⟩
  clear hI H1
  simp only [Act.put, sa, sz, ss]
  refine rest_set (d := 13) (v := .tuple #[.slice q.p q.n q.cp, .int .i64 0]) (w' := w2) rfl rfl rfl (rfl) ?_
  simp only [Act.put, sa, sz, ss]
  refine rest_set (d := 17) (v := .slice q.p q.n q.cp) (w' := w2) rfl rfl rfl (by go_simp) ?_
  simp only [Act.put, sa, sz, ss]
  refine rest_set (d := 18) (v := .int .i64 0) (w' := w2) rfl rfl rfl (by go_simp) ?_
  simp only [Act.put, sa, sz, ss]
  refine rest_set (d := 7) (v := .slice q.p q.n q.cp) (w' := w2) rfl rfl rfl (rfl) ?_
  simp only [Act.put, sa, sz, ss]
  refine rest_set (d := 8) (v := .int .i64 0) (w' := w2) rfl rfl rfl (rfl) ?_
  simp only [Act.put, sa, sz, ss]
  refine rest_nil (then_normal ?_)
  refine wp_seq (wp_seq ?_)
  refine sq_start (l := [0, 1]) rfl ?_
  refine rest_set (d := 19) (v := .int .i64 0) (w' := w2) rfl rfl rfl (rfl) ?_
  simp only [Act.put, sa, sz, ss]
  refine rest_set (d := 20) (v := .bool false) (w' := w2) rfl rfl rfl (by kernel_rfl) ?_
  simp only [Act.put, sa, sz, ss]
  refine rest_nil (then_normal ?_)
  refine wp_cond_false rfl (wp_skip ?_)
  refine then_normal (wp_seq ?_)
  refine sq_start (l := [0, 1, 2, 3, 4, 5, 6]) rfl ?_
  refine rest_set (d := 22) (v := PT d 0) (w' := w2) rfl rfl rfl (rfl) ?_
  simp only [Act.put, sa, sz, ss]
  refine rest_set (d := 23) (v := .string s) (w' := w2) rfl rfl rfl (rfl) ?_
  simp only [Act.put, sa, sz, ss]
  refine rest_enter (d := 24) (R := fun vv w' => vv = .string s ∧ Below w2.heap.size w2 w') rfl rfl rfl (exec_call (args := #[.string s]) rfl call92 rfl (mpn rfl)) (Calls.mono (sclone_any s hs w2) (fun e w2 hh => ⟨_, hh.1, rfl, hh.2⟩)) ?_
  rintro _ w3 ⟨rfl, hb⟩
  have H3 : Hid (Mm w3 [] ∧ Pw w N C q w3) := ⟨H2.out.1.below hb, Pw.step H2.out.2 (hb)⟩
  clear hb
  clear H2
  simp only [Act.put, sa, sz, ss]
  refine rest_enter (d := 25) (R := fun vv w' => vv = .agg (ints .u32 crt 256).toArray ∧ Below w3.heap.size w3 w') rfl rfl rfl (exec_call (args := #[]) rfl call81 rfl (mpn rfl)) (Calls.mono (newTable_any w3) (fun e w2 hh => ⟨_, hh.1, rfl, hh.2⟩)) ?_
  rintro _ w4 ⟨rfl, hb⟩
  have H4 : Hid (Mm w4 [] ∧ Pw w N C q w4) := ⟨H3.out.1.below hb, Pw.step H3.out.2 (hb)⟩
  clear hb
  clear H3
  simp only [Act.put, sa, sz, ss]
  refine rest_set (d := 26) (v := .agg (jc d s 0 0).toArray) (w' := w4) rfl rfl rfl (ex_bj rfl rfl rfl rfl) ?_
  simp only [Act.put, sa, sz, ss]
  refine rest_set (d := 27) (v := PT w4.heap.size 0) (w' := (w4.alloc (.cells (jc d s 0 0).toArray 90))) rfl rfl rfl (ex_boxT rfl rfl) ?_
  simp only [Act.put, sa, sz, ss]
  have hwj : Hid (w.heap.size ≤ w4.heap.size) := H4.out.2.b.size
  have H5 : Hid (Mm (w4.alloc (.cells (jc d s 0 0).toArray 90)) [(w4.heap.size, jc d s 0 0)] ∧ Pw w N C q (w4.alloc (.cells (jc d s 0 0).toArray 90))) := ⟨(Mm.nil _).alloc _ _ rfl, H4.out.2.step ((Below.refl _ _).alloc (Nat.le_refl _) _)⟩
  clear H4
  generalize hgw : w4.alloc (.cells (jc d s 0 0).toArray 90) = w5 at H5 ⊢
  clear hgw
  generalize w4.heap.size = j at H5 hwj ⊢
  refine rest_set (d := 9) (v := PT j 0) (w' := w5) rfl rfl rfl (rfl) ?_
  simp only [Act.put, sa, sz, ss]
  refine rest_nil (then_normal (wp_seq ?_))
  refine sq_start (l := [0, 1, 2, 3, 4, 5, 6, 7, 8, 9, 10, 11]) rfl ?_
  refine rest_set (d := 29) (v := PT j 0) (w' := w5) rfl rfl rfl (rfl) ?_
  simp only [Act.put, sa, sz, ss]
  refine rest_set (d := 30) (v := PT j 0) (w' := w5) rfl rfl rfl (by go_simp) ?_
  simp only [Act.put, sa, sz, ss]
  refine rest_set (d := 31) (v := PT j 2) (w' := w5) rfl rfl rfl (by go_simp) ?_
  simp only [Act.put, sa, sz, ss]
  refine rest_set (d := 32) (v := .slice q.p q.n q.cp) (w' := w5) rfl rfl rfl (rfl) ?_
  simp only [Act.put, sa, sz, ss]
  have hlq : Lgk q.f q.n A Ln M := by rw [hqN.out, hqC.out]; exact hlg.out
  have heq : End q.f q.n A M := by rw [hqN.out, hqC.out]; exact hen.out
  refine rest_enter (d := 33) (R := fun vv w' => ∃ v P, vv = .tuple #[v, .int .i64 ((A M : Nat) : Int), .int .i64 0] ∧ Lr w5 v M P w' ∧ ∀ i, i < M → (P i).n = Ln i ∧ ∀ j, j < Ln i → (P i).f j = C (A i + 8 + j)) rfl rfl rfl (exec_call (args := #[PT j 2, .slice q.p q.n q.cp]) rfl call84 rfl (mpn rfl)) (Calls.mono (read_fine j 2 q A Ln M (by rw [hqN.out]; exact hN) w5 (Tb.jc (H5.out.1.one 0 rfl)) ⟨H5.out.2.ok, H5.out.2.rs⟩ H5.out.2.no hlq heq) (fun e w2 hh => by obtain ⟨v, P, he, hI, hP⟩ := hh; exact ⟨_, he, v, P, rfl, hI, by rw [← hqC.out]; exact hP⟩)) ?_
  rintro _ w6 ⟨v, P, rfl, hI, hP⟩
  have hPs : Hid _ := hP
  have hjB : Hid (j < w5.heap.size) := (H5.out.1.blk _ (List.mem_cons_self ..)).1
  have hBw : Hid (w.heap.size ≤ w5.heap.size) := H5.out.2.b.size
  have H6 : Hid (Mm w6 [(j, jc d s 0 0)] ∧ Below w.heap.size w w6 ∧ Lq w5.heap.size v M P w6) := ⟨H5.out.1.below hI.b, below_on _ _ H5.out.2.b hI.b, hI.lq⟩
  clear hI hP hlq heq H5
  generalize w5.heap.size = B at H6 hjB hBw
  simp only [Act.put, sa, sz, ss]
  refine rest_set (d := 28) (v := .tuple #[v, .int .i64 ((A M : Nat) : Int), .int .i64 0]) (w' := w6) rfl rfl rfl (rfl) ?_
  simp only [Act.put, sa, sz, ss]
  refine rest_set (d := 34) (v := v) (w' := w6) rfl rfl rfl (by go_simp) ?_
  simp only [Act.put, sa, sz, ss]
  refine rest_set (d := 35) (v := .int .i64 ((A M : Nat) : Int)) (w' := w6) rfl rfl rfl (by go_simp) ?_
  simp only [Act.put, sa, sz, ss]
  refine rest_set (d := 36) (v := .int .i64 0) (w' := w6) rfl rfl rfl (by go_simp) ?_
  simp only [Act.put, sa, sz, ss]
  refine rest_set (d := 10) (v := v) (w' := w6) rfl rfl rfl (rfl) ?_
  simp only [Act.put, sa, sz, ss]
  refine rest_set (d := 11) (v := .int .i64 ((A M : Nat) : Int)) (w' := w6) rfl rfl rfl (rfl) ?_
  simp only [Act.put, sa, sz, ss]
  refine rest_set (d := 8) (v := .int .i64 0) (w' := w6) rfl rfl rfl (rfl) ?_
  simp only [Act.put, sa, sz, ss]
  refine rest_nil (then_normal ?_)
  refine wp_seq (wp_seq ?_)
  refine sq_start (l := [0, 1]) rfl ?_
  refine rest_set (d := 37) (v := .int .i64 0) (w' := w6) rfl rfl rfl (rfl) ?_
  simp only [Act.put, sa, sz, ss]
  refine rest_set (d := 38) (v := .bool false) (w' := w6) rfl rfl rfl (by kernel_rfl) ?_
  simp only [Act.put, sa, sz, ss]
  refine rest_nil (then_normal ?_)
  refine wp_cond_false rfl (wp_skip ?_)
  refine then_normal (wp_seq (wp_seq ?_))
  refine sq_start (l := [0, 1, 2, 3]) rfl ?_
  refine rest_set (d := 40) (v := .int .i64 ((A M : Nat) : Int)) (w' := w6) rfl rfl rfl (rfl) ?_
  simp only [Act.put, sa, sz, ss]
  refine rest_set (d := 41) (v := .slice q.p q.n q.cp) (w' := w6) rfl rfl rfl (rfl) ?_
  simp only [Act.put, sa, sz, ss]
  refine rest_set (d := 42) (v := .int .i64 ((q.n : Nat) : Int)) (w' := w6) rfl rfl rfl (by go_simp) ?_
  simp only [Act.put, sa, sz, ss]
  refine rest_set (d := 43) (v := .bool false) (w' := w6) rfl rfl rfl (by have := hqN.out; go_simp <;> omega) ?_
  simp only [Act.put, sa, sz, ss]
  refine rest_nil (then_normal ?_)
  refine wp_cond_false rfl (wp_skip ?_)
  refine then_normal (wp_seq ?_)
  refine sq_start (l := [0, 1, 2, 3, 4, 5, 6, 7, 8, 9, 10]) rfl ?_
  refine rest_set (d := 51) (v := PT j 0) (w' := w6) rfl rfl rfl (rfl) ?_
  simp only [Act.put, sa, sz, ss]
  refine rest_set (d := 52) (v := PT j 0) (w' := w6) rfl rfl rfl (rfl) ?_
  simp only [Act.put, sa, sz, ss]
  refine rest_set (d := 53) (v := v) (w' := w6) rfl rfl rfl (rfl) ?_
  simp only [Act.put, sa, sz, ss]
  refine rest_set (d := 54) (v := .int .i64 ((M : Nat) : Int)) (w' := w6) rfl rfl rfl (ex_lnL H6.out.2.2.own rfl rfl) ?_
  simp only [Act.put, sa, sz, ss]
  refine rest_set (d := 55) (v := .int .i64 ((A M : Nat) : Int)) (w' := w6) rfl rfl rfl (rfl) ?_
  simp only [Act.put, sa, sz, ss]
  refine rest_set (d := 56) (v := PT j 0) (w' := w6) rfl rfl rfl (by go_simp) ?_
  simp only [Act.put, sa, sz, ss]
  refine rest_set (d := 57) (v := PT j 258) (w' := w6) rfl rfl rfl (by go_simp) ?_
  simp only [Act.put, sa, sz, ss]
  refine rest_store rfl rfl rfl (ex_st1 (v := .int .i64 ((M : Nat) : Int)) H6.out.1 0 rfl rfl Try.sizeOf3 rfl rfl rfl (by rw [jc_len]; decide)) ?_
  have H7 : Hid (Mm (w6.setCells j 258 [Value.int .i64 ((M : Nat) : Int)]) [(j, jc d s M 0)] ∧ Below w.heap.size w (w6.setCells j 258 [Value.int .i64 ((M : Nat) : Int)]) ∧ Lq B v M P (w6.setCells j 258 [Value.int .i64 ((M : Nat) : Int)])) := ⟨by
    have h := H6.out.1.put 0 (off := 258) (vs := [Value.int .i64 ((M : Nat) : Int)]) rfl (by rw [jc_len]; show 258 + 1 ≤ 260; decide)
    rw [jc_putc] at h
    exact h, ⟨below_setCells _ hwj.out _ _ _ H6.out.2.1, H6.out.2.2.put hjB.out _ _⟩⟩
  clear H6
  generalize hgw : World.setCells _ _ _ _ = w7 at H7 ⊢
  clear hgw
  refine rest_set (d := 58) (v := PT j 0) (w' := w7) rfl rfl rfl (by go_simp) ?_
  simp only [Act.put, sa, sz, ss]
  refine rest_set (d := 59) (v := PT j 259) (w' := w7) rfl rfl rfl (by go_simp) ?_
  simp only [Act.put, sa, sz, ss]
  refine rest_store rfl rfl rfl (ex_st1 (v := .int .i64 ((A M : Nat) : Int)) H7.out.1 0 rfl rfl Try.sizeOf3 rfl rfl rfl (by rw [jc_len]; decide)) ?_
  have H8 : Hid (Mm (w7.setCells j 259 [Value.int .i64 ((A M : Nat) : Int)]) [(j, jc d s M (A M))] ∧ Below w.heap.size w (w7.setCells j 259 [Value.int .i64 ((A M : Nat) : Int)]) ∧ Lq B v M P (w7.setCells j 259 [Value.int .i64 ((A M : Nat) : Int)])) := ⟨by
    have h := H7.out.1.put 0 (off := 259) (vs := [Value.int .i64 ((A M : Nat) : Int)]) rfl (by rw [jc_len]; show 259 + 1 ≤ 260; decide)
    rw [jc_putz] at h
    exact h, ⟨below_setCells _ hwj.out _ _ _ H7.out.2.1, H7.out.2.2.put hjB.out _ _⟩⟩
  clear H7
  generalize hgw : World.setCells _ _ _ _ = w8 at H8 ⊢
  clear hgw
  refine rest_nil (then_normal (wp_seq ?_))
  refine sq_start (l := [0, 1, 2, 3, 4]) rfl ?_
  refine rest_set (d := 60) (v := PT j 0) (w' := w8) rfl rfl rfl (rfl) ?_
  simp only [Act.put, sa, sz, ss]
  refine rest_set (d := 61) (v := v) (w' := w8) rfl rfl rfl (rfl) ?_
  simp only [Act.put, sa, sz, ss]
  refine rest_set (d := 4) (v := PT j 0) (w' := w8) rfl rfl rfl (rfl) ?_
  simp only [Act.put, sa, sz, ss]
  refine rest_set (d := 5) (v := v) (w' := w8) rfl rfl rfl (rfl) ?_
  simp only [Act.put, sa, sz, ss]
  refine rest_set (d := 6) (v := .int .i64 0) (w' := w8) rfl rfl rfl (rfl) ?_
  simp only [Act.put, sa, sz, ss]
  refine rest_nil (then_normal (wp_ret ?_))
  repeat (first | refine then_ret ?_ | refine block_ret ?_)
  refine bodyPost_ret (v := .tuple #[PT j 0, v, .int .i64 0]) (by simp [results, Try.results48, go_sem, *]) rfl ?_
  exact ⟨_, _, _, _, rfl, H8.out.1, H8.out.2.1, H8.out.2.2, hwj.out, hjB.out, hPs.out⟩
set_option maxHeartbeats 4000000 in
set_option maxRecDepth 100000 in
theorem jopen_cut (d : Nat) (s : ByteArray) (hs : s.size ≤ 281474976710656) (N : Nat) (C : Nat → Nat) (A Ln : Nat → Nat) (M : Nat) (hN : N ≤ 1048576) (hw0 : A M < N) (Lb : List Nat) (I2 : Nat → World → Prop) (w : World) (hcnz : ∀ u, Below w.heap.size w u → Calls Try.prog 91 #[PT d 0, .string s] u fun e u' => ∃ q : Pt8, e = .returned (.tuple #[.slice q.p q.n q.cp, .int .i64 0]) ∧ Pw w N C q u') (hlgz : Lgk C N A Ln M) (henz : End C N A M) (s2z : ∀ j u u', I2 j u → Below u.heap.size u u' → I2 j u') (s2pz : ∀ j u off vs, I2 j u → I2 j (u.setCells j off vs)) (hLbz : ∀ x ∈ Lb, x < w.heap.size) (hcutz : ∀ j u, Below w.heap.size w u → w.heap.size ≤ j → j < u.heap.size → Calls Try.prog 93 #[PT d 0, .string s, .int .i64 ((A M : Nat) : Int)] u fun e u' => e = .returned (.int .i64 0) ∧ I2 j u' ∧ Chg Lb u u') :
    Calls Try.prog 48 #[PT d 0, .string s] w fun e w' => ∃ j v P B, e = .returned (.tuple #[PT j 0, v, .int .i64 0]) ∧ Mm w' [(j, jc d s M (A M))] ∧ I2 j w' ∧ Lq B v M P w' ∧ w.heap.size ≤ j ∧ j < B ∧ ∀ i, i < M → (P i).n = Ln i ∧ ∀ k, k < Ln i → (P i).f k = C (A i + 8 + k) := by
  have H0 : Hid (_ ∧ _) := ⟨Mm.nil w, Below.refl w.heap.size w⟩
  have hcn : Hid _ := hcnz
  have hlg : Hid _ := hlgz
  have hen : Hid _ := henz
  clear hcnz hlgz henz
  have s2 : Hid _ := s2z
  have s2p : Hid _ := s2pz
  have hLb : Hid _ := hLbz
  have hcut : Hid _ := hcutz
  clear s2z s2pz hLbz hcutz
  go_enter Try.func48, Try.ntmps48
  refine wp_seq ?_
  refine sq_startW (l := [0, 1, 2]) rfl (fun u0 hu0 => ?_)
  have H1 : Hid (Mm u0 [] ∧ Below w.heap.size w u0) := by rw [hu0]; exact H0
  clear hu0 H0
  refine rest_set (d := 4) (v := .pointer none) (w' := u0) rfl rfl rfl (rfl) ?_
  simp only [Act.put, sa, sz, ss]
  refine rest_set (d := 5) (v := .slice none 0 0) (w' := u0) rfl rfl rfl (rfl) ?_
  simp only [Act.put, sa, sz, ss]
  refine rest_set (d := 6) (v := .int .i64 0) (w' := u0) rfl rfl rfl (rfl) ?_
  simp only [Act.put, sa, sz, ss]
  refine rest_nil (then_normal (wp_seq ?_))
  refine sq_start (l := [0, 1, 2, 3, 4, 5, 6, 7]) rfl ?_
  refine rest_set (d := 14) (v := PT d 0) (w' := u0) rfl rfl rfl (rfl) ?_
  simp only [Act.put, sa, sz, ss]
  refine rest_set (d := 15) (v := .string s) (w' := u0) rfl rfl rfl (rfl) ?_
  simp only [Act.put, sa, sz, ss]
  refine rest_enter (d := 16) (R := fun vv w' => ∃ q : Pt8, vv = .tuple #[.slice q.p q.n q.cp, .int .i64 0] ∧ Pw w N C q w') rfl rfl rfl (exec_call (args := #[PT d 0, .string s]) rfl call91 rfl (mpn rfl)) (Calls.mono (hcn.out u0 H1.out.2) (fun e w2 hh => by obtain ⟨q, he, hI⟩ := hh; exact ⟨_, he, q, rfl, hI⟩)) ?_
  rintro _ w2 ⟨q, rfl, hI⟩
  have hqN : Hid _ := hI.n
  have hqC : Hid _ := hI.f
  have H2 : Hid (Mm w2 [] ∧ Pw w N C q w2) := ⟨Mm.nil _, hI⟩
  clear hI H1
  simp only [Act.put, sa, sz, ss]
  refine rest_set (d := 13) (v := .tuple #[.slice q.p q.n q.cp, .int .i64 0]) (w' := w2) rfl rfl rfl (rfl) ?_
  simp only [Act.put, sa, sz, ss]
  refine rest_set (d := 17) (v := .slice q.p q.n q.cp) (w' := w2) rfl rfl rfl (by go_simp) ?_
  simp only [Act.put, sa, sz, ss]
  refine rest_set (d := 18) (v := .int .i64 0) (w' := w2) rfl rfl rfl (by go_simp) ?_
  simp only [Act.put, sa, sz, ss]
  refine rest_set (d := 7) (v := .slice q.p q.n q.cp) (w' := w2) rfl rfl rfl (rfl) ?_
  simp only [Act.put, sa, sz, ss]
  refine rest_set (d := 8) (v := .int .i64 0) (w' := w2) rfl rfl rfl (rfl) ?_
  simp only [Act.put, sa, sz, ss]
  refine rest_nil (then_normal ?_)
  refine wp_seq (wp_seq ?_)
  refine sq_start (l := [0, 1]) rfl ?_
  refine rest_set (d := 19) (v := .int .i64 0) (w' := w2) rfl rfl rfl (rfl) ?_
  simp only [Act.put, sa, sz, ss]
  refine rest_set (d := 20) (v := .bool false) (w' := w2) rfl rfl rfl (by kernel_rfl) ?_
  simp only [Act.put, sa, sz, ss]
  refine rest_nil (then_normal ?_)
  refine wp_cond_false rfl (wp_skip ?_)
  refine then_normal (wp_seq ?_)
  refine sq_start (l := [0, 1, 2, 3, 4, 5, 6]) rfl ?_
  refine rest_set (d := 22) (v := PT d 0) (w' := w2) rfl rfl rfl (rfl) ?_
  simp only [Act.put, sa, sz, ss]
  refine rest_set (d := 23) (v := .string s) (w' := w2) rfl rfl rfl (rfl) ?_
  simp only [Act.put, sa, sz, ss]
  refine rest_enter (d := 24) (R := fun vv w' => vv = .string s ∧ Below w2.heap.size w2 w') rfl rfl rfl (exec_call (args := #[.string s]) rfl call92 rfl (mpn rfl)) (Calls.mono (sclone_any s hs w2) (fun e w2 hh => ⟨_, hh.1, rfl, hh.2⟩)) ?_
  rintro _ w3 ⟨rfl, hb⟩
  have H3 : Hid (Mm w3 [] ∧ Pw w N C q w3) := ⟨H2.out.1.below hb, Pw.step H2.out.2 (hb)⟩
  clear hb
  clear H2
  simp only [Act.put, sa, sz, ss]
  refine rest_enter (d := 25) (R := fun vv w' => vv = .agg (ints .u32 crt 256).toArray ∧ Below w3.heap.size w3 w') rfl rfl rfl (exec_call (args := #[]) rfl call81 rfl (mpn rfl)) (Calls.mono (newTable_any w3) (fun e w2 hh => ⟨_, hh.1, rfl, hh.2⟩)) ?_
  rintro _ w4 ⟨rfl, hb⟩
  have H4 : Hid (Mm w4 [] ∧ Pw w N C q w4) := ⟨H3.out.1.below hb, Pw.step H3.out.2 (hb)⟩
  clear hb
  clear H3
  simp only [Act.put, sa, sz, ss]
  refine rest_set (d := 26) (v := .agg (jc d s 0 0).toArray) (w' := w4) rfl rfl rfl (ex_bj rfl rfl rfl rfl) ?_
  simp only [Act.put, sa, sz, ss]
  refine rest_set (d := 27) (v := PT w4.heap.size 0) (w' := (w4.alloc (.cells (jc d s 0 0).toArray 90))) rfl rfl rfl (ex_boxT rfl rfl) ?_
  simp only [Act.put, sa, sz, ss]
  have hwj : Hid (w.heap.size ≤ w4.heap.size) := H4.out.2.b.size
  have H5 : Hid (Mm (w4.alloc (.cells (jc d s 0 0).toArray 90)) [(w4.heap.size, jc d s 0 0)] ∧ Pw w N C q (w4.alloc (.cells (jc d s 0 0).toArray 90))) := ⟨(Mm.nil _).alloc _ _ rfl, H4.out.2.step ((Below.refl _ _).alloc (Nat.le_refl _) _)⟩
  clear H4
  generalize hgw : w4.alloc (.cells (jc d s 0 0).toArray 90) = w5 at H5 ⊢
  clear hgw
  generalize w4.heap.size = j at H5 hwj ⊢
  refine rest_set (d := 9) (v := PT j 0) (w' := w5) rfl rfl rfl (rfl) ?_
  simp only [Act.put, sa, sz, ss]
  refine rest_nil (then_normal (wp_seq ?_))
  refine sq_start (l := [0, 1, 2, 3, 4, 5, 6, 7, 8, 9, 10, 11]) rfl ?_
  refine rest_set (d := 29) (v := PT j 0) (w' := w5) rfl rfl rfl (rfl) ?_
  simp only [Act.put, sa, sz, ss]
  refine rest_set (d := 30) (v := PT j 0) (w' := w5) rfl rfl rfl (by go_simp) ?_
  simp only [Act.put, sa, sz, ss]
  refine rest_set (d := 31) (v := PT j 2) (w' := w5) rfl rfl rfl (by go_simp) ?_
  simp only [Act.put, sa, sz, ss]
  refine rest_set (d := 32) (v := .slice q.p q.n q.cp) (w' := w5) rfl rfl rfl (rfl) ?_
  simp only [Act.put, sa, sz, ss]
  have hlq : Lgk q.f q.n A Ln M := by rw [hqN.out, hqC.out]; exact hlg.out
  have heq : End q.f q.n A M := by rw [hqN.out, hqC.out]; exact hen.out
  refine rest_enter (d := 33) (R := fun vv w' => ∃ v P, vv = .tuple #[v, .int .i64 ((A M : Nat) : Int), .int .i64 0] ∧ Lr w5 v M P w' ∧ ∀ i, i < M → (P i).n = Ln i ∧ ∀ j, j < Ln i → (P i).f j = C (A i + 8 + j)) rfl rfl rfl (exec_call (args := #[PT j 2, .slice q.p q.n q.cp]) rfl call84 rfl (mpn rfl)) (Calls.mono (read_fine j 2 q A Ln M (by rw [hqN.out]; exact hN) w5 (Tb.jc (H5.out.1.one 0 rfl)) ⟨H5.out.2.ok, H5.out.2.rs⟩ H5.out.2.no hlq heq) (fun e w2 hh => by obtain ⟨v, P, he, hI, hP⟩ := hh; exact ⟨_, he, v, P, rfl, hI, by rw [← hqC.out]; exact hP⟩)) ?_
  rintro _ w6 ⟨v, P, rfl, hI, hP⟩
  have hPs : Hid _ := hP
  have hjB : Hid (j < w5.heap.size) := (H5.out.1.blk _ (List.mem_cons_self ..)).1
  have hBw : Hid (w.heap.size ≤ w5.heap.size) := H5.out.2.b.size
  have H6 : Hid (Mm w6 [(j, jc d s 0 0)] ∧ Below w.heap.size w w6 ∧ Lq w5.heap.size v M P w6) := ⟨H5.out.1.below hI.b, below_on _ _ H5.out.2.b hI.b, hI.lq⟩
  clear hI hP hlq heq H5
  generalize w5.heap.size = B at H6 hjB hBw
  simp only [Act.put, sa, sz, ss]
  refine rest_set (d := 28) (v := .tuple #[v, .int .i64 ((A M : Nat) : Int), .int .i64 0]) (w' := w6) rfl rfl rfl (rfl) ?_
  simp only [Act.put, sa, sz, ss]
  refine rest_set (d := 34) (v := v) (w' := w6) rfl rfl rfl (by go_simp) ?_
  simp only [Act.put, sa, sz, ss]
  refine rest_set (d := 35) (v := .int .i64 ((A M : Nat) : Int)) (w' := w6) rfl rfl rfl (by go_simp) ?_
  simp only [Act.put, sa, sz, ss]
  refine rest_set (d := 36) (v := .int .i64 0) (w' := w6) rfl rfl rfl (by go_simp) ?_
  simp only [Act.put, sa, sz, ss]
  refine rest_set (d := 10) (v := v) (w' := w6) rfl rfl rfl (rfl) ?_
  simp only [Act.put, sa, sz, ss]
  refine rest_set (d := 11) (v := .int .i64 ((A M : Nat) : Int)) (w' := w6) rfl rfl rfl (rfl) ?_
  simp only [Act.put, sa, sz, ss]
  refine rest_set (d := 8) (v := .int .i64 0) (w' := w6) rfl rfl rfl (rfl) ?_
  simp only [Act.put, sa, sz, ss]
  refine rest_nil (then_normal ?_)
  refine wp_seq (wp_seq ?_)
  refine sq_start (l := [0, 1]) rfl ?_
  refine rest_set (d := 37) (v := .int .i64 0) (w' := w6) rfl rfl rfl (rfl) ?_
  simp only [Act.put, sa, sz, ss]
  refine rest_set (d := 38) (v := .bool false) (w' := w6) rfl rfl rfl (by kernel_rfl) ?_
  simp only [Act.put, sa, sz, ss]
  refine rest_nil (then_normal ?_)
  refine wp_cond_false rfl (wp_skip ?_)
  refine then_normal (wp_seq (wp_seq ?_))
  refine sq_start (l := [0, 1, 2, 3]) rfl ?_
  refine rest_set (d := 40) (v := .int .i64 ((A M : Nat) : Int)) (w' := w6) rfl rfl rfl (rfl) ?_
  simp only [Act.put, sa, sz, ss]
  refine rest_set (d := 41) (v := .slice q.p q.n q.cp) (w' := w6) rfl rfl rfl (rfl) ?_
  simp only [Act.put, sa, sz, ss]
  refine rest_set (d := 42) (v := .int .i64 ((q.n : Nat) : Int)) (w' := w6) rfl rfl rfl (by go_simp) ?_
  simp only [Act.put, sa, sz, ss]
  refine rest_set (d := 43) (v := .bool true) (w' := w6) rfl rfl rfl (by have := hqN.out; go_simp <;> omega) ?_
  simp only [Act.put, sa, sz, ss]
  refine rest_nil (then_normal ?_)
  refine wp_cond_true rfl (wp_seq ?_)
  refine sq_start (l := [0, 1, 2, 3, 4]) rfl ?_
  refine rest_set (d := 44) (v := PT d 0) (w' := w6) rfl rfl rfl (rfl) ?_
  simp only [Act.put, sa, sz, ss]
  refine rest_set (d := 45) (v := .string s) (w' := w6) rfl rfl rfl (rfl) ?_
  simp only [Act.put, sa, sz, ss]
  refine rest_set (d := 46) (v := .int .i64 ((A M : Nat) : Int)) (w' := w6) rfl rfl rfl (rfl) ?_
  simp only [Act.put, sa, sz, ss]
  refine rest_enter (d := 47) (R := fun vv w' => vv = .int .i64 0 ∧ I2 j w' ∧ Chg Lb w6 w') rfl rfl rfl (exec_call (args := #[PT d 0, .string s, .int .i64 ((A M : Nat) : Int)]) rfl call93 rfl (mpn rfl)) (Calls.mono (hcut.out j w6 H6.out.2.1 hwj.out (H6.out.1.blk _ (List.mem_cons_self ..)).1) (fun e w2 hh => ⟨_, hh.1, rfl, hh.2⟩)) ?_
  rintro _ w7 ⟨rfl, hI, hC⟩
  have H7 : Hid (Mm w7 [(j, jc d s 0 0)] ∧ I2 j w7 ∧ Lq B v M P w7) := ⟨hC.mm H6.out.1 (fun p hp hx => by obtain rfl := List.mem_singleton.1 hp; exact absurd (hLb.out _ hx) (Nat.not_lt.2 hwj.out)), hI, H6.out.2.2.chg hC (fun x hx => Nat.lt_of_lt_of_le (hLb.out x hx) hBw.out)⟩
  clear hI hC H6
  simp only [Act.put, sa, sz, ss]
  refine rest_set (d := 12) (v := .int .i64 0) (w' := w7) rfl rfl rfl (rfl) ?_
  simp only [Act.put, sa, sz, ss]
  refine rest_nil (then_normal (wp_seq ?_))
  refine sq_start (l := [0, 1]) rfl ?_
  refine rest_set (d := 48) (v := .int .i64 0) (w' := w7) rfl rfl rfl (rfl) ?_
  simp only [Act.put, sa, sz, ss]
  refine rest_set (d := 49) (v := .bool false) (w' := w7) rfl rfl rfl (by kernel_rfl) ?_
  simp only [Act.put, sa, sz, ss]
  refine rest_nil (then_normal ?_)
  refine wp_cond_false rfl (wp_skip ?_)
  refine then_normal (wp_seq ?_)
  refine sq_start (l := [0, 1, 2, 3, 4, 5, 6, 7, 8, 9, 10]) rfl ?_
  refine rest_set (d := 51) (v := PT j 0) (w' := w7) rfl rfl rfl (rfl) ?_
  simp only [Act.put, sa, sz, ss]
  refine rest_set (d := 52) (v := PT j 0) (w' := w7) rfl rfl rfl (rfl) ?_
  simp only [Act.put, sa, sz, ss]
  refine rest_set (d := 53) (v := v) (w' := w7) rfl rfl rfl (rfl) ?_
  simp only [Act.put, sa, sz, ss]
  refine rest_set (d := 54) (v := .int .i64 ((M : Nat) : Int)) (w' := w7) rfl rfl rfl (ex_lnL H7.out.2.2.own rfl rfl) ?_
  simp only [Act.put, sa, sz, ss]
  refine rest_set (d := 55) (v := .int .i64 ((A M : Nat) : Int)) (w' := w7) rfl rfl rfl (rfl) ?_
  simp only [Act.put, sa, sz, ss]
  refine rest_set (d := 56) (v := PT j 0) (w' := w7) rfl rfl rfl (by go_simp) ?_
  simp only [Act.put, sa, sz, ss]
  refine rest_set (d := 57) (v := PT j 258) (w' := w7) rfl rfl rfl (by go_simp) ?_
  simp only [Act.put, sa, sz, ss]
  refine rest_store rfl rfl rfl (ex_st1 (v := .int .i64 ((M : Nat) : Int)) H7.out.1 0 rfl rfl Try.sizeOf3 rfl rfl rfl (by rw [jc_len]; decide)) ?_
  have H8 : Hid (Mm (w7.setCells j 258 [Value.int .i64 ((M : Nat) : Int)]) [(j, jc d s M 0)] ∧ I2 j (w7.setCells j 258 [Value.int .i64 ((M : Nat) : Int)]) ∧ Lq B v M P (w7.setCells j 258 [Value.int .i64 ((M : Nat) : Int)])) := ⟨by
    have h := H7.out.1.put 0 (off := 258) (vs := [Value.int .i64 ((M : Nat) : Int)]) rfl (by rw [jc_len]; show 258 + 1 ≤ 260; decide)
    rw [jc_putc] at h
    exact h, ⟨s2p.out j _ _ _ H7.out.2.1, H7.out.2.2.put hjB.out _ _⟩⟩
  clear H7
  generalize hgw : World.setCells _ _ _ _ = w8 at H8 ⊢
  clear hgw
  refine rest_set (d := 58) (v := PT j 0) (w' := w8) rfl rfl rfl (by go_simp) ?_
  simp only [Act.put, sa, sz, ss]
  refine rest_set (d := 59) (v := PT j 259) (w' := w8) rfl rfl rfl (by go_simp) ?_
  simp only [Act.put, sa, sz, ss]
  refine rest_store rfl rfl rfl (ex_st1 (v := .int .i64 ((A M : Nat) : Int)) H8.out.1 0 rfl rfl Try.sizeOf3 rfl rfl rfl (by rw [jc_len]; decide)) ?_
  have H9 : Hid (Mm (w8.setCells j 259 [Value.int .i64 ((A M : Nat) : Int)]) [(j, jc d s M (A M))] ∧ I2 j (w8.setCells j 259 [Value.int .i64 ((A M : Nat) : Int)]) ∧ Lq B v M P (w8.setCells j 259 [Value.int .i64 ((A M : Nat) : Int)])) := ⟨by
    have h := H8.out.1.put 0 (off := 259) (vs := [Value.int .i64 ((A M : Nat) : Int)]) rfl (by rw [jc_len]; show 259 + 1 ≤ 260; decide)
    rw [jc_putz] at h
    exact h, ⟨s2p.out j _ _ _ H8.out.2.1, H8.out.2.2.put hjB.out _ _⟩⟩
  clear H8
  generalize hgw : World.setCells _ _ _ _ = w9 at H9 ⊢
  clear hgw
  refine rest_nil (then_normal (wp_seq ?_))
  refine sq_start (l := [0, 1, 2, 3, 4]) rfl ?_
  refine rest_set (d := 60) (v := PT j 0) (w' := w9) rfl rfl rfl (rfl) ?_
  simp only [Act.put, sa, sz, ss]
  refine rest_set (d := 61) (v := v) (w' := w9) rfl rfl rfl (rfl) ?_
  simp only [Act.put, sa, sz, ss]
  refine rest_set (d := 4) (v := PT j 0) (w' := w9) rfl rfl rfl (rfl) ?_
  simp only [Act.put, sa, sz, ss]
  refine rest_set (d := 5) (v := v) (w' := w9) rfl rfl rfl (rfl) ?_
  simp only [Act.put, sa, sz, ss]
  refine rest_set (d := 6) (v := .int .i64 0) (w' := w9) rfl rfl rfl (rfl) ?_
  simp only [Act.put, sa, sz, ss]
  refine rest_nil (then_normal (wp_ret ?_))
  repeat (first | refine then_ret ?_ | refine block_ret ?_)
  refine bodyPost_ret (v := .tuple #[PT j 0, v, .int .i64 0]) (by simp [results, Try.results48, go_sem, *]) rfl ?_
  exact ⟨_, _, _, _, rfl, H9.out.1, H9.out.2.1, H9.out.2.2, hwj.out, hjB.out, hPs.out⟩
end Wi
end Rg
end Go.Proofs.Ytidicdlfjdlpnaa
end
section
namespace Go.Proofs.Ytidicdlfjdlpnaa
open Go.RowKit
namespace Rg
namespace Wi
theorem call29 : ∀ args w, (callFunc 29 args).run Try.prog w = .ok (.enter 29 args) w := by intro args w; go_simp
set_option maxRecDepth 100000
theorem ex_cvS {ρ : Operand → Value} {o : Oper} {x : Operand} {g n c : Nat} {w : World} (ho : o.op = .convert 34 34 x) (hx : ρ x = .slice (some ⟨g, 0, none⟩) n c) : (execOp ρ o).run Try.prog w = .ok (.value (.slice (some ⟨g, 0, none⟩) n c)) (mkw w g) := by
  have h5 : Try.prog.underlying 5 = some (.int .u8) := by kernel_rfl
  simp only [execOp, ho, hx]
  unfold mkw
  cases hs : w.shape? g <;> simp [convert, run_underlying Try.underlying34, run_underlying h5, markStringish, hs, Result.andThen]
/-- A part's bytes. -/
def q8 (f : Nat → Nat) (n : Nat) : List Int := (List.range n).map fun i => ((f i : Nat) : Int)
theorem q8_cg {f g : Nat → Nat} {n : Nat} (h : ∀ i, i < n → f i = g i) : q8 f n = q8 g n := by
  unfold q8
  exact List.map_congr_left fun i hi => by rw [h i (by simpa using hi)]
theorem bsl_q {q : Pt8} {u : World} (h : Pok q) (hr : q.rs u) : BSl u (q8 q.f q.n) q.cp (.slice q.p q.n q.cp) := by
  rcases Nat.eq_zero_or_pos q.n with e | e
  · rw [e]
    exact BSl.void q.p rfl
  · rw [h.at e]
    exact Rd.bsl ⟨hr.lt e, fun i hi => hr.at_ i hi⟩ h.le
theorem same_q {q r : Pt8} {u : World} (hq : Pok q ∧ q.rs u) (hr : Pok r ∧ r.rs u) (hn : q.n = r.n) (hf : ∀ i, i < r.n → q.f i = r.f i) : Calls Try.prog 29 #[.slice q.p q.n q.cp, .slice r.p r.n r.cp] u fun e u' => e = .returned (.bool true) ∧ Below u.heap.size u u' := by
  have h1 := bsl_q hq.1 hq.2
  rw [show q8 q.f q.n = q8 r.f r.n by rw [hn]; exact q8_cg hf] at h1
  exact same_bb h1 (bsl_q hr.1 hr.2)
set_option maxHeartbeats 2000000 in
set_option maxRecDepth 100000 in
theorem copy_q (q : Pt8) (hn : q.n ≤ 2097152) (w : World) (hq0 : Pok q ∧ q.rs w) (hqn0 : q.p = none → q.cp = 0) :
    Calls Try.prog 49 #[.slice q.p q.n q.cp] w fun e w' => ∃ v, e = .returned v ∧ Cw w v q.n q.f w' := by
  have H0 : Hid (_ ∧ _) := ⟨Mm.nil w, Below.refl w.heap.size w⟩
  have hq : Hid _ := hq0
  clear hq0
  have hqn : Hid _ := hqn0
  clear hqn0
  go_enter Try.func49, Try.ntmps49
  refine wp_seq ?_
  refine sq_startW (l := [0]) rfl (fun u0 hu0 => ?_)
  have H1 : Hid (Mm u0 [] ∧ Below w.heap.size w u0) := by rw [hu0]; exact H0
  clear hu0 H0
  refine rest_set (d := 2) (v := .slice none 0 0) (w' := u0) rfl rfl rfl (rfl) ?_
  simp only [Act.put, sa, sz, ss]
  refine rest_nil (then_normal (wp_seq ?_))
  refine sq_start (l := [0, 1, 2, 3]) rfl ?_
  refine rest_set (d := 3) (v := .slice (some ⟨u0.heap.size, 0, none⟩) 0 0) (w' := (u0.alloc (.cells #[] 5))) rfl rfl rfl (ex_bs0 rfl) ?_
  simp only [Act.put, sa, sz, ss]
  have H2 : Hid (Mm (u0.alloc (.cells #[] 5)) [] ∧ Cw w (.slice (some ⟨u0.heap.size, 0, none⟩) 0 0) 0 (fun _ => 0) (u0.alloc (.cells #[] 5))) := ⟨Mm.nil _, ⟨H1.out.2.trans (((Below.refl _ _).alloc (Nat.le_refl _) _).mono H1.out.2.size), World.ownsRow_made _ _ 0 H1.out.2.size (by decide) rfl⟩⟩
  clear H1
  generalize hgw : u0.alloc (.cells #[] 5) = w2 at H2 ⊢
  clear hgw
  generalize u0.heap.size = γm at H2 ⊢
  refine rest_set (d := 4) (v := .slice q.p q.n q.cp) (w' := w2) rfl rfl rfl (rfl) ?_
  simp only [Act.put, sa, sz, ss]
  obtain ⟨vr, w3, hr, hO, hG, h5⟩ := own_appQ H2.out.2.own H2.out.2.size (q := q) hq.out.1 hqn.out (hq.out.2.below H2.out.2.b) (show 0 + q.n ≤ 2097152 by omega) 34
  refine rest_set (d := 5) (v := vr) (w' := w3) rfl rfl rfl (ex_app rfl rfl rfl hr) ?_
  simp only [Act.put, sa, sz, ss]
  have H3 : Hid (Mm w3 [] ∧ Cw w vr (0 + q.n) (ct (fun _ => 0) 0 q.f) w3) := ⟨Mm.nil _, H2.out.2.on (Chg.grown hG) hO⟩
  clear hr hO hG h5 H2
  refine rest_set (d := 2) (v := vr) (w' := w3) rfl rfl rfl (rfl) ?_
  simp only [Act.put, sa, sz, ss]
  refine rest_nil (then_normal (wp_ret ?_))
  repeat (first | refine then_ret ?_ | refine block_ret ?_)
  refine bodyPost_ret (v := vr) (by simp [results, Try.results49, go_sem, *]) rfl ?_
  exact ⟨_, rfl, by have h := H3.out.2.cg (P2 := q.f) (fun j _ => by rw [ct_zero]); rw [Nat.zero_add] at h; exact h⟩
/-- A list of parts, as it is read. -/
structure Lv (pl : Option Addr) (g o m : Nat) (P : Nat → Pt8) (u : World) : Prop where
  p : 0 < m → pl = some ⟨g, o, none⟩
  lt : 0 < m → g < u.heap.size
  at_ : ∀ i, i < m → u.cell? ⟨g, o + i, none⟩ = some (.slice (P i).p (P i).n (P i).cp)
  ok : ∀ i, i < m → Pok (P i) ∧ ((P i).p = none → (P i).cp = 0) ∧ (P i).rs u
theorem Lv.below {pl : Option Addr} {g o m : Nat} {P : Nat → Pt8} {u u' : World} (h : Lv pl g o m P u) (hb : Below u.heap.size u u') : Lv pl g o m P u' :=
  ⟨h.p, fun h0 => Nat.lt_of_lt_of_le (h.lt h0) hb.size, fun i hi => by rw [hb.cell (p := ⟨g, o + i, none⟩) (h.lt (by omega))]; exact h.at_ i hi, fun i hi => ⟨(h.ok i hi).1, (h.ok i hi).2.1, (h.ok i hi).2.2.below hb⟩⟩
theorem Lq.lv {B m : Nat} {v : Value} {P : Nat → Pt8} {u : World} (h : Lq B v m P u) : ∃ pl c g, v = .slice pl m c ∧ Lv pl g 0 m P u := by
  have hk : ∀ i, i < m → Pok (P i) ∧ ((P i).p = none → (P i).cp = 0) ∧ (P i).rs u := fun i hi => ⟨(h.ok i hi).1, (h.ok i hi).2.1, (h.ok i hi).2.2.1⟩
  rcases h.own.2 with ⟨h1, h2⟩ | ⟨g, cap, cur, h1, h2, h3, h4, _⟩
  · subst h2
    exact ⟨_, _, 0, h1, fun h0 => absurd h0 (Nat.lt_irrefl _), fun h0 => absurd h0 (Nat.lt_irrefl _), fun i hi => absurd hi (Nat.not_lt_zero _), hk⟩
  · refine ⟨_, _, g, h1, fun _ => rfl, fun _ => (Array.getElem?_eq_some_iff.1 h3).1, fun i hi => ?_, hk⟩
    have e := World.ownsRow.cells h.own (g := g) (by rw [h1]; rfl) i _ (pcs_get P hi)
    rwa [show (⟨g, 0, none⟩ : Addr).add i = ⟨g, 0 + i, none⟩ by unfold Addr.add; split <;> simp_all] at e
section
variable {ρ : Operand → Value} {o : Oper} {x y : Operand} {g off j m c : Nat} {v : Value} {w : World}
theorem ex_ixL {p : Option Addr} (he : p = some ⟨g, off, none⟩) (ho : o.op = .indexAddr 61 x y) (hx : ρ x = .slice p m c) (hy : ρ y = .int .i64 ((j : Nat) : Int)) (h : j < m) : (execOp ρ o).run Try.prog w = .ok (.value (PT g (off + j))) w := by
  subst he
  simp only [execOp, ho, hx, hy]
  clear ho hx hy
  go_simp
theorem ex_ldL {p : Option Addr} {n c : Nat} (c0 : w.cell? ⟨g, off, none⟩ = some (.slice p n c)) (ho : o.op = .load 34 x) (hx : ρ x = PT g off) : (execOp ρ o).run Try.prog w = .ok (.value (.slice p n c)) w := by
  simp only [execOp, ho, hx]
  clear ho hx
  go_simp
end
set_option maxHeartbeats 2000000 in
set_option maxRecDepth 100000 in
theorem same_lists (m : Nat) (hm : m ≤ 1000000) (pl1 : Option Addr) (c1 g1 o1 : Nat) (P1 : Nat → Pt8) (pl2 : Option Addr) (c2 g2 o2 : Nat) (P2 : Nat → Pt8) (w : World) (hl1z : Lv pl1 g1 o1 m P1 w) (hl2z : Lv pl2 g2 o2 m P2 w) (hsmz : ∀ i, i < m → (P1 i).n = (P2 i).n ∧ ∀ j, j < (P2 i).n → (P1 i).f j = (P2 i).f j) :
    Calls Try.prog 39 #[.slice pl1 m c1, .slice pl2 m c2] w fun e w' => e = .returned (.bool true) ∧ Below w.heap.size w w' := by
  have H0 : Hid (_ ∧ _) := ⟨Mm.nil w, Below.refl w.heap.size w⟩
  have hl1 : Hid _ := hl1z
  have hl2 : Hid _ := hl2z
  have hsm : Hid _ := hsmz
  clear hl1z hl2z hsmz
  go_enter Try.func39, Try.ntmps39
  refine wp_seq ?_
  refine sq_startW (l := [0]) rfl (fun u0 hu0 => ?_)
  have H1 : Hid (Mm u0 [] ∧ Below w.heap.size w u0) := by rw [hu0]; exact H0
  clear hu0 H0
  refine rest_set (d := 4) (v := .bool false) (w' := u0) rfl rfl rfl (rfl) ?_
  simp only [Act.put, sa, sz, ss]
  refine rest_nil (then_normal ?_)
  refine wp_seq (wp_seq ?_)
  refine sq_start (l := [0, 1, 2, 3, 4]) rfl ?_
  refine rest_set (d := 6) (v := .slice pl1 m c1) (w' := u0) rfl rfl rfl (rfl) ?_
  simp only [Act.put, sa, sz, ss]
  refine rest_set (d := 7) (v := .int .i64 ((m : Nat) : Int)) (w' := u0) rfl rfl rfl (by go_simp) ?_
  simp only [Act.put, sa, sz, ss]
  refine rest_set (d := 8) (v := .slice pl2 m c2) (w' := u0) rfl rfl rfl (rfl) ?_
  simp only [Act.put, sa, sz, ss]
  refine rest_set (d := 9) (v := .int .i64 ((m : Nat) : Int)) (w' := u0) rfl rfl rfl (by go_simp) ?_
  simp only [Act.put, sa, sz, ss]
  refine rest_set (d := 10) (v := .bool false) (w' := u0) rfl rfl rfl (by go_simp <;> omega) ?_
  simp only [Act.put, sa, sz, ss]
  refine rest_nil (then_normal ?_)
  refine wp_cond_false rfl (wp_skip ?_)
  refine then_normal (wp_seq (wp_seq ?_))
  refine sq_start (l := [0]) rfl ?_
  refine rest_set (d := 5) (v := .int .i64 0) (w' := u0) rfl rfl rfl (rfl) ?_
  simp only [Act.put, sa, sz, ss]
  refine rest_nil (then_normal (wp_block ?_))
  refine loop_ghost (α := Nat) (fun x a' w' => ∃ s0 : Nat → Value, a' = ⟨#[.slice pl1 m c1, .slice pl2 m c2, undef, undef, s0 4, .int .i64 ((x : Nat) : Int), .slice pl1 m c1, .int .i64 ((m : Nat) : Int), .slice pl2 m c2, .int .i64 ((m : Nat) : Int), .bool false, s0 11, s0 12, s0 13, s0 14, s0 15, s0 16, s0 17, s0 18, s0 19, s0 20, s0 21, s0 22, s0 23, s0 24, s0 25, s0 26], []⟩ ∧ (Mm w' [] ∧ Below w.heap.size w w') ∧ x ≤ m) (fun x => m - x) 0 ?st0 ?rd0
  case st0 => exact ⟨(slotfn [undef, undef, undef, undef, .bool false, undef, undef, undef, undef, undef, undef, undef, undef, undef, undef, undef, undef, undef, undef, undef, undef, undef, undef, undef, undef, undef, undef]), rfl, ⟨H1.out.1, H1.out.2⟩, Nat.zero_le _⟩
  intro x a' w2 hI
  obtain ⟨s0, rfl, hMB, hk0⟩ := hI
  have H2 : Hid (_ ∧ _) := hMB
  clear hMB H1
  by_cases hltx : x < m
  · have hrd : True := trivial
    clear hrd
    refine wp_seq (wp_seq ?_)
    refine sq_start (l := [0, 1, 2, 3]) rfl ?_
    refine rest_set (d := 11) (v := .int .i64 ((x : Nat) : Int)) (w' := w2) rfl rfl rfl (rfl) ?_
    simp only [Act.put, sa, sz, ss]
    refine rest_set (d := 12) (v := .slice pl1 m c1) (w' := w2) rfl rfl rfl (rfl) ?_
    simp only [Act.put, sa, sz, ss]
    refine rest_set (d := 13) (v := .int .i64 ((m : Nat) : Int)) (w' := w2) rfl rfl rfl (by go_simp) ?_
    simp only [Act.put, sa, sz, ss]
    refine rest_set (d := 14) (v := .bool true) (w' := w2) rfl rfl rfl (by go_simp <;> omega) ?_
    simp only [Act.put, sa, sz, ss]
    refine rest_nil (then_normal ?_)
    refine wp_cond_true rfl (wp_skip ?_)
    refine then_normal (wp_seq ?_)
    refine wp_block (wp_seq ?_)
    refine (walk_any) (by kernel_rfl) 8 [.quiet (.slice pl1 m c1), .quiet (.int .i64 ((x : Nat) : Int)), .quiet (PT g1 (o1 + x)), .quiet (.slice (P1 x).p (P1 x).n (P1 x).cp), .quiet (.slice pl2 m c2), .quiet (.int .i64 ((x : Nat) : Int)), .quiet (PT g2 (o2 + x)), .quiet (.slice (P2 x).p (P2 x).n (P2 x).cp)] (fun u' => Mm u' [] ∧ Below w.heap.size w u') ?pre5 ?F5 ?hpre5 (fun γ => ?hF5) (by kernel_rfl) ?hL5 ?hS5 ?ho5 ?he5
    case hpre5 => simp only [tk, tz]; rfl
    case hF5 => simp only [fill, Kind.val, Act.put, sa, sz, ss]; rfl
    case hL5 => exact trivial
    case hS5 => exact fun w' hb => ⟨H2.out.1.below hb, H2.out.2.trans (hb.mono H2.out.2.size)⟩
    case ho5 =>
      refine ak (fun _ => ⟨rfl, fun _ _ => rfl⟩) ?_
      refine ak (fun _ => ⟨rfl, fun _ _ => rfl⟩) ?_
      refine ak (fun γ => ⟨rfl, fun w' _ => ex_ixL (hl1.out.p (by omega)) rfl rfl rfl (by omega)⟩) ?_
      refine ak (fun γ => ⟨rfl, fun w' hX => ex_ldL ((hl1.out.below hX.2).at_ x (by omega)) rfl rfl⟩) ?_
      refine ak (fun _ => ⟨rfl, fun _ _ => rfl⟩) ?_
      refine ak (fun _ => ⟨rfl, fun _ _ => rfl⟩) ?_
      refine ak (fun γ => ⟨rfl, fun w' _ => ex_ixL (hl2.out.p (by omega)) rfl rfl rfl (by omega)⟩) ?_
      refine ak (fun γ => ⟨rfl, fun w' hX => ex_ldL ((hl2.out.below hX.2).at_ x (by omega)) rfl rfl⟩) ?_
      exact trivial
    intro γ w3 l hM hl
    have H3 := keepB H2 hM.below
    clear hM hl l H2 γ
    refine rest_at (l := [8, 9]) rfl ?_
    refine rest_enter (d := 25) (R := fun vv w' => vv = .bool true ∧ Below w3.heap.size w3 w') rfl rfl rfl (exec_call (args := #[.slice (P1 x).p (P1 x).n (P1 x).cp, .slice (P2 x).p (P2 x).n (P2 x).cp]) rfl call29 rfl (mpn rfl)) (Calls.mono (same_q ⟨(hl1.out.ok x (by omega)).1, (hl1.out.ok x (by omega)).2.2.below H3.out.2⟩ ⟨(hl2.out.ok x (by omega)).1, (hl2.out.ok x (by omega)).2.2.below H3.out.2⟩ (hsm.out x (by omega)).1 (hsm.out x (by omega)).2) (fun e w2 hh => ⟨_, hh.1, rfl, hh.2⟩)) ?_
    rintro _ w4 ⟨rfl, hb⟩
    have H4 : Hid (Mm w4 [] ∧ Below w.heap.size w w4) := ⟨H3.out.1.below hb, H3.out.2.trans (hb.mono H3.out.2.size)⟩
    clear hb
    clear H3
    simp only [Act.put, sa, sz, ss]
    refine rest_set (d := 26) (v := .bool false) (w' := w4) rfl rfl rfl (by go_simp) ?_
    simp only [Act.put, sa, sz, ss]
    refine rest_nil (then_normal ?_)
    refine wp_cond_false rfl (wp_skip ?_)
    refine block_normal (then_normal ?_)
    refine sq_start (l := [0, 1, 2]) rfl ?_
    refine rest_set (d := 15) (v := .int .i64 ((x : Nat) : Int)) (w' := w4) rfl rfl rfl (rfl) ?_
    simp only [Act.put, sa, sz, ss]
    refine rest_set (d := 16) (v := .int .i64 ((x + 1 : Nat) : Int)) (w' := w4) rfl rfl rfl (by go_simp; rw [IntKind.wrap_i64]; omega) ?_
    simp only [Act.put, sa, sz, ss]
    refine rest_set (d := 5) (v := .int .i64 ((x + 1 : Nat) : Int)) (w' := w4) rfl rfl rfl (rfl) ?_
    simp only [Act.put, sa, sz, ss]
    refine rest_nil (then_normal ?_)
    exact ⟨x + 1, ⟨(slotfn [undef, undef, undef, undef, s0 4, undef, undef, undef, undef, undef, undef, .int .i64 ((x : Nat) : Int), .slice pl1 m c1, .int .i64 ((m : Nat) : Int), .bool true, .int .i64 ((x : Nat) : Int), .int .i64 ((x + 1 : Nat) : Int), .slice pl1 m c1, .int .i64 ((x : Nat) : Int), PT g1 (o1 + x), .slice (P1 x).p (P1 x).n (P1 x).cp, .slice pl2 m c2, .int .i64 ((x : Nat) : Int), PT g2 (o2 + x), .slice (P2 x).p (P2 x).n (P2 x).cp, .bool true, .bool false]), rfl, ⟨H4.out.1, H4.out.2⟩, (show x + 1 ≤ m by omega)⟩, (show m - (x + 1) < m - x by omega)⟩
  refine wp_seq (wp_seq ?_)
  refine sq_start (l := [0, 1, 2, 3]) rfl ?_
  refine rest_set (d := 11) (v := .int .i64 ((x : Nat) : Int)) (w' := w2) rfl rfl rfl (rfl) ?_
  simp only [Act.put, sa, sz, ss]
  refine rest_set (d := 12) (v := .slice pl1 m c1) (w' := w2) rfl rfl rfl (rfl) ?_
  simp only [Act.put, sa, sz, ss]
  refine rest_set (d := 13) (v := .int .i64 ((m : Nat) : Int)) (w' := w2) rfl rfl rfl (by go_simp) ?_
  simp only [Act.put, sa, sz, ss]
  refine rest_set (d := 14) (v := .bool false) (w' := w2) rfl rfl rfl (by go_simp <;> omega) ?_
  simp only [Act.put, sa, sz, ss]
  refine rest_nil (then_normal (wp_cond_false rfl ?_))
  refine wp_exit ?_
  repeat refine then_exit ?_
  refine block_exit ?_
  refine then_normal (wp_seq ?_)
  refine sq_start (l := [0]) rfl ?_
  refine rest_set (d := 4) (v := .bool true) (w' := w2) rfl rfl rfl (rfl) ?_
  simp only [Act.put, sa, sz, ss]
  refine rest_nil (then_normal (wp_ret ?_))
  repeat (first | refine then_ret ?_ | refine block_ret ?_)
  refine bodyPost_ret (v := .bool true) (by simp [results, Try.results39, go_sem, *]) rfl ?_
  exact ⟨rfl, H2.out.2⟩
/-- Are records gone through here? -/
def shb (P : Nat → Pt8) (m : Nat) : Bool := decide ((∀ i, i < m → (P i).n ≤ 500) ∧ m ≤ 30)
set_option maxHeartbeats 2000000 in
set_option maxRecDepth 100000 in
theorem short_1 (m : Nat) (hm : m ≤ 9223372036854775807) (hm30 : m ≤ 30) (pl1 : Option Addr) (c1 g1 o1 : Nat) (P1 : Nat → Pt8) (w : World) (hl1z : Lv pl1 g1 o1 m P1 w) :
    Calls Try.prog 50 #[.slice pl1 m c1] w fun e w' => e = .returned (.bool (shb P1 m)) ∧ Below w.heap.size w w' := by
  have H0 : Hid (_ ∧ _) := ⟨Mm.nil w, Below.refl w.heap.size w⟩
  have hl1 : Hid _ := hl1z
  clear hl1z
  go_enter Try.func50, Try.ntmps50
  refine wp_seq ?_
  refine sq_startW (l := [0]) rfl (fun u0 hu0 => ?_)
  have H1 : Hid (Mm u0 [] ∧ Below w.heap.size w u0) := by rw [hu0]; exact H0
  clear hu0 H0
  refine rest_set (d := 2) (v := .bool false) (w' := u0) rfl rfl rfl (rfl) ?_
  simp only [Act.put, sa, sz, ss]
  refine rest_nil (then_normal ?_)
  refine wp_seq (wp_seq ?_)
  refine sq_start (l := [0]) rfl ?_
  refine rest_set (d := 3) (v := .int .i64 0) (w' := u0) rfl rfl rfl (rfl) ?_
  simp only [Act.put, sa, sz, ss]
  refine rest_nil (then_normal (wp_block ?_))
  refine loop_ghost (α := Nat) (fun x a' w' => ∃ s0 : Nat → Value, a' = ⟨#[.slice pl1 m c1, undef, s0 2, .int .i64 ((x : Nat) : Int), s0 4, s0 5, s0 6, s0 7, s0 8, s0 9, s0 10, s0 11, s0 12, s0 13, s0 14, s0 15, undef, undef, undef], []⟩ ∧ (Mm w' [] ∧ Below w.heap.size w w') ∧ x ≤ m ∧ ∀ i, i < x → (P1 i).n ≤ 500) (fun x => m - x) 0 ?st0 ?rd0
  case st0 => exact ⟨(slotfn [undef, undef, .bool false, undef, undef, undef, undef, undef, undef, undef, undef, undef, undef, undef, undef, undef]), rfl, ⟨H1.out.1, H1.out.2⟩, ⟨Nat.zero_le _, fun i hi => absurd hi (Nat.not_lt_zero _)⟩⟩
  intro x a' w2 hI
  obtain ⟨s0, rfl, hMB, hk0⟩ := hI
  have H2 : Hid (_ ∧ _) := hMB
  clear hMB H1
  by_cases hltx : x < m
  · have hrd : True := trivial
    clear hrd
    by_cases hle : (P1 x).n ≤ 500
    · have hrd : True := trivial
      clear hrd
      refine wp_seq (wp_seq ?_)
      refine sq_start (l := [0, 1, 2, 3]) rfl ?_
      refine rest_set (d := 4) (v := .int .i64 ((x : Nat) : Int)) (w' := w2) rfl rfl rfl (rfl) ?_
      simp only [Act.put, sa, sz, ss]
      refine rest_set (d := 5) (v := .slice pl1 m c1) (w' := w2) rfl rfl rfl (rfl) ?_
      simp only [Act.put, sa, sz, ss]
      refine rest_set (d := 6) (v := .int .i64 ((m : Nat) : Int)) (w' := w2) rfl rfl rfl (by go_simp) ?_
      simp only [Act.put, sa, sz, ss]
      refine rest_set (d := 7) (v := .bool true) (w' := w2) rfl rfl rfl (by go_simp <;> omega) ?_
      simp only [Act.put, sa, sz, ss]
      refine rest_nil (then_normal ?_)
      refine wp_cond_true rfl (wp_skip ?_)
      refine then_normal (wp_seq ?_)
      refine wp_block (wp_seq ?_)
      refine sq_start (l := [0, 1, 2, 3, 4, 5]) rfl ?_
      refine rest_set (d := 10) (v := .slice pl1 m c1) (w' := w2) rfl rfl rfl (rfl) ?_
      simp only [Act.put, sa, sz, ss]
      refine rest_set (d := 11) (v := .int .i64 ((x : Nat) : Int)) (w' := w2) rfl rfl rfl (rfl) ?_
      simp only [Act.put, sa, sz, ss]
      refine rest_set (d := 12) (v := PT g1 (o1 + x)) (w' := w2) rfl rfl rfl (ex_ixL (hl1.out.p (by omega)) rfl rfl rfl (by omega)) ?_
      simp only [Act.put, sa, sz, ss]
      refine rest_set (d := 13) (v := .slice (P1 x).p (P1 x).n (P1 x).cp) (w' := w2) rfl rfl rfl (ex_ldL ((hl1.out.below H2.out.2).at_ x (by omega)) rfl rfl) ?_
      simp only [Act.put, sa, sz, ss]
      refine rest_set (d := 14) (v := .int .i64 (((P1 x).n : Nat) : Int)) (w' := w2) rfl rfl rfl (by go_simp) ?_
      simp only [Act.put, sa, sz, ss]
      refine rest_set (d := 15) (v := .bool false) (w' := w2) rfl rfl rfl (by go_simp <;> omega) ?_
      simp only [Act.put, sa, sz, ss]
      refine rest_nil (then_normal ?_)
      refine wp_cond_false rfl (wp_skip ?_)
      refine block_normal (then_normal ?_)
      refine sq_start (l := [0, 1, 2]) rfl ?_
      refine rest_set (d := 8) (v := .int .i64 ((x : Nat) : Int)) (w' := w2) rfl rfl rfl (rfl) ?_
      simp only [Act.put, sa, sz, ss]
      refine rest_set (d := 9) (v := .int .i64 ((x + 1 : Nat) : Int)) (w' := w2) rfl rfl rfl (by go_simp; rw [IntKind.wrap_i64]; omega) ?_
      simp only [Act.put, sa, sz, ss]
      refine rest_set (d := 3) (v := .int .i64 ((x + 1 : Nat) : Int)) (w' := w2) rfl rfl rfl (rfl) ?_
      simp only [Act.put, sa, sz, ss]
      refine rest_nil (then_normal ?_)
      exact ⟨x + 1, ⟨(slotfn [undef, undef, s0 2, undef, .int .i64 ((x : Nat) : Int), .slice pl1 m c1, .int .i64 ((m : Nat) : Int), .bool true, .int .i64 ((x : Nat) : Int), .int .i64 ((x + 1 : Nat) : Int), .slice pl1 m c1, .int .i64 ((x : Nat) : Int), PT g1 (o1 + x), .slice (P1 x).p (P1 x).n (P1 x).cp, .int .i64 (((P1 x).n : Nat) : Int), .bool false]), rfl, ⟨H2.out.1, H2.out.2⟩, ⟨by omega, fun i hi => by rcases Nat.lt_succ_iff_lt_or_eq.1 hi with h | h; exact hk0.2 i h; rw [h]; exact hle⟩⟩, (show m - (x + 1) < m - x by omega)⟩
    · have hrd : True := trivial
      clear hrd
      refine wp_seq (wp_seq ?_)
      refine sq_start (l := [0, 1, 2, 3]) rfl ?_
      refine rest_set (d := 4) (v := .int .i64 ((x : Nat) : Int)) (w' := w2) rfl rfl rfl (rfl) ?_
      simp only [Act.put, sa, sz, ss]
      refine rest_set (d := 5) (v := .slice pl1 m c1) (w' := w2) rfl rfl rfl (rfl) ?_
      simp only [Act.put, sa, sz, ss]
      refine rest_set (d := 6) (v := .int .i64 ((m : Nat) : Int)) (w' := w2) rfl rfl rfl (by go_simp) ?_
      simp only [Act.put, sa, sz, ss]
      refine rest_set (d := 7) (v := .bool true) (w' := w2) rfl rfl rfl (by go_simp <;> omega) ?_
      simp only [Act.put, sa, sz, ss]
      refine rest_nil (then_normal ?_)
      refine wp_cond_true rfl (wp_skip ?_)
      refine then_normal (wp_seq ?_)
      refine wp_block (wp_seq ?_)
      refine sq_start (l := [0, 1, 2, 3, 4, 5]) rfl ?_
      refine rest_set (d := 10) (v := .slice pl1 m c1) (w' := w2) rfl rfl rfl (rfl) ?_
      simp only [Act.put, sa, sz, ss]
      refine rest_set (d := 11) (v := .int .i64 ((x : Nat) : Int)) (w' := w2) rfl rfl rfl (rfl) ?_
      simp only [Act.put, sa, sz, ss]
      refine rest_set (d := 12) (v := PT g1 (o1 + x)) (w' := w2) rfl rfl rfl (ex_ixL (hl1.out.p (by omega)) rfl rfl rfl (by omega)) ?_
      simp only [Act.put, sa, sz, ss]
      refine rest_set (d := 13) (v := .slice (P1 x).p (P1 x).n (P1 x).cp) (w' := w2) rfl rfl rfl (ex_ldL ((hl1.out.below H2.out.2).at_ x (by omega)) rfl rfl) ?_
      simp only [Act.put, sa, sz, ss]
      refine rest_set (d := 14) (v := .int .i64 (((P1 x).n : Nat) : Int)) (w' := w2) rfl rfl rfl (by go_simp) ?_
      simp only [Act.put, sa, sz, ss]
      refine rest_set (d := 15) (v := .bool true) (w' := w2) rfl rfl rfl (by go_simp <;> omega) ?_
      simp only [Act.put, sa, sz, ss]
      refine rest_nil (then_normal ?_)
      refine wp_cond_true rfl (wp_seq ?_)
      refine sq_start (l := [0]) rfl ?_
      refine rest_set (d := 2) (v := .bool false) (w' := w2) rfl rfl rfl (rfl) ?_
      simp only [Act.put, sa, sz, ss]
      refine rest_nil (then_normal (wp_ret ?_))
      repeat (first | refine then_ret ?_ | refine block_ret ?_)
      refine bodyPost_ret (v := .bool false) (by simp [results, Try.results50, go_sem, *]) rfl ?_
      exact ⟨by rw [show shb P1 m = false from decide_eq_false (fun h => hle (h.1 x hltx))], H2.out.2⟩
  refine wp_seq (wp_seq ?_)
  refine sq_start (l := [0, 1, 2, 3]) rfl ?_
  refine rest_set (d := 4) (v := .int .i64 ((x : Nat) : Int)) (w' := w2) rfl rfl rfl (rfl) ?_
  simp only [Act.put, sa, sz, ss]
  refine rest_set (d := 5) (v := .slice pl1 m c1) (w' := w2) rfl rfl rfl (rfl) ?_
  simp only [Act.put, sa, sz, ss]
  refine rest_set (d := 6) (v := .int .i64 ((m : Nat) : Int)) (w' := w2) rfl rfl rfl (by go_simp) ?_
  simp only [Act.put, sa, sz, ss]
  refine rest_set (d := 7) (v := .bool false) (w' := w2) rfl rfl rfl (by go_simp <;> omega) ?_
  simp only [Act.put, sa, sz, ss]
  refine rest_nil (then_normal (wp_cond_false rfl ?_))
  refine wp_exit ?_
  repeat refine then_exit ?_
  refine block_exit ?_
  refine then_normal (wp_seq ?_)
  refine sq_start (l := [0, 1, 2, 3]) rfl ?_
  refine rest_set (d := 16) (v := .slice pl1 m c1) (w' := w2) rfl rfl rfl (rfl) ?_
  simp only [Act.put, sa, sz, ss]
  refine rest_set (d := 17) (v := .int .i64 ((m : Nat) : Int)) (w' := w2) rfl rfl rfl (by go_simp) ?_
  simp only [Act.put, sa, sz, ss]
  refine rest_set (d := 18) (v := .bool true) (w' := w2) rfl rfl rfl (by go_simp <;> omega) ?_
  simp only [Act.put, sa, sz, ss]
  refine rest_set (d := 2) (v := .bool true) (w' := w2) rfl rfl rfl (rfl) ?_
  simp only [Act.put, sa, sz, ss]
  refine rest_nil (then_normal (wp_ret ?_))
  repeat (first | refine then_ret ?_ | refine block_ret ?_)
  refine bodyPost_ret (v := .bool true) (by simp [results, Try.results50, go_sem, *]) rfl ?_
  exact ⟨by rw [show shb P1 m = true from decide_eq_true ⟨fun i hi => hk0.2 i (by omega), hm30⟩], H2.out.2⟩
set_option maxHeartbeats 2000000 in
set_option maxRecDepth 100000 in
theorem short_0 (m : Nat) (hm : m ≤ 9223372036854775807) (hm30 : ¬m ≤ 30) (pl1 : Option Addr) (c1 g1 o1 : Nat) (P1 : Nat → Pt8) (w : World) (hl1z : Lv pl1 g1 o1 m P1 w) :
    Calls Try.prog 50 #[.slice pl1 m c1] w fun e w' => e = .returned (.bool (shb P1 m)) ∧ Below w.heap.size w w' := by
  have H0 : Hid (_ ∧ _) := ⟨Mm.nil w, Below.refl w.heap.size w⟩
  have hl1 : Hid _ := hl1z
  clear hl1z
  go_enter Try.func50, Try.ntmps50
  refine wp_seq ?_
  refine sq_startW (l := [0]) rfl (fun u0 hu0 => ?_)
  have H1 : Hid (Mm u0 [] ∧ Below w.heap.size w u0) := by rw [hu0]; exact H0
  clear hu0 H0
  refine rest_set (d := 2) (v := .bool false) (w' := u0) rfl rfl rfl (rfl) ?_
  simp only [Act.put, sa, sz, ss]
  refine rest_nil (then_normal ?_)
  refine wp_seq (wp_seq ?_)
  refine sq_start (l := [0]) rfl ?_
  refine rest_set (d := 3) (v := .int .i64 0) (w' := u0) rfl rfl rfl (rfl) ?_
  simp only [Act.put, sa, sz, ss]
  refine rest_nil (then_normal (wp_block ?_))
  refine loop_ghost (α := Nat) (fun x a' w' => ∃ s0 : Nat → Value, a' = ⟨#[.slice pl1 m c1, undef, s0 2, .int .i64 ((x : Nat) : Int), s0 4, s0 5, s0 6, s0 7, s0 8, s0 9, s0 10, s0 11, s0 12, s0 13, s0 14, s0 15, undef, undef, undef], []⟩ ∧ (Mm w' [] ∧ Below w.heap.size w w') ∧ x ≤ m ∧ ∀ i, i < x → (P1 i).n ≤ 500) (fun x => m - x) 0 ?st0 ?rd0
  case st0 => exact ⟨(slotfn [undef, undef, .bool false, undef, undef, undef, undef, undef, undef, undef, undef, undef, undef, undef, undef, undef]), rfl, ⟨H1.out.1, H1.out.2⟩, ⟨Nat.zero_le _, fun i hi => absurd hi (Nat.not_lt_zero _)⟩⟩
  intro x a' w2 hI
  obtain ⟨s0, rfl, hMB, hk0⟩ := hI
  have H2 : Hid (_ ∧ _) := hMB
  clear hMB H1
  by_cases hltx : x < m
  · have hrd : True := trivial
    clear hrd
    by_cases hle : (P1 x).n ≤ 500
    · have hrd : True := trivial
      clear hrd
      refine wp_seq (wp_seq ?_)
      refine sq_start (l := [0, 1, 2, 3]) rfl ?_
      refine rest_set (d := 4) (v := .int .i64 ((x : Nat) : Int)) (w' := w2) rfl rfl rfl (rfl) ?_
      simp only [Act.put, sa, sz, ss]
      refine rest_set (d := 5) (v := .slice pl1 m c1) (w' := w2) rfl rfl rfl (rfl) ?_
      simp only [Act.put, sa, sz, ss]
      refine rest_set (d := 6) (v := .int .i64 ((m : Nat) : Int)) (w' := w2) rfl rfl rfl (by go_simp) ?_
      simp only [Act.put, sa, sz, ss]
      refine rest_set (d := 7) (v := .bool true) (w' := w2) rfl rfl rfl (by go_simp <;> omega) ?_
      simp only [Act.put, sa, sz, ss]
      refine rest_nil (then_normal ?_)
      refine wp_cond_true rfl (wp_skip ?_)
      refine then_normal (wp_seq ?_)
      refine wp_block (wp_seq ?_)
      refine sq_start (l := [0, 1, 2, 3, 4, 5]) rfl ?_
      refine rest_set (d := 10) (v := .slice pl1 m c1) (w' := w2) rfl rfl rfl (rfl) ?_
      simp only [Act.put, sa, sz, ss]
      refine rest_set (d := 11) (v := .int .i64 ((x : Nat) : Int)) (w' := w2) rfl rfl rfl (rfl) ?_
      simp only [Act.put, sa, sz, ss]
      refine rest_set (d := 12) (v := PT g1 (o1 + x)) (w' := w2) rfl rfl rfl (ex_ixL (hl1.out.p (by omega)) rfl rfl rfl (by omega)) ?_
      simp only [Act.put, sa, sz, ss]
      refine rest_set (d := 13) (v := .slice (P1 x).p (P1 x).n (P1 x).cp) (w' := w2) rfl rfl rfl (ex_ldL ((hl1.out.below H2.out.2).at_ x (by omega)) rfl rfl) ?_
      simp only [Act.put, sa, sz, ss]
      refine rest_set (d := 14) (v := .int .i64 (((P1 x).n : Nat) : Int)) (w' := w2) rfl rfl rfl (by go_simp) ?_
      simp only [Act.put, sa, sz, ss]
      refine rest_set (d := 15) (v := .bool false) (w' := w2) rfl rfl rfl (by go_simp <;> omega) ?_
      simp only [Act.put, sa, sz, ss]
      refine rest_nil (then_normal ?_)
      refine wp_cond_false rfl (wp_skip ?_)
      refine block_normal (then_normal ?_)
      refine sq_start (l := [0, 1, 2]) rfl ?_
      refine rest_set (d := 8) (v := .int .i64 ((x : Nat) : Int)) (w' := w2) rfl rfl rfl (rfl) ?_
      simp only [Act.put, sa, sz, ss]
      refine rest_set (d := 9) (v := .int .i64 ((x + 1 : Nat) : Int)) (w' := w2) rfl rfl rfl (by go_simp; rw [IntKind.wrap_i64]; omega) ?_
      simp only [Act.put, sa, sz, ss]
      refine rest_set (d := 3) (v := .int .i64 ((x + 1 : Nat) : Int)) (w' := w2) rfl rfl rfl (rfl) ?_
      simp only [Act.put, sa, sz, ss]
      refine rest_nil (then_normal ?_)
      exact ⟨x + 1, ⟨(slotfn [undef, undef, s0 2, undef, .int .i64 ((x : Nat) : Int), .slice pl1 m c1, .int .i64 ((m : Nat) : Int), .bool true, .int .i64 ((x : Nat) : Int), .int .i64 ((x + 1 : Nat) : Int), .slice pl1 m c1, .int .i64 ((x : Nat) : Int), PT g1 (o1 + x), .slice (P1 x).p (P1 x).n (P1 x).cp, .int .i64 (((P1 x).n : Nat) : Int), .bool false]), rfl, ⟨H2.out.1, H2.out.2⟩, ⟨by omega, fun i hi => by rcases Nat.lt_succ_iff_lt_or_eq.1 hi with h | h; exact hk0.2 i h; rw [h]; exact hle⟩⟩, (show m - (x + 1) < m - x by omega)⟩
    · have hrd : True := trivial
      clear hrd
      refine wp_seq (wp_seq ?_)
      refine sq_start (l := [0, 1, 2, 3]) rfl ?_
      refine rest_set (d := 4) (v := .int .i64 ((x : Nat) : Int)) (w' := w2) rfl rfl rfl (rfl) ?_
      simp only [Act.put, sa, sz, ss]
      refine rest_set (d := 5) (v := .slice pl1 m c1) (w' := w2) rfl rfl rfl (rfl) ?_
      simp only [Act.put, sa, sz, ss]
      refine rest_set (d := 6) (v := .int .i64 ((m : Nat) : Int)) (w' := w2) rfl rfl rfl (by go_simp) ?_
      simp only [Act.put, sa, sz, ss]
      refine rest_set (d := 7) (v := .bool true) (w' := w2) rfl rfl rfl (by go_simp <;> omega) ?_
      simp only [Act.put, sa, sz, ss]
      refine rest_nil (then_normal ?_)
      refine wp_cond_true rfl (wp_skip ?_)
      refine then_normal (wp_seq ?_)
      refine wp_block (wp_seq ?_)
      refine sq_start (l := [0, 1, 2, 3, 4, 5]) rfl ?_
      refine rest_set (d := 10) (v := .slice pl1 m c1) (w' := w2) rfl rfl rfl (rfl) ?_
      simp only [Act.put, sa, sz, ss]
      refine rest_set (d := 11) (v := .int .i64 ((x : Nat) : Int)) (w' := w2) rfl rfl rfl (rfl) ?_
      simp only [Act.put, sa, sz, ss]
      refine rest_set (d := 12) (v := PT g1 (o1 + x)) (w' := w2) rfl rfl rfl (ex_ixL (hl1.out.p (by omega)) rfl rfl rfl (by omega)) ?_
      simp only [Act.put, sa, sz, ss]
      refine rest_set (d := 13) (v := .slice (P1 x).p (P1 x).n (P1 x).cp) (w' := w2) rfl rfl rfl (ex_ldL ((hl1.out.below H2.out.2).at_ x (by omega)) rfl rfl) ?_
      simp only [Act.put, sa, sz, ss]
      refine rest_set (d := 14) (v := .int .i64 (((P1 x).n : Nat) : Int)) (w' := w2) rfl rfl rfl (by go_simp) ?_
      simp only [Act.put, sa, sz, ss]
      refine rest_set (d := 15) (v := .bool true) (w' := w2) rfl rfl rfl (by go_simp <;> omega) ?_
      simp only [Act.put, sa, sz, ss]
      refine rest_nil (then_normal ?_)
      refine wp_cond_true rfl (wp_seq ?_)
      refine sq_start (l := [0]) rfl ?_
      refine rest_set (d := 2) (v := .bool false) (w' := w2) rfl rfl rfl (rfl) ?_
      simp only [Act.put, sa, sz, ss]
      refine rest_nil (then_normal (wp_ret ?_))
      repeat (first | refine then_ret ?_ | refine block_ret ?_)
      refine bodyPost_ret (v := .bool false) (by simp [results, Try.results50, go_sem, *]) rfl ?_
      exact ⟨by rw [show shb P1 m = false from decide_eq_false (fun h => hle (h.1 x hltx))], H2.out.2⟩
  refine wp_seq (wp_seq ?_)
  refine sq_start (l := [0, 1, 2, 3]) rfl ?_
  refine rest_set (d := 4) (v := .int .i64 ((x : Nat) : Int)) (w' := w2) rfl rfl rfl (rfl) ?_
  simp only [Act.put, sa, sz, ss]
  refine rest_set (d := 5) (v := .slice pl1 m c1) (w' := w2) rfl rfl rfl (rfl) ?_
  simp only [Act.put, sa, sz, ss]
  refine rest_set (d := 6) (v := .int .i64 ((m : Nat) : Int)) (w' := w2) rfl rfl rfl (by go_simp) ?_
  simp only [Act.put, sa, sz, ss]
  refine rest_set (d := 7) (v := .bool false) (w' := w2) rfl rfl rfl (by go_simp <;> omega) ?_
  simp only [Act.put, sa, sz, ss]
  refine rest_nil (then_normal (wp_cond_false rfl ?_))
  refine wp_exit ?_
  repeat refine then_exit ?_
  refine block_exit ?_
  refine then_normal (wp_seq ?_)
  refine sq_start (l := [0, 1, 2, 3]) rfl ?_
  refine rest_set (d := 16) (v := .slice pl1 m c1) (w' := w2) rfl rfl rfl (rfl) ?_
  simp only [Act.put, sa, sz, ss]
  refine rest_set (d := 17) (v := .int .i64 ((m : Nat) : Int)) (w' := w2) rfl rfl rfl (by go_simp) ?_
  simp only [Act.put, sa, sz, ss]
  refine rest_set (d := 18) (v := .bool false) (w' := w2) rfl rfl rfl (by go_simp <;> omega) ?_
  simp only [Act.put, sa, sz, ss]
  refine rest_set (d := 2) (v := .bool false) (w' := w2) rfl rfl rfl (rfl) ?_
  simp only [Act.put, sa, sz, ss]
  refine rest_nil (then_normal (wp_ret ?_))
  repeat (first | refine then_ret ?_ | refine block_ret ?_)
  refine bodyPost_ret (v := .bool false) (by simp [results, Try.results50, go_sem, *]) rfl ?_
  exact ⟨by rw [show shb P1 m = false from decide_eq_false (fun h => hm30 h.2)], H2.out.2⟩
theorem short_any (m : Nat) (hm : m ≤ 9223372036854775807) (pl1 : Option Addr) (c1 g1 o1 : Nat) (P1 : Nat → Pt8) (w : World) (hl : Lv pl1 g1 o1 m P1 w) : Calls Try.prog 50 #[.slice pl1 m c1] w fun e w' => e = .returned (.bool (shb P1 m)) ∧ Below w.heap.size w w' := by
  by_cases h : m ≤ 30
  · exact short_1 m hm h pl1 c1 g1 o1 P1 w hl
  · exact short_0 m hm h pl1 c1 g1 o1 P1 w hl
theorem Lq.base {B B' m : Nat} {v : Value} {P : Nat → Pt8} {u : World} (h : Lq B v m P u) (hb : B' ≤ B) : Lq B' v m P u := ⟨own_base h.own hb, fun i hi => ⟨(h.ok i hi).1, (h.ok i hi).2.1, (h.ok i hi).2.2.1, fun h0 => Nat.le_trans hb ((h.ok i hi).2.2.2 h0)⟩⟩
set_option maxHeartbeats 2000000 in
set_option maxRecDepth 100000 in
theorem Read_fine (q : Pt8) (A Ln : Nat → Nat) (M : Nat) (hbq : q.n ≤ 1048576) (w : World) (hq0 : Pok q ∧ q.rs w) (hqn0 : q.p = none → q.cp = 0) (hlg0 : Lgk q.f q.n A Ln M) (hen0 : End q.f q.n A M) :
    Calls Try.prog 35 #[.slice q.p q.n q.cp] w fun e w' => ∃ v P, e = .returned (.tuple #[v, .int .i64 ((A M : Nat) : Int), .int .i64 0]) ∧ (Below w.heap.size w w' ∧ Lq w.heap.size v M P w') ∧ ∀ i, i < M → (P i).n = Ln i ∧ ∀ j, j < Ln i → (P i).f j = q.f (A i + 8 + j) := by
  have H0 : Hid (_ ∧ _) := ⟨Mm.nil w, Below.refl w.heap.size w⟩
  have hq : Hid _ := hq0
  clear hq0
  have hqn : Hid _ := hqn0
  clear hqn0
  have hlg : Hid _ := hlg0
  clear hlg0
  have hen : Hid _ := hen0
  clear hen0
  go_enter Try.func35, Try.ntmps35
  refine wp_seq ?_
  refine sq_startW (l := [0, 1, 2]) rfl (fun u0 hu0 => ?_)
  have H1 : Hid (Mm u0 [] ∧ Below w.heap.size w u0) := by rw [hu0]; exact H0
  clear hu0 H0
  refine rest_set (d := 2) (v := .slice none 0 0) (w' := u0) rfl rfl rfl (rfl) ?_
  simp only [Act.put, sa, sz, ss]
  refine rest_set (d := 3) (v := .int .i64 0) (w' := u0) rfl rfl rfl (rfl) ?_
  simp only [Act.put, sa, sz, ss]
  refine rest_set (d := 4) (v := .int .i64 0) (w' := u0) rfl rfl rfl (rfl) ?_
  simp only [Act.put, sa, sz, ss]
  refine rest_nil (then_normal (wp_seq ?_))
  refine sq_start (l := [0, 1, 2]) rfl ?_
  refine rest_enter (d := 6) (R := fun vv w' => vv = .agg (ints .u32 crt 256).toArray ∧ Below u0.heap.size u0 w') rfl rfl rfl (exec_call (args := #[]) rfl call81 rfl (mpn rfl)) (Calls.mono (newTable_any u0) (fun e w2 hh => ⟨_, hh.1, rfl, hh.2⟩)) ?_
  rintro _ w2 ⟨rfl, hb⟩
  have H2 : Hid (Mm w2 [] ∧ Below w.heap.size w w2) := ⟨H1.out.1.below hb, H1.out.2.trans (hb.mono H1.out.2.size)⟩
  clear hb
  clear H1
  simp only [Act.put, sa, sz, ss]
  refine rest_set (d := 5) (v := PT w2.heap.size 0) (w' := (w2.alloc (.cells (ints .u32 (fun _ => 0) 256 : List Value).toArray 88))) rfl rfl rfl (ex_mkT rfl) ?_
  simp only [Act.put, sa, sz, ss]
  have o_γs3 : Hid (w.heap.size ≤ w2.heap.size) := H2.out.2.size
  have H3 : Hid (Mm (w2.alloc (.cells (ints .u32 (fun _ => 0) 256 : List Value).toArray 88)) ((w2.heap.size, ints .u32 (fun _ => 0) 256) :: []) ∧ Below w.heap.size w (w2.alloc (.cells (ints .u32 (fun _ => 0) 256 : List Value).toArray 88))) := ⟨H2.out.1.alloc _ 88 rfl, H2.out.2.trans (((Below.refl _ _).alloc (Nat.le_refl _) _).mono H2.out.2.size)⟩
  clear H2
  generalize hgw : w2.alloc (.cells (ints .u32 (fun _ => 0) 256 : List Value).toArray 88) = w3 at H3 ⊢
  clear hgw
  generalize w2.heap.size = γs3 at o_γs3 H3 ⊢
  refine rest_store rfl rfl rfl (ex_storeT (vs := ints .u32 crt 256) H3.out.1 0 rfl rfl rfl rfl (by rw [ints_len]; exact Try.sizeOf88) (ints_all _ _ _) (by rw [ints_len, ints_len]; omega)) ?_
  have H4 : Hid (Mm (w3.setCells γs3 0 (ints .u32 crt 256)) [(γs3, ints .u32 crt 256)] ∧ Below w.heap.size w (w3.setCells γs3 0 (ints .u32 crt 256))) := ⟨by
    have h := H3.out.1.put 0 (off := 0) (vs := ints .u32 crt 256) rfl (by rw [ints_len, ints_len]; omega)
    rw [ints_patch0] at h
    exact h, below_setCells _ o_γs3.out _ _ _ H3.out.2⟩
  clear H3
  generalize hgw : World.setCells _ _ _ _ = w4 at H4 ⊢
  clear hgw
  refine rest_nil (then_normal (wp_seq ?_))
  refine sq_start (l := [0, 1, 2, 3, 4, 5, 6, 7]) rfl ?_
  refine rest_set (d := 7) (v := .slice q.p q.n q.cp) (w' := w4) rfl rfl rfl (rfl) ?_
  simp only [Act.put, sa, sz, ss]
  refine rest_enter (d := 8) (R := fun vv w' => ∃ v P, vv = .tuple #[v, .int .i64 ((A M : Nat) : Int), .int .i64 0] ∧ (Below w.heap.size w w' ∧ Lq w.heap.size v M P w') ∧ ∀ i, i < M → (P i).n = Ln i ∧ ∀ j, j < Ln i → (P i).f j = q.f (A i + 8 + j)) rfl rfl rfl (exec_call (args := #[PT γs3 0, .slice q.p q.n q.cp]) rfl call84 rfl (mpn rfl)) (Calls.mono (read_fine γs3 0 q A Ln M hbq w4 (Tb.mm (H4.out.1.one 0 rfl)) ⟨hq.out.1, hq.out.2.below H4.out.2⟩ hqn.out hlg.out hen.out) (fun e w2 hh => by obtain ⟨v, P, he, hI, hP⟩ := hh; exact ⟨_, he, v, P, rfl, ⟨below_on _ _ H4.out.2 hI.b, hI.lq.base H4.out.2.size⟩, hP⟩)) ?_
  rintro _ w5 ⟨v, P, rfl, hI, hP⟩
  have hPs : Hid _ := hP
  have H5 : Hid (Mm w5 [] ∧ Below w.heap.size w w5 ∧ Lq w.heap.size v M P w5) := ⟨Mm.nil _, hI⟩
  clear hI hP H4
  simp only [Act.put, sa, sz, ss]
  refine rest_set (d := 9) (v := v) (w' := w5) rfl rfl rfl (by go_simp) ?_
  simp only [Act.put, sa, sz, ss]
  refine rest_set (d := 10) (v := .int .i64 ((A M : Nat) : Int)) (w' := w5) rfl rfl rfl (by go_simp) ?_
  simp only [Act.put, sa, sz, ss]
  refine rest_set (d := 11) (v := .int .i64 0) (w' := w5) rfl rfl rfl (by go_simp) ?_
  simp only [Act.put, sa, sz, ss]
  refine rest_set (d := 2) (v := v) (w' := w5) rfl rfl rfl (rfl) ?_
  simp only [Act.put, sa, sz, ss]
  refine rest_set (d := 3) (v := .int .i64 ((A M : Nat) : Int)) (w' := w5) rfl rfl rfl (rfl) ?_
  simp only [Act.put, sa, sz, ss]
  refine rest_set (d := 4) (v := .int .i64 0) (w' := w5) rfl rfl rfl (rfl) ?_
  simp only [Act.put, sa, sz, ss]
  refine rest_nil (then_normal (wp_ret ?_))
  repeat (first | refine then_ret ?_ | refine block_ret ?_)
  refine bodyPost_ret (v := .tuple #[v, .int .i64 ((A M : Nat) : Int), .int .i64 0]) (by simp [results, Try.results35, go_sem, *]) rfl ?_
  exact ⟨_, _, rfl, H5.out.2, hPs.out⟩
set_option maxHeartbeats 2000000 in
set_option maxRecDepth 100000 in
theorem Read_badh (q : Pt8) (A Ln : Nat → Nat) (M : Nat) (hbq : q.n ≤ 1048576) (h8 : A M + 8 ≤ q.n) (w : World) (hq0 : Pok q ∧ q.rs w) (hqn0 : q.p = none → q.cp = 0) (hlg0 : Lgk q.f q.n A Ln M) (hhe0 : Hdb (sh q.f (A M))) :
    Calls Try.prog 35 #[.slice q.p q.n q.cp] w fun e w' => e = .returned (.tuple #[.slice none 0 0, .int .i64 0, .int .i64 14]) ∧ Below w.heap.size w w' := by
  have H0 : Hid (_ ∧ _) := ⟨Mm.nil w, Below.refl w.heap.size w⟩
  have hq : Hid _ := hq0
  clear hq0
  have hqn : Hid _ := hqn0
  clear hqn0
  have hlg : Hid _ := hlg0
  clear hlg0
  have hhe : Hid _ := hhe0
  clear hhe0
  go_enter Try.func35, Try.ntmps35
  refine wp_seq ?_
  refine sq_startW (l := [0, 1, 2]) rfl (fun u0 hu0 => ?_)
  have H1 : Hid (Mm u0 [] ∧ Below w.heap.size w u0) := by rw [hu0]; exact H0
  clear hu0 H0
  refine rest_set (d := 2) (v := .slice none 0 0) (w' := u0) rfl rfl rfl (rfl) ?_
  simp only [Act.put, sa, sz, ss]
  refine rest_set (d := 3) (v := .int .i64 0) (w' := u0) rfl rfl rfl (rfl) ?_
  simp only [Act.put, sa, sz, ss]
  refine rest_set (d := 4) (v := .int .i64 0) (w' := u0) rfl rfl rfl (rfl) ?_
  simp only [Act.put, sa, sz, ss]
  refine rest_nil (then_normal (wp_seq ?_))
  refine sq_start (l := [0, 1, 2]) rfl ?_
  refine rest_enter (d := 6) (R := fun vv w' => vv = .agg (ints .u32 crt 256).toArray ∧ Below u0.heap.size u0 w') rfl rfl rfl (exec_call (args := #[]) rfl call81 rfl (mpn rfl)) (Calls.mono (newTable_any u0) (fun e w2 hh => ⟨_, hh.1, rfl, hh.2⟩)) ?_
  rintro _ w2 ⟨rfl, hb⟩
  have H2 : Hid (Mm w2 [] ∧ Below w.heap.size w w2) := ⟨H1.out.1.below hb, H1.out.2.trans (hb.mono H1.out.2.size)⟩
  clear hb
  clear H1
  simp only [Act.put, sa, sz, ss]
  refine rest_set (d := 5) (v := PT w2.heap.size 0) (w' := (w2.alloc (.cells (ints .u32 (fun _ => 0) 256 : List Value).toArray 88))) rfl rfl rfl (ex_mkT rfl) ?_
  simp only [Act.put, sa, sz, ss]
  have o_γs3 : Hid (w.heap.size ≤ w2.heap.size) := H2.out.2.size
  have H3 : Hid (Mm (w2.alloc (.cells (ints .u32 (fun _ => 0) 256 : List Value).toArray 88)) ((w2.heap.size, ints .u32 (fun _ => 0) 256) :: []) ∧ Below w.heap.size w (w2.alloc (.cells (ints .u32 (fun _ => 0) 256 : List Value).toArray 88))) := ⟨H2.out.1.alloc _ 88 rfl, H2.out.2.trans (((Below.refl _ _).alloc (Nat.le_refl _) _).mono H2.out.2.size)⟩
  clear H2
  generalize hgw : w2.alloc (.cells (ints .u32 (fun _ => 0) 256 : List Value).toArray 88) = w3 at H3 ⊢
  clear hgw
  generalize w2.heap.size = γs3 at o_γs3 H3 ⊢
  refine rest_store rfl rfl rfl (ex_storeT (vs := ints .u32 crt 256) H3.out.1 0 rfl rfl rfl rfl (by rw [ints_len]; exact Try.sizeOf88) (ints_all _ _ _) (by rw [ints_len, ints_len]; omega)) ?_
  have H4 : Hid (Mm (w3.setCells γs3 0 (ints .u32 crt 256)) [(γs3, ints .u32 crt 256)] ∧ Below w.heap.size w (w3.setCells γs3 0 (ints .u32 crt 256))) := ⟨by
    have h := H3.out.1.put 0 (off := 0) (vs := ints .u32 crt 256) rfl (by rw [ints_len, ints_len]; omega)
    rw [ints_patch0] at h
    exact h, below_setCells _ o_γs3.out _ _ _ H3.out.2⟩
  clear H3
  generalize hgw : World.setCells _ _ _ _ = w4 at H4 ⊢
  clear hgw
  refine rest_nil (then_normal (wp_seq ?_))
  refine sq_start (l := [0, 1, 2, 3, 4, 5, 6, 7]) rfl ?_
  refine rest_set (d := 7) (v := .slice q.p q.n q.cp) (w' := w4) rfl rfl rfl (rfl) ?_
  simp only [Act.put, sa, sz, ss]
  refine rest_enter (d := 8) (R := fun vv w' => vv = .tuple #[.slice none 0 0, .int .i64 0, .int .i64 14] ∧ Below w4.heap.size w4 w') rfl rfl rfl (exec_call (args := #[PT γs3 0, .slice q.p q.n q.cp]) rfl call84 rfl (mpn rfl)) (Calls.mono (read_badh γs3 0 q A Ln M hbq h8 w4 (Tb.mm (H4.out.1.one 0 rfl)) ⟨hq.out.1, hq.out.2.below H4.out.2⟩ hqn.out hlg.out hhe.out) (fun e w2 hh => ⟨_, hh.1, rfl, hh.2⟩)) ?_
  rintro _ w5 ⟨rfl, hb⟩
  have H5 : Hid (Mm w5 [(γs3, ints .u32 crt 256)] ∧ Below w.heap.size w w5) := ⟨H4.out.1.below hb, H4.out.2.trans (hb.mono H4.out.2.size)⟩
  clear hb
  clear H4
  simp only [Act.put, sa, sz, ss]
  refine rest_set (d := 9) (v := .slice none 0 0) (w' := w5) rfl rfl rfl (by go_simp) ?_
  simp only [Act.put, sa, sz, ss]
  refine rest_set (d := 10) (v := .int .i64 0) (w' := w5) rfl rfl rfl (by go_simp) ?_
  simp only [Act.put, sa, sz, ss]
  refine rest_set (d := 11) (v := .int .i64 14) (w' := w5) rfl rfl rfl (by go_simp) ?_
  simp only [Act.put, sa, sz, ss]
  refine rest_set (d := 2) (v := .slice none 0 0) (w' := w5) rfl rfl rfl (rfl) ?_
  simp only [Act.put, sa, sz, ss]
  refine rest_set (d := 3) (v := .int .i64 0) (w' := w5) rfl rfl rfl (rfl) ?_
  simp only [Act.put, sa, sz, ss]
  refine rest_set (d := 4) (v := .int .i64 14) (w' := w5) rfl rfl rfl (rfl) ?_
  simp only [Act.put, sa, sz, ss]
  refine rest_nil (then_normal (wp_ret ?_))
  repeat (first | refine then_ret ?_ | refine block_ret ?_)
  refine bodyPost_ret (v := .tuple #[.slice none 0 0, .int .i64 0, .int .i64 14]) (by simp [results, Try.results35, go_sem, *]) rfl ?_
  exact ⟨rfl, H5.out.2⟩
end Wi
end Rg
end Go.Proofs.Ytidicdlfjdlpnaa
end
section
namespace Go.Proofs.Ytidicdlfjdlpnaa
open Go.RowKit
namespace Rg
namespace Wi
set_option maxRecDepth 100000
/-- A journal on a disk, all of which is new since w0. -/
structure JOk (w0 : World) (j : Nat) (D : Dq) (s : ByteArray) (c z : Nat) (u : World) : Prop where
  b : Below w0.heap.size w0 u
  cel : Mm u [(j, jc D.d s c z)]
  dk : DOk u D
  lo : w0.heap.size ≤ j ∧ ∀ x ∈ D.bl, w0.heap.size ≤ x
  ap : j ∉ D.bl
section
variable {w0 u u' : World} {j c z : Nat} {D : Dq} {s : ByteArray}
theorem JOk.step (h : JOk w0 j D s c z u) (hb : Below u.heap.size u u') : JOk w0 j D s c z u' := ⟨below_on _ _ h.b hb, h.cel.below hb, h.dk.below hb, h.lo, h.ap⟩
theorem JOk.lt (h : JOk w0 j D s c z u) : j < u.heap.size := (h.cel.blk _ (List.mem_cons_self ..)).1
end
theorem Pw.up {w u u' : World} {n : Nat} {f : Nat → Nat} {q : Pt8} (hb : Below w.heap.size w u) (h : Pw u n f q u') : Pw w n f q u' := ⟨below_on _ _ hb h.b, h.ok, h.no, h.rs, h.n, h.f, fun h0 => Nat.le_trans hb.size (h.gb h0)⟩
theorem jcontent_u (D : Dq) (s : ByteArray) (hs : s.size ≤ 281474976710656) (hn : nmd s = true) {u : World} (h : DOk u D) : ∀ u1, Below u.heap.size u u1 → Calls Try.prog 91 #[PT D.d 0, .string s] u1 fun e u' => ∃ q : Pt8, e = .returned (.tuple #[.slice q.p q.n q.cp, .int .i64 0]) ∧ Pw u (cnN (lk D.fs s)) (cnC (lk D.fs s)) q u' := fun u1 hb =>
  (jcontent_f D s hs hn u1 (h.below hb)).mono fun e u' hh => by
    obtain ⟨q, e1, e2⟩ := hh
    exact ⟨q, e1, e2.up hb⟩
/-- A log that is whole, opened. -/
theorem jopen_f {w0 u : World} (D : Dq) (s : ByteArray) (hs : s.size ≤ 281474976710656) (hn : nmd s = true) (hb : Below w0.heap.size w0 u) (h : DOk u D) (hlo : ∀ x ∈ D.bl, w0.heap.size ≤ x) (A Ln : Nat → Nat) (M : Nat) (hN : cnN (lk D.fs s) ≤ 1048576) (hw : A M = cnN (lk D.fs s)) (hl : Lgk (cnC (lk D.fs s)) (cnN (lk D.fs s)) A Ln M) :
    Calls Try.prog 48 #[PT D.d 0, .string s] u fun e u' => ∃ j v P B, e = .returned (.tuple #[PT j 0, v, .int .i64 0]) ∧ JOk w0 j D s M (A M) u' ∧ Lq B v M P u' ∧ ∀ i, i < M → (P i).n = Ln i ∧ ∀ k, k < Ln i → (P i).f k = cnC (lk D.fs s) (A i + 8 + k) := by
  refine (jopen_whole D.d s hs (cnN (lk D.fs s)) (cnC (lk D.fs s)) A Ln M hN hw u (jcontent_u D s hs hn h) hl (.inl (by omega))).mono fun e u' hh => ?_
  obtain ⟨j, v, P, B, e1, e2, e3, e4, e5, e6, e7⟩ := hh
  exact ⟨j, v, P, B, e1, ⟨below_on _ _ hb e3, e2, h.below e3, ⟨Nat.le_trans hb.size e5, hlo⟩, fun hx => absurd (h.blt j hx) (Nat.not_lt.2 e5)⟩, e4, e7⟩
theorem Nw.lo {w u : World} {d mb rb m : Nat} {rf : Nat → Bool} (h : Nw w d mb rb rf m u) : ∀ x ∈ Dq.bl ⟨d, mb, rb, 0, [], rf⟩, w.heap.size ≤ x := fun x hx => by
  have h1 := h.two.nm
  have h2 := h.nr
  have h3 := h.nd
  have : x = d ∨ x = mb ∨ x = rb := by simpa [Dq.bl] using hx
  omega
theorem jopen_new {w0 u : World} {d mb rb m : Nat} {rf : Nat → Bool} (h : Nw w0 d mb rb rf m u) (s : ByteArray) (hs : s.size ≤ 281474976710656) (hn : nmd s = true) :
    Calls Try.prog 48 #[PT d 0, .string s] u fun e u' => ∃ j v P B, e = .returned (.tuple #[PT j 0, v, .int .i64 0]) ∧ JOk w0 j ⟨d, mb, rb, 0, [], rf⟩ s 0 0 u' ∧ Lq B v 0 P u' := by
  refine (jopen_f ⟨d, mb, rb, 0, [], rf⟩ s hs hn h.two.b h.disk h.lo (fun _ => 0) (fun _ => 0) 0 (show 0 ≤ 1048576 by decide) rfl ⟨rfl, fun i hi => absurd hi (Nat.not_lt_zero _), Nat.zero_le _, fun i hi => absurd hi (Nat.not_lt_zero _), fun i hi => absurd hi (Nat.not_lt_zero _)⟩).mono fun e u' hh => ?_
  obtain ⟨j, v, P, B, e1, e2, e3, _⟩ := hh
  exact ⟨j, v, P, B, e1, e2, e3⟩
section
variable {w0 u : World} {j c z : Nat} {D : Dq} {s : ByteArray}
/-- Behind an operation of the disk. -/
theorem JOk.dw {u1 u2 : World} {D' : Dq} (h : JOk w0 j D s c z u) (hb : Below u.heap.size u u1) (hw : Dw u1 D D' u2) (hd : D'.d = D.d) : JOk w0 j D' s c z u2 ∧ u1.heap.size ≤ u2.heap.size ∧ u2.heap[j]? = u1.heap[j]? := by
  have h1 := h.step hb
  have hbk := hw.2.1.block j h1.lt h1.ap
  refine ⟨⟨h1.b.trans (hw.2.1.toBelow h1.lo.2 h1.b.size), by rw [hd]; exact Mm.keep1 h1.cel hw.2.1.size hbk, hw.1, ⟨h1.lo.1, fun x hx => (hw.2.2 x hx).elim (h1.lo.2 x) (Nat.le_trans h1.b.size)⟩, fun hx => (hw.2.2 j hx).elim h1.ap (fun e => absurd h1.lt (Nat.not_lt.2 e))⟩, hw.2.1.size, hbk⟩
theorem JOk.put {c' z' : Nat} (h : JOk w0 j D s c z u) (off : Nat) (vs : List Value) (hm : Mm (u.setCells j off vs) [(j, jc D.d s c' z')]) : JOk w0 j D s c' z' (u.setCells j off vs) :=
  ⟨below_setCells j h.lo.1 vs off u h.b, hm, h.dk.chg (L := [j]) ((Chg.refl _ _).put (.inl (List.mem_cons_self ..))) (fun x hx => by rw [List.mem_singleton.1 hx]; exact h.ap), h.lo, h.ap⟩
/-- All of a journal but its own cells. -/
structure JDk (w0 : World) (j : Nat) (D : Dq) (u : World) : Prop where
  b : Below w0.heap.size w0 u
  dk : DOk u D
  lo : w0.heap.size ≤ j ∧ ∀ x ∈ D.bl, w0.heap.size ≤ x
  ap : j ∉ D.bl
theorem JOk.jd (h : JOk w0 j D s c z u) : JDk w0 j D u := ⟨h.b, h.dk, h.lo, h.ap⟩
theorem JDk.step {u' : World} (h : JDk w0 j D u) (hb : Below u.heap.size u u') : JDk w0 j D u' := ⟨below_on _ _ h.b hb, h.dk.below hb, h.lo, h.ap⟩
theorem JDk.put (h : JDk w0 j D u) (off : Nat) (vs : List Value) : JDk w0 j D (u.setCells j off vs) :=
  ⟨below_setCells j h.lo.1 vs off u h.b, h.dk.chg (L := [j]) ((Chg.refl _ _).put (.inl (List.mem_cons_self ..))) (fun x hx => by rw [List.mem_singleton.1 hx]; exact h.ap), h.lo, h.ap⟩
theorem JDk.jok (h : JDk w0 j D u) (hm : Mm u [(j, jc D.d s c z)]) : JOk w0 j D s c z u := ⟨h.b, hm, h.dk, h.lo, h.ap⟩
theorem Pw.rq {u1 : World} {n : Nat} {f : Nat → Nat} {q : Pt8} (h : Pw u n f q u1) (hd : DOk u D) : Rq q D u1 := ⟨h.ok, h.no, h.rs, fun h0 hx => absurd (hd.blt _ hx) (Nat.not_lt.2 (h.gb h0))⟩
theorem japp_new (h : JOk w0 j D s c z u) (hs : s.size ≤ 281474976710656) (hn : nmd s = true) (q : Pt8) (hq : Pok q ∧ q.rs u) (hqn : q.p = none → q.cp = 0) (hL : q.n ≤ 65536) (hc : c < 4611686018427387904) (hz : z < 4611686018427387904) (hk : D.k + 1 < 4611686018427387904) (hno : D.no = false) (hl : lk D.fs s = none) (h64 : D.fs.length < 64) :
    Calls Try.prog 44 #[PT j 0, .slice q.p q.n q.cp] u fun e u' => e = .returned (.int .i64 0) ∧ ∃ (g : Nat) (q2 : Pt8) (v : Value), q2.n = 8 + q.n + 4 ∧ q2.f = frm q.f q.n ∧ JOk w0 j (D.tick.add ((newF s g).more v (appo 0 q2))) s (c + 1) (z + (8 + q.n + 4)) u' := by
  let I2 : World → Prop := fun u2 => ∃ (g : Nat) (q2 : Pt8) (v : Value), q2.n = 8 + q.n + 4 ∧ q2.f = frm q.f q.n ∧ JDk w0 j (D.tick.add ((newF s g).more v (appo 0 q2))) u2
  refine (jappend_ok j D.d c z s q hL hc hz I2 u h.cel hq hqn (fun u1 u2 hu hb => ?_) (fun u1 off vs hu => ?_) (fun q2 u1 hu => ?_)).mono fun e u' hh => ?_
  · obtain ⟨g, q2, v, e1, e2, e3⟩ := hu
    exact ⟨g, q2, v, e1, e2, e3.step hb⟩
  · obtain ⟨g, q2, v, e1, e2, e3⟩ := hu
    exact ⟨g, q2, v, e1, e2, e3.put off vs⟩
  · refine (Append_new_f D s hs q2 u1 (h.dk.below hu.b) hk (hu.rq h.dk) hno hn hl h64 (by rw [hu.n]; omega)).mono fun e u2 hh => ?_
    obtain ⟨e1, g, q3, v, e2, e3, e4⟩ := hh
    obtain ⟨k1, k2, k3⟩ := h.dw hu.b e4 rfl
    exact ⟨e1, ⟨g, q3, v, by rw [e2, hu.n], by rw [e3, hu.f], k1.jd⟩, k2, k3⟩
  · obtain ⟨e1, e2, g, q2, v, e3, e4, e5⟩ := hh
    exact ⟨e1, g, q2, v, e3, e4, e5.jok e2⟩
theorem japp_hit (h : JOk w0 j D s c z u) (hs : s.size ≤ 281474976710656) (hn : nmd s = true) (q : Pt8) (hq : Pok q ∧ q.rs u) (hqn : q.p = none → q.cp = 0) (hL : q.n ≤ 65536) (hc : c < 4611686018427387904) (hz : z < 4611686018427387904) (hk : D.k + 1 < 4611686018427387904) (hno : D.no = false) (f : Fq) (hl : lk D.fs s = some f) (hops : f.ops.length < 1000000) (hN : f.N + (8 + q.n + 4) ≤ 1048576) :
    Calls Try.prog 44 #[PT j 0, .slice q.p q.n q.cp] u fun e u' => e = .returned (.int .i64 0) ∧ ∃ (q2 : Pt8) (v : Value), q2.n = 8 + q.n + 4 ∧ q2.f = frm q.f q.n ∧ JOk w0 j (D.tick.swap f (f.more v (appo f.N q2))) s (c + 1) (z + (8 + q.n + 4)) u' := by
  let I2 : World → Prop := fun u2 => ∃ (q2 : Pt8) (v : Value), q2.n = 8 + q.n + 4 ∧ q2.f = frm q.f q.n ∧ JDk w0 j (D.tick.swap f (f.more v (appo f.N q2))) u2
  refine (jappend_ok j D.d c z s q hL hc hz I2 u h.cel hq hqn (fun u1 u2 hu hb => ?_) (fun u1 off vs hu => ?_) (fun q2 u1 hu => ?_)).mono fun e u' hh => ?_
  · obtain ⟨q2, v, e1, e2, e3⟩ := hu
    exact ⟨q2, v, e1, e2, e3.step hb⟩
  · obtain ⟨q2, v, e1, e2, e3⟩ := hu
    exact ⟨q2, v, e1, e2, e3.put off vs⟩
  · refine (Append_hit_f D s hs q2 f u1 (h.dk.below hu.b) hk (hu.rq h.dk) hno hn hl hops (by rw [hu.n]; omega)).mono fun e u2 hh => ?_
    obtain ⟨e1, q3, v, e2, e3, e4⟩ := hh
    obtain ⟨k1, k2, k3⟩ := h.dw hu.b e4 rfl
    exact ⟨e1, ⟨q3, v, by rw [e2, hu.n], by rw [e3, hu.f], k1.jd⟩, k2, k3⟩
  · obtain ⟨e1, e2, q2, v, e3, e4, e5⟩ := hh
    exact ⟨e1, q2, v, e3, e4, e5.jok e2⟩
theorem Sync_hit_f (D : Dq) (s : ByteArray) (hs : s.size ≤ maxLen) (w : World) (h : DOk w D) (hk : D.k + 1 < 4611686018427387904) (hno : D.no = false) (f : Fq) (hl : lk D.fs s = some f) : Calls Try.prog 21 #[PT D.d 0, .string s] w fun e w' => e = .returned (.int .i64 0) ∧ ∃ s', Dw w D (D.tick.swap f (f.set s' f.ops.length 0)) w' := by
  have e := Sync_f D s hs w h hk
  rw [show D.rf (D.k + 1) = false from hno, hl] at e
  refine e.mono fun e w' hh => ?_
  rw [if_neg (by decide)] at hh
  obtain ⟨e1, s', e2, e3, e4⟩ := hh
  exact ⟨e1, s', e2, e3, fun x hx => (Dq.swap_bl hx).elim .inl (fun e => (e4 x e).elim (fun e => .inl (Dq.fbl (lk_mem hl).1 x e)) .inr)⟩
theorem jsync_hit (h : JOk w0 j D s c z u) (hs : s.size ≤ 281474976710656) (hk : D.k + 1 < 4611686018427387904) (hno : D.no = false) (f : Fq) (hl : lk D.fs s = some f) (hops : 0 < f.ops.length) :
    Calls Try.prog 45 #[PT j 0] u fun e u' => e = .returned (.int .i64 0) ∧ ∃ s', JOk w0 j (D.tick.swap f (f.set s' f.ops.length 0)) s c z u' := by
  have hsz : s.size ≤ maxLen := by unfold maxLen; omega
  refine jsync_some j D.d c z s f.ops.length hops 0 (fun u2 => ∃ s', JOk w0 j (D.tick.swap f (f.set s' f.ops.length 0)) s c z u2) u h.cel (fun u1 hb => ?_) (fun u1 u2 hu hb => ?_) (fun u1 hb => ?_)
  · have e := Pending_f D s hsz u1 (h.dk.below hb)
    rw [hl] at e
    exact e
  · obtain ⟨s', e1⟩ := hu
    exact ⟨s', e1.step hb⟩
  · refine (Sync_hit_f D s hsz u1 (h.dk.below hb) hk hno f hl).mono fun e u2 hh => ?_
    obtain ⟨e1, s', e2⟩ := hh
    exact ⟨e1, s', (h.dw hb e2 rfl).1⟩
end
end Wi
end Rg
end Go.Proofs.Ytidicdlfjdlpnaa
end
section
namespace Go.Proofs.Ytidicdlfjdlpnaa
open Go.RowKit
namespace Rg
namespace Wi
theorem call33 : ∀ args w, (callFunc 33 args).run Try.prog w = .ok (.enter 33 args) w := by intro args w; go_simp
theorem call35 : ∀ args w, (callFunc 35 args).run Try.prog w = .ok (.enter 35 args) w := by intro args w; go_simp
theorem call37 : ∀ args w, (callFunc 37 args).run Try.prog w = .ok (.enter 37 args) w := by intro args w; go_simp
theorem call44 : ∀ args w, (callFunc 44 args).run Try.prog w = .ok (.enter 44 args) w := by intro args w; go_simp
theorem call45 : ∀ args w, (callFunc 45 args).run Try.prog w = .ok (.enter 45 args) w := by intro args w; go_simp
theorem call46 : ∀ args w, (callFunc 46 args).run Try.prog w = .ok (.enter 46 args) w := by intro args w; go_simp
theorem call47 : ∀ args w, (callFunc 47 args).run Try.prog w = .ok (.enter 47 args) w := by intro args w; go_simp
theorem call48 : ∀ args w, (callFunc 48 args).run Try.prog w = .ok (.enter 48 args) w := by intro args w; go_simp
theorem call49 : ∀ args w, (callFunc 49 args).run Try.prog w = .ok (.enter 49 args) w := by intro args w; go_simp
set_option maxRecDepth 100000
def kb12 (j : Nat) : Nat := [0, 0, 0, 0, 33, 68, 223, 28, 0, 0, 0, 0].getD j 0
def kb9 (j : Nat) : Nat := [49, 50, 51, 52, 53, 54, 55, 56, 57].getD j 0
def kb3 (j : Nat) : Nat := [0, 0, 0].getD j 0
def kb2 (j : Nat) : Nat := [1, 2].getD j 0
theorem ex_kb12 {ρ : Operand → Value} {o : Oper} {w : World} (ho : o.op = .buildSlice 34 12 #[(0, .const (.int .u8 0)), (1, .const (.int .u8 0)), (2, .const (.int .u8 0)), (3, .const (.int .u8 0)), (4, .const (.int .u8 33)), (5, .const (.int .u8 68)), (6, .const (.int .u8 223)), (7, .const (.int .u8 28)), (8, .const (.int .u8 0)), (9, .const (.int .u8 0)), (10, .const (.int .u8 0)), (11, .const (.int .u8 0))]) (hc : ∀ v, ρ (.const v) = v) : (execOp ρ o).run Try.prog w = .ok (.value (.slice (some ⟨w.heap.size, 0, none⟩) 12 12)) (w.alloc (.cells (ints .u8 kb12 12).toArray 5)) := by
  simp only [execOp, ho, List.map_toArray, List.map_cons, List.map_nil, hc]
  kernel_rfl
theorem ex_kb9 {ρ : Operand → Value} {o : Oper} {w : World} (ho : o.op = .buildSlice 34 9 #[(0, .const (.int .u8 49)), (1, .const (.int .u8 50)), (2, .const (.int .u8 51)), (3, .const (.int .u8 52)), (4, .const (.int .u8 53)), (5, .const (.int .u8 54)), (6, .const (.int .u8 55)), (7, .const (.int .u8 56)), (8, .const (.int .u8 57))]) (hc : ∀ v, ρ (.const v) = v) : (execOp ρ o).run Try.prog w = .ok (.value (.slice (some ⟨w.heap.size, 0, none⟩) 9 9)) (w.alloc (.cells (ints .u8 kb9 9).toArray 5)) := by
  simp only [execOp, ho, List.map_toArray, List.map_cons, List.map_nil, hc]
  kernel_rfl
theorem ex_kb3 {ρ : Operand → Value} {o : Oper} {w : World} (ho : o.op = .buildSlice 34 3 #[(0, .const (.int .u8 0)), (1, .const (.int .u8 0)), (2, .const (.int .u8 0))]) (hc : ∀ v, ρ (.const v) = v) : (execOp ρ o).run Try.prog w = .ok (.value (.slice (some ⟨w.heap.size, 0, none⟩) 3 3)) (w.alloc (.cells (ints .u8 kb3 3).toArray 5)) := by
  simp only [execOp, ho, List.map_toArray, List.map_cons, List.map_nil, hc]
  kernel_rfl
theorem ex_kb2 {ρ : Operand → Value} {o : Oper} {w : World} (ho : o.op = .buildSlice 34 2 #[(0, .const (.int .u8 1)), (1, .const (.int .u8 2))]) (hc : ∀ v, ρ (.const v) = v) : (execOp ρ o).run Try.prog w = .ok (.value (.slice (some ⟨w.heap.size, 0, none⟩) 2 2)) (w.alloc (.cells (ints .u8 kb2 2).toArray 5)) := by
  simp only [execOp, ho, List.map_toArray, List.map_cons, List.map_nil, hc]
  kernel_rfl
/-- A row of the call's own, as a part. -/
def rowp (g n : Nat) (f : Nat → Nat) : Pt8 := ⟨g, 0, n, n, some ⟨g, 0, none⟩, f⟩
theorem rowp_ok (g n : Nat) (f : Nat → Nat) : Pok (rowp g n f) := ⟨Bv.start _ _ _ _, Nat.le_refl _⟩
theorem rowp_no (g n : Nat) (f : Nat → Nat) : (rowp g n f).p = none → (rowp g n f).cp = 0 := fun e => by cases e
theorem rowp_rs {g n : Nat} {f : Nat → Nat} {u : World} (h : Mm u [(g, ints .u8 f n)]) : (rowp g n f).rs u := ⟨fun _ => (h.blk _ (List.mem_cons_self ..)).1, fun i hi => by rw [show (rowp g n f).o + i = i from Nat.zero_add i]; exact h.get 0 rfl i (ints_get _ _ hi)⟩
theorem kF : ∀ j, j < 8 + 0 + 4 → frm (fun _ => 0) 0 j = kb12 j := by decide +kernel
theorem Frame_nil (w : World) : Calls Try.prog 33 #[.slice none 0 0] w fun e w' => ∃ q : Pt8, e = .returned (.tuple #[.slice q.p q.n q.cp, .int .i64 0]) ∧ Pw w 12 kb12 q w' := by
  refine (Frame_ok (nilp (fun _ => 0)) (show 0 ≤ 65536 by decide) w ⟨(nilp_ok _ w).1, (nilp_ok _ w).2.2⟩ (nilp_ok _ w).2.1).mono fun e w' hh => ?_
  obtain ⟨v, e1, e2⟩ := hh
  obtain ⟨r, t1, t2, t3, t4, t5, t6, t7⟩ := (e2.cg kF).part
  exact ⟨r, by rw [e1, t1], e2.b, t2, t3, t6, t4, t5, t7⟩
theorem Check_is (q : Pt8) (hn : q.n < 4611686018427387904) (c : Nat) (hc : crc q.f q.n = c) (w : World) (hq : Pok q ∧ q.rs w) : Calls Try.prog 37 #[.slice q.p q.n q.cp] w fun e w' => e = .returned (W32 c) ∧ Below w.heap.size w w' := by
  subst hc
  exact Check_any q hn w hq
theorem k9c : crc kb9 9 = 3421780262 := by decide +kernel
theorem k0c : crc (fun _ => 0) 0 = 0 := by decide +kernel
section
variable {ρ : Operand → Value} {o : Oper} {x y : Operand} {g n c k v : Nat} {P : Nat → Nat} {w u : World}
theorem Cw.store (h : Cw w (.slice (some ⟨g, 0, none⟩) n c) n P u) (hk : k < n) (ho : o.op = .store 5 x y) (hx : ρ x = PT g k) (hy : ρ y = Z8 v) : (execOp ρ o).run Try.prog u = .ok .skip (u.setCell ⟨g, k, none⟩ (Z8 v)) := by
  have c0 := h.own.cellAt k (by omega)
  have f0 := h.own.frozenAt k
  rw [ints_get _ _ hk] at c0
  clear h
  simp only [execOp, ho, hx, hy]
  clear ho hx hy
  go_simp
theorem Cw.put (h : Cw w (.slice (some ⟨g, 0, none⟩) n c) n P u) : Cw w (.slice (some ⟨g, 0, none⟩) n c) n (Wi.up P k v) (u.setCell ⟨g, k, none⟩ (Z8 v)) := by
  obtain ⟨h1, h2⟩ := h.own.stored k (Z8 v)
  have hg := (World.ownsRow.lt h.own g rfl).1
  refine ⟨h.b.trans ((Chg.grown h2).toBelow (fun x hx => by simp at hx; omega) h.b.size), ?_⟩
  have e : (ints .u8 P n).set k (Z8 v) = ints .u8 (Wi.up P k v) n := by
    apply List.ext_getElem?
    intro j
    rw [List.getElem?_set, ints_len]
    by_cases hj : j < n
    · rw [ints_get _ _ hj, ints_get _ _ hj]
      unfold Wi.up
      by_cases e : k = j
      · rw [if_pos e, if_pos (by omega), if_pos e.symm]
      · rw [if_neg e, if_neg (fun e2 => e e2.symm)]
    · rw [ints_none _ _ (by omega), ints_none _ _ (by omega)]
      by_cases e : k = j
      · rw [if_pos e, if_neg (by omega)]
      · rw [if_neg e]
  rw [← e]
  exact h1
theorem Cw.form {vv : Value} (h : Cw w vv n P u) (hn : 0 < n) : ∃ g c, vv = .slice (some ⟨g, 0, none⟩) n c := by
  rcases h.own.2 with ⟨_, h2⟩ | ⟨g, cap, cur, h1, _⟩
  · omega
  · exact ⟨g, cap, h1⟩
theorem ex_mk65 (ho : o.op = .makeSlice 34 x y) (hx : ρ x = .int .i64 65537) (hy : ρ y = .int .i64 65537) : ∃ u2, (execOp ρ o).run Try.prog u = .ok (.value (.slice (some ⟨u.heap.size, 0, none⟩) 65537 65537)) u2 ∧ Below u.heap.size u u2 := by
  have h := run_make_row' (P := Try.prog) 34 5 (.int .u8 0) 1 Try.underlying34 (by kernel_rfl) rfl .i64 .i64 65537 (by decide) (by decide) u
  have h2 : (Instr.makeSlice 34 (.int .i64 65537) (.int .i64 65537)).run Try.prog u = .ok (.slice (some ⟨u.heap.size, 0, none⟩) 65537 65537) (u.alloc (.cells (madeCells #[.int .u8 0] 65537) 5)) := h
  refine ⟨u.alloc (.cells (madeCells #[.int .u8 0] 65537) 5), ?_, (Below.refl _ _).alloc (Nat.le_refl _) _⟩
  simp only [execOp, ho, hx, hy, Sem.run_bind, h2, Result.andThen_ok, Sem.run_pure]
end
section
variable {w u : World} {v : Value} {n : Nat} {P : Nat → Nat}
theorem Read_fine_cw (h : Cw w v n P u) (A Ln : Nat → Nat) (M : Nat) (hn : n ≤ 1048576) (hl : Lgk P n A Ln M) (he : End P n A M) : Calls Try.prog 35 #[v] u fun e u' => ∃ v' R, e = .returned (.tuple #[v', .int .i64 ((A M : Nat) : Int), .int .i64 0]) ∧ (Below u.heap.size u u' ∧ Lq u.heap.size v' M R u') ∧ ∀ i, i < M → (R i).n = Ln i ∧ ∀ j, j < Ln i → (R i).f j = P (A i + 8 + j) := by
  obtain ⟨q, hv, t2, t3, t4, t5, t6, _⟩ := h.part
  subst t4
  subst t5
  rw [hv]
  exact Read_fine q A Ln M hn u ⟨t2, t6⟩ t3 hl he
theorem Read_badh_cw (h : Cw w v n P u) (A Ln : Nat → Nat) (M : Nat) (hn : n ≤ 1048576) (h8 : A M + 8 ≤ n) (hl : Lgk P n A Ln M) (he : Hdb (sh P (A M))) : Calls Try.prog 35 #[v] u fun e u' => e = .returned (.tuple #[.slice none 0 0, .int .i64 0, .int .i64 14]) ∧ Below u.heap.size u u' := by
  obtain ⟨q, hv, t2, t3, t4, t5, t6, _⟩ := h.part
  subst t4
  subst t5
  rw [hv]
  exact Read_badh q A Ln M hn h8 u ⟨t2, t6⟩ t3 hl he
end
/-- Frames of which the first one is whole. -/
theorem k15 : Lgk (ct kb12 12 kb3) 15 (fun i => 12 * i) (fun _ => 0) 1 := ⟨rfl, fun i _ => by show 12 * (i + 1) = 12 * i + (12 + 0); omega, by decide, fun i hi => by
  obtain rfl : i = 0 := by omega
  exact ⟨by decide +kernel, by decide, by decide +kernel⟩, fun i hi => by
  obtain rfl : i = 0 := by omega
  show crc (sh (sh (ct kb12 12 kb3) 0) 8) 0 = nb4 (sh (ct kb12 12 kb3) 0 8) (sh (ct kb12 12 kb3) 0 9) (sh (ct kb12 12 kb3) 0 10) (sh (ct kb12 12 kb3) 0 11)
  decide +kernel⟩
theorem kbad : Hdb (sh (up kb12 0 128) 0) := .inl (by decide +kernel)
theorem lg0 (f : Nat → Nat) (n : Nat) : Lgk f n (fun _ => 0) (fun _ => 0) 0 := ⟨rfl, fun _ hi => absurd hi (Nat.not_lt_zero _), Nat.zero_le _, fun _ hi => absurd hi (Nat.not_lt_zero _), fun _ hi => absurd hi (Nat.not_lt_zero _)⟩
def ka : ByteArray := ⟨#[97]⟩
theorem ka_ok : nmd ka = true := by decide +kernel
theorem ka_sz : ka.size ≤ 281474976710656 := by decide
theorem below_mkw {B g : Nat} {w u : World} (h : Below B w u) (hg : B ≤ g) : Below B w (mkw u g) := by
  obtain ⟨m1, m2, m3, m4, m5⟩ := mkw_heap u g
  exact ⟨m1.trans h.os, m2.trans h.tape, m3.trans h.output, by rw [m4]; exact h.size, fun k hk => (m5 k (by omega)).trans (h.block k hk)⟩
theorem mkw_row (u : World) (f : Nat → Nat) (n : Nat) : Mm (mkw (u.alloc (.cells (ints .u8 f n).toArray 5)) u.heap.size) [(u.heap.size, ints .u8 f n)] := by
  refine ⟨fun p hp => ?_, List.pairwise_singleton _ _⟩
  rw [List.mem_singleton.1 hp]
  have h : (u.alloc (.cells (ints .u8 f n).toArray 5)).heap[u.heap.size]? = some (.cells (ints .u8 f n).toArray 5 (0, 0)) := (MapKept.heap_alloc u _).1
  exact ⟨by rw [(mkw_heap _ _).2.2.2.1]; exact (Array.getElem?_eq_some_iff.1 h).1, mkw_blk h⟩
theorem rest_mk65 {full : Array Oper} {Q : Exit → Act → World → Prop} {a : Act} {i d : Nat} {r : List Nat} {o : Oper} {x y : Operand} (w : World) (ho : full[i]? = some o) (hd : o.dst = some d) (hw : Region.wanted o (yielded full a.tmps) = true) (hop : o.op = .makeSlice 34 x y) (hx : a.eval x = .int .i64 65537) (hy : a.eval y = .int .i64 65537) (h : ∀ u, Below w.heap.size w u → wpOps Try.prog full Q r (a.put (some d) (.slice (some ⟨w.heap.size, 0, none⟩) 65537 65537)) u) : wpOps Try.prog full Q (i :: r) a w := by
  obtain ⟨u, h1, h2⟩ := ex_mk65 (ρ := a.eval) (u := w) hop hx hy
  exact rest_set ho hd hw h1 (h u h2)
set_option maxHeartbeats 8000000 in
set_option maxRecDepth 100000 in
theorem known_any  (w : World) :
    Calls Try.prog 10 #[] w fun e w' => e = .returned (.bool true) ∧ Below w.heap.size w w' := by
  have H0 : Hid (_ ∧ _) := ⟨Mm.nil w, Below.refl w.heap.size w⟩
  go_enter Try.func10, Try.ntmps10
  refine wp_seq ?_
  refine sq_startW (l := [0]) rfl (fun u0 hu0 => ?_)
  have H1 : Hid (Mm u0 [] ∧ Below w.heap.size w u0) := by rw [hu0]; exact H0
  clear hu0 H0
  refine rest_set (d := 0) (v := .bool false) (w' := u0) rfl rfl rfl (rfl) ?_
  simp only [Act.put, List.setIfInBounds_toArray, List.set_cons_zero]
  refine rest_nil (then_normal (wp_seq ?_))
  refine sq_start (l := [0, 1, 2, 3, 4, 5]) rfl ?_
  refine rest_enter (d := 23) (R := fun vv w' => ∃ q : Pt8, vv = .tuple #[.slice q.p q.n q.cp, .int .i64 0] ∧ Pw w 12 kb12 q w') rfl rfl rfl (exec_call (args := #[.slice none 0 0]) rfl call33 rfl (mpn rfl)) (Calls.mono (Frame_nil u0) (fun e w2 hh => by obtain ⟨q, he, hI⟩ := hh; exact ⟨_, he, q, rfl, hI.up H1.out.2⟩)) ?_
  rintro _ w2 ⟨qf, rfl, hI⟩
  have H2 : Hid (Mm w2 [] ∧ Pw w 12 kb12 qf w2) := ⟨Mm.nil _, hI⟩
  clear hI H1
  have hqn : Hid (qf.n = 12) := H2.out.2.n
  have hqf : Hid (qf.f = kb12) := H2.out.2.f
  have hqo : Hid (Pok qf ∧ (qf.p = none → qf.cp = 0)) := ⟨H2.out.2.ok, H2.out.2.no⟩
  simp only [Act.put, sa, sz, ss]
  refine rest_set (d := 22) (v := .tuple #[.slice qf.p qf.n qf.cp, .int .i64 0]) (w' := w2) rfl rfl rfl (rfl) ?_
  simp only [Act.put, sa, sz, ss]
  refine rest_set (d := 24) (v := .slice qf.p qf.n qf.cp) (w' := w2) rfl rfl rfl (by go_simp) ?_
  simp only [Act.put, sa, sz, ss]
  refine rest_set (d := 25) (v := .int .i64 0) (w' := w2) rfl rfl rfl (by go_simp) ?_
  simp only [Act.put, sa, sz, ss]
  refine rest_set (d := 1) (v := .slice qf.p qf.n qf.cp) (w' := w2) rfl rfl rfl (rfl) ?_
  simp only [Act.put, sa, sz, ss]
  refine rest_set (d := 2) (v := .int .i64 0) (w' := w2) rfl rfl rfl (rfl) ?_
  simp only [Act.put, sa, sz, ss]
  refine rest_nil (then_normal ?_)
  refine wp_seq (wp_seq ?_)
  refine sq_start (l := [0, 1, 2, 3, 4, 5, 6, 7, 8, 9, 10, 11, 12, 13, 14, 15, 16, 17]) rfl ?_
  refine rest_set (d := 26) (v := .int .i64 0) (w' := w2) rfl rfl rfl (rfl) ?_
  simp only [Act.put, sa, sz, ss]
  refine rest_set (d := 27) (v := .bool false) (w' := w2) rfl rfl rfl (by kernel_rfl) ?_
  simp only [Act.put, sa, sz, ss]
  refine rest_set (d := 28) (v := .bool false) (w' := w2) rfl rfl rfl (rfl) ?_
  simp only [Act.put, sa, sz, ss]
  refine rest_set (d := 29) (v := .slice qf.p qf.n qf.cp) (w' := w2) rfl rfl rfl (rfl) ?_
  simp only [Act.put, sa, sz, ss]
  refine rest_set (d := 30) (v := .slice (some ⟨w2.heap.size, 0, none⟩) 12 12) (w' := (w2.alloc (.cells (ints .u8 kb12 12 : List Value).toArray 5))) rfl rfl rfl (ex_kb12 rfl (fun _ => rfl)) ?_
  simp only [Act.put, sa, sz, ss]
  have o_γs3 : Hid (w2.heap.size ≤ w2.heap.size) := Nat.le_refl _
  have H3 : Hid (Mm (w2.alloc (.cells (ints .u8 kb12 12 : List Value).toArray 5)) ((w2.heap.size, ints .u8 kb12 12) :: []) ∧ Pw w 12 kb12 qf (w2.alloc (.cells (ints .u8 kb12 12 : List Value).toArray 5))) := ⟨H2.out.1.alloc _ 5 rfl, Pw.step H2.out.2 (((Below.refl _ _).alloc (Nat.le_refl _) _))⟩
  clear H2
  generalize hgw : w2.alloc (.cells (ints .u8 kb12 12 : List Value).toArray 5) = w3 at H3 ⊢
  clear hgw
  generalize w2.heap.size = γs3 at o_γs3 H3 ⊢
  refine rest_enter (d := 31) (R := fun vv w' => vv = .bool true ∧ Below w3.heap.size w3 w') rfl rfl rfl (exec_call (args := #[.slice qf.p qf.n qf.cp, .slice (some ⟨γs3, 0, none⟩) 12 12]) rfl call29 rfl (mpn rfl)) (Calls.mono (same_q (q := qf) (r := rowp γs3 12 kb12) ⟨hqo.out.1, H3.out.2.rs⟩ ⟨rowp_ok _ _ _, rowp_rs (H3.out.1.one 0 rfl)⟩ hqn.out (fun i _ => by rw [hqf.out]; rfl)) (fun e w2 hh => ⟨_, hh.1, rfl, hh.2⟩)) ?_
  rintro _ w4 ⟨rfl, hb⟩
  have H4 : Hid (Mm w4 [(γs3, ints .u8 kb12 12)] ∧ Pw w 12 kb12 qf w4) := ⟨H3.out.1.below hb, Pw.step H3.out.2 (hb)⟩
  clear hb
  clear H3
  simp only [Act.put, sa, sz, ss]
  refine rest_set (d := 32) (v := .bool false) (w' := w4) rfl rfl rfl (by go_simp) ?_
  simp only [Act.put, sa, sz, ss]
  refine rest_set (d := 33) (v := .bool false) (w' := w4) rfl rfl rfl (by go_simp) ?_
  simp only [Act.put, sa, sz, ss]
  refine rest_set (d := 34) (v := .bool false) (w' := w4) rfl rfl rfl (rfl) ?_
  simp only [Act.put, sa, sz, ss]
  refine rest_set (d := 35) (v := .slice (some ⟨w4.heap.size, 0, none⟩) 9 9) (w' := (w4.alloc (.cells (ints .u8 kb9 9).toArray 5))) rfl rfl rfl (ex_kb9 rfl (fun _ => rfl)) ?_
  simp only [Act.put, sa, sz, ss]
  refine rest_set (d := 36) (v := .slice (some ⟨w4.heap.size, 0, none⟩) 9 9) (w' := mkw (w4.alloc (.cells (ints .u8 kb9 9).toArray 5)) w4.heap.size) rfl rfl rfl (ex_cvS rfl rfl) ?_
  simp only [Act.put, sa, sz, ss]
  have hbk : Below w4.heap.size w4 (mkw (w4.alloc (.cells (ints .u8 kb9 9).toArray 5)) w4.heap.size) := below_mkw ((Below.refl _ _).alloc (Nat.le_refl _) _) (Nat.le_refl _)
  have H5 : Hid (Mm (mkw (w4.alloc (.cells (ints .u8 kb9 9).toArray 5)) w4.heap.size) [(w4.heap.size, ints .u8 kb9 9)] ∧ Pw w 12 kb12 qf (mkw (w4.alloc (.cells (ints .u8 kb9 9).toArray 5)) w4.heap.size)) := ⟨mkw_row _ _ _, Pw.step H4.out.2 (hbk)⟩
  clear hbk H4
  generalize hgw : mkw (w4.alloc (.cells (ints .u8 kb9 9).toArray 5)) w4.heap.size = w5 at H5 ⊢
  clear hgw
  generalize w4.heap.size = γ9 at H5 ⊢
  refine rest_enter (d := 37) (R := fun vv w' => vv = W32 3421780262 ∧ Below w5.heap.size w5 w') rfl rfl rfl (exec_call (args := #[.slice (some ⟨γ9, 0, none⟩) 9 9]) rfl call37 rfl (mpn rfl)) (Calls.mono (Check_is (rowp γ9 9 kb9) (show 9 < 4611686018427387904 by decide) 3421780262 k9c w5 ⟨rowp_ok _ _ _, rowp_rs (H5.out.1.one 0 rfl)⟩) (fun e w2 hh => ⟨_, hh.1, rfl, hh.2⟩)) ?_
  rintro _ w6 ⟨rfl, hb⟩
  have H6 : Hid (Mm w6 [(γ9, ints .u8 kb9 9)] ∧ Pw w 12 kb12 qf w6) := ⟨H5.out.1.below hb, Pw.step H5.out.2 (hb)⟩
  clear hb
  clear H5
  simp only [Act.put, sa, sz, ss]
  refine rest_set (d := 38) (v := .bool false) (w' := w6) rfl rfl rfl (by kernel_rfl) ?_
  simp only [Act.put, sa, sz, ss]
  refine rest_set (d := 39) (v := .bool false) (w' := w6) rfl rfl rfl (by go_simp) ?_
  simp only [Act.put, sa, sz, ss]
  refine rest_set (d := 40) (v := .bool false) (w' := w6) rfl rfl rfl (rfl) ?_
  simp only [Act.put, sa, sz, ss]
  refine rest_enter (d := 41) (R := fun vv w' => vv = W32 0 ∧ Below w6.heap.size w6 w') rfl rfl rfl (exec_call (args := #[.slice none 0 0]) rfl call37 rfl (mpn rfl)) (Calls.mono (Check_is (nilp (fun _ => 0)) (show 0 < 4611686018427387904 by decide) 0 k0c w6 ⟨(nilp_ok _ w6).1, (nilp_ok _ w6).2.2⟩) (fun e w2 hh => ⟨_, hh.1, rfl, hh.2⟩)) ?_
  rintro _ w7 ⟨rfl, hb⟩
  have H7 : Hid (Mm w7 [(γ9, ints .u8 kb9 9)] ∧ Pw w 12 kb12 qf w7) := ⟨H6.out.1.below hb, Pw.step H6.out.2 (hb)⟩
  clear hb
  clear H6
  simp only [Act.put, sa, sz, ss]
  refine rest_set (d := 42) (v := .bool false) (w' := w7) rfl rfl rfl (by kernel_rfl) ?_
  simp only [Act.put, sa, sz, ss]
  refine rest_set (d := 43) (v := .bool false) (w' := w7) rfl rfl rfl (by go_simp) ?_
  simp only [Act.put, sa, sz, ss]
  refine rest_nil (then_normal ?_)
  refine wp_cond_false rfl (wp_skip ?_)
  refine then_normal (wp_seq ?_)
  refine sq_start (l := [0, 1, 2, 3, 4, 5, 6, 7, 8, 9, 10, 11]) rfl ?_
  refine rest_set (d := 45) (v := .slice qf.p qf.n qf.cp) (w' := w7) rfl rfl rfl (rfl) ?_
  simp only [Act.put, sa, sz, ss]
  refine rest_enter (d := 46) (R := fun vv w' => Cw w7 vv 12 kb12 w') rfl rfl rfl (exec_call (args := #[.slice qf.p qf.n qf.cp]) rfl call49 rfl (mpn rfl)) (Calls.mono (copy_q qf (by rw [hqn.out]; decide) w7 ⟨hqo.out.1, H7.out.2.rs⟩ hqo.out.2) (fun e w2 hh => by obtain ⟨v, he, hI⟩ := hh; exact ⟨_, he, by rw [hqn.out, hqf.out] at hI; exact hI⟩)) ?_
  rintro vc w8 hI
  have hB1 : Hid (Pw w 12 kb12 qf w7) := H7.out.2
  obtain ⟨gc, cc, rfl⟩ := hI.form (by decide)
  have H8 : Hid (Mm w8 [] ∧ Cw w7 (.slice (some ⟨gc, 0, none⟩) 12 cc) (12) (kb12) w8) := ⟨Mm.nil _, hI⟩
  clear hI H7
  simp only [Act.put, sa, sz, ss]
  refine rest_set (d := 47) (v := .slice (some ⟨w8.heap.size, 0, none⟩) 3 3) (w' := (w8.alloc (.cells (ints .u8 kb3 3 : List Value).toArray 5))) rfl rfl rfl (ex_kb3 rfl (fun _ => rfl)) ?_
  simp only [Act.put, sa, sz, ss]
  have o_γs9 : Hid (w8.heap.size ≤ w8.heap.size) := Nat.le_refl _
  have H9 : Hid (Mm (w8.alloc (.cells (ints .u8 kb3 3 : List Value).toArray 5)) ((w8.heap.size, ints .u8 kb3 3) :: []) ∧ Cw w7 (.slice (some ⟨gc, 0, none⟩) 12 cc) (12) (kb12) (w8.alloc (.cells (ints .u8 kb3 3 : List Value).toArray 5))) := ⟨H8.out.1.alloc _ 5 rfl, Cw.step H8.out.2 (((Below.refl _ _).alloc (Nat.le_refl _) _))⟩
  clear H8
  generalize hgw : w8.alloc (.cells (ints .u8 kb3 3 : List Value).toArray 5) = w9 at H9 ⊢
  clear hgw
  generalize w8.heap.size = γs9 at o_γs9 H9 ⊢
  obtain ⟨vr, w10, hr, hO, hG, h5⟩ := own_appQ H9.out.2.own H9.out.2.size (q := rowp γs9 3 kb3) (rowp_ok _ _ _) (rowp_no _ _ _) (rowp_rs (H9.out.1.one 0 rfl)) (show 12 + 3 ≤ 2097152 by decide) 34
  refine rest_set (d := 48) (v := vr) (w' := w10) rfl rfl rfl (ex_app rfl rfl rfl hr) ?_
  simp only [Act.put, sa, sz, ss]
  have H10 : Hid (Mm w10 [] ∧ Cw w7 (vr) (15) (ct kb12 12 kb3) w10) := ⟨Mm.nil _, H9.out.2.on (Chg.grown hG) hO⟩
  clear hr hO hG h5 H9
  refine rest_enter (d := 49) (R := fun vv w' => ∃ v P, vv = .tuple #[v, .int .i64 12, .int .i64 0] ∧ (Below w10.heap.size w10 w' ∧ Lq w10.heap.size v 1 P w') ∧ (P 0).n = 0) rfl rfl rfl (exec_call (args := #[vr]) rfl call35 rfl (mpn rfl)) (Calls.mono (Read_fine_cw H10.out.2 (fun i => 12 * i) (fun _ => 0) 1 (by decide) k15 (.inl (by decide))) (fun e w2 hh => by obtain ⟨v, P, he, hI, hP⟩ := hh; exact ⟨_, he, v, P, rfl, hI, (hP 0 (by decide)).1⟩)) ?_
  rintro _ w11 ⟨v1, P1, rfl, hI, hP⟩
  have hp1 : Hid ((P1 0).n = 0) := hP
  obtain ⟨pl, cl, gl, rfl, hv⟩ := hI.2.lv
  have H11 : Hid (Mm w11 [] ∧ Pw w 12 kb12 qf w11 ∧ Lv pl gl 0 1 P1 w11) := ⟨Mm.nil _, Pw.step hB1.out (below_on _ _ H10.out.2.b hI.1), hv⟩
  clear hI hP hv H10
  simp only [Act.put, sa, sz, ss]
  refine rest_set (d := 44) (v := .tuple #[.slice pl 1 cl, .int .i64 12, .int .i64 0]) (w' := w11) rfl rfl rfl (rfl) ?_
  simp only [Act.put, sa, sz, ss]
  refine rest_set (d := 50) (v := .slice pl 1 cl) (w' := w11) rfl rfl rfl (by go_simp) ?_
  simp only [Act.put, sa, sz, ss]
  refine rest_set (d := 51) (v := .int .i64 12) (w' := w11) rfl rfl rfl (by go_simp) ?_
  simp only [Act.put, sa, sz, ss]
  refine rest_set (d := 52) (v := .int .i64 0) (w' := w11) rfl rfl rfl (by go_simp) ?_
  simp only [Act.put, sa, sz, ss]
  refine rest_set (d := 3) (v := .slice pl 1 cl) (w' := w11) rfl rfl rfl (rfl) ?_
  simp only [Act.put, sa, sz, ss]
  refine rest_set (d := 4) (v := .int .i64 12) (w' := w11) rfl rfl rfl (rfl) ?_
  simp only [Act.put, sa, sz, ss]
  refine rest_set (d := 5) (v := .int .i64 0) (w' := w11) rfl rfl rfl (rfl) ?_
  simp only [Act.put, sa, sz, ss]
  refine rest_nil (then_normal (wp_seq ?_))
  refine sq_start (l := [0, 1, 2]) rfl ?_
  refine rest_set (d := 53) (v := .slice qf.p qf.n qf.cp) (w' := w11) rfl rfl rfl (rfl) ?_
  simp only [Act.put, sa, sz, ss]
  refine rest_enter (d := 54) (R := fun vv w' => Cw w11 vv 12 kb12 w') rfl rfl rfl (exec_call (args := #[.slice qf.p qf.n qf.cp]) rfl call49 rfl (mpn rfl)) (Calls.mono (copy_q qf (by rw [hqn.out]; decide) w11 ⟨hqo.out.1, H11.out.2.1.rs⟩ hqo.out.2) (fun e w2 hh => by obtain ⟨v, he, hI⟩ := hh; exact ⟨_, he, by rw [hqn.out, hqf.out] at hI; exact hI⟩)) ?_
  rintro vc w12 hI
  have hB2 : Hid (Pw w 12 kb12 qf w11 ∧ Lv pl gl 0 1 P1 w11) := H11.out.2
  obtain ⟨gc, cc, rfl⟩ := hI.form (by decide)
  have H12 : Hid (Mm w12 [] ∧ Cw w11 (.slice (some ⟨gc, 0, none⟩) 12 cc) (12) (kb12) w12) := ⟨Mm.nil _, hI⟩
  clear hI H11
  simp only [Act.put, sa, sz, ss]
  refine rest_set (d := 6) (v := .slice (some ⟨gc, 0, none⟩) 12 cc) (w' := w12) rfl rfl rfl (rfl) ?_
  simp only [Act.put, sa, sz, ss]
  refine rest_nil (then_normal (wp_seq ?_))
  refine sq_start (l := [0, 1, 2]) rfl ?_
  refine rest_set (d := 55) (v := .slice (some ⟨gc, 0, none⟩) 12 cc) (w' := w12) rfl rfl rfl (rfl) ?_
  simp only [Act.put, sa, sz, ss]
  refine rest_set (d := 56) (v := PT gc 0) (w' := w12) rfl rfl rfl (by go_simp) ?_
  simp only [Act.put, sa, sz, ss]
  refine rest_store rfl rfl rfl (Cw.store (v := 128) H12.out.2 (by decide) rfl rfl rfl) ?_
  have H13 : Hid (Mm (w12.setCell ⟨gc, 0, none⟩ (Z8 128)) [] ∧ Cw w11 (.slice (some ⟨gc, 0, none⟩) 12 cc) (12) (up kb12 0 128) (w12.setCell ⟨gc, 0, none⟩ (Z8 128))) := ⟨Mm.nil _, H12.out.2.put⟩
  clear H12
  generalize hgw : World.setCell _ _ _ = w13 at H13 ⊢
  clear hgw
  refine rest_nil (then_normal (wp_seq ?_))
  refine sq_start (l := [0, 1, 2, 3, 4, 5, 6, 7, 8]) rfl ?_
  refine rest_set (d := 58) (v := .slice (some ⟨gc, 0, none⟩) 12 cc) (w' := w13) rfl rfl rfl (rfl) ?_
  simp only [Act.put, sa, sz, ss]
  refine rest_enter (d := 59) (R := fun vv w' => vv = .tuple #[.slice none 0 0, .int .i64 0, .int .i64 14] ∧ Below w13.heap.size w13 w') rfl rfl rfl (exec_call (args := #[.slice (some ⟨gc, 0, none⟩) 12 cc]) rfl call35 rfl (mpn rfl)) (Calls.mono (Read_badh_cw H13.out.2 (fun _ => 0) (fun _ => 0) 0 (by decide) (by decide) (lg0 _ _) kbad) (fun e w2 hh => ⟨_, hh.1, rfl, hh.2⟩)) ?_
  rintro _ w14 ⟨rfl, hI⟩
  have H14 : Hid (Mm w14 [] ∧ Pw w 12 kb12 qf w14 ∧ Lv pl gl 0 1 P1 w14) := ⟨Mm.nil _, Pw.step hB2.out.1 (below_on _ _ H13.out.2.b hI), Lv.below hB2.out.2 (below_on _ _ H13.out.2.b hI)⟩
  clear hI H13
  simp only [Act.put, sa, sz, ss]
  refine rest_set (d := 57) (v := .tuple #[.slice none 0 0, .int .i64 0, .int .i64 14]) (w' := w14) rfl rfl rfl (rfl) ?_
  simp only [Act.put, sa, sz, ss]
  refine rest_set (d := 60) (v := .slice none 0 0) (w' := w14) rfl rfl rfl (by go_simp) ?_
  simp only [Act.put, sa, sz, ss]
  refine rest_set (d := 61) (v := .int .i64 0) (w' := w14) rfl rfl rfl (by go_simp) ?_
  simp only [Act.put, sa, sz, ss]
  refine rest_set (d := 62) (v := .int .i64 14) (w' := w14) rfl rfl rfl (by go_simp) ?_
  simp only [Act.put, sa, sz, ss]
  refine rest_set (d := 7) (v := .slice none 0 0) (w' := w14) rfl rfl rfl (rfl) ?_
  simp only [Act.put, sa, sz, ss]
  refine rest_set (d := 8) (v := .int .i64 0) (w' := w14) rfl rfl rfl (rfl) ?_
  simp only [Act.put, sa, sz, ss]
  refine rest_set (d := 9) (v := .int .i64 14) (w' := w14) rfl rfl rfl (rfl) ?_
  simp only [Act.put, sa, sz, ss]
  refine rest_nil (then_normal (wp_seq ?_))
  refine sq_start (l := [0, 1, 2, 3, 4, 5, 6, 7, 8, 9]) rfl ?_
  refine rest_set (d := 64) (v := .slice qf.p qf.n qf.cp) (w' := w14) rfl rfl rfl (rfl) ?_
  simp only [Act.put, sa, sz, ss]
  refine rest_set (d := 65) (v := .slice (qf.tk 7).p 7 (qf.tk 7).cp) (w' := w14) rfl rfl rfl (ex_tkQ (q := qf) (k := 7) (by have := hqo.out.1.le; have := hqn.out; omega) rfl rfl rfl) ?_
  simp only [Act.put, sa, sz, ss]
  refine rest_enter (d := 66) (R := fun vv w' => ∃ v P, vv = .tuple #[v, .int .i64 0, .int .i64 0] ∧ Below w14.heap.size w14 w' ∧ Lq w14.heap.size v 0 P w') rfl rfl rfl (exec_call (args := #[.slice (qf.tk 7).p 7 (qf.tk 7).cp]) rfl call35 rfl (mpn rfl)) (Calls.mono (Read_fine (qf.tk 7) (fun _ => 0) (fun _ => 0) 0 (by show 7 ≤ _; decide) w14 ⟨hqo.out.1.tk (by rw [hqn.out]; decide), Pt8.rs_tk H14.out.2.1.rs (by rw [hqn.out]; decide)⟩ (Pt8.tk_no hqo.out.2 _) (lg0 _ _) (.inl (by show 7 < 0 + 8; decide))) (fun e w2 hh => by obtain ⟨v, P, he, hI, hP⟩ := hh; exact ⟨_, he, v, P, rfl, hI⟩)) ?_
  rintro _ w15 ⟨v2, P2, rfl, hI, hQ⟩
  obtain ⟨p2, c2, g2, rfl, _⟩ := hQ.lv
  have H15 : Hid (Mm w15 [] ∧ Pw w 12 kb12 qf w15 ∧ Lv pl gl 0 1 P1 w15) := ⟨Mm.nil _, Pw.step H14.out.2.1 hI, Lv.below H14.out.2.2 hI⟩
  clear hI hQ H14
  simp only [Act.put, sa, sz, ss]
  refine rest_set (d := 63) (v := .tuple #[.slice p2 0 c2, .int .i64 0, .int .i64 0]) (w' := w15) rfl rfl rfl (rfl) ?_
  simp only [Act.put, sa, sz, ss]
  refine rest_set (d := 67) (v := .slice p2 0 c2) (w' := w15) rfl rfl rfl (by go_simp) ?_
  simp only [Act.put, sa, sz, ss]
  refine rest_set (d := 68) (v := .int .i64 0) (w' := w15) rfl rfl rfl (by go_simp) ?_
  simp only [Act.put, sa, sz, ss]
  refine rest_set (d := 69) (v := .int .i64 0) (w' := w15) rfl rfl rfl (by go_simp) ?_
  simp only [Act.put, sa, sz, ss]
  refine rest_set (d := 10) (v := .slice p2 0 c2) (w' := w15) rfl rfl rfl (rfl) ?_
  simp only [Act.put, sa, sz, ss]
  refine rest_set (d := 11) (v := .int .i64 0) (w' := w15) rfl rfl rfl (rfl) ?_
  simp only [Act.put, sa, sz, ss]
  refine rest_set (d := 12) (v := .int .i64 0) (w' := w15) rfl rfl rfl (rfl) ?_
  simp only [Act.put, sa, sz, ss]
  refine rest_nil (then_normal (wp_seq ?_))
  refine sq_start (l := [0, 1, 2, 3, 4, 5]) rfl ?_
  skip
  refine rest_enter (d := 71) (R := fun vv w' => ∃ d mb rb, vv = .tuple #[PT d 0, .int .i64 0] ∧ Nw w15 d mb rb (fun _ => false) 0 w') rfl rfl rfl (exec_call (args := #[.slice none 0 0]) rfl call14 rfl (mpn rfl)) (Calls.mono (New_nil w15) (fun e w2 hh => by obtain ⟨d, mb, rb, he, hI⟩ := hh; exact ⟨_, he, d, mb, rb, rfl, hI⟩)) ?_
  rintro _ w16 ⟨d, mb, rb, rfl, hI⟩
  have hB9 : Hid (Pw w 12 kb12 qf w15 ∧ Lv pl gl 0 1 P1 w15) := H15.out.2
  have H16 : Hid (Mm w16 [] ∧ Nw w15 d mb rb (fun _ => false) 0 w16) := ⟨Mm.nil _, hI⟩
  clear hI H15
  simp only [Act.put, sa, sz, ss]
  refine rest_set (d := 70) (v := .tuple #[PT d 0, .int .i64 0]) (w' := w16) rfl rfl rfl (rfl) ?_
  simp only [Act.put, sa, sz, ss]
  refine rest_set (d := 72) (v := PT d 0) (w' := w16) rfl rfl rfl (by go_simp) ?_
  simp only [Act.put, sa, sz, ss]
  refine rest_set (d := 73) (v := .int .i64 0) (w' := w16) rfl rfl rfl (by go_simp) ?_
  simp only [Act.put, sa, sz, ss]
  refine rest_set (d := 13) (v := PT d 0) (w' := w16) rfl rfl rfl (rfl) ?_
  simp only [Act.put, sa, sz, ss]
  refine rest_set (d := 14) (v := .int .i64 0) (w' := w16) rfl rfl rfl (rfl) ?_
  simp only [Act.put, sa, sz, ss]
  refine rest_nil (then_normal (wp_seq ?_))
  refine sq_start (l := [0, 1, 2, 3, 4, 5, 6, 7, 8]) rfl ?_
  refine rest_set (d := 75) (v := PT d 0) (w' := w16) rfl rfl rfl (rfl) ?_
  simp only [Act.put, sa, sz, ss]
  refine rest_enter (d := 76) (R := fun vv w' => ∃ j v P B, vv = .tuple #[PT j 0, v, .int .i64 0] ∧ JOk w15 j ⟨d, mb, rb, 0, [], fun _ => false⟩ ka 0 0 w' ∧ Lq B v 0 P w') rfl rfl rfl (exec_call (args := #[PT d 0, .string ⟨#[97]⟩]) rfl call48 rfl (mpn rfl)) (Calls.mono (jopen_new H16.out.2 ka ka_sz ka_ok) (fun e w2 hh => by obtain ⟨j, v, P, B, he, hI⟩ := hh; exact ⟨_, he, j, v, P, B, rfl, hI⟩)) ?_
  rintro _ w17 ⟨j, v3, P3, B3, rfl, hI, hQ⟩
  obtain ⟨p3, c3, g3, rfl, _⟩ := hQ.lv
  have H17 : Hid (Mm w17 [] ∧ JOk w15 j ⟨d, mb, rb, 0, [], fun _ => false⟩ ka 0 0 w17) := ⟨Mm.nil _, hI⟩
  clear hI hQ H16
  simp only [Act.put, sa, sz, ss]
  refine rest_set (d := 74) (v := .tuple #[PT j 0, .slice p3 0 c3, .int .i64 0]) (w' := w17) rfl rfl rfl (rfl) ?_
  simp only [Act.put, sa, sz, ss]
  refine rest_set (d := 77) (v := PT j 0) (w' := w17) rfl rfl rfl (by go_simp) ?_
  simp only [Act.put, sa, sz, ss]
  refine rest_set (d := 78) (v := .slice p3 0 c3) (w' := w17) rfl rfl rfl (by go_simp) ?_
  simp only [Act.put, sa, sz, ss]
  refine rest_set (d := 79) (v := .int .i64 0) (w' := w17) rfl rfl rfl (by go_simp) ?_
  simp only [Act.put, sa, sz, ss]
  refine rest_set (d := 15) (v := PT j 0) (w' := w17) rfl rfl rfl (rfl) ?_
  simp only [Act.put, sa, sz, ss]
  refine rest_set (d := 16) (v := .slice p3 0 c3) (w' := w17) rfl rfl rfl (rfl) ?_
  simp only [Act.put, sa, sz, ss]
  refine rest_set (d := 17) (v := .int .i64 0) (w' := w17) rfl rfl rfl (rfl) ?_
  simp only [Act.put, sa, sz, ss]
  refine rest_nil (then_normal ?_)
  refine wp_seq (wp_seq ?_)
  refine sq_start (l := [0, 1, 2, 3, 4, 5]) rfl ?_
  refine rest_set (d := 80) (v := PT j 0) (w' := w17) rfl rfl rfl (rfl) ?_
  simp only [Act.put, sa, sz, ss]
  refine rest_set (d := 81) (v := .bool false) (w' := w17) rfl rfl rfl (by go_simp) ?_
  simp only [Act.put, sa, sz, ss]
  refine rest_set (d := 82) (v := .bool false) (w' := w17) rfl rfl rfl (rfl) ?_
  simp only [Act.put, sa, sz, ss]
  refine rest_set (d := 83) (v := .int .i64 0) (w' := w17) rfl rfl rfl (rfl) ?_
  simp only [Act.put, sa, sz, ss]
  refine rest_set (d := 84) (v := .bool false) (w' := w17) rfl rfl rfl (by kernel_rfl) ?_
  simp only [Act.put, sa, sz, ss]
  refine rest_set (d := 85) (v := .bool false) (w' := w17) rfl rfl rfl (by go_simp) ?_
  simp only [Act.put, sa, sz, ss]
  refine rest_nil (then_normal ?_)
  refine wp_cond_false rfl (wp_skip ?_)
  refine then_normal (wp_seq ?_)
  refine sq_start (l := [0, 1, 2, 3, 4, 5, 6]) rfl ?_
  refine rest_set (d := 86) (v := PT j 0) (w' := w17) rfl rfl rfl (rfl) ?_
  simp only [Act.put, sa, sz, ss]
  refine rest_set (d := 87) (v := .slice (some ⟨w17.heap.size, 0, none⟩) 2 2) (w' := (w17.alloc (.cells (ints .u8 kb2 2 : List Value).toArray 5))) rfl rfl rfl (ex_kb2 rfl (fun _ => rfl)) ?_
  simp only [Act.put, sa, sz, ss]
  have o_γs18 : Hid (w17.heap.size ≤ w17.heap.size) := Nat.le_refl _
  have H18 : Hid (Mm (w17.alloc (.cells (ints .u8 kb2 2 : List Value).toArray 5)) ((w17.heap.size, ints .u8 kb2 2) :: []) ∧ JOk w15 j ⟨d, mb, rb, 0, [], fun _ => false⟩ ka 0 0 (w17.alloc (.cells (ints .u8 kb2 2 : List Value).toArray 5))) := ⟨H17.out.1.alloc _ 5 rfl, JOk.step H17.out.2 (((Below.refl _ _).alloc (Nat.le_refl _) _))⟩
  clear H17
  generalize hgw : w17.alloc (.cells (ints .u8 kb2 2 : List Value).toArray 5) = w18 at H18 ⊢
  clear hgw
  generalize w17.heap.size = γs18 at o_γs18 H18 ⊢
  refine rest_enter (d := 88) (R := fun vv w' => vv = .int .i64 0 ∧ ∃ g1 q1 v1, JOk w15 j ((⟨d, mb, rb, 0, [], fun _ => false⟩ : Dq).tick.add ((newF ka g1).more v1 (appo 0 q1))) ka 1 14 w') rfl rfl rfl (exec_call (args := #[PT j 0, .slice (some ⟨γs18, 0, none⟩) 2 2]) rfl call44 rfl (mpn rfl)) (Calls.mono (japp_new H18.out.2 ka_sz ka_ok (rowp γs18 2 kb2) ⟨rowp_ok _ _ _, rowp_rs (H18.out.1.one 0 rfl)⟩ (rowp_no _ _ _) (show 2 ≤ 65536 by decide) (by decide) (by decide) (show 0 + 1 < 4611686018427387904 by decide) rfl rfl (show 0 < 64 by decide)) (fun e w2 hh => by obtain ⟨he, g1, q1, v1, _, _, hI⟩ := hh; exact ⟨_, he, rfl, g1, q1, v1, hI⟩)) ?_
  rintro _ w19 ⟨rfl, g1, q1, v1, hI⟩
  have H19 : Hid (Mm w19 [] ∧ JOk w15 j ((⟨d, mb, rb, 0, [], fun _ => false⟩ : Dq).tick.add ((newF ka g1).more v1 (appo 0 q1))) ka 1 14 w19) := ⟨Mm.nil _, hI⟩
  clear hI H18
  simp only [Act.put, sa, sz, ss]
  refine rest_set (d := 89) (v := PT j 0) (w' := w19) rfl rfl rfl (rfl) ?_
  simp only [Act.put, sa, sz, ss]
  refine rest_enter (d := 90) (R := fun vv w' => vv = .int .i64 0 ∧ ∃ D2, JOk w15 j D2 ka 1 14 w') rfl rfl rfl (exec_call (args := #[PT j 0]) rfl call45 rfl (mpn rfl)) (Calls.mono (jsync_hit H19.out.2 ka_sz (show 0 + 1 + 1 < 4611686018427387904 by decide) rfl ((newF ka g1).more v1 (appo 0 q1)) (by show lk ([] ++ [((newF ka g1).more v1 (appo 0 q1))]) ka = _; rw [lk_add, if_pos (show Fq.nm ((newF ka g1).more v1 (appo 0 q1)) = ka from rfl)]; rfl) (show 0 < 1 by decide)) (fun e w2 hh => by obtain ⟨he, s', hI⟩ := hh; exact ⟨_, he, rfl, _, hI⟩)) ?_
  rintro _ w20 ⟨rfl, D2, hI⟩
  have H20 : Hid (Mm w20 [] ∧ JOk w15 j D2 ka 1 14 w20) := ⟨Mm.nil _, hI⟩
  clear hI H19
  simp only [Act.put, sa, sz, ss]
  refine rest_set (d := 18) (v := .int .i64 0) (w' := w20) rfl rfl rfl (rfl) ?_
  simp only [Act.put, sa, sz, ss]
  refine rest_set (d := 19) (v := .int .i64 0) (w' := w20) rfl rfl rfl (rfl) ?_
  simp only [Act.put, sa, sz, ss]
  refine rest_nil (then_normal (wp_seq ?_))
  refine sq_start (l := [0, 1, 2, 3, 4, 5, 6]) rfl ?_
  have hmz := @ex_mk65
  refine rest_mk65 w20 rfl rfl rfl rfl rfl rfl (fun w21 hbk => ?_)
  clear hmz
  simp only [Act.put, sa, sz, ss]
  have H21 : Hid (Mm w21 [] ∧ JOk w15 j D2 ka 1 14 w21) := ⟨Mm.nil _, JOk.step H20.out.2 (hbk)⟩
  clear hbk H20
  generalize w20.heap.size = γb at ⊢
  refine rest_enter (d := 93) (R := fun vv w' => vv = .tuple #[.slice none 0 0, .int .i64 3] ∧ Below w21.heap.size w21 w') rfl rfl rfl (exec_call (args := #[.slice (some ⟨γb, 0, none⟩) 65537 65537]) rfl call33 rfl (mpn rfl)) (Calls.mono (Frame_long (rowp γb 65537 (fun _ => 0)) (show 65536 < 65537 by decide) w21) (fun e w2 hh => ⟨_, hh.1, rfl, hh.2⟩)) ?_
  rintro _ w22 ⟨rfl, hb⟩
  have H22 : Hid (Mm w22 [] ∧ JOk w15 j D2 ka 1 14 w22) := ⟨H21.out.1.below hb, JOk.step H21.out.2 (hb)⟩
  clear hb
  clear H21
  simp only [Act.put, sa, sz, ss]
  refine rest_set (d := 91) (v := .tuple #[.slice none 0 0, .int .i64 3]) (w' := w22) rfl rfl rfl (rfl) ?_
  simp only [Act.put, sa, sz, ss]
  refine rest_set (d := 94) (v := .slice none 0 0) (w' := w22) rfl rfl rfl (by go_simp) ?_
  simp only [Act.put, sa, sz, ss]
  refine rest_set (d := 95) (v := .int .i64 3) (w' := w22) rfl rfl rfl (by go_simp) ?_
  simp only [Act.put, sa, sz, ss]
  refine rest_set (d := 20) (v := .slice none 0 0) (w' := w22) rfl rfl rfl (rfl) ?_
  simp only [Act.put, sa, sz, ss]
  refine rest_set (d := 21) (v := .int .i64 3) (w' := w22) rfl rfl rfl (rfl) ?_
  simp only [Act.put, sa, sz, ss]
  refine rest_nil (then_normal (wp_seq ?_))
  refine sq_start (l := [0, 1, 2, 3, 4, 5, 6, 7, 8, 9, 10, 11, 12, 13, 14, 15, 16, 17, 18, 19, 20, 21, 22, 23, 24, 25, 26, 27, 28, 29, 30, 31, 32, 33, 34, 35, 36, 37, 38, 39, 40, 41, 42, 43, 44, 45, 46, 47, 48, 49, 50, 51, 52, 53, 54, 55, 56, 57, 58, 59, 60, 61, 62]) rfl ?_
  refine rest_set (d := 96) (v := .slice pl 1 cl) (w' := w22) rfl rfl rfl (rfl) ?_
  simp only [Act.put, sa, sz, ss]
  refine rest_set (d := 97) (v := .int .i64 1) (w' := w22) rfl rfl rfl (by go_simp) ?_
  simp only [Act.put, sa, sz, ss]
  refine rest_set (d := 98) (v := .bool true) (w' := w22) rfl rfl rfl (by kernel_rfl) ?_
  simp only [Act.put, sa, sz, ss]
  refine rest_set (d := 99) (v := .bool true) (w' := w22) rfl rfl rfl (rfl) ?_
  simp only [Act.put, sa, sz, ss]
  refine rest_set (d := 100) (v := .slice pl 1 cl) (w' := w22) rfl rfl rfl (rfl) ?_
  simp only [Act.put, sa, sz, ss]
  refine rest_set (d := 101) (v := PT gl (0 + 0)) (w' := w22) rfl rfl rfl (ex_ixL (j := 0) (hB9.out.2.p (by decide)) rfl rfl rfl (by decide)) ?_
  simp only [Act.put, sa, sz, ss]
  refine rest_set (d := 102) (v := .slice (P1 0).p (P1 0).n (P1 0).cp) (w' := w22) rfl rfl rfl (ex_ldL ((Lv.below hB9.out.2 H22.out.2.b).at_ 0 (by decide)) rfl rfl) ?_
  simp only [Act.put, sa, sz, ss]
  refine rest_set (d := 103) (v := .int .i64 (((P1 0).n : Nat) : Int)) (w' := w22) rfl rfl rfl (by go_simp) ?_
  simp only [Act.put, sa, sz, ss]
  refine rest_set (d := 104) (v := .bool true) (w' := w22) rfl rfl rfl (by have := hp1.out; go_simp <;> omega) ?_
  simp only [Act.put, sa, sz, ss]
  refine rest_set (d := 105) (v := .bool true) (w' := w22) rfl rfl rfl (by go_simp) ?_
  simp only [Act.put, sa, sz, ss]
  refine rest_set (d := 106) (v := .bool true) (w' := w22) rfl rfl rfl (rfl) ?_
  simp only [Act.put, sa, sz, ss]
  refine rest_set (d := 107) (v := .int .i64 12) (w' := w22) rfl rfl rfl (rfl) ?_
  simp only [Act.put, sa, sz, ss]
  refine rest_set (d := 108) (v := .bool true) (w' := w22) rfl rfl rfl (by kernel_rfl) ?_
  simp only [Act.put, sa, sz, ss]
  refine rest_set (d := 109) (v := .bool true) (w' := w22) rfl rfl rfl (by go_simp) ?_
  simp only [Act.put, sa, sz, ss]
  refine rest_set (d := 110) (v := .bool true) (w' := w22) rfl rfl rfl (rfl) ?_
  simp only [Act.put, sa, sz, ss]
  refine rest_set (d := 111) (v := .int .i64 0) (w' := w22) rfl rfl rfl (rfl) ?_
  simp only [Act.put, sa, sz, ss]
  refine rest_set (d := 112) (v := .bool true) (w' := w22) rfl rfl rfl (by kernel_rfl) ?_
  simp only [Act.put, sa, sz, ss]
  refine rest_set (d := 113) (v := .bool true) (w' := w22) rfl rfl rfl (by go_simp) ?_
  simp only [Act.put, sa, sz, ss]
  refine rest_set (d := 114) (v := .bool true) (w' := w22) rfl rfl rfl (rfl) ?_
  simp only [Act.put, sa, sz, ss]
  refine rest_set (d := 115) (v := .int .i64 14) (w' := w22) rfl rfl rfl (rfl) ?_
  simp only [Act.put, sa, sz, ss]
  refine rest_set (d := 116) (v := .bool true) (w' := w22) rfl rfl rfl (by kernel_rfl) ?_
  simp only [Act.put, sa, sz, ss]
  refine rest_set (d := 117) (v := .bool true) (w' := w22) rfl rfl rfl (by go_simp) ?_
  simp only [Act.put, sa, sz, ss]
  refine rest_set (d := 118) (v := .bool true) (w' := w22) rfl rfl rfl (rfl) ?_
  simp only [Act.put, sa, sz, ss]
  refine rest_set (d := 119) (v := .slice p2 0 c2) (w' := w22) rfl rfl rfl (rfl) ?_
  simp only [Act.put, sa, sz, ss]
  refine rest_set (d := 120) (v := .int .i64 0) (w' := w22) rfl rfl rfl (by go_simp) ?_
  simp only [Act.put, sa, sz, ss]
  refine rest_set (d := 121) (v := .bool true) (w' := w22) rfl rfl rfl (by kernel_rfl) ?_
  simp only [Act.put, sa, sz, ss]
  refine rest_set (d := 122) (v := .bool true) (w' := w22) rfl rfl rfl (by go_simp) ?_
  simp only [Act.put, sa, sz, ss]
  refine rest_set (d := 123) (v := .bool true) (w' := w22) rfl rfl rfl (rfl) ?_
  simp only [Act.put, sa, sz, ss]
  refine rest_set (d := 124) (v := .int .i64 0) (w' := w22) rfl rfl rfl (rfl) ?_
  simp only [Act.put, sa, sz, ss]
  refine rest_set (d := 125) (v := .bool true) (w' := w22) rfl rfl rfl (by kernel_rfl) ?_
  simp only [Act.put, sa, sz, ss]
  refine rest_set (d := 126) (v := .bool true) (w' := w22) rfl rfl rfl (by go_simp) ?_
  simp only [Act.put, sa, sz, ss]
  refine rest_set (d := 127) (v := .bool true) (w' := w22) rfl rfl rfl (rfl) ?_
  simp only [Act.put, sa, sz, ss]
  refine rest_set (d := 128) (v := .int .i64 0) (w' := w22) rfl rfl rfl (rfl) ?_
  simp only [Act.put, sa, sz, ss]
  refine rest_set (d := 129) (v := .bool true) (w' := w22) rfl rfl rfl (by kernel_rfl) ?_
  simp only [Act.put, sa, sz, ss]
  refine rest_set (d := 130) (v := .bool true) (w' := w22) rfl rfl rfl (by go_simp) ?_
  simp only [Act.put, sa, sz, ss]
  refine rest_set (d := 131) (v := .bool true) (w' := w22) rfl rfl rfl (rfl) ?_
  simp only [Act.put, sa, sz, ss]
  refine rest_set (d := 132) (v := .slice p3 0 c3) (w' := w22) rfl rfl rfl (rfl) ?_
  simp only [Act.put, sa, sz, ss]
  refine rest_set (d := 133) (v := .int .i64 0) (w' := w22) rfl rfl rfl (by go_simp) ?_
  simp only [Act.put, sa, sz, ss]
  refine rest_set (d := 134) (v := .bool true) (w' := w22) rfl rfl rfl (by kernel_rfl) ?_
  simp only [Act.put, sa, sz, ss]
  refine rest_set (d := 135) (v := .bool true) (w' := w22) rfl rfl rfl (by go_simp) ?_
  simp only [Act.put, sa, sz, ss]
  refine rest_set (d := 136) (v := .bool true) (w' := w22) rfl rfl rfl (rfl) ?_
  simp only [Act.put, sa, sz, ss]
  refine rest_set (d := 137) (v := .int .i64 0) (w' := w22) rfl rfl rfl (rfl) ?_
  simp only [Act.put, sa, sz, ss]
  refine rest_set (d := 138) (v := .bool true) (w' := w22) rfl rfl rfl (by kernel_rfl) ?_
  simp only [Act.put, sa, sz, ss]
  refine rest_set (d := 139) (v := .bool true) (w' := w22) rfl rfl rfl (by go_simp) ?_
  simp only [Act.put, sa, sz, ss]
  refine rest_set (d := 140) (v := .bool true) (w' := w22) rfl rfl rfl (rfl) ?_
  simp only [Act.put, sa, sz, ss]
  refine rest_set (d := 141) (v := .int .i64 0) (w' := w22) rfl rfl rfl (rfl) ?_
  simp only [Act.put, sa, sz, ss]
  refine rest_set (d := 142) (v := .bool true) (w' := w22) rfl rfl rfl (by kernel_rfl) ?_
  simp only [Act.put, sa, sz, ss]
  refine rest_set (d := 143) (v := .bool true) (w' := w22) rfl rfl rfl (by go_simp) ?_
  simp only [Act.put, sa, sz, ss]
  refine rest_set (d := 144) (v := .bool true) (w' := w22) rfl rfl rfl (rfl) ?_
  simp only [Act.put, sa, sz, ss]
  refine rest_set (d := 145) (v := PT j 0) (w' := w22) rfl rfl rfl (rfl) ?_
  simp only [Act.put, sa, sz, ss]
  refine rest_enter (d := 146) (R := fun vv w' => vv = .int .i64 1 ∧ Below w22.heap.size w22 w') rfl rfl rfl (exec_call (args := #[PT j 0]) rfl call46 rfl (mpn rfl)) (Calls.mono (jlen j D2.d 1 14 ka w22 H22.out.2.cel) (fun e w2 hh => ⟨_, hh.1, rfl, hh.2⟩)) ?_
  rintro _ w23 ⟨rfl, hb⟩
  have H23 : Hid (Mm w23 [] ∧ JOk w15 j D2 ka 1 14 w23) := ⟨H22.out.1.below hb, JOk.step H22.out.2 (hb)⟩
  clear hb
  clear H22
  simp only [Act.put, sa, sz, ss]
  refine rest_set (d := 147) (v := .bool true) (w' := w23) rfl rfl rfl (by kernel_rfl) ?_
  simp only [Act.put, sa, sz, ss]
  refine rest_set (d := 148) (v := .bool true) (w' := w23) rfl rfl rfl (by go_simp) ?_
  simp only [Act.put, sa, sz, ss]
  refine rest_set (d := 149) (v := .bool true) (w' := w23) rfl rfl rfl (rfl) ?_
  simp only [Act.put, sa, sz, ss]
  refine rest_set (d := 150) (v := PT j 0) (w' := w23) rfl rfl rfl (rfl) ?_
  simp only [Act.put, sa, sz, ss]
  refine rest_enter (d := 151) (R := fun vv w' => vv = .int .i64 14 ∧ Below w23.heap.size w23 w') rfl rfl rfl (exec_call (args := #[PT j 0]) rfl call47 rfl (mpn rfl)) (Calls.mono (jsize j D2.d 1 14 ka w23 H23.out.2.cel) (fun e w2 hh => ⟨_, hh.1, rfl, hh.2⟩)) ?_
  rintro _ w24 ⟨rfl, hb⟩
  have H24 : Hid (Mm w24 [] ∧ JOk w15 j D2 ka 1 14 w24) := ⟨H23.out.1.below hb, JOk.step H23.out.2 (hb)⟩
  clear hb
  clear H23
  simp only [Act.put, sa, sz, ss]
  refine rest_set (d := 152) (v := .bool true) (w' := w24) rfl rfl rfl (by kernel_rfl) ?_
  simp only [Act.put, sa, sz, ss]
  refine rest_set (d := 153) (v := .bool true) (w' := w24) rfl rfl rfl (by go_simp) ?_
  simp only [Act.put, sa, sz, ss]
  refine rest_set (d := 154) (v := .bool true) (w' := w24) rfl rfl rfl (rfl) ?_
  simp only [Act.put, sa, sz, ss]
  refine rest_set (d := 155) (v := .int .i64 3) (w' := w24) rfl rfl rfl (rfl) ?_
  simp only [Act.put, sa, sz, ss]
  refine rest_set (d := 156) (v := .bool true) (w' := w24) rfl rfl rfl (by kernel_rfl) ?_
  simp only [Act.put, sa, sz, ss]
  refine rest_set (d := 157) (v := .bool true) (w' := w24) rfl rfl rfl (by go_simp) ?_
  simp only [Act.put, sa, sz, ss]
  refine rest_set (d := 0) (v := .bool true) (w' := w24) rfl rfl rfl (rfl) ?_
  simp only [Act.put, List.setIfInBounds_toArray, List.set_cons_zero]
  refine rest_nil (then_normal (wp_ret ?_))
  repeat (first | refine then_ret ?_ | refine block_ret ?_)
  refine bodyPost_ret (v := .bool true) (by simp [results, Try.results10, go_sem, *]) rfl ?_
  exact ⟨rfl, below_on _ _ hB9.out.1.b H24.out.2.b⟩
end Wi
end Rg
end Go.Proofs.Ytidicdlfjdlpnaa
end
section
namespace Go.Proofs.Ytidicdlfjdlpnaa
open Go.RowKit
namespace Rg
namespace Wi
set_option maxRecDepth 100000
/-- Where the frames of records stand, and the log's bytes. -/
def lA (P : Nat → Pt8) : Nat → Nat
  | 0 => 0
  | k + 1 => lA P k + (8 + (P k).n + 4)
def lF (P : Nat → Pt8) : Nat → Nat → Nat
  | 0 => fun _ => 0
  | k + 1 => ct (lF P k) (lA P k) (frm (P k).f (P k).n)
theorem ct_lo {P Q : Nat → Nat} {n j : Nat} (h : j < n) : ct P n Q j = P j := if_pos h
theorem ct_hi (P Q : Nat → Nat) (n j : Nat) : ct P n Q (n + j) = Q j := by
  unfold ct
  rw [if_neg (by omega), Nat.add_sub_cancel_left]
section
variable {f : Nat → Nat} {n : Nat}
theorem frm_len {j : Nat} (h : j < 4) : frm f n j = by4 n j := by
  unfold frm
  rw [ct_lo (by omega), ct_lo (by omega)]
  exact ct_lo h
theorem frm_chk {j : Nat} (h : j < 4) : frm f n (4 + j) = by4 (crc (by4 n) 4) j := by
  unfold frm
  rw [ct_lo (by omega), ct_lo (by omega)]
  exact ct_hi _ _ _ _
theorem frm_rec {j : Nat} (h : j < n) : frm f n (8 + j) = f j := by
  unfold frm
  rw [ct_lo (by omega), ct_hi]
theorem frm_end (j : Nat) : frm f n (8 + n + j) = by4 (crc f n) j := by
  unfold frm
  exact ct_hi _ _ _ _
theorem crc4 (n : Nat) : crc (by4 n) 4 < 4294967296 := crc_lt _ _
theorem frm_hd {g : Nat → Nat} (hn : n ≤ 65536) (h : ∀ j, j < 8 → g j = frm f n j) : Hdk g n := by
  have e : ∀ j, j < 4 → g j = by4 n j := fun j hj => (h j (by omega)).trans (frm_len hj)
  have e2 : ∀ j, j < 4 → g (4 + j) = by4 (crc (by4 n) 4) j := fun j hj => (h (4 + j) (by omega)).trans (frm_chk hj)
  refine ⟨?_, hn, ?_⟩
  · rw [e 0 (by decide), e 1 (by decide), e 2 (by decide), e 3 (by decide)]
    exact nb4_by4 (by omega)
  · rw [show g 4 = _ from e2 0 (by decide), show g 5 = _ from e2 1 (by decide), show g 6 = _ from e2 2 (by decide), show g 7 = _ from e2 3 (by decide), nb4_by4 (crc4 n)]
    exact crc_cg e
theorem frm_bd {g : Nat → Nat} (h : ∀ j, j < 8 + n + 4 → g j = frm f n j) : Bdk g n := by
  have e : ∀ j, j < 4 → g (8 + n + j) = by4 (crc f n) j := fun j hj => (h _ (by omega)).trans (frm_end j)
  unfold Bdk
  rw [show g (8 + n) = _ from e 0 (by decide), show g (8 + n + 1) = _ from e 1 (by decide), show g (8 + n + 2) = _ from e 2 (by decide), show g (8 + n + 3) = _ from e 3 (by decide), nb4_by4 (crc_lt _ _)]
  exact crc_cg (fun j hj => (h (8 + j) (by omega)).trans (frm_rec hj))
end
theorem lA_mono (P : Nat → Pt8) : ∀ {i m : Nat}, i ≤ m → lA P i ≤ lA P m
  | i, 0, h => by rw [show i = 0 by omega]; exact Nat.le_refl _
  | i, m + 1, h => by
    by_cases e : i = m + 1
    · rw [e]; exact Nat.le_refl _
    · have := lA_mono P (i := i) (m := m) (by omega)
      show _ ≤ lA P m + (8 + (P m).n + 4)
      omega
theorem lF_at (P : Nat → Pt8) : ∀ {m i j : Nat}, i < m → j < 8 + (P i).n + 4 → lF P m (lA P i + j) = frm (P i).f (P i).n j
  | 0, _, _, h, _ => absurd h (Nat.not_lt_zero _)
  | m + 1, i, j, h, hj => by
    show ct (lF P m) (lA P m) (frm (P m).f (P m).n) (lA P i + j) = _
    by_cases e : i = m
    · subst e
      exact ct_hi _ _ _ _
    · have h1 : lA P (i + 1) ≤ lA P m := lA_mono P (by omega)
      have h2 : lA P (i + 1) = lA P i + (8 + (P i).n + 4) := rfl
      rw [ct_lo (by omega)]
      exact lF_at P (by omega) hj
theorem log_good {P : Nat → Pt8} {F : Nat → Nat} {n m : Nat} (hF : ∀ j, j < lA P m → F j = lF P m j) (hn : lA P m ≤ n) (hP : ∀ i, i < m → (P i).n ≤ 65536) : Lgk F n (lA P) (fun i => (P i).n) m := by
  have key : ∀ i, i < m → ∀ j, j < 8 + (P i).n + 4 → sh F (lA P i) j = frm (P i).f (P i).n j := fun i hi j hj => by
    have h1 : lA P (i + 1) ≤ lA P m := lA_mono P (by omega)
    have h2 : lA P (i + 1) = lA P i + (8 + (P i).n + 4) := rfl
    show F (lA P i + j) = _
    rw [hF _ (by omega)]
    exact lF_at P hi hj
  exact ⟨rfl, fun i _ => by show lA P i + (8 + (P i).n + 4) = lA P i + (12 + (P i).n); omega, hn, fun i hi => frm_hd (hP i hi) (fun j hj => key i hi j (by omega)), fun i hi => frm_bd (key i hi)⟩
/-- A log with a torn end. -/
theorem log_torn {P : Nat → Pt8} {m t : Nat} (q : Pt8) (hq : q.n ≤ 65536) (ht : t < 8 + q.n + 4) : ∀ F, (∀ j, j < lA P m + t → F j = ct (lF P m) (lA P m) (frm q.f q.n) j) → lA P m + t < lA P m + 8 ∨ ∃ L, lA P m + 8 ≤ lA P m + t ∧ lA P m + t < lA P m + 8 + L + 4 ∧ Hdk (sh F (lA P m)) L := fun F hF => by
  by_cases h : t < 8
  · exact .inl (by omega)
  · refine .inr ⟨q.n, by omega, by omega, frm_hd (f := q.f) hq (fun j hj => ?_)⟩
    show F (lA P m + j) = _
    rw [hF _ (by omega)]
    exact ct_hi _ _ _ _
theorem lA_le {P : Nat → Pt8} {c : Nat} : ∀ {m : Nat}, (∀ i, i < m → (P i).n ≤ c) → lA P m ≤ m * (12 + c)
  | 0, _ => Nat.zero_le _
  | m + 1, h => by
    have h1 := lA_le (P := P) (m := m) (fun i hi => h i (by omega))
    have h2 := h m (by omega)
    show lA P m + (8 + (P m).n + 4) ≤ _
    rw [Nat.succ_mul]
    omega
end Wi
end Rg
end Go.Proofs.Ytidicdlfjdlpnaa
end
