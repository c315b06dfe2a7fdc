/- Texts of the proof, joined. -/
import Derived.Test.YtidicdlfjdlpnaaP5
section
namespace Go.Proofs.Ytidicdlfjdlpnaa
open Go.RowKit
namespace Rg
namespace Wi
theorem call81 : ∀ args w, (callFunc 81 args).run Try.prog w = .ok (.enter 81 args) w := by intro args w; go_simp
theorem call82 : ∀ args w, (callFunc 82 args).run Try.prog w = .ok (.enter 82 args) w := by intro args w; go_simp
theorem call110 : ∀ args w, (callFunc 110 args).run Try.prog w = .ok (.enter 110 args) w := by intro args w; go_simp
theorem call111 : ∀ args w, (callFunc 111 args).run Try.prog w = .ok (.enter 111 args) w := by intro args w; go_simp
set_option maxRecDepth 100000
theorem put4_cw {w w1 : World} {v : Value} {n m x : Nat} {P P2 : Nat → Nat} (h : Cw w v n P w1) (hm : n + 4 = m) (hbd : m ≤ 2097152) (hP : ∀ j, j < m → ct P n (by4 x) j = P2 j) : Calls Try.prog 111 #[v, W32 x] w1 fun e w2 => ∃ v', e = .returned v' ∧ Cw w v' m P2 w2 := by
  subst hm
  refine (put4_v v n w.heap.size x P hbd w1 h.b.size h.own).mono fun e w2 hh => ?_
  obtain ⟨v', e1, e2, e3⟩ := hh
  exact ⟨v', e1, (h.on e3 e2).cg hP⟩
theorem check_cw {w w1 : World} {v : Value} {g t n c : Nat} {P : Nat → Nat} (h : Cw w v n P w1) (hn : n < 4611686018427387904) (hT : Tb g t w1) (hc : crc P n = c) : Calls Try.prog 86 #[PT g t, v] w1 fun e w2 => e = .returned (W32 c) ∧ Below w1.heap.size w1 w2 := by
  obtain ⟨q, e1, e2, e3, e4, e5, e6, _⟩ := h.part
  subst e4
  subst e5
  rw [e1, ← hc]
  exact check_any g t q hn w1 hT ⟨e2, e6⟩
/-- A frame's head; a frame. -/
def hd8 (n : Nat) : Nat → Nat := ct (by4 n) 4 (by4 (crc (by4 n) 4))
def frm (f : Nat → Nat) (n : Nat) : Nat → Nat := ct (ct (hd8 n) 8 f) (8 + n) (by4 (crc f n))
theorem c32_small {n : Nat} (h : n ≤ 65536) : c32 n = n := Nat.mod_eq_of_lt (by omega)
set_option maxHeartbeats 2000000 in
set_option maxRecDepth 100000 in
theorem frame_long (g t : Nat) (q : Pt8) (hL : 65536 < q.n) (w : World) :
    Calls Try.prog 82 #[PT g t, .slice q.p q.n q.cp] w fun e w' => e = .returned (.tuple #[.slice none 0 0, .int .i64 3]) ∧ Below w.heap.size w w' := by
  have H0 : Hid (_ ∧ _) := ⟨Mm.nil w, Below.refl w.heap.size w⟩
  go_enter Try.func82, Try.ntmps82
  refine wp_seq ?_
  refine sq_startW (l := [0, 1]) rfl (fun u0 hu0 => ?_)
  have H1 : Hid (Mm u0 [] ∧ Below w.heap.size w u0) := by rw [hu0]; exact H0
  clear hu0 H0
  refine rest_set (d := 4) (v := .slice none 0 0) (w' := u0) rfl rfl rfl (rfl) ?_
  simp only [Act.put, sa, sz, ss]
  refine rest_set (d := 5) (v := .int .i64 0) (w' := u0) rfl rfl rfl (rfl) ?_
  simp only [Act.put, sa, sz, ss]
  refine rest_nil (then_normal ?_)
  refine wp_seq (wp_seq ?_)
  refine sq_start (l := [0, 1, 2]) rfl ?_
  refine rest_set (d := 7) (v := .slice q.p q.n q.cp) (w' := u0) rfl rfl rfl (rfl) ?_
  simp only [Act.put, sa, sz, ss]
  refine rest_set (d := 8) (v := .int .i64 ((q.n : Nat) : Int)) (w' := u0) rfl rfl rfl (by go_simp) ?_
  simp only [Act.put, sa, sz, ss]
  refine rest_set (d := 9) (v := .bool true) (w' := u0) rfl rfl rfl (by go_simp <;> omega) ?_
  simp only [Act.put, sa, sz, ss]
  refine rest_nil (then_normal ?_)
  refine wp_cond_true rfl (wp_seq ?_)
  refine sq_start (l := [0, 1]) rfl ?_
  refine rest_set (d := 4) (v := .slice none 0 0) (w' := u0) rfl rfl rfl (rfl) ?_
  simp only [Act.put, sa, sz, ss]
  refine rest_set (d := 5) (v := .int .i64 3) (w' := u0) rfl rfl rfl (rfl) ?_
  simp only [Act.put, sa, sz, ss]
  refine rest_nil (then_normal (wp_ret ?_))
  repeat (first | refine then_ret ?_ | refine block_ret ?_)
  refine bodyPost_ret (v := .tuple #[.slice none 0 0, .int .i64 3]) (by simp [results, Try.results82, go_sem, *]) rfl ?_
  exact ⟨rfl, H1.out.2⟩
set_option maxHeartbeats 2000000 in
set_option maxRecDepth 100000 in
theorem frame_ok (g t : Nat) (q : Pt8) (hL : q.n ≤ 65536) (w : World) (hT0 : Tb g t w) (hq0 : Pok q ∧ q.rs w) (hqn0 : q.p = none → q.cp = 0) :
    Calls Try.prog 82 #[PT g t, .slice q.p q.n q.cp] w fun e w' => ∃ v, e = .returned (.tuple #[v, .int .i64 0]) ∧ Cw w v (8 + q.n + 4) (frm q.f q.n) w' := by
  have H0 : Hid (_ ∧ _) := ⟨Mm.nil w, Below.refl w.heap.size w⟩
  have hT : Hid _ := hT0
  have hq : Hid _ := hq0
  clear hT0 hq0
  have hqn : Hid _ := hqn0
  clear hqn0
  go_enter Try.func82, Try.ntmps82
  refine wp_seq ?_
  refine sq_startW (l := [0, 1]) rfl (fun u0 hu0 => ?_)
  have H1 : Hid (Mm u0 [] ∧ Below w.heap.size w u0) := by rw [hu0]; exact H0
  clear hu0 H0
  refine rest_set (d := 4) (v := .slice none 0 0) (w' := u0) rfl rfl rfl (rfl) ?_
  simp only [Act.put, sa, sz, ss]
  refine rest_set (d := 5) (v := .int .i64 0) (w' := u0) rfl rfl rfl (rfl) ?_
  simp only [Act.put, sa, sz, ss]
  refine rest_nil (then_normal ?_)
  refine wp_seq (wp_seq ?_)
  refine sq_start (l := [0, 1, 2]) rfl ?_
  refine rest_set (d := 7) (v := .slice q.p q.n q.cp) (w' := u0) rfl rfl rfl (rfl) ?_
  simp only [Act.put, sa, sz, ss]
  refine rest_set (d := 8) (v := .int .i64 ((q.n : Nat) : Int)) (w' := u0) rfl rfl rfl (by go_simp) ?_
  simp only [Act.put, sa, sz, ss]
  refine rest_set (d := 9) (v := .bool false) (w' := u0) rfl rfl rfl (by go_simp <;> omega) ?_
  simp only [Act.put, sa, sz, ss]
  refine rest_nil (then_normal ?_)
  refine wp_cond_false rfl (wp_skip ?_)
  refine then_normal (wp_seq ?_)
  refine sq_start (l := [0, 1, 2, 3, 4]) rfl ?_
  refine rest_set (d := 10) (v := .slice q.p q.n q.cp) (w' := u0) rfl rfl rfl (rfl) ?_
  simp only [Act.put, sa, sz, ss]
  refine rest_set (d := 11) (v := .int .i64 ((q.n : Nat) : Int)) (w' := u0) rfl rfl rfl (by go_simp) ?_
  simp only [Act.put, sa, sz, ss]
  refine rest_enter (d := 12) (R := fun vv w' => vv = .int .i64 ((8 + q.n + 4 : Nat) : Int) ∧ Below u0.heap.size u0 w') rfl rfl rfl (exec_call (args := #[.int .i64 ((q.n : Nat) : Int)]) rfl call110 rfl (mpn rfl)) (Calls.mono (framed_any q.n (by omega) u0) (fun e w2 hh => ⟨_, hh.1, rfl, hh.2⟩)) ?_
  rintro _ w2 ⟨rfl, hb⟩
  have H2 : Hid (Mm w2 [] ∧ Below w.heap.size w w2) := ⟨H1.out.1.below hb, H1.out.2.trans (hb.mono H1.out.2.size)⟩
  clear hb
  clear H1
  simp only [Act.put, sa, sz, ss]
  obtain ⟨w3, hmk, hcw, hb2⟩ := made_own H2.out.2 (8 + q.n + 4) (by omega)
  refine rest_set (d := 13) (v := .slice (some ⟨w2.heap.size, 0, none⟩) 0 (8 + q.n + 4)) (w' := w3) rfl rfl rfl (ex_mkS0 rfl rfl rfl hmk) ?_
  simp only [Act.put, sa, sz, ss]
  have H3 : Hid (Mm w3 [] ∧ Cw w (.slice (some ⟨w2.heap.size, 0, none⟩) 0 (8 + q.n + 4)) 0 (fun _ => 0) w3) := ⟨Mm.nil _, hcw⟩
  clear hmk hcw hb2 H2
  generalize w2.heap.size = γm at H3 ⊢
  refine rest_set (d := 6) (v := .slice (some ⟨γm, 0, none⟩) 0 (8 + q.n + 4)) (w' := w3) rfl rfl rfl (rfl) ?_
  simp only [Act.put, sa, sz, ss]
  refine rest_nil (then_normal (wp_seq ?_))
  refine sq_start (l := [0, 1, 2, 3, 4, 5]) rfl ?_
  refine rest_set (d := 14) (v := .slice (some ⟨γm, 0, none⟩) 0 (8 + q.n + 4)) (w' := w3) rfl rfl rfl (rfl) ?_
  simp only [Act.put, sa, sz, ss]
  refine rest_set (d := 15) (v := .slice q.p q.n q.cp) (w' := w3) rfl rfl rfl (rfl) ?_
  simp only [Act.put, sa, sz, ss]
  refine rest_set (d := 16) (v := .int .i64 ((q.n : Nat) : Int)) (w' := w3) rfl rfl rfl (by go_simp) ?_
  simp only [Act.put, sa, sz, ss]
  refine rest_set (d := 17) (v := W32 (c32 q.n)) (w' := w3) rfl rfl rfl (ex_cvIW (a := q.n) rfl rfl) ?_
  simp only [Act.put, sa, sz, ss]
  refine rest_enter (d := 18) (R := fun vv w' => Cw w vv (4) (by4 q.n) w') rfl rfl rfl (exec_call (args := #[.slice (some ⟨γm, 0, none⟩) 0 (8 + q.n + 4), W32 (c32 q.n)]) rfl call111 rfl (mpn rfl)) (Calls.mono (put4_cw (m := 4) (P2 := by4 q.n) H3.out.2 rfl (by omega) (fun j _ => by rw [ct_zero, c32_small (by omega)])) (fun e w2 hh => by obtain ⟨v', he, hO⟩ := hh; exact ⟨_, he, hO⟩)) ?_
  rintro vr1 w4 hO
  have H4 : Hid (Mm w4 [] ∧ Cw w vr1 4 (by4 q.n) w4) := ⟨Mm.nil _, hO⟩
  clear hO H3
  simp only [Act.put, sa, sz, ss]
  refine rest_set (d := 6) (v := vr1) (w' := w4) rfl rfl rfl (rfl) ?_
  simp only [Act.put, sa, sz, ss]
  refine rest_nil (then_normal (wp_seq ?_))
  refine sq_start (l := [0, 1, 2, 3, 4, 5]) rfl ?_
  refine rest_set (d := 19) (v := vr1) (w' := w4) rfl rfl rfl (rfl) ?_
  simp only [Act.put, sa, sz, ss]
  refine rest_set (d := 20) (v := PT g t) (w' := w4) rfl rfl rfl (rfl) ?_
  simp only [Act.put, sa, sz, ss]
  refine rest_set (d := 21) (v := vr1) (w' := w4) rfl rfl rfl (rfl) ?_
  simp only [Act.put, sa, sz, ss]
  refine rest_enter (d := 22) (R := fun vv w' => vv = W32 (crc (by4 q.n) 4) ∧ Below w4.heap.size w4 w') rfl rfl rfl (exec_call (args := #[PT g t, vr1]) rfl call86 rfl (mpn rfl)) (Calls.mono (check_cw H4.out.2 (by decide) (hT.out.below H4.out.2.b) rfl) (fun e w2 hh => ⟨_, hh.1, rfl, hh.2⟩)) ?_
  rintro _ w5 ⟨rfl, hb⟩
  have H5 : Hid (Mm w5 [] ∧ Cw w vr1 4 (by4 q.n) w5) := ⟨H4.out.1.below hb, Cw.step H4.out.2 (hb)⟩
  clear hb
  clear H4
  simp only [Act.put, sa, sz, ss]
  refine rest_enter (d := 23) (R := fun vv w' => Cw w vv (8) (hd8 q.n) w') rfl rfl rfl (exec_call (args := #[vr1, W32 (crc (by4 q.n) 4)]) rfl call111 rfl (mpn rfl)) (Calls.mono (put4_cw (m := 8) (P2 := hd8 q.n) H5.out.2 rfl (by omega) (fun j _ => rfl)) (fun e w2 hh => by obtain ⟨v', he, hO⟩ := hh; exact ⟨_, he, hO⟩)) ?_
  rintro vr2 w6 hO
  have H6 : Hid (Mm w6 [] ∧ Cw w vr2 8 (hd8 q.n) w6) := ⟨Mm.nil _, hO⟩
  clear hO H5
  simp only [Act.put, sa, sz, ss]
  refine rest_set (d := 6) (v := vr2) (w' := w6) rfl rfl rfl (rfl) ?_
  simp only [Act.put, sa, sz, ss]
  refine rest_nil (then_normal (wp_seq ?_))
  refine sq_start (l := [0, 1, 2, 3]) rfl ?_
  refine rest_set (d := 24) (v := vr2) (w' := w6) rfl rfl rfl (rfl) ?_
  simp only [Act.put, sa, sz, ss]
  refine rest_set (d := 25) (v := .slice q.p q.n q.cp) (w' := w6) rfl rfl rfl (rfl) ?_
  simp only [Act.put, sa, sz, ss]
  obtain ⟨vr, w7, hr, hO, hG, h5⟩ := own_appQ H6.out.2.own H6.out.2.size hq.out.1 hqn.out (hq.out.2.below H6.out.2.b) (show 8 + q.n ≤ 2097152 by omega) 34
  refine rest_set (d := 26) (v := vr) (w' := w7) rfl rfl rfl (ex_app rfl rfl rfl hr) ?_
  simp only [Act.put, sa, sz, ss]
  have H7 : Hid (Mm w7 [] ∧ Cw w vr (8 + q.n) (ct (hd8 q.n) 8 q.f) w7) := ⟨Mm.nil _, H6.out.2.on (Chg.grown hG) hO⟩
  clear hr hO hG h5 H6
  refine rest_set (d := 6) (v := vr) (w' := w7) rfl rfl rfl (rfl) ?_
  simp only [Act.put, sa, sz, ss]
  refine rest_nil (then_normal (wp_seq ?_))
  refine sq_start (l := [0, 1, 2, 3, 4, 5, 6]) rfl ?_
  refine rest_set (d := 27) (v := vr) (w' := w7) rfl rfl rfl (rfl) ?_
  simp only [Act.put, sa, sz, ss]
  refine rest_set (d := 28) (v := PT g t) (w' := w7) rfl rfl rfl (rfl) ?_
  simp only [Act.put, sa, sz, ss]
  refine rest_set (d := 29) (v := .slice q.p q.n q.cp) (w' := w7) rfl rfl rfl (rfl) ?_
  simp only [Act.put, sa, sz, ss]
  refine rest_enter (d := 30) (R := fun vv w' => vv = W32 (crc q.f q.n) ∧ Below w7.heap.size w7 w') rfl rfl rfl (exec_call (args := #[PT g t, .slice q.p q.n q.cp]) rfl call86 rfl (mpn rfl)) (Calls.mono (check_any g t q (by omega) w7 (hT.out.below H7.out.2.b) ⟨hq.out.1, hq.out.2.below H7.out.2.b⟩) (fun e w2 hh => ⟨_, hh.1, rfl, hh.2⟩)) ?_
  rintro _ w8 ⟨rfl, hb⟩
  have H8 : Hid (Mm w8 [] ∧ Cw w vr (8 + q.n) (ct (hd8 q.n) 8 q.f) w8) := ⟨H7.out.1.below hb, Cw.step H7.out.2 (hb)⟩
  clear hb
  clear H7
  simp only [Act.put, sa, sz, ss]
  refine rest_enter (d := 31) (R := fun vv w' => Cw w vv (8 + q.n + 4) (frm q.f q.n) w') rfl rfl rfl (exec_call (args := #[vr, W32 (crc q.f q.n)]) rfl call111 rfl (mpn rfl)) (Calls.mono (put4_cw (m := 8 + q.n + 4) (P2 := frm q.f q.n) H8.out.2 rfl (by omega) (fun j _ => rfl)) (fun e w2 hh => by obtain ⟨v', he, hO⟩ := hh; exact ⟨_, he, hO⟩)) ?_
  rintro vr3 w9 hO
  have H9 : Hid (Mm w9 [] ∧ Cw w vr3 (8 + q.n + 4) (frm q.f q.n) w9) := ⟨Mm.nil _, hO⟩
  clear hO H8
  simp only [Act.put, sa, sz, ss]
  refine rest_set (d := 4) (v := vr3) (w' := w9) rfl rfl rfl (rfl) ?_
  simp only [Act.put, sa, sz, ss]
  refine rest_set (d := 5) (v := .int .i64 0) (w' := w9) rfl rfl rfl (rfl) ?_
  simp only [Act.put, sa, sz, ss]
  refine rest_nil (then_normal (wp_ret ?_))
  repeat (first | refine then_ret ?_ | refine block_ret ?_)
  refine bodyPost_ret (v := .tuple #[vr3, .int .i64 0]) (by simp [results, Try.results82, go_sem, *]) rfl ?_
  exact ⟨_, rfl, H9.out.2⟩
set_option maxHeartbeats 2000000 in
set_option maxRecDepth 100000 in
theorem Check_any (q : Pt8) (hn : q.n < 4611686018427387904) (w : World) (hq0 : Pok q ∧ q.rs w) :
    Calls Try.prog 37 #[.slice q.p q.n q.cp] w fun e w' => e = .returned (W32 (crc q.f q.n)) ∧ Below w.heap.size w w' := by
  have H0 : Hid (_ ∧ _) := ⟨Mm.nil w, Below.refl w.heap.size w⟩
  have hq : Hid _ := hq0
  clear hq0
  go_enter Try.func37, Try.ntmps37
  refine wp_seq ?_
  refine sq_startW (l := [0]) rfl (fun u0 hu0 => ?_)
  have H1 : Hid (Mm u0 [] ∧ Below w.heap.size w u0) := by rw [hu0]; exact H0
  clear hu0 H0
  refine rest_set (d := 2) (v := .int .u32 0) (w' := u0) rfl rfl rfl (rfl) ?_
  simp only [Act.put, sa, sz, ss]
  refine rest_nil (then_normal (wp_seq ?_))
  refine sq_start (l := [0, 1, 2]) rfl ?_
  refine rest_enter (d := 4) (R := fun vv w' => vv = .agg (ints .u32 crt 256).toArray ∧ Below u0.heap.size u0 w') rfl rfl rfl (exec_call (args := #[]) rfl call81 rfl (mpn rfl)) (Calls.mono (newTable_any u0) (fun e w2 hh => ⟨_, hh.1, rfl, hh.2⟩)) ?_
  rintro _ w2 ⟨rfl, hb⟩
  have H2 : Hid (Mm w2 [] ∧ Below w.heap.size w w2) := ⟨H1.out.1.below hb, H1.out.2.trans (hb.mono H1.out.2.size)⟩
  clear hb
  clear H1
  simp only [Act.put, sa, sz, ss]
  refine rest_set (d := 3) (v := PT w2.heap.size 0) (w' := (w2.alloc (.cells (ints .u32 (fun _ => 0) 256 : List Value).toArray 88))) rfl rfl rfl (ex_mkT rfl) ?_
  simp only [Act.put, sa, sz, ss]
  have o_γs3 : Hid (w.heap.size ≤ w2.heap.size) := H2.out.2.size
  have H3 : Hid (Mm (w2.alloc (.cells (ints .u32 (fun _ => 0) 256 : List Value).toArray 88)) ((w2.heap.size, ints .u32 (fun _ => 0) 256) :: []) ∧ Below w.heap.size w (w2.alloc (.cells (ints .u32 (fun _ => 0) 256 : List Value).toArray 88))) := ⟨H2.out.1.alloc _ 88 rfl, H2.out.2.trans (((Below.refl _ _).alloc (Nat.le_refl _) _).mono H2.out.2.size)⟩
  clear H2
  generalize hgw : w2.alloc (.cells (ints .u32 (fun _ => 0) 256 : List Value).toArray 88) = w3 at H3 ⊢
  clear hgw
  generalize w2.heap.size = γs3 at o_γs3 H3 ⊢
  refine rest_store rfl rfl rfl (ex_storeT (vs := ints .u32 crt 256) H3.out.1 0 rfl rfl rfl rfl (by rw [ints_len]; exact Try.sizeOf88) (ints_all _ _ _) (by rw [ints_len, ints_len]; omega)) ?_
  have H4 : Hid (Mm (w3.setCells γs3 0 (ints .u32 crt 256)) [(γs3, ints .u32 crt 256)] ∧ Below w.heap.size w (w3.setCells γs3 0 (ints .u32 crt 256))) := ⟨by
    have h := H3.out.1.put 0 (off := 0) (vs := ints .u32 crt 256) rfl (by rw [ints_len, ints_len]; omega)
    rw [ints_patch0] at h
    exact h, below_setCells _ o_γs3.out _ _ _ H3.out.2⟩
  clear H3
  generalize hgw : World.setCells _ _ _ _ = w4 at H4 ⊢
  clear hgw
  refine rest_nil (then_normal (wp_seq ?_))
  refine sq_start (l := [0, 1, 2]) rfl ?_
  refine rest_set (d := 5) (v := .slice q.p q.n q.cp) (w' := w4) rfl rfl rfl (rfl) ?_
  simp only [Act.put, sa, sz, ss]
  refine rest_enter (d := 6) (R := fun vv w' => vv = W32 (crc q.f q.n) ∧ Below w4.heap.size w4 w') rfl rfl rfl (exec_call (args := #[PT γs3 0, .slice q.p q.n q.cp]) rfl call86 rfl (mpn rfl)) (Calls.mono (check_any γs3 0 q hn w4 (Tb.mm (H4.out.1.one 0 rfl)) ⟨hq.out.1, hq.out.2.below H4.out.2⟩) (fun e w2 hh => ⟨_, hh.1, rfl, hh.2⟩)) ?_
  rintro _ w5 ⟨rfl, hb⟩
  have H5 : Hid (Mm w5 [(γs3, ints .u32 crt 256)] ∧ Below w.heap.size w w5) := ⟨H4.out.1.below hb, H4.out.2.trans (hb.mono H4.out.2.size)⟩
  clear hb
  clear H4
  simp only [Act.put, sa, sz, ss]
  refine rest_set (d := 2) (v := W32 (crc q.f q.n)) (w' := w5) rfl rfl rfl (rfl) ?_
  simp only [Act.put, sa, sz, ss]
  refine rest_nil (then_normal (wp_ret ?_))
  repeat (first | refine then_ret ?_ | refine block_ret ?_)
  refine bodyPost_ret (v := W32 (crc q.f q.n)) (by simp [results, Try.results37, go_sem, *]) rfl ?_
  exact ⟨rfl, H5.out.2⟩
set_option maxHeartbeats 2000000 in
set_option maxRecDepth 100000 in
theorem Frame_long (q : Pt8) (hL : 65536 < q.n) (w : World) :
    Calls Try.prog 33 #[.slice q.p q.n q.cp] w fun e w' => e = .returned (.tuple #[.slice none 0 0, .int .i64 3]) ∧ Below w.heap.size w w' := by
  have H0 : Hid (_ ∧ _) := ⟨Mm.nil w, Below.refl w.heap.size w⟩
  go_enter Try.func33, Try.ntmps33
  refine wp_seq ?_
  refine sq_startW (l := [0, 1]) rfl (fun u0 hu0 => ?_)
  have H1 : Hid (Mm u0 [] ∧ Below w.heap.size w u0) := by rw [hu0]; exact H0
  clear hu0 H0
  refine rest_set (d := 2) (v := .slice none 0 0) (w' := u0) rfl rfl rfl (rfl) ?_
  simp only [Act.put, sa, sz, ss]
  refine rest_set (d := 3) (v := .int .i64 0) (w' := u0) rfl rfl rfl (rfl) ?_
  simp only [Act.put, sa, sz, ss]
  refine rest_nil (then_normal (wp_seq ?_))
  refine sq_start (l := [0, 1, 2]) rfl ?_
  refine rest_enter (d := 5) (R := fun vv w' => vv = .agg (ints .u32 crt 256).toArray ∧ Below u0.heap.size u0 w') rfl rfl rfl (exec_call (args := #[]) rfl call81 rfl (mpn rfl)) (Calls.mono (newTable_any u0) (fun e w2 hh => ⟨_, hh.1, rfl, hh.2⟩)) ?_
  rintro _ w2 ⟨rfl, hb⟩
  have H2 : Hid (Mm w2 [] ∧ Below w.heap.size w w2) := ⟨H1.out.1.below hb, H1.out.2.trans (hb.mono H1.out.2.size)⟩
  clear hb
  clear H1
  simp only [Act.put, sa, sz, ss]
  refine rest_set (d := 4) (v := PT w2.heap.size 0) (w' := (w2.alloc (.cells (ints .u32 (fun _ => 0) 256 : List Value).toArray 88))) rfl rfl rfl (ex_mkT rfl) ?_
  simp only [Act.put, sa, sz, ss]
  have o_γs3 : Hid (w.heap.size ≤ w2.heap.size) := H2.out.2.size
  have H3 : Hid (Mm (w2.alloc (.cells (ints .u32 (fun _ => 0) 256 : List Value).toArray 88)) ((w2.heap.size, ints .u32 (fun _ => 0) 256) :: []) ∧ Below w.heap.size w (w2.alloc (.cells (ints .u32 (fun _ => 0) 256 : List Value).toArray 88))) := ⟨H2.out.1.alloc _ 88 rfl, H2.out.2.trans (((Below.refl _ _).alloc (Nat.le_refl _) _).mono H2.out.2.size)⟩
  clear H2
  generalize hgw : w2.alloc (.cells (ints .u32 (fun _ => 0) 256 : List Value).toArray 88) = w3 at H3 ⊢
  clear hgw
  generalize w2.heap.size = γs3 at o_γs3 H3 ⊢
  refine rest_store rfl rfl rfl (ex_storeT (vs := ints .u32 crt 256) H3.out.1 0 rfl rfl rfl rfl (by rw [ints_len]; exact Try.sizeOf88) (ints_all _ _ _) (by rw [ints_len, ints_len]; omega)) ?_
  have H4 : Hid (Mm (w3.setCells γs3 0 (ints .u32 crt 256)) [(γs3, ints .u32 crt 256)] ∧ Below w.heap.size w (w3.setCells γs3 0 (ints .u32 crt 256))) := ⟨by
    have h := H3.out.1.put 0 (off := 0) (vs := ints .u32 crt 256) rfl (by rw [ints_len, ints_len]; omega)
    rw [ints_patch0] at h
    exact h, below_setCells _ o_γs3.out _ _ _ H3.out.2⟩
  clear H3
  generalize hgw : World.setCells _ _ _ _ = w4 at H4 ⊢
  clear hgw
  refine rest_nil (then_normal (wp_seq ?_))
  refine sq_start (l := [0, 1, 2, 3, 4, 5]) rfl ?_
  refine rest_set (d := 6) (v := .slice q.p q.n q.cp) (w' := w4) rfl rfl rfl (rfl) ?_
  simp only [Act.put, sa, sz, ss]
  refine rest_enter (d := 7) (R := fun vv w' => vv = .tuple #[.slice none 0 0, .int .i64 3] ∧ Below w4.heap.size w4 w') rfl rfl rfl (exec_call (args := #[PT γs3 0, .slice q.p q.n q.cp]) rfl call82 rfl (mpn rfl)) (Calls.mono (frame_long γs3 0 q hL w4) (fun e w2 hh => ⟨_, hh.1, rfl, hh.2⟩)) ?_
  rintro _ w5 ⟨rfl, hb⟩
  have H5 : Hid (Mm w5 [(γs3, ints .u32 crt 256)] ∧ Below w.heap.size w w5) := ⟨H4.out.1.below hb, H4.out.2.trans (hb.mono H4.out.2.size)⟩
  clear hb
  clear H4
  simp only [Act.put, sa, sz, ss]
  refine rest_set (d := 8) (v := .slice none 0 0) (w' := w5) rfl rfl rfl (by go_simp) ?_
  simp only [Act.put, sa, sz, ss]
  refine rest_set (d := 9) (v := .int .i64 3) (w' := w5) rfl rfl rfl (by go_simp) ?_
  simp only [Act.put, sa, sz, ss]
  refine rest_set (d := 2) (v := .slice none 0 0) (w' := w5) rfl rfl rfl (rfl) ?_
  simp only [Act.put, sa, sz, ss]
  refine rest_set (d := 3) (v := .int .i64 3) (w' := w5) rfl rfl rfl (rfl) ?_
  simp only [Act.put, sa, sz, ss]
  refine rest_nil (then_normal (wp_ret ?_))
  repeat (first | refine then_ret ?_ | refine block_ret ?_)
  refine bodyPost_ret (v := .tuple #[.slice none 0 0, .int .i64 3]) (by simp [results, Try.results33, go_sem, *]) rfl ?_
  exact ⟨rfl, H5.out.2⟩
set_option maxHeartbeats 2000000 in
set_option maxRecDepth 100000 in
theorem Frame_ok (q : Pt8) (hL : q.n ≤ 65536) (w : World) (hq0 : Pok q ∧ q.rs w) (hqn0 : q.p = none → q.cp = 0) :
    Calls Try.prog 33 #[.slice q.p q.n q.cp] w fun e w' => ∃ v, e = .returned (.tuple #[v, .int .i64 0]) ∧ Cw w v (8 + q.n + 4) (frm q.f q.n) w' := by
  have H0 : Hid (_ ∧ _) := ⟨Mm.nil w, Below.refl w.heap.size w⟩
  have hq : Hid _ := hq0
  clear hq0
  have hqn : Hid _ := hqn0
  clear hqn0
  go_enter Try.func33, Try.ntmps33
  refine wp_seq ?_
  refine sq_startW (l := [0, 1]) rfl (fun u0 hu0 => ?_)
  have H1 : Hid (Mm u0 [] ∧ Below w.heap.size w u0) := by rw [hu0]; exact H0
  clear hu0 H0
  refine rest_set (d := 2) (v := .slice none 0 0) (w' := u0) rfl rfl rfl (rfl) ?_
  simp only [Act.put, sa, sz, ss]
  refine rest_set (d := 3) (v := .int .i64 0) (w' := u0) rfl rfl rfl (rfl) ?_
  simp only [Act.put, sa, sz, ss]
  refine rest_nil (then_normal (wp_seq ?_))
  refine sq_start (l := [0, 1, 2]) rfl ?_
  refine rest_enter (d := 5) (R := fun vv w' => vv = .agg (ints .u32 crt 256).toArray ∧ Below u0.heap.size u0 w') rfl rfl rfl (exec_call (args := #[]) rfl call81 rfl (mpn rfl)) (Calls.mono (newTable_any u0) (fun e w2 hh => ⟨_, hh.1, rfl, hh.2⟩)) ?_
  rintro _ w2 ⟨rfl, hb⟩
  have H2 : Hid (Mm w2 [] ∧ Below w.heap.size w w2) := ⟨H1.out.1.below hb, H1.out.2.trans (hb.mono H1.out.2.size)⟩
  clear hb
  clear H1
  simp only [Act.put, sa, sz, ss]
  refine rest_set (d := 4) (v := PT w2.heap.size 0) (w' := (w2.alloc (.cells (ints .u32 (fun _ => 0) 256 : List Value).toArray 88))) rfl rfl rfl (ex_mkT rfl) ?_
  simp only [Act.put, sa, sz, ss]
  have o_γs3 : Hid (w.heap.size ≤ w2.heap.size) := H2.out.2.size
  have H3 : Hid (Mm (w2.alloc (.cells (ints .u32 (fun _ => 0) 256 : List Value).toArray 88)) ((w2.heap.size, ints .u32 (fun _ => 0) 256) :: []) ∧ Below w.heap.size w (w2.alloc (.cells (ints .u32 (fun _ => 0) 256 : List Value).toArray 88))) := ⟨H2.out.1.alloc _ 88 rfl, H2.out.2.trans (((Below.refl _ _).alloc (Nat.le_refl _) _).mono H2.out.2.size)⟩
  clear H2
  generalize hgw : w2.alloc (.cells (ints .u32 (fun _ => 0) 256 : List Value).toArray 88) = w3 at H3 ⊢
  clear hgw
  generalize w2.heap.size = γs3 at o_γs3 H3 ⊢
  refine rest_store rfl rfl rfl (ex_storeT (vs := ints .u32 crt 256) H3.out.1 0 rfl rfl rfl rfl (by rw [ints_len]; exact Try.sizeOf88) (ints_all _ _ _) (by rw [ints_len, ints_len]; omega)) ?_
  have H4 : Hid (Mm (w3.setCells γs3 0 (ints .u32 crt 256)) [(γs3, ints .u32 crt 256)] ∧ Below w.heap.size w (w3.setCells γs3 0 (ints .u32 crt 256))) := ⟨by
    have h := H3.out.1.put 0 (off := 0) (vs := ints .u32 crt 256) rfl (by rw [ints_len, ints_len]; omega)
    rw [ints_patch0] at h
    exact h, below_setCells _ o_γs3.out _ _ _ H3.out.2⟩
  clear H3
  generalize hgw : World.setCells _ _ _ _ = w4 at H4 ⊢
  clear hgw
  refine rest_nil (then_normal (wp_seq ?_))
  refine sq_start (l := [0, 1, 2, 3, 4, 5]) rfl ?_
  refine rest_set (d := 6) (v := .slice q.p q.n q.cp) (w' := w4) rfl rfl rfl (rfl) ?_
  simp only [Act.put, sa, sz, ss]
  refine rest_enter (d := 7) (R := fun vv w' => ∃ v, vv = .tuple #[v, .int .i64 0] ∧ Cw w4 v (8 + q.n + 4) (frm q.f q.n) w') rfl rfl rfl (exec_call (args := #[PT γs3 0, .slice q.p q.n q.cp]) rfl call82 rfl (mpn rfl)) (Calls.mono (frame_ok γs3 0 q hL w4 (Tb.mm (H4.out.1.one 0 rfl)) ⟨hq.out.1, hq.out.2.below H4.out.2⟩ hqn.out) (fun e w2 hh => by obtain ⟨v', he, hO⟩ := hh; exact ⟨_, he, _, rfl, hO⟩)) ?_
  rintro _ w5 ⟨vr, rfl, hO⟩
  have hcw : Hid _ := Cw.up H4.out.2 hO
  have H5 : Hid (Mm w5 [] ∧ Below w.heap.size w w5) := ⟨Mm.nil _, hcw.out.b⟩
  clear hO H4
  simp only [Act.put, sa, sz, ss]
  refine rest_set (d := 8) (v := vr) (w' := w5) rfl rfl rfl (by go_simp) ?_
  simp only [Act.put, sa, sz, ss]
  refine rest_set (d := 9) (v := .int .i64 0) (w' := w5) rfl rfl rfl (by go_simp) ?_
  simp only [Act.put, sa, sz, ss]
  refine rest_set (d := 2) (v := vr) (w' := w5) rfl rfl rfl (rfl) ?_
  simp only [Act.put, sa, sz, ss]
  refine rest_set (d := 3) (v := .int .i64 0) (w' := w5) rfl rfl rfl (rfl) ?_
  simp only [Act.put, sa, sz, ss]
  refine rest_nil (then_normal (wp_ret ?_))
  repeat (first | refine then_ret ?_ | refine block_ret ?_)
  refine bodyPost_ret (v := .tuple #[vr, .int .i64 0]) (by simp [results, Try.results33, go_sem, *]) rfl ?_
  exact ⟨_, rfl, hcw.out⟩
end Wi
end Rg
end Go.Proofs.Ytidicdlfjdlpnaa
end
section
namespace Go.Proofs.Ytidicdlfjdlpnaa
open Go.RowKit
namespace Rg
namespace Wi
theorem call112 : ∀ args w, (callFunc 112 args).run Try.prog w = .ok (.enter 112 args) w := by intro args w; go_simp
theorem call114 : ∀ args w, (callFunc 114 args).run Try.prog w = .ok (.enter 114 args) w := by intro args w; go_simp
set_option maxRecDepth 100000
theorem block_past {Q : Exit → Act → World → Prop} {a : Act} {w : World} {id j : Nat} (hj : j ≠ id) (h : Q (.exit j) a w) : Exit.inBlock id Q (.exit j) a w := by simp only [Exit.inBlock, if_neg hj]; exact h
/-- Parts as a list's cells. -/
def pcs (P : Nat → Pt8) (m : Nat) : List Value := (List.range m).map fun i => .slice (P i).p (P i).n (P i).cp
def upP (P : Nat → Pt8) (k : Nat) (q : Pt8) : Nat → Pt8 := fun i => if i = k then q else P i
theorem pcs_get (P : Nat → Pt8) {m i : Nat} (h : i < m) : (pcs P m)[i]? = some (.slice (P i).p (P i).n (P i).cp) := by
  unfold pcs
  rw [List.getElem?_map, List.getElem?_eq_getElem (by simpa using h), List.getElem_range]
  rfl
theorem pcs_snoc (P : Nat → Pt8) (m : Nat) (q : Pt8) : pcs P m ++ [.slice q.p q.n q.cp] = pcs (upP P m q) (m + 1) := by
  unfold pcs
  rw [List.range_succ, List.map_append]
  congr 1
  · exact List.map_congr_left fun i hi => by
      have h : i ≠ m := by have : i < m := (by simpa using hi); omega
      unfold upP
      rw [if_neg h]
  · simp [upP]
theorem info_sl : ∃ i, Try.prog.info? 34 = some i ∧ i.zero = some (.slice none 0 0) ∧ i.size = 1 ∧ i.bytes = 24 := by
  obtain ⟨i, hi⟩ : ∃ i, Try.prog.info? 34 = some i := by
    have h : (Try.prog.info? 34).isSome = true := by kernel_rfl
    rcases e : Try.prog.info? 34 with _ | i
    · rw [e] at h; cases h
    · exact ⟨i, rfl⟩
  have h1 : (Try.prog.info? 34).map (·.zero) = some (some (.slice none 0 0)) := by kernel_rfl
  have h2 : (Try.prog.info? 34).map (·.size) = some 1 := by kernel_rfl
  have h3 : (Try.prog.info? 34).map (·.bytes) = some 24 := by kernel_rfl
  rw [hi] at h1 h2 h3
  exact ⟨i, hi, Option.some.inj h1, Option.some.inj h2, Option.some.inj h3⟩
/-- A list of the call's own, of parts of the call's own. -/
structure Lr (w : World) (vv : Value) (m : Nat) (P : Nat → Pt8) (w' : World) : Prop where
  b : Below w.heap.size w w'
  own : w'.ownsRow w.heap.size 34 1 vv m (pcs P m)
  ok : ∀ i, i < m → Pok (P i) ∧ ((P i).p = none → (P i).cp = 0) ∧ (P i).rs w' ∧ (0 < (P i).n → w.heap.size ≤ (P i).gb ∧ (P i).gb ∉ vbl vv)
theorem Rs.keep {gb o n : Nat} {f : Nat → Nat} {w w' : World} (h : Rs gb o n f w) (hs : w.heap.size ≤ w'.heap.size) (hb : 0 < n → w'.heap[gb]? = w.heap[gb]?) : Rs gb o n f w' :=
  ⟨fun h0 => Nat.lt_of_lt_of_le (h.lt h0) hs, fun i hi => (World.cell?_of_block (a := ⟨gb, o + i, none⟩) (hb (Nat.lt_of_le_of_lt (Nat.zero_le i) hi))).trans (h.at_ i hi)⟩
section
variable {w u u' : World} {vv : Value} {m : Nat} {P : Nat → Pt8}
theorem Lr.start (P : Nat → Pt8) (h : Below w.heap.size w u) : Lr w (.slice none 0 0) 0 P u := ⟨h, World.ownsRow_nil _ _ _ _, fun _ hi => absurd hi (Nat.not_lt_zero _)⟩
theorem Lr.step (h : Lr w vv m P u) (hb : Below u.heap.size u u') : Lr w vv m P u' :=
  ⟨h.b.trans (hb.mono h.b.size), own_keep h.own (fun x hx => hb.block x (own_lt h.own x hx)), fun i hi => ⟨(h.ok i hi).1, (h.ok i hi).2.1, (h.ok i hi).2.2.1.below hb, (h.ok i hi).2.2.2⟩⟩
theorem Lr.app (h : Lr w vv m P u) (hm : m ≤ 1000000) {q : Pt8} (hq : Pok q ∧ (q.p = none → q.cp = 0) ∧ q.rs u ∧ (0 < q.n → w.heap.size ≤ q.gb ∧ q.gb ∉ vbl vv)) {gs : Nat} (hs : u.cell? ⟨gs, 0, none⟩ = some (.slice q.p q.n q.cp)) (ty : TypeId) :
    ∃ v' u2, (Builtin.append_ #[61, 61] ty #[vv, .slice (some ⟨gs, 0, none⟩) 1 1]).run Try.prog u = .ok v' u2 ∧ Lr w v' (m + 1) (upP P m q) u2 := by
  obtain ⟨i0, hi, hz0, hz1, hz2⟩ := info_sl
  obtain ⟨v', w2, r1, r2, r3, _, r5⟩ := run_append_own_at (P := Try.prog) u w.heap.size 61 ty 34 i0 (.slice none 0 0) 1 24 Try.underlying61 hi hz0 hz1 hz2 rfl (by decide) vv m _ h.own ⟨gs, 0, none⟩ 1 1 [.slice q.p q.n q.cp] rfl
    (fun j v hj => by
      rcases j with _ | j
      · rw [show (⟨gs, 0, none⟩ : Addr).add 0 = ⟨gs, 0, none⟩ by unfold Addr.add; split <;> simp_all, hs]; exact hj
      · cases hj) (fun v hv => by rw [List.mem_singleton.1 hv]; rfl) (by unfold maxLen; omega) (by omega) h.b.size
  rw [pcs_snoc] at r2
  have hc := Chg.grown r3
  have key : ∀ p : Pt8, p.rs u → (0 < p.n → w.heap.size ≤ p.gb ∧ p.gb ∉ vbl vv) → p.rs w2 ∧ (0 < p.n → w.heap.size ≤ p.gb ∧ p.gb ∉ vbl v') := fun p h1 h2 => ⟨h1.keep hc.size (fun h0 => hc.block _ (h1.lt h0) (h2 h0).2), fun h0 => ⟨(h2 h0).1, fun hx => by
    unfold vbl at hx
    rcases r5 with e | e
    · rw [e] at hx; exact (h2 h0).2 hx
    · rw [e] at hx
      have : p.gb = u.heap.size := by simpa using hx
      have := h1.lt h0
      omega⟩⟩
  refine ⟨v', w2, r1, h.b.trans (hc.toBelow (fun x hx => ?_) h.b.size), r2, fun i hi => ?_⟩
  · unfold vbl at hx
    cases hv : vv.ownBlock with
    | none => rw [hv] at hx; simp at hx
    | some k => rw [hv] at hx; simp at hx; subst hx; exact (World.ownsRow.lt h.own _ hv).1
  · unfold upP
    by_cases e : i = m
    · rw [if_pos e]
      exact ⟨hq.1, hq.2.1, key q hq.2.2.1 hq.2.2.2⟩
    · rw [if_neg e]
      have h3 := h.ok i (by omega)
      exact ⟨h3.1, h3.2.1, key _ h3.2.2.1 h3.2.2.2⟩
end
theorem ex_appL {ρ : Operand → Value} {o : Oper} {x y : Operand} {w w2 : World} {vv sv v' : Value} (ho : o.op = .call { callee := .builtin .append, args := #[x, y], argTypes := #[61, 61] }) (hx : ρ x = vv) (hy : ρ y = sv) (hr : (Builtin.append_ #[61, 61] o.type #[vv, sv]).run Try.prog w = .ok v' w2) : (execOp ρ o).run Try.prog w = .ok (.value v') w2 := by
  unfold execOp
  simp only [ho, resolve, invoke, builtin, Sem.run_bind, Sem.run_pure, Result.andThen_ok, List.map_toArray, List.map_cons, List.map_nil, hx, hy, hr]
theorem ex_bs61_1 {ρ : Operand → Value} {o : Oper} {x : Operand} {p : Option Addr} {n c : Nat} {w : World} (ho : o.op = .buildSlice 61 1 #[(0, x)]) (hx : ρ x = .slice p n c) : (execOp ρ o).run Try.prog w = .ok (.value (.slice (some ⟨w.heap.size, 0, none⟩) 1 1)) (w.alloc (.cells ([.slice p n c] : List Value).toArray 34)) := by
  simp only [execOp, ho, List.map_toArray, List.map_cons, List.map_nil, hx]
  kernel_rfl
/-- Bytes from a place on; a frame's head that is whole; a record that is whole. -/
def sh (f : Nat → Nat) (a : Nat) : Nat → Nat := fun j => f (a + j)
structure Hdk (f : Nat → Nat) (L : Nat) : Prop where
  nb : nb4 (f 0) (f 1) (f 2) (f 3) = L
  le : L ≤ 65536
  ck : crc f 4 = nb4 (f 4) (f 5) (f 6) (f 7)
def Bdk (f : Nat → Nat) (L : Nat) : Prop := crc (sh f 8) L = nb4 (f (8 + L)) (f (8 + L + 1)) (f (8 + L + 2)) (f (8 + L + 3))
def Hdb (f : Nat → Nat) : Prop := 65536 < nb4 (f 0) (f 1) (f 2) (f 3) ∨ crc f 4 ≠ nb4 (f 4) (f 5) (f 6) (f 7)
/-- So many whole frames stand at the front of a log's bytes. -/
structure Lgk (f : Nat → Nat) (n : Nat) (A Ln : Nat → Nat) (M : Nat) : Prop where
  z : A 0 = 0
  s : ∀ i, i < M → A (i + 1) = A i + (12 + Ln i)
  le : A M ≤ n
  hd : ∀ i, i < M → Hdk (sh f (A i)) (Ln i)
  bd : ∀ i, i < M → Bdk (sh f (A i)) (Ln i)
theorem Lgk.mono {f : Nat → Nat} {n : Nat} {A Ln : Nat → Nat} {M : Nat} (h : Lgk f n A Ln M) : ∀ (k i : Nat), i + k = M → A i + 12 * k ≤ A M
  | 0, i, e => by rw [show i = M by omega]; omega
  | k + 1, i, e => by
    have h1 := h.mono k (i + 1) (by omega)
    have h2 := h.s i (by omega)
    omega
theorem Lgk.at_le {f : Nat → Nat} {n : Nat} {A Ln : Nat → Nat} {M : Nat} (h : Lgk f n A Ln M) {i : Nat} (hi : i ≤ M) : A i ≤ n ∧ M - i ≤ n := by
  have := h.mono (M - i) i (by omega)
  have := h.le
  omega
theorem Lgk.nx_le {f : Nat → Nat} {n : Nat} {A Ln : Nat → Nat} {M : Nat} (h : Lgk f n A Ln M) {i : Nat} (hi : i < M) : A i + (12 + Ln i) ≤ n := by
  have h1 := (h.at_le (i := i + 1) hi).1
  rw [h.s i hi] at h1
  exact h1
/-- Where the reading is: how many were read, what is left, the list. -/
structure Gr where
  i : Nat
  r : Pt8
  v : Value
  P : Nat → Pt8
structure Rk (q : Pt8) (A Ln : Nat → Nat) (M : Nat) (w : World) (x : Gr) : Prop where
  le : x.i ≤ M
  ok : Pok x.r ∧ x.r.rs w
  no : x.r.p = none → x.r.cp = 0
  n : x.r.n + A x.i = q.n
  f : x.r.f = sh q.f (A x.i)
  ps : ∀ i, i < x.i → (x.P i).n = Ln i ∧ ∀ j, j < Ln i → (x.P i).f j = q.f (A i + 8 + j)
theorem length_hd (g t : Nat) (q : Pt8) (L : Nat) (h8 : 8 ≤ q.n) (h : Hdk q.f L) (w : World) (hT : Tb g t w) (hq : Pok q ∧ q.rs w) : Calls Try.prog 112 #[PT g t, .slice q.p q.n q.cp] w fun e w' => e = .returned (.tuple #[.int .i64 ((L : Nat) : Int), .int .i64 0]) ∧ Below w.heap.size w w' := by
  obtain ⟨h1, h2, h3⟩ := h
  subst h1
  exact length_ok g t q h8 (by show ¬65536 < nb4 _ _ _ _; omega) (decide_eq_true h3) w hT hq
theorem length_no (g t : Nat) (q : Pt8) (h8 : 8 ≤ q.n) (h : Hdb q.f) (w : World) (hT : Tb g t w) (hq : Pok q ∧ q.rs w) : Calls Try.prog 112 #[PT g t, .slice q.p q.n q.cp] w fun e w' => e = .returned (.tuple #[.int .i64 0, .int .i64 14]) ∧ Below w.heap.size w w' := by
  by_cases hb : 65536 < q.nb
  · exact length_big g t q h8 hb w hT hq
  · refine length_bad g t q h8 hb (decide_eq_false ?_) w hT hq
    rcases h with h | h
    · exact absurd h hb
    · exact h
theorem holds_bd (g t : Nat) (q : Pt8) (L : Nat) (hL : L ≤ 65536) (hn : 8 + L + 4 ≤ q.n) (c : Bool) (hc : decide (crc (sh q.f 8) L = nb4 (q.f (8 + L)) (q.f (8 + L + 1)) (q.f (8 + L + 2)) (q.f (8 + L + 3))) = c) (w : World) (hT : Tb g t w) (hq : Pok q ∧ q.rs w) : Calls Try.prog 113 #[PT g t, .slice ((q.tk (8 + L)).dp 8).p ((q.tk (8 + L)).dp 8).n ((q.tk (8 + L)).dp 8).cp, .slice (q.dp (8 + L)).p (q.dp (8 + L)).n (q.dp (8 + L)).cp] w fun e w' => e = .returned (.bool c) ∧ Below w.heap.size w w' := by
  refine holds_is g t ((q.tk (8 + L)).dp 8) (q.dp (8 + L)) c (by show 8 + L - 8 < _; omega) (by show 4 ≤ q.n - (8 + L); omega) ?_ w hT ⟨(hq.1.tk (by omega)).dp (by show 8 ≤ 8 + L; omega), Pt8.rs_dp (Pt8.rs_tk hq.2 (by omega)) (by show 8 ≤ 8 + L; omega)⟩ ⟨hq.1.dp (by omega), Pt8.rs_dp hq.2 (by omega)⟩
  rw [← hc]
  show decide (crc (fun j => q.f (8 + j)) (8 + L - 8) = nb4 (q.f (8 + L + 0)) (q.f (8 + L + 1)) (q.f (8 + L + 2)) (q.f (8 + L + 3))) = _
  rw [Nat.add_sub_cancel_left]
  rfl
theorem Rk.next {q : Pt8} {A Ln : Nat → Nat} {M : Nat} {w : World} {x : Gr} (h : Rk q A Ln M w x) (hg : Lgk q.f q.n A Ln M) (hlt : x.i < M) {q2 : Pt8} {v : Value} (hn : q2.n = ((x.r.tk (8 + Ln x.i)).dp 8).n) (hf : q2.f = ((x.r.tk (8 + Ln x.i)).dp 8).f) : Rk q A Ln M w ⟨x.i + 1, x.r.dp (8 + Ln x.i + 4), v, upP x.P x.i q2⟩ := by
  have h1 := h.n
  have h2 := hg.nx_le hlt
  have h3 := hg.s x.i hlt
  have h4 := h.ok.1.le
  refine ⟨hlt, ⟨h.ok.1.dp (by omega), Pt8.rs_dp h.ok.2 (by omega)⟩, Pt8.dp_no h.no _, ?_, ?_, fun i hi => ?_⟩
  · show x.r.n - (8 + Ln x.i + 4) + A (x.i + 1) = q.n
    omega
  · show (fun j => x.r.f (8 + Ln x.i + 4 + j)) = sh q.f (A (x.i + 1))
    funext j
    rw [h.f]
    show q.f (A x.i + (8 + Ln x.i + 4 + j)) = q.f (A (x.i + 1) + j)
    rw [h3]
    congr 1
    omega
  · show (upP x.P x.i q2 i).n = Ln i ∧ ∀ j, j < Ln i → (upP x.P x.i q2 i).f j = q.f (A i + 8 + j)
    unfold upP
    by_cases e : i = x.i
    · rw [if_pos e, e, hn, hf]
      refine ⟨(show 8 + Ln x.i - 8 = _ by omega), fun j hj => ?_⟩
      show x.r.f (8 + j) = _
      rw [h.f]
      show q.f (A x.i + (8 + j)) = _
      rw [Nat.add_assoc]
    · rw [if_neg e]
      exact h.ps i (by have : i < x.i + 1 := hi; omega)
set_option maxHeartbeats 4000000 in
set_option maxRecDepth 100000 in
theorem read_short (g t : Nat) (q : Pt8) (A Ln : Nat → Nat) (M : Nat) (hbq : q.n ≤ 1048576) (hE : q.n < A M + 8) (w : World) (hT0 : Tb g t w) (hq0 : Pok q ∧ q.rs w) (hqn0 : q.p = none → q.cp = 0) (hlg0 : Lgk q.f q.n A Ln M) :
    Calls Try.prog 84 #[PT g t, .slice q.p q.n q.cp] w fun e w' => ∃ v P, e = .returned (.tuple #[v, .int .i64 ((A M : Nat) : Int), .int .i64 0]) ∧ Lr w v M P w' ∧ ∀ i, i < M → (P i).n = Ln i ∧ ∀ j, j < Ln i → (P i).f j = q.f (A i + 8 + j) := by
  have H0 : Hid (_ ∧ _) := ⟨Mm.nil w, Lr.start (fun _ => q) (Below.refl w.heap.size w)⟩
  have hT : Hid _ := hT0
  have hq : Hid _ := hq0
  clear hT0 hq0
  have hqn : Hid _ := hqn0
  clear hqn0
  have hlg : Hid _ := hlg0
  clear hlg0
  go_enter Try.func84, Try.ntmps84
  refine wp_seq ?_
  refine sq_startW (l := [0, 1, 2]) rfl (fun u0 hu0 => ?_)
  have H1 : Hid (Mm u0 [] ∧ Lr w (.slice none 0 0) 0 (fun _ => q) u0) := by rw [hu0]; exact H0
  clear hu0 H0
  refine rest_set (d := 4) (v := .slice none 0 0) (w' := u0) rfl rfl rfl (rfl) ?_
  simp only [Act.put, sa, sz, ss]
  refine rest_set (d := 5) (v := .int .i64 0) (w' := u0) rfl rfl rfl (rfl) ?_
  simp only [Act.put, sa, sz, ss]
  refine rest_set (d := 6) (v := .int .i64 0) (w' := u0) rfl rfl rfl (rfl) ?_
  simp only [Act.put, sa, sz, ss]
  refine rest_nil (then_normal (wp_seq ?_))
  refine sq_start (l := [0]) rfl ?_
  refine rest_set (d := 7) (v := .slice none 0 0) (w' := u0) rfl rfl rfl (rfl) ?_
  simp only [Act.put, sa, sz, ss]
  refine rest_nil (then_normal (wp_seq ?_))
  refine sq_start (l := [0, 1]) rfl ?_
  refine rest_set (d := 12) (v := .slice q.p q.n q.cp) (w' := u0) rfl rfl rfl (rfl) ?_
  simp only [Act.put, sa, sz, ss]
  refine rest_set (d := 8) (v := .slice q.p q.n q.cp) (w' := u0) rfl rfl rfl (rfl) ?_
  simp only [Act.put, sa, sz, ss]
  refine rest_nil (then_normal ?_)
  refine wp_seq (wp_block ?_)
  refine loop_ghost (α := Gr) (fun x a' w' => ∃ s0 : Nat → Value, a' = ⟨#[PT g t, .slice q.p q.n q.cp, undef, undef, s0 4, s0 5, s0 6, x.v, .slice x.r.p x.r.n x.r.cp, s0 9, s0 10, s0 11, .slice q.p q.n q.cp, s0 13, s0 14, s0 15, s0 16, s0 17, s0 18, s0 19, s0 20, s0 21, s0 22, s0 23, s0 24, s0 25, s0 26, s0 27, s0 28, s0 29, s0 30, s0 31, s0 32, s0 33, s0 34, s0 35, s0 36, s0 37, s0 38, s0 39, s0 40, s0 41, s0 42, s0 43, s0 44, s0 45, s0 46, s0 47, s0 48, s0 49, s0 50, undef, undef, undef, undef, undef, undef], []⟩ ∧ (Mm w' [] ∧ Lr w x.v x.i x.P w') ∧ Rk q A Ln M w x) (fun x => M - x.i) ⟨0, q, .slice none 0 0, fun _ => q⟩ ?st0 ?rd0
  case st0 => exact ⟨(slotfn [undef, undef, undef, undef, .slice none 0 0, .int .i64 0, .int .i64 0, undef, undef, undef, undef, undef, undef, undef, undef, undef, undef, undef, undef, undef, undef, undef, undef, undef, undef, undef, undef, undef, undef, undef, undef, undef, undef, undef, undef, undef, undef, undef, undef, undef, undef, undef, undef, undef, undef, undef, undef, undef, undef, undef, undef]), rfl, ⟨H1.out.1, H1.out.2⟩, ⟨Nat.zero_le _, hq.out, hqn.out, by show q.n + A 0 = q.n; rw [hlg.out.z, Nat.add_zero], by show q.f = sh q.f (A 0); rw [hlg.out.z]; funext j; show q.f j = q.f (0 + j); rw [Nat.zero_add], fun i hi => absurd hi (Nat.not_lt_zero _)⟩⟩
  intro x a' w2 hI
  obtain ⟨s0, rfl, hMB, hk0⟩ := hI
  have H2 : Hid (_ ∧ _) := hMB
  clear hMB H1
  by_cases hltx : x.i < M
  · have hrd : True := trivial
    clear hrd
    have hle := hk0.ok.1.le
    have hrn := hk0.n
    have hAl := hlg.out.at_le hk0.le
    have hMn := hlg.out.mono M 0 (Nat.zero_add M)
    have hMl := hlg.out.le
    have hnx := hlg.out.nx_le hltx
    have hhd : Hdk x.r.f (Ln x.i) := by rw [hk0.f]; exact hlg.out.hd x.i hltx
    have hbd : Bdk x.r.f (Ln x.i) := by rw [hk0.f]; exact hlg.out.bd x.i hltx
    have hL6 := hhd.le
    refine wp_seq (wp_seq ?_)
    refine sq_start (l := [0, 1, 2]) rfl ?_
    refine rest_set (d := 13) (v := .slice x.r.p x.r.n x.r.cp) (w' := w2) rfl rfl rfl (rfl) ?_
    simp only [Act.put, sa, sz, ss]
    refine rest_set (d := 14) (v := .int .i64 ((x.r.n : Nat) : Int)) (w' := w2) rfl rfl rfl (by go_simp) ?_
    simp only [Act.put, sa, sz, ss]
    refine rest_set (d := 15) (v := .bool true) (w' := w2) rfl rfl rfl (by go_simp <;> omega) ?_
    simp only [Act.put, sa, sz, ss]
    refine rest_nil (then_normal ?_)
    refine wp_cond_true rfl (wp_skip ?_)
    refine then_normal (wp_block (wp_seq ?_))
    refine sq_start (l := [0, 1, 2, 3, 4, 5, 6, 7]) rfl ?_
    refine rest_set (d := 17) (v := PT g t) (w' := w2) rfl rfl rfl (rfl) ?_
    simp only [Act.put, sa, sz, ss]
    refine rest_set (d := 18) (v := .slice x.r.p x.r.n x.r.cp) (w' := w2) rfl rfl rfl (rfl) ?_
    simp only [Act.put, sa, sz, ss]
    refine rest_enter (d := 19) (R := fun vv w' => vv = .tuple #[.int .i64 (((Ln x.i) : Nat) : Int), .int .i64 0] ∧ Below w2.heap.size w2 w') rfl rfl rfl (exec_call (args := #[PT g t, .slice x.r.p x.r.n x.r.cp]) rfl call112 rfl (mpn rfl)) (Calls.mono (length_hd g t x.r (Ln x.i) (by omega) hhd w2 (hT.out.below H2.out.2.b) ⟨hk0.ok.1, hk0.ok.2.below H2.out.2.b⟩) (fun e w2 hh => ⟨_, hh.1, rfl, hh.2⟩)) ?_
    rintro _ w3 ⟨rfl, hb⟩
    have H3 : Hid (Mm w3 [] ∧ Lr w x.v x.i x.P w3) := ⟨H2.out.1.below hb, Lr.step H2.out.2 (hb)⟩
    clear hb
    clear H2
    simp only [Act.put, sa, sz, ss]
    refine rest_set (d := 16) (v := .tuple #[.int .i64 (((Ln x.i) : Nat) : Int), .int .i64 0]) (w' := w3) rfl rfl rfl (rfl) ?_
    simp only [Act.put, sa, sz, ss]
    refine rest_set (d := 20) (v := .int .i64 (((Ln x.i) : Nat) : Int)) (w' := w3) rfl rfl rfl (by go_simp) ?_
    simp only [Act.put, sa, sz, ss]
    refine rest_set (d := 21) (v := .int .i64 0) (w' := w3) rfl rfl rfl (by go_simp) ?_
    simp only [Act.put, sa, sz, ss]
    refine rest_set (d := 9) (v := .int .i64 (((Ln x.i) : Nat) : Int)) (w' := w3) rfl rfl rfl (rfl) ?_
    simp only [Act.put, sa, sz, ss]
    refine rest_set (d := 10) (v := .int .i64 0) (w' := w3) rfl rfl rfl (rfl) ?_
    simp only [Act.put, sa, sz, ss]
    refine rest_nil (then_normal ?_)
    refine wp_seq (wp_seq ?_)
    refine sq_start (l := [0, 1]) rfl ?_
    refine rest_set (d := 22) (v := .int .i64 0) (w' := w3) rfl rfl rfl (rfl) ?_
    simp only [Act.put, sa, sz, ss]
    refine rest_set (d := 23) (v := .bool false) (w' := w3) rfl rfl rfl (by kernel_rfl) ?_
    simp only [Act.put, sa, sz, ss]
    refine rest_nil (then_normal ?_)
    refine wp_cond_false rfl (wp_skip ?_)
    refine then_normal (wp_seq (wp_seq ?_))
    refine sq_start (l := [0, 1, 2, 3, 4]) rfl ?_
    refine rest_set (d := 25) (v := .slice x.r.p x.r.n x.r.cp) (w' := w3) rfl rfl rfl (rfl) ?_
    simp only [Act.put, sa, sz, ss]
    refine rest_set (d := 26) (v := .int .i64 ((x.r.n : Nat) : Int)) (w' := w3) rfl rfl rfl (by go_simp) ?_
    simp only [Act.put, sa, sz, ss]
    refine rest_set (d := 27) (v := .int .i64 (((Ln x.i) : Nat) : Int)) (w' := w3) rfl rfl rfl (rfl) ?_
    simp only [Act.put, sa, sz, ss]
    refine rest_enter (d := 28) (R := fun vv w' => vv = .int .i64 ((8 + (Ln x.i) + 4 : Nat) : Int) ∧ Below w3.heap.size w3 w') rfl rfl rfl (exec_call (args := #[.int .i64 (((Ln x.i) : Nat) : Int)]) rfl call110 rfl (mpn rfl)) (Calls.mono (framed_any (Ln x.i) (by omega) w3) (fun e w2 hh => ⟨_, hh.1, rfl, hh.2⟩)) ?_
    rintro _ w4 ⟨rfl, hb⟩
    have H4 : Hid (Mm w4 [] ∧ Lr w x.v x.i x.P w4) := ⟨H3.out.1.below hb, Lr.step H3.out.2 (hb)⟩
    clear hb
    clear H3
    simp only [Act.put, sa, sz, ss]
    refine rest_set (d := 29) (v := .bool false) (w' := w4) rfl rfl rfl (by go_simp <;> omega) ?_
    simp only [Act.put, sa, sz, ss]
    refine rest_nil (then_normal ?_)
    refine wp_cond_false rfl (wp_skip ?_)
    refine then_normal (wp_seq ?_)
    refine sq_start (l := [0, 1, 2, 3, 4]) rfl ?_
    refine rest_set (d := 30) (v := .slice x.r.p x.r.n x.r.cp) (w' := w4) rfl rfl rfl (rfl) ?_
    simp only [Act.put, sa, sz, ss]
    refine rest_set (d := 31) (v := .int .i64 (((Ln x.i) : Nat) : Int)) (w' := w4) rfl rfl rfl (rfl) ?_
    simp only [Act.put, sa, sz, ss]
    refine rest_set (d := 32) (v := .int .i64 ((8 + (Ln x.i) : Nat) : Int)) (w' := w4) rfl rfl rfl (by go_simp; rw [IntKind.wrap_i64]; omega) ?_
    simp only [Act.put, sa, sz, ss]
    refine rest_set (d := 33) (v := .slice ((x.r.tk (8 + (Ln x.i))).dp 8).p ((x.r.tk (8 + (Ln x.i))).dp 8).n ((x.r.tk (8 + (Ln x.i))).dp 8).cp) (w' := w4) rfl rfl rfl (ex_mdQ (q := x.r) (k := 8) (m := 8 + (Ln x.i)) (by omega) (by omega) rfl rfl rfl rfl) ?_
    simp only [Act.put, sa, sz, ss]
    refine rest_set (d := 11) (v := .slice ((x.r.tk (8 + (Ln x.i))).dp 8).p ((x.r.tk (8 + (Ln x.i))).dp 8).n ((x.r.tk (8 + (Ln x.i))).dp 8).cp) (w' := w4) rfl rfl rfl (rfl) ?_
    simp only [Act.put, sa, sz, ss]
    refine rest_nil (then_normal ?_)
    refine wp_seq (wp_seq ?_)
    refine sq_start (l := [0, 1, 2, 3, 4, 5, 6, 7]) rfl ?_
    refine rest_set (d := 34) (v := PT g t) (w' := w4) rfl rfl rfl (rfl) ?_
    simp only [Act.put, sa, sz, ss]
    refine rest_set (d := 35) (v := .slice ((x.r.tk (8 + (Ln x.i))).dp 8).p ((x.r.tk (8 + (Ln x.i))).dp 8).n ((x.r.tk (8 + (Ln x.i))).dp 8).cp) (w' := w4) rfl rfl rfl (rfl) ?_
    simp only [Act.put, sa, sz, ss]
    refine rest_set (d := 36) (v := .slice x.r.p x.r.n x.r.cp) (w' := w4) rfl rfl rfl (rfl) ?_
    simp only [Act.put, sa, sz, ss]
    refine rest_set (d := 37) (v := .int .i64 (((Ln x.i) : Nat) : Int)) (w' := w4) rfl rfl rfl (rfl) ?_
    simp only [Act.put, sa, sz, ss]
    refine rest_set (d := 38) (v := .int .i64 ((8 + (Ln x.i) : Nat) : Int)) (w' := w4) rfl rfl rfl (by go_simp; rw [IntKind.wrap_i64]; omega) ?_
    simp only [Act.put, sa, sz, ss]
    refine rest_set (d := 39) (v := .slice (x.r.dp (8 + (Ln x.i))).p (x.r.dp (8 + (Ln x.i))).n (x.r.dp (8 + (Ln x.i))).cp) (w' := w4) rfl rfl rfl (ex_dpQ (q := x.r) (k := 8 + (Ln x.i)) (by omega) rfl rfl rfl) ?_
    simp only [Act.put, sa, sz, ss]
    refine rest_enter (d := 40) (R := fun vv w' => vv = .bool true ∧ Below w4.heap.size w4 w') rfl rfl rfl (exec_call (args := #[PT g t, .slice ((x.r.tk (8 + (Ln x.i))).dp 8).p ((x.r.tk (8 + (Ln x.i))).dp 8).n ((x.r.tk (8 + (Ln x.i))).dp 8).cp, .slice (x.r.dp (8 + (Ln x.i))).p (x.r.dp (8 + (Ln x.i))).n (x.r.dp (8 + (Ln x.i))).cp]) rfl call113 rfl (mpn rfl)) (Calls.mono (holds_bd g t x.r (Ln x.i) (by omega) (by omega) true (decide_eq_true hbd) w4 (hT.out.below H4.out.2.b) ⟨hk0.ok.1, hk0.ok.2.below H4.out.2.b⟩) (fun e w2 hh => ⟨_, hh.1, rfl, hh.2⟩)) ?_
    rintro _ w5 ⟨rfl, hb⟩
    have H5 : Hid (Mm w5 [] ∧ Lr w x.v x.i x.P w5) := ⟨H4.out.1.below hb, Lr.step H4.out.2 (hb)⟩
    clear hb
    clear H4
    simp only [Act.put, sa, sz, ss]
    refine rest_set (d := 41) (v := .bool false) (w' := w5) rfl rfl rfl (by go_simp) ?_
    simp only [Act.put, sa, sz, ss]
    refine rest_nil (then_normal ?_)
    refine wp_cond_false rfl (wp_skip ?_)
    refine then_normal (wp_seq ?_)
    refine sq_start (l := [0, 1, 2, 3, 4, 5]) rfl ?_
    refine rest_set (d := 42) (v := x.v) (w' := w5) rfl rfl rfl (rfl) ?_
    simp only [Act.put, sa, sz, ss]
    refine rest_set (d := 43) (v := .slice ((x.r.tk (8 + (Ln x.i))).dp 8).p ((x.r.tk (8 + (Ln x.i))).dp 8).n ((x.r.tk (8 + (Ln x.i))).dp 8).cp) (w' := w5) rfl rfl rfl (rfl) ?_
    simp only [Act.put, sa, sz, ss]
    refine rest_enter (d := 44) (R := fun vv w' => Cw w5 vv ((x.r.tk (8 + (Ln x.i))).dp 8).n ((x.r.tk (8 + (Ln x.i))).dp 8).f w') rfl rfl rfl (exec_call (args := #[.slice ((x.r.tk (8 + (Ln x.i))).dp 8).p ((x.r.tk (8 + (Ln x.i))).dp 8).n ((x.r.tk (8 + (Ln x.i))).dp 8).cp]) rfl call114 rfl (mpn rfl)) (Calls.mono (bclone_any ((x.r.tk (8 + (Ln x.i))).dp 8) (by show 8 + (Ln x.i) - 8 ≤ _; omega) w5 ((hk0.ok.1.tk (by omega)).dp (by show 8 ≤ 8 + (Ln x.i); omega)) (Pt8.dp_no (Pt8.tk_no hk0.no _) _) (Pt8.rs_dp (Pt8.rs_tk (hk0.ok.2.below H5.out.2.b) (by omega)) (by show 8 ≤ 8 + (Ln x.i); omega))) (fun e w2 hh => by obtain ⟨v', he, hO⟩ := hh; exact ⟨_, he, hO⟩)) ?_
    rintro vc w6 hO
    obtain ⟨q2, rfl, e2, e3, e4, e5, e6, e7⟩ := hO.part
    have hq2 : Hid (Pok q2 ∧ (q2.p = none → q2.cp = 0) ∧ (0 < q2.n → w.heap.size ≤ q2.gb ∧ q2.gb ∉ vbl x.v)) := ⟨e2, e3, fun h0 => ⟨Nat.le_trans H5.out.2.b.size (e7 h0), fun hx => absurd (own_lt H5.out.2.own _ hx) (Nat.not_lt.2 (e7 h0))⟩⟩
    have hq2n : Hid (q2.n = ((x.r.tk (8 + (Ln x.i))).dp 8).n) := e4
    have hq2f : Hid (q2.f = ((x.r.tk (8 + (Ln x.i))).dp 8).f) := e5
    have H6 : Hid (Mm w6 [] ∧ Lr w x.v x.i x.P w6 ∧ q2.rs w6) := ⟨Mm.nil _, H5.out.2.step hO.b, e6⟩
    clear hO e2 e3 e4 e5 e6 e7 H5
    have hq2z : Hid _ := H6.out.2.2
    have H7 : Hid (Mm w6 [] ∧ Lr w x.v x.i x.P w6) := ⟨Mm.nil _, H6.out.2.1⟩
    clear H6
    simp only [Act.put, sa, sz, ss]
    have hq2r : Hid (q2.rs (w6.alloc (.cells ([Value.slice q2.p q2.n q2.cp] : List Value).toArray 34))) := hq2z.out.below ((Below.refl _ _).alloc (Nat.le_refl _) _)
    refine rest_set (d := 45) (v := .slice (some ⟨w6.heap.size, 0, none⟩) 1 1) (w' := (w6.alloc (.cells ([Value.slice q2.p q2.n q2.cp] : List Value).toArray 34))) rfl rfl rfl (ex_bs61_1 rfl rfl) ?_
    simp only [Act.put, sa, sz, ss]
    have o_γs8 : Hid (w.heap.size ≤ w6.heap.size) := H7.out.2.b.size
    have H8 : Hid (Mm (w6.alloc (.cells ([Value.slice q2.p q2.n q2.cp] : List Value).toArray 34)) ((w6.heap.size, [Value.slice q2.p q2.n q2.cp]) :: []) ∧ Lr w x.v x.i x.P (w6.alloc (.cells ([Value.slice q2.p q2.n q2.cp] : List Value).toArray 34))) := ⟨H7.out.1.alloc _ 34 rfl, Lr.step H7.out.2 (((Below.refl _ _).alloc (Nat.le_refl _) _))⟩
    clear H7
    generalize hgw : w6.alloc (.cells ([Value.slice q2.p q2.n q2.cp] : List Value).toArray 34) = w8 at hq2r H8 ⊢
    clear hgw
    generalize w6.heap.size = γs8 at o_γs8 H8 ⊢
    obtain ⟨vr, w9, hr, hO⟩ := H8.out.2.app (by omega) (q := q2) ⟨hq2.out.1, hq2.out.2.1, hq2r.out, hq2.out.2.2⟩ (H8.out.1.get 0 rfl 0 rfl) 61
    refine rest_set (d := 46) (v := vr) (w' := w9) rfl rfl rfl (ex_appL rfl rfl rfl hr) ?_
    simp only [Act.put, sa, sz, ss]
    have H9 : Hid (Mm w9 [] ∧ Lr w vr (x.i + 1) (upP x.P x.i q2) w9) := ⟨Mm.nil _, hO⟩
    clear hr hO H8
    refine rest_set (d := 7) (v := vr) (w' := w9) rfl rfl rfl (rfl) ?_
    simp only [Act.put, sa, sz, ss]
    refine rest_nil (then_normal ?_)
    refine sq_start (l := [0, 1, 2, 3, 4]) rfl ?_
    refine rest_set (d := 47) (v := .slice x.r.p x.r.n x.r.cp) (w' := w9) rfl rfl rfl (rfl) ?_
    simp only [Act.put, sa, sz, ss]
    refine rest_set (d := 48) (v := .int .i64 (((Ln x.i) : Nat) : Int)) (w' := w9) rfl rfl rfl (rfl) ?_
    simp only [Act.put, sa, sz, ss]
    refine rest_enter (d := 49) (R := fun vv w' => vv = .int .i64 ((8 + (Ln x.i) + 4 : Nat) : Int) ∧ Below w9.heap.size w9 w') rfl rfl rfl (exec_call (args := #[.int .i64 (((Ln x.i) : Nat) : Int)]) rfl call110 rfl (mpn rfl)) (Calls.mono (framed_any (Ln x.i) (by omega) w9) (fun e w2 hh => ⟨_, hh.1, rfl, hh.2⟩)) ?_
    rintro _ w10 ⟨rfl, hb⟩
    have H10 : Hid (Mm w10 [] ∧ Lr w vr (x.i + 1) (upP x.P x.i q2) w10) := ⟨H9.out.1.below hb, Lr.step H9.out.2 (hb)⟩
    clear hb
    clear H9
    simp only [Act.put, sa, sz, ss]
    refine rest_set (d := 50) (v := .slice (x.r.dp (8 + (Ln x.i) + 4)).p (x.r.dp (8 + (Ln x.i) + 4)).n (x.r.dp (8 + (Ln x.i) + 4)).cp) (w' := w10) rfl rfl rfl (ex_dpQ (q := x.r) (k := 8 + (Ln x.i) + 4) (by omega) rfl rfl rfl) ?_
    simp only [Act.put, sa, sz, ss]
    refine rest_set (d := 8) (v := .slice (x.r.dp (8 + (Ln x.i) + 4)).p (x.r.dp (8 + (Ln x.i) + 4)).n (x.r.dp (8 + (Ln x.i) + 4)).cp) (w' := w10) rfl rfl rfl (rfl) ?_
    simp only [Act.put, sa, sz, ss]
    refine rest_nil (block_normal (then_normal ?_))
    exact ⟨⟨x.i + 1, x.r.dp (8 + Ln x.i + 4), vr, upP x.P x.i q2⟩, ⟨(slotfn [undef, undef, undef, undef, s0 4, s0 5, s0 6, undef, undef, .int .i64 (((Ln x.i) : Nat) : Int), .int .i64 0, .slice ((x.r.tk (8 + (Ln x.i))).dp 8).p ((x.r.tk (8 + (Ln x.i))).dp 8).n ((x.r.tk (8 + (Ln x.i))).dp 8).cp, undef, .slice x.r.p x.r.n x.r.cp, .int .i64 ((x.r.n : Nat) : Int), .bool true, .tuple #[.int .i64 (((Ln x.i) : Nat) : Int), .int .i64 0], PT g t, .slice x.r.p x.r.n x.r.cp, .tuple #[.int .i64 (((Ln x.i) : Nat) : Int), .int .i64 0], .int .i64 (((Ln x.i) : Nat) : Int), .int .i64 0, .int .i64 0, .bool false, s0 24, .slice x.r.p x.r.n x.r.cp, .int .i64 ((x.r.n : Nat) : Int), .int .i64 (((Ln x.i) : Nat) : Int), .int .i64 ((8 + (Ln x.i) + 4 : Nat) : Int), .bool false, .slice x.r.p x.r.n x.r.cp, .int .i64 (((Ln x.i) : Nat) : Int), .int .i64 ((8 + (Ln x.i) : Nat) : Int), .slice ((x.r.tk (8 + (Ln x.i))).dp 8).p ((x.r.tk (8 + (Ln x.i))).dp 8).n ((x.r.tk (8 + (Ln x.i))).dp 8).cp, PT g t, .slice ((x.r.tk (8 + (Ln x.i))).dp 8).p ((x.r.tk (8 + (Ln x.i))).dp 8).n ((x.r.tk (8 + (Ln x.i))).dp 8).cp, .slice x.r.p x.r.n x.r.cp, .int .i64 (((Ln x.i) : Nat) : Int), .int .i64 ((8 + (Ln x.i) : Nat) : Int), .slice (x.r.dp (8 + (Ln x.i))).p (x.r.dp (8 + (Ln x.i))).n (x.r.dp (8 + (Ln x.i))).cp, .bool true, .bool false, x.v, .slice ((x.r.tk (8 + (Ln x.i))).dp 8).p ((x.r.tk (8 + (Ln x.i))).dp 8).n ((x.r.tk (8 + (Ln x.i))).dp 8).cp, .slice q2.p q2.n q2.cp, .slice (some ⟨γs8, 0, none⟩) 1 1, vr, .slice x.r.p x.r.n x.r.cp, .int .i64 (((Ln x.i) : Nat) : Int), .int .i64 ((8 + (Ln x.i) + 4 : Nat) : Int), .slice (x.r.dp (8 + (Ln x.i) + 4)).p (x.r.dp (8 + (Ln x.i) + 4)).n (x.r.dp (8 + (Ln x.i) + 4)).cp]), rfl, ⟨H10.out.1, H10.out.2⟩, Rk.next hk0 hlg.out hltx hq2n.out hq2f.out⟩, (show M - (x.i + 1) < M - x.i by omega)⟩
  have hle := hk0.ok.1.le
  have hrn := hk0.n
  have hAl := hlg.out.at_le hk0.le
  have hMn := hlg.out.mono M 0 (Nat.zero_add M)
  have hMl := hlg.out.le
  have hxM : x.i = M := by have := hk0.le; omega
  rw [hxM] at hrn hAl
  refine wp_seq (wp_seq ?_)
  refine sq_start (l := [0, 1, 2]) rfl ?_
  refine rest_set (d := 13) (v := .slice x.r.p x.r.n x.r.cp) (w' := w2) rfl rfl rfl (rfl) ?_
  simp only [Act.put, sa, sz, ss]
  refine rest_set (d := 14) (v := .int .i64 ((x.r.n : Nat) : Int)) (w' := w2) rfl rfl rfl (by go_simp) ?_
  simp only [Act.put, sa, sz, ss]
  refine rest_set (d := 15) (v := .bool false) (w' := w2) rfl rfl rfl (by go_simp <;> omega) ?_
  simp only [Act.put, sa, sz, ss]
  refine rest_nil (then_normal (wp_cond_false rfl ?_))
  refine wp_exit ?_
  repeat refine then_exit ?_
  refine block_exit ?_
  refine then_normal (wp_seq ?_)
  refine sq_start (l := [0, 1, 2, 3, 4, 5, 6, 7, 8]) rfl ?_
  refine rest_set (d := 51) (v := x.v) (w' := w2) rfl rfl rfl (rfl) ?_
  simp only [Act.put, sa, sz, ss]
  refine rest_set (d := 52) (v := .slice q.p q.n q.cp) (w' := w2) rfl rfl rfl (rfl) ?_
  simp only [Act.put, sa, sz, ss]
  refine rest_set (d := 53) (v := .int .i64 ((q.n : Nat) : Int)) (w' := w2) rfl rfl rfl (by go_simp) ?_
  simp only [Act.put, sa, sz, ss]
  refine rest_set (d := 54) (v := .slice x.r.p x.r.n x.r.cp) (w' := w2) rfl rfl rfl (rfl) ?_
  simp only [Act.put, sa, sz, ss]
  refine rest_set (d := 55) (v := .int .i64 ((x.r.n : Nat) : Int)) (w' := w2) rfl rfl rfl (by go_simp) ?_
  simp only [Act.put, sa, sz, ss]
  refine rest_set (d := 56) (v := .int .i64 ((A M : Nat) : Int)) (w' := w2) rfl rfl rfl (by go_simp; rw [IntKind.wrap_i64]; omega) ?_
  simp only [Act.put, sa, sz, ss]
  refine rest_set (d := 4) (v := x.v) (w' := w2) rfl rfl rfl (rfl) ?_
  simp only [Act.put, sa, sz, ss]
  refine rest_set (d := 5) (v := .int .i64 ((A M : Nat) : Int)) (w' := w2) rfl rfl rfl (rfl) ?_
  simp only [Act.put, sa, sz, ss]
  refine rest_set (d := 6) (v := .int .i64 0) (w' := w2) rfl rfl rfl (rfl) ?_
  simp only [Act.put, sa, sz, ss]
  refine rest_nil (then_normal (wp_ret ?_))
  repeat (first | refine then_ret ?_ | refine block_ret ?_)
  refine bodyPost_ret (v := .tuple #[x.v, .int .i64 ((A M : Nat) : Int), .int .i64 0]) (by simp [results, Try.results84, go_sem, *]) rfl ?_
  exact ⟨_, _, rfl, by rw [← hxM]; exact H2.out.2, by rw [← hxM]; exact hk0.ps⟩
set_option maxHeartbeats 4000000 in
set_option maxRecDepth 100000 in
theorem read_torn (g t : Nat) (q : Pt8) (A Ln : Nat → Nat) (M : Nat) (hbq : q.n ≤ 1048576) (L : Nat) (h8 : A M + 8 ≤ q.n) (hE : q.n < A M + 8 + L + 4) (w : World) (hT0 : Tb g t w) (hq0 : Pok q ∧ q.rs w) (hqn0 : q.p = none → q.cp = 0) (hlg0 : Lgk q.f q.n A Ln M) (hhe0 : Hdk (sh q.f (A M)) L) :
    Calls Try.prog 84 #[PT g t, .slice q.p q.n q.cp] w fun e w' => ∃ v P, e = .returned (.tuple #[v, .int .i64 ((A M : Nat) : Int), .int .i64 0]) ∧ Lr w v M P w' ∧ ∀ i, i < M → (P i).n = Ln i ∧ ∀ j, j < Ln i → (P i).f j = q.f (A i + 8 + j) := by
  have H0 : Hid (_ ∧ _) := ⟨Mm.nil w, Lr.start (fun _ => q) (Below.refl w.heap.size w)⟩
  have hT : Hid _ := hT0
  have hq : Hid _ := hq0
  clear hT0 hq0
  have hqn : Hid _ := hqn0
  clear hqn0
  have hlg : Hid _ := hlg0
  clear hlg0
  have hhe : Hid _ := hhe0
  clear hhe0
  go_enter Try.func84, Try.ntmps84
  refine wp_seq ?_
  refine sq_startW (l := [0, 1, 2]) rfl (fun u0 hu0 => ?_)
  have H1 : Hid (Mm u0 [] ∧ Lr w (.slice none 0 0) 0 (fun _ => q) u0) := by rw [hu0]; exact H0
  clear hu0 H0
  refine rest_set (d := 4) (v := .slice none 0 0) (w' := u0) rfl rfl rfl (rfl) ?_
  simp only [Act.put, sa, sz, ss]
  refine rest_set (d := 5) (v := .int .i64 0) (w' := u0) rfl rfl rfl (rfl) ?_
  simp only [Act.put, sa, sz, ss]
  refine rest_set (d := 6) (v := .int .i64 0) (w' := u0) rfl rfl rfl (rfl) ?_
  simp only [Act.put, sa, sz, ss]
  refine rest_nil (then_normal (wp_seq ?_))
  refine sq_start (l := [0]) rfl ?_
  refine rest_set (d := 7) (v := .slice none 0 0) (w' := u0) rfl rfl rfl (rfl) ?_
  simp only [Act.put, sa, sz, ss]
  refine rest_nil (then_normal (wp_seq ?_))
  refine sq_start (l := [0, 1]) rfl ?_
  refine rest_set (d := 12) (v := .slice q.p q.n q.cp) (w' := u0) rfl rfl rfl (rfl) ?_
  simp only [Act.put, sa, sz, ss]
  refine rest_set (d := 8) (v := .slice q.p q.n q.cp) (w' := u0) rfl rfl rfl (rfl) ?_
  simp only [Act.put, sa, sz, ss]
  refine rest_nil (then_normal ?_)
  refine wp_seq (wp_block ?_)
  refine loop_ghost (α := Gr) (fun x a' w' => ∃ s0 : Nat → Value, a' = ⟨#[PT g t, .slice q.p q.n q.cp, undef, undef, s0 4, s0 5, s0 6, x.v, .slice x.r.p x.r.n x.r.cp, s0 9, s0 10, s0 11, .slice q.p q.n q.cp, s0 13, s0 14, s0 15, s0 16, s0 17, s0 18, s0 19, s0 20, s0 21, s0 22, s0 23, s0 24, s0 25, s0 26, s0 27, s0 28, s0 29, s0 30, s0 31, s0 32, s0 33, s0 34, s0 35, s0 36, s0 37, s0 38, s0 39, s0 40, s0 41, s0 42, s0 43, s0 44, s0 45, s0 46, s0 47, s0 48, s0 49, s0 50, undef, undef, undef, undef, undef, undef], []⟩ ∧ (Mm w' [] ∧ Lr w x.v x.i x.P w') ∧ Rk q A Ln M w x) (fun x => M - x.i) ⟨0, q, .slice none 0 0, fun _ => q⟩ ?st0 ?rd0
  case st0 => exact ⟨(slotfn [undef, undef, undef, undef, .slice none 0 0, .int .i64 0, .int .i64 0, undef, undef, undef, undef, undef, undef, undef, undef, undef, undef, undef, undef, undef, undef, undef, undef, undef, undef, undef, undef, undef, undef, undef, undef, undef, undef, undef, undef, undef, undef, undef, undef, undef, undef, undef, undef, undef, undef, undef, undef, undef, undef, undef, undef]), rfl, ⟨H1.out.1, H1.out.2⟩, ⟨Nat.zero_le _, hq.out, hqn.out, by show q.n + A 0 = q.n; rw [hlg.out.z, Nat.add_zero], by show q.f = sh q.f (A 0); rw [hlg.out.z]; funext j; show q.f j = q.f (0 + j); rw [Nat.zero_add], fun i hi => absurd hi (Nat.not_lt_zero _)⟩⟩
  intro x a' w2 hI
  obtain ⟨s0, rfl, hMB, hk0⟩ := hI
  have H2 : Hid (_ ∧ _) := hMB
  clear hMB H1
  by_cases hltx : x.i < M
  · have hrd : True := trivial
    clear hrd
    have hle := hk0.ok.1.le
    have hrn := hk0.n
    have hAl := hlg.out.at_le hk0.le
    have hMn := hlg.out.mono M 0 (Nat.zero_add M)
    have hMl := hlg.out.le
    have hnx := hlg.out.nx_le hltx
    have hhd : Hdk x.r.f (Ln x.i) := by rw [hk0.f]; exact hlg.out.hd x.i hltx
    have hbd : Bdk x.r.f (Ln x.i) := by rw [hk0.f]; exact hlg.out.bd x.i hltx
    have hL6 := hhd.le
    refine wp_seq (wp_seq ?_)
    refine sq_start (l := [0, 1, 2]) rfl ?_
    refine rest_set (d := 13) (v := .slice x.r.p x.r.n x.r.cp) (w' := w2) rfl rfl rfl (rfl) ?_
    simp only [Act.put, sa, sz, ss]
    refine rest_set (d := 14) (v := .int .i64 ((x.r.n : Nat) : Int)) (w' := w2) rfl rfl rfl (by go_simp) ?_
    simp only [Act.put, sa, sz, ss]
    refine rest_set (d := 15) (v := .bool true) (w' := w2) rfl rfl rfl (by go_simp <;> omega) ?_
    simp only [Act.put, sa, sz, ss]
    refine rest_nil (then_normal ?_)
    refine wp_cond_true rfl (wp_skip ?_)
    refine then_normal (wp_block (wp_seq ?_))
    refine sq_start (l := [0, 1, 2, 3, 4, 5, 6, 7]) rfl ?_
    refine rest_set (d := 17) (v := PT g t) (w' := w2) rfl rfl rfl (rfl) ?_
    simp only [Act.put, sa, sz, ss]
    refine rest_set (d := 18) (v := .slice x.r.p x.r.n x.r.cp) (w' := w2) rfl rfl rfl (rfl) ?_
    simp only [Act.put, sa, sz, ss]
    refine rest_enter (d := 19) (R := fun vv w' => vv = .tuple #[.int .i64 (((Ln x.i) : Nat) : Int), .int .i64 0] ∧ Below w2.heap.size w2 w') rfl rfl rfl (exec_call (args := #[PT g t, .slice x.r.p x.r.n x.r.cp]) rfl call112 rfl (mpn rfl)) (Calls.mono (length_hd g t x.r (Ln x.i) (by omega) hhd w2 (hT.out.below H2.out.2.b) ⟨hk0.ok.1, hk0.ok.2.below H2.out.2.b⟩) (fun e w2 hh => ⟨_, hh.1, rfl, hh.2⟩)) ?_
    rintro _ w3 ⟨rfl, hb⟩
    have H3 : Hid (Mm w3 [] ∧ Lr w x.v x.i x.P w3) := ⟨H2.out.1.below hb, Lr.step H2.out.2 (hb)⟩
    clear hb
    clear H2
    simp only [Act.put, sa, sz, ss]
    refine rest_set (d := 16) (v := .tuple #[.int .i64 (((Ln x.i) : Nat) : Int), .int .i64 0]) (w' := w3) rfl rfl rfl (rfl) ?_
    simp only [Act.put, sa, sz, ss]
    refine rest_set (d := 20) (v := .int .i64 (((Ln x.i) : Nat) : Int)) (w' := w3) rfl rfl rfl (by go_simp) ?_
    simp only [Act.put, sa, sz, ss]
    refine rest_set (d := 21) (v := .int .i64 0) (w' := w3) rfl rfl rfl (by go_simp) ?_
    simp only [Act.put, sa, sz, ss]
    refine rest_set (d := 9) (v := .int .i64 (((Ln x.i) : Nat) : Int)) (w' := w3) rfl rfl rfl (rfl) ?_
    simp only [Act.put, sa, sz, ss]
    refine rest_set (d := 10) (v := .int .i64 0) (w' := w3) rfl rfl rfl (rfl) ?_
    simp only [Act.put, sa, sz, ss]
    refine rest_nil (then_normal ?_)
    refine wp_seq (wp_seq ?_)
    refine sq_start (l := [0, 1]) rfl ?_
    refine rest_set (d := 22) (v := .int .i64 0) (w' := w3) rfl rfl rfl (rfl) ?_
    simp only [Act.put, sa, sz, ss]
    refine rest_set (d := 23) (v := .bool false) (w' := w3) rfl rfl rfl (by kernel_rfl) ?_
    simp only [Act.put, sa, sz, ss]
    refine rest_nil (then_normal ?_)
    refine wp_cond_false rfl (wp_skip ?_)
    refine then_normal (wp_seq (wp_seq ?_))
    refine sq_start (l := [0, 1, 2, 3, 4]) rfl ?_
    refine rest_set (d := 25) (v := .slice x.r.p x.r.n x.r.cp) (w' := w3) rfl rfl rfl (rfl) ?_
    simp only [Act.put, sa, sz, ss]
    refine rest_set (d := 26) (v := .int .i64 ((x.r.n : Nat) : Int)) (w' := w3) rfl rfl rfl (by go_simp) ?_
    simp only [Act.put, sa, sz, ss]
    refine rest_set (d := 27) (v := .int .i64 (((Ln x.i) : Nat) : Int)) (w' := w3) rfl rfl rfl (rfl) ?_
    simp only [Act.put, sa, sz, ss]
    refine rest_enter (d := 28) (R := fun vv w' => vv = .int .i64 ((8 + (Ln x.i) + 4 : Nat) : Int) ∧ Below w3.heap.size w3 w') rfl rfl rfl (exec_call (args := #[.int .i64 (((Ln x.i) : Nat) : Int)]) rfl call110 rfl (mpn rfl)) (Calls.mono (framed_any (Ln x.i) (by omega) w3) (fun e w2 hh => ⟨_, hh.1, rfl, hh.2⟩)) ?_
    rintro _ w4 ⟨rfl, hb⟩
    have H4 : Hid (Mm w4 [] ∧ Lr w x.v x.i x.P w4) := ⟨H3.out.1.below hb, Lr.step H3.out.2 (hb)⟩
    clear hb
    clear H3
    simp only [Act.put, sa, sz, ss]
    refine rest_set (d := 29) (v := .bool false) (w' := w4) rfl rfl rfl (by go_simp <;> omega) ?_
    simp only [Act.put, sa, sz, ss]
    refine rest_nil (then_normal ?_)
    refine wp_cond_false rfl (wp_skip ?_)
    refine then_normal (wp_seq ?_)
    refine sq_start (l := [0, 1, 2, 3, 4]) rfl ?_
    refine rest_set (d := 30) (v := .slice x.r.p x.r.n x.r.cp) (w' := w4) rfl rfl rfl (rfl) ?_
    simp only [Act.put, sa, sz, ss]
    refine rest_set (d := 31) (v := .int .i64 (((Ln x.i) : Nat) : Int)) (w' := w4) rfl rfl rfl (rfl) ?_
    simp only [Act.put, sa, sz, ss]
    refine rest_set (d := 32) (v := .int .i64 ((8 + (Ln x.i) : Nat) : Int)) (w' := w4) rfl rfl rfl (by go_simp; rw [IntKind.wrap_i64]; omega) ?_
    simp only [Act.put, sa, sz, ss]
    refine rest_set (d := 33) (v := .slice ((x.r.tk (8 + (Ln x.i))).dp 8).p ((x.r.tk (8 + (Ln x.i))).dp 8).n ((x.r.tk (8 + (Ln x.i))).dp 8).cp) (w' := w4) rfl rfl rfl (ex_mdQ (q := x.r) (k := 8) (m := 8 + (Ln x.i)) (by omega) (by omega) rfl rfl rfl rfl) ?_
    simp only [Act.put, sa, sz, ss]
    refine rest_set (d := 11) (v := .slice ((x.r.tk (8 + (Ln x.i))).dp 8).p ((x.r.tk (8 + (Ln x.i))).dp 8).n ((x.r.tk (8 + (Ln x.i))).dp 8).cp) (w' := w4) rfl rfl rfl (rfl) ?_
    simp only [Act.put, sa, sz, ss]
    refine rest_nil (then_normal ?_)
    refine wp_seq (wp_seq ?_)
    refine sq_start (l := [0, 1, 2, 3, 4, 5, 6, 7]) rfl ?_
    refine rest_set (d := 34) (v := PT g t) (w' := w4) rfl rfl rfl (rfl) ?_
    simp only [Act.put, sa, sz, ss]
    refine rest_set (d := 35) (v := .slice ((x.r.tk (8 + (Ln x.i))).dp 8).p ((x.r.tk (8 + (Ln x.i))).dp 8).n ((x.r.tk (8 + (Ln x.i))).dp 8).cp) (w' := w4) rfl rfl rfl (rfl) ?_
    simp only [Act.put, sa, sz, ss]
    refine rest_set (d := 36) (v := .slice x.r.p x.r.n x.r.cp) (w' := w4) rfl rfl rfl (rfl) ?_
    simp only [Act.put, sa, sz, ss]
    refine rest_set (d := 37) (v := .int .i64 (((Ln x.i) : Nat) : Int)) (w' := w4) rfl rfl rfl (rfl) ?_
    simp only [Act.put, sa, sz, ss]
    refine rest_set (d := 38) (v := .int .i64 ((8 + (Ln x.i) : Nat) : Int)) (w' := w4) rfl rfl rfl (by go_simp; rw [IntKind.wrap_i64]; omega) ?_
    simp only [Act.put, sa, sz, ss]
    refine rest_set (d := 39) (v := .slice (x.r.dp (8 + (Ln x.i))).p (x.r.dp (8 + (Ln x.i))).n (x.r.dp (8 + (Ln x.i))).cp) (w' := w4) rfl rfl rfl (ex_dpQ (q := x.r) (k := 8 + (Ln x.i)) (by omega) rfl rfl rfl) ?_
    simp only [Act.put, sa, sz, ss]
    refine rest_enter (d := 40) (R := fun vv w' => vv = .bool true ∧ Below w4.heap.size w4 w') rfl rfl rfl (exec_call (args := #[PT g t, .slice ((x.r.tk (8 + (Ln x.i))).dp 8).p ((x.r.tk (8 + (Ln x.i))).dp 8).n ((x.r.tk (8 + (Ln x.i))).dp 8).cp, .slice (x.r.dp (8 + (Ln x.i))).p (x.r.dp (8 + (Ln x.i))).n (x.r.dp (8 + (Ln x.i))).cp]) rfl call113 rfl (mpn rfl)) (Calls.mono (holds_bd g t x.r (Ln x.i) (by omega) (by omega) true (decide_eq_true hbd) w4 (hT.out.below H4.out.2.b) ⟨hk0.ok.1, hk0.ok.2.below H4.out.2.b⟩) (fun e w2 hh => ⟨_, hh.1, rfl, hh.2⟩)) ?_
    rintro _ w5 ⟨rfl, hb⟩
    have H5 : Hid (Mm w5 [] ∧ Lr w x.v x.i x.P w5) := ⟨H4.out.1.below hb, Lr.step H4.out.2 (hb)⟩
    clear hb
    clear H4
    simp only [Act.put, sa, sz, ss]
    refine rest_set (d := 41) (v := .bool false) (w' := w5) rfl rfl rfl (by go_simp) ?_
    simp only [Act.put, sa, sz, ss]
    refine rest_nil (then_normal ?_)
    refine wp_cond_false rfl (wp_skip ?_)
    refine then_normal (wp_seq ?_)
    refine sq_start (l := [0, 1, 2, 3, 4, 5]) rfl ?_
    refine rest_set (d := 42) (v := x.v) (w' := w5) rfl rfl rfl (rfl) ?_
    simp only [Act.put, sa, sz, ss]
    refine rest_set (d := 43) (v := .slice ((x.r.tk (8 + (Ln x.i))).dp 8).p ((x.r.tk (8 + (Ln x.i))).dp 8).n ((x.r.tk (8 + (Ln x.i))).dp 8).cp) (w' := w5) rfl rfl rfl (rfl) ?_
    simp only [Act.put, sa, sz, ss]
    refine rest_enter (d := 44) (R := fun vv w' => Cw w5 vv ((x.r.tk (8 + (Ln x.i))).dp 8).n ((x.r.tk (8 + (Ln x.i))).dp 8).f w') rfl rfl rfl (exec_call (args := #[.slice ((x.r.tk (8 + (Ln x.i))).dp 8).p ((x.r.tk (8 + (Ln x.i))).dp 8).n ((x.r.tk (8 + (Ln x.i))).dp 8).cp]) rfl call114 rfl (mpn rfl)) (Calls.mono (bclone_any ((x.r.tk (8 + (Ln x.i))).dp 8) (by show 8 + (Ln x.i) - 8 ≤ _; omega) w5 ((hk0.ok.1.tk (by omega)).dp (by show 8 ≤ 8 + (Ln x.i); omega)) (Pt8.dp_no (Pt8.tk_no hk0.no _) _) (Pt8.rs_dp (Pt8.rs_tk (hk0.ok.2.below H5.out.2.b) (by omega)) (by show 8 ≤ 8 + (Ln x.i); omega))) (fun e w2 hh => by obtain ⟨v', he, hO⟩ := hh; exact ⟨_, he, hO⟩)) ?_
    rintro vc w6 hO
    obtain ⟨q2, rfl, e2, e3, e4, e5, e6, e7⟩ := hO.part
    have hq2 : Hid (Pok q2 ∧ (q2.p = none → q2.cp = 0) ∧ (0 < q2.n → w.heap.size ≤ q2.gb ∧ q2.gb ∉ vbl x.v)) := ⟨e2, e3, fun h0 => ⟨Nat.le_trans H5.out.2.b.size (e7 h0), fun hx => absurd (own_lt H5.out.2.own _ hx) (Nat.not_lt.2 (e7 h0))⟩⟩
    have hq2n : Hid (q2.n = ((x.r.tk (8 + (Ln x.i))).dp 8).n) := e4
    have hq2f : Hid (q2.f = ((x.r.tk (8 + (Ln x.i))).dp 8).f) := e5
    have H6 : Hid (Mm w6 [] ∧ Lr w x.v x.i x.P w6 ∧ q2.rs w6) := ⟨Mm.nil _, H5.out.2.step hO.b, e6⟩
    clear hO e2 e3 e4 e5 e6 e7 H5
    have hq2z : Hid _ := H6.out.2.2
    have H7 : Hid (Mm w6 [] ∧ Lr w x.v x.i x.P w6) := ⟨Mm.nil _, H6.out.2.1⟩
    clear H6
    simp only [Act.put, sa, sz, ss]
    have hq2r : Hid (q2.rs (w6.alloc (.cells ([Value.slice q2.p q2.n q2.cp] : List Value).toArray 34))) := hq2z.out.below ((Below.refl _ _).alloc (Nat.le_refl _) _)
    refine rest_set (d := 45) (v := .slice (some ⟨w6.heap.size, 0, none⟩) 1 1) (w' := (w6.alloc (.cells ([Value.slice q2.p q2.n q2.cp] : List Value).toArray 34))) rfl rfl rfl (ex_bs61_1 rfl rfl) ?_
    simp only [Act.put, sa, sz, ss]
    have o_γs8 : Hid (w.heap.size ≤ w6.heap.size) := H7.out.2.b.size
    have H8 : Hid (Mm (w6.alloc (.cells ([Value.slice q2.p q2.n q2.cp] : List Value).toArray 34)) ((w6.heap.size, [Value.slice q2.p q2.n q2.cp]) :: []) ∧ Lr w x.v x.i x.P (w6.alloc (.cells ([Value.slice q2.p q2.n q2.cp] : List Value).toArray 34))) := ⟨H7.out.1.alloc _ 34 rfl, Lr.step H7.out.2 (((Below.refl _ _).alloc (Nat.le_refl _) _))⟩
    clear H7
    generalize hgw : w6.alloc (.cells ([Value.slice q2.p q2.n q2.cp] : List Value).toArray 34) = w8 at hq2r H8 ⊢
    clear hgw
    generalize w6.heap.size = γs8 at o_γs8 H8 ⊢
    obtain ⟨vr, w9, hr, hO⟩ := H8.out.2.app (by omega) (q := q2) ⟨hq2.out.1, hq2.out.2.1, hq2r.out, hq2.out.2.2⟩ (H8.out.1.get 0 rfl 0 rfl) 61
    refine rest_set (d := 46) (v := vr) (w' := w9) rfl rfl rfl (ex_appL rfl rfl rfl hr) ?_
    simp only [Act.put, sa, sz, ss]
    have H9 : Hid (Mm w9 [] ∧ Lr w vr (x.i + 1) (upP x.P x.i q2) w9) := ⟨Mm.nil _, hO⟩
    clear hr hO H8
    refine rest_set (d := 7) (v := vr) (w' := w9) rfl rfl rfl (rfl) ?_
    simp only [Act.put, sa, sz, ss]
    refine rest_nil (then_normal ?_)
    refine sq_start (l := [0, 1, 2, 3, 4]) rfl ?_
    refine rest_set (d := 47) (v := .slice x.r.p x.r.n x.r.cp) (w' := w9) rfl rfl rfl (rfl) ?_
    simp only [Act.put, sa, sz, ss]
    refine rest_set (d := 48) (v := .int .i64 (((Ln x.i) : Nat) : Int)) (w' := w9) rfl rfl rfl (rfl) ?_
    simp only [Act.put, sa, sz, ss]
    refine rest_enter (d := 49) (R := fun vv w' => vv = .int .i64 ((8 + (Ln x.i) + 4 : Nat) : Int) ∧ Below w9.heap.size w9 w') rfl rfl rfl (exec_call (args := #[.int .i64 (((Ln x.i) : Nat) : Int)]) rfl call110 rfl (mpn rfl)) (Calls.mono (framed_any (Ln x.i) (by omega) w9) (fun e w2 hh => ⟨_, hh.1, rfl, hh.2⟩)) ?_
    rintro _ w10 ⟨rfl, hb⟩
    have H10 : Hid (Mm w10 [] ∧ Lr w vr (x.i + 1) (upP x.P x.i q2) w10) := ⟨H9.out.1.below hb, Lr.step H9.out.2 (hb)⟩
    clear hb
    clear H9
    simp only [Act.put, sa, sz, ss]
    refine rest_set (d := 50) (v := .slice (x.r.dp (8 + (Ln x.i) + 4)).p (x.r.dp (8 + (Ln x.i) + 4)).n (x.r.dp (8 + (Ln x.i) + 4)).cp) (w' := w10) rfl rfl rfl (ex_dpQ (q := x.r) (k := 8 + (Ln x.i) + 4) (by omega) rfl rfl rfl) ?_
    simp only [Act.put, sa, sz, ss]
    refine rest_set (d := 8) (v := .slice (x.r.dp (8 + (Ln x.i) + 4)).p (x.r.dp (8 + (Ln x.i) + 4)).n (x.r.dp (8 + (Ln x.i) + 4)).cp) (w' := w10) rfl rfl rfl (rfl) ?_
    simp only [Act.put, sa, sz, ss]
    refine rest_nil (block_normal (then_normal ?_))
    exact ⟨⟨x.i + 1, x.r.dp (8 + Ln x.i + 4), vr, upP x.P x.i q2⟩, ⟨(slotfn [undef, undef, undef, undef, s0 4, s0 5, s0 6, undef, undef, .int .i64 (((Ln x.i) : Nat) : Int), .int .i64 0, .slice ((x.r.tk (8 + (Ln x.i))).dp 8).p ((x.r.tk (8 + (Ln x.i))).dp 8).n ((x.r.tk (8 + (Ln x.i))).dp 8).cp, undef, .slice x.r.p x.r.n x.r.cp, .int .i64 ((x.r.n : Nat) : Int), .bool true, .tuple #[.int .i64 (((Ln x.i) : Nat) : Int), .int .i64 0], PT g t, .slice x.r.p x.r.n x.r.cp, .tuple #[.int .i64 (((Ln x.i) : Nat) : Int), .int .i64 0], .int .i64 (((Ln x.i) : Nat) : Int), .int .i64 0, .int .i64 0, .bool false, s0 24, .slice x.r.p x.r.n x.r.cp, .int .i64 ((x.r.n : Nat) : Int), .int .i64 (((Ln x.i) : Nat) : Int), .int .i64 ((8 + (Ln x.i) + 4 : Nat) : Int), .bool false, .slice x.r.p x.r.n x.r.cp, .int .i64 (((Ln x.i) : Nat) : Int), .int .i64 ((8 + (Ln x.i) : Nat) : Int), .slice ((x.r.tk (8 + (Ln x.i))).dp 8).p ((x.r.tk (8 + (Ln x.i))).dp 8).n ((x.r.tk (8 + (Ln x.i))).dp 8).cp, PT g t, .slice ((x.r.tk (8 + (Ln x.i))).dp 8).p ((x.r.tk (8 + (Ln x.i))).dp 8).n ((x.r.tk (8 + (Ln x.i))).dp 8).cp, .slice x.r.p x.r.n x.r.cp, .int .i64 (((Ln x.i) : Nat) : Int), .int .i64 ((8 + (Ln x.i) : Nat) : Int), .slice (x.r.dp (8 + (Ln x.i))).p (x.r.dp (8 + (Ln x.i))).n (x.r.dp (8 + (Ln x.i))).cp, .bool true, .bool false, x.v, .slice ((x.r.tk (8 + (Ln x.i))).dp 8).p ((x.r.tk (8 + (Ln x.i))).dp 8).n ((x.r.tk (8 + (Ln x.i))).dp 8).cp, .slice q2.p q2.n q2.cp, .slice (some ⟨γs8, 0, none⟩) 1 1, vr, .slice x.r.p x.r.n x.r.cp, .int .i64 (((Ln x.i) : Nat) : Int), .int .i64 ((8 + (Ln x.i) + 4 : Nat) : Int), .slice (x.r.dp (8 + (Ln x.i) + 4)).p (x.r.dp (8 + (Ln x.i) + 4)).n (x.r.dp (8 + (Ln x.i) + 4)).cp]), rfl, ⟨H10.out.1, H10.out.2⟩, Rk.next hk0 hlg.out hltx hq2n.out hq2f.out⟩, (show M - (x.i + 1) < M - x.i by omega)⟩
  have hle := hk0.ok.1.le
  have hrn := hk0.n
  have hAl := hlg.out.at_le hk0.le
  have hMn := hlg.out.mono M 0 (Nat.zero_add M)
  have hMl := hlg.out.le
  have hxM : x.i = M := by have := hk0.le; omega
  rw [hxM] at hrn hAl
  have hfx : x.r.f = sh q.f (A M) := by rw [hk0.f, hxM]
  have hhd : Hdk x.r.f L := by rw [hfx]; exact hhe.out
  have hL6 := hhd.le
  refine wp_seq (wp_seq ?_)
  refine sq_start (l := [0, 1, 2]) rfl ?_
  refine rest_set (d := 13) (v := .slice x.r.p x.r.n x.r.cp) (w' := w2) rfl rfl rfl (rfl) ?_
  simp only [Act.put, sa, sz, ss]
  refine rest_set (d := 14) (v := .int .i64 ((x.r.n : Nat) : Int)) (w' := w2) rfl rfl rfl (by go_simp) ?_
  simp only [Act.put, sa, sz, ss]
  refine rest_set (d := 15) (v := .bool true) (w' := w2) rfl rfl rfl (by go_simp <;> omega) ?_
  simp only [Act.put, sa, sz, ss]
  refine rest_nil (then_normal ?_)
  refine wp_cond_true rfl (wp_skip ?_)
  refine then_normal (wp_block (wp_seq ?_))
  refine sq_start (l := [0, 1, 2, 3, 4, 5, 6, 7]) rfl ?_
  refine rest_set (d := 17) (v := PT g t) (w' := w2) rfl rfl rfl (rfl) ?_
  simp only [Act.put, sa, sz, ss]
  refine rest_set (d := 18) (v := .slice x.r.p x.r.n x.r.cp) (w' := w2) rfl rfl rfl (rfl) ?_
  simp only [Act.put, sa, sz, ss]
  refine rest_enter (d := 19) (R := fun vv w' => vv = .tuple #[.int .i64 ((L : Nat) : Int), .int .i64 0] ∧ Below w2.heap.size w2 w') rfl rfl rfl (exec_call (args := #[PT g t, .slice x.r.p x.r.n x.r.cp]) rfl call112 rfl (mpn rfl)) (Calls.mono (length_hd g t x.r L (by omega) hhd w2 (hT.out.below H2.out.2.b) ⟨hk0.ok.1, hk0.ok.2.below H2.out.2.b⟩) (fun e w2 hh => ⟨_, hh.1, rfl, hh.2⟩)) ?_
  rintro _ w11 ⟨rfl, hb⟩
  have H11 : Hid (Mm w11 [] ∧ Lr w x.v x.i x.P w11) := ⟨H2.out.1.below hb, Lr.step H2.out.2 (hb)⟩
  clear hb
  clear H2
  simp only [Act.put, sa, sz, ss]
  refine rest_set (d := 16) (v := .tuple #[.int .i64 ((L : Nat) : Int), .int .i64 0]) (w' := w11) rfl rfl rfl (rfl) ?_
  simp only [Act.put, sa, sz, ss]
  refine rest_set (d := 20) (v := .int .i64 ((L : Nat) : Int)) (w' := w11) rfl rfl rfl (by go_simp) ?_
  simp only [Act.put, sa, sz, ss]
  refine rest_set (d := 21) (v := .int .i64 0) (w' := w11) rfl rfl rfl (by go_simp) ?_
  simp only [Act.put, sa, sz, ss]
  refine rest_set (d := 9) (v := .int .i64 ((L : Nat) : Int)) (w' := w11) rfl rfl rfl (rfl) ?_
  simp only [Act.put, sa, sz, ss]
  refine rest_set (d := 10) (v := .int .i64 0) (w' := w11) rfl rfl rfl (rfl) ?_
  simp only [Act.put, sa, sz, ss]
  refine rest_nil (then_normal ?_)
  refine wp_seq (wp_seq ?_)
  refine sq_start (l := [0, 1]) rfl ?_
  refine rest_set (d := 22) (v := .int .i64 0) (w' := w11) rfl rfl rfl (rfl) ?_
  simp only [Act.put, sa, sz, ss]
  refine rest_set (d := 23) (v := .bool false) (w' := w11) rfl rfl rfl (by kernel_rfl) ?_
  simp only [Act.put, sa, sz, ss]
  refine rest_nil (then_normal ?_)
  refine wp_cond_false rfl (wp_skip ?_)
  refine then_normal (wp_seq (wp_seq ?_))
  refine sq_start (l := [0, 1, 2, 3, 4]) rfl ?_
  refine rest_set (d := 25) (v := .slice x.r.p x.r.n x.r.cp) (w' := w11) rfl rfl rfl (rfl) ?_
  simp only [Act.put, sa, sz, ss]
  refine rest_set (d := 26) (v := .int .i64 ((x.r.n : Nat) : Int)) (w' := w11) rfl rfl rfl (by go_simp) ?_
  simp only [Act.put, sa, sz, ss]
  refine rest_set (d := 27) (v := .int .i64 ((L : Nat) : Int)) (w' := w11) rfl rfl rfl (rfl) ?_
  simp only [Act.put, sa, sz, ss]
  refine rest_enter (d := 28) (R := fun vv w' => vv = .int .i64 ((8 + L + 4 : Nat) : Int) ∧ Below w11.heap.size w11 w') rfl rfl rfl (exec_call (args := #[.int .i64 ((L : Nat) : Int)]) rfl call110 rfl (mpn rfl)) (Calls.mono (framed_any L (by omega) w11) (fun e w2 hh => ⟨_, hh.1, rfl, hh.2⟩)) ?_
  rintro _ w12 ⟨rfl, hb⟩
  have H12 : Hid (Mm w12 [] ∧ Lr w x.v x.i x.P w12) := ⟨H11.out.1.below hb, Lr.step H11.out.2 (hb)⟩
  clear hb
  clear H11
  simp only [Act.put, sa, sz, ss]
  refine rest_set (d := 29) (v := .bool true) (w' := w12) rfl rfl rfl (by go_simp <;> omega) ?_
  simp only [Act.put, sa, sz, ss]
  refine rest_nil (then_normal (wp_cond_true rfl ?_))
  refine wp_exit ?_
  repeat refine then_exit ?_
  refine block_past (by decide) ?_
  repeat refine then_exit ?_
  refine block_exit ?_
  refine then_normal (wp_seq ?_)
  refine sq_start (l := [0, 1, 2, 3, 4, 5, 6, 7, 8]) rfl ?_
  refine rest_set (d := 51) (v := x.v) (w' := w12) rfl rfl rfl (rfl) ?_
  simp only [Act.put, sa, sz, ss]
  refine rest_set (d := 52) (v := .slice q.p q.n q.cp) (w' := w12) rfl rfl rfl (rfl) ?_
  simp only [Act.put, sa, sz, ss]
  refine rest_set (d := 53) (v := .int .i64 ((q.n : Nat) : Int)) (w' := w12) rfl rfl rfl (by go_simp) ?_
  simp only [Act.put, sa, sz, ss]
  refine rest_set (d := 54) (v := .slice x.r.p x.r.n x.r.cp) (w' := w12) rfl rfl rfl (rfl) ?_
  simp only [Act.put, sa, sz, ss]
  refine rest_set (d := 55) (v := .int .i64 ((x.r.n : Nat) : Int)) (w' := w12) rfl rfl rfl (by go_simp) ?_
  simp only [Act.put, sa, sz, ss]
  refine rest_set (d := 56) (v := .int .i64 ((A M : Nat) : Int)) (w' := w12) rfl rfl rfl (by go_simp; rw [IntKind.wrap_i64]; omega) ?_
  simp only [Act.put, sa, sz, ss]
  refine rest_set (d := 4) (v := x.v) (w' := w12) rfl rfl rfl (rfl) ?_
  simp only [Act.put, sa, sz, ss]
  refine rest_set (d := 5) (v := .int .i64 ((A M : Nat) : Int)) (w' := w12) rfl rfl rfl (rfl) ?_
  simp only [Act.put, sa, sz, ss]
  refine rest_set (d := 6) (v := .int .i64 0) (w' := w12) rfl rfl rfl (rfl) ?_
  simp only [Act.put, sa, sz, ss]
  refine rest_nil (then_normal (wp_ret ?_))
  repeat (first | refine then_ret ?_ | refine block_ret ?_)
  refine bodyPost_ret (v := .tuple #[x.v, .int .i64 ((A M : Nat) : Int), .int .i64 0]) (by simp [results, Try.results84, go_sem, *]) rfl ?_
  exact ⟨_, _, rfl, by rw [← hxM]; exact H12.out.2, by rw [← hxM]; exact hk0.ps⟩
set_option maxHeartbeats 4000000 in
set_option maxRecDepth 100000 in
theorem read_badh (g t : Nat) (q : Pt8) (A Ln : Nat → Nat) (M : Nat) (hbq : q.n ≤ 1048576) (h8 : A M + 8 ≤ q.n) (w : World) (hT0 : Tb g t w) (hq0 : Pok q ∧ q.rs w) (hqn0 : q.p = none → q.cp = 0) (hlg0 : Lgk q.f q.n A Ln M) (hhe0 : Hdb (sh q.f (A M))) :
    Calls Try.prog 84 #[PT g t, .slice q.p q.n q.cp] w fun e w' => e = .returned (.tuple #[.slice none 0 0, .int .i64 0, .int .i64 14]) ∧ Below w.heap.size w w' := by
  have H0 : Hid (_ ∧ _) := ⟨Mm.nil w, Lr.start (fun _ => q) (Below.refl w.heap.size w)⟩
  have hT : Hid _ := hT0
  have hq : Hid _ := hq0
  clear hT0 hq0
  have hqn : Hid _ := hqn0
  clear hqn0
  have hlg : Hid _ := hlg0
  clear hlg0
  have hhe : Hid _ := hhe0
  clear hhe0
  go_enter Try.func84, Try.ntmps84
  refine wp_seq ?_
  refine sq_startW (l := [0, 1, 2]) rfl (fun u0 hu0 => ?_)
  have H1 : Hid (Mm u0 [] ∧ Lr w (.slice none 0 0) 0 (fun _ => q) u0) := by rw [hu0]; exact H0
  clear hu0 H0
  refine rest_set (d := 4) (v := .slice none 0 0) (w' := u0) rfl rfl rfl (rfl) ?_
  simp only [Act.put, sa, sz, ss]
  refine rest_set (d := 5) (v := .int .i64 0) (w' := u0) rfl rfl rfl (rfl) ?_
  simp only [Act.put, sa, sz, ss]
  refine rest_set (d := 6) (v := .int .i64 0) (w' := u0) rfl rfl rfl (rfl) ?_
  simp only [Act.put, sa, sz, ss]
  refine rest_nil (then_normal (wp_seq ?_))
  refine sq_start (l := [0]) rfl ?_
  refine rest_set (d := 7) (v := .slice none 0 0) (w' := u0) rfl rfl rfl (rfl) ?_
  simp only [Act.put, sa, sz, ss]
  refine rest_nil (then_normal (wp_seq ?_))
  refine sq_start (l := [0, 1]) rfl ?_
  refine rest_set (d := 12) (v := .slice q.p q.n q.cp) (w' := u0) rfl rfl rfl (rfl) ?_
  simp only [Act.put, sa, sz, ss]
  refine rest_set (d := 8) (v := .slice q.p q.n q.cp) (w' := u0) rfl rfl rfl (rfl) ?_
  simp only [Act.put, sa, sz, ss]
  refine rest_nil (then_normal ?_)
  refine wp_seq (wp_block ?_)
  refine loop_ghost (α := Gr) (fun x a' w' => ∃ s0 : Nat → Value, a' = ⟨#[PT g t, .slice q.p q.n q.cp, undef, undef, s0 4, s0 5, s0 6, x.v, .slice x.r.p x.r.n x.r.cp, s0 9, s0 10, s0 11, .slice q.p q.n q.cp, s0 13, s0 14, s0 15, s0 16, s0 17, s0 18, s0 19, s0 20, s0 21, s0 22, s0 23, s0 24, s0 25, s0 26, s0 27, s0 28, s0 29, s0 30, s0 31, s0 32, s0 33, s0 34, s0 35, s0 36, s0 37, s0 38, s0 39, s0 40, s0 41, s0 42, s0 43, s0 44, s0 45, s0 46, s0 47, s0 48, s0 49, s0 50, undef, undef, undef, undef, undef, undef], []⟩ ∧ (Mm w' [] ∧ Lr w x.v x.i x.P w') ∧ Rk q A Ln M w x) (fun x => M - x.i) ⟨0, q, .slice none 0 0, fun _ => q⟩ ?st0 ?rd0
  case st0 => exact ⟨(slotfn [undef, undef, undef, undef, .slice none 0 0, .int .i64 0, .int .i64 0, undef, undef, undef, undef, undef, undef, undef, undef, undef, undef, undef, undef, undef, undef, undef, undef, undef, undef, undef, undef, undef, undef, undef, undef, undef, undef, undef, undef, undef, undef, undef, undef, undef, undef, undef, undef, undef, undef, undef, undef, undef, undef, undef, undef]), rfl, ⟨H1.out.1, H1.out.2⟩, ⟨Nat.zero_le _, hq.out, hqn.out, by show q.n + A 0 = q.n; rw [hlg.out.z, Nat.add_zero], by show q.f = sh q.f (A 0); rw [hlg.out.z]; funext j; show q.f j = q.f (0 + j); rw [Nat.zero_add], fun i hi => absurd hi (Nat.not_lt_zero _)⟩⟩
  intro x a' w2 hI
  obtain ⟨s0, rfl, hMB, hk0⟩ := hI
  have H2 : Hid (_ ∧ _) := hMB
  clear hMB H1
  by_cases hltx : x.i < M
  · have hrd : True := trivial
    clear hrd
    have hle := hk0.ok.1.le
    have hrn := hk0.n
    have hAl := hlg.out.at_le hk0.le
    have hMn := hlg.out.mono M 0 (Nat.zero_add M)
    have hMl := hlg.out.le
    have hnx := hlg.out.nx_le hltx
    have hhd : Hdk x.r.f (Ln x.i) := by rw [hk0.f]; exact hlg.out.hd x.i hltx
    have hbd : Bdk x.r.f (Ln x.i) := by rw [hk0.f]; exact hlg.out.bd x.i hltx
    have hL6 := hhd.le
    refine wp_seq (wp_seq ?_)
    refine sq_start (l := [0, 1, 2]) rfl ?_
    refine rest_set (d := 13) (v := .slice x.r.p x.r.n x.r.cp) (w' := w2) rfl rfl rfl (rfl) ?_
    simp only [Act.put, sa, sz, ss]
    refine rest_set (d := 14) (v := .int .i64 ((x.r.n : Nat) : Int)) (w' := w2) rfl rfl rfl (by go_simp) ?_
    simp only [Act.put, sa, sz, ss]
    refine rest_set (d := 15) (v := .bool true) (w' := w2) rfl rfl rfl (by go_simp <;> omega) ?_
    simp only [Act.put, sa, sz, ss]
    refine rest_nil (then_normal ?_)
    refine wp_cond_true rfl (wp_skip ?_)
    refine then_normal (wp_block (wp_seq ?_))
    refine sq_start (l := [0, 1, 2, 3, 4, 5, 6, 7]) rfl ?_
    refine rest_set (d := 17) (v := PT g t) (w' := w2) rfl rfl rfl (rfl) ?_
    simp only [Act.put, sa, sz, ss]
    refine rest_set (d := 18) (v := .slice x.r.p x.r.n x.r.cp) (w' := w2) rfl rfl rfl (rfl) ?_
    simp only [Act.put, sa, sz, ss]
    refine rest_enter (d := 19) (R := fun vv w' => vv = .tuple #[.int .i64 (((Ln x.i) : Nat) : Int), .int .i64 0] ∧ Below w2.heap.size w2 w') rfl rfl rfl (exec_call (args := #[PT g t, .slice x.r.p x.r.n x.r.cp]) rfl call112 rfl (mpn rfl)) (Calls.mono (length_hd g t x.r (Ln x.i) (by omega) hhd w2 (hT.out.below H2.out.2.b) ⟨hk0.ok.1, hk0.ok.2.below H2.out.2.b⟩) (fun e w2 hh => ⟨_, hh.1, rfl, hh.2⟩)) ?_
    rintro _ w3 ⟨rfl, hb⟩
    have H3 : Hid (Mm w3 [] ∧ Lr w x.v x.i x.P w3) := ⟨H2.out.1.below hb, Lr.step H2.out.2 (hb)⟩
    clear hb
    clear H2
    simp only [Act.put, sa, sz, ss]
    refine rest_set (d := 16) (v := .tuple #[.int .i64 (((Ln x.i) : Nat) : Int), .int .i64 0]) (w' := w3) rfl rfl rfl (rfl) ?_
    simp only [Act.put, sa, sz, ss]
    refine rest_set (d := 20) (v := .int .i64 (((Ln x.i) : Nat) : Int)) (w' := w3) rfl rfl rfl (by go_simp) ?_
    simp only [Act.put, sa, sz, ss]
    refine rest_set (d := 21) (v := .int .i64 0) (w' := w3) rfl rfl rfl (by go_simp) ?_
    simp only [Act.put, sa, sz, ss]
    refine rest_set (d := 9) (v := .int .i64 (((Ln x.i) : Nat) : Int)) (w' := w3) rfl rfl rfl (rfl) ?_
    simp only [Act.put, sa, sz, ss]
    refine rest_set (d := 10) (v := .int .i64 0) (w' := w3) rfl rfl rfl (rfl) ?_
    simp only [Act.put, sa, sz, ss]
    refine rest_nil (then_normal ?_)
    refine wp_seq (wp_seq ?_)
    refine sq_start (l := [0, 1]) rfl ?_
    refine rest_set (d := 22) (v := .int .i64 0) (w' := w3) rfl rfl rfl (rfl) ?_
    simp only [Act.put, sa, sz, ss]
    refine rest_set (d := 23) (v := .bool false) (w' := w3) rfl rfl rfl (by kernel_rfl) ?_
    simp only [Act.put, sa, sz, ss]
    refine rest_nil (then_normal ?_)
    refine wp_cond_false rfl (wp_skip ?_)
    refine then_normal (wp_seq (wp_seq ?_))
    refine sq_start (l := [0, 1, 2, 3, 4]) rfl ?_
    refine rest_set (d := 25) (v := .slice x.r.p x.r.n x.r.cp) (w' := w3) rfl rfl rfl (rfl) ?_
    simp only [Act.put, sa, sz, ss]
    refine rest_set (d := 26) (v := .int .i64 ((x.r.n : Nat) : Int)) (w' := w3) rfl rfl rfl (by go_simp) ?_
    simp only [Act.put, sa, sz, ss]
    refine rest_set (d := 27) (v := .int .i64 (((Ln x.i) : Nat) : Int)) (w' := w3) rfl rfl rfl (rfl) ?_
    simp only [Act.put, sa, sz, ss]
    refine rest_enter (d := 28) (R := fun vv w' => vv = .int .i64 ((8 + (Ln x.i) + 4 : Nat) : Int) ∧ Below w3.heap.size w3 w') rfl rfl rfl (exec_call (args := #[.int .i64 (((Ln x.i) : Nat) : Int)]) rfl call110 rfl (mpn rfl)) (Calls.mono (framed_any (Ln x.i) (by omega) w3) (fun e w2 hh => ⟨_, hh.1, rfl, hh.2⟩)) ?_
    rintro _ w4 ⟨rfl, hb⟩
    have H4 : Hid (Mm w4 [] ∧ Lr w x.v x.i x.P w4) := ⟨H3.out.1.below hb, Lr.step H3.out.2 (hb)⟩
    clear hb
    clear H3
    simp only [Act.put, sa, sz, ss]
    refine rest_set (d := 29) (v := .bool false) (w' := w4) rfl rfl rfl (by go_simp <;> omega) ?_
    simp only [Act.put, sa, sz, ss]
    refine rest_nil (then_normal ?_)
    refine wp_cond_false rfl (wp_skip ?_)
    refine then_normal (wp_seq ?_)
    refine sq_start (l := [0, 1, 2, 3, 4]) rfl ?_
    refine rest_set (d := 30) (v := .slice x.r.p x.r.n x.r.cp) (w' := w4) rfl rfl rfl (rfl) ?_
    simp only [Act.put, sa, sz, ss]
    refine rest_set (d := 31) (v := .int .i64 (((Ln x.i) : Nat) : Int)) (w' := w4) rfl rfl rfl (rfl) ?_
    simp only [Act.put, sa, sz, ss]
    refine rest_set (d := 32) (v := .int .i64 ((8 + (Ln x.i) : Nat) : Int)) (w' := w4) rfl rfl rfl (by go_simp; rw [IntKind.wrap_i64]; omega) ?_
    simp only [Act.put, sa, sz, ss]
    refine rest_set (d := 33) (v := .slice ((x.r.tk (8 + (Ln x.i))).dp 8).p ((x.r.tk (8 + (Ln x.i))).dp 8).n ((x.r.tk (8 + (Ln x.i))).dp 8).cp) (w' := w4) rfl rfl rfl (ex_mdQ (q := x.r) (k := 8) (m := 8 + (Ln x.i)) (by omega) (by omega) rfl rfl rfl rfl) ?_
    simp only [Act.put, sa, sz, ss]
    refine rest_set (d := 11) (v := .slice ((x.r.tk (8 + (Ln x.i))).dp 8).p ((x.r.tk (8 + (Ln x.i))).dp 8).n ((x.r.tk (8 + (Ln x.i))).dp 8).cp) (w' := w4) rfl rfl rfl (rfl) ?_
    simp only [Act.put, sa, sz, ss]
    refine rest_nil (then_normal ?_)
    refine wp_seq (wp_seq ?_)
    refine sq_start (l := [0, 1, 2, 3, 4, 5, 6, 7]) rfl ?_
    refine rest_set (d := 34) (v := PT g t) (w' := w4) rfl rfl rfl (rfl) ?_
    simp only [Act.put, sa, sz, ss]
    refine rest_set (d := 35) (v := .slice ((x.r.tk (8 + (Ln x.i))).dp 8).p ((x.r.tk (8 + (Ln x.i))).dp 8).n ((x.r.tk (8 + (Ln x.i))).dp 8).cp) (w' := w4) rfl rfl rfl (rfl) ?_
    simp only [Act.put, sa, sz, ss]
    refine rest_set (d := 36) (v := .slice x.r.p x.r.n x.r.cp) (w' := w4) rfl rfl rfl (rfl) ?_
    simp only [Act.put, sa, sz, ss]
    refine rest_set (d := 37) (v := .int .i64 (((Ln x.i) : Nat) : Int)) (w' := w4) rfl rfl rfl (rfl) ?_
    simp only [Act.put, sa, sz, ss]
    refine rest_set (d := 38) (v := .int .i64 ((8 + (Ln x.i) : Nat) : Int)) (w' := w4) rfl rfl rfl (by go_simp; rw [IntKind.wrap_i64]; omega) ?_
    simp only [Act.put, sa, sz, ss]
    refine rest_set (d := 39) (v := .slice (x.r.dp (8 + (Ln x.i))).p (x.r.dp (8 + (Ln x.i))).n (x.r.dp (8 + (Ln x.i))).cp) (w' := w4) rfl rfl rfl (ex_dpQ (q := x.r) (k := 8 + (Ln x.i)) (by omega) rfl rfl rfl) ?_
    simp only [Act.put, sa, sz, ss]
    refine rest_enter (d := 40) (R := fun vv w' => vv = .bool true ∧ Below w4.heap.size w4 w') rfl rfl rfl (exec_call (args := #[PT g t, .slice ((x.r.tk (8 + (Ln x.i))).dp 8).p ((x.r.tk (8 + (Ln x.i))).dp 8).n ((x.r.tk (8 + (Ln x.i))).dp 8).cp, .slice (x.r.dp (8 + (Ln x.i))).p (x.r.dp (8 + (Ln x.i))).n (x.r.dp (8 + (Ln x.i))).cp]) rfl call113 rfl (mpn rfl)) (Calls.mono (holds_bd g t x.r (Ln x.i) (by omega) (by omega) true (decide_eq_true hbd) w4 (hT.out.below H4.out.2.b) ⟨hk0.ok.1, hk0.ok.2.below H4.out.2.b⟩) (fun e w2 hh => ⟨_, hh.1, rfl, hh.2⟩)) ?_
    rintro _ w5 ⟨rfl, hb⟩
    have H5 : Hid (Mm w5 [] ∧ Lr w x.v x.i x.P w5) := ⟨H4.out.1.below hb, Lr.step H4.out.2 (hb)⟩
    clear hb
    clear H4
    simp only [Act.put, sa, sz, ss]
    refine rest_set (d := 41) (v := .bool false) (w' := w5) rfl rfl rfl (by go_simp) ?_
    simp only [Act.put, sa, sz, ss]
    refine rest_nil (then_normal ?_)
    refine wp_cond_false rfl (wp_skip ?_)
    refine then_normal (wp_seq ?_)
    refine sq_start (l := [0, 1, 2, 3, 4, 5]) rfl ?_
    refine rest_set (d := 42) (v := x.v) (w' := w5) rfl rfl rfl (rfl) ?_
    simp only [Act.put, sa, sz, ss]
    refine rest_set (d := 43) (v := .slice ((x.r.tk (8 + (Ln x.i))).dp 8).p ((x.r.tk (8 + (Ln x.i))).dp 8).n ((x.r.tk (8 + (Ln x.i))).dp 8).cp) (w' := w5) rfl rfl rfl (rfl) ?_
    simp only [Act.put, sa, sz, ss]
    refine rest_enter (d := 44) (R := fun vv w' => Cw w5 vv ((x.r.tk (8 + (Ln x.i))).dp 8).n ((x.r.tk (8 + (Ln x.i))).dp 8).f w') rfl rfl rfl (exec_call (args := #[.slice ((x.r.tk (8 + (Ln x.i))).dp 8).p ((x.r.tk (8 + (Ln x.i))).dp 8).n ((x.r.tk (8 + (Ln x.i))).dp 8).cp]) rfl call114 rfl (mpn rfl)) (Calls.mono (bclone_any ((x.r.tk (8 + (Ln x.i))).dp 8) (by show 8 + (Ln x.i) - 8 ≤ _; omega) w5 ((hk0.ok.1.tk (by omega)).dp (by show 8 ≤ 8 + (Ln x.i); omega)) (Pt8.dp_no (Pt8.tk_no hk0.no _) _) (Pt8.rs_dp (Pt8.rs_tk (hk0.ok.2.below H5.out.2.b) (by omega)) (by show 8 ≤ 8 + (Ln x.i); omega))) (fun e w2 hh => by obtain ⟨v', he, hO⟩ := hh; exact ⟨_, he, hO⟩)) ?_
    rintro vc w6 hO
    obtain ⟨q2, rfl, e2, e3, e4, e5, e6, e7⟩ := hO.part
    have hq2 : Hid (Pok q2 ∧ (q2.p = none → q2.cp = 0) ∧ (0 < q2.n → w.heap.size ≤ q2.gb ∧ q2.gb ∉ vbl x.v)) := ⟨e2, e3, fun h0 => ⟨Nat.le_trans H5.out.2.b.size (e7 h0), fun hx => absurd (own_lt H5.out.2.own _ hx) (Nat.not_lt.2 (e7 h0))⟩⟩
    have hq2n : Hid (q2.n = ((x.r.tk (8 + (Ln x.i))).dp 8).n) := e4
    have hq2f : Hid (q2.f = ((x.r.tk (8 + (Ln x.i))).dp 8).f) := e5
    have H6 : Hid (Mm w6 [] ∧ Lr w x.v x.i x.P w6 ∧ q2.rs w6) := ⟨Mm.nil _, H5.out.2.step hO.b, e6⟩
    clear hO e2 e3 e4 e5 e6 e7 H5
    have hq2z : Hid _ := H6.out.2.2
    have H7 : Hid (Mm w6 [] ∧ Lr w x.v x.i x.P w6) := ⟨Mm.nil _, H6.out.2.1⟩
    clear H6
    simp only [Act.put, sa, sz, ss]
    have hq2r : Hid (q2.rs (w6.alloc (.cells ([Value.slice q2.p q2.n q2.cp] : List Value).toArray 34))) := hq2z.out.below ((Below.refl _ _).alloc (Nat.le_refl _) _)
    refine rest_set (d := 45) (v := .slice (some ⟨w6.heap.size, 0, none⟩) 1 1) (w' := (w6.alloc (.cells ([Value.slice q2.p q2.n q2.cp] : List Value).toArray 34))) rfl rfl rfl (ex_bs61_1 rfl rfl) ?_
    simp only [Act.put, sa, sz, ss]
    have o_γs8 : Hid (w.heap.size ≤ w6.heap.size) := H7.out.2.b.size
    have H8 : Hid (Mm (w6.alloc (.cells ([Value.slice q2.p q2.n q2.cp] : List Value).toArray 34)) ((w6.heap.size, [Value.slice q2.p q2.n q2.cp]) :: []) ∧ Lr w x.v x.i x.P (w6.alloc (.cells ([Value.slice q2.p q2.n q2.cp] : List Value).toArray 34))) := ⟨H7.out.1.alloc _ 34 rfl, Lr.step H7.out.2 (((Below.refl _ _).alloc (Nat.le_refl _) _))⟩
    clear H7
    generalize hgw : w6.alloc (.cells ([Value.slice q2.p q2.n q2.cp] : List Value).toArray 34) = w8 at hq2r H8 ⊢
    clear hgw
    generalize w6.heap.size = γs8 at o_γs8 H8 ⊢
    obtain ⟨vr, w9, hr, hO⟩ := H8.out.2.app (by omega) (q := q2) ⟨hq2.out.1, hq2.out.2.1, hq2r.out, hq2.out.2.2⟩ (H8.out.1.get 0 rfl 0 rfl) 61
    refine rest_set (d := 46) (v := vr) (w' := w9) rfl rfl rfl (ex_appL rfl rfl rfl hr) ?_
    simp only [Act.put, sa, sz, ss]
    have H9 : Hid (Mm w9 [] ∧ Lr w vr (x.i + 1) (upP x.P x.i q2) w9) := ⟨Mm.nil _, hO⟩
    clear hr hO H8
    refine rest_set (d := 7) (v := vr) (w' := w9) rfl rfl rfl (rfl) ?_
    simp only [Act.put, sa, sz, ss]
    refine rest_nil (then_normal ?_)
    refine sq_start (l := [0, 1, 2, 3, 4]) rfl ?_
    refine rest_set (d := 47) (v := .slice x.r.p x.r.n x.r.cp) (w' := w9) rfl rfl rfl (rfl) ?_
    simp only [Act.put, sa, sz, ss]
    refine rest_set (d := 48) (v := .int .i64 (((Ln x.i) : Nat) : Int)) (w' := w9) rfl rfl rfl (rfl) ?_
    simp only [Act.put, sa, sz, ss]
    refine rest_enter (d := 49) (R := fun vv w' => vv = .int .i64 ((8 + (Ln x.i) + 4 : Nat) : Int) ∧ Below w9.heap.size w9 w') rfl rfl rfl (exec_call (args := #[.int .i64 (((Ln x.i) : Nat) : Int)]) rfl call110 rfl (mpn rfl)) (Calls.mono (framed_any (Ln x.i) (by omega) w9) (fun e w2 hh => ⟨_, hh.1, rfl, hh.2⟩)) ?_
    rintro _ w10 ⟨rfl, hb⟩
    have H10 : Hid (Mm w10 [] ∧ Lr w vr (x.i + 1) (upP x.P x.i q2) w10) := ⟨H9.out.1.below hb, Lr.step H9.out.2 (hb)⟩
    clear hb
    clear H9
    simp only [Act.put, sa, sz, ss]
    refine rest_set (d := 50) (v := .slice (x.r.dp (8 + (Ln x.i) + 4)).p (x.r.dp (8 + (Ln x.i) + 4)).n (x.r.dp (8 + (Ln x.i) + 4)).cp) (w' := w10) rfl rfl rfl (ex_dpQ (q := x.r) (k := 8 + (Ln x.i) + 4) (by omega) rfl rfl rfl) ?_
    simp only [Act.put, sa, sz, ss]
    refine rest_set (d := 8) (v := .slice (x.r.dp (8 + (Ln x.i) + 4)).p (x.r.dp (8 + (Ln x.i) + 4)).n (x.r.dp (8 + (Ln x.i) + 4)).cp) (w' := w10) rfl rfl rfl (rfl) ?_
    simp only [Act.put, sa, sz, ss]
    refine rest_nil (block_normal (then_normal ?_))
    exact ⟨⟨x.i + 1, x.r.dp (8 + Ln x.i + 4), vr, upP x.P x.i q2⟩, ⟨(slotfn [undef, undef, undef, undef, s0 4, s0 5, s0 6, undef, undef, .int .i64 (((Ln x.i) : Nat) : Int), .int .i64 0, .slice ((x.r.tk (8 + (Ln x.i))).dp 8).p ((x.r.tk (8 + (Ln x.i))).dp 8).n ((x.r.tk (8 + (Ln x.i))).dp 8).cp, undef, .slice x.r.p x.r.n x.r.cp, .int .i64 ((x.r.n : Nat) : Int), .bool true, .tuple #[.int .i64 (((Ln x.i) : Nat) : Int), .int .i64 0], PT g t, .slice x.r.p x.r.n x.r.cp, .tuple #[.int .i64 (((Ln x.i) : Nat) : Int), .int .i64 0], .int .i64 (((Ln x.i) : Nat) : Int), .int .i64 0, .int .i64 0, .bool false, s0 24, .slice x.r.p x.r.n x.r.cp, .int .i64 ((x.r.n : Nat) : Int), .int .i64 (((Ln x.i) : Nat) : Int), .int .i64 ((8 + (Ln x.i) + 4 : Nat) : Int), .bool false, .slice x.r.p x.r.n x.r.cp, .int .i64 (((Ln x.i) : Nat) : Int), .int .i64 ((8 + (Ln x.i) : Nat) : Int), .slice ((x.r.tk (8 + (Ln x.i))).dp 8).p ((x.r.tk (8 + (Ln x.i))).dp 8).n ((x.r.tk (8 + (Ln x.i))).dp 8).cp, PT g t, .slice ((x.r.tk (8 + (Ln x.i))).dp 8).p ((x.r.tk (8 + (Ln x.i))).dp 8).n ((x.r.tk (8 + (Ln x.i))).dp 8).cp, .slice x.r.p x.r.n x.r.cp, .int .i64 (((Ln x.i) : Nat) : Int), .int .i64 ((8 + (Ln x.i) : Nat) : Int), .slice (x.r.dp (8 + (Ln x.i))).p (x.r.dp (8 + (Ln x.i))).n (x.r.dp (8 + (Ln x.i))).cp, .bool true, .bool false, x.v, .slice ((x.r.tk (8 + (Ln x.i))).dp 8).p ((x.r.tk (8 + (Ln x.i))).dp 8).n ((x.r.tk (8 + (Ln x.i))).dp 8).cp, .slice q2.p q2.n q2.cp, .slice (some ⟨γs8, 0, none⟩) 1 1, vr, .slice x.r.p x.r.n x.r.cp, .int .i64 (((Ln x.i) : Nat) : Int), .int .i64 ((8 + (Ln x.i) + 4 : Nat) : Int), .slice (x.r.dp (8 + (Ln x.i) + 4)).p (x.r.dp (8 + (Ln x.i) + 4)).n (x.r.dp (8 + (Ln x.i) + 4)).cp]), rfl, ⟨H10.out.1, H10.out.2⟩, Rk.next hk0 hlg.out hltx hq2n.out hq2f.out⟩, (show M - (x.i + 1) < M - x.i by omega)⟩
  · have hrd : True := trivial
    clear hrd
    have hle := hk0.ok.1.le
    have hrn := hk0.n
    have hAl := hlg.out.at_le hk0.le
    have hMn := hlg.out.mono M 0 (Nat.zero_add M)
    have hMl := hlg.out.le
    have hxM : x.i = M := by have := hk0.le; omega
    rw [hxM] at hrn hAl
    have hfx : x.r.f = sh q.f (A M) := by rw [hk0.f, hxM]
    have hbh : Hdb x.r.f := by rw [hfx]; exact hhe.out
    refine wp_seq (wp_seq ?_)
    refine sq_start (l := [0, 1, 2]) rfl ?_
    refine rest_set (d := 13) (v := .slice x.r.p x.r.n x.r.cp) (w' := w2) rfl rfl rfl (rfl) ?_
    simp only [Act.put, sa, sz, ss]
    refine rest_set (d := 14) (v := .int .i64 ((x.r.n : Nat) : Int)) (w' := w2) rfl rfl rfl (by go_simp) ?_
    simp only [Act.put, sa, sz, ss]
    refine rest_set (d := 15) (v := .bool true) (w' := w2) rfl rfl rfl (by go_simp <;> omega) ?_
    simp only [Act.put, sa, sz, ss]
    refine rest_nil (then_normal ?_)
    refine wp_cond_true rfl (wp_skip ?_)
    refine then_normal (wp_block (wp_seq ?_))
    refine sq_start (l := [0, 1, 2, 3, 4, 5, 6, 7]) rfl ?_
    refine rest_set (d := 17) (v := PT g t) (w' := w2) rfl rfl rfl (rfl) ?_
    simp only [Act.put, sa, sz, ss]
    refine rest_set (d := 18) (v := .slice x.r.p x.r.n x.r.cp) (w' := w2) rfl rfl rfl (rfl) ?_
    simp only [Act.put, sa, sz, ss]
    refine rest_enter (d := 19) (R := fun vv w' => vv = .tuple #[.int .i64 0, .int .i64 14] ∧ Below w2.heap.size w2 w') rfl rfl rfl (exec_call (args := #[PT g t, .slice x.r.p x.r.n x.r.cp]) rfl call112 rfl (mpn rfl)) (Calls.mono (length_no g t x.r (by omega) hbh w2 (hT.out.below H2.out.2.b) ⟨hk0.ok.1, hk0.ok.2.below H2.out.2.b⟩) (fun e w2 hh => ⟨_, hh.1, rfl, hh.2⟩)) ?_
    rintro _ w11 ⟨rfl, hb⟩
    have H11 : Hid (Mm w11 [] ∧ Lr w x.v x.i x.P w11) := ⟨H2.out.1.below hb, Lr.step H2.out.2 (hb)⟩
    clear hb
    clear H2
    simp only [Act.put, sa, sz, ss]
    refine rest_set (d := 16) (v := .tuple #[.int .i64 0, .int .i64 14]) (w' := w11) rfl rfl rfl (rfl) ?_
    simp only [Act.put, sa, sz, ss]
    refine rest_set (d := 20) (v := .int .i64 0) (w' := w11) rfl rfl rfl (by go_simp) ?_
    simp only [Act.put, sa, sz, ss]
    refine rest_set (d := 21) (v := .int .i64 14) (w' := w11) rfl rfl rfl (by go_simp) ?_
    simp only [Act.put, sa, sz, ss]
    refine rest_set (d := 9) (v := .int .i64 0) (w' := w11) rfl rfl rfl (rfl) ?_
    simp only [Act.put, sa, sz, ss]
    refine rest_set (d := 10) (v := .int .i64 14) (w' := w11) rfl rfl rfl (rfl) ?_
    simp only [Act.put, sa, sz, ss]
    refine rest_nil (then_normal ?_)
    refine wp_seq (wp_seq ?_)
    refine sq_start (l := [0, 1]) rfl ?_
    refine rest_set (d := 22) (v := .int .i64 14) (w' := w11) rfl rfl rfl (rfl) ?_
    simp only [Act.put, sa, sz, ss]
    refine rest_set (d := 23) (v := .bool true) (w' := w11) rfl rfl rfl (by kernel_rfl) ?_
    simp only [Act.put, sa, sz, ss]
    refine rest_nil (then_normal ?_)
    refine wp_cond_true rfl (wp_seq ?_)
    refine sq_start (l := [0, 1, 2, 3]) rfl ?_
    refine rest_set (d := 24) (v := .int .i64 14) (w' := w11) rfl rfl rfl (rfl) ?_
    simp only [Act.put, sa, sz, ss]
    refine rest_set (d := 4) (v := .slice none 0 0) (w' := w11) rfl rfl rfl (rfl) ?_
    simp only [Act.put, sa, sz, ss]
    refine rest_set (d := 5) (v := .int .i64 0) (w' := w11) rfl rfl rfl (rfl) ?_
    simp only [Act.put, sa, sz, ss]
    refine rest_set (d := 6) (v := .int .i64 14) (w' := w11) rfl rfl rfl (rfl) ?_
    simp only [Act.put, sa, sz, ss]
    refine rest_nil (then_normal (wp_ret ?_))
    repeat (first | refine then_ret ?_ | refine block_ret ?_)
    refine bodyPost_ret (v := .tuple #[.slice none 0 0, .int .i64 0, .int .i64 14]) (by simp [results, Try.results84, go_sem, *]) rfl ?_
    exact ⟨rfl, H11.out.2.b⟩
end Wi
end Rg
end Go.Proofs.Ytidicdlfjdlpnaa
end
section
namespace Go.Proofs.Ytidicdlfjdlpnaa
open Go.RowKit
namespace Rg
namespace Wi
set_option maxRecDepth 100000
theorem DOk.chg {w u : World} {D : Dq} {L : List Nat} (h : DOk w D) (hc : Chg L w u) (hn : ∀ x ∈ L, x ∉ D.bl) : DOk u D := by
  obtain ⟨X, x1, x2, x3, x4⟩ := h.mp
  obtain ⟨n, Y, y1, y2⟩ := h.rm
  have hd : D.d ∈ D.bl := by unfold Dq.bl; simp
  have hm : D.mb ∈ D.bl := by unfold Dq.bl; simp
  have hr : D.rb ∈ D.bl := by unfold Dq.bl; simp
  exact ⟨hc.mm h.cel (fun p hp hx => by obtain rfl := List.mem_singleton.1 hp; exact hn _ hx hd), ⟨X, ownMap_keep x1 (hc.block _ x1.lt (fun hx => hn _ hx hm)), x2, x3, x4⟩, ⟨n, Y, ownMap_keep y1 (hc.block _ y1.lt (fun hx => hn _ hx hr)), y2⟩, fun f hf => (h.fl f hf).chg hc (fun x hx hx2 => hn x hx2 (Dq.fbl hf x hx)), h.ap, h.hd, h.h3, h.un, h.k1, h.n64⟩
/-- A new file. -/
def newF (s : ByteArray) (g : Nat) : Fq := ⟨s, g, .slice none 0 0, .slice none 0 0, 0, fun _ => 0, [], true⟩
theorem newF_bl (s : ByteArray) (g : Nat) : ∀ x ∈ (newF s g).bl, x = g := fun x hx => by
  unfold Fq.bl newF fbl at hx
  simpa [Value.ownBlock] using hx
theorem newF_ok {u : World} (s : ByteArray) {g : Nat} (hm : Mm u [(g, [Value.slice none 0 0, Value.slice none 0 0, Value.bool true])]) : FOk u (newF s g) :=
  ⟨hm, ⟨World.ownsRow_nil _ _ _ _, World.ownsRow_nil _ _ _ _, fun o ho => (by cases ho)⟩, ⟨fun hx => (by cases hx), fun hx => (by cases hx), fun o ho => (by cases ho), fun x hx => (by cases hx), fun x hx => (by cases hx), fun x hx => (by cases hx)⟩, fun i hi => absurd hi (Nat.not_lt_zero _), Nat.zero_le _, Nat.zero_le _⟩
theorem Append_new_f (D : Dq) (s : ByteArray) (hs : s.size ≤ 281474976710656) (q : Pt8) (w : World) (h : DOk w D) (hk : D.k + 1 < 4611686018427387904) (hq : Rq q D w) (hno : D.no = false) (hnm : nmd s = true) (hl : lk D.fs s = none) (hL64 : D.fs.length < 64) (hL : q.n ≤ 1048576) :
    Calls Try.prog 19 #[PT D.d 0, .string s, .slice q.p q.n q.cp] w fun e w' => e = .returned (.int .i64 0) ∧ ∃ (g : Nat) (q2 : Pt8) (v : Value), q2.n = q.n ∧ q2.f = q.f ∧ Dw w D (D.tick.add ((newF s g).more v (appo 0 q2))) w' := by
  have hsz : s.size ≤ maxLen := by unfold maxLen; omega
  have hb0 : ∀ u u', Below w.heap.size w u → Below u.heap.size u u' → Below w.heap.size w u' := fun u u' h1 h2 => h1.trans (h2.mono h1.size)
  let I5 : Nat → World → Prop := fun g u => Dw w D D.tick u ∧ FOk u (newF s g) ∧ g ∉ D.bl ∧ w.heap.size ≤ g
  let I2 : Nat → Pt8 → World → Prop := fun g q2 u => I5 g u ∧ (appo 0 q2).ok u ∧ q2.n = q.n ∧ q2.f = q.f ∧ (0 < q2.n → q2.gb ∉ D.bl ∧ q2.gb ≠ g ∧ w.heap.size ≤ q2.gb)
  let I3 : Nat → World → Prop := fun g u => ∃ (q2 : Pt8) (v : Value), q2.n = q.n ∧ q2.f = q.f ∧ Dw w D D.tick u ∧ FOk u ((newF s g).more v (appo 0 q2)) ∧ ∀ x ∈ ((newF s g).more v (appo 0 q2)).bl, x ∉ D.bl ∧ w.heap.size ≤ x
  let I4 : World → Prop := fun u => ∃ (g : Nat) (q2 : Pt8) (v : Value), q2.n = q.n ∧ q2.f = q.f ∧ Dw w D (D.tick.add ((newF s g).more v (appo 0 q2))) u
  have s5 : ∀ g u u', I5 g u → Below u.heap.size u u' → I5 g u' := fun g u u' ⟨e1, e2, e3, e4⟩ hb => ⟨Dw.step _ _ e1 hb, e2.below hb, e3, e4⟩
  have s4 : ∀ u u', I4 u → Below u.heap.size u u' → I4 u' := fun u u' ⟨g, q2, v, e1, e2, e3⟩ hb => ⟨g, q2, v, e1, e2, Dw.step _ _ e3 hb⟩
  refine Append_new D.d D.mb D.rb D.fs.length 0 s q ((D.k + 1 : Nat) : Int) hL64 (Nat.zero_le _) (by omega) (by omega) (fun u => Below w.heap.size w u) (Dw w D D.tick) I5 I2 I3 I4 w (Below.refl _ _) hb0 Dw.step s5 ?_ ?_ (fun u hu => hu.1.cel) ?_ ?_ ?_ ?_
    (fun g q2 u u' ⟨e1, e2, e3, e4, e5⟩ hb => ⟨s5 _ _ _ e1 hb, e2.below hb, e3, e4, e5⟩) (fun g u u' ⟨q2, v, e1, e2, e3, e4, e5⟩ hb => ⟨q2, v, e1, e2, Dw.step _ _ e3 hb, e4.below hb, e5⟩) s4 ?_ ?_ ?_
  · intro u hu
    exact (count_f D u (h.below hu) hk).mono fun e u' hh => ⟨by rw [hh.1, hno]; rfl, hh.2.1, (Chg.of hu).trans hh.2.2 (fun x hx => .inl hx), fun x hx => .inl hx⟩
  · intro u _
    exact (named_any s u).mono fun e u' hh => ⟨by rw [hh.1, hnm], hh.2⟩
  · intro u hu
    have e := hu.1.look (u := u) s hsz rfl
    rw [show lk D.tick.fs s = none from hl] at e
    exact e
  · intro u hu ty
    obtain ⟨X, x1, _, _, x4⟩ := hu.1.mp
    have e := x1.len Try.underlying39 ty
    rw [x4] at e
    exact e
  · intro u hu
    have hb : Below u.heap.size u (u.alloc (.cells ([Value.slice none 0 0, Value.slice none 0 0, Value.bool true] : List Value).toArray 117)) := (Below.refl _ _).alloc (Nat.le_refl _) _
    exact ⟨Dw.step _ _ hu hb, newF_ok s ((Mm.nil u).alloc _ _ rfl), fun hx => absurd (hu.1.blt _ hx) (Nat.lt_irrefl _), hu.2.1.size⟩
  · intro g u hu
    exact size_f (newF s g) u hu.2.1
  · intro g u hu
    obtain ⟨r1, r2, r3⟩ := hq.chg hu.1.2.1
    refine (clone_any q (by omega) u r1 r2 r3).mono fun e u' hh => ?_
    obtain ⟨v, e1, e2⟩ := hh
    obtain ⟨q2, t1, t2, t3, t4, t5, t6, t7⟩ := e2.part
    exact ⟨q2, by rw [e1, t1], s5 _ _ _ hu e2.b, ⟨t2, t3, t6⟩, t4, t5, fun hn => ⟨fun hx => absurd (hu.1.1.blt _ hx) (Nat.not_lt.2 (t7 hn)), fun hx => absurd hu.2.1.glt (Nat.not_lt.2 (by rw [← hx]; exact t7 hn)), Nat.le_trans hu.1.2.1.size (t7 hn)⟩⟩
  · intro g q2 u hu
    obtain ⟨e1, e2, e3, e4, e5⟩ := hu
    have hap : ∀ x ∈ uob (appo 0 q2), x ∉ (newF s g).bl := fun x hx hx2 => by
      obtain ⟨k1, k2⟩ := uob_at hx
      exact (e5 k1).2.1 (by rw [← newF_bl s g x hx2]; exact k2.symm)
    refine (begin_f (newF s g) (appo 0 q2) u e1.2.1 (show 0 < 1000000 by omega) e2 hap (Nat.le_refl _) (by show 0 + q2.n ≤ _; rw [e3]; omega) (.inl rfl)).mono fun e u' hh => ?_
    obtain ⟨k1, v, k2, k3, k4⟩ := hh
    have hg : ∀ x ∈ (newF s g).bl, x ∉ D.tick.bl := fun x hx => by rw [newF_bl s g x hx]; exact e1.2.2.1
    have hg2 : ∀ x ∈ (newF s g).bl, w.heap.size ≤ x := fun x hx => by rw [newF_bl s g x hx]; exact e1.2.2.2
    refine ⟨k1, q2, v, e3, e4, ⟨e1.1.1.chg k3 hg, e1.1.2.1.trans k3 (fun x hx => .inr (hg2 x hx)), e1.1.2.2⟩, k2, fun x hx => ?_⟩
    rcases more_bl (f := newF s g) (v := v) (o := appo 0 q2) (B := fun x => x ∉ D.bl ∧ w.heap.size ≤ x) (fun x hx => (k4 x hx).imp_right (fun hx2 => ⟨fun hm => absurd (e1.1.1.blt x hm) (Nat.not_lt.2 hx2), Nat.le_trans e1.1.2.1.size hx2⟩)) (fun x hx => .inr (by obtain ⟨t1, t2⟩ := uob_at hx; rw [t2]; exact ⟨(e5 t1).1, (e5 t1).2.2⟩)) x hx with e | e
    · exact ⟨hg x e, hg2 x e⟩
    · exact e
  · intro g u hu
    obtain ⟨q2, v, e1, e2, e3, e4, e5⟩ := hu
    refine put_any D.d D.mb D.rb g ((D.k + 1 : Nat) : Int) s hs I4 u e3.1.cel s4 (fun u1 hu1 => ?_)
    obtain ⟨u', r1, r2, r3⟩ := (e3.1.below hu1).putNew (f := (newF s g).more v (appo 0 q2)) hsz hl (e4.below hu1) hL64 (fun x hx => (e5 x hx).1)
    exact ⟨u', r1, g, q2, v, e1, e2, r2, (e3.2.1.below hu1).trans r3 (fun x hx => .inl (by rw [List.mem_singleton.1 hx]; show D.mb ∈ D.bl; unfold Dq.bl; simp)), fun x hx => (Dq.add_bl hx).elim (e3.2.2 x) (fun e => .inr (e5 x e).2)⟩
end Wi
end Rg
end Go.Proofs.Ytidicdlfjdlpnaa
end
section
namespace Go.Proofs.Ytidicdlfjdlpnaa
open Go.RowKit
namespace Rg
namespace Wi
set_option maxRecDepth 100000
end Wi
end Rg
end Go.Proofs.Ytidicdlfjdlpnaa
end
section
namespace Go.Proofs.Ytidicdlfjdlpnaa
open Go.RowKit
namespace Rg
namespace Wi
set_option maxRecDepth 100000
section
variable {ρ : Operand → Value} {o : Oper} {x y : Operand} {g off j m c : Nat} {w : World}
theorem ex_mkM39 (ho : o.op = .makeMap 39 none) : (execOp ρ o).run Try.prog w = .ok (.value (.map (some w.heap.size))) (w.alloc (.map #[] 0)) := by
  simp only [execOp, ho]
  simp [run_makeMap]
theorem ex_mkM40 (ho : o.op = .makeMap 40 none) : (execOp ρ o).run Try.prog w = .ok (.value (.map (some w.heap.size))) (w.alloc (.map #[] 0)) := by
  simp only [execOp, ho]
  simp [run_makeMap]
theorem ex_ixN {p : Option Addr} (he : p = some ⟨g, off, none⟩) (ho : o.op = .indexAddr 22 x y) (hx : ρ x = .slice p m c) (hy : ρ y = .int .i64 ((j : Nat) : Int)) (h : j < m) : (execOp ρ o).run Try.prog w = .ok (.value (PT g (off + j))) w := by
  subst he
  simp only [execOp, ho, hx, hy]
  clear ho hx hy
  go_simp
theorem ex_ldN {a : Int} (c0 : w.cell? ⟨g, off, none⟩ = some (.int .i64 a)) (ho : o.op = .load 3 x) (hx : ρ x = PT g off) : (execOp ρ o).run Try.prog w = .ok (.value (.int .i64 a)) w := by
  simp only [execOp, ho, hx]
  clear ho hx
  go_simp
end
/-- A disk under way to be made. -/
structure Nm1 (w : World) (mb : Nat) (u : World) : Prop where
  b : Below w.heap.size w u
  nm : w.heap.size ≤ mb
  mp : u.ownsMap Try.prog 9 RF mb 0 (.map [])
structure Nm2 (w : World) (mb rb : Nat) (u : World) : Prop where
  one : Nm1 w mb u
  nr : mb < rb
  rm : u.ownsMap Try.prog 3 RU rb 0 (.map [])
/-- A disk without files, that is made. -/
structure Nw (w : World) (d mb rb : Nat) (rf : Nat → Bool) (m : Nat) (u : World) : Prop where
  two : Nm1 w mb u
  nr : mb < rb
  nd : rb < d
  cel : Mm u [(d, [Value.map (some mb), Value.map (some rb), Value.int .i64 0])]
  rm : ∃ Y, u.ownsMap Try.prog 3 RU rb m Y ∧ ∀ i : Nat, i < 4611686018427387905 → Maps.has Y (.int .i64 (i : Int)) = rf i
section
variable {w u u' : World} {d mb rb m : Nat} {rf : Nat → Bool}
theorem Nm1.step (h : Nm1 w mb u) (hb : Below u.heap.size u u') : Nm1 w mb u' := ⟨h.b.trans (hb.mono h.b.size), h.nm, ownMap_keep h.mp (hb.block _ h.mp.lt)⟩
theorem Nm1.start (h : Below w.heap.size w u) : Nm1 w u.heap.size (u.alloc (.map #[] 0)) := ⟨h.alloc h.size _, h.size, World.ownsMap_made _ _ _ _⟩
theorem Nm2.step (h : Nm2 w mb rb u) (hb : Below u.heap.size u u') : Nm2 w mb rb u' := ⟨h.one.step hb, h.nr, ownMap_keep h.rm (hb.block _ h.rm.lt)⟩
theorem Nm2.start (h : Nm1 w mb u) : Nm2 w mb u.heap.size (u.alloc (.map #[] 0)) := ⟨h.step ((Below.refl _ _).alloc (Nat.le_refl _) _), h.mp.lt, World.ownsMap_made _ _ _ _⟩
theorem Nw.step (h : Nw w d mb rb rf m u) (hb : Below u.heap.size u u') : Nw w d mb rb rf m u' := by
  obtain ⟨Y, y1, y2⟩ := h.rm
  exact ⟨h.two.step hb, h.nr, h.nd, h.cel.below hb, Y, ownMap_keep y1 (hb.block _ y1.lt), y2⟩
theorem Nw.start (h : Nm2 w mb rb u) (t : TypeId) : Nw w u.heap.size mb rb (fun _ => false) 0 (u.alloc (.cells ([Value.map (some mb), Value.map (some rb), Value.int .i64 0] : List Value).toArray t)) := by
  have hb : Below u.heap.size u (u.alloc (.cells ([Value.map (some mb), Value.map (some rb), Value.int .i64 0] : List Value).toArray t)) := (Below.refl _ _).alloc (Nat.le_refl _) _
  have h2 := h.step hb
  exact ⟨h2.one, h2.nr, h.rm.lt, (Mm.nil u).alloc _ _ rfl, _, h2.rm, fun _ _ => rfl⟩
theorem Nw.ref (h : Nw w d mb rb rf m u) (i : Int) (hw : (Lit.int .i64 i).wf = true) (hm : m < 1000000) : ∃ u', (Instr.mapUpdate 40 (.map (some rb)) (.int .i64 i) (.agg ([] : List Value).toArray)).run Try.prog u = .ok () u' ∧ Nw w d mb rb (fun j => decide ((j : Int) = i) || rf j) (m + 1) u' := by
  obtain ⟨Y, y1, y2⟩ := h.rm
  obtain ⟨u', hr, hm2, hg⟩ := y1.update (Maps.int_keyed Try.underlying3) Try.underlying40 (by unfold maxLen; omega) (Maps.keyOf_int_mk Try.underlying3 hw) (show RU (.agg ([] : List Value).toArray) = some (.nil, []) from rfl)
  have hc : Chg [rb] u u' := Chg.grown hg
  have h1 := h.nr
  have h2 := h.nd
  refine ⟨u', hr, ⟨h.two.b.trans (hc.toBelow (fun x hx => by have := h.two.nm; rw [List.mem_singleton.1 hx]; omega) h.two.b.size), h.two.nm, ownMap_keep h.two.mp (hc.block _ h.two.mp.lt (fun hx => by have := List.mem_singleton.1 hx; omega))⟩, h1, h2, hc.mm h.cel (fun p hp hx => by obtain rfl := List.mem_singleton.1 hp; have := List.mem_singleton.1 hx; omega), _, hm2, fun j hj => ?_⟩
  by_cases e : (j : Int) = i
  · subst e
    rw [Maps.has_put_same y1.isMap (Maps.int_keyed Try.underlying3 |>.key (Maps.keyOf_int_mk Try.underlying3 hw))]
    simp
  · rw [Maps.has_put_other (fun e2 => e (by injection e2)), y2 j hj, decide_eq_false e, Bool.false_or]
theorem Nw.disk (h : Nw w d mb rb rf m u) : DOk u ⟨d, mb, rb, 0, [], rf⟩ := by
  have h1 := h.nr
  have h2 := h.nd
  obtain ⟨Y, y1, y2⟩ := h.rm
  exact ⟨h.cel, ⟨_, h.two.mp, fun _ => rfl, fun _ => rfl, rfl⟩, ⟨m, Y, y1, y2⟩, fun f hf => (by cases hf), fun f hf => (by cases hf), fun f hf => (by cases hf), ⟨(show d ≠ mb by omega), (show d ≠ rb by omega), (show mb ≠ rb by omega)⟩, List.nodup_nil, (show 0 < 4611686018427387904 by decide), (show 0 ≤ 64 by decide)⟩
end
/-- Which numbers are refused. -/
def rff (F : Nat → Int) : Nat → Nat → Bool
  | 0 => fun _ => false
  | k + 1 => fun j => decide ((j : Int) = F k) || rff F k j
set_option maxHeartbeats 2000000 in
set_option maxRecDepth 100000 in
theorem New_any (p : Option Addr) (n cp g of : Nat) (F : Nat → Int) (hn : n ≤ 4096) (w : World) (hp0 : 0 < n → p = some ⟨g, of, none⟩) (hcl0 : ∀ i, i < n → g < w.heap.size ∧ w.cell? ⟨g, of + i, none⟩ = some (.int .i64 (F i)) ∧ (Lit.int .i64 (F i)).wf = true) :
    Calls Try.prog 14 #[.slice p n cp] w fun e w' => ∃ d mb rb, e = .returned (.tuple #[PT d 0, .int .i64 0]) ∧ Nw w d mb rb (rff F n) n w' := by
  have H0 : Hid (_ ∧ _) := ⟨Mm.nil w, Below.refl w.heap.size w⟩
  have hp : Hid _ := hp0
  have hcl : Hid _ := hcl0
  clear hp0 hcl0
  go_enter Try.func14, Try.ntmps14
  refine wp_seq ?_
  refine sq_startW (l := [0, 1]) rfl (fun u0 hu0 => ?_)
  have H1 : Hid (Mm u0 [] ∧ Below w.heap.size w u0) := by rw [hu0]; exact H0
  clear hu0 H0
  refine rest_set (d := 2) (v := .pointer none) (w' := u0) rfl rfl rfl (rfl) ?_
  simp only [Act.put, sa, sz, ss]
  refine rest_set (d := 3) (v := .int .i64 0) (w' := u0) rfl rfl rfl (rfl) ?_
  simp only [Act.put, sa, sz, ss]
  refine rest_nil (then_normal ?_)
  refine wp_seq (wp_seq ?_)
  refine sq_start (l := [0, 1, 2]) rfl ?_
  refine rest_set (d := 7) (v := .slice p n cp) (w' := u0) rfl rfl rfl (rfl) ?_
  simp only [Act.put, sa, sz, ss]
  refine rest_set (d := 8) (v := .int .i64 ((n : Nat) : Int)) (w' := u0) rfl rfl rfl (by go_simp) ?_
  simp only [Act.put, sa, sz, ss]
  refine rest_set (d := 9) (v := .bool false) (w' := u0) rfl rfl rfl (by go_simp <;> omega) ?_
  simp only [Act.put, sa, sz, ss]
  refine rest_nil (then_normal ?_)
  refine wp_cond_false rfl (wp_skip ?_)
  refine then_normal (wp_seq ?_)
  refine sq_start (l := [0, 1, 2, 3, 4]) rfl ?_
  refine rest_set (d := 10) (v := .map (some u0.heap.size)) (w' := (u0.alloc (.map #[] 0))) rfl rfl rfl (ex_mkM39 rfl) ?_
  simp only [Act.put, sa, sz, ss]
  have H2 : Hid (Mm (u0.alloc (.map #[] 0)) [] ∧ Nm1 w u0.heap.size (u0.alloc (.map #[] 0))) := ⟨Mm.nil _, Nm1.start H1.out.2⟩
  clear H1
  generalize hgw : u0.alloc (.map #[] 0) = w2 at H2 ⊢
  clear hgw
  generalize u0.heap.size = mb at H2 ⊢
  refine rest_set (d := 11) (v := .map (some w2.heap.size)) (w' := (w2.alloc (.map #[] 0))) rfl rfl rfl (ex_mkM40 rfl) ?_
  simp only [Act.put, sa, sz, ss]
  have H3 : Hid (Mm (w2.alloc (.map #[] 0)) [] ∧ Nm2 w mb w2.heap.size (w2.alloc (.map #[] 0))) := ⟨Mm.nil _, Nm2.start H2.out.2⟩
  clear H2
  generalize hgw : w2.alloc (.map #[] 0) = w3 at H3 ⊢
  clear hgw
  generalize w2.heap.size = rb at H3 ⊢
  refine rest_set (d := 12) (v := .agg ([Value.map (some mb), Value.map (some rb), Value.int .i64 0]).toArray) (w' := w3) rfl rfl rfl (by kernel_rfl) ?_
  simp only [Act.put, sa, sz, ss]
  refine rest_set (d := 13) (v := PT w3.heap.size 0) (w' := (w3.alloc (.cells ([Value.map (some mb), Value.map (some rb), Value.int .i64 0] : List Value).toArray 42))) rfl rfl rfl (ex_boxT rfl rfl) ?_
  simp only [Act.put, sa, sz, ss]
  have H4 : Hid (Mm (w3.alloc (.cells ([Value.map (some mb), Value.map (some rb), Value.int .i64 0] : List Value).toArray 42)) [] ∧ Nw w w3.heap.size mb rb (fun _ => false) 0 (w3.alloc (.cells ([Value.map (some mb), Value.map (some rb), Value.int .i64 0] : List Value).toArray 42))) := ⟨Mm.nil _, Nw.start H3.out.2 _⟩
  clear H3
  generalize hgw : w3.alloc (.cells ([Value.map (some mb), Value.map (some rb), Value.int .i64 0] : List Value).toArray 42) = w4 at H4 ⊢
  clear hgw
  generalize w3.heap.size = d at H4 ⊢
  refine rest_set (d := 4) (v := PT d 0) (w' := w4) rfl rfl rfl (rfl) ?_
  simp only [Act.put, sa, sz, ss]
  refine rest_nil (then_normal ?_)
  refine wp_seq (wp_seq ?_)
  refine sq_start (l := [0, 1, 2]) rfl ?_
  refine rest_set (d := 14) (v := .slice p n cp) (w' := w4) rfl rfl rfl (rfl) ?_
  simp only [Act.put, sa, sz, ss]
  refine rest_set (d := 15) (v := .int .i64 ((n : Nat) : Int)) (w' := w4) rfl rfl rfl (by go_simp) ?_
  simp only [Act.put, sa, sz, ss]
  refine rest_set (d := 16) (v := .int .i64 0) (w' := w4) rfl rfl rfl (rfl) ?_
  simp only [Act.put, sa, sz, ss]
  refine rest_nil (then_normal (wp_block ?_))
  refine loop_ghost (α := Nat) (fun x a' w' => ∃ s0 : Nat → Value, a' = ⟨#[.slice p n cp, undef, .pointer none, .int .i64 0, PT d 0, undef, s0 6, .slice p n cp, .int .i64 ((n : Nat) : Int), .bool false, .map (some mb), .map (some rb), .agg ([Value.map (some mb), Value.map (some rb), Value.int .i64 0]).toArray, PT d 0, .slice p n cp, .int .i64 ((n : Nat) : Int), .int .i64 ((x : Nat) : Int), s0 17, s0 18, s0 19, s0 20, s0 21, s0 22, s0 23, s0 24, s0 25, s0 26, undef], []⟩ ∧ (Mm w' [] ∧ Nw w d mb rb (rff F x) x w') ∧ x ≤ n) (fun x => n - x) 0 ?st0 ?rd0
  case st0 => exact ⟨(slotfn [undef, undef, undef, undef, undef, undef, undef, undef, undef, undef, undef, undef, undef, undef, undef, undef, undef, undef, undef, undef, undef, undef, undef, undef, undef, undef, undef]), rfl, ⟨H4.out.1, H4.out.2⟩, Nat.zero_le _⟩
  intro x a' w5 hI
  obtain ⟨s0, rfl, hMB, hk0⟩ := hI
  have H5 : Hid (_ ∧ _) := hMB
  clear hMB H4
  by_cases hltx : x < n
  · have hrd : True := trivial
    clear hrd
    refine wp_seq ?_
    refine sq_start (l := [0]) rfl ?_
    refine rest_set (d := 17) (v := .bool true) (w' := w5) rfl rfl rfl (by go_simp <;> omega) ?_
    simp only [Act.put, sa, sz, ss]
    refine rest_nil (then_normal ?_)
    refine wp_seq (wp_cond_true rfl ?_)
    refine wp_skip (then_normal ?_)
    refine wp_seq (wp_block (wp_seq ?_))
    refine sq_start (l := [0, 1, 2]) rfl ?_
    refine rest_set (d := 18) (v := PT g (of + x)) (w' := w5) rfl rfl rfl (ex_ixN (hp.out (by omega)) rfl rfl rfl (by omega)) ?_
    simp only [Act.put, sa, sz, ss]
    refine rest_set (d := 19) (v := .int .i64 (F x)) (w' := w5) rfl rfl rfl (ex_ldN ((H5.out.2.two.b.cell (p := ⟨g, _, none⟩) (hcl.out x (by omega)).1).trans (hcl.out x (by omega)).2.1) rfl rfl) ?_
    simp only [Act.put, sa, sz, ss]
    refine rest_set (d := 6) (v := .int .i64 (F x)) (w' := w5) rfl rfl rfl (rfl) ?_
    simp only [Act.put, sa, sz, ss]
    refine rest_nil (then_normal ?_)
    refine sq_start (l := [0, 1, 2, 3, 4, 5, 6]) rfl ?_
    refine rest_set (d := 20) (v := PT d 0) (w' := w5) rfl rfl rfl (rfl) ?_
    simp only [Act.put, sa, sz, ss]
    refine rest_set (d := 21) (v := PT d 0) (w' := w5) rfl rfl rfl (by go_simp) ?_
    simp only [Act.put, sa, sz, ss]
    refine rest_set (d := 22) (v := PT d 1) (w' := w5) rfl rfl rfl (by go_simp) ?_
    simp only [Act.put, sa, sz, ss]
    refine rest_set (d := 23) (v := .map (some rb)) (w' := w5) rfl rfl rfl (ex_loadC H5.out.2.cel 0 rfl rfl rfl Try.isAgg40 rfl) ?_
    simp only [Act.put, sa, sz, ss]
    refine rest_set (d := 24) (v := .int .i64 (F x)) (w' := w5) rfl rfl rfl (rfl) ?_
    simp only [Act.put, sa, sz, ss]
    refine rest_set (d := 25) (v := .agg (([] : List Value)).toArray) (w' := w5) rfl rfl rfl (by kernel_rfl) ?_
    simp only [Act.put, sa, sz, ss]
    obtain ⟨w6, hr9, hI9⟩ := H5.out.2.ref (F x) (hcl.out x (by omega)).2.2 (by omega)
    refine rest_store rfl rfl rfl (ex_mup hr9 rfl rfl rfl rfl) ?_
    have H6 : Hid (Mm w6 [] ∧ Nw w d mb rb (rff F (x + 1)) (x + 1) w6) := ⟨Mm.nil _, hI9⟩
    clear hr9 hI9 H5
    refine rest_nil (block_normal (then_normal ?_))
    refine sq_start (l := [0, 1]) rfl ?_
    refine rest_set (d := 26) (v := .int .i64 ((x + 1 : Nat) : Int)) (w' := w6) rfl rfl rfl (by go_simp; rw [IntKind.wrap_i64]; omega) ?_
    simp only [Act.put, sa, sz, ss]
    refine rest_set (d := 16) (v := .int .i64 ((x + 1 : Nat) : Int)) (w' := w6) rfl rfl rfl (rfl) ?_
    simp only [Act.put, sa, sz, ss]
    refine rest_nil (then_normal ?_)
    exact ⟨x + 1, ⟨(slotfn [undef, undef, undef, undef, undef, undef, .int .i64 (F x), undef, undef, undef, undef, undef, undef, undef, undef, undef, undef, .bool true, PT g (of + x), .int .i64 (F x), PT d 0, PT d 0, PT d 1, .map (some rb), .int .i64 (F x), .agg (([] : List Value)).toArray, .int .i64 ((x + 1 : Nat) : Int)]), rfl, ⟨H6.out.1, H6.out.2⟩, (show x + 1 ≤ n by omega)⟩, (show n - (x + 1) < n - x by omega)⟩
  refine wp_seq ?_
  refine sq_start (l := [0]) rfl ?_
  refine rest_set (d := 17) (v := .bool false) (w' := w5) rfl rfl rfl (by go_simp <;> omega) ?_
  simp only [Act.put, sa, sz, ss]
  refine rest_nil (then_normal ?_)
  refine wp_seq (wp_cond_false rfl ?_)
  refine wp_exit ?_
  repeat refine then_exit ?_
  refine block_exit ?_
  have hxn : x = n := by omega
  refine then_normal (wp_seq ?_)
  refine sq_start (l := [0, 1, 2]) rfl ?_
  refine rest_set (d := 27) (v := PT d 0) (w' := w5) rfl rfl rfl (rfl) ?_
  simp only [Act.put, sa, sz, ss]
  refine rest_set (d := 2) (v := PT d 0) (w' := w5) rfl rfl rfl (rfl) ?_
  simp only [Act.put, sa, sz, ss]
  refine rest_set (d := 3) (v := .int .i64 0) (w' := w5) rfl rfl rfl (rfl) ?_
  simp only [Act.put, sa, sz, ss]
  refine rest_nil (then_normal (wp_ret ?_))
  repeat (first | refine then_ret ?_ | refine block_ret ?_)
  refine bodyPost_ret (v := .tuple #[PT d 0, .int .i64 0]) (by simp [results, Try.results14, go_sem, *]) rfl ?_
  exact ⟨_, _, _, rfl, by rw [← hxn]; exact H5.out.2⟩
theorem New_nil (w : World) : Calls Try.prog 14 #[.slice none 0 0] w fun e w' => ∃ d mb rb, e = .returned (.tuple #[PT d 0, .int .i64 0]) ∧ Nw w d mb rb (fun _ => false) 0 w' := New_any none 0 0 0 0 (fun _ => 0) (by decide) w (fun h => absurd h (by decide)) (fun i hi => absurd hi (Nat.not_lt_zero _))
end Wi
end Rg
end Go.Proofs.Ytidicdlfjdlpnaa
end
section
namespace Go.Proofs.Ytidicdlfjdlpnaa
open Go.RowKit
namespace Rg
namespace Wi
set_option maxRecDepth 100000
section
variable (D : Dq) (s : ByteArray) (q : Pt8) (w : World)
theorem Dw.co {D : Dq} {w : World} {r : Int} (h : DOk w D) (hk : D.k + 1 < 4611686018427387904) (hr : (if D.no then (13 : Int) else 0) = r) : ∀ u, Below w.heap.size w u → Calls Try.prog 66 #[PT D.d 0] u fun e u' => e = .returned (.int .i64 r) ∧ Dw w D D.tick u' := fun u hu =>
  (count_f D u (h.below hu) hk).mono fun e u' hh => ⟨by rw [hh.1, ← hr], hh.2.1, (Chg.of hu).trans hh.2.2 (fun x hx => .inl hx), fun x hx => .inl hx⟩
theorem below_on {w : World} : ∀ u u', Below w.heap.size w u → Below u.heap.size u u' → Below w.heap.size w u' := fun _ _ h1 h2 => h1.trans (h2.mono h1.size)
theorem nm_is (c : Bool) (h : nmd s = c) {I : World → Prop} : ∀ u, I u → Calls Try.prog 67 #[.string s] u fun e u' => e = .returned (.bool c) ∧ Below u.heap.size u u' := fun u _ => (named_any s u).mono fun e u' hh => ⟨by rw [hh.1, h], hh.2⟩
theorem Append_bad_f (h : DOk w D) (hk : D.k + 1 < 4611686018427387904) (hno : D.no = false) (hnm : nmd s = false) : Calls Try.prog 19 #[PT D.d 0, .string s, .slice q.p q.n q.cp] w fun e w' => e = .returned (.int .i64 2) ∧ Dw w D D.tick w' :=
  Append_bad D.d s q (fun u => Below w.heap.size w u) (Dw w D D.tick) w (Below.refl _ _) below_on Dw.step (Dw.co h hk (by rw [hno]; rfl)) (nm_is s false hnm)
theorem Dw.lk {D : Dq} {w : World} {s : ByteArray} (hsz : s.size ≤ maxLen) {x : Option Fq} (hl : lk D.fs s = x) : ∀ u, Dw w D D.tick u → (Instr.lookup 39 (.map (some D.mb)) (.string s) false).run Try.prog u = .ok (pv x) u := fun u hu => by
  have e := hu.1.look (u := u) s hsz rfl
  rw [show Wi.lk D.tick.fs s = x from hl] at e
  exact e
theorem Dw.len {D : Dq} {w : World} : ∀ u, Dw w D D.tick u → ∀ ty, (Builtin.len_ #[39] ty #[.map (some D.mb)]).run Try.prog u = .ok (.int .i64 ((D.fs.length : Nat) : Int)) u := fun u hu ty => by
  obtain ⟨X, x1, _, _, x4⟩ := hu.1.mp
  have e := x1.len Try.underlying39 ty
  rw [x4] at e
  exact e
end
end Wi
end Rg
end Go.Proofs.Ytidicdlfjdlpnaa
end
section
namespace Go.Proofs.Ytidicdlfjdlpnaa
open Go.RowKit
namespace Rg
namespace Wi
theorem call14 : ∀ args w, (callFunc 14 args).run Try.prog w = .ok (.enter 14 args) w := by intro args w; go_simp
theorem call18 : ∀ args w, (callFunc 18 args).run Try.prog w = .ok (.enter 18 args) w := by intro args w; go_simp
theorem call19 : ∀ args w, (callFunc 19 args).run Try.prog w = .ok (.enter 19 args) w := by intro args w; go_simp
theorem call115 : ∀ args w, (callFunc 115 args).run Try.prog w = .ok (.enter 115 args) w := by intro args w; go_simp
set_option maxRecDepth 100000
/-- A journal, cell by cell. -/
def jc (d : Nat) (s : ByteArray) (c z : Nat) : List Value := PT d 0 :: .string s :: (ints .u32 crt 256 ++ [.int .i64 ((c : Nat) : Int), .int .i64 ((z : Nat) : Int)])
theorem jc_len (d : Nat) (s : ByteArray) (c z : Nat) : (jc d s c z).length = 260 := by simp [jc, ints_len]
theorem jc_tab (d : Nat) (s : ByteArray) (c z : Nat) {i : Nat} (h : i < 256) : (jc d s c z)[2 + i]? = some (W32 (crt i)) := by
  unfold jc
  rw [Nat.add_comm 2 i]
  show (ints .u32 crt 256 ++ _)[i]? = _
  rw [List.getElem?_append_left (by rw [ints_len]; exact h), ints_get _ _ h]
theorem jc_c (d : Nat) (s : ByteArray) (c z : Nat) : (jc d s c z)[258]? = some (.int .i64 ((c : Nat) : Int)) := by
  unfold jc
  show (ints .u32 crt 256 ++ _)[256]? = _
  rw [List.getElem?_append_right (by rw [ints_len]; decide), ints_len]
  rfl
theorem jc_z (d : Nat) (s : ByteArray) (c z : Nat) : (jc d s c z)[259]? = some (.int .i64 ((z : Nat) : Int)) := by
  unfold jc
  show (ints .u32 crt 256 ++ _)[257]? = _
  rw [List.getElem?_append_right (by rw [ints_len]; decide), ints_len]
  rfl
theorem jc_get (d : Nat) (s : ByteArray) (c z k : Nat) (h : k < 258) (c' z' : Nat) : (jc d s c z)[k]? = (jc d s c' z')[k]? := by
  unfold jc
  match k, h with
  | 0, _ => rfl
  | 1, _ => rfl
  | k + 2, h =>
    show (ints .u32 crt 256 ++ _)[k]? = (ints .u32 crt 256 ++ _)[k]?
    rw [List.getElem?_append_left (by rw [ints_len]; omega), List.getElem?_append_left (by rw [ints_len]; omega)]
theorem jc_putc (d : Nat) (s : ByteArray) (c z c' : Nat) : patch (jc d s c z) 258 [.int .i64 ((c' : Nat) : Int)] = jc d s c' z := by
  apply List.ext_getElem?
  intro k
  rw [patch_get _ _ _ (by rw [jc_len]; show 258 + 1 ≤ 260; decide)]
  by_cases h : k < 258
  · rw [if_neg (by simp; omega)]
    exact jc_get _ _ _ _ _ h _ _
  · by_cases h2 : k = 258
    · subst h2
      rw [if_pos (by simp), jc_c]
      rfl
    · rw [if_neg (by simp; omega)]
      by_cases h3 : k = 259
      · subst h3
        rw [jc_z, jc_z]
      · rw [List.getElem?_eq_none (by rw [jc_len]; omega), List.getElem?_eq_none (by rw [jc_len]; omega)]
theorem jc_putz (d : Nat) (s : ByteArray) (c z z' : Nat) : patch (jc d s c z) 259 [.int .i64 ((z' : Nat) : Int)] = jc d s c z' := by
  apply List.ext_getElem?
  intro k
  rw [patch_get _ _ _ (by rw [jc_len]; show 259 + 1 ≤ 260; decide)]
  by_cases h : k < 258
  · rw [if_neg (by simp; omega)]
    exact jc_get _ _ _ _ _ h _ _
  · by_cases h2 : k = 259
    · subst h2
      rw [if_pos (by simp), jc_z]
      rfl
    · rw [if_neg (by simp; omega)]
      by_cases h3 : k = 258
      · subst h3
        rw [jc_c, jc_c]
      · rw [List.getElem?_eq_none (by rw [jc_len]; omega), List.getElem?_eq_none (by rw [jc_len]; omega)]
theorem Tb.jc {w : World} {j d c z : Nat} {s : ByteArray} (h : Mm w [(j, jc d s c z)]) : Tb j 2 w := ⟨(h.blk _ (List.mem_cons_self ..)).1, fun _ hi => h.get 0 rfl _ (jc_tab _ _ _ _ hi)⟩
theorem Mm.keep1 {w u : World} {g : Nat} {cs : List Value} (h : Mm w [(g, cs)]) (hs : w.heap.size ≤ u.heap.size) (hb : u.heap[g]? = w.heap[g]?) : Mm u [(g, cs)] :=
  ⟨fun p hp => by
    obtain rfl := List.mem_singleton.1 hp
    have hk := h.blk _ (List.mem_cons_self ..)
    refine ⟨Nat.lt_of_lt_of_le hk.1 hs, fun j v hv => ?_⟩
    have := hk.2 j v hv
    rw [World.cell?_of_block (a := ⟨g, j, none⟩) hb, World.frozen?_of_block (a := ⟨g, j, none⟩) hb]
    exact this, h.nd⟩
/-- An empty part. -/
def nilp (f : Nat → Nat) : Pt8 := ⟨0, 0, 0, 0, none, f⟩
theorem nilp_ok (f : Nat → Nat) (w : World) : Pok (nilp f) ∧ ((nilp f).p = none → (nilp f).cp = 0) ∧ (nilp f).rs w := ⟨⟨Bv.void _ _ _ _ _, Nat.le_refl _⟩, fun _ => rfl, Rs.void _ _ _ _⟩
theorem nilp_rq (f : Nat → Nat) (D : Dq) (w : World) : Rq (nilp f) D w := ⟨(nilp_ok f w).1, (nilp_ok f w).2.1, (nilp_ok f w).2.2, fun h => absurd h (by show ¬0 < 0; decide)⟩
theorem Nw.down {w u u' : World} {d mb rb m : Nat} {rf : Nat → Bool} (h : Nw w d mb rb rf m u) (hc : Chg (Dq.bl ⟨d, mb, rb, 0, [], rf⟩) u u') : Below w.heap.size w u' := by
  have h1 := h.two.nm
  have h2 := h.nr
  have h3 := h.nd
  refine h.two.b.trans (hc.toBelow (fun x hx => ?_) h.two.b.size)
  have : x = d ∨ x = mb ∨ x = rb := by simpa [Dq.bl] using hx
  omega
theorem fresh_append {w u : World} {d mb rb m : Nat} {rf : Nat → Bool} (h : Nw w d mb rb rf m u) (hr : rf 1 = false) (s : ByteArray) (hs : s.size ≤ 281474976710656) : Calls Try.prog 19 #[PT d 0, .string s, .slice none 0 0] u fun e u' => e = .returned (.int .i64 (if nmd s then 0 else 2)) ∧ Below w.heap.size w u' := by
  cases hn : nmd s with
  | true =>
    refine (Append_new_f ⟨d, mb, rb, 0, [], rf⟩ s hs (nilp (fun _ => 0)) u h.disk (show 0 + 1 < 4611686018427387904 by decide) (nilp_rq _ _ _) hr hn rfl (show 0 < 64 by decide) (show 0 ≤ 1048576 by decide)).mono fun e u' hh => ?_
    obtain ⟨e1, g, q2, v, _, _, e2⟩ := hh
    exact ⟨e1, h.down e2.2.1⟩
  | false => exact (Append_bad_f ⟨d, mb, rb, 0, [], rf⟩ s (nilp (fun _ => 0)) u h.disk (show 0 + 1 < 4611686018427387904 by decide) hr hn).mono fun e u' hh => ⟨hh.1, h.down hh.2.2.1⟩
theorem fresh_is {w u : World} {d mb rb m : Nat} {rf : Nat → Bool} (h : Nw w d mb rb rf m u) (hr : rf 1 = false) (s : ByteArray) (hs : s.size ≤ 281474976710656) {c : Bool} (hc : nmd s = c) {r : Int} (hx : (if c then (0 : Int) else 2) = r) : Calls Try.prog 19 #[PT d 0, .string s, .slice none 0 0] u fun e u' => e = .returned (.int .i64 r) ∧ Below w.heap.size w u' := by
  subst hc
  subst hx
  exact fresh_append h hr s hs
theorem Nw.up {w u u' : World} {d mb rb m : Nat} {rf : Nat → Bool} (h : Nw u d mb rb rf m u') (hb : Below w.heap.size w u) : Nw w d mb rb rf m u' := ⟨⟨hb.trans (h.two.b.mono hb.size), Nat.le_trans hb.size h.two.nm, h.two.mp⟩, h.nr, h.nd, h.cel, h.rm⟩
set_option maxHeartbeats 2000000 in
set_option maxRecDepth 100000 in
theorem jnamed_1 (s : ByteArray) (hs : s.size ≤ 281474976710656) (hn : nmd s = true) (w : World) :
    Calls Try.prog 115 #[.string s] w fun e w' => e = .returned (.bool true) ∧ Below w.heap.size w w' := by
  have H0 : Hid (_ ∧ _) := ⟨Mm.nil w, Below.refl w.heap.size w⟩
  go_enter Try.func115, Try.ntmps115
  refine wp_seq ?_
  refine sq_startW (l := [0]) rfl (fun u0 hu0 => ?_)
  have H1 : Hid (Mm u0 [] ∧ Below w.heap.size w u0) := by rw [hu0]; exact H0
  clear hu0 H0
  refine rest_set (d := 2) (v := .bool false) (w' := u0) rfl rfl rfl (rfl) ?_
  simp only [Act.put, sa, sz, ss]
  refine rest_nil (then_normal (wp_seq ?_))
  refine sq_start (l := [0, 1, 2, 3, 4, 5]) rfl ?_
  refine rest_enter (d := 6) (R := fun vv w' => ∃ d mb rb, vv = .tuple #[PT d 0, .int .i64 0] ∧ Nw w d mb rb (fun _ => false) 0 w') rfl rfl rfl (exec_call (args := #[.slice none 0 0]) rfl call14 rfl (mpn rfl)) (Calls.mono (New_nil u0) (fun e w2 hh => by obtain ⟨d, mb, rb, he, hI⟩ := hh; exact ⟨_, he, d, mb, rb, rfl, hI.up H1.out.2⟩)) ?_
  rintro _ w2 ⟨d, mb, rb, rfl, hI⟩
  have H2 : Hid (Mm w2 [] ∧ Nw w d mb rb (fun _ => false) 0 w2) := ⟨Mm.nil _, hI⟩
  clear hI H1
  simp only [Act.put, sa, sz, ss]
  refine rest_set (d := 5) (v := .tuple #[PT d 0, .int .i64 0]) (w' := w2) rfl rfl rfl (rfl) ?_
  simp only [Act.put, sa, sz, ss]
  refine rest_set (d := 7) (v := PT d 0) (w' := w2) rfl rfl rfl (by go_simp) ?_
  simp only [Act.put, sa, sz, ss]
  refine rest_set (d := 8) (v := .int .i64 0) (w' := w2) rfl rfl rfl (by go_simp) ?_
  simp only [Act.put, sa, sz, ss]
  refine rest_set (d := 3) (v := PT d 0) (w' := w2) rfl rfl rfl (rfl) ?_
  simp only [Act.put, sa, sz, ss]
  refine rest_set (d := 4) (v := .int .i64 0) (w' := w2) rfl rfl rfl (rfl) ?_
  simp only [Act.put, sa, sz, ss]
  refine rest_nil (then_normal (wp_seq ?_))
  refine sq_start (l := [0, 1, 2, 3, 4]) rfl ?_
  refine rest_set (d := 9) (v := PT d 0) (w' := w2) rfl rfl rfl (rfl) ?_
  simp only [Act.put, sa, sz, ss]
  refine rest_set (d := 10) (v := .string s) (w' := w2) rfl rfl rfl (rfl) ?_
  simp only [Act.put, sa, sz, ss]
  refine rest_enter (d := 11) (R := fun vv w' => vv = .int .i64 0 ∧ Below w.heap.size w w') rfl rfl rfl (exec_call (args := #[PT d 0, .string s, .slice none 0 0]) rfl call19 rfl (mpn rfl)) (Calls.mono (fresh_is H2.out.2 rfl s hs hn rfl) (fun e w2 hh => ⟨_, hh.1, rfl, hh.2⟩)) ?_
  rintro _ w3 ⟨rfl, hI⟩
  have H3 : Hid (Mm w3 [] ∧ Below w.heap.size w w3) := ⟨Mm.nil _, hI⟩
  clear hI H2
  simp only [Act.put, sa, sz, ss]
  refine rest_set (d := 12) (v := .bool true) (w' := w3) rfl rfl rfl (by kernel_rfl) ?_
  simp only [Act.put, sa, sz, ss]
  refine rest_set (d := 2) (v := .bool true) (w' := w3) rfl rfl rfl (rfl) ?_
  simp only [Act.put, sa, sz, ss]
  refine rest_nil (then_normal (wp_ret ?_))
  repeat (first | refine then_ret ?_ | refine block_ret ?_)
  refine bodyPost_ret (v := .bool true) (by simp [results, Try.results115, go_sem, *]) rfl ?_
  exact ⟨rfl, H3.out.2⟩
set_option maxHeartbeats 2000000 in
set_option maxRecDepth 100000 in
theorem jnamed_0 (s : ByteArray) (hs : s.size ≤ 281474976710656) (hn : nmd s = false) (w : World) :
    Calls Try.prog 115 #[.string s] w fun e w' => e = .returned (.bool false) ∧ Below w.heap.size w w' := by
  have H0 : Hid (_ ∧ _) := ⟨Mm.nil w, Below.refl w.heap.size w⟩
  go_enter Try.func115, Try.ntmps115
  refine wp_seq ?_
  refine sq_startW (l := [0]) rfl (fun u0 hu0 => ?_)
  have H1 : Hid (Mm u0 [] ∧ Below w.heap.size w u0) := by rw [hu0]; exact H0
  clear hu0 H0
  refine rest_set (d := 2) (v := .bool false) (w' := u0) rfl rfl rfl (rfl) ?_
  simp only [Act.put, sa, sz, ss]
  refine rest_nil (then_normal (wp_seq ?_))
  refine sq_start (l := [0, 1, 2, 3, 4, 5]) rfl ?_
  refine rest_enter (d := 6) (R := fun vv w' => ∃ d mb rb, vv = .tuple #[PT d 0, .int .i64 0] ∧ Nw w d mb rb (fun _ => false) 0 w') rfl rfl rfl (exec_call (args := #[.slice none 0 0]) rfl call14 rfl (mpn rfl)) (Calls.mono (New_nil u0) (fun e w2 hh => by obtain ⟨d, mb, rb, he, hI⟩ := hh; exact ⟨_, he, d, mb, rb, rfl, hI.up H1.out.2⟩)) ?_
  rintro _ w2 ⟨d, mb, rb, rfl, hI⟩
  have H2 : Hid (Mm w2 [] ∧ Nw w d mb rb (fun _ => false) 0 w2) := ⟨Mm.nil _, hI⟩
  clear hI H1
  simp only [Act.put, sa, sz, ss]
  refine rest_set (d := 5) (v := .tuple #[PT d 0, .int .i64 0]) (w' := w2) rfl rfl rfl (rfl) ?_
  simp only [Act.put, sa, sz, ss]
  refine rest_set (d := 7) (v := PT d 0) (w' := w2) rfl rfl rfl (by go_simp) ?_
  simp only [Act.put, sa, sz, ss]
  refine rest_set (d := 8) (v := .int .i64 0) (w' := w2) rfl rfl rfl (by go_simp) ?_
  simp only [Act.put, sa, sz, ss]
  refine rest_set (d := 3) (v := PT d 0) (w' := w2) rfl rfl rfl (rfl) ?_
  simp only [Act.put, sa, sz, ss]
  refine rest_set (d := 4) (v := .int .i64 0) (w' := w2) rfl rfl rfl (rfl) ?_
  simp only [Act.put, sa, sz, ss]
  refine rest_nil (then_normal (wp_seq ?_))
  refine sq_start (l := [0, 1, 2, 3, 4]) rfl ?_
  refine rest_set (d := 9) (v := PT d 0) (w' := w2) rfl rfl rfl (rfl) ?_
  simp only [Act.put, sa, sz, ss]
  refine rest_set (d := 10) (v := .string s) (w' := w2) rfl rfl rfl (rfl) ?_
  simp only [Act.put, sa, sz, ss]
  refine rest_enter (d := 11) (R := fun vv w' => vv = .int .i64 2 ∧ Below w.heap.size w w') rfl rfl rfl (exec_call (args := #[PT d 0, .string s, .slice none 0 0]) rfl call19 rfl (mpn rfl)) (Calls.mono (fresh_is H2.out.2 rfl s hs hn rfl) (fun e w2 hh => ⟨_, hh.1, rfl, hh.2⟩)) ?_
  rintro _ w3 ⟨rfl, hI⟩
  have H3 : Hid (Mm w3 [] ∧ Below w.heap.size w w3) := ⟨Mm.nil _, hI⟩
  clear hI H2
  simp only [Act.put, sa, sz, ss]
  refine rest_set (d := 12) (v := .bool false) (w' := w3) rfl rfl rfl (by kernel_rfl) ?_
  simp only [Act.put, sa, sz, ss]
  refine rest_set (d := 2) (v := .bool false) (w' := w3) rfl rfl rfl (rfl) ?_
  simp only [Act.put, sa, sz, ss]
  refine rest_nil (then_normal (wp_ret ?_))
  repeat (first | refine then_ret ?_ | refine block_ret ?_)
  refine bodyPost_ret (v := .bool false) (by simp [results, Try.results115, go_sem, *]) rfl ?_
  exact ⟨rfl, H3.out.2⟩
theorem jnamed_any (s : ByteArray) (hs : s.size ≤ 281474976710656) (w : World) : Calls Try.prog 115 #[.string s] w fun e w' => e = .returned (.bool (nmd s)) ∧ Below w.heap.size w w' := by
  cases hn : nmd s with
  | true => exact jnamed_1 s hs hn w
  | false => exact jnamed_0 s hs hn w
theorem jnm_is (s : ByteArray) (hs : s.size ≤ 281474976710656) (c : Bool) (hn : nmd s = c) (w : World) : Calls Try.prog 115 #[.string s] w fun e w' => e = .returned (.bool c) ∧ Below w.heap.size w w' := by
  rw [← hn]
  exact jnamed_any s hs w
set_option maxHeartbeats 2000000 in
set_option maxRecDepth 100000 in
theorem jcontent_hit (d : Nat) (s : ByteArray) (hs : s.size ≤ 281474976710656) (hn : nmd s = true) (I1 : Pt8 → World → Prop) (w : World) (s1z : ∀ q u u', I1 q u → Below u.heap.size u u' → I1 q u') (hrdz : ∀ u, Below w.heap.size w u → Calls Try.prog 18 #[PT d 0, .string s] u fun e u' => ∃ q : Pt8, e = .returned (.tuple #[.slice q.p q.n q.cp, .int .i64 0]) ∧ I1 q u') :
    Calls Try.prog 91 #[PT d 0, .string s] w fun e w' => ∃ q : Pt8, e = .returned (.tuple #[.slice q.p q.n q.cp, .int .i64 0]) ∧ I1 q w' := by
  have H0 : Hid (_ ∧ _) := ⟨Mm.nil w, Below.refl w.heap.size w⟩
  have s1 : Hid _ := s1z
  have hrd : Hid _ := hrdz
  clear s1z hrdz
  go_enter Try.func91, Try.ntmps91
  refine wp_seq ?_
  refine sq_startW (l := [0, 1]) rfl (fun u0 hu0 => ?_)
  have H1 : Hid (Mm u0 [] ∧ Below w.heap.size w u0) := by rw [hu0]; exact H0
  clear hu0 H0
  refine rest_set (d := 4) (v := .slice none 0 0) (w' := u0) rfl rfl rfl (rfl) ?_
  simp only [Act.put, sa, sz, ss]
  refine rest_set (d := 5) (v := .int .i64 0) (w' := u0) rfl rfl rfl (rfl) ?_
  simp only [Act.put, sa, sz, ss]
  refine rest_nil (then_normal (wp_seq ?_))
  refine sq_start (l := [0, 1, 2, 3, 4, 5, 6, 7]) rfl ?_
  refine rest_set (d := 9) (v := PT d 0) (w' := u0) rfl rfl rfl (rfl) ?_
  simp only [Act.put, sa, sz, ss]
  refine rest_set (d := 10) (v := .string s) (w' := u0) rfl rfl rfl (rfl) ?_
  simp only [Act.put, sa, sz, ss]
  refine rest_enter (d := 11) (R := fun vv w' => ∃ q : Pt8, vv = .tuple #[.slice q.p q.n q.cp, .int .i64 0] ∧ I1 q w') rfl rfl rfl (exec_call (args := #[PT d 0, .string s]) rfl call18 rfl (mpn rfl)) (Calls.mono (hrd.out u0 H1.out.2) (fun e w2 hh => by obtain ⟨q, he, hI⟩ := hh; exact ⟨_, he, q, rfl, hI⟩)) ?_
  rintro _ w2 ⟨q, rfl, hI⟩
  have H2 : Hid (Mm w2 [] ∧ I1 q w2) := ⟨Mm.nil _, hI⟩
  clear hI H1
  simp only [Act.put, sa, sz, ss]
  refine rest_set (d := 8) (v := .tuple #[.slice q.p q.n q.cp, .int .i64 0]) (w' := w2) rfl rfl rfl (rfl) ?_
  simp only [Act.put, sa, sz, ss]
  refine rest_set (d := 12) (v := .slice q.p q.n q.cp) (w' := w2) rfl rfl rfl (by go_simp) ?_
  simp only [Act.put, sa, sz, ss]
  refine rest_set (d := 13) (v := .int .i64 0) (w' := w2) rfl rfl rfl (by go_simp) ?_
  simp only [Act.put, sa, sz, ss]
  refine rest_set (d := 6) (v := .slice q.p q.n q.cp) (w' := w2) rfl rfl rfl (rfl) ?_
  simp only [Act.put, sa, sz, ss]
  refine rest_set (d := 7) (v := .int .i64 0) (w' := w2) rfl rfl rfl (rfl) ?_
  simp only [Act.put, sa, sz, ss]
  refine rest_nil (then_normal ?_)
  refine wp_seq (wp_seq ?_)
  refine sq_start (l := [0, 1]) rfl ?_
  refine rest_set (d := 14) (v := .int .i64 0) (w' := w2) rfl rfl rfl (rfl) ?_
  simp only [Act.put, sa, sz, ss]
  refine rest_set (d := 15) (v := .bool false) (w' := w2) rfl rfl rfl (by kernel_rfl) ?_
  simp only [Act.put, sa, sz, ss]
  refine rest_nil (then_normal ?_)
  refine wp_cond_false rfl (wp_skip ?_)
  refine then_normal (wp_seq (wp_seq ?_))
  refine sq_start (l := [0, 1, 2]) rfl ?_
  refine rest_set (d := 17) (v := .string s) (w' := w2) rfl rfl rfl (rfl) ?_
  simp only [Act.put, sa, sz, ss]
  refine rest_enter (d := 18) (R := fun vv w' => vv = .bool true ∧ Below w2.heap.size w2 w') rfl rfl rfl (exec_call (args := #[.string s]) rfl call115 rfl (mpn rfl)) (Calls.mono (jnm_is s hs true hn w2) (fun e w2 hh => ⟨_, hh.1, rfl, hh.2⟩)) ?_
  rintro _ w3 ⟨rfl, hb⟩
  have H3 : Hid (Mm w3 [] ∧ I1 q w3) := ⟨H2.out.1.below hb, s1.out q _ _ H2.out.2 (hb)⟩
  clear hb
  clear H2
  simp only [Act.put, sa, sz, ss]
  refine rest_set (d := 19) (v := .bool false) (w' := w3) rfl rfl rfl (by go_simp) ?_
  simp only [Act.put, sa, sz, ss]
  refine rest_nil (then_normal ?_)
  refine wp_cond_false rfl (wp_skip ?_)
  refine then_normal (wp_seq (wp_seq ?_))
  refine sq_start (l := [0, 1]) rfl ?_
  refine rest_set (d := 20) (v := .int .i64 0) (w' := w3) rfl rfl rfl (rfl) ?_
  simp only [Act.put, sa, sz, ss]
  refine rest_set (d := 21) (v := .bool false) (w' := w3) rfl rfl rfl (by kernel_rfl) ?_
  simp only [Act.put, sa, sz, ss]
  refine rest_nil (then_normal ?_)
  refine wp_cond_false rfl (wp_skip ?_)
  refine then_normal (wp_seq ?_)
  refine sq_start (l := [0, 1, 2, 3]) rfl ?_
  refine rest_set (d := 22) (v := .slice q.p q.n q.cp) (w' := w3) rfl rfl rfl (rfl) ?_
  simp only [Act.put, sa, sz, ss]
  refine rest_set (d := 23) (v := .int .i64 0) (w' := w3) rfl rfl rfl (rfl) ?_
  simp only [Act.put, sa, sz, ss]
  refine rest_set (d := 4) (v := .slice q.p q.n q.cp) (w' := w3) rfl rfl rfl (rfl) ?_
  simp only [Act.put, sa, sz, ss]
  refine rest_set (d := 5) (v := .int .i64 0) (w' := w3) rfl rfl rfl (rfl) ?_
  simp only [Act.put, sa, sz, ss]
  refine rest_nil (then_normal (wp_ret ?_))
  repeat (first | refine then_ret ?_ | refine block_ret ?_)
  refine bodyPost_ret (v := .tuple #[.slice q.p q.n q.cp, .int .i64 0]) (by simp [results, Try.results91, go_sem, *]) rfl ?_
  exact ⟨_, rfl, H3.out.2⟩
set_option maxHeartbeats 2000000 in
set_option maxRecDepth 100000 in
theorem jcontent_miss (d : Nat) (s : ByteArray) (hs : s.size ≤ 281474976710656) (hn : nmd s = true) (w : World) (hrdz : ∀ u, Below w.heap.size w u → Calls Try.prog 18 #[PT d 0, .string s] u fun e u' => e = .returned (.tuple #[.slice none 0 0, .int .i64 6]) ∧ Below u.heap.size u u') :
    Calls Try.prog 91 #[PT d 0, .string s] w fun e w' => e = .returned (.tuple #[.slice none 0 0, .int .i64 0]) ∧ Below w.heap.size w w' := by
  have H0 : Hid (_ ∧ _) := ⟨Mm.nil w, Below.refl w.heap.size w⟩
  have hrd : Hid _ := hrdz
  clear hrdz
  go_enter Try.func91, Try.ntmps91
  refine wp_seq ?_
  refine sq_startW (l := [0, 1]) rfl (fun u0 hu0 => ?_)
  have H1 : Hid (Mm u0 [] ∧ Below w.heap.size w u0) := by rw [hu0]; exact H0
  clear hu0 H0
  refine rest_set (d := 4) (v := .slice none 0 0) (w' := u0) rfl rfl rfl (rfl) ?_
  simp only [Act.put, sa, sz, ss]
  refine rest_set (d := 5) (v := .int .i64 0) (w' := u0) rfl rfl rfl (rfl) ?_
  simp only [Act.put, sa, sz, ss]
  refine rest_nil (then_normal (wp_seq ?_))
  refine sq_start (l := [0, 1, 2, 3, 4, 5, 6, 7]) rfl ?_
  refine rest_set (d := 9) (v := PT d 0) (w' := u0) rfl rfl rfl (rfl) ?_
  simp only [Act.put, sa, sz, ss]
  refine rest_set (d := 10) (v := .string s) (w' := u0) rfl rfl rfl (rfl) ?_
  simp only [Act.put, sa, sz, ss]
  refine rest_enter (d := 11) (R := fun vv w' => vv = .tuple #[.slice none 0 0, .int .i64 6] ∧ Below u0.heap.size u0 w') rfl rfl rfl (exec_call (args := #[PT d 0, .string s]) rfl call18 rfl (mpn rfl)) (Calls.mono (hrd.out u0 H1.out.2) (fun e w2 hh => ⟨_, hh.1, rfl, hh.2⟩)) ?_
  rintro _ w2 ⟨rfl, hb⟩
  have H2 : Hid (Mm w2 [] ∧ Below w.heap.size w w2) := ⟨H1.out.1.below hb, H1.out.2.trans (hb.mono H1.out.2.size)⟩
  clear hb
  clear H1
  simp only [Act.put, sa, sz, ss]
  refine rest_set (d := 8) (v := .tuple #[.slice none 0 0, .int .i64 6]) (w' := w2) rfl rfl rfl (rfl) ?_
  simp only [Act.put, sa, sz, ss]
  refine rest_set (d := 12) (v := .slice none 0 0) (w' := w2) rfl rfl rfl (by go_simp) ?_
  simp only [Act.put, sa, sz, ss]
  refine rest_set (d := 13) (v := .int .i64 6) (w' := w2) rfl rfl rfl (by go_simp) ?_
  simp only [Act.put, sa, sz, ss]
  refine rest_set (d := 6) (v := .slice none 0 0) (w' := w2) rfl rfl rfl (rfl) ?_
  simp only [Act.put, sa, sz, ss]
  refine rest_set (d := 7) (v := .int .i64 6) (w' := w2) rfl rfl rfl (rfl) ?_
  simp only [Act.put, sa, sz, ss]
  refine rest_nil (then_normal ?_)
  refine wp_seq (wp_seq ?_)
  refine sq_start (l := [0, 1]) rfl ?_
  refine rest_set (d := 14) (v := .int .i64 6) (w' := w2) rfl rfl rfl (rfl) ?_
  simp only [Act.put, sa, sz, ss]
  refine rest_set (d := 15) (v := .bool false) (w' := w2) rfl rfl rfl (by kernel_rfl) ?_
  simp only [Act.put, sa, sz, ss]
  refine rest_nil (then_normal ?_)
  refine wp_cond_false rfl (wp_skip ?_)
  refine then_normal (wp_seq (wp_seq ?_))
  refine sq_start (l := [0, 1, 2]) rfl ?_
  refine rest_set (d := 17) (v := .string s) (w' := w2) rfl rfl rfl (rfl) ?_
  simp only [Act.put, sa, sz, ss]
  refine rest_enter (d := 18) (R := fun vv w' => vv = .bool true ∧ Below w2.heap.size w2 w') rfl rfl rfl (exec_call (args := #[.string s]) rfl call115 rfl (mpn rfl)) (Calls.mono (jnm_is s hs true hn w2) (fun e w2 hh => ⟨_, hh.1, rfl, hh.2⟩)) ?_
  rintro _ w3 ⟨rfl, hb⟩
  have H3 : Hid (Mm w3 [] ∧ Below w.heap.size w w3) := ⟨H2.out.1.below hb, H2.out.2.trans (hb.mono H2.out.2.size)⟩
  clear hb
  clear H2
  simp only [Act.put, sa, sz, ss]
  refine rest_set (d := 19) (v := .bool false) (w' := w3) rfl rfl rfl (by go_simp) ?_
  simp only [Act.put, sa, sz, ss]
  refine rest_nil (then_normal ?_)
  refine wp_cond_false rfl (wp_skip ?_)
  refine then_normal (wp_seq (wp_seq ?_))
  refine sq_start (l := [0, 1]) rfl ?_
  refine rest_set (d := 20) (v := .int .i64 6) (w' := w3) rfl rfl rfl (rfl) ?_
  simp only [Act.put, sa, sz, ss]
  refine rest_set (d := 21) (v := .bool true) (w' := w3) rfl rfl rfl (by kernel_rfl) ?_
  simp only [Act.put, sa, sz, ss]
  refine rest_nil (then_normal ?_)
  refine wp_cond_true rfl (wp_seq ?_)
  refine sq_start (l := [0, 1]) rfl ?_
  refine rest_set (d := 4) (v := .slice none 0 0) (w' := w3) rfl rfl rfl (rfl) ?_
  simp only [Act.put, sa, sz, ss]
  refine rest_set (d := 5) (v := .int .i64 0) (w' := w3) rfl rfl rfl (rfl) ?_
  simp only [Act.put, sa, sz, ss]
  refine rest_nil (then_normal (wp_ret ?_))
  repeat (first | refine then_ret ?_ | refine block_ret ?_)
  refine bodyPost_ret (v := .tuple #[.slice none 0 0, .int .i64 0]) (by simp [results, Try.results91, go_sem, *]) rfl ?_
  exact ⟨rfl, H3.out.2⟩
/-- A file's content, or none. -/
def cnN : Option Fq → Nat
  | some f => f.N
  | none => 0
def cnC : Option Fq → Nat → Nat
  | some f => f.C
  | none => fun _ => 0
/-- A part that was made behind w. -/
structure Pw (w : World) (n : Nat) (f : Nat → Nat) (q : Pt8) (u : World) : Prop where
  b : Below w.heap.size w u
  ok : Pok q
  no : q.p = none → q.cp = 0
  rs : q.rs u
  n : q.n = n
  f : q.f = f
  gb : 0 < q.n → w.heap.size ≤ q.gb
theorem Pw.step {w u u' : World} {n : Nat} {f : Nat → Nat} {q : Pt8} (h : Pw w n f q u) (hb : Below u.heap.size u u') : Pw w n f q u' := ⟨h.b.trans (hb.mono h.b.size), h.ok, h.no, h.rs.below hb, h.n, h.f, h.gb⟩
theorem jcontent_f (D : Dq) (s : ByteArray) (hs : s.size ≤ 281474976710656) (hn : nmd s = true) (w : World) (h : DOk w D) : Calls Try.prog 91 #[PT D.d 0, .string s] w fun e w' => ∃ q : Pt8, e = .returned (.tuple #[.slice q.p q.n q.cp, .int .i64 0]) ∧ Pw w (cnN (lk D.fs s)) (cnC (lk D.fs s)) q w' := by
  have hsz : s.size ≤ maxLen := by unfold maxLen; omega
  cases hl : lk D.fs s with
  | none =>
    refine (jcontent_miss D.d s hs hn w (fun u hu => ?_)).mono fun e w' hh => ⟨nilp (fun _ => 0), hh.1, ⟨hh.2, (nilp_ok _ w').1, (nilp_ok _ w').2.1, (nilp_ok _ w').2.2, rfl, rfl, fun h0 => absurd h0 (by show ¬0 < 0; decide)⟩⟩
    have e := Read_f D s hsz u (h.below hu)
    rw [hl] at e
    exact e
  | some f =>
    refine jcontent_hit D.d s hs hn (fun q u => Pw w f.N f.C q u) w (fun q u u' hu hb => hu.step hb) (fun u hu => ?_)
    have e := Read_f D s hsz u (h.below hu)
    rw [hl] at e
    refine e.mono fun e u' hh => ?_
    obtain ⟨v, e1, e2⟩ := hh
    obtain ⟨q, t1, t2, t3, t4, t5, t6, t7⟩ := (Cw.up hu e2).part
    exact ⟨q, by rw [e1, t1], hu.trans (e2.b.mono hu.size), t2, t3, t6, t4, t5, t7⟩
end Wi
end Rg
end Go.Proofs.Ytidicdlfjdlpnaa
end
