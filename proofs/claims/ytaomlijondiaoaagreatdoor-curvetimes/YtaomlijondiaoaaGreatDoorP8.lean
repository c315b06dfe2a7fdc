/- Texts of the proof, joined. -/
import Derived.Test.YtaomlijondiaoaaGreatDoorP7
set_option maxRecDepth 100000
section
namespace Go.Proofs.YtaomlijondiaoaaGreatDoor
namespace EC
section
variable {β : Type _} (O : Ops β)
def ptog (b : β) (p q : Tri β) : Tri β :=
 let xx := O.mul p.1 q.1
 let yy := O.mul p.2.1 q.2.1
 let zz := O.mul p.2.2 q.2.2
 let xy := osub O (O.mul (O.add p.1 p.2.1) (O.add q.1 q.2.1)) (O.add xx yy)
 let yz := osub O (O.mul (O.add p.2.1 p.2.2) (O.add q.2.1 q.2.2)) (O.add yy zz)
 let xz := osub O (O.mul (O.add p.1 p.2.2) (O.add q.1 q.2.2)) (O.add xx zz)
 let xx3 := o3 O xx
 let xz3 := o3 O (O.mul b xz)
 let zz3 := o3 O (O.mul b zz)
 let less := osub O yy zz3
 let more := O.add yy zz3
 (osub O (O.mul less xy) (O.mul yz xz3), O.add (O.mul less more) (O.mul xx3 xz3), O.add (O.mul more yz) (O.mul xx3 xy))
end
section
variable {α : Type} (C : Crv α)
open Ex in
theorem Crv.ptog_eq (A B : Tri α) : ptog (rops C.R) C.b A B = C.tog A B := by
 obtain ⟨x1, y1, z1⟩ := A
 obtain ⟨x2, y2, z2⟩ := B
 refine Prod.ext ?_ (Prod.ext ?_ ?_)
 ·exact ring_f C.R C.b x1 y1 z1 x2 y2 z2 C.b (ptog exo (v 0) (v 1, v 2, v 3) (v 4, v 5, v 6)).1 (EC.tog exo (v 0) (v 1, v 2, v 3) (v 4, v 5, v 6)).1 (by decide +kernel)
 ·exact ring_f C.R C.b x1 y1 z1 x2 y2 z2 C.b (ptog exo (v 0) (v 1, v 2, v 3) (v 4, v 5, v 6)).2.1 (EC.tog exo (v 0) (v 1, v 2, v 3) (v 4, v 5, v 6)).2.1 (by decide +kernel)
 ·exact ring_f C.R C.b x1 y1 z1 x2 y2 z2 C.b (ptog exo (v 0) (v 1, v 2, v 3) (v 4, v 5, v 6)).2.2 (EC.tog exo (v 0) (v 1, v 2, v 3) (v 4, v 5, v 6)).2.2 (by decide +kernel)
end
section
variable {α : Type} [DecidableEq α] (C : Crv α)
open Ex in
theorem Crv.twice_ne {x y : α} (h : C.on (some (x, y))) : C.add (some (x, y)) (some (x, y)) ≠ none := fun e => by
 have h' : C.R.mul y y = side C.R C.b x := h
 have hz := ring_c C.R C.b x x y y h' h' (EC.tog exo (v 0) (v 1, v 3, o) (v 1, v 3, o)).2.2 (m (a (v 3) (v 3)) (m (a (v 3) (v 3)) (a (v 3) (v 3)))) (by decide +kernel)
 have h2 := C.two (C.y_ne h)
 have hn : (C.tog (C.lift (some (x, y))) (C.lift (some (x, y)))).2.2 ≠ C.R.zero := fun e0 => C.ne h2 (C.ne h2 h2) (hz.symm.trans e0)
 unfold Crv.add at e
 rw [C.lower_some hn] at e
 cases e
/-! Digits of a word, and six words: what the rounds come to. -/
theorem Crv.times_step {P : Option (α × α)} (h : C.on P) (n d : Nat) : C.add (C.times P (16 * n)) (C.times P d) = C.times P (16 * n + d) := (C.times_add h _ _).symm
theorem Crv.times_two {P : Option (α × α)} (h : C.on P) (n : Nat) : C.add (C.times P n) (C.times P n) = C.times P (2 * n) := by
 rw [← C.times_add h, show n + n = 2 * n by omega]
theorem Crv.times_sixteen {P : Option (α × α)} (h : C.on P) (n : Nat) {T : Tri α} (hT : C.rep T (C.times P n)) : C.rep (C.twice (C.twice (C.twice (C.twice T)))) (C.times P (16 * n)) := by
 have o := fun k => C.times_on h k
 have h1 := C.rep_twice hT (o n)
 rw [C.times_two h] at h1
 have h2 := C.rep_twice h1 (o _)
 rw [C.times_two h] at h2
 have h3 := C.rep_twice h2 (o _)
 rw [C.times_two h] at h3
 have h4 := C.rep_twice h3 (o _)
 rw [C.times_two h] at h4
 rw [show 16 * n = 2 * (2 * (2 * (2 * n))) by omega]
 exact h4
end
end EC
end Go.Proofs.YtaomlijondiaoaaGreatDoor
end
section
namespace Go.Proofs.YtaomlijondiaoaaGreatDoor
open Go.RowKit
namespace Rg
set_option maxHeartbeats 1000000 in
theorem norm_gen (g n o s a0 a1 f0 f1 q0 q1 z0 z1 r : Nat)
  (c0 : ∀ w, Calls Tryz.prog 173 #[N a0, N a0] w (Rt w (V [f0, f1])))
  (c1 : ∀ w, Calls Tryz.prog 173 #[N a1, N a1] w (Rt w (V [q0, q1])))
  (c2 : ∀ w, Calls Tryz.prog 175 #[V [f0, f1], V [q0, q1]] w (Rt w (V [z0, z1])))
  (c3 : ∀ w, Mm w [(g, zZ n o s)] → Calls Tryz.prog 172 #[.agg #[PT g 0], V [z0, z1]] w (Rt w (N r))) (w : World) (hm : Mm w [(g, zZ n o s)]) :
  Calls Tryz.prog 168 #[.agg #[PT g 0], V [a0, a1]] w (Rt w (N r)) := by
 have H0 : Hid (_ ∧ _) := ⟨hm, Below.refl w.heap.size w⟩
 clear hm
 have C0 : Hid _ := c0
 have C1 : Hid _ := c1
 have C2 : Hid _ := c2
 have C3 : Hid _ := c3
 clear c0 c1 c2 c3
 go_enter Tryz.func168, Tryz.ntmps168
 refine wp_seq ?_
 refine zC 3 [.made [PT g 0] 167, .made (cel [a0, a1]) 40, .made zero6 24] (sB H0) ?ho1 ?he1
 case ho1 => exact am (ex_boxF rfl rfl) (am (ex_boxA rfl rfl) (am (zJ rfl) trivial))
 intro γ w1 l hM hl
 have H1 : Hid (Mm w1 ([(γ 0, [PT g 0]), (γ 1, cel [a0, a1]), (γ 2, zero6)] ++ _) ∧ _) := wB H0 hM hl [0, 1, 2]
 have o1_0 := vB H0 hM hl 0
 have o1_1 := vB H0 hM hl 1
 have o1_2 := vB H0 hM hl 2
 clear hM hl l
 generalize γ 0 = γ1_0 at H1 o1_0 ⊢
 generalize γ 1 = γ1_1 at H1 o1_1 ⊢
 generalize γ 2 = γ1_2 at H1 o1_2 ⊢
 clear γ
 refine rN (wp_seq ?_)
 refine zP 13 [.quiet (.agg #[PT g 0]), .quiet (PT γ1_1 0), .quiet (N a0), .quiet (PT γ1_1 0), .quiet (N a0), .call (V [f0, f1]), .quiet (PT γ1_1 6), .quiet (N a1), .quiet (PT γ1_1 6), .quiet (N a1), .call (V [q0, q1]), .call (V [z0, z1]), .call (N r)] H1 ?ho2 ?he2
 case ho2 => exact aq (fun w' h => ex_loadF h 0 rfl rfl rfl rfl) (ag (aq (fun w' h => zX (i := 0) h 1 rfl rfl rfl rfl) (ag (aq (fun w' h => zX (i := 0) h 1 rfl rfl rfl rfl) (ac (fun w' h => eC call173 (C0.out w')) (ag (aq (fun w' h => zX (i := 1) h 1 rfl rfl rfl rfl) (ag (aq (fun w' h => zX (i := 1) h 1 rfl rfl rfl rfl) (ac (fun w' h => eC call173 (C1.out w')) (ac (fun w' h => eC call175 (C2.out w')) (ac (fun w' h => eC call172 (C3.out w' (h.one 3 rfl))) trivial))))))))))))
 intro _ w2 H2
 clear H1
 refine zF (l := [13]) rfl ?_
 refine sG rfl (fun h => zO h 2 rfl rfl rfl rfl (Nat.le_of_ble_eq_true rfl)) 2 [_, _, (_, zD r), _] H2 o1_2 fun w3 H3 => ?_
 clear H2
 refine zE (zA (wp_ret ?_))
 repeat (first | refine zM ?_ | refine zI ?_)
 have c0 := H3.out.1.get 2 rfl 0 rfl
 have c1 := H3.out.1.get 2 rfl 1 rfl
 have c2 := H3.out.1.get 2 rfl 2 rfl
 have c3 := H3.out.1.get 2 rfl 3 rfl
 have c4 := H3.out.1.get 2 rfl 4 rfl
 have c5 := H3.out.1.get 2 rfl 5 rfl
 refine bodyPost_ret (v := N r) (by simp [results, Tryz.results168, go_sem, *]) rfl ?_
 exact ⟨rfl, H3.out.2⟩
set_option maxHeartbeats 1000000 in
theorem inv2_ok (g n o s a0 a1 q x d r0 r1 : Nat)
  (c0 : ∀ w, Mm w [(g, zZ n o s)] → Calls Tryz.prog 168 #[.agg #[PT g 0], V [a0, a1]] w (Rt w (N q)))
  (c1 : ∀ w, Mm w [(g, zZ n o s), (0, dtab)] → Calls Tryz.prog 86 #[PT g 0, N q] w (Rt w (.tuple #[N x, .int .i64 0])))
  (c2 : ∀ w, Mm w [(g, zZ n o s)] → Calls Tryz.prog 85 #[PT g 0, N a0, N x] w (Rt w (N r0)))
  (c3 : ∀ w, Calls Tryz.prog 148 #[N a1] w (Rt w (N d)))
  (c4 : ∀ w, Mm w [(g, zZ n o s)] → Calls Tryz.prog 85 #[PT g 0, N d, N x] w (Rt w (N r1))) (w : World) (hm : Mm w [(g, zZ n o s), (0, dtab)]) :
  Calls Tryz.prog 147 #[.agg #[PT g 0], V [a0, a1]] w (Rt w (.tuple #[V [r0, r1], .int .i64 0])) := by
 have H0 : Hid (_ ∧ _) := ⟨hm, Below.refl w.heap.size w⟩
 clear hm
 have C0 : Hid _ := c0
 have C1 : Hid _ := c1
 have C2 : Hid _ := c2
 have C3 : Hid _ := c3
 have C4 : Hid _ := c4
 clear c0 c1 c2 c3 c4
 go_enter Tryz.func147, Tryz.ntmps147
 refine wp_seq ?_
 refine zC 4 [.made [PT g 0] 167, .made (cel [a0, a1]) 40, .made (cel [0, 0]) 40, .quiet (.int .i64 0)] (sB H0) ?ho1 ?he1
 case ho1 => exact am (ex_boxF rfl rfl) (am (ex_boxA rfl rfl) (am (ex_madeE2 rfl) (ar trivial)))
 intro γ w1 l hM hl
 have H1 : Hid (Mm w1 ([(γ 0, [PT g 0]), (γ 1, cel [a0, a1]), (γ 2, cel [0, 0])] ++ _) ∧ _) := wB H0 hM hl [0, 1, 2]
 have o1_0 := vB H0 hM hl 0
 have o1_1 := vB H0 hM hl 1
 have o1_2 := vB H0 hM hl 2
 clear hM hl l
 generalize γ 0 = γ1_0 at H1 o1_0 ⊢
 generalize γ 1 = γ1_1 at H1 o1_1 ⊢
 generalize γ 2 = γ1_2 at H1 o1_2 ⊢
 clear γ
 refine rN (wp_seq ?_)
 refine zS 12 [.quiet (PT γ1_0 0), .quiet (PT g 0), .quiet (.agg #[PT g 0]), .quiet (V [a0, a1]), .call (N q), .call (.tuple #[N x, .int .i64 0]), .quiet (.tuple #[N x, .int .i64 0]), .quiet (N x), .quiet (.int .i64 0), .made zero6 24, .laid 9 zero6 (zD x), .quiet (.int .i64 0)] (sB H1) ?ho2 ?he2 (hL := ?hL2)
 case hL2 => exact ⟨⟨_, rfl⟩, trivial⟩
 case ho2 => exact ag (aq (fun w' h => ex_loadQ h 0 rfl rfl rfl rfl) (aq (fun w' h => ex_loadF h 0 rfl rfl rfl rfl) (bA 0 2 1 Tryz.isAgg40 Tryz.sizeOf40 (ac (fun w' h => eC call168 (C0.out w' (h.one 3 rfl))) (ac (fun w' h => eC call86 (C1.out w' (h.two 3 4 rfl rfl (by decide)))) (ar (ag (ag (am (zJ rfl) (ak (fun γ => ⟨rfl, rfl, rfl, fun w' h => zN h rfl rfl rfl⟩) (ar trivial)))))))))))
 intro γ w2 l hM hl
 have H2 : Hid (Mm w2 ([(γ 9, zD x)] ++ _) ∧ _) := wB H1 hM hl [9]
 have o2_9 := vB H1 hM hl 9
 clear hM hl l H1
 generalize γ 9 = γ2_9 at H2 o2_9 ⊢
 clear γ
 refine rN (wp_seq (wp_seq ?_))
 refine zB 2 [.quiet (.int .i64 0), .quiet (.bool false)] H2 ?ho3 ?he3
 case ho3 => exact ar (ag trivial)
 intro _ w3 H3
 clear H2
 refine rN (wp_cond_false rfl ?_)
 refine wp_skip (zA (wp_seq ?_))
 refine zP 14 [.quiet (PT γ1_0 0), .quiet (PT g 0), .quiet (PT γ1_1 0), .quiet (N a0), .quiet (N x), .call (N r0), .quiet (PT γ1_0 0), .quiet (PT g 0), .quiet (PT γ1_1 6), .quiet (N a1), .call (N d), .quiet (N x), .call (N r1), .quiet (V [r0, r1])] H3 ?ho4 ?he4
 case ho4 => exact ag (aq (fun w' h => ex_loadQ h 1 rfl rfl rfl rfl) (ag (aq (fun w' h => zX (i := 0) h 2 rfl rfl rfl rfl) (bN 0 (ac (fun w' h => eC call85 (C2.out w' (h.one 4 rfl))) (ag (aq (fun w' h => ex_loadQ h 1 rfl rfl rfl rfl) (ag (aq (fun w' h => zX (i := 1) h 2 rfl rfl rfl rfl) (ac (fun w' h => eC call148 (C3.out w')) (bN 0 (ac (fun w' h => eC call85 (C4.out w' (h.one 4 rfl))) (ak (fun γ => ⟨rfl, fun w' _ => ex_buildE2 rfl rfl rfl⟩) trivial)))))))))))))
 intro _ w4 H4
 clear H3
 refine zF (l := [14, 15]) rfl ?_
 refine sF 3 [r0, r1] [_, _, _, _, _, _] H4 o1_2 Tryz.sizeOf40 fun w5 H5 => ?_
 clear H4
 refine zG (d := 5) rfl rfl rfl rfl ?_
 simp only [Act.put, sa, sz, ss]
 refine zE (zA (wp_ret ?_))
 repeat (first | refine zM ?_ | refine zI ?_)
 have hf0 := cel_var (k := 2) H5.out.1 3 rfl Tryz.isAgg40 Tryz.sizeOf40 rfl
 refine bodyPost_ret (v := .tuple #[V [r0, r1], .int .i64 0]) (by simp [results, Tryz.results147, asAddr, Act.eval, hf0]) rfl ?_
 exact ⟨rfl, H5.out.2⟩
set_option maxHeartbeats 1000000 in
theorem invT_ok (n a0 a1 m0 m1 r0 r1 : Nat)
  (c0 : ∀ w, Calls Tryz.prog 145 #[] w fun e w' => Below w.heap.size w w' ∧ ∃ g, e = .returned (.agg #[PT g 0]) ∧ w.heap.size ≤ g ∧ g < w'.heap.size ∧ Blk w' g (yB n))
  (c1 : ∀ w, Calls Tryz.prog 142 #[V [a0, a1]] w (Rt w (V [m0, m1])))
  (c2 : ∀ g w, Mm w [(g, yB n), (0, dtab)] → Calls Tryz.prog 147 #[.agg #[PT g 0], V [m0, m1]] w (Rt w (.tuple #[V [r0, r1], .int .i64 0]))) (w : World) (hm : Mm w [(0, dtab)]) :
  Calls Tryz.prog 106 #[V [a0, a1]] w (Rt w (.tuple #[V [r0, r1], .int .i64 0])) := by
 have H0 : Hid (_ ∧ _) := ⟨hm, Below.refl w.heap.size w⟩
 clear hm
 have C0 : Hid _ := c0
 have C1 : Hid _ := c1
 have C2 : Hid _ := c2
 clear c0 c1 c2
 go_enter Tryz.func106, Tryz.ntmps106
 refine wp_seq ?_
 refine zC 3 [.made (cel [a0, a1]) 40, .made (cel [0, 0]) 40, .quiet (.int .i64 0)] (sB H0) ?ho1 ?he1
 case ho1 => exact am (ex_boxA rfl rfl) (am (ex_madeE2 rfl) (ar trivial))
 intro γ w1 l hM hl
 have H1 : Hid (Mm w1 ([(γ 0, cel [a0, a1]), (γ 1, cel [0, 0])] ++ _) ∧ _) := wB H0 hM hl [0, 1]
 have o1_0 := vB H0 hM hl 0
 have o1_1 := vB H0 hM hl 1
 clear hM hl l
 generalize γ 0 = γ1_0 at H1 o1_0 ⊢
 generalize γ 1 = γ1_1 at H1 o1_1 ⊢
 clear γ
 refine rN (wp_seq ?_)
 refine zS 6 [.born (fun g => .agg #[PT g 0]) (yB n), .quiet (V [a0, a1]), .call (V [m0, m1]), .over (.tuple #[V [r0, r1], .int .i64 0]) 0 (yB n), .quiet (V [r0, r1]), .quiet (.int .i64 0)] (sB H1) ?ho2 ?he2 (hL := ?hL2)
 case hL2 => exact ⟨⟨_, rfl⟩, trivial⟩
 case ho2 => exact ak (fun γ => ⟨rfl, fun w' h => eC call145 (C0.out w')⟩) (bA 0 2 0 Tryz.isAgg40 Tryz.sizeOf40 (ak (fun γ => ⟨rfl, fun w' h => eC call142 (C1.out w')⟩) (ak (fun γ => ⟨rfl, fun u w' h0 hge h1 hb hlt => by have h := Mm.over h0 hge h1 hb hlt; exact eC call147 (C2.out _ w' (h.two 0 3 rfl rfl (by decide)))⟩) (ag (ag trivial)))))
 intro γ w2 l hM hl
 have H2 : Hid (Mm w2 ([(γ 0, yB n)] ++ _) ∧ _) := wB H1 hM hl [0]
 have o2_0 := vB H1 hM hl 0
 clear hM hl l H1
 generalize γ 0 = γ2_0 at H2 o2_0 ⊢
 clear γ
 refine zF (l := [6, 7]) rfl ?_
 refine sF 2 [r0, r1] [_, _, _, _] H2 o1_1 Tryz.sizeOf40 fun w3 H3 => ?_
 clear H2
 refine zG (d := 3) rfl rfl rfl rfl ?_
 simp only [Act.put, sa, sz, ss]
 refine zE (zA (wp_ret ?_))
 repeat (first | refine zM ?_ | refine zI ?_)
 have hf0 := cel_var (k := 2) H3.out.1 2 rfl Tryz.isAgg40 Tryz.sizeOf40 rfl
 refine bodyPost_ret (v := .tuple #[V [r0, r1], .int .i64 0]) (by simp [results, Tryz.results106, asAddr, Act.eval, hf0]) rfl ?_
 exact ⟨rfl, H3.out.2⟩
end Rg
end Go.Proofs.YtaomlijondiaoaaGreatDoor
end
section
namespace Go.Proofs.YtaomlijondiaoaaGreatDoor
open Go.RowKit
namespace Rg
open NT
theorem pz_big (x : Int) : pz x < big := Nat.lt_trans (pz_lt x) pB_lt
theorem pz_pair (x y : Int) : 0 ≤ (pz x : Int) * (pz y : Int) ∧ (pz x : Int) * (pz y : Int) ≤ (pB : Int) * pB := by
 have h := Nat.mul_le_mul (Nat.le_of_lt (pz_lt x)) (Nat.le_of_lt (pz_lt y))
 rw [← Int.natCast_mul, ← Int.natCast_mul]
 omega
theorem pz_small {i : Nat} (h : i < pB) : pz (i : Int) = i := by rw [pz_nat, Nat.mod_eq_of_lt h]
theorem pz_times (x : Int) {i : Nat} (h : i < pB) : pz x * i % pB = pz (x * (i : Int)) := by rw [pz_mulN, pz_small h]
theorem norm_any {g : Nat} (x y : Int) (w : World) (hm : Mm w [(g, yB pB)]) : Calls Tryz.prog 168 #[.agg #[PT g 0], V [pz x, pz y]] w (Rt w (N (pz (x * x + y * y)))) := by
 have w0 : Wi ((pz x : Int) * pz x + (pz y : Int) * pz y) := by have := pz_pair x x; have := pz_pair y y; unfold Wi; omega
 have c4 := fun w hm => restF_any (g := g) _ w0 w hm
 rw [pz_addmul] at c4
 exact norm_gen g pB _ _ (pz x) (pz y) _ _ _ _ _ _ _ (fun w => timesZ_any (pz x) (pz x) (pz_big x) (pz_big x) w) (fun w => timesZ_any (pz y) (pz y) (pz_big y) (pz_big y) w) (fun w => plusZ_any _ _ w) c4 w hm
theorem unit_gcd {x : Int} (h : ¬ Dv x) : Nat.gcd pB (pz x) = 1 := by
 refine pB_prm.cop (fun hd => h ?_)
 rw [← pz_zero_iff]
 obtain ⟨k, hk⟩ := hd
 have := pz_lt x
 rcases Nat.eq_zero_or_pos k with h0 | h0
 ·rw [hk, h0, Nat.mul_zero]
 ·have := Nat.mul_le_mul (Nat.le_refl pB) h0
  omega
def iv (x : Int) : Nat := invm pB (pz x)
theorem iv_lt {x : Int} (h : ¬ Dv x) : iv x < pB := (invm_spec pB_ok (unit_gcd h)).1
theorem inv2F_ok {g : Nat} (x y : Int) (h : ¬ Dv (x * x + y * y)) (w : World) (hm : Mm w [(g, yB pB), (0, dtab)]) : Calls Tryz.prog 147 #[.agg #[PT g 0], V [pz x, pz y]] w (Rt w (.tuple #[V [pz (x * (iv (x * x + y * y) : Int)), pz (-y * (iv (x * x + y * y) : Int))], .int .i64 0])) := by
 have hi := iv_lt h
 have c1 := fun w hm => inv_ok (g := g) pB_ok (pz_big (x * x + y * y)) (unit_gcd h) w hm
 have e1 : invm pB (pz (x * x + y * y)) = iv (x * x + y * y) := rfl
 rw [e1] at c1
 generalize iv (x * x + y * y) = i at *
 have c2 := fun w hm => mulm_any (g := g) pB_ok (pz_big x) (Nat.lt_trans hi pB_lt) w hm
 have c4 := fun w hm => mulm_any (g := g) pB_ok (pz_big (-y)) (Nat.lt_trans hi pB_lt) w hm
 rw [pz_times _ hi] at c2 c4
 exact inv2_ok g pB _ _ (pz x) (pz y) _ i _ _ _ (fun w hm => norm_any x y w hm) c1 c2 (fun w => negated_any y w) c4 w hm
theorem invT_good (a0 a1 : Nat) (h0 : a0 < big) (h1 : a1 < big) (h : ¬ Dv ((a0 : Int) * a0 + (a1 : Int) * a1)) (w : World) (hm : Mm w [(0, dtab)]) : Calls Tryz.prog 106 #[V [a0, a1]] w (Rt w (.tuple #[V [pz ((a0 : Int) * (iv ((a0 : Int) * a0 + (a1 : Int) * a1) : Int)), pz (-(a1 : Int) * (iv ((a0 : Int) * a0 + (a1 : Int) * a1) : Int))], .int .i64 0])) :=
 invT_ok pB a0 a1 _ _ _ _ great_any (fun w => left2_any a0 a1 h0 h1 w) (fun g w hm => inv2F_ok (g := g) _ _ h w hm) w hm
end Rg
end Go.Proofs.YtaomlijondiaoaaGreatDoor
end
section
namespace Go.Proofs.YtaomlijondiaoaaGreatDoor
open Go.RowKit
namespace Rg
open NT
def p0 (a : Fp) : Nat := a.1
def q0 (a : Fq) : Nat := a.1.1
def q1 (a : Fq) : Nat := a.2.1
theorem p0_big (a : Fp) : p0 a < big := Nat.lt_trans a.2 pB_lt
theorem q0_big (a : Fq) : q0 a < big := Nat.lt_trans a.1.2 pB_lt
theorem q1_big (a : Fq) : q1 a < big := Nat.lt_trans a.2.2 pB_lt
theorem sub_val {I : Fp → Fp} (hI : yC I) (x y : Fp) : subm pB (p0 x) (p0 y) = p0 (EC.osub (EC.rops (K1 hI).R) x y) := by
 show (x.1 + (pB - y.1 % pB)) % pB = (x.1 + (pB - y.1) % pB) % pB
 rw [Nat.mod_eq_of_lt y.2, Nat.add_mod_mod]
theorem iv_I {I : Fp → Fp} (hI : yC I) {x : Fp} (hx : x ≠ fpR.zero) : invm pB (p0 x) = p0 ((K1 hI).inv x) := invm_eq (I x).2 (congrArg Subtype.val (hI x hx))
theorem va_1 {I : Fp → Fp} (hI : yC I) (x y : Fp) : (p0 x + p0 y) % pB = p0 ((K1 hI).R.add x y) := rfl
theorem vm_1 {I : Fp → Fp} (hI : yC I) (x y : Fp) : p0 x * p0 y % pB = p0 ((K1 hI).R.mul x y) := rfl
theorem vz_1 {I : Fp → Fp} (hI : yC I) : p0 (K1 hI).R.zero = 0 := rfl
theorem fd1 {I : Fp → Fp} (hI : yC I) (g : Nat) : Fd1 g p0 (K1 hI).R.add (EC.osub (EC.rops (K1 hI).R)) (K1 hI).R.mul (K1 hI).inv (K1 hI).R.zero where
 ca := fun x y w hm => by
  have h := addm_any (g := g) pB_ok (p0_big x) (p0_big y) w (hm.one 0 rfl)
  rw [va_1 hI] at h
  exact h
 cs := fun x y w hm => by
  have h := subm_any (g := g) pB_ok (p0_big x) (p0_big y) w (hm.one 0 rfl)
  rw [sub_val hI] at h
  exact h
 cm := fun x y w hm => by
  have h := mulm_any (g := g) pB_ok (p0_big x) (p0_big y) w (hm.one 0 rfl)
  rw [vm_1 hI] at h
  exact h
 cz := fun x w hm => by
  have h := subm_any (g := g) pB_ok (p0_big (K1 hI).R.zero) (p0_big x) w (hm.one 0 rfl)
  rw [sub_val hI, vz_1 hI] at h
  exact h
 ci := fun x w hx hm => by
  have h := inv_ok (g := g) pB_ok (p0_big x) (fp_gcd hx) w hm
  rw [iv_I hI hx] at h
  exact h
theorem cg_pz {a : Fp} {x : Int} (h : Cg a x) : pz x = a.1 := by
 have e := (pz_iff (a.1 : Int) x).2 h
 rw [← e, pz_nat, Nat.mod_eq_of_lt a.2]
theorem fq_zero {a : Fq} (h : a ≠ fqR.zero) : ¬ Dv ((q0 a : Int) * q0 a + (q1 a : Int) * q1 a) := fun hd => h (by
 obtain ⟨h1, h2⟩ := norm0 hd
 have z : ∀ c : Fp, Dv (c.1 : Int) → c = fpR.zero := fun c hc => by
  refine Subtype.ext ?_
  show c.1 = 0
  rcases Nat.eq_zero_or_pos c.1 with h0 | h0
  ·exact h0
  ·exact absurd hc (not_dv h0 c.2)
 exact Prod.ext (z a.1 h1) (z a.2 h2))
theorem cq0 (x : Fq) : Cg x.1 (q0 x : Int) := cg_self x.1
theorem cq1 (x : Fq) : Cg x.2 (q1 x : Int) := cg_self x.2
theorem va0 {I : Fp → Fp} (hI : yC I) (x y : Fq) : pz ((q0 x : Int) + q0 y) = q0 ((K2 hI).R.add x y) := cg_pz ((cq0 x).add (cq0 y))
theorem va1 {I : Fp → Fp} (hI : yC I) (x y : Fq) : pz ((q1 x : Int) + q1 y) = q1 ((K2 hI).R.add x y) := cg_pz ((cq1 x).add (cq1 y))
theorem vs0 {I : Fp → Fp} (hI : yC I) (x y : Fq) : pz ((q0 x : Int) - q0 y) = q0 (EC.osub (EC.rops (K2 hI).R) x y) := by
 rw [Int.sub_eq_add_neg]
 exact cg_pz ((cq0 x).add (cq0 y).neg)
theorem vs1 {I : Fp → Fp} (hI : yC I) (x y : Fq) : pz ((q1 x : Int) - q1 y) = q1 (EC.osub (EC.rops (K2 hI).R) x y) := by
 rw [Int.sub_eq_add_neg]
 exact cg_pz ((cq1 x).add (cq1 y).neg)
theorem vm0 {I : Fp → Fp} (hI : yC I) (x y : Fq) : pz ((q0 x : Int) * q0 y - (q1 x : Int) * q1 y) = q0 ((K2 hI).R.mul x y) := by
 rw [Int.sub_eq_add_neg]
 exact cg_pz (((cq0 x).mul (cq0 y)).add ((cq1 x).mul (cq1 y)).neg)
theorem vm1 {I : Fp → Fp} (hI : yC I) (x y : Fq) : pz ((q0 x : Int) * q1 y + (q1 x : Int) * q0 y) = q1 ((K2 hI).R.mul x y) := cg_pz (((cq0 x).mul (cq1 y)).add ((cq1 x).mul (cq0 y)))
theorem vz0 {I : Fp → Fp} (hI : yC I) : q0 (K2 hI).R.zero = 0 := rfl
theorem vz1 {I : Fp → Fp} (hI : yC I) : q1 (K2 hI).R.zero = 0 := rfl
theorem vn (x : Fq) : Cg (fpR.add (fpR.mul x.1 x.1) (fpR.mul x.2 x.2)) ((q0 x : Int) * q0 x + (q1 x : Int) * q1 x) := ((cq0 x).mul (cq0 x)).add ((cq1 x).mul (cq1 x))
theorem vi {I : Fp → Fp} (hI : yC I) {x : Fq} (hx : x ≠ fqR.zero) : iv ((q0 x : Int) * q0 x + (q1 x : Int) * q1 x) = p0 (I (fpR.add (fpR.mul x.1 x.1) (fpR.mul x.2 x.2))) := by
 have hn : fpR.add (fpR.mul x.1 x.1) (fpR.mul x.2 x.2) ≠ fpR.zero := fun e => fq_zero hx ((vn x).zero e)
 unfold iv
 rw [cg_pz (vn x)]
 exact iv_I hI hn
theorem vi0 {I : Fp → Fp} (hI : yC I) (x : Fq) : pz ((q0 x : Int) * (p0 (I (fpR.add (fpR.mul x.1 x.1) (fpR.mul x.2 x.2))) : Int)) = q0 ((K2 hI).inv x) := cg_pz ((cq0 x).mul (cg_self (I (fpR.add (fpR.mul x.1 x.1) (fpR.mul x.2 x.2)))))
theorem vi1 {I : Fp → Fp} (hI : yC I) (x : Fq) : pz (-(q1 x : Int) * (p0 (I (fpR.add (fpR.mul x.1 x.1) (fpR.mul x.2 x.2))) : Int)) = q1 ((K2 hI).inv x) := by
 rw [Int.neg_mul]
 exact cg_pz ((cq1 x).mul (cg_self (I (fpR.add (fpR.mul x.1 x.1) (fpR.mul x.2 x.2))))).neg
theorem fd2 {I : Fp → Fp} (hI : yC I) : Fd2 q0 q1 (K2 hI).R.add (EC.osub (EC.rops (K2 hI).R)) (K2 hI).R.mul (K2 hI).inv (K2 hI).R.zero where
 ca := fun x y w _ => by
  have h := add2_any (q0 x) (q1 x) (q0 y) (q1 y) (q0_big x) (q1_big x) (q0_big y) (q1_big y) w
  rw [va0 hI, va1 hI] at h
  exact h
 cs := fun x y w _ => by
  have h := sub2_any (q0 x) (q1 x) (q0 y) (q1 y) (q0_big x) (q1_big x) (q0_big y) (q1_big y) w
  rw [vs0 hI, vs1 hI] at h
  exact h
 cm := fun x y w _ => by
  have h := mulT_any (q0 x) (q1 x) (q0 y) (q1 y) (q0_big x) (q1_big x) (q0_big y) (q1_big y) w
  rw [vm0 hI, vm1 hI] at h
  exact h
 cz := fun x w _ => by
  have h := sub2_any (q0 (K2 hI).R.zero) (q1 (K2 hI).R.zero) (q0 x) (q1 x) (q0_big _) (q1_big _) (q0_big x) (q1_big x) w
  rw [vs0 hI, vs1 hI, vz0 hI, vz1 hI] at h
  exact h
 ci := fun x w hx hm => by
  have h := invT_good (q0 x) (q1 x) (q0_big x) (q1_big x) (fq_zero hx) w hm
  rw [vi hI hx, vi0 hI, vi1 hI] at h
  exact h
end Rg
end Go.Proofs.YtaomlijondiaoaaGreatDoor
end
section
namespace Go.Proofs.YtaomlijondiaoaaGreatDoor
open Go.RowKit
namespace Rg
open NT
abbrev GV1 (g : Nat) (tn : Value) : Value := .agg (G1 g tn 1 4).toArray
abbrev t1 (T : EC.Tri Fp) : List Nat := [p0 T.1, p0 T.2.1, p0 T.2.2]
def c1x : Option (Fp × Fp) → Nat
 | none => 0
 | some (x, _) => p0 x
def c1y : Option (Fp × Fp) → Nat
 | none => 0
 | some (_, y) => p0 y
def c1z : Option (Fp × Fp) → Bool
 | none => true
 | some _ => false
abbrev pv1 (x y : Nat) (z : Bool) : Value := .agg (cel [x, y] ++ [Value.bool z]).toArray
abbrev enc1 (P : Option (Fp × Fp)) : Value := pv1 (c1x P) (c1y P) (c1z P)
theorem c1x_big (P : Option (Fp × Fp)) : c1x P < big := by
 cases P with
 | none => exact big_pos
 | some q => exact p0_big _
theorem c1y_big (P : Option (Fp × Fp)) : c1y P < big := by
 cases P with
 | none => exact big_pos
 | some q => exact p0_big _
theorem togE_1 {I : Fp → Fp} (hI : yC I) {g : Nat} {tn : Value} (A B : EC.Tri Fp) (w : World) (hm : Mm w [(g, yB pB), (0, dtab)]) : Calls Tryz.prog 94 #[(GV1 g tn), V (t1 A), V (t1 B)] w (Rt w (V (t1 ((K1 hI).tog A B)))) := by
 have h := togetherV_1 (u := (K1 hI).R.one) (b := (K1 hI).b) (tn := tn) (fd1 hI g) A.1 A.2.1 A.2.2 B.1 B.2.1 B.2.2 _ _ _ _ _ _ _ _ _ _ _ _ _ _ _ _ _ _ _ _ _ _ _ _ _ _ _ _ _ _ _ _ _ _ rfl rfl rfl rfl rfl rfl rfl rfl rfl rfl rfl rfl rfl rfl rfl rfl rfl rfl rfl rfl rfl rfl rfl rfl rfl rfl rfl rfl rfl rfl rfl rfl rfl rfl w hm
 rw [← (K1 hI).ptog_eq A B]
 exact h
theorem zeroE_1 {I : Fp → Fp} (hI : yC I) {g : Nat} {tn : Value} (w : World) (hm : Mm w [(g, yB pB), (0, dtab)]) : Calls Tryz.prog 117 #[(GV1 g tn)] w (Rt w (V (t1 ((K1 hI).lift none)))) := zero_1 (u := (K1 hI).R.one) (b := (K1 hI).b) (tn := tn) (fd1 hI g) w hm
theorem liftE_1 {I : Fp → Fp} (hI : yC I) {g : Nat} {tn : Value} (P : Option (Fp × Fp)) (w : World) (hm : Mm w [(g, yB pB), (0, dtab)]) : Calls Tryz.prog 89 #[(GV1 g tn), enc1 P] w (Rt w (V (t1 ((K1 hI).lift P)))) := by
 rcases P with _ | ⟨x, y⟩
 ·exact liftT_1 (u := (K1 hI).R.one) (b := (K1 hI).b) (tn := tn) (fd1 hI g) 0 0 w hm
 ·exact liftF_1 (u := (K1 hI).R.one) (b := (K1 hI).b) (tn := tn) (fd1 hI g) (p0 x) (p0 y) w hm
theorem isz_1 (t : Fp) : (p0 t = 0) ↔ t = fpR.zero := ⟨fun h => Subtype.ext h, fun h => by rw [h]; rfl⟩
theorem eqz_1 (t : Fp) {r : Bool} (hr : decide (t = fpR.zero) = r) : ∀ w, (Op.equalIn 10000 24 (N (p0 t)) (N 0)).run Tryz.prog w = .ok r w := fun w => by
 have h := run_eqD 9998 (p0 t) 0 (p0_big t) big_pos w
 rw [← hr, show decide (t = fpR.zero) = decide (p0 t = 0) from decide_eq_decide.2 (isz_1 t).symm]
 exact h
theorem eqe_1 (s t : Fp) {r : Bool} (hr : decide (s = t) = r) : ∀ w, (Op.equalIn 10000 24 (N (p0 s)) (N (p0 t))).run Tryz.prog w = .ok r w := fun w => by
 have h := run_eqD 9998 (p0 s) (p0 t) (p0_big s) (p0_big t) w
 rw [← hr, show decide (s = t) = decide (p0 s = p0 t) from decide_eq_decide.2 ⟨fun e => by rw [e], fun e => Subtype.ext e⟩]
 exact h
theorem twiceE_1 {I : Fp → Fp} (hI : yC I) {g : Nat} {tn : Value} (A : EC.Tri Fp) (w : World) (hm : Mm w [(g, yB pB), (0, dtab)]) : Calls Tryz.prog 134 #[(GV1 g tn), V (t1 A)] w (Rt w (V (t1 ((K1 hI).twice A)))) := by
 unfold EC.Crv.twice
 by_cases hz : A.2.2 = (K1 hI).R.zero
 ·rw [if_pos hz]
  exact twiceT_1 (u := (K1 hI).R.one) (b := (K1 hI).b) (tn := tn) (fd1 hI g) (p0 A.1) (p0 A.2.1) (p0 A.2.2) (eqz_1 _ (decide_eq_true hz)) w hm
 ·rw [if_neg hz]
  exact twiceV_1 (u := (K1 hI).R.one) (b := (K1 hI).b) (tn := tn) (fd1 hI g) A.1 A.2.1 A.2.2 (eqz_1 _ (decide_eq_false hz)) _ _ _ _ _ _ _ _ _ _ _ _ _ _ _ _ _ _ rfl rfl rfl rfl rfl rfl rfl rfl rfl rfl rfl rfl rfl rfl rfl rfl rfl rfl w hm
theorem lowerE_1 {I : Fp → Fp} (hI : yC I) {g : Nat} {tn : Value} (A : EC.Tri Fp) (w : World) (hm : Mm w [(g, yB pB), (0, dtab)]) : Calls Tryz.prog 93 #[(GV1 g tn), V (t1 A)] w (Rt w (enc1 ((K1 hI).lower A))) := by
 by_cases hz : A.2.2 = (K1 hI).R.zero
 ·rw [(K1 hI).lower_none hz]
  exact lowerT_1 (u := (K1 hI).R.one) (b := (K1 hI).b) (tn := tn) (fd1 hI g) (p0 A.1) (p0 A.2.1) (p0 A.2.2) (eqz_1 _ (decide_eq_true hz)) w hm
 ·rw [(K1 hI).lower_some hz]
  exact lowerF_1 (u := (K1 hI).R.one) (b := (K1 hI).b) (tn := tn) (fd1 hI g) A.1 A.2.1 A.2.2 (eqz_1 _ (decide_eq_false hz)) hz w hm
theorem belE_1 (a : Nat) (ha : a < big) (w : World) : Calls Tryz.prog 87 #[N a] w (Rt w (.bool (decide (a < pB)))) :=
 below_gen a pB (cmpv a pB) base_pB (fun w => compare_any a pB ha pB_lt w) (decide (a < pB)) (by
  by_cases h : a < pB
  ·rw [cmp_lt h, decide_eq_true h]
   rfl
  ·rw [decide_eq_false h]
   exact decide_eq_false (cmp_ge h)) w
def rd1 (x y : Nat) (z : Bool) : Option (Option (Fp × Fp)) :=
 if z = true then (if x = 0 ∧ y = 0 then some none else none)
 else if h : x < pB ∧ y < pB then (if EC.side fpR fp4 ⟨x, h.1⟩ = fpR.mul ⟨y, h.2⟩ ⟨y, h.2⟩ then some (some (⟨x, h.1⟩, ⟨y, h.2⟩)) else none) else none
theorem checkE_1 {I : Fp → Fp} (hI : yC I) {g : Nat} {tn : Value} (x y : Nat) (z : Bool) (hx : x < big) (hy : y < big) (w : World) (hm : Mm w [(g, yB pB), (0, dtab)]) : Calls Tryz.prog 48 #[(GV1 g tn), pv1 x y z] w (Rt w (.bool (rd1 x y z).isSome)) := by
 cases z with
 | true =>
  have e : (rd1 x y true).isSome = decide (x = 0 ∧ y = 0) := by
   unfold rd1
   rw [if_pos rfl]
   by_cases h : x = 0 ∧ y = 0
   ·rw [if_pos h, decide_eq_true h]; rfl
   ·rw [if_neg h, decide_eq_false h]; rfl
  refine checkZ_1 (u := (K1 hI).R.one) (b := (K1 hI).b) (tn := tn) (fd1 hI g) x y _ (fun w => ?_) w hm
  have h := run_eqPN x y 0 0 true true hx hy big_pos big_pos w
  rw [e]
  refine h.trans (congrArg (fun q => Result.ok q w) ?_)
  rw [Bool.eq_iff_iff]
  simp
 | false =>
  by_cases hX : x < pB
  ·have bx := fun w (_ : Mm w [(g, yB pB), (0, dtab)]) => belE_1 x hx w
   rw [decide_eq_true hX] at bx
   by_cases hY : y < pB
   ·have by_ := fun w (_ : Mm w [(g, yB pB), (0, dtab)]) => belE_1 y hy w
    rw [decide_eq_true hY] at by_
    have e : (rd1 x y false).isSome = decide (fpR.mul (⟨y, hY⟩ : Fp) (⟨y, hY⟩ : Fp) = EC.side fpR fp4 (⟨x, hX⟩ : Fp)) := by
     unfold rd1
     rw [if_neg (by decide), dif_pos ⟨hX, hY⟩]
     by_cases h : fpR.mul (⟨y, hY⟩ : Fp) (⟨y, hY⟩ : Fp) = EC.side fpR fp4 (⟨x, hX⟩ : Fp)
     ·rw [if_pos h.symm, decide_eq_true h]; rfl
     ·rw [if_neg (fun q => h q.symm), decide_eq_false h]; rfl
    rw [e]
    exact checkB_1 (u := (K1 hI).R.one) (b := (K1 hI).b) (tn := tn) (fd1 hI g) (⟨x, hX⟩ : Fp) (⟨y, hY⟩ : Fp) _ bx by_ (eqe_1 _ _ rfl) w hm
   ·have by_ := fun w (_ : Mm w [(g, yB pB), (0, dtab)]) => belE_1 y hy w
    rw [decide_eq_false hY] at by_
    have e : (rd1 x y false).isSome = false := by
     unfold rd1
     rw [if_neg (by decide), dif_neg (fun q => hY q.2)]; rfl
    rw [e]
    exact checkY_1 (u := (K1 hI).R.one) (b := (K1 hI).b) (tn := tn) (fd1 hI g) x y bx by_ w hm
  ·have bx := fun w (_ : Mm w [(g, yB pB), (0, dtab)]) => belE_1 x hx w
   rw [decide_eq_false hX] at bx
   have e : (rd1 x y false).isSome = false := by
    unfold rd1
    rw [if_neg (by decide), dif_neg (fun q => hX q.1)]; rfl
   rw [e]
   exact checkX_1 (u := (K1 hI).R.one) (b := (K1 hI).b) (tn := tn) (fd1 hI g) x y bx w hm
theorem rd1_enc {I : Fp → Fp} (hI : yC I) {x y : Nat} {z : Bool} {P : Option (Fp × Fp)} (h : rd1 x y z = some P) : pv1 x y z = enc1 P ∧ (K1 hI).on P := by
 unfold rd1 at h
 split at h
 ·rename_i hz
  split at h
  ·rename_i h0
   injection h with h
   subst h hz
   obtain ⟨rfl, rfl⟩ := h0
   exact ⟨rfl, trivial⟩
  ·cases h
 ·rename_i hz
  have hz' : z = false := by cases z with | true => exact absurd rfl hz | false => rfl
  subst hz'
  split at h
  ·rename_i hb
   split at h
   ·rename_i hs
    injection h with h
    subst h
    exact ⟨rfl, hs.symm⟩
   ·cases h
  ·cases h
theorem rd1_of {I : Fp → Fp} (hI : yC I) {P : Option (Fp × Fp)} (h : (K1 hI).on P) : rd1 (c1x P) (c1y P) (c1z P) = some P := by
 rcases P with _ | ⟨x, y⟩
 ·rfl
 ·have hs : (K1 hI).R.mul y y = EC.side (K1 hI).R (K1 hI).b x := h
  unfold rd1
  rw [if_neg (by show ¬ false = true; decide), dif_pos ⟨x.2, y.2⟩]
  exact if_pos hs.symm
theorem ckE_1 {I : Fp → Fp} (hI : yC I) {g : Nat} {tn : Value} {P : Option (Fp × Fp)} (hP : (K1 hI).on P) (w : World) (hm : Mm w [(g, yB pB), (0, dtab)]) : Calls Tryz.prog 48 #[(GV1 g tn), enc1 P] w (Rt w (.bool true)) := by
 have h := checkE_1 hI (g := g) (tn := tn) (c1x P) (c1y P) (c1z P) (c1x_big P) (c1y_big P) w hm
 rw [rd1_of hI hP] at h
 exact h
theorem joinE_1 {I : Fp → Fp} (hI : yC I) {g : Nat} {tn : Value} {P Q : Option (Fp × Fp)} (hP : (K1 hI).on P) (hQ : (K1 hI).on Q) (w : World) (hm : Mm w [(g, yB pB), (0, dtab)]) : Calls Tryz.prog 53 #[(GV1 g tn), enc1 P, enc1 Q] w (Rt w (.tuple #[enc1 ((K1 hI).add P Q), .int .i64 0])) :=
 joinY_1 (u := (K1 hI).R.one) (b := (K1 hI).b) (tn := tn) (fd1 hI g) (c1x P) (c1y P) (c1x Q) (c1y Q) (c1z P) (c1z Q) (c1z ((K1 hI).add P Q)) ((K1 hI).lift P).1 ((K1 hI).lift P).2.1 ((K1 hI).lift P).2.2 ((K1 hI).lift Q).1 ((K1 hI).lift Q).2.1 ((K1 hI).lift Q).2.2 ((K1 hI).tog ((K1 hI).lift P) ((K1 hI).lift Q)).1 ((K1 hI).tog ((K1 hI).lift P) ((K1 hI).lift Q)).2.1 ((K1 hI).tog ((K1 hI).lift P) ((K1 hI).lift Q)).2.2 (c1x ((K1 hI).add P Q)) (c1y ((K1 hI).add P Q))
  (fun w hm => ckE_1 hI hP w hm) (fun w hm => ckE_1 hI hQ w hm) (fun w hm => liftE_1 hI P w hm) (fun w hm => liftE_1 hI Q w hm) (fun w hm => togE_1 hI _ _ w hm) (fun w hm => lowerE_1 hI _ w hm) w hm
theorem firstE (w : World) : Calls Tryz.prog 47 #[] w fun e w' => Below w.heap.size w w' ∧ ∃ g x y, e = .returned (.agg (G1 g (.func (.func 88) #[] #[PT x 0, PT y 0]) 1 4).toArray) ∧ w.heap.size ≤ g ∧ g < w'.heap.size ∧ Blk w' g (yB pB) := first_gen pB 1 4 tr numb_tr (fun w => of_any 1 (by decide) w) (fun w => of_any 4 (by decide) w) base_pB (fun w => new_ok pB_ok w) w
theorem CheckE_1 {I : Fp → Fp} (hI : yC I) (x y : Nat) (z : Bool) (hx : x < big) (hy : y < big) (w : World) (hm : Mm w [(0, dtab)]) : Calls Tryz.prog 10 #[pv1 x y z] w (Rt w (.bool (rd1 x y z).isSome)) :=
 Check_1 1 4 x y z _ firstE (fun g tn w hm => checkE_1 hI (g := g) (tn := tn) x y z hx hy w hm) w hm
theorem CkE_1 {I : Fp → Fp} (hI : yC I) {P : Option (Fp × Fp)} (hP : (K1 hI).on P) (w : World) (hm : Mm w [(0, dtab)]) : Calls Tryz.prog 10 #[enc1 P] w (Rt w (.bool true)) := by
 have h := CheckE_1 hI (c1x P) (c1y P) (c1z P) (c1x_big P) (c1y_big P) w hm
 rw [rd1_of hI hP] at h
 exact h
theorem AddE_1 {I : Fp → Fp} (hI : yC I) {P Q : Option (Fp × Fp)} (hP : (K1 hI).on P) (hQ : (K1 hI).on Q) (w : World) (hm : Mm w [(0, dtab)]) : Calls Tryz.prog 16 #[enc1 P, enc1 Q] w (Rt w (.tuple #[enc1 ((K1 hI).add P Q), .int .i64 0])) :=
 Add_1 1 4 (c1x P) (c1y P) (c1x Q) (c1y Q) (c1x ((K1 hI).add P Q)) (c1y ((K1 hI).add P Q)) (c1z P) (c1z Q) (c1z ((K1 hI).add P Q)) 0 firstE (fun g tn w hm => joinE_1 hI (g := g) (tn := tn) hP hQ w hm) w hm
end Rg
end Go.Proofs.YtaomlijondiaoaaGreatDoor
end
section
namespace Go.Proofs.YtaomlijondiaoaaGreatDoor
open Go.RowKit
namespace Rg
open NT
abbrev GV2 (tn : Value) : Value := .agg (G2 tn 1 0 4 4).toArray
abbrev t2 (T : EC.Tri Fq) : List Nat := [q0 T.1, q1 T.1, q0 T.2.1, q1 T.2.1, q0 T.2.2, q1 T.2.2]
def c2x0 : Option (Fq × Fq) → Nat
 | none => 0
 | some (x, _) => q0 x
def c2x1 : Option (Fq × Fq) → Nat
 | none => 0
 | some (x, _) => q1 x
def c2y0 : Option (Fq × Fq) → Nat
 | none => 0
 | some (_, y) => q0 y
def c2y1 : Option (Fq × Fq) → Nat
 | none => 0
 | some (_, y) => q1 y
def c2z : Option (Fq × Fq) → Bool
 | none => true
 | some _ => false
abbrev pv2 (x0 x1 y0 y1 : Nat) (z : Bool) : Value := .agg (cel [x0, x1, y0, y1] ++ [Value.bool z]).toArray
abbrev enc2 (P : Option (Fq × Fq)) : Value := pv2 (c2x0 P) (c2x1 P) (c2y0 P) (c2y1 P) (c2z P)
theorem c2x0_big (P : Option (Fq × Fq)) : c2x0 P < big := by
 cases P with
 | none => exact big_pos
 | some q => exact q0_big _
theorem c2x1_big (P : Option (Fq × Fq)) : c2x1 P < big := by
 cases P with
 | none => exact big_pos
 | some q => exact q1_big _
theorem c2y0_big (P : Option (Fq × Fq)) : c2y0 P < big := by
 cases P with
 | none => exact big_pos
 | some q => exact q0_big _
theorem c2y1_big (P : Option (Fq × Fq)) : c2y1 P < big := by
 cases P with
 | none => exact big_pos
 | some q => exact q1_big _
theorem togE_2 {I : Fp → Fp} (hI : yC I) {tn : Value} (A B : EC.Tri Fq) (w : World) (hm : Mm w [(0, dtab)]) : Calls Tryz.prog 114 #[(GV2 tn), V (t2 A), V (t2 B)] w (Rt w (V (t2 ((K2 hI).tog A B)))) := by
 have h := togetherV_2 (u := (K2 hI).R.one) (b := (K2 hI).b) (tn := tn) (fd2 hI) A.1 A.2.1 A.2.2 B.1 B.2.1 B.2.2 _ _ _ _ _ _ _ _ _ _ _ _ _ _ _ _ _ _ _ _ _ _ _ _ _ _ _ _ _ _ _ _ _ _ rfl rfl rfl rfl rfl rfl rfl rfl rfl rfl rfl rfl rfl rfl rfl rfl rfl rfl rfl rfl rfl rfl rfl rfl rfl rfl rfl rfl rfl rfl rfl rfl rfl rfl w hm
 rw [← (K2 hI).ptog_eq A B]
 exact h
theorem zeroE_2 {I : Fp → Fp} (hI : yC I) {tn : Value} (w : World) (hm : Mm w [(0, dtab)]) : Calls Tryz.prog 119 #[(GV2 tn)] w (Rt w (V (t2 ((K2 hI).lift none)))) := zero_2 (u := (K2 hI).R.one) (b := (K2 hI).b) (tn := tn) (fd2 hI) w hm
theorem liftE_2 {I : Fp → Fp} (hI : yC I) {tn : Value} (P : Option (Fq × Fq)) (w : World) (hm : Mm w [(0, dtab)]) : Calls Tryz.prog 110 #[(GV2 tn), enc2 P] w (Rt w (V (t2 ((K2 hI).lift P)))) := by
 rcases P with _ | ⟨x, y⟩
 ·exact liftT_2 (u := (K2 hI).R.one) (b := (K2 hI).b) (tn := tn) (fd2 hI) 0 0 0 0 w hm
 ·exact liftF_2 (u := (K2 hI).R.one) (b := (K2 hI).b) (tn := tn) (fd2 hI) (q0 x) (q1 x) (q0 y) (q1 y) w hm
theorem eqe_2 (s t : Fq) {r : Bool} (hr : decide (s = t) = r) : ∀ w, (Op.equalIn 10000 40 (V [q0 s, q1 s]) (V [q0 t, q1 t])).run Tryz.prog w = .ok r w := fun w => by
 have h := run_eqE2 9997 (q0 s) (q1 s) (q0 t) (q1 t) (q0_big s) (q1_big s) (q0_big t) (q1_big t) w
 have e : (decide (q0 s = q0 t) && decide (q1 s = q1 t)) = decide (s = t) := by
  rw [Bool.eq_iff_iff]
  simp only [Bool.and_eq_true, decide_eq_true_eq]
  exact ⟨fun e => Prod.ext (Subtype.ext e.1) (Subtype.ext e.2), fun e => by rw [e]; exact ⟨rfl, rfl⟩⟩
 rw [← hr, ← e]
 exact h
theorem eqz_2 (t : Fq) {r : Bool} (hr : decide (t = fqR.zero) = r) : ∀ w, (Op.equalIn 10000 40 (V [q0 t, q1 t]) (V [0, 0])).run Tryz.prog w = .ok r w := eqe_2 t fqR.zero hr
theorem twiceE_2 {I : Fp → Fp} (hI : yC I) {tn : Value} (A : EC.Tri Fq) (w : World) (hm : Mm w [(0, dtab)]) : Calls Tryz.prog 149 #[(GV2 tn), V (t2 A)] w (Rt w (V (t2 ((K2 hI).twice A)))) := by
 unfold EC.Crv.twice
 by_cases hz : A.2.2 = (K2 hI).R.zero
 ·rw [if_pos hz]
  exact twiceT_2 (u := (K2 hI).R.one) (b := (K2 hI).b) (tn := tn) (fd2 hI) (q0 A.1) (q1 A.1) (q0 A.2.1) (q1 A.2.1) (q0 A.2.2) (q1 A.2.2) (eqz_2 _ (decide_eq_true hz)) w hm
 ·rw [if_neg hz]
  exact twiceV_2 (u := (K2 hI).R.one) (b := (K2 hI).b) (tn := tn) (fd2 hI) A.1 A.2.1 A.2.2 (eqz_2 _ (decide_eq_false hz)) _ _ _ _ _ _ _ _ _ _ _ _ _ _ _ _ _ _ rfl rfl rfl rfl rfl rfl rfl rfl rfl rfl rfl rfl rfl rfl rfl rfl rfl rfl w hm
theorem lowerE_2 {I : Fp → Fp} (hI : yC I) {tn : Value} (A : EC.Tri Fq) (w : World) (hm : Mm w [(0, dtab)]) : Calls Tryz.prog 113 #[(GV2 tn), V (t2 A)] w (Rt w (enc2 ((K2 hI).lower A))) := by
 by_cases hz : A.2.2 = (K2 hI).R.zero
 ·rw [(K2 hI).lower_none hz]
  exact lowerT_2 (u := (K2 hI).R.one) (b := (K2 hI).b) (tn := tn) (fd2 hI) (q0 A.1) (q1 A.1) (q0 A.2.1) (q1 A.2.1) (q0 A.2.2) (q1 A.2.2) (eqz_2 _ (decide_eq_true hz)) w hm
 ·rw [(K2 hI).lower_some hz]
  exact lowerF_2 (u := (K2 hI).R.one) (b := (K2 hI).b) (tn := tn) (fd2 hI) A.1 A.2.1 A.2.2 (eqz_2 _ (decide_eq_false hz)) hz w hm
theorem belE_2 (a0 a1 : Nat) (h0 : a0 < big) (h1 : a1 < big) (w : World) : Calls Tryz.prog 107 #[V [a0, a1]] w (Rt w (.bool (decide (a0 < pB ∧ a1 < pB)))) := by
 by_cases h : a0 < pB
 ·have hc := fun w => belE_1 a0 h0 w
  rw [decide_eq_true h] at hc
  have e := belowT_gen a0 a1 hc (decide (a1 < pB)) (fun w => belE_1 a1 h1 w) w
  rw [show decide (a0 < pB ∧ a1 < pB) = decide (a1 < pB) from decide_eq_decide.2 ⟨fun q => q.2, fun q => ⟨h, q⟩⟩]
  exact e
 ·have hc := fun w => belE_1 a0 h0 w
  rw [decide_eq_false h] at hc
  have e := belowF_gen a0 a1 hc w
  rw [show decide (a0 < pB ∧ a1 < pB) = false from decide_eq_false (fun q => h q.1)]
  exact e
def rd2 (x0 x1 y0 y1 : Nat) (z : Bool) : Option (Option (Fq × Fq)) :=
 if z = true then (if (x0 = 0 ∧ x1 = 0) ∧ (y0 = 0 ∧ y1 = 0) then some none else none)
 else if h : (x0 < pB ∧ x1 < pB) ∧ (y0 < pB ∧ y1 < pB) then (if EC.side fqR fq4 (⟨x0, h.1.1⟩, ⟨x1, h.1.2⟩) = fqR.mul (⟨y0, h.2.1⟩, ⟨y1, h.2.2⟩) (⟨y0, h.2.1⟩, ⟨y1, h.2.2⟩) then some (some ((⟨x0, h.1.1⟩, ⟨x1, h.1.2⟩), (⟨y0, h.2.1⟩, ⟨y1, h.2.2⟩))) else none) else none
theorem checkE_2 {I : Fp → Fp} (hI : yC I) {tn : Value} (x0 x1 y0 y1 : Nat) (z : Bool) (hx0 : x0 < big) (hx1 : x1 < big) (hy0 : y0 < big) (hy1 : y1 < big) (w : World) (hm : Mm w [(0, dtab)]) : Calls Tryz.prog 63 #[(GV2 tn), pv2 x0 x1 y0 y1 z] w (Rt w (.bool (rd2 x0 x1 y0 y1 z).isSome)) := by
 cases z with
 | true =>
  have e : (rd2 x0 x1 y0 y1 true).isSome = decide ((x0 = 0 ∧ x1 = 0) ∧ (y0 = 0 ∧ y1 = 0)) := by
   unfold rd2
   rw [if_pos rfl]
   by_cases h : (x0 = 0 ∧ x1 = 0) ∧ (y0 = 0 ∧ y1 = 0)
   ·rw [if_pos h, decide_eq_true h]; rfl
   ·rw [if_neg h, decide_eq_false h]; rfl
  refine checkZ_2 (u := (K2 hI).R.one) (b := (K2 hI).b) (tn := tn) (fd2 hI) x0 x1 y0 y1 _ (fun w => ?_) w hm
  have h := run_eqPE x0 x1 y0 y1 0 0 0 0 true true hx0 hx1 hy0 hy1 big_pos big_pos big_pos big_pos w
  rw [e]
  refine h.trans (congrArg (fun q => Result.ok q w) ?_)
  rw [Bool.eq_iff_iff]
  simp
 | false =>
  by_cases hX : x0 < pB ∧ x1 < pB
  ·have bx := fun w (_ : Mm w [(0, dtab)]) => belE_2 x0 x1 hx0 hx1 w
   rw [decide_eq_true hX] at bx
   by_cases hY : y0 < pB ∧ y1 < pB
   ·have by_ := fun w (_ : Mm w [(0, dtab)]) => belE_2 y0 y1 hy0 hy1 w
    rw [decide_eq_true hY] at by_
    have e : (rd2 x0 x1 y0 y1 false).isSome = decide (fqR.mul ((⟨y0, hY.1⟩, ⟨y1, hY.2⟩) : Fq) ((⟨y0, hY.1⟩, ⟨y1, hY.2⟩) : Fq) = EC.side fqR fq4 ((⟨x0, hX.1⟩, ⟨x1, hX.2⟩) : Fq)) := by
     unfold rd2
     rw [if_neg (by decide), dif_pos ⟨hX, hY⟩]
     by_cases h : fqR.mul ((⟨y0, hY.1⟩, ⟨y1, hY.2⟩) : Fq) ((⟨y0, hY.1⟩, ⟨y1, hY.2⟩) : Fq) = EC.side fqR fq4 ((⟨x0, hX.1⟩, ⟨x1, hX.2⟩) : Fq)
     ·rw [if_pos h.symm, decide_eq_true h]; rfl
     ·rw [if_neg (fun q => h q.symm), decide_eq_false h]; rfl
    rw [e]
    exact checkB_2 (u := (K2 hI).R.one) (b := (K2 hI).b) (tn := tn) (fd2 hI) ((⟨x0, hX.1⟩, ⟨x1, hX.2⟩) : Fq) ((⟨y0, hY.1⟩, ⟨y1, hY.2⟩) : Fq) _ bx by_ (eqe_2 _ _ rfl) w hm
   ·have by_ := fun w (_ : Mm w [(0, dtab)]) => belE_2 y0 y1 hy0 hy1 w
    rw [decide_eq_false hY] at by_
    have e : (rd2 x0 x1 y0 y1 false).isSome = false := by
     unfold rd2
     rw [if_neg (by decide), dif_neg (fun q => hY q.2)]; rfl
    rw [e]
    exact checkY_2 (u := (K2 hI).R.one) (b := (K2 hI).b) (tn := tn) (fd2 hI) x0 x1 y0 y1 bx by_ w hm
  ·have bx := fun w (_ : Mm w [(0, dtab)]) => belE_2 x0 x1 hx0 hx1 w
   rw [decide_eq_false hX] at bx
   have e : (rd2 x0 x1 y0 y1 false).isSome = false := by
    unfold rd2
    rw [if_neg (by decide), dif_neg (fun q => hX q.1)]; rfl
   rw [e]
   exact checkX_2 (u := (K2 hI).R.one) (b := (K2 hI).b) (tn := tn) (fd2 hI) x0 x1 y0 y1 bx w hm
theorem rd2_enc {I : Fp → Fp} (hI : yC I) {x0 x1 y0 y1 : Nat} {z : Bool} {P : Option (Fq × Fq)} (h : rd2 x0 x1 y0 y1 z = some P) : pv2 x0 x1 y0 y1 z = enc2 P ∧ (K2 hI).on P := by
 unfold rd2 at h
 split at h
 ·rename_i hz
  split at h
  ·rename_i h0
   injection h with h
   subst h hz
   obtain ⟨⟨rfl, rfl⟩, rfl, rfl⟩ := h0
   exact ⟨rfl, trivial⟩
  ·cases h
 ·rename_i hz
  have hz' : z = false := by cases z with | true => exact absurd rfl hz | false => rfl
  subst hz'
  split at h
  ·rename_i hb
   split at h
   ·rename_i hs
    injection h with h
    subst h
    exact ⟨rfl, hs.symm⟩
   ·cases h
  ·cases h
theorem rd2_of {I : Fp → Fp} (hI : yC I) {P : Option (Fq × Fq)} (h : (K2 hI).on P) : rd2 (c2x0 P) (c2x1 P) (c2y0 P) (c2y1 P) (c2z P) = some P := by
 rcases P with _ | ⟨x, y⟩
 ·rfl
 ·have hs : (K2 hI).R.mul y y = EC.side (K2 hI).R (K2 hI).b x := h
  unfold rd2
  rw [if_neg (by show ¬ false = true; decide), dif_pos ⟨⟨x.1.2, x.2.2⟩, y.1.2, y.2.2⟩]
  exact if_pos hs.symm
theorem ckE_2 {I : Fp → Fp} (hI : yC I) {tn : Value} {P : Option (Fq × Fq)} (hP : (K2 hI).on P) (w : World) (hm : Mm w [(0, dtab)]) : Calls Tryz.prog 63 #[(GV2 tn), enc2 P] w (Rt w (.bool true)) := by
 have h := checkE_2 hI (tn := tn) (c2x0 P) (c2x1 P) (c2y0 P) (c2y1 P) (c2z P) (c2x0_big P) (c2x1_big P) (c2y0_big P) (c2y1_big P) w hm
 rw [rd2_of hI hP] at h
 exact h
theorem joinE_2 {I : Fp → Fp} (hI : yC I) {tn : Value} {P Q : Option (Fq × Fq)} (hP : (K2 hI).on P) (hQ : (K2 hI).on Q) (w : World) (hm : Mm w [(0, dtab)]) : Calls Tryz.prog 66 #[(GV2 tn), enc2 P, enc2 Q] w (Rt w (.tuple #[enc2 ((K2 hI).add P Q), .int .i64 0])) :=
 joinY_2 (u := (K2 hI).R.one) (b := (K2 hI).b) (tn := tn) (fd2 hI) (c2x0 P) (c2x1 P) (c2y0 P) (c2y1 P) (c2x0 Q) (c2x1 Q) (c2y0 Q) (c2y1 Q) (c2z P) (c2z Q) (c2z ((K2 hI).add P Q)) ((K2 hI).lift P).1 ((K2 hI).lift P).2.1 ((K2 hI).lift P).2.2 ((K2 hI).lift Q).1 ((K2 hI).lift Q).2.1 ((K2 hI).lift Q).2.2 ((K2 hI).tog ((K2 hI).lift P) ((K2 hI).lift Q)).1 ((K2 hI).tog ((K2 hI).lift P) ((K2 hI).lift Q)).2.1 ((K2 hI).tog ((K2 hI).lift P) ((K2 hI).lift Q)).2.2 (c2x0 ((K2 hI).add P Q)) (c2x1 ((K2 hI).add P Q)) (c2y0 ((K2 hI).add P Q)) (c2y1 ((K2 hI).add P Q))
  (fun w hm => ckE_2 hI hP w hm) (fun w hm => ckE_2 hI hQ w hm) (fun w hm => liftE_2 hI P w hm) (fun w hm => liftE_2 hI Q w hm) (fun w hm => togE_2 hI _ _ w hm) (fun w hm => lowerE_2 hI _ w hm) w hm
theorem secondE (w : World) : Calls Tryz.prog 62 #[] w fun e w' => Below w.heap.size w w' ∧ ∃ g x, ∃ _y : Nat, e = .returned (.agg (G2 (.func (.func 108) #[] #[PT g 0, PT x 0]) 1 0 4 4).toArray) ∧ w.heap.size ≤ g ∧ g < w'.heap.size ∧ Blk w' g [] := second_gen 1 4 tx1 ty0 ty1 numb_tx1 numb_ty0 numb_ty1 (fun w => of_any 1 (by decide) w) (fun w => of_any 4 (by decide) w) w
theorem CheckE_2 {I : Fp → Fp} (hI : yC I) (x0 x1 y0 y1 : Nat) (z : Bool) (hx0 : x0 < big) (hx1 : x1 < big) (hy0 : y0 < big) (hy1 : y1 < big) (w : World) (hm : Mm w [(0, dtab)]) : Calls Tryz.prog 23 #[pv2 x0 x1 y0 y1 z] w (Rt w (.bool (rd2 x0 x1 y0 y1 z).isSome)) :=
 Check_2 1 4 x0 x1 y0 y1 z _ secondE (fun tn w hm => checkE_2 hI (tn := tn) x0 x1 y0 y1 z hx0 hx1 hy0 hy1 w hm) w hm
theorem CkE_2 {I : Fp → Fp} (hI : yC I) {P : Option (Fq × Fq)} (hP : (K2 hI).on P) (w : World) (hm : Mm w [(0, dtab)]) : Calls Tryz.prog 23 #[enc2 P] w (Rt w (.bool true)) := by
 have h := CheckE_2 hI (c2x0 P) (c2x1 P) (c2y0 P) (c2y1 P) (c2z P) (c2x0_big P) (c2x1_big P) (c2y0_big P) (c2y1_big P) w hm
 rw [rd2_of hI hP] at h
 exact h
theorem AddE_2 {I : Fp → Fp} (hI : yC I) {P Q : Option (Fq × Fq)} (hP : (K2 hI).on P) (hQ : (K2 hI).on Q) (w : World) (hm : Mm w [(0, dtab)]) : Calls Tryz.prog 29 #[enc2 P, enc2 Q] w (Rt w (.tuple #[enc2 ((K2 hI).add P Q), .int .i64 0])) :=
 Add_2 1 4 (c2x0 P) (c2x1 P) (c2y0 P) (c2y1 P) (c2x0 Q) (c2x1 Q) (c2y0 Q) (c2y1 Q) (c2x0 ((K2 hI).add P Q)) (c2x1 ((K2 hI).add P Q)) (c2y0 ((K2 hI).add P Q)) (c2y1 ((K2 hI).add P Q)) (c2z P) (c2z Q) (c2z ((K2 hI).add P Q)) 0 secondE (fun tn w hm => joinE_2 hI (tn := tn) hP hQ w hm) w hm
end Rg
end Go.Proofs.YtaomlijondiaoaaGreatDoor
end
section
namespace Go.Proofs.YtaomlijondiaoaaGreatDoor
open Go.RowKit
namespace Rg
theorem zK {P : Program} {c : Code} {Q : Exit → Act → World → Prop} {n : Nat} {a : Act} {w : World} (h : c.wp P (Exit.then (Code.rounds P c Q n) Q) a w) : Code.rounds P c Q (n + 1) a w := h
theorem Mm.pick {w : World} {l : List (Nat × List Value)} (h : Mm w l) (js : List Nat) {l' : List (Nat × List Value)} (e : js.map (fun i => l[i]?) = l'.map some) (hn : js.Pairwise (· ≠ ·)) : Mm w l' := by
 have hpw := List.pairwise_iff_getElem.1 h.nd
 have hlen : js.length = l'.length := by
  have := congrArg List.length e
  simpa using this
 have at_ : ∀ (k : Nat) (hk : k < l'.length), l[js[k]'(by omega)]? = some l'[k] := fun k hk => by
  have h2 : (js.map (fun i => l[i]?))[k]? = (l'.map some)[k]? := by rw [e]
  rw [List.getElem?_map, List.getElem?_map, List.getElem?_eq_getElem (show k < js.length by omega), List.getElem?_eq_getElem hk] at h2
  simpa using h2
 refine ⟨fun p hp => ?_, List.pairwise_iff_getElem.2 fun i j hi hj hij => ?_⟩
 ·obtain ⟨k, hk, ek⟩ := List.getElem_of_mem hp
  have := at_ k hk
  rw [ek] at this
  exact h.blk p (List.mem_of_getElem? this)
 ·have h1 := at_ i hi
  have h2 := at_ j hj
  have hne : js[i]'(by omega) ≠ js[j]'(by omega) := (List.pairwise_iff_getElem.1 hn) i j (by omega) (by omega) hij
  obtain ⟨q1, e1⟩ := List.getElem?_eq_some_iff.1 h1
  obtain ⟨q2, e2⟩ := List.getElem?_eq_some_iff.1 h2
  rw [← e1, ← e2]
  rcases Nat.lt_or_gt_of_ne hne with hl | hl
  ·exact hpw _ _ q1 q2 hl
  ·exact (hpw _ _ q2 q1 hl).symm
theorem ex_shl4 {ρ : Operand → Value} {o : Oper} {x y : Operand} {a : Int} {w : World} (ho : o.op = .binOp .shl 22 x y 160) (hx : ρ x = .int .u64 a) (hy : ρ y = .int .u64 4) :
  (execOp ρ o).run Tryz.prog w = .ok (.value (.int .u64 (IntKind.u64.wrap (a * 2 ^ 4)))) w := by
 simp only [execOp, ho, hx, hy]
 clear ho hx hy
 go_simp
theorem ex_shr60 {ρ : Operand → Value} {o : Oper} {x y : Operand} {a : Int} {w : World} (ho : o.op = .binOp .shr 22 x y 160) (hx : ρ x = .int .u64 a) (hy : ρ y = .int .u64 60) :
  (execOp ρ o).run Tryz.prog w = .ok (.value (.int .u64 (a / 2 ^ 60))) w := by
 simp only [execOp, ho, hx, hy]
 clear ho hx hy
 go_simp
theorem ex_mkPN {ρ : Operand → Value} {o : Oper} {x y : Operand} {w : World} (ho : o.op = .makeSlice 115 x y) (hx : ρ x = .int .i64 1) (hy : ρ y = .int .i64 1) :
  (execOp ρ o).run Tryz.prog w = .ok (.value (.slice (some ⟨w.heap.size, 0, none⟩) 1 1)) (w.alloc (.cells (zU 0 0 false : List Value).toArray 84)) := by
 simp only [execOp, ho, hx, hy]
 kernel_rfl
theorem ex_mkPE {ρ : Operand → Value} {o : Oper} {x y : Operand} {w : World} (ho : o.op = .makeSlice 117 x y) (hx : ρ x = .int .i64 1) (hy : ρ y = .int .i64 1) :
  (execOp ρ o).run Tryz.prog w = .ok (.value (.slice (some ⟨w.heap.size, 0, none⟩) 1 1)) (w.alloc (.cells (zV 0 0 0 0 false : List Value).toArray 104)) := by
 simp only [execOp, ho, hx, hy]
 kernel_rfl
theorem ex_mkTN {ρ : Operand → Value} {o : Oper} {x y : Operand} {w : World} (ho : o.op = .makeSlice 171 x y) (hx : ρ x = .int .i64 1) (hy : ρ y = .int .i64 1) :
  (execOp ρ o).run Tryz.prog w = .ok (.value (.slice (some ⟨w.heap.size, 0, none⟩) 1 1)) (w.alloc (.cells (cel [0, 0, 0, 0, 0, 0, 0, 0, 0, 0, 0, 0, 0, 0, 0, 0, 0, 0, 0, 0, 0, 0, 0, 0, 0, 0, 0, 0, 0, 0, 0, 0, 0, 0, 0, 0, 0, 0, 0, 0, 0, 0, 0, 0, 0, 0, 0, 0] : List Value).toArray 173)) := by
 simp only [execOp, ho, hx, hy]
 kernel_rfl
theorem ex_mkTE {ρ : Operand → Value} {o : Oper} {x y : Operand} {w : World} (ho : o.op = .makeSlice 176 x y) (hx : ρ x = .int .i64 1) (hy : ρ y = .int .i64 1) :
  (execOp ρ o).run Tryz.prog w = .ok (.value (.slice (some ⟨w.heap.size, 0, none⟩) 1 1)) (w.alloc (.cells (cel [0, 0, 0, 0, 0, 0, 0, 0, 0, 0, 0, 0, 0, 0, 0, 0, 0, 0, 0, 0, 0, 0, 0, 0, 0, 0, 0, 0, 0, 0, 0, 0, 0, 0, 0, 0, 0, 0, 0, 0, 0, 0, 0, 0, 0, 0, 0, 0, 0, 0, 0, 0, 0, 0, 0, 0, 0, 0, 0, 0, 0, 0, 0, 0, 0, 0, 0, 0, 0, 0, 0, 0, 0, 0, 0, 0, 0, 0, 0, 0, 0, 0, 0, 0, 0, 0, 0, 0, 0, 0, 0, 0, 0, 0, 0, 0] : List Value).toArray 178)) := by
 simp only [execOp, ho, hx, hy]
 kernel_rfl
theorem ex_mkU {ρ : Operand → Value} {o : Oper} {x y : Operand} {w : World} (ho : o.op = .makeSlice 91 x y) (hx : ρ x = .int .i64 1) (hy : ρ y = .int .i64 1) :
  (execOp ρ o).run Tryz.prog w = .ok (.value (.slice (some ⟨w.heap.size, 0, none⟩) 1 1)) (w.alloc (.cells ([Value.int .u64 0] : List Value).toArray 22)) := by
 simp only [execOp, ho, hx, hy]
 kernel_rfl
theorem ex_slice115 {ρ : Operand → Value} {o : Oper} {x y z : Operand} {g : Nat} {w : World} (ho : o.op = .slice 115 x (some y) (some z) none) (hx : ρ x = .slice (some ⟨g, 0, none⟩) 1 1) (hy : ρ y = .int .i64 0) (hz : ρ z = .int .i64 1) :
  (execOp ρ o).run Tryz.prog w = .ok (.value (.slice (some ⟨g, 0, none⟩) 1 1)) w := by
 simp only [execOp, ho, hx, hy, hz, Option.map_some, Option.map_none]
 go_simp
theorem ex_slice117 {ρ : Operand → Value} {o : Oper} {x y z : Operand} {g : Nat} {w : World} (ho : o.op = .slice 117 x (some y) (some z) none) (hx : ρ x = .slice (some ⟨g, 0, none⟩) 1 1) (hy : ρ y = .int .i64 0) (hz : ρ z = .int .i64 1) :
  (execOp ρ o).run Tryz.prog w = .ok (.value (.slice (some ⟨g, 0, none⟩) 1 1)) w := by
 simp only [execOp, ho, hx, hy, hz, Option.map_some, Option.map_none]
 go_simp
theorem ex_slice65 {ρ : Operand → Value} {o : Oper} {x y z : Operand} {g : Nat} {w : World} (ho : o.op = .slice 65 x (some y) (some z) none) (hx : ρ x = .slice (some ⟨g, 0, none⟩) 1 1) (hy : ρ y = .int .i64 0) (hz : ρ z = .int .i64 1) :
  (execOp ρ o).run Tryz.prog w = .ok (.value (.slice (some ⟨g, 0, none⟩) 1 1)) w := by
 simp only [execOp, ho, hx, hy, hz, Option.map_some, Option.map_none]
 go_simp
theorem ex_madeTB1 {ρ : Operand → Value} {o : Oper} {w : World} (ho : o.op = .alloc 173) :
  (execOp ρ o).run Tryz.prog w = .ok (.value (.pointer (some ⟨w.heap.size, 0, none⟩))) (w.alloc (.cells (cel [0, 0, 0, 0, 0, 0, 0, 0, 0, 0, 0, 0, 0, 0, 0, 0, 0, 0, 0, 0, 0, 0, 0, 0, 0, 0, 0, 0, 0, 0, 0, 0, 0, 0, 0, 0, 0, 0, 0, 0, 0, 0, 0, 0, 0, 0, 0, 0]).toArray 173)) := by
 simp only [execOp, ho]
 kernel_rfl
theorem ex_buildTB1 {ρ : Operand → Value} {o : Oper} {x0 x1 : Operand} {a0 a1 a2 b0 b1 b2 : Nat} {w : World} (ho : o.op = .build 173 #[(0, x0), (1, x1)]) (h0 : ρ x0 = V [a0, a1, a2]) (h1 : ρ x1 = V [b0, b1, b2]) : (execOp ρ o).run Tryz.prog w = .ok (.value (V [a0, a1, a2, b0, b1, b2, 0, 0, 0, 0, 0, 0, 0, 0, 0, 0, 0, 0, 0, 0, 0, 0, 0, 0, 0, 0, 0, 0, 0, 0, 0, 0, 0, 0, 0, 0, 0, 0, 0, 0, 0, 0, 0, 0, 0, 0, 0, 0])) w := by
 simp only [execOp, ho, List.map_toArray, List.map_cons, List.map_nil, h0, h1]
 clear ho h0 h1
 kernel_rfl
theorem ex_idxTB1 {ρ : Operand → Value} {o : Oper} {x y : Operand} {g j : Nat} {w : World} (ho : o.op = .indexAddr 173 x y) (hx : ρ x = PT g 0) (hy : ρ y = .int .u64 ((j : Nat) : Int)) (hj : j < 16) :
  (execOp ρ o).run Tryz.prog w = .ok (.value (PT g (6 * (3 * j)))) w := by
 have h1 : (j : Int) < 16 := by omega
 have e : j * 18 = 6 * (3 * j) := by omega
 simp only [execOp, ho, hx, hy]
 clear ho hx hy
 go_simp
def tb1 (f : Nat → Nat) : List Nat := [f 0, f 1, f 2, f 3, f 4, f 5, f 6, f 7, f 8, f 9, f 10, f 11, f 12, f 13, f 14, f 15, f 16, f 17, f 18, f 19, f 20, f 21, f 22, f 23, f 24, f 25, f 26, f 27, f 28, f 29, f 30, f 31, f 32, f 33, f 34, f 35, f 36, f 37, f 38, f 39, f 40, f 41, f 42, f 43, f 44, f 45, f 46, f 47]
abbrev tbz1 (m : Nat) (f : Nat → Nat) : List Nat := (tb1 f).take m ++ List.replicate (48 - m) 0
theorem tb1_ld (f : Nat → Nat) {j : Nat} (hj : j < 16) : ((tb1 f).drop (3 * j)).take 3 = [f (3 * j), f (3 * j + 1), f (3 * j + 2)] := by
 match j, hj with
 | 0, _ => rfl
 | 1, _ => rfl
 | 2, _ => rfl
 | 3, _ => rfl
 | 4, _ => rfl
 | 5, _ => rfl
 | 6, _ => rfl
 | 7, _ => rfl
 | 8, _ => rfl
 | 9, _ => rfl
 | 10, _ => rfl
 | 11, _ => rfl
 | 12, _ => rfl
 | 13, _ => rfl
 | 14, _ => rfl
 | 15, _ => rfl
 | _ + 16, h => exact absurd h (by omega)
theorem ex_madeTB2 {ρ : Operand → Value} {o : Oper} {w : World} (ho : o.op = .alloc 178) :
  (execOp ρ o).run Tryz.prog w = .ok (.value (.pointer (some ⟨w.heap.size, 0, none⟩))) (w.alloc (.cells (cel [0, 0, 0, 0, 0, 0, 0, 0, 0, 0, 0, 0, 0, 0, 0, 0, 0, 0, 0, 0, 0, 0, 0, 0, 0, 0, 0, 0, 0, 0, 0, 0, 0, 0, 0, 0, 0, 0, 0, 0, 0, 0, 0, 0, 0, 0, 0, 0, 0, 0, 0, 0, 0, 0, 0, 0, 0, 0, 0, 0, 0, 0, 0, 0, 0, 0, 0, 0, 0, 0, 0, 0, 0, 0, 0, 0, 0, 0, 0, 0, 0, 0, 0, 0, 0, 0, 0, 0, 0, 0, 0, 0, 0, 0, 0, 0]).toArray 178)) := by
 simp only [execOp, ho]
 kernel_rfl
theorem ex_buildTB2 {ρ : Operand → Value} {o : Oper} {x0 x1 : Operand} {a0 a1 a2 a3 a4 a5 b0 b1 b2 b3 b4 b5 : Nat} {w : World} (ho : o.op = .build 178 #[(0, x0), (1, x1)]) (h0 : ρ x0 = V [a0, a1, a2, a3, a4, a5]) (h1 : ρ x1 = V [b0, b1, b2, b3, b4, b5]) : (execOp ρ o).run Tryz.prog w = .ok (.value (V [a0, a1, a2, a3, a4, a5, b0, b1, b2, b3, b4, b5, 0, 0, 0, 0, 0, 0, 0, 0, 0, 0, 0, 0, 0, 0, 0, 0, 0, 0, 0, 0, 0, 0, 0, 0, 0, 0, 0, 0, 0, 0, 0, 0, 0, 0, 0, 0, 0, 0, 0, 0, 0, 0, 0, 0, 0, 0, 0, 0, 0, 0, 0, 0, 0, 0, 0, 0, 0, 0, 0, 0, 0, 0, 0, 0, 0, 0, 0, 0, 0, 0, 0, 0, 0, 0, 0, 0, 0, 0, 0, 0, 0, 0, 0, 0])) w := by
 simp only [execOp, ho, List.map_toArray, List.map_cons, List.map_nil, h0, h1]
 clear ho h0 h1
 kernel_rfl
theorem ex_idxTB2 {ρ : Operand → Value} {o : Oper} {x y : Operand} {g j : Nat} {w : World} (ho : o.op = .indexAddr 178 x y) (hx : ρ x = PT g 0) (hy : ρ y = .int .u64 ((j : Nat) : Int)) (hj : j < 16) :
  (execOp ρ o).run Tryz.prog w = .ok (.value (PT g (6 * (6 * j)))) w := by
 have h1 : (j : Int) < 16 := by omega
 have e : j * 36 = 6 * (6 * j) := by omega
 simp only [execOp, ho, hx, hy]
 clear ho hx hy
 go_simp
def tb2 (f : Nat → Nat) : List Nat := [f 0, f 1, f 2, f 3, f 4, f 5, f 6, f 7, f 8, f 9, f 10, f 11, f 12, f 13, f 14, f 15, f 16, f 17, f 18, f 19, f 20, f 21, f 22, f 23, f 24, f 25, f 26, f 27, f 28, f 29, f 30, f 31, f 32, f 33, f 34, f 35, f 36, f 37, f 38, f 39, f 40, f 41, f 42, f 43, f 44, f 45, f 46, f 47, f 48, f 49, f 50, f 51, f 52, f 53, f 54, f 55, f 56, f 57, f 58, f 59, f 60, f 61, f 62, f 63, f 64, f 65, f 66, f 67, f 68, f 69, f 70, f 71, f 72, f 73, f 74, f 75, f 76, f 77, f 78, f 79, f 80, f 81, f 82, f 83, f 84, f 85, f 86, f 87, f 88, f 89, f 90, f 91, f 92, f 93, f 94, f 95]
abbrev tbz2 (m : Nat) (f : Nat → Nat) : List Nat := (tb2 f).take m ++ List.replicate (96 - m) 0
theorem tb2_ld (f : Nat → Nat) {j : Nat} (hj : j < 16) : ((tb2 f).drop (6 * j)).take 6 = [f (6 * j), f (6 * j + 1), f (6 * j + 2), f (6 * j + 3), f (6 * j + 4), f (6 * j + 5)] := by
 match j, hj with
 | 0, _ => rfl
 | 1, _ => rfl
 | 2, _ => rfl
 | 3, _ => rfl
 | 4, _ => rfl
 | 5, _ => rfl
 | 6, _ => rfl
 | 7, _ => rfl
 | 8, _ => rfl
 | 9, _ => rfl
 | 10, _ => rfl
 | 11, _ => rfl
 | 12, _ => rfl
 | 13, _ => rfl
 | 14, _ => rfl
 | 15, _ => rfl
 | _ + 16, h => exact absurd h (by omega)
set_option maxHeartbeats 8000000 in
theorem tableOf_1 {α : Type} {en : α → Nat} {fa fs fm : α → α → α} {fi : α → α} {z u b : α} {g : Nat} {tn : Value} (_C : Fd1 g en fa fs fm fi z) (f : Nat → Nat) (x y : Nat) (zb : Bool) (cz : ∀ w, Mm w [(g, yB pB), (0, dtab)] → Calls Tryz.prog 117 #[.agg (G1 g tn (en u) (en b)).toArray] w (Rt w (V [f 0, f 1, f 2]))) (cl : ∀ w, Mm w [(g, yB pB), (0, dtab)] → Calls Tryz.prog 89 #[.agg (G1 g tn (en u) (en b)).toArray, .agg (zU x y zb).toArray] w (Rt w (V [f 3, f 4, f 5]))) (c2 : ∀ w, Mm w [(g, yB pB), (0, dtab)] → Calls Tryz.prog 134 #[.agg (G1 g tn (en u) (en b)).toArray, V [f 3, f 4, f 5]] w (Rt w (V [f 6, f 7, f 8]))) (c3 : ∀ w, Mm w [(g, yB pB), (0, dtab)] → Calls Tryz.prog 94 #[.agg (G1 g tn (en u) (en b)).toArray, V [f 6, f 7, f 8], V [f 3, f 4, f 5]] w (Rt w (V [f 9, f 10, f 11]))) (c4 : ∀ w, Mm w [(g, yB pB), (0, dtab)] → Calls Tryz.prog 134 #[.agg (G1 g tn (en u) (en b)).toArray, V [f 6, f 7, f 8]] w (Rt w (V [f 12, f 13, f 14]))) (c5 : ∀ w, Mm w [(g, yB pB), (0, dtab)] → Calls Tryz.prog 94 #[.agg (G1 g tn (en u) (en b)).toArray, V [f 12, f 13, f 14], V [f 3, f 4, f 5]] w (Rt w (V [f 15, f 16, f 17]))) (c6 : ∀ w, Mm w [(g, yB pB), (0, dtab)] → Calls Tryz.prog 134 #[.agg (G1 g tn (en u) (en b)).toArray, V [f 9, f 10, f 11]] w (Rt w (V [f 18, f 19, f 20]))) (c7 : ∀ w, Mm w [(g, yB pB), (0, dtab)] → Calls Tryz.prog 94 #[.agg (G1 g tn (en u) (en b)).toArray, V [f 18, f 19, f 20], V [f 3, f 4, f 5]] w (Rt w (V [f 21, f 22, f 23]))) (c8 : ∀ w, Mm w [(g, yB pB), (0, dtab)] → Calls Tryz.prog 134 #[.agg (G1 g tn (en u) (en b)).toArray, V [f 12, f 13, f 14]] w (Rt w (V [f 24, f 25, f 26]))) (c9 : ∀ w, Mm w [(g, yB pB), (0, dtab)] → Calls Tryz.prog 94 #[.agg (G1 g tn (en u) (en b)).toArray, V [f 24, f 25, f 26], V [f 3, f 4, f 5]] w (Rt w (V [f 27, f 28, f 29]))) (c10 : ∀ w, Mm w [(g, yB pB), (0, dtab)] → Calls Tryz.prog 134 #[.agg (G1 g tn (en u) (en b)).toArray, V [f 15, f 16, f 17]] w (Rt w (V [f 30, f 31, f 32]))) (c11 : ∀ w, Mm w [(g, yB pB), (0, dtab)] → Calls Tryz.prog 94 #[.agg (G1 g tn (en u) (en b)).toArray, V [f 30, f 31, f 32], V [f 3, f 4, f 5]] w (Rt w (V [f 33, f 34, f 35]))) (c12 : ∀ w, Mm w [(g, yB pB), (0, dtab)] → Calls Tryz.prog 134 #[.agg (G1 g tn (en u) (en b)).toArray, V [f 18, f 19, f 20]] w (Rt w (V [f 36, f 37, f 38]))) (c13 : ∀ w, Mm w [(g, yB pB), (0, dtab)] → Calls Tryz.prog 94 #[.agg (G1 g tn (en u) (en b)).toArray, V [f 36, f 37, f 38], V [f 3, f 4, f 5]] w (Rt w (V [f 39, f 40, f 41]))) (c14 : ∀ w, Mm w [(g, yB pB), (0, dtab)] → Calls Tryz.prog 134 #[.agg (G1 g tn (en u) (en b)).toArray, V [f 21, f 22, f 23]] w (Rt w (V [f 42, f 43, f 44]))) (c15 : ∀ w, Mm w [(g, yB pB), (0, dtab)] → Calls Tryz.prog 94 #[.agg (G1 g tn (en u) (en b)).toArray, V [f 42, f 43, f 44], V [f 3, f 4, f 5]] w (Rt w (V [f 45, f 46, f 47]))) (w : World) (hm : Mm w [(g, yB pB), (0, dtab)]) :
  Calls Tryz.prog 152 #[.agg (G1 g tn (en u) (en b)).toArray, .agg (zU x y zb).toArray] w (Rt w (V (tb1 f))) := by
 have H0 : Hid (_ ∧ _) := ⟨hm, Below.refl w.heap.size w⟩
 clear hm
 have CZ : Hid _ := cz
 clear cz
 have CL : Hid _ := cl
 clear cl
 have C2 : Hid _ := c2
 clear c2
 have C3 : Hid _ := c3
 clear c3
 have C4 : Hid _ := c4
 clear c4
 have C5 : Hid _ := c5
 clear c5
 have C6 : Hid _ := c6
 clear c6
 have C7 : Hid _ := c7
 clear c7
 have C8 : Hid _ := c8
 clear c8
 have C9 : Hid _ := c9
 clear c9
 have C10 : Hid _ := c10
 clear c10
 have C11 : Hid _ := c11
 clear c11
 have C12 : Hid _ := c12
 clear c12
 have C13 : Hid _ := c13
 clear c13
 have C14 : Hid _ := c14
 clear c14
 have C15 : Hid _ := c15
 clear c15
 go_enter Tryz.func152, Tryz.ntmps152
 refine wp_seq ?_
 refine zC 3 [.made (G1 g tn (en u) (en b)) 81, .made (zU x y zb) 84, .made (cel [0, 0, 0, 0, 0, 0, 0, 0, 0, 0, 0, 0, 0, 0, 0, 0, 0, 0, 0, 0, 0, 0, 0, 0, 0, 0, 0, 0, 0, 0, 0, 0, 0, 0, 0, 0, 0, 0, 0, 0, 0, 0, 0, 0, 0, 0, 0, 0]) 173] (sB H0) ?ho1 ?he1
 case ho1 => exact am (zW rfl rfl) (am (zW rfl rfl) (am (ex_madeTB1 rfl) trivial))
 intro γ w1 l hM hl
 have H1 : Hid (Mm w1 ([(γ 0, G1 g tn (en u) (en b)), (γ 1, zU x y zb), (γ 2, cel [0, 0, 0, 0, 0, 0, 0, 0, 0, 0, 0, 0, 0, 0, 0, 0, 0, 0, 0, 0, 0, 0, 0, 0, 0, 0, 0, 0, 0, 0, 0, 0, 0, 0, 0, 0, 0, 0, 0, 0, 0, 0, 0, 0, 0, 0, 0, 0])] ++ _) ∧ _) := wB H0 hM hl [0, 1, 2]
 have o1_0 := vB H0 hM hl 0
 have o1_1 := vB H0 hM hl 1
 have o1_2 := vB H0 hM hl 2
 clear hM hl l
 generalize γ 0 = γ1_0 at H1 o1_0 ⊢
 generalize γ 1 = γ1_1 at H1 o1_1 ⊢
 generalize γ 2 = γ1_2 at H1 o1_2 ⊢
 clear γ
 refine rN (wp_seq ?_)
 refine zS 8 [.quiet (.agg (G1 g tn (en u) (en b)).toArray), .call (V [f 0, f 1, f 2]), .quiet (.agg (G1 g tn (en u) (en b)).toArray), .quiet (.agg (zU x y zb).toArray), .call (V [f 3, f 4, f 5]), .quiet (V (tbz1 6 f)), .made (cel [0, 0, 0, 0, 0, 0, 0, 0, 0, 0, 0, 0, 0, 0, 0, 0, 0, 0, 0, 0, 0, 0, 0, 0, 0, 0, 0, 0, 0, 0, 0, 0, 0, 0, 0, 0, 0, 0, 0, 0, 0, 0, 0, 0, 0, 0, 0, 0]) 173, .laid 6 (cel [0, 0, 0, 0, 0, 0, 0, 0, 0, 0, 0, 0, 0, 0, 0, 0, 0, 0, 0, 0, 0, 0, 0, 0, 0, 0, 0, 0, 0, 0, 0, 0, 0, 0, 0, 0, 0, 0, 0, 0, 0, 0, 0, 0, 0, 0, 0, 0]) (cel (tbz1 6 f))] (sB H1) ?ho2 ?he2 (hL := ?hL2)
 case hL2 => exact ⟨⟨_, rfl⟩, trivial⟩
 case ho2 => exact bT 0 Tryz.isAgg81 Tryz.sizeOf81 (ac (fun w' h => eC call117 (CZ.out w' (h.two 3 4 rfl rfl (by decide)))) (bT 0 Tryz.isAgg81 Tryz.sizeOf81 (bT 1 Tryz.isAgg84 Tryz.sizeOf84 (ac (fun w' h => eC call89 (CL.out w' (h.two 3 4 rfl rfl (by decide)))) (ak (fun γ => ⟨rfl, fun w' _ => ex_buildTB1 rfl rfl rfl⟩) (am (ex_madeTB1 rfl) (ak (fun γ => ⟨rfl, rfl, rfl, fun w' h => ex_laidA h rfl Tryz.sizeOf173 rfl rfl rfl⟩) trivial)))))))
 intro γ w2 l hM hl
 have H2 : Hid (Mm w2 ([(γ 6, cel (tbz1 6 f))] ++ _) ∧ _) := wB H1 hM hl [6]
 have o2_6 := vB H1 hM hl 6
 clear hM hl l H1
 generalize γ 6 = γ2_6 at H2 o2_6 ⊢
 clear γ
 refine rN (wp_seq (wp_seq ?_))
 refine zB 1 [.quiet (.int .i64 2)] H2 ?ho3 ?he3
 case ho3 => exact ar trivial
 intro _ w3 H3
 clear H2
 refine rN (wp_block ?_)
 refine wp_loop_rounds 8 ?_
 refine zK (n := 7) ?_
 refine wp_seq (wp_seq ?_)
 refine zB 2 [.quiet (.int .i64 2), .quiet (.bool true)] H3 ?ho4 ?he4
 case ho4 => exact ar (ag trivial)
 intro _ w4 H4
 clear H3
 refine rN (wp_cond_true rfl ?_)
 refine wp_skip (zA ?_)
 refine wp_seq (wp_block (wp_seq ?_))
 refine zP 8 [.quiet (.int .i64 2), .quiet (.agg (G1 g tn (en u) (en b)).toArray), .quiet (.int .i64 2), .quiet (.int .i64 1), .quiet (PT γ2_6 18), .quiet (V [f 3, f 4, f 5]), .call (V [f 6, f 7, f 8]), .quiet (PT γ2_6 36)] H4 ?ho5 ?he5
 case ho5 => exact ar (bT 1 Tryz.isAgg81 Tryz.sizeOf81 (ar (av (ag (bA 3 3 0 Tryz.isAgg124 Tryz.sizeOf124 (ac (fun w' h => eC call134 (C2.out w' (h.two 4 5 rfl rfl (by decide)))) (ag trivial)))))))
 intro _ w5 H5
 clear H4
 refine zF (l := [8]) rfl ?_
 refine sA 0 6 [f 6, f 7, f 8] [(_, cel (tbz1 9 f)), _, _, _, _, _] H5 o2_6 Tryz.sizeOf124 fun w6 H6 => ?_
 clear H5
 refine zE (zA ?_)
 refine zP 10 [.quiet (.int .i64 2), .quiet (.int .i64 3), .quiet (.agg (G1 g tn (en u) (en b)).toArray), .quiet (.int .i64 2), .quiet (PT γ2_6 36), .quiet (V [f 6, f 7, f 8]), .quiet (PT γ2_6 18), .quiet (V [f 3, f 4, f 5]), .call (V [f 9, f 10, f 11]), .quiet (PT γ2_6 54)] H6 ?ho6 ?he6
 case ho6 => exact ar (av (bT 1 Tryz.isAgg81 Tryz.sizeOf81 (ar (ag (bA 6 3 0 Tryz.isAgg124 Tryz.sizeOf124 (ag (bA 3 3 0 Tryz.isAgg124 Tryz.sizeOf124 (ac (fun w' h => eC call94 (C3.out w' (h.two 4 5 rfl rfl (by decide)))) (ag trivial)))))))))
 intro _ w7 H7
 clear H6
 refine zF (l := [10]) rfl ?_
 refine sA 0 9 [f 9, f 10, f 11] [(_, cel (tbz1 12 f)), _, _, _, _, _] H7 o2_6 Tryz.sizeOf124 fun w8 H8 => ?_
 clear H7
 refine zE (zH (zA ?_))
 refine zB 2 [.quiet (.int .i64 2), .quiet (.int .i64 4)] H8 ?ho7 ?he7
 case ho7 => exact ar (av trivial)
 intro _ w9 H9
 clear H8
 refine zF (l := [2]) rfl ?_
 refine zG (d := 6) rfl rfl rfl rfl ?_
 simp only [Act.put, sa, sz, ss]
 refine zE (zA ?_)
 refine zK (n := 6) ?_
 refine wp_seq (wp_seq ?_)
 refine zB 2 [.quiet (.int .i64 4), .quiet (.bool true)] H9 ?ho8 ?he8
 case ho8 => exact ar (ag trivial)
 intro _ w10 H10
 clear H9
 refine rN (wp_cond_true rfl ?_)
 refine wp_skip (zA ?_)
 refine wp_seq (wp_block (wp_seq ?_))
 refine zP 8 [.quiet (.int .i64 4), .quiet (.agg (G1 g tn (en u) (en b)).toArray), .quiet (.int .i64 4), .quiet (.int .i64 2), .quiet (PT γ2_6 36), .quiet (V [f 6, f 7, f 8]), .call (V [f 12, f 13, f 14]), .quiet (PT γ2_6 72)] H10 ?ho9 ?he9
 case ho9 => exact ar (bT 1 Tryz.isAgg81 Tryz.sizeOf81 (ar (av (ag (bA 6 3 0 Tryz.isAgg124 Tryz.sizeOf124 (ac (fun w' h => eC call134 (C4.out w' (h.two 4 5 rfl rfl (by decide)))) (ag trivial)))))))
 intro _ w11 H11
 clear H10
 refine zF (l := [8]) rfl ?_
 refine sA 0 12 [f 12, f 13, f 14] [(_, cel (tbz1 15 f)), _, _, _, _, _] H11 o2_6 Tryz.sizeOf124 fun w12 H12 => ?_
 clear H11
 refine zE (zA ?_)
 refine zP 10 [.quiet (.int .i64 4), .quiet (.int .i64 5), .quiet (.agg (G1 g tn (en u) (en b)).toArray), .quiet (.int .i64 4), .quiet (PT γ2_6 72), .quiet (V [f 12, f 13, f 14]), .quiet (PT γ2_6 18), .quiet (V [f 3, f 4, f 5]), .call (V [f 15, f 16, f 17]), .quiet (PT γ2_6 90)] H12 ?ho10 ?he10
 case ho10 => exact ar (av (bT 1 Tryz.isAgg81 Tryz.sizeOf81 (ar (ag (bA 12 3 0 Tryz.isAgg124 Tryz.sizeOf124 (ag (bA 3 3 0 Tryz.isAgg124 Tryz.sizeOf124 (ac (fun w' h => eC call94 (C5.out w' (h.two 4 5 rfl rfl (by decide)))) (ag trivial)))))))))
 intro _ w13 H13
 clear H12
 refine zF (l := [10]) rfl ?_
 refine sA 0 15 [f 15, f 16, f 17] [(_, cel (tbz1 18 f)), _, _, _, _, _] H13 o2_6 Tryz.sizeOf124 fun w14 H14 => ?_
 clear H13
 refine zE (zH (zA ?_))
 refine zB 2 [.quiet (.int .i64 4), .quiet (.int .i64 6)] H14 ?ho11 ?he11
 case ho11 => exact ar (av trivial)
 intro _ w15 H15
 clear H14
 refine zF (l := [2]) rfl ?_
 refine zG (d := 6) rfl rfl rfl rfl ?_
 simp only [Act.put, sa, sz, ss]
 refine zE (zA ?_)
 refine zK (n := 5) ?_
 refine wp_seq (wp_seq ?_)
 refine zB 2 [.quiet (.int .i64 6), .quiet (.bool true)] H15 ?ho12 ?he12
 case ho12 => exact ar (ag trivial)
 intro _ w16 H16
 clear H15
 refine rN (wp_cond_true rfl ?_)
 refine wp_skip (zA ?_)
 refine wp_seq (wp_block (wp_seq ?_))
 refine zP 8 [.quiet (.int .i64 6), .quiet (.agg (G1 g tn (en u) (en b)).toArray), .quiet (.int .i64 6), .quiet (.int .i64 3), .quiet (PT γ2_6 54), .quiet (V [f 9, f 10, f 11]), .call (V [f 18, f 19, f 20]), .quiet (PT γ2_6 108)] H16 ?ho13 ?he13
 case ho13 => exact ar (bT 1 Tryz.isAgg81 Tryz.sizeOf81 (ar (av (ag (bA 9 3 0 Tryz.isAgg124 Tryz.sizeOf124 (ac (fun w' h => eC call134 (C6.out w' (h.two 4 5 rfl rfl (by decide)))) (ag trivial)))))))
 intro _ w17 H17
 clear H16
 refine zF (l := [8]) rfl ?_
 refine sA 0 18 [f 18, f 19, f 20] [(_, cel (tbz1 21 f)), _, _, _, _, _] H17 o2_6 Tryz.sizeOf124 fun w18 H18 => ?_
 clear H17
 refine zE (zA ?_)
 refine zP 10 [.quiet (.int .i64 6), .quiet (.int .i64 7), .quiet (.agg (G1 g tn (en u) (en b)).toArray), .quiet (.int .i64 6), .quiet (PT γ2_6 108), .quiet (V [f 18, f 19, f 20]), .quiet (PT γ2_6 18), .quiet (V [f 3, f 4, f 5]), .call (V [f 21, f 22, f 23]), .quiet (PT γ2_6 126)] H18 ?ho14 ?he14
 case ho14 => exact ar (av (bT 1 Tryz.isAgg81 Tryz.sizeOf81 (ar (ag (bA 18 3 0 Tryz.isAgg124 Tryz.sizeOf124 (ag (bA 3 3 0 Tryz.isAgg124 Tryz.sizeOf124 (ac (fun w' h => eC call94 (C7.out w' (h.two 4 5 rfl rfl (by decide)))) (ag trivial)))))))))
 intro _ w19 H19
 clear H18
 refine zF (l := [10]) rfl ?_
 refine sA 0 21 [f 21, f 22, f 23] [(_, cel (tbz1 24 f)), _, _, _, _, _] H19 o2_6 Tryz.sizeOf124 fun w20 H20 => ?_
 clear H19
 refine zE (zH (zA ?_))
 refine zB 2 [.quiet (.int .i64 6), .quiet (.int .i64 8)] H20 ?ho15 ?he15
 case ho15 => exact ar (av trivial)
 intro _ w21 H21
 clear H20
 refine zF (l := [2]) rfl ?_
 refine zG (d := 6) rfl rfl rfl rfl ?_
 simp only [Act.put, sa, sz, ss]
 refine zE (zA ?_)
 refine zK (n := 4) ?_
 refine wp_seq (wp_seq ?_)
 refine zB 2 [.quiet (.int .i64 8), .quiet (.bool true)] H21 ?ho16 ?he16
 case ho16 => exact ar (ag trivial)
 intro _ w22 H22
 clear H21
 refine rN (wp_cond_true rfl ?_)
 refine wp_skip (zA ?_)
 refine wp_seq (wp_block (wp_seq ?_))
 refine zP 8 [.quiet (.int .i64 8), .quiet (.agg (G1 g tn (en u) (en b)).toArray), .quiet (.int .i64 8), .quiet (.int .i64 4), .quiet (PT γ2_6 72), .quiet (V [f 12, f 13, f 14]), .call (V [f 24, f 25, f 26]), .quiet (PT γ2_6 144)] H22 ?ho17 ?he17
 case ho17 => exact ar (bT 1 Tryz.isAgg81 Tryz.sizeOf81 (ar (av (ag (bA 12 3 0 Tryz.isAgg124 Tryz.sizeOf124 (ac (fun w' h => eC call134 (C8.out w' (h.two 4 5 rfl rfl (by decide)))) (ag trivial)))))))
 intro _ w23 H23
 clear H22
 refine zF (l := [8]) rfl ?_
 refine sA 0 24 [f 24, f 25, f 26] [(_, cel (tbz1 27 f)), _, _, _, _, _] H23 o2_6 Tryz.sizeOf124 fun w24 H24 => ?_
 clear H23
 refine zE (zA ?_)
 refine zP 10 [.quiet (.int .i64 8), .quiet (.int .i64 9), .quiet (.agg (G1 g tn (en u) (en b)).toArray), .quiet (.int .i64 8), .quiet (PT γ2_6 144), .quiet (V [f 24, f 25, f 26]), .quiet (PT γ2_6 18), .quiet (V [f 3, f 4, f 5]), .call (V [f 27, f 28, f 29]), .quiet (PT γ2_6 162)] H24 ?ho18 ?he18
 case ho18 => exact ar (av (bT 1 Tryz.isAgg81 Tryz.sizeOf81 (ar (ag (bA 24 3 0 Tryz.isAgg124 Tryz.sizeOf124 (ag (bA 3 3 0 Tryz.isAgg124 Tryz.sizeOf124 (ac (fun w' h => eC call94 (C9.out w' (h.two 4 5 rfl rfl (by decide)))) (ag trivial)))))))))
 intro _ w25 H25
 clear H24
 refine zF (l := [10]) rfl ?_
 refine sA 0 27 [f 27, f 28, f 29] [(_, cel (tbz1 30 f)), _, _, _, _, _] H25 o2_6 Tryz.sizeOf124 fun w26 H26 => ?_
 clear H25
 refine zE (zH (zA ?_))
 refine zB 2 [.quiet (.int .i64 8), .quiet (.int .i64 10)] H26 ?ho19 ?he19
 case ho19 => exact ar (av trivial)
 intro _ w27 H27
 clear H26
 refine zF (l := [2]) rfl ?_
 refine zG (d := 6) rfl rfl rfl rfl ?_
 simp only [Act.put, sa, sz, ss]
 refine zE (zA ?_)
 refine zK (n := 3) ?_
 refine wp_seq (wp_seq ?_)
 refine zB 2 [.quiet (.int .i64 10), .quiet (.bool true)] H27 ?ho20 ?he20
 case ho20 => exact ar (ag trivial)
 intro _ w28 H28
 clear H27
 refine rN (wp_cond_true rfl ?_)
 refine wp_skip (zA ?_)
 refine wp_seq (wp_block (wp_seq ?_))
 refine zP 8 [.quiet (.int .i64 10), .quiet (.agg (G1 g tn (en u) (en b)).toArray), .quiet (.int .i64 10), .quiet (.int .i64 5), .quiet (PT γ2_6 90), .quiet (V [f 15, f 16, f 17]), .call (V [f 30, f 31, f 32]), .quiet (PT γ2_6 180)] H28 ?ho21 ?he21
 case ho21 => exact ar (bT 1 Tryz.isAgg81 Tryz.sizeOf81 (ar (av (ag (bA 15 3 0 Tryz.isAgg124 Tryz.sizeOf124 (ac (fun w' h => eC call134 (C10.out w' (h.two 4 5 rfl rfl (by decide)))) (ag trivial)))))))
 intro _ w29 H29
 clear H28
 refine zF (l := [8]) rfl ?_
 refine sA 0 30 [f 30, f 31, f 32] [(_, cel (tbz1 33 f)), _, _, _, _, _] H29 o2_6 Tryz.sizeOf124 fun w30 H30 => ?_
 clear H29
 refine zE (zA ?_)
 refine zP 10 [.quiet (.int .i64 10), .quiet (.int .i64 11), .quiet (.agg (G1 g tn (en u) (en b)).toArray), .quiet (.int .i64 10), .quiet (PT γ2_6 180), .quiet (V [f 30, f 31, f 32]), .quiet (PT γ2_6 18), .quiet (V [f 3, f 4, f 5]), .call (V [f 33, f 34, f 35]), .quiet (PT γ2_6 198)] H30 ?ho22 ?he22
 case ho22 => exact ar (av (bT 1 Tryz.isAgg81 Tryz.sizeOf81 (ar (ag (bA 30 3 0 Tryz.isAgg124 Tryz.sizeOf124 (ag (bA 3 3 0 Tryz.isAgg124 Tryz.sizeOf124 (ac (fun w' h => eC call94 (C11.out w' (h.two 4 5 rfl rfl (by decide)))) (ag trivial)))))))))
 intro _ w31 H31
 clear H30
 refine zF (l := [10]) rfl ?_
 refine sA 0 33 [f 33, f 34, f 35] [(_, cel (tbz1 36 f)), _, _, _, _, _] H31 o2_6 Tryz.sizeOf124 fun w32 H32 => ?_
 clear H31
 refine zE (zH (zA ?_))
 refine zB 2 [.quiet (.int .i64 10), .quiet (.int .i64 12)] H32 ?ho23 ?he23
 case ho23 => exact ar (av trivial)
 intro _ w33 H33
 clear H32
 refine zF (l := [2]) rfl ?_
 refine zG (d := 6) rfl rfl rfl rfl ?_
 simp only [Act.put, sa, sz, ss]
 refine zE (zA ?_)
 refine zK (n := 2) ?_
 refine wp_seq (wp_seq ?_)
 refine zB 2 [.quiet (.int .i64 12), .quiet (.bool true)] H33 ?ho24 ?he24
 case ho24 => exact ar (ag trivial)
 intro _ w34 H34
 clear H33
 refine rN (wp_cond_true rfl ?_)
 refine wp_skip (zA ?_)
 refine wp_seq (wp_block (wp_seq ?_))
 refine zP 8 [.quiet (.int .i64 12), .quiet (.agg (G1 g tn (en u) (en b)).toArray), .quiet (.int .i64 12), .quiet (.int .i64 6), .quiet (PT γ2_6 108), .quiet (V [f 18, f 19, f 20]), .call (V [f 36, f 37, f 38]), .quiet (PT γ2_6 216)] H34 ?ho25 ?he25
 case ho25 => exact ar (bT 1 Tryz.isAgg81 Tryz.sizeOf81 (ar (av (ag (bA 18 3 0 Tryz.isAgg124 Tryz.sizeOf124 (ac (fun w' h => eC call134 (C12.out w' (h.two 4 5 rfl rfl (by decide)))) (ag trivial)))))))
 intro _ w35 H35
 clear H34
 refine zF (l := [8]) rfl ?_
 refine sA 0 36 [f 36, f 37, f 38] [(_, cel (tbz1 39 f)), _, _, _, _, _] H35 o2_6 Tryz.sizeOf124 fun w36 H36 => ?_
 clear H35
 refine zE (zA ?_)
 refine zP 10 [.quiet (.int .i64 12), .quiet (.int .i64 13), .quiet (.agg (G1 g tn (en u) (en b)).toArray), .quiet (.int .i64 12), .quiet (PT γ2_6 216), .quiet (V [f 36, f 37, f 38]), .quiet (PT γ2_6 18), .quiet (V [f 3, f 4, f 5]), .call (V [f 39, f 40, f 41]), .quiet (PT γ2_6 234)] H36 ?ho26 ?he26
 case ho26 => exact ar (av (bT 1 Tryz.isAgg81 Tryz.sizeOf81 (ar (ag (bA 36 3 0 Tryz.isAgg124 Tryz.sizeOf124 (ag (bA 3 3 0 Tryz.isAgg124 Tryz.sizeOf124 (ac (fun w' h => eC call94 (C13.out w' (h.two 4 5 rfl rfl (by decide)))) (ag trivial)))))))))
 intro _ w37 H37
 clear H36
 refine zF (l := [10]) rfl ?_
 refine sA 0 39 [f 39, f 40, f 41] [(_, cel (tbz1 42 f)), _, _, _, _, _] H37 o2_6 Tryz.sizeOf124 fun w38 H38 => ?_
 clear H37
 refine zE (zH (zA ?_))
 refine zB 2 [.quiet (.int .i64 12), .quiet (.int .i64 14)] H38 ?ho27 ?he27
 case ho27 => exact ar (av trivial)
 intro _ w39 H39
 clear H38
 refine zF (l := [2]) rfl ?_
 refine zG (d := 6) rfl rfl rfl rfl ?_
 simp only [Act.put, sa, sz, ss]
 refine zE (zA ?_)
 refine zK (n := 1) ?_
 refine wp_seq (wp_seq ?_)
 refine zB 2 [.quiet (.int .i64 14), .quiet (.bool true)] H39 ?ho28 ?he28
 case ho28 => exact ar (ag trivial)
 intro _ w40 H40
 clear H39
 refine rN (wp_cond_true rfl ?_)
 refine wp_skip (zA ?_)
 refine wp_seq (wp_block (wp_seq ?_))
 refine zP 8 [.quiet (.int .i64 14), .quiet (.agg (G1 g tn (en u) (en b)).toArray), .quiet (.int .i64 14), .quiet (.int .i64 7), .quiet (PT γ2_6 126), .quiet (V [f 21, f 22, f 23]), .call (V [f 42, f 43, f 44]), .quiet (PT γ2_6 252)] H40 ?ho29 ?he29
 case ho29 => exact ar (bT 1 Tryz.isAgg81 Tryz.sizeOf81 (ar (av (ag (bA 21 3 0 Tryz.isAgg124 Tryz.sizeOf124 (ac (fun w' h => eC call134 (C14.out w' (h.two 4 5 rfl rfl (by decide)))) (ag trivial)))))))
 intro _ w41 H41
 clear H40
 refine zF (l := [8]) rfl ?_
 refine sA 0 42 [f 42, f 43, f 44] [(_, cel (tbz1 45 f)), _, _, _, _, _] H41 o2_6 Tryz.sizeOf124 fun w42 H42 => ?_
 clear H41
 refine zE (zA ?_)
 refine zP 10 [.quiet (.int .i64 14), .quiet (.int .i64 15), .quiet (.agg (G1 g tn (en u) (en b)).toArray), .quiet (.int .i64 14), .quiet (PT γ2_6 252), .quiet (V [f 42, f 43, f 44]), .quiet (PT γ2_6 18), .quiet (V [f 3, f 4, f 5]), .call (V [f 45, f 46, f 47]), .quiet (PT γ2_6 270)] H42 ?ho30 ?he30
 case ho30 => exact ar (av (bT 1 Tryz.isAgg81 Tryz.sizeOf81 (ar (ag (bA 42 3 0 Tryz.isAgg124 Tryz.sizeOf124 (ag (bA 3 3 0 Tryz.isAgg124 Tryz.sizeOf124 (ac (fun w' h => eC call94 (C15.out w' (h.two 4 5 rfl rfl (by decide)))) (ag trivial)))))))))
 intro _ w43 H43
 clear H42
 refine zF (l := [10]) rfl ?_
 refine sA 0 45 [f 45, f 46, f 47] [(_, cel (tb1 f)), _, _, _, _, _] H43 o2_6 Tryz.sizeOf124 fun w44 H44 => ?_
 clear H43
 refine zE (zH (zA ?_))
 refine zB 2 [.quiet (.int .i64 14), .quiet (.int .i64 16)] H44 ?ho31 ?he31
 case ho31 => exact ar (av trivial)
 intro _ w45 H45
 clear H44
 refine zF (l := [2]) rfl ?_
 refine zG (d := 6) rfl rfl rfl rfl ?_
 simp only [Act.put, sa, sz, ss]
 refine zE (zA ?_)
 refine zK (n := 0) ?_
 refine wp_seq (wp_seq ?_)
 refine zB 2 [.quiet (.int .i64 16), .quiet (.bool false)] H45 ?ho32 ?he32
 case ho32 => exact ar (ag trivial)
 intro _ w46 H46
 clear H45
 refine rN (wp_cond_false rfl ?_)
 refine wp_exit ?_
 repeat refine zY ?_
 refine zT ?_
 refine zA (wp_seq ?_)
 refine zB 1 [.quiet (V (tb1 f))] H46 ?ho33 ?he33
 case ho33 => exact bA 0 48 0 Tryz.isAgg173 Tryz.sizeOf173 trivial
 intro _ w47 H47
 clear H46
 refine zF (l := [1]) rfl ?_
 refine sA 3 0 [f 0, f 1, f 2, f 3, f 4, f 5, f 6, f 7, f 8, f 9, f 10, f 11, f 12, f 13, f 14, f 15, f 16, f 17, f 18, f 19, f 20, f 21, f 22, f 23, f 24, f 25, f 26, f 27, f 28, f 29, f 30, f 31, f 32, f 33, f 34, f 35, f 36, f 37, f 38, f 39, f 40, f 41, f 42, f 43, f 44, f 45, f 46, f 47] [_, _, _, (_, cel (tb1 f)), _, _] H47 o1_2 Tryz.sizeOf173 fun w48 H48 => ?_
 clear H47
 refine zE (zA (wp_ret ?_))
 repeat (first | refine zM ?_ | refine zI ?_)
 have hf0 := cel_var (k := 48) H48.out.1 3 rfl Tryz.isAgg173 Tryz.sizeOf173 rfl
 refine bodyPost_ret (v := V (tb1 f)) (by simp [results, Tryz.results152, asAddr, hf0]) rfl ?_
 exact ⟨rfl, H48.out.2⟩
set_option maxHeartbeats 8000000 in
theorem byRow_1 {α : Type} {en : α → Nat} {fa fs fm : α → α → α} {fi : α → α} {z u b : α} {g : Nat} {tn : Value} (_C : Fd1 g en fa fs fm fi z) (f : Nat → Nat) (tw : EC.Tri α → EC.Tri α) (tg : EC.Tri α → Nat → EC.Tri α) (A : Nat → EC.Tri α) (wo : Nat → Int) (dg : Nat → Nat) (gt gr : Nat)
  (ctw : ∀ T w, Mm w [(g, yB pB), (0, dtab)] → Calls Tryz.prog 134 #[.agg (G1 g tn (en u) (en b)).toArray, V [en T.1, en T.2.1, en T.2.2]] w (Rt w (V [en ((tw T).1), en ((tw T).2.1), en ((tw T).2.2)])))
  (ctg : ∀ T d, d < 16 → ∀ w, Mm w [(g, yB pB), (0, dtab)] → Calls Tryz.prog 94 #[.agg (G1 g tn (en u) (en b)).toArray, V [en T.1, en T.2.1, en T.2.2], V [f (3 * d), f (3 * d + 1), f (3 * d + 2)]] w (Rt w (V [en ((tg T d).1), en ((tg T d).2.1), en ((tg T d).2.2)])))
  (hd : ∀ k, wo k / 2 ^ 60 = ((dg k : Nat) : Int)) (hdl : ∀ k, dg k < 16) (hw : ∀ k, IntKind.u64.wrap (wo k * 2 ^ 4) = wo (k + 1))
  (ha0 : ∀ k, dg k = 0 → tw (tw (tw (tw (A k)))) = A (k + 1)) (ha1 : ∀ k, 0 < dg k → tg (tw (tw (tw (tw (A k))))) (dg k) = A (k + 1)) (w : World) (hm : Mm w [(g, yB pB), (0, dtab), (gt, cel (tb1 f)), (gr, [Value.int .u64 (wo 0)])]) :
  Calls Tryz.prog 153 #[.agg (G1 g tn (en u) (en b)).toArray, V [en ((A 0).1), en ((A 0).2.1), en ((A 0).2.2)], .slice (some ⟨gt, 0, none⟩) 1 1, .slice (some ⟨gr, 0, none⟩) 1 1] w fun e w' => e = .returned (V [en ((A 16).1), en ((A 16).2.1), en ((A 16).2.2)]) ∧ Mm w' [(gr, [Value.int .u64 (wo 16)])] ∧ Kp gr w w' := by
 have H0 : Hid (_ ∧ _) := ⟨hm, Kp.refl gr w⟩
 clear hm
 have CTW : Hid _ := ctw
 clear ctw
 have CTG : Hid _ := ctg
 clear ctg
 have HD : Hid _ := hd
 clear hd
 have HDL : Hid _ := hdl
 clear hdl
 have HW : Hid _ := hw
 clear hw
 have HA0 : Hid _ := ha0
 clear ha0
 have HA1 : Hid _ := ha1
 clear ha1
 go_enter Tryz.func153, Tryz.ntmps153
 refine wp_seq ?_
 refine zC 3 [.made (G1 g tn (en u) (en b)) 81, .made (cel [en ((A 0).1), en ((A 0).2.1), en ((A 0).2.2)]) 124, .made (cel [0, 0, 0]) 124] (sB H0) ?ho1 ?he1
 case ho1 => exact am (zW rfl rfl) (am (ex_boxA rfl rfl) (am (ex_madeTN rfl) trivial))
 intro γ w1 l hM hl
 have H1 : Hid (Mm w1 ([(γ 0, G1 g tn (en u) (en b)), (γ 1, cel [en ((A 0).1), en ((A 0).2.1), en ((A 0).2.2)]), (γ 2, cel [0, 0, 0])] ++ _) ∧ _) := wK H0 hM hl [0, 1, 2]
 have o1_0 := vK H0 hM hl 0
 have o1_1 := vK H0 hM hl 1
 have o1_2 := vK H0 hM hl 2
 clear hM hl l
 generalize γ 0 = γ1_0 at H1 o1_0 ⊢
 generalize γ 1 = γ1_1 at H1 o1_1 ⊢
 generalize γ 2 = γ1_2 at H1 o1_2 ⊢
 clear γ
 refine rN (wp_seq (wp_seq ?_))
 refine zC 1 [.quiet (.int .i64 0)] (sB H1) ?ho2 ?he2
 case ho2 => exact ar trivial
 intro γ w2 l hM hl
 have H2 := zQ H1 hM.below
 clear hM hl l H1 γ
 refine rN (wp_block ?_)
 refine loop_ghost (α := Nat) (fun k a' w' => ∃ s0 : Nat → Value, a' = ⟨#[.agg (G1 g tn (en u) (en b)).toArray, V [en ((A 0).1), en ((A 0).2.1), en ((A 0).2.2)], .slice (some ⟨gt, 0, none⟩) 1 1, .slice (some ⟨gr, 0, none⟩) 1 1, PT γ1_0 0, PT γ1_1 0, ud, ud, PT γ1_2 0, s0 9, s0 10, s0 11, .int .i64 ((k : Nat) : Int), s0 13, s0 14, s0 15, s0 16, s0 17, s0 18, s0 19, s0 20, s0 21, s0 22, s0 23, s0 24, s0 25, s0 26, s0 27, s0 28, s0 29, s0 30, s0 31, s0 32, s0 33, s0 34, s0 35, s0 36, s0 37, s0 38, s0 39, s0 40, s0 41, s0 42, s0 43, s0 44, s0 45, s0 46, ud], []⟩ ∧ (Mm w' [(γ1_0, G1 g tn (en u) (en b)), (γ1_1, cel [en ((A k).1), en ((A k).2.1), en ((A k).2.2)]), (γ1_2, cel [0, 0, 0]), (g, yB pB), (0, dtab), (gt, cel (tb1 f)), (gr, [Value.int .u64 (wo k)])] ∧ Kp gr w w') ∧ k ≤ 16) (fun k => 16 - k) 0 ?st0 ?rd0
 case st0 => exact ⟨(slotfn [ud, ud, ud, ud, ud, ud, ud, ud, ud, ud, ud, ud, ud, ud, ud, ud, ud, ud, ud, ud, ud, ud, ud, ud, ud, ud, ud, ud, ud, ud, ud, ud, ud, ud, ud, ud, ud, ud, ud, ud, ud, ud, ud, ud, ud, ud, ud]), rfl, ⟨H2.out.1, H2.out.2⟩, by omega⟩
 intro k a' w3 hI
 obtain ⟨s0, rfl, hMB, hk0⟩ := hI
 have H3 : Hid (_ ∧ _) := hMB
 clear hMB H2
 by_cases hlt0 : k < 16
 ·have hrd : True := trivial
  clear hrd
  by_cases hdz : dg k = 0
  ·have hrd : True := trivial
   clear hrd
   have hlt : k < 16 := by omega
   refine wp_seq ?_
   refine zC 1 [.quiet (.bool true)] (sB H3) ?ho3 ?he3
   case ho3 => exact ak (by refine fun γ => ⟨rfl, fun w' h => ?_⟩; clear h; go_simp <;> omega) trivial
   intro γ w4 l hM hl
   have H4 := zQ H3 hM.below
   clear hM hl l H3 γ
   refine rN (wp_seq ?_)
   refine wp_cond_true rfl (wp_skip ?_)
   refine zA (wp_seq ?_)
   refine wp_block (wp_seq (wp_seq ?_))
   refine zC 1 [.quiet (.int .i64 0)] (sB H4) ?ho4 ?he4
   case ho4 => exact ar trivial
   intro γ w5 l hM hl
   have H5 := zQ H4 hM.below
   clear hM hl l H4 γ
   refine rN (wp_block ?_)
   refine wp_loop_rounds 5 ?_
   refine zK (n := 4) ?_
   refine wp_seq ?_
   refine zC 1 [.quiet (.bool true)] (sB H5) ?ho5 ?he5
   case ho5 => exact ag trivial
   intro γ w6 l hM hl
   have H6 := zQ H5 hM.below
   clear hM hl l H5 γ
   refine rN (wp_seq ?_)
   refine wp_cond_true rfl (wp_skip ?_)
   refine zA (wp_seq (wp_block ?_))
   refine zC 3 [.quiet (.agg (G1 g tn (en u) (en b)).toArray), .quiet (V [en ((A k).1), en ((A k).2.1), en ((A k).2.2)]), .call (V [en ((tw (A k)).1), en ((tw (A k)).2.1), en ((tw (A k)).2.2)])] (sB H6) ?ho6 ?he6
   case ho6 => exact bT 0 Tryz.isAgg81 Tryz.sizeOf81 (bA 0 3 1 Tryz.isAgg124 Tryz.sizeOf124 (ac (fun w' h => eC call134 (CTW.out (A k) w' (h.two 3 4 rfl rfl (by decide)))) trivial))
   intro γ w7 l hM hl
   have H7 := zQ H6 hM.below
   clear hM hl l H6 γ
   refine zF (l := [3]) rfl ?_
   refine sL 1 [en ((tw (A k)).1), en ((tw (A k)).2.1), en ((tw (A k)).2.2)] [_, _, _, _, _, _, _] H7 o1_1 Tryz.sizeOf124 fun w8 H8 => ?_
   clear H7
   refine zE (zH (zA ?_))
   refine zC 1 [.quiet (.int .i64 1)] (sB H8) ?ho7 ?he7
   case ho7 => exact av trivial
   intro γ w9 l hM hl
   have H9 := zQ H8 hM.below
   clear hM hl l H8 γ
   refine zF (l := [1]) rfl ?_
   refine zG (d := 14) rfl rfl rfl rfl ?_
   simp only [Act.put, sa, sz, ss]
   refine zE (zA ?_)
   refine zK (n := 3) ?_
   refine wp_seq ?_
   refine zC 1 [.quiet (.bool true)] (sB H9) ?ho8 ?he8
   case ho8 => exact ag trivial
   intro γ w10 l hM hl
   have H10 := zQ H9 hM.below
   clear hM hl l H9 γ
   refine rN (wp_seq ?_)
   refine wp_cond_true rfl (wp_skip ?_)
   refine zA (wp_seq (wp_block ?_))
   refine zC 3 [.quiet (.agg (G1 g tn (en u) (en b)).toArray), .quiet (V [en ((tw (A k)).1), en ((tw (A k)).2.1), en ((tw (A k)).2.2)]), .call (V [en ((tw (tw (A k))).1), en ((tw (tw (A k))).2.1), en ((tw (tw (A k))).2.2)])] (sB H10) ?ho9 ?he9
   case ho9 => exact bT 0 Tryz.isAgg81 Tryz.sizeOf81 (bA 0 3 1 Tryz.isAgg124 Tryz.sizeOf124 (ac (fun w' h => eC call134 (CTW.out (tw (A k)) w' (h.two 3 4 rfl rfl (by decide)))) trivial))
   intro γ w11 l hM hl
   have H11 := zQ H10 hM.below
   clear hM hl l H10 γ
   refine zF (l := [3]) rfl ?_
   refine sL 1 [en ((tw (tw (A k))).1), en ((tw (tw (A k))).2.1), en ((tw (tw (A k))).2.2)] [_, _, _, _, _, _, _] H11 o1_1 Tryz.sizeOf124 fun w12 H12 => ?_
   clear H11
   refine zE (zH (zA ?_))
   refine zC 1 [.quiet (.int .i64 2)] (sB H12) ?ho10 ?he10
   case ho10 => exact av trivial
   intro γ w13 l hM hl
   have H13 := zQ H12 hM.below
   clear hM hl l H12 γ
   refine zF (l := [1]) rfl ?_
   refine zG (d := 14) rfl rfl rfl rfl ?_
   simp only [Act.put, sa, sz, ss]
   refine zE (zA ?_)
   refine zK (n := 2) ?_
   refine wp_seq ?_
   refine zC 1 [.quiet (.bool true)] (sB H13) ?ho11 ?he11
   case ho11 => exact ag trivial
   intro γ w14 l hM hl
   have H14 := zQ H13 hM.below
   clear hM hl l H13 γ
   refine rN (wp_seq ?_)
   refine wp_cond_true rfl (wp_skip ?_)
   refine zA (wp_seq (wp_block ?_))
   refine zC 3 [.quiet (.agg (G1 g tn (en u) (en b)).toArray), .quiet (V [en ((tw (tw (A k))).1), en ((tw (tw (A k))).2.1), en ((tw (tw (A k))).2.2)]), .call (V [en ((tw (tw (tw (A k)))).1), en ((tw (tw (tw (A k)))).2.1), en ((tw (tw (tw (A k)))).2.2)])] (sB H14) ?ho12 ?he12
   case ho12 => exact bT 0 Tryz.isAgg81 Tryz.sizeOf81 (bA 0 3 1 Tryz.isAgg124 Tryz.sizeOf124 (ac (fun w' h => eC call134 (CTW.out (tw (tw (A k))) w' (h.two 3 4 rfl rfl (by decide)))) trivial))
   intro γ w15 l hM hl
   have H15 := zQ H14 hM.below
   clear hM hl l H14 γ
   refine zF (l := [3]) rfl ?_
   refine sL 1 [en ((tw (tw (tw (A k)))).1), en ((tw (tw (tw (A k)))).2.1), en ((tw (tw (tw (A k)))).2.2)] [_, _, _, _, _, _, _] H15 o1_1 Tryz.sizeOf124 fun w16 H16 => ?_
   clear H15
   refine zE (zH (zA ?_))
   refine zC 1 [.quiet (.int .i64 3)] (sB H16) ?ho13 ?he13
   case ho13 => exact av trivial
   intro γ w17 l hM hl
   have H17 := zQ H16 hM.below
   clear hM hl l H16 γ
   refine zF (l := [1]) rfl ?_
   refine zG (d := 14) rfl rfl rfl rfl ?_
   simp only [Act.put, sa, sz, ss]
   refine zE (zA ?_)
   refine zK (n := 1) ?_
   refine wp_seq ?_
   refine zC 1 [.quiet (.bool true)] (sB H17) ?ho14 ?he14
   case ho14 => exact ag trivial
   intro γ w18 l hM hl
   have H18 := zQ H17 hM.below
   clear hM hl l H17 γ
   refine rN (wp_seq ?_)
   refine wp_cond_true rfl (wp_skip ?_)
   refine zA (wp_seq (wp_block ?_))
   refine zC 3 [.quiet (.agg (G1 g tn (en u) (en b)).toArray), .quiet (V [en ((tw (tw (tw (A k)))).1), en ((tw (tw (tw (A k)))).2.1), en ((tw (tw (tw (A k)))).2.2)]), .call (V [en ((tw (tw (tw (tw (A k))))).1), en ((tw (tw (tw (tw (A k))))).2.1), en ((tw (tw (tw (tw (A k))))).2.2)])] (sB H18) ?ho15 ?he15
   case ho15 => exact bT 0 Tryz.isAgg81 Tryz.sizeOf81 (bA 0 3 1 Tryz.isAgg124 Tryz.sizeOf124 (ac (fun w' h => eC call134 (CTW.out (tw (tw (tw (A k)))) w' (h.two 3 4 rfl rfl (by decide)))) trivial))
   intro γ w19 l hM hl
   have H19 := zQ H18 hM.below
   clear hM hl l H18 γ
   refine zF (l := [3]) rfl ?_
   refine sL 1 [en ((tw (tw (tw (tw (A k))))).1), en ((tw (tw (tw (tw (A k))))).2.1), en ((tw (tw (tw (tw (A k))))).2.2)] [_, _, _, _, _, _, _] H19 o1_1 Tryz.sizeOf124 fun w20 H20 => ?_
   clear H19
   refine zE (zH (zA ?_))
   refine zC 1 [.quiet (.int .i64 4)] (sB H20) ?ho16 ?he16
   case ho16 => exact av trivial
   intro γ w21 l hM hl
   have H21 := zQ H20 hM.below
   clear hM hl l H20 γ
   refine zF (l := [1]) rfl ?_
   refine zG (d := 14) rfl rfl rfl rfl ?_
   simp only [Act.put, sa, sz, ss]
   refine zE (zA ?_)
   refine zK (n := 0) ?_
   refine wp_seq ?_
   refine zC 1 [.quiet (.bool false)] (sB H21) ?ho17 ?he17
   case ho17 => exact ag trivial
   intro γ w22 l hM hl
   have H22 := zQ H21 hM.below
   clear hM hl l H21 γ
   refine rN (wp_seq (wp_cond_false rfl ?_))
   refine wp_exit ?_
   repeat refine zY ?_
   refine zT ?_
   refine zA (wp_seq ?_)
   refine zC 3 [.quiet (.slice (some ⟨gr, 0, none⟩) 1 1), .quiet (.int .i64 1), .quiet (.int .i64 0)] (sB H22) ?ho18 ?he18
   case ho18 => exact ar (ag (ar trivial))
   intro γ w23 l hM hl
   have H23 := zQ H22 hM.below
   clear hM hl l H22 γ
   refine rN (wp_block ?_)
   refine wp_loop_rounds 2 ?_
   refine zK (n := 1) ?_
   refine wp_seq ?_
   refine zC 1 [.quiet (.bool true)] (sB H23) ?ho19 ?he19
   case ho19 => exact ag trivial
   intro γ w24 l hM hl
   have H24 := zQ H23 hM.below
   clear hM hl l H23 γ
   refine rN (wp_seq ?_)
   refine wp_cond_true rfl (wp_skip ?_)
   refine zA (wp_seq ?_)
   refine wp_block (wp_seq ?_)
   refine zC 5 [.quiet (.int .i64 0), .quiet (PT gr 0), .quiet (.int .u64 (wo k)), .quiet (.int .i64 0), .quiet (.int .u64 (wo k))] (sB H24) ?ho20 ?he20
   case ho20 => exact ar (ag (bC 6 Tryz.isAgg22 (ar (ar trivial))))
   intro γ w25 l hM hl
   have H25 := zQ H24 hM.below
   clear hM hl l H24 γ
   refine rN (wp_seq (wp_seq ?_))
   refine zC 3 [.quiet (.int .u64 (wo k)), .quiet (.int .u64 ((dg k : Nat) : Int)), .quiet (.int .u64 ((dg k : Nat) : Int))] (sB H25) ?ho21 ?he21
   case ho21 => exact ar (ak (fun γ => ⟨rfl, fun w' _ => by rw [← HD.out k]; exact ex_shr60 rfl rfl rfl⟩) (ar trivial))
   intro γ w26 l hM hl
   have H26 := zQ H25 hM.below
   clear hM hl l H25 γ
   refine rN (wp_seq ?_)
   refine zC 2 [.quiet (.int .u64 ((dg k : Nat) : Int)), .quiet (.bool false)] (sB H26) ?ho22 ?he22
   case ho22 => exact ar (ak (by refine fun γ => ⟨rfl, fun w' h => ?_⟩; clear h; go_simp <;> omega) trivial)
   intro γ w27 l hM hl
   have H27 := zQ H26 hM.below
   clear hM hl l H26 γ
   refine rN (wp_cond_false rfl ?_)
   refine wp_skip (zA ?_)
   refine zC 5 [.quiet (.slice (some ⟨gr, 0, none⟩) 1 1), .quiet (.int .i64 0), .quiet (.int .u64 (wo k)), .quiet (.int .u64 (IntKind.u64.wrap (wo k * 2 ^ 4))), .quiet (PT gr 0)] (sB H27) ?ho23 ?he23
   case ho23 => exact ar (ar (ar (ak (fun γ => ⟨rfl, fun w' _ => ex_shl4 rfl rfl rfl⟩) (ag trivial))))
   intro γ w28 l hM hl
   have H28 := zQ H27 hM.below
   clear hM hl l H27 γ
   refine zF (l := [5]) rfl ?_
   refine sH rfl (fun h => ex_storeI h 6 rfl rfl Tryz.sizeOf22 rfl rfl (Nat.le_of_ble_eq_true rfl)) 6 [_, _, _, _, _, _, (_, [Value.int .u64 (IntKind.u64.wrap (wo k * 2 ^ 4))])] H28 (Or.inl rfl) fun w29 H29 => ?_
   clear H28
   refine zE (zH (zA ?_))
   refine zC 1 [.quiet (.int .i64 1)] (sB H29) ?ho24 ?he24
   case ho24 => exact av trivial
   intro γ w30 l hM hl
   have H30 := zQ H29 hM.below
   clear hM hl l H29 γ
   refine zF (l := [1]) rfl ?_
   refine zG (d := 22) rfl rfl rfl rfl ?_
   simp only [Act.put, sa, sz, ss]
   refine zE (zA ?_)
   refine zK (n := 0) ?_
   refine wp_seq ?_
   refine zC 1 [.quiet (.bool false)] (sB H30) ?ho25 ?he25
   case ho25 => exact ag trivial
   intro γ w31 l hM hl
   have H31 := zQ H30 hM.below
   clear hM hl l H30 γ
   refine rN (wp_seq (wp_cond_false rfl ?_))
   refine wp_exit ?_
   repeat refine zY ?_
   refine zT ?_
   refine zH (zA ?_)
   refine zC 1 [.quiet (.int .i64 ((k + 1 : Nat) : Int))] (sB H31) ?ho26 ?he26
   case ho26 => exact ak (by refine fun γ => ⟨rfl, fun w' h => ?_⟩; clear h; go_simp; rw [IntKind.wrap_i64]; omega) trivial
   intro γ w32 l hM hl
   have H32 := zQ H31 hM.below
   clear hM hl l H31 γ
   refine zF (l := [1]) rfl ?_
   refine zG (d := 12) rfl rfl rfl rfl ?_
   simp only [Act.put, sa, sz, ss]
   refine zE (zA ?_)
   exact ⟨k + 1, ⟨(slotfn [ud, ud, ud, ud, ud, ud, ud, ud, ud, .int .i64 0, .int .u64 (wo k), .int .u64 ((dg k : Nat) : Int), ud, .bool true, .int .i64 4, .bool false, .agg (G1 g tn (en u) (en b)).toArray, V [en ((tw (tw (tw (A k)))).1), en ((tw (tw (tw (A k)))).2.1), en ((tw (tw (tw (A k)))).2.2)], V [en ((tw (tw (tw (tw (A k))))).1), en ((tw (tw (tw (tw (A k))))).2.1), en ((tw (tw (tw (tw (A k))))).2.2)], .int .i64 4, .slice (some ⟨gr, 0, none⟩) 1 1, .int .i64 1, .int .i64 1, .bool false, .int .i64 0, PT gr 0, .int .u64 (wo k), .int .u64 (wo k), .int .u64 ((dg k : Nat) : Int), .int .u64 ((dg k : Nat) : Int), .bool false, s0 31, s0 32, s0 33, s0 34, s0 35, s0 36, s0 37, s0 38, s0 39, .slice (some ⟨gr, 0, none⟩) 1 1, .int .i64 0, .int .u64 (wo k), .int .u64 (IntKind.u64.wrap (wo k * 2 ^ 4)), PT gr 0, .int .i64 1, .int .i64 ((k + 1 : Nat) : Int)]), rfl, ⟨(H32.out.1).atk (by rw [HA0.out k hdz, HW.out]), H32.out.2⟩, by omega⟩, by omega⟩
  ·have hrd : True := trivial
   clear hrd
   have hdz := Nat.pos_of_ne_zero hdz
   have hlt : k < 16 := by omega
   refine wp_seq ?_
   refine zC 1 [.quiet (.bool true)] (sB H3) ?ho27 ?he27
   case ho27 => exact ak (by refine fun γ => ⟨rfl, fun w' h => ?_⟩; clear h; go_simp <;> omega) trivial
   intro γ w33 l hM hl
   have H33 := zQ H3 hM.below
   clear hM hl l H3 γ
   refine rN (wp_seq ?_)
   refine wp_cond_true rfl (wp_skip ?_)
   refine zA (wp_seq ?_)
   refine wp_block (wp_seq (wp_seq ?_))
   refine zC 1 [.quiet (.int .i64 0)] (sB H33) ?ho28 ?he28
   case ho28 => exact ar trivial
   intro γ w34 l hM hl
   have H34 := zQ H33 hM.below
   clear hM hl l H33 γ
   refine rN (wp_block ?_)
   refine wp_loop_rounds 5 ?_
   refine zK (n := 4) ?_
   refine wp_seq ?_
   refine zC 1 [.quiet (.bool true)] (sB H34) ?ho29 ?he29
   case ho29 => exact ag trivial
   intro γ w35 l hM hl
   have H35 := zQ H34 hM.below
   clear hM hl l H34 γ
   refine rN (wp_seq ?_)
   refine wp_cond_true rfl (wp_skip ?_)
   refine zA (wp_seq (wp_block ?_))
   refine zC 3 [.quiet (.agg (G1 g tn (en u) (en b)).toArray), .quiet (V [en ((A k).1), en ((A k).2.1), en ((A k).2.2)]), .call (V [en ((tw (A k)).1), en ((tw (A k)).2.1), en ((tw (A k)).2.2)])] (sB H35) ?ho30 ?he30
   case ho30 => exact bT 0 Tryz.isAgg81 Tryz.sizeOf81 (bA 0 3 1 Tryz.isAgg124 Tryz.sizeOf124 (ac (fun w' h => eC call134 (CTW.out (A k) w' (h.two 3 4 rfl rfl (by decide)))) trivial))
   intro γ w36 l hM hl
   have H36 := zQ H35 hM.below
   clear hM hl l H35 γ
   refine zF (l := [3]) rfl ?_
   refine sL 1 [en ((tw (A k)).1), en ((tw (A k)).2.1), en ((tw (A k)).2.2)] [_, _, _, _, _, _, _] H36 o1_1 Tryz.sizeOf124 fun w37 H37 => ?_
   clear H36
   refine zE (zH (zA ?_))
   refine zC 1 [.quiet (.int .i64 1)] (sB H37) ?ho31 ?he31
   case ho31 => exact av trivial
   intro γ w38 l hM hl
   have H38 := zQ H37 hM.below
   clear hM hl l H37 γ
   refine zF (l := [1]) rfl ?_
   refine zG (d := 14) rfl rfl rfl rfl ?_
   simp only [Act.put, sa, sz, ss]
   refine zE (zA ?_)
   refine zK (n := 3) ?_
   refine wp_seq ?_
   refine zC 1 [.quiet (.bool true)] (sB H38) ?ho32 ?he32
   case ho32 => exact ag trivial
   intro γ w39 l hM hl
   have H39 := zQ H38 hM.below
   clear hM hl l H38 γ
   refine rN (wp_seq ?_)
   refine wp_cond_true rfl (wp_skip ?_)
   refine zA (wp_seq (wp_block ?_))
   refine zC 3 [.quiet (.agg (G1 g tn (en u) (en b)).toArray), .quiet (V [en ((tw (A k)).1), en ((tw (A k)).2.1), en ((tw (A k)).2.2)]), .call (V [en ((tw (tw (A k))).1), en ((tw (tw (A k))).2.1), en ((tw (tw (A k))).2.2)])] (sB H39) ?ho33 ?he33
   case ho33 => exact bT 0 Tryz.isAgg81 Tryz.sizeOf81 (bA 0 3 1 Tryz.isAgg124 Tryz.sizeOf124 (ac (fun w' h => eC call134 (CTW.out (tw (A k)) w' (h.two 3 4 rfl rfl (by decide)))) trivial))
   intro γ w40 l hM hl
   have H40 := zQ H39 hM.below
   clear hM hl l H39 γ
   refine zF (l := [3]) rfl ?_
   refine sL 1 [en ((tw (tw (A k))).1), en ((tw (tw (A k))).2.1), en ((tw (tw (A k))).2.2)] [_, _, _, _, _, _, _] H40 o1_1 Tryz.sizeOf124 fun w41 H41 => ?_
   clear H40
   refine zE (zH (zA ?_))
   refine zC 1 [.quiet (.int .i64 2)] (sB H41) ?ho34 ?he34
   case ho34 => exact av trivial
   intro γ w42 l hM hl
   have H42 := zQ H41 hM.below
   clear hM hl l H41 γ
   refine zF (l := [1]) rfl ?_
   refine zG (d := 14) rfl rfl rfl rfl ?_
   simp only [Act.put, sa, sz, ss]
   refine zE (zA ?_)
   refine zK (n := 2) ?_
   refine wp_seq ?_
   refine zC 1 [.quiet (.bool true)] (sB H42) ?ho35 ?he35
   case ho35 => exact ag trivial
   intro γ w43 l hM hl
   have H43 := zQ H42 hM.below
   clear hM hl l H42 γ
   refine rN (wp_seq ?_)
   refine wp_cond_true rfl (wp_skip ?_)
   refine zA (wp_seq (wp_block ?_))
   refine zC 3 [.quiet (.agg (G1 g tn (en u) (en b)).toArray), .quiet (V [en ((tw (tw (A k))).1), en ((tw (tw (A k))).2.1), en ((tw (tw (A k))).2.2)]), .call (V [en ((tw (tw (tw (A k)))).1), en ((tw (tw (tw (A k)))).2.1), en ((tw (tw (tw (A k)))).2.2)])] (sB H43) ?ho36 ?he36
   case ho36 => exact bT 0 Tryz.isAgg81 Tryz.sizeOf81 (bA 0 3 1 Tryz.isAgg124 Tryz.sizeOf124 (ac (fun w' h => eC call134 (CTW.out (tw (tw (A k))) w' (h.two 3 4 rfl rfl (by decide)))) trivial))
   intro γ w44 l hM hl
   have H44 := zQ H43 hM.below
   clear hM hl l H43 γ
   refine zF (l := [3]) rfl ?_
   refine sL 1 [en ((tw (tw (tw (A k)))).1), en ((tw (tw (tw (A k)))).2.1), en ((tw (tw (tw (A k)))).2.2)] [_, _, _, _, _, _, _] H44 o1_1 Tryz.sizeOf124 fun w45 H45 => ?_
   clear H44
   refine zE (zH (zA ?_))
   refine zC 1 [.quiet (.int .i64 3)] (sB H45) ?ho37 ?he37
   case ho37 => exact av trivial
   intro γ w46 l hM hl
   have H46 := zQ H45 hM.below
   clear hM hl l H45 γ
   refine zF (l := [1]) rfl ?_
   refine zG (d := 14) rfl rfl rfl rfl ?_
   simp only [Act.put, sa, sz, ss]
   refine zE (zA ?_)
   refine zK (n := 1) ?_
   refine wp_seq ?_
   refine zC 1 [.quiet (.bool true)] (sB H46) ?ho38 ?he38
   case ho38 => exact ag trivial
   intro γ w47 l hM hl
   have H47 := zQ H46 hM.below
   clear hM hl l H46 γ
   refine rN (wp_seq ?_)
   refine wp_cond_true rfl (wp_skip ?_)
   refine zA (wp_seq (wp_block ?_))
   refine zC 3 [.quiet (.agg (G1 g tn (en u) (en b)).toArray), .quiet (V [en ((tw (tw (tw (A k)))).1), en ((tw (tw (tw (A k)))).2.1), en ((tw (tw (tw (A k)))).2.2)]), .call (V [en ((tw (tw (tw (tw (A k))))).1), en ((tw (tw (tw (tw (A k))))).2.1), en ((tw (tw (tw (tw (A k))))).2.2)])] (sB H47) ?ho39 ?he39
   case ho39 => exact bT 0 Tryz.isAgg81 Tryz.sizeOf81 (bA 0 3 1 Tryz.isAgg124 Tryz.sizeOf124 (ac (fun w' h => eC call134 (CTW.out (tw (tw (tw (A k)))) w' (h.two 3 4 rfl rfl (by decide)))) trivial))
   intro γ w48 l hM hl
   have H48 := zQ H47 hM.below
   clear hM hl l H47 γ
   refine zF (l := [3]) rfl ?_
   refine sL 1 [en ((tw (tw (tw (tw (A k))))).1), en ((tw (tw (tw (tw (A k))))).2.1), en ((tw (tw (tw (tw (A k))))).2.2)] [_, _, _, _, _, _, _] H48 o1_1 Tryz.sizeOf124 fun w49 H49 => ?_
   clear H48
   refine zE (zH (zA ?_))
   refine zC 1 [.quiet (.int .i64 4)] (sB H49) ?ho40 ?he40
   case ho40 => exact av trivial
   intro γ w50 l hM hl
   have H50 := zQ H49 hM.below
   clear hM hl l H49 γ
   refine zF (l := [1]) rfl ?_
   refine zG (d := 14) rfl rfl rfl rfl ?_
   simp only [Act.put, sa, sz, ss]
   refine zE (zA ?_)
   refine zK (n := 0) ?_
   refine wp_seq ?_
   refine zC 1 [.quiet (.bool false)] (sB H50) ?ho41 ?he41
   case ho41 => exact ag trivial
   intro γ w51 l hM hl
   have H51 := zQ H50 hM.below
   clear hM hl l H50 γ
   refine rN (wp_seq (wp_cond_false rfl ?_))
   refine wp_exit ?_
   repeat refine zY ?_
   refine zT ?_
   refine zA (wp_seq ?_)
   refine zC 3 [.quiet (.slice (some ⟨gr, 0, none⟩) 1 1), .quiet (.int .i64 1), .quiet (.int .i64 0)] (sB H51) ?ho42 ?he42
   case ho42 => exact ar (ag (ar trivial))
   intro γ w52 l hM hl
   have H52 := zQ H51 hM.below
   clear hM hl l H51 γ
   refine rN (wp_block ?_)
   refine wp_loop_rounds 2 ?_
   refine zK (n := 1) ?_
   refine wp_seq ?_
   refine zC 1 [.quiet (.bool true)] (sB H52) ?ho43 ?he43
   case ho43 => exact ag trivial
   intro γ w53 l hM hl
   have H53 := zQ H52 hM.below
   clear hM hl l H52 γ
   refine rN (wp_seq ?_)
   refine wp_cond_true rfl (wp_skip ?_)
   refine zA (wp_seq ?_)
   refine wp_block (wp_seq ?_)
   refine zC 5 [.quiet (.int .i64 0), .quiet (PT gr 0), .quiet (.int .u64 (wo k)), .quiet (.int .i64 0), .quiet (.int .u64 (wo k))] (sB H53) ?ho44 ?he44
   case ho44 => exact ar (ag (bC 6 Tryz.isAgg22 (ar (ar trivial))))
   intro γ w54 l hM hl
   have H54 := zQ H53 hM.below
   clear hM hl l H53 γ
   refine rN (wp_seq (wp_seq ?_))
   refine zC 3 [.quiet (.int .u64 (wo k)), .quiet (.int .u64 ((dg k : Nat) : Int)), .quiet (.int .u64 ((dg k : Nat) : Int))] (sB H54) ?ho45 ?he45
   case ho45 => exact ar (ak (fun γ => ⟨rfl, fun w' _ => by rw [← HD.out k]; exact ex_shr60 rfl rfl rfl⟩) (ar trivial))
   intro γ w55 l hM hl
   have H55 := zQ H54 hM.below
   clear hM hl l H54 γ
   refine rN (wp_seq ?_)
   refine zC 2 [.quiet (.int .u64 ((dg k : Nat) : Int)), .quiet (.bool true)] (sB H55) ?ho46 ?he46
   case ho46 => exact ar (ak (by refine fun γ => ⟨rfl, fun w' h => ?_⟩; clear h; go_simp <;> omega) trivial)
   intro γ w56 l hM hl
   have H56 := zQ H55 hM.below
   clear hM hl l H55 γ
   refine rN (wp_cond_true rfl ?_)
   refine zS 9 [.quiet (.agg (G1 g tn (en u) (en b)).toArray), .quiet (V [en ((tw (tw (tw (tw (A k))))).1), en ((tw (tw (tw (tw (A k))))).2.1), en ((tw (tw (tw (tw (A k))))).2.2)]), .quiet (.slice (some ⟨gt, 0, none⟩) 1 1), .quiet (.int .i64 0), .quiet (.int .u64 ((dg k : Nat) : Int)), .quiet (PT gt 0), .quiet (PT gt (6 * (3 * (dg k)))), .quiet (V [f (3 * dg k), f (3 * dg k + 1), f (3 * dg k + 2)]), .call (V [en ((tg (tw (tw (tw (tw (A k))))) (dg k)).1), en ((tg (tw (tw (tw (tw (A k))))) (dg k)).2.1), en ((tg (tw (tw (tw (tw (A k))))) (dg k)).2.2)])] (sB H56) ?ho47 ?he47
   case ho47 => exact bT 0 Tryz.isAgg81 Tryz.sizeOf81 (bA 0 3 1 Tryz.isAgg124 Tryz.sizeOf124 (ar (ar (ar (ag (ak (fun γ => ⟨rfl, fun w' _ => ex_idxTB1 rfl rfl rfl (HDL.out _)⟩) (aq (fun w' h => ex_loadA (i := 3 * (dg k)) (k := 3) h 5 rfl rfl rfl Tryz.isAgg124 Tryz.sizeOf124 (tb1_ld f (HDL.out k)) rfl) (ac (fun w' h => eC call94 (CTG.out (tw (tw (tw (tw (A k))))) _ (HDL.out k) w' (h.two 3 4 rfl rfl (by decide)))) trivial))))))))
   intro γ w57 l hM hl
   have H57 := zQ H56 hM.below
   clear hM hl l H56 γ
   refine zF (l := [9]) rfl ?_
   refine sL 1 [en ((tg (tw (tw (tw (tw (A k))))) (dg k)).1), en ((tg (tw (tw (tw (tw (A k))))) (dg k)).2.1), en ((tg (tw (tw (tw (tw (A k))))) (dg k)).2.2)] [_, _, _, _, _, _, _] H57 o1_1 Tryz.sizeOf124 fun w58 H58 => ?_
   clear H57
   refine zE (zA ?_)
   refine zC 5 [.quiet (.slice (some ⟨gr, 0, none⟩) 1 1), .quiet (.int .i64 0), .quiet (.int .u64 (wo k)), .quiet (.int .u64 (IntKind.u64.wrap (wo k * 2 ^ 4))), .quiet (PT gr 0)] (sB H58) ?ho48 ?he48
   case ho48 => exact ar (ar (ar (ak (fun γ => ⟨rfl, fun w' _ => ex_shl4 rfl rfl rfl⟩) (ag trivial))))
   intro γ w59 l hM hl
   have H59 := zQ H58 hM.below
   clear hM hl l H58 γ
   refine zF (l := [5]) rfl ?_
   refine sH rfl (fun h => ex_storeI h 6 rfl rfl Tryz.sizeOf22 rfl rfl (Nat.le_of_ble_eq_true rfl)) 6 [_, _, _, _, _, _, (_, [Value.int .u64 (IntKind.u64.wrap (wo k * 2 ^ 4))])] H59 (Or.inl rfl) fun w60 H60 => ?_
   clear H59
   refine zE (zH (zA ?_))
   refine zC 1 [.quiet (.int .i64 1)] (sB H60) ?ho49 ?he49
   case ho49 => exact av trivial
   intro γ w61 l hM hl
   have H61 := zQ H60 hM.below
   clear hM hl l H60 γ
   refine zF (l := [1]) rfl ?_
   refine zG (d := 22) rfl rfl rfl rfl ?_
   simp only [Act.put, sa, sz, ss]
   refine zE (zA ?_)
   refine zK (n := 0) ?_
   refine wp_seq ?_
   refine zC 1 [.quiet (.bool false)] (sB H61) ?ho50 ?he50
   case ho50 => exact ag trivial
   intro γ w62 l hM hl
   have H62 := zQ H61 hM.below
   clear hM hl l H61 γ
   refine rN (wp_seq (wp_cond_false rfl ?_))
   refine wp_exit ?_
   repeat refine zY ?_
   refine zT ?_
   refine zH (zA ?_)
   refine zC 1 [.quiet (.int .i64 ((k + 1 : Nat) : Int))] (sB H62) ?ho51 ?he51
   case ho51 => exact ak (by refine fun γ => ⟨rfl, fun w' h => ?_⟩; clear h; go_simp; rw [IntKind.wrap_i64]; omega) trivial
   intro γ w63 l hM hl
   have H63 := zQ H62 hM.below
   clear hM hl l H62 γ
   refine zF (l := [1]) rfl ?_
   refine zG (d := 12) rfl rfl rfl rfl ?_
   simp only [Act.put, sa, sz, ss]
   refine zE (zA ?_)
   exact ⟨k + 1, ⟨(slotfn [ud, ud, ud, ud, ud, ud, ud, ud, ud, .int .i64 0, .int .u64 (wo k), .int .u64 ((dg k : Nat) : Int), ud, .bool true, .int .i64 4, .bool false, .agg (G1 g tn (en u) (en b)).toArray, V [en ((tw (tw (tw (A k)))).1), en ((tw (tw (tw (A k)))).2.1), en ((tw (tw (tw (A k)))).2.2)], V [en ((tw (tw (tw (tw (A k))))).1), en ((tw (tw (tw (tw (A k))))).2.1), en ((tw (tw (tw (tw (A k))))).2.2)], .int .i64 4, .slice (some ⟨gr, 0, none⟩) 1 1, .int .i64 1, .int .i64 1, .bool false, .int .i64 0, PT gr 0, .int .u64 (wo k), .int .u64 (wo k), .int .u64 ((dg k : Nat) : Int), .int .u64 ((dg k : Nat) : Int), .bool true, .agg (G1 g tn (en u) (en b)).toArray, V [en ((tw (tw (tw (tw (A k))))).1), en ((tw (tw (tw (tw (A k))))).2.1), en ((tw (tw (tw (tw (A k))))).2.2)], .slice (some ⟨gt, 0, none⟩) 1 1, .int .i64 0, .int .u64 ((dg k : Nat) : Int), PT gt 0, PT gt (6 * (3 * (dg k))), V [f (3 * dg k), f (3 * dg k + 1), f (3 * dg k + 2)], V [en ((tg (tw (tw (tw (tw (A k))))) (dg k)).1), en ((tg (tw (tw (tw (tw (A k))))) (dg k)).2.1), en ((tg (tw (tw (tw (tw (A k))))) (dg k)).2.2)], .slice (some ⟨gr, 0, none⟩) 1 1, .int .i64 0, .int .u64 (wo k), .int .u64 (IntKind.u64.wrap (wo k * 2 ^ 4)), PT gr 0, .int .i64 1, .int .i64 ((k + 1 : Nat) : Int)]), rfl, ⟨(H63.out.1).atk (by rw [HA1.out k hdz, HW.out]), H63.out.2⟩, by omega⟩, by omega⟩
 have hk16 : k = 16 := by omega
 subst hk16
 refine wp_seq ?_
 refine zC 1 [.quiet (.bool false)] (sB H3) ?ho52 ?he52
 case ho52 => exact ak (by refine fun γ => ⟨rfl, fun w' h => ?_⟩; clear h; go_simp <;> omega) trivial
 intro γ w64 l hM hl
 have H64 := zQ H3 hM.below
 clear hM hl l H3 γ
 refine rN (wp_seq (wp_cond_false rfl ?_))
 refine wp_exit ?_
 repeat refine zY ?_
 refine zT ?_
 refine zA (wp_seq ?_)
 refine zC 1 [.quiet (V [en ((A 16).1), en ((A 16).2.1), en ((A 16).2.2)])] (sB H64) ?ho53 ?he53
 case ho53 => exact bA 0 3 1 Tryz.isAgg124 Tryz.sizeOf124 trivial
 intro γ w65 l hM hl
 have H65 := zQ H64 hM.below
 clear hM hl l H64 γ
 refine zF (l := [1]) rfl ?_
 refine sL 2 [en ((A 16).1), en ((A 16).2.1), en ((A 16).2.2)] [_, _, _, _, _, _, _] H65 o1_2 Tryz.sizeOf124 fun w66 H66 => ?_
 clear H65
 refine zE (zA (wp_ret ?_))
 repeat (first | refine zM ?_ | refine zI ?_)
 have hf0 := cel_var (k := 3) H66.out.1 2 rfl Tryz.isAgg124 Tryz.sizeOf124 rfl
 refine bodyPost_ret (v := V [en ((A 16).1), en ((A 16).2.1), en ((A 16).2.2)]) (by simp [results, Tryz.results153, asAddr, hf0]) rfl ?_
 exact ⟨rfl, H66.out.1.one 6 rfl, H66.out.2⟩
theorem ex_bs63 {ρ : Operand → Value} {o : Oper} {x : Operand} {a b : Nat} {z : Bool} {w : World} (ho : o.op = .buildSlice 63 1 #[(0, x)]) (hx : ρ x = .agg (cel [a, b] ++ [Value.bool z]).toArray) :
  (execOp ρ o).run Tryz.prog w = .ok (.value (.slice (some ⟨w.heap.size, 0, none⟩) 1 1)) (w.alloc (.cells (cel [a, b] ++ [Value.bool z] : List Value).toArray 26)) := by
 simp only [execOp, ho, List.map_toArray, List.map_cons, List.map_nil, hx]
 kernel_rfl
theorem ex_bs64 {ρ : Operand → Value} {o : Oper} {x : Operand} {a b c d : Nat} {z : Bool} {w : World} (ho : o.op = .buildSlice 64 1 #[(0, x)]) (hx : ρ x = .agg (cel [a, b, c, d] ++ [Value.bool z]).toArray) :
  (execOp ρ o).run Tryz.prog w = .ok (.value (.slice (some ⟨w.heap.size, 0, none⟩) 1 1)) (w.alloc (.cells (cel [a, b, c, d] ++ [Value.bool z] : List Value).toArray 42)) := by
 simp only [execOp, ho, List.map_toArray, List.map_cons, List.map_nil, hx]
 kernel_rfl
theorem ex_bs65 {ρ : Operand → Value} {o : Oper} {x : Operand} {a : Nat} {w : World} (ho : o.op = .buildSlice 65 1 #[(0, x)]) (hx : ρ x = N a) :
  (execOp ρ o).run Tryz.prog w = .ok (.value (.slice (some ⟨w.heap.size, 0, none⟩) 1 1)) (w.alloc (.cells (zD a : List Value).toArray 24)) := by
 simp only [execOp, ho, List.map_toArray, List.map_cons, List.map_nil, hx]
 kernel_rfl
set_option maxHeartbeats 8000000 in
theorem some_1 {α : Type} {en : α → Nat} {fa fs fm : α → α → α} {fi : α → α} {z u b : α} {g : Nat} {tn : Value} (_C : Fd1 g en fa fs fm fi z) (f : Nat → Nat) (S : Nat → EC.Tri α) (x y nn gp gn : Nat) (zb : Bool) (cz : ∀ w, Mm w [(g, yB pB), (0, dtab)] → Calls Tryz.prog 117 #[.agg (G1 g tn (en u) (en b)).toArray] w (Rt w (V [en ((S 0).1), en ((S 0).2.1), en ((S 0).2.2)]))) (ct : ∀ w, Mm w [(g, yB pB), (0, dtab)] → Calls Tryz.prog 152 #[.agg (G1 g tn (en u) (en b)).toArray, .agg (zU x y zb).toArray] w (Rt w (V (tb1 f)))) (c0 : ∀ gt gr w, Mm w [(g, yB pB), (0, dtab), (gt, cel (tb1 f)), (gr, [Value.int .u64 (wd nn 5)])] → Calls Tryz.prog 153 #[.agg (G1 g tn (en u) (en b)).toArray, V [en ((S 0).1), en ((S 0).2.1), en ((S 0).2.2)], .slice (some ⟨gt, 0, none⟩) 1 1, .slice (some ⟨gr, 0, none⟩) 1 1] w fun e w' => e = .returned (V [en ((S 1).1), en ((S 1).2.1), en ((S 1).2.2)]) ∧ Mm w' [(gr, [Value.int .u64 0])] ∧ Kp gr w w') (c1 : ∀ gt gr w, Mm w [(g, yB pB), (0, dtab), (gt, cel (tb1 f)), (gr, [Value.int .u64 (wd nn 4)])] → Calls Tryz.prog 153 #[.agg (G1 g tn (en u) (en b)).toArray, V [en ((S 1).1), en ((S 1).2.1), en ((S 1).2.2)], .slice (some ⟨gt, 0, none⟩) 1 1, .slice (some ⟨gr, 0, none⟩) 1 1] w fun e w' => e = .returned (V [en ((S 2).1), en ((S 2).2.1), en ((S 2).2.2)]) ∧ Mm w' [(gr, [Value.int .u64 0])] ∧ Kp gr w w') (c2 : ∀ gt gr w, Mm w [(g, yB pB), (0, dtab), (gt, cel (tb1 f)), (gr, [Value.int .u64 (wd nn 3)])] → Calls Tryz.prog 153 #[.agg (G1 g tn (en u) (en b)).toArray, V [en ((S 2).1), en ((S 2).2.1), en ((S 2).2.2)], .slice (some ⟨gt, 0, none⟩) 1 1, .slice (some ⟨gr, 0, none⟩) 1 1] w fun e w' => e = .returned (V [en ((S 3).1), en ((S 3).2.1), en ((S 3).2.2)]) ∧ Mm w' [(gr, [Value.int .u64 0])] ∧ Kp gr w w') (c3 : ∀ gt gr w, Mm w [(g, yB pB), (0, dtab), (gt, cel (tb1 f)), (gr, [Value.int .u64 (wd nn 2)])] → Calls Tryz.prog 153 #[.agg (G1 g tn (en u) (en b)).toArray, V [en ((S 3).1), en ((S 3).2.1), en ((S 3).2.2)], .slice (some ⟨gt, 0, none⟩) 1 1, .slice (some ⟨gr, 0, none⟩) 1 1] w fun e w' => e = .returned (V [en ((S 4).1), en ((S 4).2.1), en ((S 4).2.2)]) ∧ Mm w' [(gr, [Value.int .u64 0])] ∧ Kp gr w w') (c4 : ∀ gt gr w, Mm w [(g, yB pB), (0, dtab), (gt, cel (tb1 f)), (gr, [Value.int .u64 (wd nn 1)])] → Calls Tryz.prog 153 #[.agg (G1 g tn (en u) (en b)).toArray, V [en ((S 4).1), en ((S 4).2.1), en ((S 4).2.2)], .slice (some ⟨gt, 0, none⟩) 1 1, .slice (some ⟨gr, 0, none⟩) 1 1] w fun e w' => e = .returned (V [en ((S 5).1), en ((S 5).2.1), en ((S 5).2.2)]) ∧ Mm w' [(gr, [Value.int .u64 0])] ∧ Kp gr w w') (c5 : ∀ gt gr w, Mm w [(g, yB pB), (0, dtab), (gt, cel (tb1 f)), (gr, [Value.int .u64 (wd nn 0)])] → Calls Tryz.prog 153 #[.agg (G1 g tn (en u) (en b)).toArray, V [en ((S 5).1), en ((S 5).2.1), en ((S 5).2.2)], .slice (some ⟨gt, 0, none⟩) 1 1, .slice (some ⟨gr, 0, none⟩) 1 1] w fun e w' => e = .returned (V [en ((S 6).1), en ((S 6).2.1), en ((S 6).2.2)]) ∧ Mm w' [(gr, [Value.int .u64 0])] ∧ Kp gr w w') (w : World) (hm : Mm w [(g, yB pB), (0, dtab), (gp, zU x y zb), (gn, zD nn)]) :
  Calls Tryz.prog 118 #[.agg (G1 g tn (en u) (en b)).toArray, .slice (some ⟨gp, 0, none⟩) 1 1, .slice (some ⟨gn, 0, none⟩) 1 1] w (Rt w (V [en ((S 6).1), en ((S 6).2.1), en ((S 6).2.2)])) := by
 have H0 : Hid (_ ∧ _) := ⟨hm, Below.refl w.heap.size w⟩
 clear hm
 have CZ : Hid _ := cz
 clear cz
 have CT : Hid _ := ct
 clear ct
 have C0 : Hid _ := c0
 clear c0
 have C1 : Hid _ := c1
 clear c1
 have C2 : Hid _ := c2
 clear c2
 have C3 : Hid _ := c3
 clear c3
 have C4 : Hid _ := c4
 clear c4
 have C5 : Hid _ := c5
 clear c5
 go_enter Tryz.func118, Tryz.ntmps118
 refine wp_seq ?_
 refine zC 2 [.made (G1 g tn (en u) (en b)) 81, .made (cel [0, 0, 0]) 124] (sB H0) ?ho1 ?he1
 case ho1 => exact am (zW rfl rfl) (am (ex_madeTN rfl) trivial)
 intro γ w1 l hM hl
 have H1 : Hid (Mm w1 ([(γ 0, G1 g tn (en u) (en b)), (γ 1, cel [0, 0, 0])] ++ _) ∧ _) := wB H0 hM hl [0, 1]
 have o1_0 := vB H0 hM hl 0
 have o1_1 := vB H0 hM hl 1
 clear hM hl l
 generalize γ 0 = γ1_0 at H1 o1_0 ⊢
 generalize γ 1 = γ1_1 at H1 o1_1 ⊢
 clear γ
 refine rN (wp_seq ?_)
 refine zB 2 [.quiet (.slice (some ⟨gp, 0, none⟩) 1 1), .quiet (.int .i64 1)] H1 ?ho2 ?he2
 case ho2 => exact ar (ag trivial)
 intro _ w2 H2
 clear H1
 refine zF (l := [2, 3]) rfl ?_
 refine zG (d := 16) (v := .slice (some ⟨w2.heap.size, 0, none⟩) 1 1) (w' := w2.alloc (.cells (cel [0, 0, 0, 0, 0, 0, 0, 0, 0, 0, 0, 0, 0, 0, 0, 0, 0, 0, 0, 0, 0, 0, 0, 0, 0, 0, 0, 0, 0, 0, 0, 0, 0, 0, 0, 0, 0, 0, 0, 0, 0, 0, 0, 0, 0, 0, 0, 0] : List Value).toArray 173)) rfl rfl rfl (ex_mkTN rfl rfl rfl) ?_
 simp only [Act.put, sa, sz, ss]
 have o_γs3 : Hid (w.heap.size ≤ w2.heap.size) := H2.out.2.size
 have H3 : Hid (Mm (w2.alloc (.cells (cel [0, 0, 0, 0, 0, 0, 0, 0, 0, 0, 0, 0, 0, 0, 0, 0, 0, 0, 0, 0, 0, 0, 0, 0, 0, 0, 0, 0, 0, 0, 0, 0, 0, 0, 0, 0, 0, 0, 0, 0, 0, 0, 0, 0, 0, 0, 0, 0] : List Value).toArray 173)) ((w2.heap.size, cel [0, 0, 0, 0, 0, 0, 0, 0, 0, 0, 0, 0, 0, 0, 0, 0, 0, 0, 0, 0, 0, 0, 0, 0, 0, 0, 0, 0, 0, 0, 0, 0, 0, 0, 0, 0, 0, 0, 0, 0, 0, 0, 0, 0, 0, 0, 0, 0]) :: [(γ1_0, G1 g tn (en u) (en b)), (γ1_1, cel [0, 0, 0]), (g, yB pB), (0, dtab), (gp, zU x y zb), (gn, zD nn)]) ∧ Below w.heap.size w (w2.alloc (.cells (cel [0, 0, 0, 0, 0, 0, 0, 0, 0, 0, 0, 0, 0, 0, 0, 0, 0, 0, 0, 0, 0, 0, 0, 0, 0, 0, 0, 0, 0, 0, 0, 0, 0, 0, 0, 0, 0, 0, 0, 0, 0, 0, 0, 0, 0, 0, 0, 0] : List Value).toArray 173))) := ⟨H2.out.1.alloc _ 173 rfl, H2.out.2.alloc H2.out.2.size _⟩
 clear H2
 generalize hgw : w2.alloc (.cells (cel [0, 0, 0, 0, 0, 0, 0, 0, 0, 0, 0, 0, 0, 0, 0, 0, 0, 0, 0, 0, 0, 0, 0, 0, 0, 0, 0, 0, 0, 0, 0, 0, 0, 0, 0, 0, 0, 0, 0, 0, 0, 0, 0, 0, 0, 0, 0, 0] : List Value).toArray 173) = w3 at H3 ⊢
 clear hgw
 generalize w2.heap.size = γs3 at o_γs3 H3 ⊢
 refine zG (d := 7) rfl rfl rfl rfl ?_
 simp only [Act.put, sa, sz, ss]
 refine zE (zA ?_)
 refine wp_seq (wp_seq ?_)
 refine zB 3 [.quiet (.slice (some ⟨gp, 0, none⟩) 1 1), .quiet (.int .i64 1), .quiet (.int .i64 0)] H3 ?ho3 ?he3
 case ho3 => exact ar (ag (ar trivial))
 intro _ w4 H4
 clear H3
 refine rN (wp_block ?_)
 refine wp_loop_rounds 2 ?_
 refine zK (n := 1) ?_
 refine wp_seq ?_
 refine zB 1 [.quiet (.bool true)] H4 ?ho4 ?he4
 case ho4 => exact ag trivial
 intro _ w5 H5
 clear H4
 refine rN (wp_seq ?_)
 refine wp_cond_true rfl (wp_skip ?_)
 refine zA (wp_seq ?_)
 refine wp_block (wp_seq ?_)
 refine zC 6 [.quiet (.int .i64 0), .quiet (PT gp 0), .quiet (.agg (zU x y zb).toArray), .made (zU 0 0 false) 84, .quiet (.int .i64 0), .laid 3 (zU 0 0 false) (zU x y zb)] (sB H5) ?ho5 ?he5 (hL := ?hL5)
 case hL5 => exact ⟨⟨_, rfl⟩, trivial⟩
 case ho5 => exact ar (ag (bT 5 Tryz.isAgg84 Tryz.sizeOf84 (am (ex_madePN rfl) (ar (ak (fun γ => ⟨rfl, rfl, rfl, fun w' h => ex_laidT h rfl rfl Tryz.sizeOf84 rfl rfl rfl⟩) trivial)))))
 intro γ w6 l hM hl
 have H6 : Hid (Mm w6 ([(γ 3, zU x y zb)] ++ _) ∧ _) := wB H5 hM hl [3]
 have o5_3 := vB H5 hM hl 3
 clear hM hl l H5
 generalize γ 3 = γ5_3 at H6 o5_3 ⊢
 clear γ
 refine rN ?_
 refine zB 6 [.quiet (.slice (some ⟨γs3, 0, none⟩) 1 1), .quiet (.int .i64 0), .quiet (.agg (G1 g tn (en u) (en b)).toArray), .quiet (.agg (zU x y zb).toArray), .call (V (tb1 f)), .quiet (PT γs3 0)] H6 ?ho6 ?he6
 case ho6 => exact ar (ar (bT 2 Tryz.isAgg81 Tryz.sizeOf81 (bT 0 Tryz.isAgg84 Tryz.sizeOf84 (ac (fun w' h => eC call152 (CT.out w' (h.two 4 5 rfl rfl (by decide)))) (ag trivial)))))
 intro _ w7 H7
 clear H6
 refine zF (l := [6]) rfl ?_
 refine sA 1 0 [f 0, f 1, f 2, f 3, f 4, f 5, f 6, f 7, f 8, f 9, f 10, f 11, f 12, f 13, f 14, f 15, f 16, f 17, f 18, f 19, f 20, f 21, f 22, f 23, f 24, f 25, f 26, f 27, f 28, f 29, f 30, f 31, f 32, f 33, f 34, f 35, f 36, f 37, f 38, f 39, f 40, f 41, f 42, f 43, f 44, f 45, f 46, f 47] [_, (_, cel (tb1 f)), _, _, _, _, _, _] H7 o_γs3 Tryz.sizeOf173 fun w8 H8 => ?_
 clear H7
 refine zE (zH (zA ?_))
 refine zB 1 [.quiet (.int .i64 1)] H8 ?ho7 ?he7
 case ho7 => exact av trivial
 intro _ w9 H9
 clear H8
 refine zF (l := [1]) rfl ?_
 refine zG (d := 19) rfl rfl rfl rfl ?_
 simp only [Act.put, sa, sz, ss]
 refine zE (zA ?_)
 refine zK (n := 0) ?_
 refine wp_seq ?_
 refine zB 1 [.quiet (.bool false)] H9 ?ho8 ?he8
 case ho8 => exact ag trivial
 intro _ w10 H10
 clear H9
 refine rN (wp_seq (wp_cond_false rfl ?_))
 refine wp_exit ?_
 repeat refine zY ?_
 refine zT ?_
 refine zA (wp_seq ?_)
 refine zC 4 [.quiet (.agg (G1 g tn (en u) (en b)).toArray), .call (V [en ((S 0).1), en ((S 0).2.1), en ((S 0).2.2)]), .made (cel [0, 0, 0]) 124, .laid 2 (cel [0, 0, 0]) (cel [en ((S 0).1), en ((S 0).2.1), en ((S 0).2.2)])] (sB H10) ?ho9 ?he9 (hL := ?hL9)
 case hL9 => exact ⟨⟨_, rfl⟩, trivial⟩
 case ho9 => exact bT 2 Tryz.isAgg81 Tryz.sizeOf81 (ac (fun w' h => eC call117 (CZ.out w' (h.two 4 5 rfl rfl (by decide)))) (am (ex_madeTN rfl) (ak (fun γ => ⟨rfl, rfl, rfl, fun w' h => ex_laidA h rfl Tryz.sizeOf124 rfl rfl rfl⟩) trivial)))
 intro γ w11 l hM hl
 have H11 : Hid (Mm w11 ([(γ 2, cel [en ((S 0).1), en ((S 0).2.1), en ((S 0).2.2)])] ++ _) ∧ _) := wB H10 hM hl [2]
 have o9_2 := vB H10 hM hl 2
 clear hM hl l H10
 generalize γ 2 = γ9_2 at H11 o9_2 ⊢
 clear γ
 refine rN (wp_seq ?_)
 refine zB 2 [.quiet (.slice (some ⟨gn, 0, none⟩) 1 1), .quiet (.int .i64 1)] H11 ?ho10 ?he10
 case ho10 => exact ar (ag trivial)
 intro _ w12 H12
 clear H11
 refine zF (l := [2, 3]) rfl ?_
 refine zG (d := 35) (v := .slice (some ⟨w12.heap.size, 0, none⟩) 1 1) (w' := w12.alloc (.cells ([Value.int .u64 0] : List Value).toArray 22)) rfl rfl rfl (ex_mkU rfl rfl rfl) ?_
 simp only [Act.put, sa, sz, ss]
 have o_γs13 : Hid (w.heap.size ≤ w12.heap.size) := H12.out.2.size
 have H13 : Hid (Mm (w12.alloc (.cells ([Value.int .u64 0] : List Value).toArray 22)) ((w12.heap.size, [Value.int .u64 0]) :: [(γ9_2, cel [en ((S 0).1), en ((S 0).2.1), en ((S 0).2.2)]), (γ5_3, zU x y zb), (γs3, cel (tb1 f)), (γ1_0, G1 g tn (en u) (en b)), (γ1_1, cel [0, 0, 0]), (g, yB pB), (0, dtab), (gp, zU x y zb), (gn, zD nn)]) ∧ Below w.heap.size w (w12.alloc (.cells ([Value.int .u64 0] : List Value).toArray 22))) := ⟨H12.out.1.alloc _ 22 rfl, H12.out.2.alloc H12.out.2.size _⟩
 clear H12
 generalize hgw : w12.alloc (.cells ([Value.int .u64 0] : List Value).toArray 22) = w13 at H13 ⊢
 clear hgw
 generalize w12.heap.size = γs13 at o_γs13 H13 ⊢
 refine zG (d := 11) rfl rfl rfl rfl ?_
 simp only [Act.put, sa, sz, ss]
 refine zE (zA ?_)
 refine wp_seq (wp_seq ?_)
 refine zB 1 [.quiet (.int .i64 5)] H13 ?ho11 ?he11
 case ho11 => exact ar trivial
 intro _ w14 H14
 clear H13
 refine rN (wp_block ?_)
 refine wp_loop_rounds 7 ?_
 refine zK (n := 6) ?_
 refine wp_seq (wp_seq ?_)
 refine zB 2 [.quiet (.int .i64 5), .quiet (.bool true)] H14 ?ho12 ?he12
 case ho12 => exact ar (ag trivial)
 intro _ w15 H15
 clear H14
 refine rN (wp_cond_true rfl ?_)
 refine wp_skip (zA ?_)
 refine wp_seq (wp_block ?_)
 refine wp_seq (wp_seq ?_)
 refine zB 3 [.quiet (.slice (some ⟨gn, 0, none⟩) 1 1), .quiet (.int .i64 1), .quiet (.int .i64 0)] H15 ?ho13 ?he13
 case ho13 => exact ar (ag (ar trivial))
 intro _ w16 H16
 clear H15
 refine rN (wp_block ?_)
 refine wp_loop_rounds 2 ?_
 refine zK (n := 1) ?_
 refine wp_seq ?_
 refine zB 1 [.quiet (.bool true)] H16 ?ho14 ?he14
 case ho14 => exact ag trivial
 intro _ w17 H17
 clear H16
 refine rN (wp_seq ?_)
 refine wp_cond_true rfl (wp_skip ?_)
 refine zA (wp_seq ?_)
 refine wp_block (wp_seq ?_)
 refine zB 2 [.quiet (.int .i64 0), .quiet (.int .i64 0)] H17 ?ho15 ?he15
 case ho15 => exact ar (ar trivial)
 intro _ w18 H18
 clear H17
 refine rN ?_
 refine zB 9 [.quiet (.slice (some ⟨γs13, 0, none⟩) 1 1), .quiet (.int .i64 0), .quiet (.slice (some ⟨gn, 0, none⟩) 1 1), .quiet (.int .i64 0), .quiet (.int .i64 5), .quiet (PT gn 0), .quiet (PT gn 5), .quiet (.int .u64 (wd nn 5)), .quiet (PT γs13 0)] H18 ?ho16 ?he16
 case ho16 => exact ar (ar (ar (ar (ar (ag (ag (aq (fun w' h => yG h 9 rfl rfl rfl rfl) (ag trivial))))))))
 intro _ w19 H19
 clear H18
 refine zF (l := [9]) rfl ?_
 refine sG rfl (fun h => ex_storeI h 0 rfl rfl Tryz.sizeOf22 rfl rfl (Nat.le_of_ble_eq_true rfl)) 0 [(_, [Value.int .u64 (wd nn 5)]), _, _, _, _, _, _, _, _, _] H19 o_γs13 fun w20 H20 => ?_
 clear H19
 refine zE (zH (zA ?_))
 refine zB 1 [.quiet (.int .i64 1)] H20 ?ho17 ?he17
 case ho17 => exact av trivial
 intro _ w21 H21
 clear H20
 refine zF (l := [1]) rfl ?_
 refine zG (d := 42) rfl rfl rfl rfl ?_
 simp only [Act.put, sa, sz, ss]
 refine zE (zA ?_)
 refine zK (n := 0) ?_
 refine wp_seq ?_
 refine zB 1 [.quiet (.bool false)] H21 ?ho18 ?he18
 case ho18 => exact ag trivial
 intro _ w22 H22
 clear H21
 refine rN (wp_seq (wp_cond_false rfl ?_))
 refine wp_exit ?_
 repeat refine zY ?_
 refine zT ?_
 refine zA ?_
 refine zB 4 [.quiet (.agg (G1 g tn (en u) (en b)).toArray), .quiet (V [en ((S 0).1), en ((S 0).2.1), en ((S 0).2.2)]), .quiet (.slice (some ⟨γs3, 0, none⟩) 1 1), .quiet (.slice (some ⟨γs13, 0, none⟩) 1 1)] H22 ?ho19 ?he19
 case ho19 => exact bT 4 Tryz.isAgg81 Tryz.sizeOf81 (bA 0 3 1 Tryz.isAgg124 Tryz.sizeOf124 (ar (ar trivial)))
 intro _ w23 H23
 clear H22
 refine zF (l := [4, 5]) rfl ?_
 refine rest_enter (d := 59) (R := fun vv w' => vv = V [en ((S 1).1), en ((S 1).2.1), en ((S 1).2.2)] ∧ Mm w' [(γs13, [Value.int .u64 0])] ∧ Kp γs13 w23 w') rfl rfl rfl (exec_call (args := #[.agg (G1 g tn (en u) (en b)).toArray, V [en ((S 0).1), en ((S 0).2.1), en ((S 0).2.2)], .slice (some ⟨γs3, 0, none⟩) 1 1, .slice (some ⟨γs13, 0, none⟩) 1 1]) rfl call153 rfl (mpn rfl)) (Calls.mono (C0.out γs3 γs13 w23 (H23.out.1.pick [6, 7, 3, 0] rfl (by decide))) (fun e w2 hh => ⟨_, hh.1, rfl, hh.2⟩)) ?_
 rintro _ w24 ⟨rfl, hn, hp⟩
 have H24 : Hid (Mm w24 [(γs13, [Value.int .u64 0]), (γ9_2, cel [en ((S 0).1), en ((S 0).2.1), en ((S 0).2.2)]), (γ5_3, zU x y zb), (γs3, cel (tb1 f)), (γ1_0, G1 g tn (en u) (en b)), (γ1_1, cel [0, 0, 0]), (g, yB pB), (0, dtab), (gp, zU x y zb), (gn, zD nn)] ∧ Below w.heap.size w w24) := ⟨H23.out.1.change 0 rfl hp hn, Below.kp H23.out.2 hp o_γs13.out H23.out.2.size⟩
 clear hn hp H23
 simp only [Act.put, sa, sz, ss]
 refine sF 1 [en ((S 1).1), en ((S 1).2.1), en ((S 1).2.2)] [_, _, _, _, _, _, _, _, _, _] H24 o9_2 Tryz.sizeOf124 fun w25 H25 => ?_
 clear H24
 refine zE (zH (zA ?_))
 refine zB 2 [.quiet (.int .i64 5), .quiet (.int .i64 4)] H25 ?ho20 ?he20
 case ho20 => exact ar (av trivial)
 intro _ w26 H26
 clear H25
 refine zF (l := [2]) rfl ?_
 refine zG (d := 12) rfl rfl rfl rfl ?_
 simp only [Act.put, sa, sz, ss]
 refine zE (zA ?_)
 refine zK (n := 5) ?_
 refine wp_seq (wp_seq ?_)
 refine zB 2 [.quiet (.int .i64 4), .quiet (.bool true)] H26 ?ho21 ?he21
 case ho21 => exact ar (ag trivial)
 intro _ w27 H27
 clear H26
 refine rN (wp_cond_true rfl ?_)
 refine wp_skip (zA ?_)
 refine wp_seq (wp_block ?_)
 refine wp_seq (wp_seq ?_)
 refine zB 3 [.quiet (.slice (some ⟨gn, 0, none⟩) 1 1), .quiet (.int .i64 1), .quiet (.int .i64 0)] H27 ?ho22 ?he22
 case ho22 => exact ar (ag (ar trivial))
 intro _ w28 H28
 clear H27
 refine rN (wp_block ?_)
 refine wp_loop_rounds 2 ?_
 refine zK (n := 1) ?_
 refine wp_seq ?_
 refine zB 1 [.quiet (.bool true)] H28 ?ho23 ?he23
 case ho23 => exact ag trivial
 intro _ w29 H29
 clear H28
 refine rN (wp_seq ?_)
 refine wp_cond_true rfl (wp_skip ?_)
 refine zA (wp_seq ?_)
 refine wp_block (wp_seq ?_)
 refine zB 2 [.quiet (.int .i64 0), .quiet (.int .i64 0)] H29 ?ho24 ?he24
 case ho24 => exact ar (ar trivial)
 intro _ w30 H30
 clear H29
 refine rN ?_
 refine zB 9 [.quiet (.slice (some ⟨γs13, 0, none⟩) 1 1), .quiet (.int .i64 0), .quiet (.slice (some ⟨gn, 0, none⟩) 1 1), .quiet (.int .i64 0), .quiet (.int .i64 4), .quiet (PT gn 0), .quiet (PT gn 4), .quiet (.int .u64 (wd nn 4)), .quiet (PT γs13 0)] H30 ?ho25 ?he25
 case ho25 => exact ar (ar (ar (ar (ar (ag (ag (aq (fun w' h => yG h 9 rfl rfl rfl rfl) (ag trivial))))))))
 intro _ w31 H31
 clear H30
 refine zF (l := [9]) rfl ?_
 refine sG rfl (fun h => ex_storeI h 0 rfl rfl Tryz.sizeOf22 rfl rfl (Nat.le_of_ble_eq_true rfl)) 0 [(_, [Value.int .u64 (wd nn 4)]), _, _, _, _, _, _, _, _, _] H31 o_γs13 fun w32 H32 => ?_
 clear H31
 refine zE (zH (zA ?_))
 refine zB 1 [.quiet (.int .i64 1)] H32 ?ho26 ?he26
 case ho26 => exact av trivial
 intro _ w33 H33
 clear H32
 refine zF (l := [1]) rfl ?_
 refine zG (d := 42) rfl rfl rfl rfl ?_
 simp only [Act.put, sa, sz, ss]
 refine zE (zA ?_)
 refine zK (n := 0) ?_
 refine wp_seq ?_
 refine zB 1 [.quiet (.bool false)] H33 ?ho27 ?he27
 case ho27 => exact ag trivial
 intro _ w34 H34
 clear H33
 refine rN (wp_seq (wp_cond_false rfl ?_))
 refine wp_exit ?_
 repeat refine zY ?_
 refine zT ?_
 refine zA ?_
 refine zB 4 [.quiet (.agg (G1 g tn (en u) (en b)).toArray), .quiet (V [en ((S 1).1), en ((S 1).2.1), en ((S 1).2.2)]), .quiet (.slice (some ⟨γs3, 0, none⟩) 1 1), .quiet (.slice (some ⟨γs13, 0, none⟩) 1 1)] H34 ?ho28 ?he28
 case ho28 => exact bT 4 Tryz.isAgg81 Tryz.sizeOf81 (bA 0 3 1 Tryz.isAgg124 Tryz.sizeOf124 (ar (ar trivial)))
 intro _ w35 H35
 clear H34
 refine zF (l := [4, 5]) rfl ?_
 refine rest_enter (d := 59) (R := fun vv w' => vv = V [en ((S 2).1), en ((S 2).2.1), en ((S 2).2.2)] ∧ Mm w' [(γs13, [Value.int .u64 0])] ∧ Kp γs13 w35 w') rfl rfl rfl (exec_call (args := #[.agg (G1 g tn (en u) (en b)).toArray, V [en ((S 1).1), en ((S 1).2.1), en ((S 1).2.2)], .slice (some ⟨γs3, 0, none⟩) 1 1, .slice (some ⟨γs13, 0, none⟩) 1 1]) rfl call153 rfl (mpn rfl)) (Calls.mono (C1.out γs3 γs13 w35 (H35.out.1.pick [6, 7, 3, 0] rfl (by decide))) (fun e w2 hh => ⟨_, hh.1, rfl, hh.2⟩)) ?_
 rintro _ w36 ⟨rfl, hn, hp⟩
 have H36 : Hid (Mm w36 [(γs13, [Value.int .u64 0]), (γ9_2, cel [en ((S 1).1), en ((S 1).2.1), en ((S 1).2.2)]), (γ5_3, zU x y zb), (γs3, cel (tb1 f)), (γ1_0, G1 g tn (en u) (en b)), (γ1_1, cel [0, 0, 0]), (g, yB pB), (0, dtab), (gp, zU x y zb), (gn, zD nn)] ∧ Below w.heap.size w w36) := ⟨H35.out.1.change 0 rfl hp hn, Below.kp H35.out.2 hp o_γs13.out H35.out.2.size⟩
 clear hn hp H35
 simp only [Act.put, sa, sz, ss]
 refine sF 1 [en ((S 2).1), en ((S 2).2.1), en ((S 2).2.2)] [_, _, _, _, _, _, _, _, _, _] H36 o9_2 Tryz.sizeOf124 fun w37 H37 => ?_
 clear H36
 refine zE (zH (zA ?_))
 refine zB 2 [.quiet (.int .i64 4), .quiet (.int .i64 3)] H37 ?ho29 ?he29
 case ho29 => exact ar (av trivial)
 intro _ w38 H38
 clear H37
 refine zF (l := [2]) rfl ?_
 refine zG (d := 12) rfl rfl rfl rfl ?_
 simp only [Act.put, sa, sz, ss]
 refine zE (zA ?_)
 refine zK (n := 4) ?_
 refine wp_seq (wp_seq ?_)
 refine zB 2 [.quiet (.int .i64 3), .quiet (.bool true)] H38 ?ho30 ?he30
 case ho30 => exact ar (ag trivial)
 intro _ w39 H39
 clear H38
 refine rN (wp_cond_true rfl ?_)
 refine wp_skip (zA ?_)
 refine wp_seq (wp_block ?_)
 refine wp_seq (wp_seq ?_)
 refine zB 3 [.quiet (.slice (some ⟨gn, 0, none⟩) 1 1), .quiet (.int .i64 1), .quiet (.int .i64 0)] H39 ?ho31 ?he31
 case ho31 => exact ar (ag (ar trivial))
 intro _ w40 H40
 clear H39
 refine rN (wp_block ?_)
 refine wp_loop_rounds 2 ?_
 refine zK (n := 1) ?_
 refine wp_seq ?_
 refine zB 1 [.quiet (.bool true)] H40 ?ho32 ?he32
 case ho32 => exact ag trivial
 intro _ w41 H41
 clear H40
 refine rN (wp_seq ?_)
 refine wp_cond_true rfl (wp_skip ?_)
 refine zA (wp_seq ?_)
 refine wp_block (wp_seq ?_)
 refine zB 2 [.quiet (.int .i64 0), .quiet (.int .i64 0)] H41 ?ho33 ?he33
 case ho33 => exact ar (ar trivial)
 intro _ w42 H42
 clear H41
 refine rN ?_
 refine zB 9 [.quiet (.slice (some ⟨γs13, 0, none⟩) 1 1), .quiet (.int .i64 0), .quiet (.slice (some ⟨gn, 0, none⟩) 1 1), .quiet (.int .i64 0), .quiet (.int .i64 3), .quiet (PT gn 0), .quiet (PT gn 3), .quiet (.int .u64 (wd nn 3)), .quiet (PT γs13 0)] H42 ?ho34 ?he34
 case ho34 => exact ar (ar (ar (ar (ar (ag (ag (aq (fun w' h => yG h 9 rfl rfl rfl rfl) (ag trivial))))))))
 intro _ w43 H43
 clear H42
 refine zF (l := [9]) rfl ?_
 refine sG rfl (fun h => ex_storeI h 0 rfl rfl Tryz.sizeOf22 rfl rfl (Nat.le_of_ble_eq_true rfl)) 0 [(_, [Value.int .u64 (wd nn 3)]), _, _, _, _, _, _, _, _, _] H43 o_γs13 fun w44 H44 => ?_
 clear H43
 refine zE (zH (zA ?_))
 refine zB 1 [.quiet (.int .i64 1)] H44 ?ho35 ?he35
 case ho35 => exact av trivial
 intro _ w45 H45
 clear H44
 refine zF (l := [1]) rfl ?_
 refine zG (d := 42) rfl rfl rfl rfl ?_
 simp only [Act.put, sa, sz, ss]
 refine zE (zA ?_)
 refine zK (n := 0) ?_
 refine wp_seq ?_
 refine zB 1 [.quiet (.bool false)] H45 ?ho36 ?he36
 case ho36 => exact ag trivial
 intro _ w46 H46
 clear H45
 refine rN (wp_seq (wp_cond_false rfl ?_))
 refine wp_exit ?_
 repeat refine zY ?_
 refine zT ?_
 refine zA ?_
 refine zB 4 [.quiet (.agg (G1 g tn (en u) (en b)).toArray), .quiet (V [en ((S 2).1), en ((S 2).2.1), en ((S 2).2.2)]), .quiet (.slice (some ⟨γs3, 0, none⟩) 1 1), .quiet (.slice (some ⟨γs13, 0, none⟩) 1 1)] H46 ?ho37 ?he37
 case ho37 => exact bT 4 Tryz.isAgg81 Tryz.sizeOf81 (bA 0 3 1 Tryz.isAgg124 Tryz.sizeOf124 (ar (ar trivial)))
 intro _ w47 H47
 clear H46
 refine zF (l := [4, 5]) rfl ?_
 refine rest_enter (d := 59) (R := fun vv w' => vv = V [en ((S 3).1), en ((S 3).2.1), en ((S 3).2.2)] ∧ Mm w' [(γs13, [Value.int .u64 0])] ∧ Kp γs13 w47 w') rfl rfl rfl (exec_call (args := #[.agg (G1 g tn (en u) (en b)).toArray, V [en ((S 2).1), en ((S 2).2.1), en ((S 2).2.2)], .slice (some ⟨γs3, 0, none⟩) 1 1, .slice (some ⟨γs13, 0, none⟩) 1 1]) rfl call153 rfl (mpn rfl)) (Calls.mono (C2.out γs3 γs13 w47 (H47.out.1.pick [6, 7, 3, 0] rfl (by decide))) (fun e w2 hh => ⟨_, hh.1, rfl, hh.2⟩)) ?_
 rintro _ w48 ⟨rfl, hn, hp⟩
 have H48 : Hid (Mm w48 [(γs13, [Value.int .u64 0]), (γ9_2, cel [en ((S 2).1), en ((S 2).2.1), en ((S 2).2.2)]), (γ5_3, zU x y zb), (γs3, cel (tb1 f)), (γ1_0, G1 g tn (en u) (en b)), (γ1_1, cel [0, 0, 0]), (g, yB pB), (0, dtab), (gp, zU x y zb), (gn, zD nn)] ∧ Below w.heap.size w w48) := ⟨H47.out.1.change 0 rfl hp hn, Below.kp H47.out.2 hp o_γs13.out H47.out.2.size⟩
 clear hn hp H47
 simp only [Act.put, sa, sz, ss]
 refine sF 1 [en ((S 3).1), en ((S 3).2.1), en ((S 3).2.2)] [_, _, _, _, _, _, _, _, _, _] H48 o9_2 Tryz.sizeOf124 fun w49 H49 => ?_
 clear H48
 refine zE (zH (zA ?_))
 refine zB 2 [.quiet (.int .i64 3), .quiet (.int .i64 2)] H49 ?ho38 ?he38
 case ho38 => exact ar (av trivial)
 intro _ w50 H50
 clear H49
 refine zF (l := [2]) rfl ?_
 refine zG (d := 12) rfl rfl rfl rfl ?_
 simp only [Act.put, sa, sz, ss]
 refine zE (zA ?_)
 refine zK (n := 3) ?_
 refine wp_seq (wp_seq ?_)
 refine zB 2 [.quiet (.int .i64 2), .quiet (.bool true)] H50 ?ho39 ?he39
 case ho39 => exact ar (ag trivial)
 intro _ w51 H51
 clear H50
 refine rN (wp_cond_true rfl ?_)
 refine wp_skip (zA ?_)
 refine wp_seq (wp_block ?_)
 refine wp_seq (wp_seq ?_)
 refine zB 3 [.quiet (.slice (some ⟨gn, 0, none⟩) 1 1), .quiet (.int .i64 1), .quiet (.int .i64 0)] H51 ?ho40 ?he40
 case ho40 => exact ar (ag (ar trivial))
 intro _ w52 H52
 clear H51
 refine rN (wp_block ?_)
 refine wp_loop_rounds 2 ?_
 refine zK (n := 1) ?_
 refine wp_seq ?_
 refine zB 1 [.quiet (.bool true)] H52 ?ho41 ?he41
 case ho41 => exact ag trivial
 intro _ w53 H53
 clear H52
 refine rN (wp_seq ?_)
 refine wp_cond_true rfl (wp_skip ?_)
 refine zA (wp_seq ?_)
 refine wp_block (wp_seq ?_)
 refine zB 2 [.quiet (.int .i64 0), .quiet (.int .i64 0)] H53 ?ho42 ?he42
 case ho42 => exact ar (ar trivial)
 intro _ w54 H54
 clear H53
 refine rN ?_
 refine zB 9 [.quiet (.slice (some ⟨γs13, 0, none⟩) 1 1), .quiet (.int .i64 0), .quiet (.slice (some ⟨gn, 0, none⟩) 1 1), .quiet (.int .i64 0), .quiet (.int .i64 2), .quiet (PT gn 0), .quiet (PT gn 2), .quiet (.int .u64 (wd nn 2)), .quiet (PT γs13 0)] H54 ?ho43 ?he43
 case ho43 => exact ar (ar (ar (ar (ar (ag (ag (aq (fun w' h => yG h 9 rfl rfl rfl rfl) (ag trivial))))))))
 intro _ w55 H55
 clear H54
 refine zF (l := [9]) rfl ?_
 refine sG rfl (fun h => ex_storeI h 0 rfl rfl Tryz.sizeOf22 rfl rfl (Nat.le_of_ble_eq_true rfl)) 0 [(_, [Value.int .u64 (wd nn 2)]), _, _, _, _, _, _, _, _, _] H55 o_γs13 fun w56 H56 => ?_
 clear H55
 refine zE (zH (zA ?_))
 refine zB 1 [.quiet (.int .i64 1)] H56 ?ho44 ?he44
 case ho44 => exact av trivial
 intro _ w57 H57
 clear H56
 refine zF (l := [1]) rfl ?_
 refine zG (d := 42) rfl rfl rfl rfl ?_
 simp only [Act.put, sa, sz, ss]
 refine zE (zA ?_)
 refine zK (n := 0) ?_
 refine wp_seq ?_
 refine zB 1 [.quiet (.bool false)] H57 ?ho45 ?he45
 case ho45 => exact ag trivial
 intro _ w58 H58
 clear H57
 refine rN (wp_seq (wp_cond_false rfl ?_))
 refine wp_exit ?_
 repeat refine zY ?_
 refine zT ?_
 refine zA ?_
 refine zB 4 [.quiet (.agg (G1 g tn (en u) (en b)).toArray), .quiet (V [en ((S 3).1), en ((S 3).2.1), en ((S 3).2.2)]), .quiet (.slice (some ⟨γs3, 0, none⟩) 1 1), .quiet (.slice (some ⟨γs13, 0, none⟩) 1 1)] H58 ?ho46 ?he46
 case ho46 => exact bT 4 Tryz.isAgg81 Tryz.sizeOf81 (bA 0 3 1 Tryz.isAgg124 Tryz.sizeOf124 (ar (ar trivial)))
 intro _ w59 H59
 clear H58
 refine zF (l := [4, 5]) rfl ?_
 refine rest_enter (d := 59) (R := fun vv w' => vv = V [en ((S 4).1), en ((S 4).2.1), en ((S 4).2.2)] ∧ Mm w' [(γs13, [Value.int .u64 0])] ∧ Kp γs13 w59 w') rfl rfl rfl (exec_call (args := #[.agg (G1 g tn (en u) (en b)).toArray, V [en ((S 3).1), en ((S 3).2.1), en ((S 3).2.2)], .slice (some ⟨γs3, 0, none⟩) 1 1, .slice (some ⟨γs13, 0, none⟩) 1 1]) rfl call153 rfl (mpn rfl)) (Calls.mono (C3.out γs3 γs13 w59 (H59.out.1.pick [6, 7, 3, 0] rfl (by decide))) (fun e w2 hh => ⟨_, hh.1, rfl, hh.2⟩)) ?_
 rintro _ w60 ⟨rfl, hn, hp⟩
 have H60 : Hid (Mm w60 [(γs13, [Value.int .u64 0]), (γ9_2, cel [en ((S 3).1), en ((S 3).2.1), en ((S 3).2.2)]), (γ5_3, zU x y zb), (γs3, cel (tb1 f)), (γ1_0, G1 g tn (en u) (en b)), (γ1_1, cel [0, 0, 0]), (g, yB pB), (0, dtab), (gp, zU x y zb), (gn, zD nn)] ∧ Below w.heap.size w w60) := ⟨H59.out.1.change 0 rfl hp hn, Below.kp H59.out.2 hp o_γs13.out H59.out.2.size⟩
 clear hn hp H59
 simp only [Act.put, sa, sz, ss]
 refine sF 1 [en ((S 4).1), en ((S 4).2.1), en ((S 4).2.2)] [_, _, _, _, _, _, _, _, _, _] H60 o9_2 Tryz.sizeOf124 fun w61 H61 => ?_
 clear H60
 refine zE (zH (zA ?_))
 refine zB 2 [.quiet (.int .i64 2), .quiet (.int .i64 1)] H61 ?ho47 ?he47
 case ho47 => exact ar (av trivial)
 intro _ w62 H62
 clear H61
 refine zF (l := [2]) rfl ?_
 refine zG (d := 12) rfl rfl rfl rfl ?_
 simp only [Act.put, sa, sz, ss]
 refine zE (zA ?_)
 refine zK (n := 2) ?_
 refine wp_seq (wp_seq ?_)
 refine zB 2 [.quiet (.int .i64 1), .quiet (.bool true)] H62 ?ho48 ?he48
 case ho48 => exact ar (ag trivial)
 intro _ w63 H63
 clear H62
 refine rN (wp_cond_true rfl ?_)
 refine wp_skip (zA ?_)
 refine wp_seq (wp_block ?_)
 refine wp_seq (wp_seq ?_)
 refine zB 3 [.quiet (.slice (some ⟨gn, 0, none⟩) 1 1), .quiet (.int .i64 1), .quiet (.int .i64 0)] H63 ?ho49 ?he49
 case ho49 => exact ar (ag (ar trivial))
 intro _ w64 H64
 clear H63
 refine rN (wp_block ?_)
 refine wp_loop_rounds 2 ?_
 refine zK (n := 1) ?_
 refine wp_seq ?_
 refine zB 1 [.quiet (.bool true)] H64 ?ho50 ?he50
 case ho50 => exact ag trivial
 intro _ w65 H65
 clear H64
 refine rN (wp_seq ?_)
 refine wp_cond_true rfl (wp_skip ?_)
 refine zA (wp_seq ?_)
 refine wp_block (wp_seq ?_)
 refine zB 2 [.quiet (.int .i64 0), .quiet (.int .i64 0)] H65 ?ho51 ?he51
 case ho51 => exact ar (ar trivial)
 intro _ w66 H66
 clear H65
 refine rN ?_
 refine zB 9 [.quiet (.slice (some ⟨γs13, 0, none⟩) 1 1), .quiet (.int .i64 0), .quiet (.slice (some ⟨gn, 0, none⟩) 1 1), .quiet (.int .i64 0), .quiet (.int .i64 1), .quiet (PT gn 0), .quiet (PT gn 1), .quiet (.int .u64 (wd nn 1)), .quiet (PT γs13 0)] H66 ?ho52 ?he52
 case ho52 => exact ar (ar (ar (ar (ar (ag (ag (aq (fun w' h => yG h 9 rfl rfl rfl rfl) (ag trivial))))))))
 intro _ w67 H67
 clear H66
 refine zF (l := [9]) rfl ?_
 refine sG rfl (fun h => ex_storeI h 0 rfl rfl Tryz.sizeOf22 rfl rfl (Nat.le_of_ble_eq_true rfl)) 0 [(_, [Value.int .u64 (wd nn 1)]), _, _, _, _, _, _, _, _, _] H67 o_γs13 fun w68 H68 => ?_
 clear H67
 refine zE (zH (zA ?_))
 refine zB 1 [.quiet (.int .i64 1)] H68 ?ho53 ?he53
 case ho53 => exact av trivial
 intro _ w69 H69
 clear H68
 refine zF (l := [1]) rfl ?_
 refine zG (d := 42) rfl rfl rfl rfl ?_
 simp only [Act.put, sa, sz, ss]
 refine zE (zA ?_)
 refine zK (n := 0) ?_
 refine wp_seq ?_
 refine zB 1 [.quiet (.bool false)] H69 ?ho54 ?he54
 case ho54 => exact ag trivial
 intro _ w70 H70
 clear H69
 refine rN (wp_seq (wp_cond_false rfl ?_))
 refine wp_exit ?_
 repeat refine zY ?_
 refine zT ?_
 refine zA ?_
 refine zB 4 [.quiet (.agg (G1 g tn (en u) (en b)).toArray), .quiet (V [en ((S 4).1), en ((S 4).2.1), en ((S 4).2.2)]), .quiet (.slice (some ⟨γs3, 0, none⟩) 1 1), .quiet (.slice (some ⟨γs13, 0, none⟩) 1 1)] H70 ?ho55 ?he55
 case ho55 => exact bT 4 Tryz.isAgg81 Tryz.sizeOf81 (bA 0 3 1 Tryz.isAgg124 Tryz.sizeOf124 (ar (ar trivial)))
 intro _ w71 H71
 clear H70
 refine zF (l := [4, 5]) rfl ?_
 refine rest_enter (d := 59) (R := fun vv w' => vv = V [en ((S 5).1), en ((S 5).2.1), en ((S 5).2.2)] ∧ Mm w' [(γs13, [Value.int .u64 0])] ∧ Kp γs13 w71 w') rfl rfl rfl (exec_call (args := #[.agg (G1 g tn (en u) (en b)).toArray, V [en ((S 4).1), en ((S 4).2.1), en ((S 4).2.2)], .slice (some ⟨γs3, 0, none⟩) 1 1, .slice (some ⟨γs13, 0, none⟩) 1 1]) rfl call153 rfl (mpn rfl)) (Calls.mono (C4.out γs3 γs13 w71 (H71.out.1.pick [6, 7, 3, 0] rfl (by decide))) (fun e w2 hh => ⟨_, hh.1, rfl, hh.2⟩)) ?_
 rintro _ w72 ⟨rfl, hn, hp⟩
 have H72 : Hid (Mm w72 [(γs13, [Value.int .u64 0]), (γ9_2, cel [en ((S 4).1), en ((S 4).2.1), en ((S 4).2.2)]), (γ5_3, zU x y zb), (γs3, cel (tb1 f)), (γ1_0, G1 g tn (en u) (en b)), (γ1_1, cel [0, 0, 0]), (g, yB pB), (0, dtab), (gp, zU x y zb), (gn, zD nn)] ∧ Below w.heap.size w w72) := ⟨H71.out.1.change 0 rfl hp hn, Below.kp H71.out.2 hp o_γs13.out H71.out.2.size⟩
 clear hn hp H71
 simp only [Act.put, sa, sz, ss]
 refine sF 1 [en ((S 5).1), en ((S 5).2.1), en ((S 5).2.2)] [_, _, _, _, _, _, _, _, _, _] H72 o9_2 Tryz.sizeOf124 fun w73 H73 => ?_
 clear H72
 refine zE (zH (zA ?_))
 refine zB 2 [.quiet (.int .i64 1), .quiet (.int .i64 0)] H73 ?ho56 ?he56
 case ho56 => exact ar (av trivial)
 intro _ w74 H74
 clear H73
 refine zF (l := [2]) rfl ?_
 refine zG (d := 12) rfl rfl rfl rfl ?_
 simp only [Act.put, sa, sz, ss]
 refine zE (zA ?_)
 refine zK (n := 1) ?_
 refine wp_seq (wp_seq ?_)
 refine zB 2 [.quiet (.int .i64 0), .quiet (.bool true)] H74 ?ho57 ?he57
 case ho57 => exact ar (ag trivial)
 intro _ w75 H75
 clear H74
 refine rN (wp_cond_true rfl ?_)
 refine wp_skip (zA ?_)
 refine wp_seq (wp_block ?_)
 refine wp_seq (wp_seq ?_)
 refine zB 3 [.quiet (.slice (some ⟨gn, 0, none⟩) 1 1), .quiet (.int .i64 1), .quiet (.int .i64 0)] H75 ?ho58 ?he58
 case ho58 => exact ar (ag (ar trivial))
 intro _ w76 H76
 clear H75
 refine rN (wp_block ?_)
 refine wp_loop_rounds 2 ?_
 refine zK (n := 1) ?_
 refine wp_seq ?_
 refine zB 1 [.quiet (.bool true)] H76 ?ho59 ?he59
 case ho59 => exact ag trivial
 intro _ w77 H77
 clear H76
 refine rN (wp_seq ?_)
 refine wp_cond_true rfl (wp_skip ?_)
 refine zA (wp_seq ?_)
 refine wp_block (wp_seq ?_)
 refine zB 2 [.quiet (.int .i64 0), .quiet (.int .i64 0)] H77 ?ho60 ?he60
 case ho60 => exact ar (ar trivial)
 intro _ w78 H78
 clear H77
 refine rN ?_
 refine zB 9 [.quiet (.slice (some ⟨γs13, 0, none⟩) 1 1), .quiet (.int .i64 0), .quiet (.slice (some ⟨gn, 0, none⟩) 1 1), .quiet (.int .i64 0), .quiet (.int .i64 0), .quiet (PT gn 0), .quiet (PT gn 0), .quiet (.int .u64 (wd nn 0)), .quiet (PT γs13 0)] H78 ?ho61 ?he61
 case ho61 => exact ar (ar (ar (ar (ar (ag (ag (aq (fun w' h => yG h 9 rfl rfl rfl rfl) (ag trivial))))))))
 intro _ w79 H79
 clear H78
 refine zF (l := [9]) rfl ?_
 refine sG rfl (fun h => ex_storeI h 0 rfl rfl Tryz.sizeOf22 rfl rfl (Nat.le_of_ble_eq_true rfl)) 0 [(_, [Value.int .u64 (wd nn 0)]), _, _, _, _, _, _, _, _, _] H79 o_γs13 fun w80 H80 => ?_
 clear H79
 refine zE (zH (zA ?_))
 refine zB 1 [.quiet (.int .i64 1)] H80 ?ho62 ?he62
 case ho62 => exact av trivial
 intro _ w81 H81
 clear H80
 refine zF (l := [1]) rfl ?_
 refine zG (d := 42) rfl rfl rfl rfl ?_
 simp only [Act.put, sa, sz, ss]
 refine zE (zA ?_)
 refine zK (n := 0) ?_
 refine wp_seq ?_
 refine zB 1 [.quiet (.bool false)] H81 ?ho63 ?he63
 case ho63 => exact ag trivial
 intro _ w82 H82
 clear H81
 refine rN (wp_seq (wp_cond_false rfl ?_))
 refine wp_exit ?_
 repeat refine zY ?_
 refine zT ?_
 refine zA ?_
 refine zB 4 [.quiet (.agg (G1 g tn (en u) (en b)).toArray), .quiet (V [en ((S 5).1), en ((S 5).2.1), en ((S 5).2.2)]), .quiet (.slice (some ⟨γs3, 0, none⟩) 1 1), .quiet (.slice (some ⟨γs13, 0, none⟩) 1 1)] H82 ?ho64 ?he64
 case ho64 => exact bT 4 Tryz.isAgg81 Tryz.sizeOf81 (bA 0 3 1 Tryz.isAgg124 Tryz.sizeOf124 (ar (ar trivial)))
 intro _ w83 H83
 clear H82
 refine zF (l := [4, 5]) rfl ?_
 refine rest_enter (d := 59) (R := fun vv w' => vv = V [en ((S 6).1), en ((S 6).2.1), en ((S 6).2.2)] ∧ Mm w' [(γs13, [Value.int .u64 0])] ∧ Kp γs13 w83 w') rfl rfl rfl (exec_call (args := #[.agg (G1 g tn (en u) (en b)).toArray, V [en ((S 5).1), en ((S 5).2.1), en ((S 5).2.2)], .slice (some ⟨γs3, 0, none⟩) 1 1, .slice (some ⟨γs13, 0, none⟩) 1 1]) rfl call153 rfl (mpn rfl)) (Calls.mono (C5.out γs3 γs13 w83 (H83.out.1.pick [6, 7, 3, 0] rfl (by decide))) (fun e w2 hh => ⟨_, hh.1, rfl, hh.2⟩)) ?_
 rintro _ w84 ⟨rfl, hn, hp⟩
 have H84 : Hid (Mm w84 [(γs13, [Value.int .u64 0]), (γ9_2, cel [en ((S 5).1), en ((S 5).2.1), en ((S 5).2.2)]), (γ5_3, zU x y zb), (γs3, cel (tb1 f)), (γ1_0, G1 g tn (en u) (en b)), (γ1_1, cel [0, 0, 0]), (g, yB pB), (0, dtab), (gp, zU x y zb), (gn, zD nn)] ∧ Below w.heap.size w w84) := ⟨H83.out.1.change 0 rfl hp hn, Below.kp H83.out.2 hp o_γs13.out H83.out.2.size⟩
 clear hn hp H83
 simp only [Act.put, sa, sz, ss]
 refine sF 1 [en ((S 6).1), en ((S 6).2.1), en ((S 6).2.2)] [_, _, _, _, _, _, _, _, _, _] H84 o9_2 Tryz.sizeOf124 fun w85 H85 => ?_
 clear H84
 refine zE (zH (zA ?_))
 refine zB 2 [.quiet (.int .i64 0), .quiet (.int .i64 (-1))] H85 ?ho65 ?he65
 case ho65 => exact ar (av trivial)
 intro _ w86 H86
 clear H85
 refine zF (l := [2]) rfl ?_
 refine zG (d := 12) rfl rfl rfl rfl ?_
 simp only [Act.put, sa, sz, ss]
 refine zE (zA ?_)
 refine zK (n := 0) ?_
 refine wp_seq (wp_seq ?_)
 refine zB 2 [.quiet (.int .i64 (-1)), .quiet (.bool false)] H86 ?ho66 ?he66
 case ho66 => exact ar (ag trivial)
 intro _ w87 H87
 clear H86
 refine rN (wp_cond_false rfl ?_)
 refine wp_exit ?_
 repeat refine zY ?_
 refine zT ?_
 refine zA (wp_seq ?_)
 refine zB 1 [.quiet (V [en ((S 6).1), en ((S 6).2.1), en ((S 6).2.2)])] H87 ?ho67 ?he67
 case ho67 => exact bA 0 3 1 Tryz.isAgg124 Tryz.sizeOf124 trivial
 intro _ w88 H88
 clear H87
 refine zF (l := [1]) rfl ?_
 refine sF 5 [en ((S 6).1), en ((S 6).2.1), en ((S 6).2.2)] [_, _, _, _, _, _, _, _, _, _] H88 o1_1 Tryz.sizeOf124 fun w89 H89 => ?_
 clear H88
 refine zE (zA (wp_ret ?_))
 repeat (first | refine zM ?_ | refine zI ?_)
 have hf0 := cel_var (k := 3) H89.out.1 5 rfl Tryz.isAgg124 Tryz.sizeOf124 rfl
 refine bodyPost_ret (v := V [en ((S 6).1), en ((S 6).2.1), en ((S 6).2.2)]) (by simp [results, Tryz.results118, asAddr, hf0]) rfl ?_
 exact ⟨rfl, H89.out.2⟩
set_option maxHeartbeats 4000000 in
theorem sumY_1 {α : Type} {en : α → Nat} {fa fs fm : α → α → α} {fi : α → α} {z u b : α} {g : Nat} {tn : Value} (_C : Fd1 g en fa fs fm fi z) (O T U : EC.Tri α) (x y r k nn gp gn : Nat) (zb zr : Bool) (ck : ∀ w, Mm w [(g, yB pB), (0, dtab)] → Calls Tryz.prog 48 #[.agg (G1 g tn (en u) (en b)).toArray, .agg (zU x y zb).toArray] w (Rt w (.bool true))) (cz : ∀ w, Mm w [(g, yB pB), (0, dtab)] → Calls Tryz.prog 117 #[.agg (G1 g tn (en u) (en b)).toArray] w (Rt w (V [en O.1, en O.2.1, en O.2.2]))) (cs : ∀ w, Mm w [(g, yB pB), (0, dtab), (gp, zU x y zb), (gn, zD nn)] → Calls Tryz.prog 118 #[.agg (G1 g tn (en u) (en b)).toArray, .slice (some ⟨gp, 0, none⟩) 1 1, .slice (some ⟨gn, 0, none⟩) 1 1] w (Rt w (V [en T.1, en T.2.1, en T.2.2]))) (ct : ∀ w, Mm w [(g, yB pB), (0, dtab)] → Calls Tryz.prog 94 #[.agg (G1 g tn (en u) (en b)).toArray, V [en O.1, en O.2.1, en O.2.2], V [en T.1, en T.2.1, en T.2.2]] w (Rt w (V [en U.1, en U.2.1, en U.2.2]))) (cw : ∀ w, Mm w [(g, yB pB), (0, dtab)] → Calls Tryz.prog 93 #[.agg (G1 g tn (en u) (en b)).toArray, V [en U.1, en U.2.1, en U.2.2]] w (Rt w (.agg (zU r k zr).toArray))) (w : World) (hm : Mm w [(g, yB pB), (0, dtab), (gp, zU x y zb), (gn, zD nn)]) :
  Calls Tryz.prog 76 #[.agg (G1 g tn (en u) (en b)).toArray, .slice (some ⟨gp, 0, none⟩) 1 1, .slice (some ⟨gn, 0, none⟩) 1 1] w (Rt w (.tuple #[.agg (zU r k zr).toArray, .int .i64 0])) := by
 have H0 : Hid (_ ∧ _) := ⟨hm, Below.refl w.heap.size w⟩
 clear hm
 have CK : Hid _ := ck
 clear ck
 have CZ : Hid _ := cz
 clear cz
 have CS : Hid _ := cs
 clear cs
 have CT : Hid _ := ct
 clear ct
 have CW : Hid _ := cw
 clear cw
 go_enter Tryz.func76, Tryz.ntmps76
 refine wp_seq ?_
 refine zC 3 [.made (G1 g tn (en u) (en b)) 81, .made (zU 0 0 false) 84, .quiet (.int .i64 0)] (sB H0) ?ho1 ?he1
 case ho1 => exact am (zW rfl rfl) (am (ex_madePN rfl) (ar trivial))
 intro γ w1 l hM hl
 have H1 : Hid (Mm w1 ([(γ 0, G1 g tn (en u) (en b)), (γ 1, zU 0 0 false)] ++ _) ∧ _) := wB H0 hM hl [0, 1]
 have o1_0 := vB H0 hM hl 0
 have o1_1 := vB H0 hM hl 1
 clear hM hl l
 generalize γ 0 = γ1_0 at H1 o1_0 ⊢
 generalize γ 1 = γ1_1 at H1 o1_1 ⊢
 clear γ
 refine rN (wp_seq (wp_seq ?_))
 refine zB 5 [.quiet (.slice (some ⟨gp, 0, none⟩) 1 1), .quiet (.int .i64 1), .quiet (.slice (some ⟨gn, 0, none⟩) 1 1), .quiet (.int .i64 1), .quiet (.bool false)] H1 ?ho2 ?he2
 case ho2 => exact ar (ag (ar (ag (ag trivial))))
 intro _ w2 H2
 clear H1
 refine rN (wp_cond_false rfl ?_)
 refine wp_skip (zA ?_)
 refine wp_seq (wp_seq ?_)
 refine zB 3 [.quiet (.slice (some ⟨gp, 0, none⟩) 1 1), .quiet (.int .i64 1), .quiet (.int .i64 0)] H2 ?ho3 ?he3
 case ho3 => exact ar (ag (ar trivial))
 intro _ w3 H3
 clear H2
 refine rN (wp_block ?_)
 refine wp_loop_rounds 2 ?_
 refine zK (n := 1) ?_
 refine wp_seq ?_
 refine zB 1 [.quiet (.bool true)] H3 ?ho4 ?he4
 case ho4 => exact ag trivial
 intro _ w4 H4
 clear H3
 refine rN (wp_seq ?_)
 refine wp_cond_true rfl (wp_skip ?_)
 refine zA (wp_seq ?_)
 refine wp_block (wp_seq ?_)
 refine zC 4 [.quiet (PT gp 0), .quiet (.agg (zU x y zb).toArray), .made (zU 0 0 false) 84, .laid 2 (zU 0 0 false) (zU x y zb)] (sB H4) ?ho5 ?he5 (hL := ?hL5)
 case hL5 => exact ⟨⟨_, rfl⟩, trivial⟩
 case ho5 => exact ag (bT 4 Tryz.isAgg84 Tryz.sizeOf84 (am (ex_madePN rfl) (ak (fun γ => ⟨rfl, rfl, rfl, fun w' h => ex_laidT h rfl rfl Tryz.sizeOf84 rfl rfl rfl⟩) trivial)))
 intro γ w5 l hM hl
 have H5 : Hid (Mm w5 ([(γ 2, zU x y zb)] ++ _) ∧ _) := wB H4 hM hl [2]
 have o5_2 := vB H4 hM hl 2
 clear hM hl l H4
 generalize γ 2 = γ5_2 at H5 o5_2 ⊢
 clear γ
 refine rN (wp_seq ?_)
 refine zB 4 [.quiet (.agg (G1 g tn (en u) (en b)).toArray), .quiet (.agg (zU x y zb).toArray), .call (.bool true), .quiet (.bool false)] H5 ?ho6 ?he6
 case ho6 => exact bT 1 Tryz.isAgg81 Tryz.sizeOf81 (bT 0 Tryz.isAgg84 Tryz.sizeOf84 (ac (fun w' h => eC call48 (CK.out w' (h.two 3 4 rfl rfl (by decide)))) (ag trivial)))
 intro _ w6 H6
 clear H5
 refine rN (wp_cond_false rfl ?_)
 refine wp_skip (zH (zA ?_))
 refine zB 1 [.quiet (.int .i64 1)] H6 ?ho7 ?he7
 case ho7 => exact av trivial
 intro _ w7 H7
 clear H6
 refine zF (l := [1]) rfl ?_
 refine zG (d := 21) rfl rfl rfl rfl ?_
 simp only [Act.put, sa, sz, ss]
 refine zE (zA ?_)
 refine zK (n := 0) ?_
 refine wp_seq ?_
 refine zB 1 [.quiet (.bool false)] H7 ?ho8 ?he8
 case ho8 => exact ag trivial
 intro _ w8 H8
 clear H7
 refine rN (wp_seq (wp_cond_false rfl ?_))
 refine wp_exit ?_
 repeat refine zY ?_
 refine zT ?_
 refine zA (wp_seq ?_)
 refine zC 4 [.quiet (.agg (G1 g tn (en u) (en b)).toArray), .call (V [en O.1, en O.2.1, en O.2.2]), .made (cel [0, 0, 0]) 124, .laid 2 (cel [0, 0, 0]) (cel [en O.1, en O.2.1, en O.2.2])] (sB H8) ?ho9 ?he9 (hL := ?hL9)
 case hL9 => exact ⟨⟨_, rfl⟩, trivial⟩
 case ho9 => exact bT 1 Tryz.isAgg81 Tryz.sizeOf81 (ac (fun w' h => eC call117 (CZ.out w' (h.two 3 4 rfl rfl (by decide)))) (am (ex_madeTN rfl) (ak (fun γ => ⟨rfl, rfl, rfl, fun w' h => ex_laidA h rfl Tryz.sizeOf124 rfl rfl rfl⟩) trivial)))
 intro γ w9 l hM hl
 have H9 : Hid (Mm w9 ([(γ 2, cel [en O.1, en O.2.1, en O.2.2])] ++ _) ∧ _) := wB H8 hM hl [2]
 have o9_2 := vB H8 hM hl 2
 clear hM hl l H8
 generalize γ 2 = γ9_2 at H9 o9_2 ⊢
 clear γ
 refine rN (wp_seq (wp_seq ?_))
 refine zB 1 [.quiet (.int .i64 0)] H9 ?ho10 ?he10
 case ho10 => exact ar trivial
 intro _ w10 H10
 clear H9
 refine rN (wp_block ?_)
 refine wp_loop_rounds 2 ?_
 refine zK (n := 1) ?_
 refine wp_seq (wp_seq ?_)
 refine zB 4 [.quiet (.int .i64 0), .quiet (.slice (some ⟨gp, 0, none⟩) 1 1), .quiet (.int .i64 1), .quiet (.bool true)] H10 ?ho11 ?he11
 case ho11 => exact ar (ar (ag (ag trivial)))
 intro _ w11 H11
 clear H10
 refine rN (wp_cond_true rfl ?_)
 refine wp_skip (zA ?_)
 refine wp_seq (wp_block (wp_seq ?_))
 refine zB 6 [.quiet (.int .i64 0), .quiet (.int .i64 32), .quiet (.slice (some ⟨gp, 0, none⟩) 1 1), .quiet (.int .i64 1), .quiet (.int .i64 1), .quiet (.int .i64 1)] H11 ?ho12 ?he12
 case ho12 => exact ar (av (ar (ag (ak (by refine fun γ => ⟨rfl, fun w' h => ?_⟩; clear h; go_simp; rfl) (ar trivial)))))
 intro _ w12 H12
 clear H11
 refine rN ?_
 refine zP 13 [.quiet (.agg (G1 g tn (en u) (en b)).toArray), .quiet (V [en O.1, en O.2.1, en O.2.2]), .quiet (.agg (G1 g tn (en u) (en b)).toArray), .quiet (.slice (some ⟨gp, 0, none⟩) 1 1), .quiet (.int .i64 0), .quiet (.int .i64 1), .quiet (.slice (some ⟨gp, 0, none⟩) 1 1), .quiet (.slice (some ⟨gn, 0, none⟩) 1 1), .quiet (.int .i64 0), .quiet (.int .i64 1), .quiet (.slice (some ⟨gn, 0, none⟩) 1 1), .call (V [en T.1, en T.2.1, en T.2.2]), .call (V [en U.1, en U.2.1, en U.2.2])] H12 ?ho13 ?he13
 case ho13 => exact bT 2 Tryz.isAgg81 Tryz.sizeOf81 (bA 0 3 0 Tryz.isAgg124 Tryz.sizeOf124 (bT 2 Tryz.isAgg81 Tryz.sizeOf81 (ar (ar (ar (ak (fun γ => ⟨rfl, fun w' _ => ex_slice115 rfl rfl rfl rfl⟩) (ar (ar (ar (ak (fun γ => ⟨rfl, fun w' _ => ex_slice65 rfl rfl rfl rfl⟩) (ac (fun w' h => eC call118 (CS.out w' (h.pick [4, 5, 6, 7] rfl (by decide)))) (ac (fun w' h => eC call94 (CT.out w' (h.two 4 5 rfl rfl (by decide)))) trivial))))))))))))
 intro _ w13 H13
 clear H12
 refine zF (l := [13]) rfl ?_
 refine sF 0 [en U.1, en U.2.1, en U.2.2] [_, _, _, _, _, _, _, _] H13 o9_2 Tryz.sizeOf124 fun w14 H14 => ?_
 clear H13
 refine zE (zH (zA ?_))
 refine zB 2 [.quiet (.int .i64 0), .quiet (.int .i64 32)] H14 ?ho14 ?he14
 case ho14 => exact ar (av trivial)
 intro _ w15 H15
 clear H14
 refine zF (l := [2]) rfl ?_
 refine zG (d := 11) rfl rfl rfl rfl ?_
 simp only [Act.put, sa, sz, ss]
 refine zE (zA ?_)
 refine zK (n := 0) ?_
 refine wp_seq (wp_seq ?_)
 refine zB 4 [.quiet (.int .i64 32), .quiet (.slice (some ⟨gp, 0, none⟩) 1 1), .quiet (.int .i64 1), .quiet (.bool false)] H15 ?ho15 ?he15
 case ho15 => exact ar (ar (ag (ag trivial)))
 intro _ w16 H16
 clear H15
 refine rN (wp_cond_false rfl ?_)
 refine wp_exit ?_
 repeat refine zY ?_
 refine zT ?_
 refine zA (wp_seq ?_)
 refine zB 3 [.quiet (.agg (G1 g tn (en u) (en b)).toArray), .quiet (V [en U.1, en U.2.1, en U.2.2]), .call (.agg (zU r k zr).toArray)] H16 ?ho16 ?he16
 case ho16 => exact bT 2 Tryz.isAgg81 Tryz.sizeOf81 (bA 0 3 0 Tryz.isAgg124 Tryz.sizeOf124 (ac (fun w' h => eC call93 (CW.out w' (h.two 4 5 rfl rfl (by decide)))) trivial))
 intro _ w17 H17
 clear H16
 refine zF (l := [3, 4]) rfl ?_
 refine sG rfl (fun h => ex_storeT (vs := zU r k zr) h 3 rfl rfl rfl rfl Tryz.sizeOf84 rfl (Nat.le_of_ble_eq_true rfl)) 3 [_, _, _, (_, zU r k zr), _, _, _, _] H17 o1_1 fun w18 H18 => ?_
 clear H17
 refine zG (d := 7) rfl rfl rfl rfl ?_
 simp only [Act.put, sa, sz, ss]
 refine zE (zA (wp_ret ?_))
 repeat (first | refine zM ?_ | refine zI ?_)
 have hf0 := var_T H18.out.1 3 rfl Tryz.isAgg84 Tryz.sizeOf84 rfl
 refine bodyPost_ret (v := .tuple #[.agg (zU r k zr).toArray, .int .i64 0]) (by simp [results, Tryz.results76, asAddr, Act.eval, hf0]) rfl ?_
 exact ⟨rfl, H18.out.2⟩
set_option maxHeartbeats 4000000 in
theorem Sum_1 (one four x y r k nn gl gn : Nat) (zb zr : Bool) (er : Int) (cf : ∀ w, Calls Tryz.prog 47 #[] w fun e w' => Below w.heap.size w w' ∧ ∃ g x y, e = .returned (.agg (G1 g (.func (.func 88) #[] #[PT x 0, PT y 0]) one four).toArray) ∧ w.heap.size ≤ g ∧ g < w'.heap.size ∧ Blk w' g (yB pB)) (cs : ∀ g tn gp w, Mm w [(g, yB pB), (0, dtab), (gp, zU x y zb), (gn, zD nn)] → Calls Tryz.prog 76 #[(.agg (G1 g tn one four).toArray), .slice (some ⟨gp, 0, none⟩) 1 1, .slice (some ⟨gn, 0, none⟩) 1 1] w (Rt w (.tuple #[.agg (zU r k zr).toArray, .int .i64 er]))) (w : World) (hm : Mm w [(0, dtab), (gl, zU x y zb), (gn, zD nn)]) :
  Calls Tryz.prog 39 #[.slice (some ⟨gl, 0, none⟩) 1 1, .slice (some ⟨gn, 0, none⟩) 1 1] w (Rt w (.tuple #[.agg (zU r k zr).toArray, .int .i64 er])) := by
 have H0 : Hid (_ ∧ _) := ⟨hm, Below.refl w.heap.size w⟩
 clear hm
 have CF : Hid _ := cf
 clear cf
 have CS : Hid _ := cs
 clear cs
 go_enter Tryz.func39, Tryz.ntmps39
 refine wp_seq ?_
 refine zC 2 [.made (zU 0 0 false) 26, .quiet (.int .i64 0)] (sB H0) ?ho1 ?he1
 case ho1 => exact am (ex_madeP1 rfl) (ar trivial)
 intro γ w1 l hM hl
 have H1 : Hid (Mm w1 ([(γ 0, zU 0 0 false)] ++ _) ∧ _) := wB H0 hM hl [0]
 have o1_0 := vB H0 hM hl 0
 clear hM hl l
 generalize γ 0 = γ1_0 at H1 o1_0 ⊢
 clear γ
 refine rN (wp_seq ?_)
 refine zB 2 [.quiet (.slice (some ⟨gl, 0, none⟩) 1 1), .quiet (.int .i64 1)] H1 ?ho2 ?he2
 case ho2 => exact ar (ag trivial)
 intro _ w2 H2
 clear H1
 refine zF (l := [2, 3]) rfl ?_
 refine zG (d := 13) (v := .slice (some ⟨w2.heap.size, 0, none⟩) 1 1) (w' := w2.alloc (.cells (zU 0 0 false : List Value).toArray 84)) rfl rfl rfl (ex_mkPN rfl rfl rfl) ?_
 simp only [Act.put, sa, sz, ss]
 have o_γs3 : Hid (w.heap.size ≤ w2.heap.size) := H2.out.2.size
 have H3 : Hid (Mm (w2.alloc (.cells (zU 0 0 false : List Value).toArray 84)) ((w2.heap.size, zU 0 0 false) :: [(γ1_0, zU 0 0 false), (0, dtab), (gl, zU x y zb), (gn, zD nn)]) ∧ Below w.heap.size w (w2.alloc (.cells (zU 0 0 false : List Value).toArray 84))) := ⟨H2.out.1.alloc _ 84 rfl, H2.out.2.alloc H2.out.2.size _⟩
 clear H2
 generalize hgw : w2.alloc (.cells (zU 0 0 false : List Value).toArray 84) = w3 at H3 ⊢
 clear hgw
 generalize w2.heap.size = γs3 at o_γs3 H3 ⊢
 refine zG (d := 6) rfl rfl rfl rfl ?_
 simp only [Act.put, sa, sz, ss]
 refine zE (zA ?_)
 refine wp_seq (wp_seq ?_)
 refine zB 3 [.quiet (.slice (some ⟨gl, 0, none⟩) 1 1), .quiet (.int .i64 1), .quiet (.int .i64 0)] H3 ?ho3 ?he3
 case ho3 => exact ar (ag (ar trivial))
 intro _ w4 H4
 clear H3
 refine rN (wp_block ?_)
 refine wp_loop_rounds 2 ?_
 refine zK (n := 1) ?_
 refine wp_seq ?_
 refine zB 1 [.quiet (.bool true)] H4 ?ho4 ?he4
 case ho4 => exact ag trivial
 intro _ w5 H5
 clear H4
 refine rN (wp_seq ?_)
 refine wp_cond_true rfl (wp_skip ?_)
 refine zA (wp_seq ?_)
 refine wp_block (wp_seq ?_)
 refine zC 6 [.quiet (.int .i64 0), .quiet (PT gl 0), .quiet (.agg (zU x y zb).toArray), .made (zU 0 0 false) 26, .quiet (.int .i64 0), .laid 3 (zU 0 0 false) (zU x y zb)] (sB H5) ?ho5 ?he5 (hL := ?hL5)
 case hL5 => exact ⟨⟨_, rfl⟩, trivial⟩
 case ho5 => exact ar (ag (bT 3 Tryz.isAgg26 Tryz.sizeOf26 (am (ex_madeP1 rfl) (ar (ak (fun γ => ⟨rfl, rfl, rfl, fun w' h => ex_laidT h rfl rfl Tryz.sizeOf26 rfl rfl rfl⟩) trivial)))))
 intro γ w6 l hM hl
 have H6 : Hid (Mm w6 ([(γ 3, zU x y zb)] ++ _) ∧ _) := wB H5 hM hl [3]
 have o5_3 := vB H5 hM hl 3
 clear hM hl l H5
 generalize γ 3 = γ5_3 at H6 o5_3 ⊢
 clear γ
 refine rN ?_
 refine zB 4 [.quiet (.slice (some ⟨γs3, 0, none⟩) 1 1), .quiet (.int .i64 0), .quiet (.agg (zU x y zb).toArray), .quiet (PT γs3 0)] H6 ?ho6 ?he6
 case ho6 => exact ar (ar (bT 0 Tryz.isAgg26 Tryz.sizeOf26 (ag trivial)))
 intro _ w7 H7
 clear H6
 refine zF (l := [4]) rfl ?_
 refine sG rfl (fun h => ex_storeT (vs := zU x y zb) h 1 rfl rfl rfl rfl Tryz.sizeOf84 rfl (Nat.le_of_ble_eq_true rfl)) 1 [_, (_, zU x y zb), _, _, _, _] H7 o_γs3 fun w8 H8 => ?_
 clear H7
 refine zE (zH (zA ?_))
 refine zB 1 [.quiet (.int .i64 1)] H8 ?ho7 ?he7
 case ho7 => exact av trivial
 intro _ w9 H9
 clear H8
 refine zF (l := [1]) rfl ?_
 refine zG (d := 16) rfl rfl rfl rfl ?_
 simp only [Act.put, sa, sz, ss]
 refine zE (zA ?_)
 refine zK (n := 0) ?_
 refine wp_seq ?_
 refine zB 1 [.quiet (.bool false)] H9 ?ho8 ?he8
 case ho8 => exact ag trivial
 intro _ w10 H10
 clear H9
 refine rN (wp_seq (wp_cond_false rfl ?_))
 refine wp_exit ?_
 repeat refine zY ?_
 refine zT ?_
 refine zA (wp_seq ?_)
 refine zC 10 [.bornX (fun g x y => .agg (G1 g (.func (.func 88) #[] #[PT x 0, PT y 0]) one four).toArray) (yB pB), .quiet (.slice (some ⟨γs3, 0, none⟩) 1 1), .quiet (.slice (some ⟨gn, 0, none⟩) 1 1), .over (.tuple #[.agg (zU r k zr).toArray, .int .i64 er]) 0 (yB pB), .quiet (.tuple #[.agg (zU r k zr).toArray, .int .i64 er]), .quiet (.agg (zU r k zr).toArray), .quiet (.int .i64 er), .made (zU 0 0 false) 84, .laid 7 (zU 0 0 false) (zU r k zr), .quiet (.int .i64 er)] (sB H10) ?ho9 ?he9 (hL := ?hL9)
 case hL9 => exact ⟨⟨_, rfl⟩, ⟨_, rfl⟩, trivial⟩
 case ho9 => exact ak (fun γ => ⟨rfl, fun w' h => eC call47 (CF.out w')⟩) (ar (ar (ak (fun γ => ⟨rfl, fun u w' h0 hge h1 hb hlt => by have h := Mm.over h0 hge h1 hb hlt; exact eC call76 (CS.out _ _ _ w' (h.pick [0, 4, 2, 6] rfl (by decide)))⟩) (ar (ag (ag (am (ex_madePN rfl) (ak (fun γ => ⟨rfl, rfl, rfl, fun w' h => ex_laidT h rfl rfl Tryz.sizeOf84 rfl rfl rfl⟩) (ar trivial)))))))))
 intro γ w11 l hM hl
 have H11 : Hid (Mm w11 ([(γ 0, yB pB), (γ 7, zU r k zr)] ++ _) ∧ _) := wB H10 hM hl [0, 7]
 have o9_0 := vB H10 hM hl 0
 have o9_7 := vB H10 hM hl 7
 clear hM hl l H10
 generalize γ 0 = γ9_0 at H11 o9_0 ⊢
 generalize γ 7 = γ9_7 at H11 o9_7 ⊢
 generalize γ 65536 = γ9_65536
 generalize γ 131072 = γ9_131072
 clear γ
 refine rN (wp_seq ?_)
 refine zB 2 [.quiet (.agg (zU r k zr).toArray), .quiet (.int .i64 er)] H11 ?ho10 ?he10
 case ho10 => exact bT 1 Tryz.isAgg84 Tryz.sizeOf84 (ar trivial)
 intro _ w12 H12
 clear H11
 refine zF (l := [2, 3]) rfl ?_
 refine sG rfl (fun h => ex_storeT (vs := zU r k zr) h 4 rfl rfl rfl rfl Tryz.sizeOf26 rfl (Nat.le_of_ble_eq_true rfl)) 4 [_, _, _, _, (_, zU r k zr), _, _, _] H12 o1_0 fun w13 H13 => ?_
 clear H12
 refine zG (d := 5) rfl rfl rfl rfl ?_
 simp only [Act.put, sa, sz, ss]
 refine zE (zA (wp_ret ?_))
 repeat (first | refine zM ?_ | refine zI ?_)
 have hf0 := var_T H13.out.1 4 rfl Tryz.isAgg26 Tryz.sizeOf26 rfl
 refine bodyPost_ret (v := .tuple #[.agg (zU r k zr).toArray, .int .i64 er]) (by simp [results, Tryz.results39, asAddr, Act.eval, hf0]) rfl ?_
 exact ⟨rfl, H13.out.2⟩
set_option maxHeartbeats 4000000 in
theorem Mul_1 (x y r k nn : Nat) (zb zr : Bool) (er : Int) (cs : ∀ gl gn w, Mm w [(0, dtab), (gl, zU x y zb), (gn, zD nn)] → Calls Tryz.prog 39 #[.slice (some ⟨gl, 0, none⟩) 1 1, .slice (some ⟨gn, 0, none⟩) 1 1] w (Rt w (.tuple #[.agg (zU r k zr).toArray, .int .i64 er]))) (w : World) (hm : Mm w [(0, dtab)]) :
  Calls Tryz.prog 17 #[.agg (zU x y zb).toArray, N nn] w (Rt w (.tuple #[.agg (zU r k zr).toArray, .int .i64 er])) := by
 have H0 : Hid (_ ∧ _) := ⟨hm, Below.refl w.heap.size w⟩
 clear hm
 have CS : Hid _ := cs
 clear cs
 go_enter Tryz.func17, Tryz.ntmps17
 refine wp_seq ?_
 refine zC 4 [.made (zU x y zb) 26, .made (zD nn) 24, .made (zU 0 0 false) 26, .quiet (.int .i64 0)] (sB H0) ?ho1 ?he1
 case ho1 => exact am (zW rfl rfl) (am (yF rfl rfl) (am (ex_madeP1 rfl) (ar trivial)))
 intro γ w1 l hM hl
 have H1 : Hid (Mm w1 ([(γ 0, zU x y zb), (γ 1, zD nn), (γ 2, zU 0 0 false)] ++ _) ∧ _) := wB H0 hM hl [0, 1, 2]
 have o1_0 := vB H0 hM hl 0
 have o1_1 := vB H0 hM hl 1
 have o1_2 := vB H0 hM hl 2
 clear hM hl l
 generalize γ 0 = γ1_0 at H1 o1_0 ⊢
 generalize γ 1 = γ1_1 at H1 o1_1 ⊢
 generalize γ 2 = γ1_2 at H1 o1_2 ⊢
 clear γ
 refine rN (wp_seq ?_)
 refine zB 1 [.quiet (.agg (zU x y zb).toArray)] H1 ?ho2 ?he2
 case ho2 => exact bT 0 Tryz.isAgg26 Tryz.sizeOf26 trivial
 intro _ w2 H2
 clear H1
 refine zF (l := [1, 2, 3, 4, 5, 6, 7, 8]) rfl ?_
 refine zG (d := 7) (v := .slice (some ⟨w2.heap.size, 0, none⟩) 1 1) (w' := w2.alloc (.cells (zU x y zb : List Value).toArray 26)) rfl rfl rfl (ex_bs63 rfl rfl) ?_
 simp only [Act.put, sa, sz, ss]
 have o_γs3 : Hid (w.heap.size ≤ w2.heap.size) := H2.out.2.size
 have H3 : Hid (Mm (w2.alloc (.cells (zU x y zb : List Value).toArray 26)) ((w2.heap.size, zU x y zb) :: [(γ1_0, zU x y zb), (γ1_1, zD nn), (γ1_2, zU 0 0 false), (0, dtab)]) ∧ Below w.heap.size w (w2.alloc (.cells (zU x y zb : List Value).toArray 26))) := ⟨H2.out.1.alloc _ 26 rfl, H2.out.2.alloc H2.out.2.size _⟩
 clear H2
 generalize hgw : w2.alloc (.cells (zU x y zb : List Value).toArray 26) = w3 at H3 ⊢
 clear hgw
 generalize w2.heap.size = γs3 at o_γs3 H3 ⊢
 refine zG (d := 8) (v := N nn) rfl rfl rfl (ex_load6 H3.out.1 2 rfl rfl rfl rfl) ?_
 simp only [Act.put, sa, sz, ss]
 refine zG (d := 9) (v := .slice (some ⟨w3.heap.size, 0, none⟩) 1 1) (w' := w3.alloc (.cells (zD nn : List Value).toArray 24)) rfl rfl rfl (ex_bs65 rfl rfl) ?_
 simp only [Act.put, sa, sz, ss]
 have o_γs4 : Hid (w.heap.size ≤ w3.heap.size) := H3.out.2.size
 have H4 : Hid (Mm (w3.alloc (.cells (zD nn : List Value).toArray 24)) ((w3.heap.size, zD nn) :: [(γs3, zU x y zb), (γ1_0, zU x y zb), (γ1_1, zD nn), (γ1_2, zU 0 0 false), (0, dtab)]) ∧ Below w.heap.size w (w3.alloc (.cells (zD nn : List Value).toArray 24))) := ⟨H3.out.1.alloc _ 24 rfl, H3.out.2.alloc H3.out.2.size _⟩
 clear H3
 generalize hgw : w3.alloc (.cells (zD nn : List Value).toArray 24) = w4 at H4 ⊢
 clear hgw
 generalize w3.heap.size = γs4 at o_γs4 H4 ⊢
 refine rest_enter (d := 10) (R := fun vv w' => vv = .tuple #[.agg (zU r k zr).toArray, .int .i64 er] ∧ Below w4.heap.size w4 w') rfl rfl rfl (exec_call (args := #[.slice (some ⟨γs3, 0, none⟩) 1 1, .slice (some ⟨γs4, 0, none⟩) 1 1]) rfl call39 rfl (mpn rfl)) (Calls.mono (CS.out _ _ w4 (H4.out.1.pick [5, 1, 0] rfl (by decide))) (fun e w2 hh => ⟨_, hh.1, rfl, hh.2⟩)) ?_
 rintro _ w5 ⟨rfl, hb⟩
 have H5 : Hid (_ ∧ _) := ⟨H4.out.1.below hb, H4.out.2.trans (hb.mono H4.out.2.size)⟩
 clear hb H4
 simp only [Act.put, sa, sz, ss]
 refine zG (d := 11) (v := .agg (zU r k zr).toArray) (w' := w5) rfl rfl rfl (by go_simp) ?_
 simp only [Act.put, sa, sz, ss]
 refine zG (d := 12) (v := .int .i64 er) (w' := w5) rfl rfl rfl (by go_simp) ?_
 simp only [Act.put, sa, sz, ss]
 refine sG rfl (fun h => ex_storeT (vs := zU r k zr) h 4 rfl rfl rfl rfl Tryz.sizeOf26 rfl (Nat.le_of_ble_eq_true rfl)) 4 [_, _, _, _, (_, zU r k zr), _] H5 o1_2 fun w6 H6 => ?_
 clear H5
 refine zG (d := 5) rfl rfl rfl rfl ?_
 simp only [Act.put, sa, sz, ss]
 refine zE (zA (wp_ret ?_))
 repeat (first | refine zM ?_ | refine zI ?_)
 have hf0 := var_T H6.out.1 4 rfl Tryz.isAgg26 Tryz.sizeOf26 rfl
 refine bodyPost_ret (v := .tuple #[.agg (zU r k zr).toArray, .int .i64 er]) (by simp [results, Tryz.results17, asAddr, Act.eval, hf0]) rfl ?_
 exact ⟨rfl, H6.out.2⟩
end Rg
end Go.Proofs.YtaomlijondiaoaaGreatDoor
end
