/- The law WordsTell, walked. -/
import Derived.Test.YtpcnhknkgiingaaB1
import Derived.Test.YtpcnhknkgiingaaC1
import Derived.Test.YtpcnhknkgiingaaD9
namespace Go.Proofs.Ytpcnhknkgiingaa
open Go.RowKit

theorem shv_big (a : Nat) (n : Int) (ha : a < big) : shv a n < big := by
  unfold shv
  split
  · exact big_pos
  · split
    · exact Nat.lt_of_le_of_lt (Nat.div_le_self _ _) ha
    · exact Nat.mod_lt _ big_pos
set_option maxHeartbeats 4000000 in
set_option maxRecDepth 100000 in
theorem tell_any (a b : Nat) (ha : a < big) (hb : b < big) (n : Int) (w : World) :
    Calls Try.prog 3 #[N a, N b, .int .i64 n] w fun e w' => e = .returned (.bool true) ∧ Below w.heap.size w w' := by
  have c9 := fun w => add_any a b ha hb w
  have c10 := fun w => add_ref a b ha hb w
  have c11 := fun w => sub_any a b ha hb w
  have c12 := fun w => sub_ref a b ha hb w
  have c13 := fun w => compare_any a b ha hb w
  have c14 := fun w => compare_ref a b ha hb w
  have c15 := fun w => mul_any a b ha hb w
  have c16 := fun w => mul_ref a b ha hb w
  have c17 := fun w => divide_any a b ha hb w
  have c18 := fun w => divide_ref a b ha hb w
  have c19 := fun w => shift_any a n ha w
  have c20 := fun w => shift_ref a n ha w
  have c21 := fun w => bit_any a n w
  have c22 := fun w => bit_ref a n w
  have c23 := fun w => len_any a ha w
  have c24 := fun w => len_ref a ha w
  have hw0 := wd_bd a 0
  obtain ⟨z, hz⟩ : ∃ z : Nat, (z : Int) = wd a 0 := ⟨(wd a 0).toNat, by omega⟩
  have hz1 : z < 18446744073709551616 := by omega
  have c25 := fun w => of_any z hz1 w
  have c26 := fun w => of_ref z hz1 w
  rw [hz] at c25 c26
  have es := fun w => run_eqN ((a + b) % big) ((a + b) % big) (mod_big _) (mod_big _) w
  have eu := fun w => run_eqN ((a + big - b) % big) ((a + big - b) % big) (mod_big _) (mod_big _) w
  have el := fun w => run_eqN (a * b % big) (a * b % big) (mod_big _) (mod_big _) w
  have hh : a * b / big < big := Nat.div_lt_of_lt_mul (Nat.mul_lt_mul_of_lt_of_lt ha hb)
  have ehi := fun w => run_eqN (a * b / big) (a * b / big) hh hh w
  have hq : (if b = 0 then 0 else a / b) < big := by
    split
    · exact big_pos
    · exact Nat.lt_of_le_of_lt (Nat.div_le_self _ _) ha
  have hr : (if b = 0 then 0 else a % b) < big := by
    split
    · exact big_pos
    · exact Nat.lt_of_le_of_lt (Nat.mod_le _ _) ha
  have eq1 := fun w => run_eqN _ _ hq hq w
  have er1 := fun w => run_eqN _ _ hr hr w
  have esh := fun w => run_eqN _ _ (shv_big a n ha) (shv_big a n ha) w
  have ez := fun w => run_eqN z z (small_big z hz1) (small_big z hz1) w
  simp only [decide_true] at es eu el ehi eq1 er1 esh ez
  generalize (a + b) % big = s at c9 c10 es
  generalize decide (big ≤ a + b) = c at c9 c10
  generalize (a + big - b) % big = u at c11 c12 eu
  generalize decide (a < b) = d at c11 c12
  generalize cmpv a b = cv at c13 c14
  generalize a * b % big = lo at c15 c16 el
  generalize a * b / big = hi at c15 c16 ehi hh
  generalize (if b = 0 then 0 else a / b) = q at c17 c18 eq1 hq
  generalize (if b = 0 then 0 else a % b) = r at c17 c18 er1 hr
  generalize (if b = 0 then (2 : Int) else 0) = g at c17 c18
  generalize shv a n = sh at c19 c20 esh
  generalize bitz a n = bz at c21 c22
  generalize bl a = L at c23 c24
  have C9 : Hid _ := c9
  have C10 : Hid _ := c10
  have C11 : Hid _ := c11
  have C12 : Hid _ := c12
  have C13 : Hid _ := c13
  have C14 : Hid _ := c14
  have C15 : Hid _ := c15
  have C16 : Hid _ := c16
  have C17 : Hid _ := c17
  have C18 : Hid _ := c18
  have C19 : Hid _ := c19
  have C20 : Hid _ := c20
  have C21 : Hid _ := c21
  have C22 : Hid _ := c22
  have C23 : Hid _ := c23
  have C24 : Hid _ := c24
  have C25 : Hid _ := c25
  have C26 : Hid _ := c26
  clear c9 c10 c11 c12 c13 c14 c15 c16 c17 c18 c19 c20 c21 c22 c23 c24 c25 c26 hh hq hr hz hz1 hw0 ha hb
  go_enter Try.func3, Try.ntmps3
  go_wp2_with fail
  refine (C9.out _).mono ?_
  rintro e w1 ⟨rfl, hb1⟩
  have R1 := (((Rws.nil w).alloc a rfl).alloc b (g := w.heap.size + 1) (by simp)).below hb1
  have B1 : Below w.heap.size w w1 := (((Below.refl _ _).alloc (Nat.le_refl _) _).alloc (by simp) _).trans (hb1.mono (by simp; omega))
  obtain ⟨pb, b0, b1, b2, b3, b4, b5⟩ := R1.at (g := w.heap.size + 1) (v := b) (by simp)
  have pb' := (by have := pb; omega : w.heap.size < w1.heap.size)
  obtain ⟨pa, a0, a1, a2, a3, a4, a5⟩ := R1.at (g := w.heap.size) (v := a) (by simp)
  have pa' := pa
  have H1 : Hid (_ ∧ _) := ⟨R1, B1⟩
  clear R1 B1 hb1
  go_wp2_with fail
  refine (C10.out _).mono ?_
  rintro e w2 ⟨rfl, hb2⟩
  have R2 := (H1.out.1.alloc s (g := w1.heap.size) (by first | rfl | simp)).below hb2
  have B2 : Below w.heap.size w w2 := (H1.out.2.alloc (by first | exact H1.out.2.size | (simp; have := H1.out.2.size; omega)) (O6 s)).trans (hb2.mono (by first | exact H1.out.2.size | (simp; have := H1.out.2.size; omega)))
  clear pa' pa a0 a1 a2 a3 a4 a5 pb' pb b0 b1 b2 b3 b4 b5
  obtain ⟨pb, b0, b1, b2, b3, b4, b5⟩ := R2.at (g := w.heap.size + 1) (v := b) (by simp)
  have pb' := (by have := pb; omega : w.heap.size < w2.heap.size)
  obtain ⟨pa, a0, a1, a2, a3, a4, a5⟩ := R2.at (g := w.heap.size) (v := a) (by simp)
  have pa' := pa
  have H2 : Hid (_ ∧ _) := ⟨R2, B2⟩
  clear R2 B2 hb2 H1
  go_wp2_with fail
  refine (C11.out _).mono ?_
  rintro e w3 ⟨rfl, hb3⟩
  have R3 := (H2.out.1.alloc s (g := w2.heap.size) (by first | rfl | simp)).below hb3
  have B3 : Below w.heap.size w w3 := (H2.out.2.alloc (by first | exact H2.out.2.size | (simp; have := H2.out.2.size; omega)) (O6 s)).trans (hb3.mono (by first | exact H2.out.2.size | (simp; have := H2.out.2.size; omega)))
  clear pa' pa a0 a1 a2 a3 a4 a5 pb' pb b0 b1 b2 b3 b4 b5
  obtain ⟨pb, b0, b1, b2, b3, b4, b5⟩ := R3.at (g := w.heap.size + 1) (v := b) (by simp)
  have pb' := (by have := pb; omega : w.heap.size < w3.heap.size)
  obtain ⟨pa, a0, a1, a2, a3, a4, a5⟩ := R3.at (g := w.heap.size) (v := a) (by simp)
  have pa' := pa
  have H3 : Hid (_ ∧ _) := ⟨R3, B3⟩
  clear R3 B3 hb3 H2
  go_wp2_with fail
  refine (C12.out _).mono ?_
  rintro e w4 ⟨rfl, hb4⟩
  have R4 := (H3.out.1.alloc u (g := w3.heap.size) (by first | rfl | simp)).below hb4
  have B4 : Below w.heap.size w w4 := (H3.out.2.alloc (by first | exact H3.out.2.size | (simp; have := H3.out.2.size; omega)) (O6 u)).trans (hb4.mono (by first | exact H3.out.2.size | (simp; have := H3.out.2.size; omega)))
  clear pa' pa a0 a1 a2 a3 a4 a5 pb' pb b0 b1 b2 b3 b4 b5
  have H4 : Hid (_ ∧ _) := ⟨R4, B4⟩
  clear R4 B4 hb4 H3
  go_wp2_with fail
  have R4 := H4.out.1.alloc u (g := w4.heap.size) rfl
  have B4 := H4.out.2.alloc H4.out.2.size (O6 u)
  have H4' : Hid (_ ∧ _) := ⟨R4, B4⟩
  clear R4 B4 H4
  refine region_law (by kernel_rfl) [.quiet (N s), .quiet (N s), .quiet (.bool false), .quiet (.bool false), .quiet (.bool c), .quiet (.bool c), .quiet (.bool false), .quiet (.bool false), .quiet (.bool false), .quiet (N u), .quiet (N u), .quiet (.bool false), .quiet (.bool false), .quiet (.bool false), .quiet (.bool d), .quiet (.bool d), .quiet (.bool false), .quiet (.bool false), .quiet (.bool false), .quiet (N a), .quiet (N b), .call (.int .i64 cv), .quiet (N a), .quiet (N b), .call (.int .i64 cv), .quiet (.bool false), .quiet (.bool false)] (fun w' => Rws w' [(w4.heap.size, u), (w3.heap.size, u), (w2.heap.size, s), (w1.heap.size, s), (w.heap.size + 1, b), (w.heap.size, a)]) ?F1 (fun γ => ?hF) (by kernel_rfl) ?hL ?hS ?ho ?he
  case hF =>
    simp only [fill, Kind.val, Act.put, List.setIfInBounds_toArray, List.set_cons_zero, List.set_cons_succ]
    exact rfl
  case hL => exact trivial
  case hS => exact fun w' hb => Rws.below H4'.out.1 hb
  case ho =>
    refine AllOk.cons ?_ ?_
    · exact fun γ => ⟨rfl, fun w' h => exec_load6 h (by simp) rfl rfl⟩
    refine AllOk.cons ?_ ?_
    · exact fun γ => ⟨rfl, fun w' h => exec_load6 h (by simp) rfl rfl⟩
    refine AllOk.cons ?_ ?_
    · exact fun γ => ⟨rfl, fun w' _ => exec_neq6 es rfl rfl rfl⟩
    refine AllOk.cons ?_ ?_
    · exact fun γ => ⟨rfl, fun w' _ => rfl⟩
    refine AllOk.cons ?_ ?_
    · exact fun γ => ⟨rfl, fun w' _ => rfl⟩
    refine AllOk.cons ?_ ?_
    · exact fun γ => ⟨rfl, fun w' _ => rfl⟩
    refine AllOk.cons ?_ ?_
    · (refine fun γ => ⟨rfl, fun w' h => ?_⟩; clear h; go_simp)
    refine AllOk.cons ?_ ?_
    · (refine fun γ => ⟨rfl, fun w' h => ?_⟩; clear h; go_simp)
    refine AllOk.cons ?_ ?_
    · exact fun γ => ⟨rfl, fun w' _ => rfl⟩
    refine AllOk.cons ?_ ?_
    · exact fun γ => ⟨rfl, fun w' h => exec_load6 h (by simp) rfl rfl⟩
    refine AllOk.cons ?_ ?_
    · exact fun γ => ⟨rfl, fun w' h => exec_load6 h (by simp) rfl rfl⟩
    refine AllOk.cons ?_ ?_
    · exact fun γ => ⟨rfl, fun w' _ => exec_neq6 eu rfl rfl rfl⟩
    refine AllOk.cons ?_ ?_
    · (refine fun γ => ⟨rfl, fun w' h => ?_⟩; clear h; go_simp)
    refine AllOk.cons ?_ ?_
    · exact fun γ => ⟨rfl, fun w' _ => rfl⟩
    refine AllOk.cons ?_ ?_
    · exact fun γ => ⟨rfl, fun w' _ => rfl⟩
    refine AllOk.cons ?_ ?_
    · exact fun γ => ⟨rfl, fun w' _ => rfl⟩
    refine AllOk.cons ?_ ?_
    · (refine fun γ => ⟨rfl, fun w' h => ?_⟩; clear h; go_simp)
    refine AllOk.cons ?_ ?_
    · (refine fun γ => ⟨rfl, fun w' h => ?_⟩; clear h; go_simp)
    refine AllOk.cons ?_ ?_
    · exact fun γ => ⟨rfl, fun w' _ => rfl⟩
    refine AllOk.cons ?_ ?_
    · exact fun γ => ⟨rfl, fun w' h => exec_load6 h (by simp) rfl rfl⟩
    refine AllOk.cons ?_ ?_
    · exact fun γ => ⟨rfl, fun w' h => exec_load6 h (by simp) rfl rfl⟩
    refine AllOk.cons ?_ ?_
    · exact fun γ => ⟨rfl, fun w' h => ⟨13, #[N a, N b], exec_call rfl call13 rfl (by simp only [List.map_toArray, List.map_cons, List.map_nil]; rfl), C13.out w'⟩⟩
    refine AllOk.cons ?_ ?_
    · exact fun γ => ⟨rfl, fun w' h => exec_load6 h (by simp) rfl rfl⟩
    refine AllOk.cons ?_ ?_
    · exact fun γ => ⟨rfl, fun w' h => exec_load6 h (by simp) rfl rfl⟩
    refine AllOk.cons ?_ ?_
    · exact fun γ => ⟨rfl, fun w' h => ⟨14, #[N a, N b], exec_call rfl call14 rfl (by simp only [List.map_toArray, List.map_cons, List.map_nil]; rfl), C14.out w'⟩⟩
    refine AllOk.cons ?_ ?_
    · (refine fun γ => ⟨rfl, fun w' h => ?_⟩; clear h; go_simp)
    refine AllOk.cons ?_ ?_
    · (refine fun γ => ⟨rfl, fun w' h => ?_⟩; clear h; go_simp)
    exact trivial
  case he =>
    intro γ w5 l hM hl
    have R5 := H4'.out.1.below hM.below
    have B5 : Below w.heap.size w w5 := H4'.out.2.trans (hM.below.mono H4'.out.2.size)
    obtain ⟨pb, b0, b1, b2, b3, b4, b5⟩ := R5.at (g := w.heap.size + 1) (v := b) (by simp)
    have pb' := (by have := pb; omega : w.heap.size < w5.heap.size)
    obtain ⟨pa, a0, a1, a2, a3, a4, a5⟩ := R5.at (g := w.heap.size) (v := a) (by simp)
    have pa' := pa
    have H5 : Hid (_ ∧ _) := ⟨R5, B5⟩
    clear R5 B5 hM hl l H4' γ
    go_wp2_with fail
    refine (C15.out _).mono ?_
    rintro e w6 ⟨rfl, hb6⟩
    have R6 := H5.out.1.below hb6
    have B6 : Below w.heap.size w w6 := H5.out.2.trans (hb6.mono (by first | exact H5.out.2.size | (simp; have := H5.out.2.size; omega)))
    clear pa' pa a0 a1 a2 a3 a4 a5 pb' pb b0 b1 b2 b3 b4 b5
    obtain ⟨pb, b0, b1, b2, b3, b4, b5⟩ := R6.at (g := w.heap.size + 1) (v := b) (by simp)
    have pb' := (by have := pb; omega : w.heap.size < w6.heap.size)
    obtain ⟨pa, a0, a1, a2, a3, a4, a5⟩ := R6.at (g := w.heap.size) (v := a) (by simp)
    have pa' := pa
    have H6 : Hid (_ ∧ _) := ⟨R6, B6⟩
    clear R6 B6 hb6 H5
    go_wp2_with fail
    refine (C16.out _).mono ?_
    rintro e w7 ⟨rfl, hb7⟩
    have R7 := ((H6.out.1.alloc lo (g := w6.heap.size) (by first | rfl | simp)).alloc hi (g := w6.heap.size + 1) (by first | rfl | simp)).below hb7
    have B7 : Below w.heap.size w w7 := ((H6.out.2.alloc (by first | exact H6.out.2.size | (simp; have := H6.out.2.size; omega)) (O6 lo)).alloc (by first | exact H6.out.2.size | (simp; have := H6.out.2.size; omega)) (O6 hi)).trans (hb7.mono (by first | exact H6.out.2.size | (simp; have := H6.out.2.size; omega)))
    clear pa' pa a0 a1 a2 a3 a4 a5 pb' pb b0 b1 b2 b3 b4 b5
    obtain ⟨pb, b0, b1, b2, b3, b4, b5⟩ := R7.at (g := w.heap.size + 1) (v := b) (by simp)
    have pb' := (by have := pb; omega : w.heap.size < w7.heap.size)
    obtain ⟨pa, a0, a1, a2, a3, a4, a5⟩ := R7.at (g := w.heap.size) (v := a) (by simp)
    have pa' := pa
    have H7 : Hid (_ ∧ _) := ⟨R7, B7⟩
    clear R7 B7 hb7 H6
    go_wp2_with fail
    refine (C17.out _).mono ?_
    rintro e w8 ⟨rfl, hb8⟩
    have R8 := ((H7.out.1.alloc lo (g := w7.heap.size) (by first | rfl | simp)).alloc hi (g := w7.heap.size + 1) (by first | rfl | simp)).below hb8
    have B8 : Below w.heap.size w w8 := ((H7.out.2.alloc (by first | exact H7.out.2.size | (simp; have := H7.out.2.size; omega)) (O6 lo)).alloc (by first | exact H7.out.2.size | (simp; have := H7.out.2.size; omega)) (O6 hi)).trans (hb8.mono (by first | exact H7.out.2.size | (simp; have := H7.out.2.size; omega)))
    clear pa' pa a0 a1 a2 a3 a4 a5 pb' pb b0 b1 b2 b3 b4 b5
    obtain ⟨pb, b0, b1, b2, b3, b4, b5⟩ := R8.at (g := w.heap.size + 1) (v := b) (by simp)
    have pb' := (by have := pb; omega : w.heap.size < w8.heap.size)
    obtain ⟨pa, a0, a1, a2, a3, a4, a5⟩ := R8.at (g := w.heap.size) (v := a) (by simp)
    have pa' := pa
    have H8 : Hid (_ ∧ _) := ⟨R8, B8⟩
    clear R8 B8 hb8 H7
    go_wp2_with fail
    refine (C18.out _).mono ?_
    rintro e w9 ⟨rfl, hb9⟩
    have R9 := ((H8.out.1.alloc q (g := w8.heap.size) (by first | rfl | simp)).alloc r (g := w8.heap.size + 1) (by first | rfl | simp)).below hb9
    have B9 : Below w.heap.size w w9 := ((H8.out.2.alloc (by first | exact H8.out.2.size | (simp; have := H8.out.2.size; omega)) (O6 q)).alloc (by first | exact H8.out.2.size | (simp; have := H8.out.2.size; omega)) (O6 r)).trans (hb9.mono (by first | exact H8.out.2.size | (simp; have := H8.out.2.size; omega)))
    clear pa' pa a0 a1 a2 a3 a4 a5 pb' pb b0 b1 b2 b3 b4 b5
    have H9 : Hid (_ ∧ _) := ⟨R9, B9⟩
    clear R9 B9 hb9 H8
    go_wp2_with fail
    have R9 := (H9.out.1.alloc q (g := w9.heap.size) rfl).alloc r (g := w9.heap.size + 1) (by simp)
    have B9 := (H9.out.2.alloc H9.out.2.size (O6 q)).alloc (by simp; have := H9.out.2.size; omega) (O6 r)
    have H9' : Hid (_ ∧ _) := ⟨R9, B9⟩
    clear R9 B9 H9
    refine region_law (by kernel_rfl) [.quiet (N lo), .quiet (N lo), .quiet (.bool true), .quiet (.bool true), .quiet (N hi), .quiet (N hi), .quiet (.bool true), .quiet (.bool true), .quiet (.bool true), .quiet (N q), .quiet (N q), .quiet (.bool true), .quiet (.bool true), .quiet (.bool true), .quiet (N r), .quiet (N r), .quiet (.bool true), .quiet (.bool true), .quiet (.bool true), .quiet (.int .i64 g), .quiet (.int .i64 g), .quiet (.bool true), .quiet (.bool true), .quiet (.bool true), .quiet (N a), .quiet (.int .i64 n), .call (N sh), .quiet (N a), .quiet (.int .i64 n), .call (N sh), .quiet (.bool true), .quiet (.bool true), .quiet (.bool true), .quiet (N a), .quiet (.int .i64 n), .call (.int .i64 bz), .quiet (N a), .quiet (.int .i64 n), .call (.int .i64 bz), .quiet (.bool true), .quiet (.bool true), .quiet (.bool true), .quiet (N a), .call (.int .i64 L), .quiet (N a), .call (.int .i64 L), .quiet (.bool true), .quiet (.bool true), .quiet (.bool true), .quiet (.pointer (some ⟨w.heap.size, 0, none⟩)), .quiet (.int .u64 (wd a 0)), .call (N z), .quiet (.pointer (some ⟨w.heap.size, 0, none⟩)), .quiet (.int .u64 (wd a 0)), .call (N z), .quiet (.bool true), .quiet (.bool true), .quiet (.bool true)] (fun w' => Rws w' [(w9.heap.size + 1, r), (w9.heap.size, q), (w8.heap.size + 1, r), (w8.heap.size, q), (w7.heap.size + 1, hi), (w7.heap.size, lo), (w6.heap.size + 1, hi), (w6.heap.size, lo), (w4.heap.size, u), (w3.heap.size, u), (w2.heap.size, s), (w1.heap.size, s), (w.heap.size + 1, b), (w.heap.size, a)]) ?F2 (fun γ => ?hF) (by kernel_rfl) ?hL ?hS ?ho ?he
    case hF =>
      simp only [fill, Kind.val, Act.put, List.setIfInBounds_toArray, List.set_cons_zero, List.set_cons_succ]
      exact rfl
    case hL => exact trivial
    case hS => exact fun w' hb => Rws.below H9'.out.1 hb
    case ho =>
      refine AllOk.cons ?_ ?_
      · exact fun γ => ⟨rfl, fun w' h => exec_load6 h (by simp) rfl rfl⟩
      refine AllOk.cons ?_ ?_
      · exact fun γ => ⟨rfl, fun w' h => exec_load6 h (by simp) rfl rfl⟩
      refine AllOk.cons ?_ ?_
      · exact fun γ => ⟨rfl, fun w' _ => exec_eq6 el rfl rfl rfl⟩
      refine AllOk.cons ?_ ?_
      · exact fun γ => ⟨rfl, fun w' _ => rfl⟩
      refine AllOk.cons ?_ ?_
      · exact fun γ => ⟨rfl, fun w' h => exec_load6 h (by simp) rfl rfl⟩
      refine AllOk.cons ?_ ?_
      · exact fun γ => ⟨rfl, fun w' h => exec_load6 h (by simp) rfl rfl⟩
      refine AllOk.cons ?_ ?_
      · exact fun γ => ⟨rfl, fun w' _ => exec_eq6 ehi rfl rfl rfl⟩
      refine AllOk.cons ?_ ?_
      · (refine fun γ => ⟨rfl, fun w' h => ?_⟩; clear h; go_simp)
      refine AllOk.cons ?_ ?_
      · exact fun γ => ⟨rfl, fun w' _ => rfl⟩
      refine AllOk.cons ?_ ?_
      · exact fun γ => ⟨rfl, fun w' h => exec_load6 h (by simp) rfl rfl⟩
      refine AllOk.cons ?_ ?_
      · exact fun γ => ⟨rfl, fun w' h => exec_load6 h (by simp) rfl rfl⟩
      refine AllOk.cons ?_ ?_
      · exact fun γ => ⟨rfl, fun w' _ => exec_eq6 eq1 rfl rfl rfl⟩
      refine AllOk.cons ?_ ?_
      · (refine fun γ => ⟨rfl, fun w' h => ?_⟩; clear h; go_simp)
      refine AllOk.cons ?_ ?_
      · exact fun γ => ⟨rfl, fun w' _ => rfl⟩
      refine AllOk.cons ?_ ?_
      · exact fun γ => ⟨rfl, fun w' h => exec_load6 h (by simp) rfl rfl⟩
      refine AllOk.cons ?_ ?_
      · exact fun γ => ⟨rfl, fun w' h => exec_load6 h (by simp) rfl rfl⟩
      refine AllOk.cons ?_ ?_
      · exact fun γ => ⟨rfl, fun w' _ => exec_eq6 er1 rfl rfl rfl⟩
      refine AllOk.cons ?_ ?_
      · (refine fun γ => ⟨rfl, fun w' h => ?_⟩; clear h; go_simp)
      refine AllOk.cons ?_ ?_
      · exact fun γ => ⟨rfl, fun w' _ => rfl⟩
      refine AllOk.cons ?_ ?_
      · exact fun γ => ⟨rfl, fun w' _ => rfl⟩
      refine AllOk.cons ?_ ?_
      · exact fun γ => ⟨rfl, fun w' _ => rfl⟩
      refine AllOk.cons ?_ ?_
      · (refine fun γ => ⟨rfl, fun w' h => ?_⟩; clear h; go_simp)
      refine AllOk.cons ?_ ?_
      · (refine fun γ => ⟨rfl, fun w' h => ?_⟩; clear h; go_simp)
      refine AllOk.cons ?_ ?_
      · exact fun γ => ⟨rfl, fun w' _ => rfl⟩
      refine AllOk.cons ?_ ?_
      · exact fun γ => ⟨rfl, fun w' h => exec_load6 h (by simp) rfl rfl⟩
      refine AllOk.cons ?_ ?_
      · exact fun γ => ⟨rfl, fun w' _ => rfl⟩
      refine AllOk.cons ?_ ?_
      · exact fun γ => ⟨rfl, fun w' h => ⟨19, #[N a, .int .i64 n], exec_call rfl call19 rfl (by simp only [List.map_toArray, List.map_cons, List.map_nil]; rfl), C19.out w'⟩⟩
      refine AllOk.cons ?_ ?_
      · exact fun γ => ⟨rfl, fun w' h => exec_load6 h (by simp) rfl rfl⟩
      refine AllOk.cons ?_ ?_
      · exact fun γ => ⟨rfl, fun w' _ => rfl⟩
      refine AllOk.cons ?_ ?_
      · exact fun γ => ⟨rfl, fun w' h => ⟨20, #[N a, .int .i64 n], exec_call rfl call20 rfl (by simp only [List.map_toArray, List.map_cons, List.map_nil]; rfl), C20.out w'⟩⟩
      refine AllOk.cons ?_ ?_
      · exact fun γ => ⟨rfl, fun w' _ => exec_eq6 esh rfl rfl rfl⟩
      refine AllOk.cons ?_ ?_
      · (refine fun γ => ⟨rfl, fun w' h => ?_⟩; clear h; go_simp)
      refine AllOk.cons ?_ ?_
      · exact fun γ => ⟨rfl, fun w' _ => rfl⟩
      refine AllOk.cons ?_ ?_
      · exact fun γ => ⟨rfl, fun w' h => exec_load6 h (by simp) rfl rfl⟩
      refine AllOk.cons ?_ ?_
      · exact fun γ => ⟨rfl, fun w' _ => rfl⟩
      refine AllOk.cons ?_ ?_
      · exact fun γ => ⟨rfl, fun w' h => ⟨21, #[N a, .int .i64 n], exec_call rfl call21 rfl (by simp only [List.map_toArray, List.map_cons, List.map_nil]; rfl), C21.out w'⟩⟩
      refine AllOk.cons ?_ ?_
      · exact fun γ => ⟨rfl, fun w' h => exec_load6 h (by simp) rfl rfl⟩
      refine AllOk.cons ?_ ?_
      · exact fun γ => ⟨rfl, fun w' _ => rfl⟩
      refine AllOk.cons ?_ ?_
      · exact fun γ => ⟨rfl, fun w' h => ⟨22, #[N a, .int .i64 n], exec_call rfl call22 rfl (by simp only [List.map_toArray, List.map_cons, List.map_nil]; rfl), C22.out w'⟩⟩
      refine AllOk.cons ?_ ?_
      · (refine fun γ => ⟨rfl, fun w' h => ?_⟩; clear h; go_simp)
      refine AllOk.cons ?_ ?_
      · (refine fun γ => ⟨rfl, fun w' h => ?_⟩; clear h; go_simp)
      refine AllOk.cons ?_ ?_
      · exact fun γ => ⟨rfl, fun w' _ => rfl⟩
      refine AllOk.cons ?_ ?_
      · exact fun γ => ⟨rfl, fun w' h => exec_load6 h (by simp) rfl rfl⟩
      refine AllOk.cons ?_ ?_
      · exact fun γ => ⟨rfl, fun w' h => ⟨23, #[N a], exec_call rfl call23 rfl (by simp only [List.map_toArray, List.map_cons, List.map_nil]; rfl), C23.out w'⟩⟩
      refine AllOk.cons ?_ ?_
      · exact fun γ => ⟨rfl, fun w' h => exec_load6 h (by simp) rfl rfl⟩
      refine AllOk.cons ?_ ?_
      · exact fun γ => ⟨rfl, fun w' h => ⟨24, #[N a], exec_call rfl call24 rfl (by simp only [List.map_toArray, List.map_cons, List.map_nil]; rfl), C24.out w'⟩⟩
      refine AllOk.cons ?_ ?_
      · (refine fun γ => ⟨rfl, fun w' h => ?_⟩; clear h; go_simp)
      refine AllOk.cons ?_ ?_
      · (refine fun γ => ⟨rfl, fun w' h => ?_⟩; clear h; go_simp)
      refine AllOk.cons ?_ ?_
      · exact fun γ => ⟨rfl, fun w' _ => rfl⟩
      refine AllOk.cons ?_ ?_
      · (refine fun γ => ⟨rfl, fun w' h => ?_⟩; clear h; go_simp)
      refine AllOk.cons ?_ ?_
      · (refine fun γ => ⟨rfl, fun w' h => ?_⟩; obtain ⟨h0, c0, c1, c2, c3, c4, c5⟩ := Rws.at h (g := w.heap.size) (v := a) (by simp); clear h; go_simp)
      refine AllOk.cons ?_ ?_
      · exact fun γ => ⟨rfl, fun w' h => ⟨25, #[.int .u64 (wd a 0)], exec_call rfl call25 rfl (by simp only [List.map_toArray, List.map_cons, List.map_nil]; rfl), C25.out w'⟩⟩
      refine AllOk.cons ?_ ?_
      · (refine fun γ => ⟨rfl, fun w' h => ?_⟩; clear h; go_simp)
      refine AllOk.cons ?_ ?_
      · (refine fun γ => ⟨rfl, fun w' h => ?_⟩; obtain ⟨h0, c0, c1, c2, c3, c4, c5⟩ := Rws.at h (g := w.heap.size) (v := a) (by simp); clear h; go_simp)
      refine AllOk.cons ?_ ?_
      · exact fun γ => ⟨rfl, fun w' h => ⟨26, #[.int .u64 (wd a 0)], exec_call rfl call26 rfl (by simp only [List.map_toArray, List.map_cons, List.map_nil]; rfl), C26.out w'⟩⟩
      refine AllOk.cons ?_ ?_
      · exact fun γ => ⟨rfl, fun w' _ => exec_eq6 ez rfl rfl rfl⟩
      refine AllOk.cons ?_ ?_
      · (refine fun γ => ⟨rfl, fun w' h => ?_⟩; clear h; go_simp)
      refine AllOk.cons ?_ ?_
      · exact fun γ => ⟨rfl, fun w' _ => rfl⟩
      exact trivial
    case he =>
      intro γ w10 l hM hl
      have B10 : Below w.heap.size w w10 := H9'.out.2.trans (hM.below.mono H9'.out.2.size)
      clear hM hl l H9'
      go_wp2
      go_ret
      exact ⟨rfl, B10⟩
end Go.Proofs.Ytpcnhknkgiingaa
