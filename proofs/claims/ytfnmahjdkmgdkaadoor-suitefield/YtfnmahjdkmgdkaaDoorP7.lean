/- Texts of the proof, joined. -/
import Derived.Test.YtfnmahjdkmgdkaaDoorP6
section
namespace Go.Proofs.YtfnmahjdkmgdkaaDoor
open Go.RowKit
namespace Rg
namespace Lt
theorem small_mul {p k a : Nat} (hp : Pr p) (hk : k ≤ 8) (ha : a < p) : k * a < 18446744073709551616 :=
  Nat.lt_of_le_of_lt (Nat.mul_le_mul hk (Nat.le_of_lt ha)) (by have := hp.hi; omega)
/-- Three numbers: a point (x / z z, y / z z z), of z 0 the zero. -/
abbrev T3 : Type := Nat × Nat × Nat
structure Lt3 (p : Nat) (t : T3) : Prop where
  x : t.1 < p
  y : t.2.1 < p
  z : t.2.2 < p
/-- A triple's cells. -/
abbrev tc (t : T3) : List Value := tr t.1 t.2.1 t.2.2
/-- The slope of a point and itself. -/
def tR (p x z : Nat) : Nat := pl p (tm p 3 (tm p x x)) (tm p (tm p z z) (tm p z z))
def tM (p x y : Nat) : Nat := tm p 4 (tm p x (tm p y y))
def tX (p x y z : Nat) : Nat := mi p (tm p (tR p x z) (tR p x z)) (pl p (tM p x y) (tM p x y))
def tY (p x y z : Nat) : Nat := mi p (tm p (tR p x z) (mi p (tM p x y) (tX p x y z))) (tm p 8 (tm p (tm p y y) (tm p y y)))
def twT (p : Nat) (t : T3) : T3 := (tX p t.1 t.2.1 t.2.2, tY p t.1 t.2.1 t.2.2, tm p 2 (tm p t.2.1 t.2.2))
/-- A point and a triple. -/
def jU (p x z X : Nat) : Nat := mi p (tm p X (tm p z z)) x
def jS (p y z Y : Nat) : Nat := mi p (tm p Y (tm p z (tm p z z))) y
def jC (p u : Nat) : Nat := tm p (tm p u u) u
def jM (p x u : Nat) : Nat := tm p x (tm p u u)
def jX (p x u s : Nat) : Nat := mi p (mi p (tm p s s) (jC p u)) (pl p (jM p x u) (jM p x u))
def jY (p x y u s : Nat) : Nat := mi p (tm p s (mi p (jM p x u) (jX p x u s))) (tm p y (jC p u))
def jnT (p : Nat) (t : T3) (X Y : Nat) (Z : Bool) : T3 :=
  if Z = true then t else if t.2.2 = 0 then (X, Y, 1) else if jU p t.1 t.2.2 X = 0 ∧ jS p t.2.1 t.2.2 Y = 0 then twT p t
  else (jX p t.1 (jU p t.1 t.2.2 X) (jS p t.2.1 t.2.2 Y), jY p t.1 t.2.1 (jU p t.1 t.2.2 X) (jS p t.2.1 t.2.2 Y), tm p t.2.2 (jU p t.1 t.2.2 X))
def jnR (p : Nat) (t : T3) (X Y : Nat) (Z : Bool) : Nat :=
  if Z = true then 0 else if t.2.2 = 0 then 0 else if jU p t.1 t.2.2 X = 0 ∧ jS p t.2.1 t.2.2 Y = 0 then tR p t.1 t.2.2 else jS p t.2.1 t.2.2 Y
section
variable {p : Nat} {t : T3} {X Y : Nat}
theorem jnT_0 (h : t.2.2 = 0) : jnT p t X Y false = (X, Y, 1) := by unfold jnT; rw [if_neg Bool.false_ne_true, if_pos h]
theorem jnT_s (h : t.2.2 ≠ 0) (h1 : jU p t.1 t.2.2 X = 0 ∧ jS p t.2.1 t.2.2 Y = 0) : jnT p t X Y false = twT p t := by unfold jnT; rw [if_neg Bool.false_ne_true, if_neg h, if_pos h1]
theorem jnT_g (h : t.2.2 ≠ 0) (h1 : ¬ (jU p t.1 t.2.2 X = 0 ∧ jS p t.2.1 t.2.2 Y = 0)) : jnT p t X Y false = (jX p t.1 (jU p t.1 t.2.2 X) (jS p t.2.1 t.2.2 Y), jY p t.1 t.2.1 (jU p t.1 t.2.2 X) (jS p t.2.1 t.2.2 Y), tm p t.2.2 (jU p t.1 t.2.2 X)) := by unfold jnT; rw [if_neg Bool.false_ne_true, if_neg h, if_neg h1]
theorem jnR_0 (h : t.2.2 = 0) : jnR p t X Y false = 0 := by unfold jnR; rw [if_neg Bool.false_ne_true, if_pos h]
theorem jnR_s (h : t.2.2 ≠ 0) (h1 : jU p t.1 t.2.2 X = 0 ∧ jS p t.2.1 t.2.2 Y = 0) : jnR p t X Y false = tR p t.1 t.2.2 := by unfold jnR; rw [if_neg Bool.false_ne_true, if_neg h, if_pos h1]
theorem jnR_g (h : t.2.2 ≠ 0) (h1 : ¬ (jU p t.1 t.2.2 X = 0 ∧ jS p t.2.1 t.2.2 Y = 0)) : jnR p t X Y false = jS p t.2.1 t.2.2 Y := by unfold jnR; rw [if_neg Bool.false_ne_true, if_neg h, if_neg h1]
end
theorem tw_lt {p : Nat} (hp : Pr p) (t : T3) : Lt3 p (twT p t) := ⟨mi_lt hp, mi_lt hp, tm_lt hp⟩
theorem jn_lt {p : Nat} (hp : Pr p) {t : T3} (ht : Lt3 p t) {X Y : Nat} {Z : Bool} (hX : X < p) (hY : Y < p) : Lt3 p (jnT p t X Y Z) := by
  unfold jnT
  split
  · exact ht
  · split
    · exact ⟨hX, hY, one_lt hp⟩
    · split
      · exact tw_lt hp t
      · exact ⟨mi_lt hp, mi_lt hp, tm_lt hp⟩
/-- A point multiplied. -/
def mtf (p X Y : Nat) (Z : Bool) : Nat → Nat → T3
  | 0, _ => (0, 0, 0)
  | f + 1, n => if n = 0 then (0, 0, 0) else if n % 2 = 1 then jnT p (twT p (mtf p X Y Z f (n / 2))) X Y Z else twT p (mtf p X Y Z f (n / 2))
def mt (p X Y : Nat) (Z : Bool) (n : Nat) : T3 := mtf p X Y Z 64 n
theorem mtf_up (p X Y : Nat) (Z : Bool) : ∀ (f n : Nat), n < 2 ^ f → mtf p X Y Z f n = mtf p X Y Z (f + 1) n
  | 0, n, h => by
    have : n = 0 := by omega
    subst this
    rfl
  | f + 1, n, h => by
    have e := mtf_up p X Y Z f (n / 2) (by rw [Nat.pow_succ] at h; omega)
    rw [mtf, mtf, e]
theorem mt_zero (p X Y : Nat) (Z : Bool) : mt p X Y Z 0 = (0, 0, 0) := rfl
theorem mt_step (p X Y : Nat) (Z : Bool) (n : Nat) (hn : n < 18446744073709551616) (h0 : n ≠ 0) : mt p X Y Z n = if n % 2 = 1 then jnT p (twT p (mt p X Y Z (n / 2))) X Y Z else twT p (mt p X Y Z (n / 2)) := by
  have e := mtf_up p X Y Z 63 (n / 2) (by rw [show 2 ^ 63 = 9223372036854775808 by decide]; omega)
  unfold mt
  rw [mtf, if_neg h0, e]
theorem tw_zero {p : Nat} : (twT p (0, 0, 0)) = (0, 0, 0) := by
  have z : ∀ a, tm p a 0 = 0 := fun a => by unfold tm; rw [Nat.mul_zero, Nat.zero_mod]
  have y : ∀ a, tm p 0 a = 0 := fun a => by unfold tm; rw [Nat.zero_mul, Nat.zero_mod]
  have q : pl p 0 0 = 0 := by unfold pl; rw [Nat.add_zero, Nat.zero_mod]
  have m : mi p 0 0 = 0 := by unfold mi; rw [Nat.zero_add, Nat.sub_zero, Nat.mod_self]
  simp only [twT, tX, tY, tR, tM, z, q, m]
theorem mt_bit {p : Nat} (X Y : Nat) (Z : Bool) (n k : Nat) (hn : n < 18446744073709551616) : mt p X Y Z (n / 2 ^ k) = if n / 2 ^ k % 2 = 1 then jnT p (twT p (mt p X Y Z (n / 2 ^ (k + 1)))) X Y Z else twT p (mt p X Y Z (n / 2 ^ (k + 1))) := by
  have e : n / 2 ^ (k + 1) = n / 2 ^ k / 2 := by rw [Nat.pow_succ, Nat.div_div_eq_div_mul]
  rw [e]
  by_cases h : n / 2 ^ k = 0
  · rw [h, Nat.zero_div, mt_zero, Nat.zero_mod, if_neg (by decide), tw_zero]
  · exact mt_step p X Y Z _ (Nat.lt_of_le_of_lt (Nat.div_le_self _ _) hn) h
theorem mtf_lt {p : Nat} (hp : Pr p) {X Y : Nat} {Z : Bool} (hX : X < p) (hY : Y < p) : ∀ (f n : Nat), Lt3 p (mtf p X Y Z f n)
  | 0, _ => ⟨zero_lt hp, zero_lt hp, zero_lt hp⟩
  | f + 1, n => by
    rw [mtf]
    split
    · exact ⟨zero_lt hp, zero_lt hp, zero_lt hp⟩
    · split
      · exact jn_lt hp (tw_lt hp _) hX hY
      · exact tw_lt hp _
theorem mt_lt {p : Nat} (hp : Pr p) {X Y : Nat} {Z : Bool} (hX : X < p) (hY : Y < p) (n : Nat) : Lt3 p (mt p X Y Z n) := mtf_lt hp hX hY 64 n
/-- Whether it is a point of the curve, of the group. -/
def oc (p X Y : Nat) (Z : Bool) : Bool := if Z = true then decide (X = 0) && decide (Y = 0) else decide (X < p) && (decide (Y < p) && decide (tm p Y Y = cb p X))
def ig (p r X Y : Nat) (Z : Bool) : Bool := oc p X Y Z && decide ((mt p X Y Z r).2.2 = 0)
theorem call141 : ∀ args w, (callFunc 141 args).run Tryd.prog w = .ok (.enter 141 args) w := by intro args w; go_simp
theorem call130 : ∀ args w, (callFunc 130 args).run Tryd.prog w = .ok (.enter 130 args) w := by intro args w; go_simp
section
variable {p r c gx gy : Nat}
set_option maxRecDepth 100000 in
theorem kindOf_1  (w : World) :
    Calls Tryd.prog 82 #[.int .i64 1] w fun e w' => e = .returned (.tuple #[V (kd 786251 65521 12 9723 164643), .int .i64 0]) ∧ Below w.heap.size w w' := by
  have H0 : Hid (_ ∧ _) := ⟨Mm.nil w, Below.refl w.heap.size w⟩
  go_enter Tryd.func82, Tryd.ntmps82
  refine wp_seq ?_
  refine walk_seqA 2 [.made (kd 0 0 0 0 0) 105, .quiet (.int .i64 0)] (sB H0) ?ho1 ?he1
  case ho1 => exact ak (fun γ => ⟨rfl, fun w' => ex_made72 rfl⟩) (ak (fun _ => ⟨rfl, fun _ _ => rfl⟩) trivial)
  intro γ w1 l hM hl
  have H1 : Hid (Mm w1 [(γ 0, kd 0 0 0 0 0)] ∧ _) := growB H0 hM (Nat.le_refl _) hl [0] rfl (by decide)
  have o1_0 := ownB H0 hM (Nat.le_refl _) hl (i := 0) rfl
  clear hM hl l
  generalize γ 0 = γ1_0 at H1 o1_0 ⊢
  clear γ
  refine rest0 rfl (then_normal (wp_seq (wp_seq ?_)))
  refine walk_seqB 1 [.quiet (.int .i64 1)] H1 ?ho2 ?he2
  case ho2 => exact ak (fun _ => ⟨rfl, fun _ _ => rfl⟩) trivial
  intro _ w2 H2
  clear H1
  refine rest0 rfl (then_normal (wp_block (wp_seq ?_)))
  refine walk_seqB 2 [.quiet (.bool true), .quiet (.bool true)] H2 ?ho3 ?he3
  case ho3 => exact ak (by refine fun γ => ⟨rfl, fun w' h => ?_⟩; clear h; go_simp) (ak (fun _ => ⟨rfl, fun _ _ => rfl⟩) trivial)
  intro _ w3 H3
  clear H2
  refine rest0 rfl (then_normal (wp_cond_true rfl (wp_seq ?_)))
  refine walk_seqB 2 [.quiet (.agg (pt 9723 164643 false).toArray), .quiet (.agg (kd 786251 65521 12 9723 164643).toArray)] H3 ?ho4 ?he4
  case ho4 => exact ak (fun γ => ⟨rfl, fun w' _ => ex_build25_01 rfl rfl rfl⟩) (ak (fun γ => ⟨rfl, fun w' _ => ex_build72_0123 rfl rfl rfl rfl rfl⟩) trivial)
  intro _ w4 H4
  clear H3
  refine rest_at (l := [2, 3]) rfl ?_
  refine rest_store rfl rfl rfl (ex_storeT (vs := kd 786251 65521 12 9723 164643) H4.out.1 0 rfl rfl rfl rfl Tryd.sizeOf105 rfl (Nat.le_of_ble_eq_true rfl)) ?_
  have H5 : Hid (Mm (w4.setCells γ1_0 0 (kd 786251 65521 12 9723 164643)) [(γ1_0, kd 786251 65521 12 9723 164643)] ∧ Below w.heap.size w (w4.setCells γ1_0 0 (kd 786251 65521 12 9723 164643))) := ⟨H4.out.1.put 0 (off := 0) (vs := kd 786251 65521 12 9723 164643) rfl (Nat.le_of_ble_eq_true rfl), below_setCells _ o1_0.out _ _ _ H4.out.2⟩
  clear H4
  generalize hgw : World.setCells _ _ _ _ = w5 at H5 ⊢
  clear hgw
  refine rest_set (d := 3) rfl rfl rfl rfl ?_
  simp only [Act.put, sa, sz, ss]
  refine rest_nil (then_normal (wp_ret ?_))
  repeat (first | refine then_ret ?_ | refine block_ret ?_)
  have hf0 := var_T H5.out.1 0 rfl Tryd.isAgg105 Tryd.sizeOf105 rfl
  refine bodyPost_ret (v := .tuple #[.agg (kd 786251 65521 12 9723 164643).toArray, .int .i64 0]) (by simp [results, Tryd.results82, asAddr, Act.eval, hf0]) rfl ?_
  exact ⟨rfl, H5.out.2⟩
set_option maxRecDepth 100000 in
theorem kindOf_2  (w : World) :
    Calls Tryd.prog 82 #[.int .i64 2] w fun e w' => e = .returned (.tuple #[V (kd 1152921504606846223 72057594037927889 16 613740293506734924 666621259561003659), .int .i64 0]) ∧ Below w.heap.size w w' := by
  have H0 : Hid (_ ∧ _) := ⟨Mm.nil w, Below.refl w.heap.size w⟩
  go_enter Tryd.func82, Tryd.ntmps82
  refine wp_seq ?_
  refine walk_seqA 2 [.made (kd 0 0 0 0 0) 105, .quiet (.int .i64 0)] (sB H0) ?ho1 ?he1
  case ho1 => exact ak (fun γ => ⟨rfl, fun w' => ex_made72 rfl⟩) (ak (fun _ => ⟨rfl, fun _ _ => rfl⟩) trivial)
  intro γ w1 l hM hl
  have H1 : Hid (Mm w1 [(γ 0, kd 0 0 0 0 0)] ∧ _) := growB H0 hM (Nat.le_refl _) hl [0] rfl (by decide)
  have o1_0 := ownB H0 hM (Nat.le_refl _) hl (i := 0) rfl
  clear hM hl l
  generalize γ 0 = γ1_0 at H1 o1_0 ⊢
  clear γ
  refine rest0 rfl (then_normal (wp_seq (wp_seq ?_)))
  refine walk_seqB 1 [.quiet (.int .i64 2)] H1 ?ho2 ?he2
  case ho2 => exact ak (fun _ => ⟨rfl, fun _ _ => rfl⟩) trivial
  intro _ w2 H2
  clear H1
  refine rest0 rfl (then_normal (wp_block (wp_seq ?_)))
  refine walk_seqB 2 [.quiet (.bool false), .quiet (.bool false)] H2 ?ho3 ?he3
  case ho3 => exact ak (by refine fun γ => ⟨rfl, fun w' h => ?_⟩; clear h; go_simp) (ak (fun _ => ⟨rfl, fun _ _ => rfl⟩) trivial)
  intro _ w3 H3
  clear H2
  refine rest0 rfl (then_normal (wp_cond_false rfl (wp_seq ?_)))
  refine walk_seqB 2 [.quiet (.bool true), .quiet (.bool true)] H3 ?ho4 ?he4
  case ho4 => exact ak (by refine fun γ => ⟨rfl, fun w' h => ?_⟩; clear h; go_simp) (ak (fun _ => ⟨rfl, fun _ _ => rfl⟩) trivial)
  intro _ w4 H4
  clear H3
  refine rest0 rfl (then_normal (wp_cond_true rfl (wp_seq ?_)))
  refine walk_seqB 2 [.quiet (.agg (pt 613740293506734924 666621259561003659 false).toArray), .quiet (.agg (kd 1152921504606846223 72057594037927889 16 613740293506734924 666621259561003659).toArray)] H4 ?ho5 ?he5
  case ho5 => exact ak (fun γ => ⟨rfl, fun w' _ => ex_build25_01 rfl rfl rfl⟩) (ak (fun γ => ⟨rfl, fun w' _ => ex_build72_0123 rfl rfl rfl rfl rfl⟩) trivial)
  intro _ w5 H5
  clear H4
  refine rest_at (l := [2, 3]) rfl ?_
  refine rest_store rfl rfl rfl (ex_storeT (vs := kd 1152921504606846223 72057594037927889 16 613740293506734924 666621259561003659) H5.out.1 0 rfl rfl rfl rfl Tryd.sizeOf105 rfl (Nat.le_of_ble_eq_true rfl)) ?_
  have H6 : Hid (Mm (w5.setCells γ1_0 0 (kd 1152921504606846223 72057594037927889 16 613740293506734924 666621259561003659)) [(γ1_0, kd 1152921504606846223 72057594037927889 16 613740293506734924 666621259561003659)] ∧ Below w.heap.size w (w5.setCells γ1_0 0 (kd 1152921504606846223 72057594037927889 16 613740293506734924 666621259561003659))) := ⟨H5.out.1.put 0 (off := 0) (vs := kd 1152921504606846223 72057594037927889 16 613740293506734924 666621259561003659) rfl (Nat.le_of_ble_eq_true rfl), below_setCells _ o1_0.out _ _ _ H5.out.2⟩
  clear H5
  generalize hgw : World.setCells _ _ _ _ = w6 at H6 ⊢
  clear hgw
  refine rest_set (d := 3) rfl rfl rfl rfl ?_
  simp only [Act.put, sa, sz, ss]
  refine rest_nil (then_normal (wp_ret ?_))
  repeat (first | refine then_ret ?_ | refine block_ret ?_)
  have hf0 := var_T H6.out.1 0 rfl Tryd.isAgg105 Tryd.sizeOf105 rfl
  refine bodyPost_ret (v := .tuple #[.agg (kd 1152921504606846223 72057594037927889 16 613740293506734924 666621259561003659).toArray, .int .i64 0]) (by simp [results, Tryd.results82, asAddr, Act.eval, hf0]) rfl ?_
  exact ⟨rfl, H6.out.2⟩
set_option maxRecDepth 100000 in
theorem on_zero (X Y : Nat) (w : World) :
    Calls Tryd.prog 116 #[.agg (kd p r c gx gy).toArray, .agg (pt X Y true).toArray] w fun e w' => e = .returned (.bool (decide (X = 0) && (decide (Y = 0) && (true == true)))) ∧ Below w.heap.size w w' := by
  have H0 : Hid (_ ∧ _) := ⟨Mm.nil w, Below.refl w.heap.size w⟩
  go_enter Tryd.func116, Tryd.ntmps116
  refine wp_seq ?_
  refine walk_seqA 3 [.made (kd p r c gx gy) 105, .made (pt X Y true) 64, .quiet (.bool false)] (sB H0) ?ho1 ?he1
  case ho1 => exact ak (fun γ => ⟨rfl, fun w' => ex_boxT rfl rfl⟩) (ak (fun γ => ⟨rfl, fun w' => ex_boxT rfl rfl⟩) (ak (fun _ => ⟨rfl, fun _ _ => rfl⟩) trivial))
  intro γ w1 l hM hl
  have H1 : Hid (Mm w1 [(γ 0, kd p r c gx gy), (γ 1, pt X Y true)] ∧ _) := growB H0 hM (Nat.le_refl _) hl [0, 1] rfl (by decide)
  have o1_0 := ownB H0 hM (Nat.le_refl _) hl (i := 0) rfl
  have o1_1 := ownB H0 hM (Nat.le_refl _) hl (i := 1) rfl
  clear hM hl l
  generalize γ 0 = γ1_0 at H1 o1_0 ⊢
  generalize γ 1 = γ1_1 at H1 o1_1 ⊢
  clear γ
  refine rest0 rfl (then_normal (wp_seq (wp_seq ?_)))
  refine walk_seqB 2 [.quiet (PT γ1_1 2), .quiet (.bool true)] H1 ?ho2 ?he2
  case ho2 => exact ak (by refine fun γ => ⟨rfl, fun w' h => ?_⟩; clear h; go_simp) (ak (fun γ => ⟨rfl, fun w' h => ex_loadC h 1 rfl rfl rfl Tryd.isAgg4 rfl⟩) trivial)
  intro _ w2 H2
  clear H1
  refine rest0 rfl (then_normal (wp_cond_true rfl (wp_seq ?_)))
  refine walk_seqB 4 [.quiet (.agg (pt X Y true).toArray), .quiet (.agg (pt 0 0 true).toArray), .quiet (.bool (decide (X = 0) && (decide (Y = 0) && (true == true)))), .quiet (.bool (decide (X = 0) && (decide (Y = 0) && (true == true))))] H2 ?ho3 ?he3
  case ho3 => exact ak (fun γ => ⟨rfl, fun w' h => ex_loadT h 1 rfl rfl rfl Tryd.isAgg64 Tryd.sizeOf64 rfl rfl⟩) (ak (fun γ => ⟨rfl, fun w' _ => ex_build25_2 rfl rfl⟩) (ak (fun γ => ⟨rfl, fun w' _ => exec_eqT25 (fun w => run_eqP X Y 0 0 true true w) rfl rfl rfl⟩) (ak (fun _ => ⟨rfl, fun _ _ => rfl⟩) trivial)))
  intro _ w3 H3
  clear H2
  refine rest0 rfl (then_normal (wp_ret ?_))
  repeat (first | refine then_ret ?_ | refine block_ret ?_)
  refine bodyPost_ret (v := .bool (decide (X = 0) && (decide (Y = 0) && (true == true)))) (by simp [results, Tryd.results116, go_sem, *]) rfl ?_
  exact ⟨rfl, H3.out.2⟩
set_option maxRecDepth 100000 in
theorem on_x (X Y : Nat) (hX : ¬ X < p) (w : World) :
    Calls Tryd.prog 116 #[.agg (kd p r c gx gy).toArray, .agg (pt X Y false).toArray] w fun e w' => e = .returned (.bool false) ∧ Below w.heap.size w w' := by
  have H0 : Hid (_ ∧ _) := ⟨Mm.nil w, Below.refl w.heap.size w⟩
  go_enter Tryd.func116, Tryd.ntmps116
  refine wp_seq ?_
  refine walk_seqA 3 [.made (kd p r c gx gy) 105, .made (pt X Y false) 64, .quiet (.bool false)] (sB H0) ?ho1 ?he1
  case ho1 => exact ak (fun γ => ⟨rfl, fun w' => ex_boxT rfl rfl⟩) (ak (fun γ => ⟨rfl, fun w' => ex_boxT rfl rfl⟩) (ak (fun _ => ⟨rfl, fun _ _ => rfl⟩) trivial))
  intro γ w1 l hM hl
  have H1 : Hid (Mm w1 [(γ 0, kd p r c gx gy), (γ 1, pt X Y false)] ∧ _) := growB H0 hM (Nat.le_refl _) hl [0, 1] rfl (by decide)
  have o1_0 := ownB H0 hM (Nat.le_refl _) hl (i := 0) rfl
  have o1_1 := ownB H0 hM (Nat.le_refl _) hl (i := 1) rfl
  clear hM hl l
  generalize γ 0 = γ1_0 at H1 o1_0 ⊢
  generalize γ 1 = γ1_1 at H1 o1_1 ⊢
  clear γ
  refine rest0 rfl (then_normal (wp_seq (wp_seq ?_)))
  refine walk_seqB 2 [.quiet (PT γ1_1 2), .quiet (.bool false)] H1 ?ho2 ?he2
  case ho2 => exact ak (by refine fun γ => ⟨rfl, fun w' h => ?_⟩; clear h; go_simp) (ak (fun γ => ⟨rfl, fun w' h => ex_loadC h 1 rfl rfl rfl Tryd.isAgg4 rfl⟩) trivial)
  intro _ w2 H2
  clear H1
  refine rest0 rfl (then_normal (wp_cond_false rfl ?_))
  refine wp_skip (then_normal (wp_seq ?_))
  refine walk_anyB 26 [.quiet (PT γ1_1 0), .quiet (U X), .quiet (PT γ1_0 0), .quiet (U p), .quiet (.bool false), .quiet (.bool false), .gone, .gone, .gone, .gone, .gone, .quiet (.bool false), .quiet (.bool false), .gone, .gone, .gone, .gone, .gone, .gone, .gone, .gone, .gone, .gone, .gone, .quiet (.bool false), .quiet (.bool false)] H2 ?ho3 ?he3 (hL := ?hL3)
  case hL3 => exact trivial
  case ho3 => exact ak (by refine fun γ => ⟨rfl, fun w' h => ?_⟩; clear h; go_simp) (ak (fun γ => ⟨rfl, fun w' h => ex_loadC h 1 rfl rfl rfl Tryd.isAgg22 rfl⟩) (ak (by refine fun γ => ⟨rfl, fun w' h => ?_⟩; clear h; go_simp) (ak (fun γ => ⟨rfl, fun w' h => ex_loadC h 0 rfl rfl rfl Tryd.isAgg22 rfl⟩) (ak (fun γ => ⟨rfl, fun w' _ => ex_ltU rfl rfl rfl (decide_eq_false (hX))⟩) (ak (fun _ => ⟨rfl, fun _ _ => rfl⟩) (ak (fun γ => rfl) (ak (fun γ => rfl) (ak (fun γ => rfl) (ak (fun γ => rfl) (ak (fun γ => rfl) (ak (by refine fun γ => ⟨rfl, fun w' h => ?_⟩; clear h; go_simp) (ak (fun _ => ⟨rfl, fun _ _ => rfl⟩) (ak (fun γ => rfl) (ak (fun γ => rfl) (ak (fun γ => rfl) (ak (fun γ => rfl) (ak (fun γ => rfl) (ak (fun γ => rfl) (ak (fun γ => rfl) (ak (fun γ => rfl) (ak (fun γ => rfl) (ak (fun γ => rfl) (ak (fun γ => rfl) (ak (by refine fun γ => ⟨rfl, fun w' h => ?_⟩; clear h; go_simp) (ak (fun _ => ⟨rfl, fun _ _ => rfl⟩) trivial)))))))))))))))))))))))))
  intro _ w3 H3
  clear H2
  refine rest0 rfl (then_normal (wp_ret ?_))
  repeat (first | refine then_ret ?_ | refine block_ret ?_)
  refine bodyPost_ret (v := .bool false) (by simp [results, Tryd.results116, go_sem, *]) rfl ?_
  exact ⟨rfl, H3.out.2⟩
set_option maxRecDepth 100000 in
theorem on_y (X Y : Nat) (hX : X < p) (hY : ¬ Y < p) (w : World) :
    Calls Tryd.prog 116 #[.agg (kd p r c gx gy).toArray, .agg (pt X Y false).toArray] w fun e w' => e = .returned (.bool false) ∧ Below w.heap.size w w' := by
  have H0 : Hid (_ ∧ _) := ⟨Mm.nil w, Below.refl w.heap.size w⟩
  go_enter Tryd.func116, Tryd.ntmps116
  refine wp_seq ?_
  refine walk_seqA 3 [.made (kd p r c gx gy) 105, .made (pt X Y false) 64, .quiet (.bool false)] (sB H0) ?ho1 ?he1
  case ho1 => exact ak (fun γ => ⟨rfl, fun w' => ex_boxT rfl rfl⟩) (ak (fun γ => ⟨rfl, fun w' => ex_boxT rfl rfl⟩) (ak (fun _ => ⟨rfl, fun _ _ => rfl⟩) trivial))
  intro γ w1 l hM hl
  have H1 : Hid (Mm w1 [(γ 0, kd p r c gx gy), (γ 1, pt X Y false)] ∧ _) := growB H0 hM (Nat.le_refl _) hl [0, 1] rfl (by decide)
  have o1_0 := ownB H0 hM (Nat.le_refl _) hl (i := 0) rfl
  have o1_1 := ownB H0 hM (Nat.le_refl _) hl (i := 1) rfl
  clear hM hl l
  generalize γ 0 = γ1_0 at H1 o1_0 ⊢
  generalize γ 1 = γ1_1 at H1 o1_1 ⊢
  clear γ
  refine rest0 rfl (then_normal (wp_seq (wp_seq ?_)))
  refine walk_seqB 2 [.quiet (PT γ1_1 2), .quiet (.bool false)] H1 ?ho2 ?he2
  case ho2 => exact ak (by refine fun γ => ⟨rfl, fun w' h => ?_⟩; clear h; go_simp) (ak (fun γ => ⟨rfl, fun w' h => ex_loadC h 1 rfl rfl rfl Tryd.isAgg4 rfl⟩) trivial)
  intro _ w2 H2
  clear H1
  refine rest0 rfl (then_normal (wp_cond_false rfl ?_))
  refine wp_skip (then_normal (wp_seq ?_))
  refine walk_anyB 26 [.quiet (PT γ1_1 0), .quiet (U X), .quiet (PT γ1_0 0), .quiet (U p), .quiet (.bool true), .quiet (.bool true), .quiet (PT γ1_1 1), .quiet (U Y), .quiet (PT γ1_0 0), .quiet (U p), .quiet (.bool false), .quiet (.bool false), .quiet (.bool false), .gone, .gone, .gone, .gone, .gone, .gone, .gone, .gone, .gone, .gone, .gone, .quiet (.bool false), .quiet (.bool false)] H2 ?ho3 ?he3 (hL := ?hL3)
  case hL3 => exact trivial
  case ho3 => exact ak (by refine fun γ => ⟨rfl, fun w' h => ?_⟩; clear h; go_simp) (ak (fun γ => ⟨rfl, fun w' h => ex_loadC h 1 rfl rfl rfl Tryd.isAgg22 rfl⟩) (ak (by refine fun γ => ⟨rfl, fun w' h => ?_⟩; clear h; go_simp) (ak (fun γ => ⟨rfl, fun w' h => ex_loadC h 0 rfl rfl rfl Tryd.isAgg22 rfl⟩) (ak (fun γ => ⟨rfl, fun w' _ => ex_ltU rfl rfl rfl (decide_eq_true (hX))⟩) (ak (fun _ => ⟨rfl, fun _ _ => rfl⟩) (ak (by refine fun γ => ⟨rfl, fun w' h => ?_⟩; clear h; go_simp) (ak (fun γ => ⟨rfl, fun w' h => ex_loadC h 1 rfl rfl rfl Tryd.isAgg22 rfl⟩) (ak (by refine fun γ => ⟨rfl, fun w' h => ?_⟩; clear h; go_simp) (ak (fun γ => ⟨rfl, fun w' h => ex_loadC h 0 rfl rfl rfl Tryd.isAgg22 rfl⟩) (ak (fun γ => ⟨rfl, fun w' _ => ex_ltU rfl rfl rfl (decide_eq_false (hY))⟩) (ak (by refine fun γ => ⟨rfl, fun w' h => ?_⟩; clear h; go_simp) (ak (fun _ => ⟨rfl, fun _ _ => rfl⟩) (ak (fun γ => rfl) (ak (fun γ => rfl) (ak (fun γ => rfl) (ak (fun γ => rfl) (ak (fun γ => rfl) (ak (fun γ => rfl) (ak (fun γ => rfl) (ak (fun γ => rfl) (ak (fun γ => rfl) (ak (fun γ => rfl) (ak (fun γ => rfl) (ak (by refine fun γ => ⟨rfl, fun w' h => ?_⟩; clear h; go_simp) (ak (fun _ => ⟨rfl, fun _ _ => rfl⟩) trivial)))))))))))))))))))))))))
  intro _ w3 H3
  clear H2
  refine rest0 rfl (then_normal (wp_ret ?_))
  repeat (first | refine then_ret ?_ | refine block_ret ?_)
  refine bodyPost_ret (v := .bool false) (by simp [results, Tryd.results116, go_sem, *]) rfl ?_
  exact ⟨rfl, H3.out.2⟩
set_option maxRecDepth 100000 in
theorem on_in (hp : Pr p) (X Y : Nat) (hX : X < p) (hY : Y < p) (w : World) :
    Calls Tryd.prog 116 #[.agg (kd p r c gx gy).toArray, .agg (pt X Y false).toArray] w fun e w' => e = .returned (.bool (decide (tm p Y Y = cb p X))) ∧ Below w.heap.size w w' := by
  have H0 : Hid (_ ∧ _) := ⟨Mm.nil w, Below.refl w.heap.size w⟩
  go_enter Tryd.func116, Tryd.ntmps116
  refine wp_seq ?_
  refine walk_seqA 3 [.made (kd p r c gx gy) 105, .made (pt X Y false) 64, .quiet (.bool false)] (sB H0) ?ho1 ?he1
  case ho1 => exact ak (fun γ => ⟨rfl, fun w' => ex_boxT rfl rfl⟩) (ak (fun γ => ⟨rfl, fun w' => ex_boxT rfl rfl⟩) (ak (fun _ => ⟨rfl, fun _ _ => rfl⟩) trivial))
  intro γ w1 l hM hl
  have H1 : Hid (Mm w1 [(γ 0, kd p r c gx gy), (γ 1, pt X Y false)] ∧ _) := growB H0 hM (Nat.le_refl _) hl [0, 1] rfl (by decide)
  have o1_0 := ownB H0 hM (Nat.le_refl _) hl (i := 0) rfl
  have o1_1 := ownB H0 hM (Nat.le_refl _) hl (i := 1) rfl
  clear hM hl l
  generalize γ 0 = γ1_0 at H1 o1_0 ⊢
  generalize γ 1 = γ1_1 at H1 o1_1 ⊢
  clear γ
  refine rest0 rfl (then_normal (wp_seq (wp_seq ?_)))
  refine walk_seqB 2 [.quiet (PT γ1_1 2), .quiet (.bool false)] H1 ?ho2 ?he2
  case ho2 => exact ak (by refine fun γ => ⟨rfl, fun w' h => ?_⟩; clear h; go_simp) (ak (fun γ => ⟨rfl, fun w' h => ex_loadC h 1 rfl rfl rfl Tryd.isAgg4 rfl⟩) trivial)
  intro _ w2 H2
  clear H1
  refine rest0 rfl (then_normal (wp_cond_false rfl ?_))
  refine wp_skip (then_normal (wp_seq ?_))
  refine walk_anyB 26 [.quiet (PT γ1_1 0), .quiet (U X), .quiet (PT γ1_0 0), .quiet (U p), .quiet (.bool true), .quiet (.bool true), .quiet (PT γ1_1 1), .quiet (U Y), .quiet (PT γ1_0 0), .quiet (U p), .quiet (.bool true), .quiet (.bool true), .quiet (.bool true), .quiet (.agg (kd p r c gx gy).toArray), .quiet (PT γ1_1 1), .quiet (U Y), .quiet (PT γ1_1 1), .quiet (U Y), .call (U (tm p Y Y)), .quiet (.agg (kd p r c gx gy).toArray), .quiet (PT γ1_1 0), .quiet (U X), .call (U (cb p X)), .quiet (.bool (decide (tm p Y Y = cb p X))), .quiet (.bool (decide (tm p Y Y = cb p X))), .quiet (.bool (decide (tm p Y Y = cb p X)))] H2 ?ho3 ?he3 (hL := ?hL3)
  case hL3 => exact trivial
  case ho3 => exact ak (by refine fun γ => ⟨rfl, fun w' h => ?_⟩; clear h; go_simp) (ak (fun γ => ⟨rfl, fun w' h => ex_loadC h 1 rfl rfl rfl Tryd.isAgg22 rfl⟩) (ak (by refine fun γ => ⟨rfl, fun w' h => ?_⟩; clear h; go_simp) (ak (fun γ => ⟨rfl, fun w' h => ex_loadC h 0 rfl rfl rfl Tryd.isAgg22 rfl⟩) (ak (fun γ => ⟨rfl, fun w' _ => ex_ltU rfl rfl rfl (decide_eq_true (hX))⟩) (ak (fun _ => ⟨rfl, fun _ _ => rfl⟩) (ak (by refine fun γ => ⟨rfl, fun w' h => ?_⟩; clear h; go_simp) (ak (fun γ => ⟨rfl, fun w' h => ex_loadC h 1 rfl rfl rfl Tryd.isAgg22 rfl⟩) (ak (by refine fun γ => ⟨rfl, fun w' h => ?_⟩; clear h; go_simp) (ak (fun γ => ⟨rfl, fun w' h => ex_loadC h 0 rfl rfl rfl Tryd.isAgg22 rfl⟩) (ak (fun γ => ⟨rfl, fun w' _ => ex_ltU rfl rfl rfl (decide_eq_true (hY))⟩) (ak (by refine fun γ => ⟨rfl, fun w' h => ?_⟩; clear h; go_simp) (ak (fun _ => ⟨rfl, fun _ _ => rfl⟩) (ak (fun γ => ⟨rfl, fun w' h => ex_loadT h 0 rfl rfl rfl Tryd.isAgg105 Tryd.sizeOf105 rfl rfl⟩) (ak (by refine fun γ => ⟨rfl, fun w' h => ?_⟩; clear h; go_simp) (ak (fun γ => ⟨rfl, fun w' h => ex_loadC h 1 rfl rfl rfl Tryd.isAgg22 rfl⟩) (ak (by refine fun γ => ⟨rfl, fun w' h => ?_⟩; clear h; go_simp) (ak (fun γ => ⟨rfl, fun w' h => ex_loadC h 1 rfl rfl rfl Tryd.isAgg22 rfl⟩) (ak (fun γ => ⟨rfl, fun w' h => ⟨128, #[.agg (kd p r c gx gy).toArray, U Y, U Y], exec_call rfl call128 rfl (mpn rfl), times_any hp Y Y hY hY w'⟩⟩) (ak (fun γ => ⟨rfl, fun w' h => ex_loadT h 0 rfl rfl rfl Tryd.isAgg105 Tryd.sizeOf105 rfl rfl⟩) (ak (by refine fun γ => ⟨rfl, fun w' h => ?_⟩; clear h; go_simp) (ak (fun γ => ⟨rfl, fun w' h => ex_loadC h 1 rfl rfl rfl Tryd.isAgg22 rfl⟩) (ak (fun γ => ⟨rfl, fun w' h => ⟨129, #[.agg (kd p r c gx gy).toArray, U X], exec_call rfl call129 rfl (mpn rfl), cube_any hp X hX w'⟩⟩) (ak (fun γ => ⟨rfl, fun w' _ => ex_eqU rfl rfl rfl rfl⟩) (ak (by refine fun γ => ⟨rfl, fun w' h => ?_⟩; clear h; go_simp) (ak (fun _ => ⟨rfl, fun _ _ => rfl⟩) trivial)))))))))))))))))))))))))
  intro _ w3 H3
  clear H2
  refine rest0 rfl (then_normal (wp_ret ?_))
  repeat (first | refine then_ret ?_ | refine block_ret ?_)
  refine bodyPost_ret (v := .bool (decide (tm p Y Y = cb p X))) (by simp [results, Tryd.results116, go_sem, *]) rfl ?_
  exact ⟨rfl, H3.out.2⟩
theorem onCurve_any (hp : Pr p) (X Y : Nat) (Z : Bool) (w : World) : Calls Tryd.prog 116 #[.agg (kd p r c gx gy).toArray, .agg (pt X Y Z).toArray] w fun e w' => e = .returned (.bool (oc p X Y Z)) ∧ Below w.heap.size w w' := by
  unfold oc
  cases Z
  · rw [if_neg (by decide)]
    by_cases hX : X < p
    · by_cases hY : Y < p
      · rw [decide_eq_true hX, decide_eq_true hY, Bool.true_and, Bool.true_and]; exact on_in hp X Y hX hY w
      · rw [decide_eq_false hY, Bool.false_and, Bool.and_false]; exact on_y X Y hX hY w
    · rw [decide_eq_false hX, Bool.false_and]; exact on_x X Y hX w
  · rw [if_pos rfl]
    have h := on_zero (p := p) (r := r) (c := c) (gx := gx) (gy := gy) X Y w
    rw [show (true == true) = true from rfl, Bool.and_true] at h
    exact h
set_option maxRecDepth 100000 in
theorem tripleOf_f (X Y : Nat) (w : World) :
    Calls Tryd.prog 141 #[.agg (pt X Y false).toArray] w fun e w' => e = .returned (V (tr X Y 1)) ∧ Below w.heap.size w w' := by
  have H0 : Hid (_ ∧ _) := ⟨Mm.nil w, Below.refl w.heap.size w⟩
  go_enter Tryd.func141, Tryd.ntmps141
  refine wp_seq ?_
  refine walk_seqA 2 [.made (pt X Y false) 64, .made (tr 0 0 0) 146] (sB H0) ?ho1 ?he1
  case ho1 => exact ak (fun γ => ⟨rfl, fun w' => ex_boxT rfl rfl⟩) (ak (fun γ => ⟨rfl, fun w' => ex_made77 rfl⟩) trivial)
  intro γ w1 l hM hl
  have H1 : Hid (Mm w1 [(γ 0, pt X Y false), (γ 1, tr 0 0 0)] ∧ _) := growB H0 hM (Nat.le_refl _) hl [0, 1] rfl (by decide)
  have o1_0 := ownB H0 hM (Nat.le_refl _) hl (i := 0) rfl
  have o1_1 := ownB H0 hM (Nat.le_refl _) hl (i := 1) rfl
  clear hM hl l
  generalize γ 0 = γ1_0 at H1 o1_0 ⊢
  generalize γ 1 = γ1_1 at H1 o1_1 ⊢
  clear γ
  refine rest0 rfl (then_normal (wp_seq (wp_seq ?_)))
  refine walk_seqB 2 [.quiet (PT γ1_0 2), .quiet (.bool false)] H1 ?ho2 ?he2
  case ho2 => exact ak (by refine fun γ => ⟨rfl, fun w' h => ?_⟩; clear h; go_simp) (ak (fun γ => ⟨rfl, fun w' h => ex_loadC h 0 rfl rfl rfl Tryd.isAgg4 rfl⟩) trivial)
  intro _ w2 H2
  clear H1
  refine rest0 rfl (then_normal (wp_cond_false rfl ?_))
  refine wp_skip (then_normal (wp_seq ?_))
  refine walk_seqB 5 [.quiet (PT γ1_0 0), .quiet (U X), .quiet (PT γ1_0 1), .quiet (U Y), .quiet (.agg (tr X Y 1).toArray)] H2 ?ho3 ?he3
  case ho3 => exact ak (by refine fun γ => ⟨rfl, fun w' h => ?_⟩; clear h; go_simp) (ak (fun γ => ⟨rfl, fun w' h => ex_loadC h 0 rfl rfl rfl Tryd.isAgg22 rfl⟩) (ak (by refine fun γ => ⟨rfl, fun w' h => ?_⟩; clear h; go_simp) (ak (fun γ => ⟨rfl, fun w' h => ex_loadC h 0 rfl rfl rfl Tryd.isAgg22 rfl⟩) (ak (fun γ => ⟨rfl, fun w' _ => ex_build77_012 rfl rfl rfl rfl⟩) trivial))))
  intro _ w3 H3
  clear H2
  refine rest_at (l := [5]) rfl ?_
  refine rest_store rfl rfl rfl (ex_storeT (vs := tr X Y 1) H3.out.1 1 rfl rfl rfl rfl Tryd.sizeOf146 rfl (Nat.le_of_ble_eq_true rfl)) ?_
  have H4 : Hid (Mm (w3.setCells γ1_1 0 (tr X Y 1)) [(γ1_0, pt X Y false), (γ1_1, tr X Y 1)] ∧ Below w.heap.size w (w3.setCells γ1_1 0 (tr X Y 1))) := ⟨H3.out.1.put 1 (off := 0) (vs := tr X Y 1) rfl (Nat.le_of_ble_eq_true rfl), below_setCells _ o1_1.out _ _ _ H3.out.2⟩
  clear H3
  generalize hgw : World.setCells _ _ _ _ = w4 at H4 ⊢
  clear hgw
  refine rest_nil (then_normal (wp_ret ?_))
  repeat (first | refine then_ret ?_ | refine block_ret ?_)
  have hf0 := var_T H4.out.1 1 rfl Tryd.isAgg146 Tryd.sizeOf146 rfl
  refine bodyPost_ret (v := .agg (tr X Y 1).toArray) (by simp [results, Tryd.results141, asAddr, hf0]) rfl ?_
  exact ⟨rfl, H4.out.2⟩
set_option maxHeartbeats 1000000 in
set_option maxRecDepth 100000 in
theorem twice_raw (hp : Pr p) (x y z : Nat) (hx : x < p) (hy : y < p) (hz : z < p) (w : World) :
    Calls Tryd.prog 130 #[.agg (kd p r c gx gy).toArray, .agg (tr x y z).toArray] w fun e w' => e = .returned (.tuple #[V (tr (tX p x y z) (tY p x y z) (tm p 2 (tm p y z))), U (tR p x z)]) ∧ Below w.heap.size w w' := by
  have H0 : Hid (_ ∧ _) := ⟨Mm.nil w, Below.refl w.heap.size w⟩
  go_enter Tryd.func130, Tryd.ntmps130
  refine wp_seq ?_
  refine walk_seqA 4 [.made (kd p r c gx gy) 105, .made (tr x y z) 146, .made (tr 0 0 0) 146, .quiet (U 0)] (sB H0) ?ho1 ?he1
  case ho1 => exact ak (fun γ => ⟨rfl, fun w' => ex_boxT rfl rfl⟩) (ak (fun γ => ⟨rfl, fun w' => ex_boxT rfl rfl⟩) (ak (fun γ => ⟨rfl, fun w' => ex_made77 rfl⟩) (ak (fun _ => ⟨rfl, fun _ _ => rfl⟩) trivial)))
  intro γ w1 l hM hl
  have H1 : Hid (Mm w1 [(γ 0, kd p r c gx gy), (γ 1, tr x y z), (γ 2, tr 0 0 0)] ∧ _) := growB H0 hM (Nat.le_refl _) hl [0, 1, 2] rfl (by decide)
  have o1_0 := ownB H0 hM (Nat.le_refl _) hl (i := 0) rfl
  have o1_1 := ownB H0 hM (Nat.le_refl _) hl (i := 1) rfl
  have o1_2 := ownB H0 hM (Nat.le_refl _) hl (i := 2) rfl
  clear hM hl l
  generalize γ 0 = γ1_0 at H1 o1_0 ⊢
  generalize γ 1 = γ1_1 at H1 o1_1 ⊢
  generalize γ 2 = γ1_2 at H1 o1_2 ⊢
  clear γ
  refine rest0 rfl (then_normal (wp_seq ?_))
  refine walk_anyB 21 [.quiet (.agg (kd p r c gx gy).toArray), .quiet (PT γ1_1 0), .quiet (U x), .quiet (PT γ1_1 0), .quiet (U x), .call (U (tm p x x)), .quiet (.agg (kd p r c gx gy).toArray), .quiet (PT γ1_1 1), .quiet (U y), .quiet (PT γ1_1 1), .quiet (U y), .call (U (tm p y y)), .quiet (.agg (kd p r c gx gy).toArray), .quiet (PT γ1_1 2), .quiet (U z), .quiet (PT γ1_1 2), .quiet (U z), .call (U (tm p z z)), .quiet (U (tm p x x)), .quiet (U (tm p y y)), .quiet (U (tm p z z))] H1 ?ho2 ?he2
  case ho2 => exact ak (fun γ => ⟨rfl, fun w' h => ex_loadT h 0 rfl rfl rfl Tryd.isAgg105 Tryd.sizeOf105 rfl rfl⟩) (ak (by refine fun γ => ⟨rfl, fun w' h => ?_⟩; clear h; go_simp) (ak (fun γ => ⟨rfl, fun w' h => ex_loadC h 1 rfl rfl rfl Tryd.isAgg22 rfl⟩) (ak (by refine fun γ => ⟨rfl, fun w' h => ?_⟩; clear h; go_simp) (ak (fun γ => ⟨rfl, fun w' h => ex_loadC h 1 rfl rfl rfl Tryd.isAgg22 rfl⟩) (ak (fun γ => ⟨rfl, fun w' h => ⟨128, #[.agg (kd p r c gx gy).toArray, U x, U x], exec_call rfl call128 rfl (mpn rfl), times_any hp x x hx hx w'⟩⟩) (ak (fun γ => ⟨rfl, fun w' h => ex_loadT h 0 rfl rfl rfl Tryd.isAgg105 Tryd.sizeOf105 rfl rfl⟩) (ak (by refine fun γ => ⟨rfl, fun w' h => ?_⟩; clear h; go_simp) (ak (fun γ => ⟨rfl, fun w' h => ex_loadC h 1 rfl rfl rfl Tryd.isAgg22 rfl⟩) (ak (by refine fun γ => ⟨rfl, fun w' h => ?_⟩; clear h; go_simp) (ak (fun γ => ⟨rfl, fun w' h => ex_loadC h 1 rfl rfl rfl Tryd.isAgg22 rfl⟩) (ak (fun γ => ⟨rfl, fun w' h => ⟨128, #[.agg (kd p r c gx gy).toArray, U y, U y], exec_call rfl call128 rfl (mpn rfl), times_any hp y y hy hy w'⟩⟩) (ak (fun γ => ⟨rfl, fun w' h => ex_loadT h 0 rfl rfl rfl Tryd.isAgg105 Tryd.sizeOf105 rfl rfl⟩) (ak (by refine fun γ => ⟨rfl, fun w' h => ?_⟩; clear h; go_simp) (ak (fun γ => ⟨rfl, fun w' h => ex_loadC h 1 rfl rfl rfl Tryd.isAgg22 rfl⟩) (ak (by refine fun γ => ⟨rfl, fun w' h => ?_⟩; clear h; go_simp) (ak (fun γ => ⟨rfl, fun w' h => ex_loadC h 1 rfl rfl rfl Tryd.isAgg22 rfl⟩) (ak (fun γ => ⟨rfl, fun w' h => ⟨128, #[.agg (kd p r c gx gy).toArray, U z, U z], exec_call rfl call128 rfl (mpn rfl), times_any hp z z hz hz w'⟩⟩) (ak (fun _ => ⟨rfl, fun _ _ => rfl⟩) (ak (fun _ => ⟨rfl, fun _ _ => rfl⟩) (ak (fun _ => ⟨rfl, fun _ _ => rfl⟩) trivial))))))))))))))))))))
  intro _ w2 H2
  clear H1
  refine rest0 rfl (then_normal (wp_seq ?_))
  refine walk_anyB 12 [.quiet (.agg (kd p r c gx gy).toArray), .quiet (U (tm p x x)), .quiet (U (3 * (tm p x x))), .quiet (PT γ1_0 0), .quiet (U p), .quiet (U (tm p 3 (tm p x x))), .quiet (.agg (kd p r c gx gy).toArray), .quiet (U (tm p z z)), .quiet (U (tm p z z)), .call (U (tm p (tm p z z) (tm p z z))), .call (U (pl p (tm p 3 (tm p x x)) (tm p (tm p z z) (tm p z z)))), .quiet (U (pl p (tm p 3 (tm p x x)) (tm p (tm p z z) (tm p z z))))] H2 ?ho3 ?he3
  case ho3 => exact ak (fun γ => ⟨rfl, fun w' h => ex_loadT h 0 rfl rfl rfl Tryd.isAgg105 Tryd.sizeOf105 rfl rfl⟩) (ak (fun _ => ⟨rfl, fun _ _ => rfl⟩) (ak (fun γ => ⟨rfl, fun w' _ => ex_mulU (small_mul hp (by decide) (tm_lt hp)) rfl rfl rfl⟩) (ak (by refine fun γ => ⟨rfl, fun w' h => ?_⟩; clear h; go_simp) (ak (fun γ => ⟨rfl, fun w' h => ex_loadC h 0 rfl rfl rfl Tryd.isAgg22 rfl⟩) (ak (fun γ => ⟨rfl, fun w' _ => ex_remU (Nat.ne_of_gt (zero_lt hp)) rfl rfl rfl⟩) (ak (fun γ => ⟨rfl, fun w' h => ex_loadT h 0 rfl rfl rfl Tryd.isAgg105 Tryd.sizeOf105 rfl rfl⟩) (ak (fun _ => ⟨rfl, fun _ _ => rfl⟩) (ak (fun _ => ⟨rfl, fun _ _ => rfl⟩) (ak (fun γ => ⟨rfl, fun w' h => ⟨128, #[.agg (kd p r c gx gy).toArray, U (tm p z z), U (tm p z z)], exec_call rfl call128 rfl (mpn rfl), times_any hp (tm p z z) (tm p z z) (tm_lt hp) (tm_lt hp) w'⟩⟩) (ak (fun γ => ⟨rfl, fun w' h => ⟨139, #[.agg (kd p r c gx gy).toArray, U (tm p 3 (tm p x x)), U (tm p (tm p z z) (tm p z z))], exec_call rfl call139 rfl (mpn rfl), plus_any hp (tm p 3 (tm p x x)) (tm p (tm p z z) (tm p z z)) (tm_lt hp) (tm_lt hp) w'⟩⟩) (ak (fun _ => ⟨rfl, fun _ _ => rfl⟩) trivial)))))))))))
  intro _ w3 H3
  clear H2
  refine rest0 rfl (then_normal (wp_seq ?_))
  refine walk_anyB 10 [.quiet (.agg (kd p r c gx gy).toArray), .quiet (PT γ1_1 0), .quiet (U x), .quiet (U (tm p y y)), .call (U (tm p x (tm p y y))), .quiet (U (4 * (tm p x (tm p y y)))), .quiet (PT γ1_0 0), .quiet (U p), .quiet (U (tm p 4 (tm p x (tm p y y)))), .quiet (U (tm p 4 (tm p x (tm p y y))))] H3 ?ho4 ?he4
  case ho4 => exact ak (fun γ => ⟨rfl, fun w' h => ex_loadT h 0 rfl rfl rfl Tryd.isAgg105 Tryd.sizeOf105 rfl rfl⟩) (ak (by refine fun γ => ⟨rfl, fun w' h => ?_⟩; clear h; go_simp) (ak (fun γ => ⟨rfl, fun w' h => ex_loadC h 1 rfl rfl rfl Tryd.isAgg22 rfl⟩) (ak (fun _ => ⟨rfl, fun _ _ => rfl⟩) (ak (fun γ => ⟨rfl, fun w' h => ⟨128, #[.agg (kd p r c gx gy).toArray, U x, U (tm p y y)], exec_call rfl call128 rfl (mpn rfl), times_any hp x (tm p y y) hx (tm_lt hp) w'⟩⟩) (ak (fun γ => ⟨rfl, fun w' _ => ex_mulU (small_mul hp (by decide) (tm_lt hp)) rfl rfl rfl⟩) (ak (by refine fun γ => ⟨rfl, fun w' h => ?_⟩; clear h; go_simp) (ak (fun γ => ⟨rfl, fun w' h => ex_loadC h 0 rfl rfl rfl Tryd.isAgg22 rfl⟩) (ak (fun γ => ⟨rfl, fun w' _ => ex_remU (Nat.ne_of_gt (zero_lt hp)) rfl rfl rfl⟩) (ak (fun _ => ⟨rfl, fun _ _ => rfl⟩) trivial)))))))))
  intro _ w4 H4
  clear H3
  refine rest0 rfl (then_normal (wp_seq ?_))
  refine walk_anyB 11 [.quiet (.agg (kd p r c gx gy).toArray), .quiet (.agg (kd p r c gx gy).toArray), .quiet (U (pl p (tm p 3 (tm p x x)) (tm p (tm p z z) (tm p z z)))), .quiet (U (pl p (tm p 3 (tm p x x)) (tm p (tm p z z) (tm p z z)))), .call (U (tm p (pl p (tm p 3 (tm p x x)) (tm p (tm p z z) (tm p z z))) (pl p (tm p 3 (tm p x x)) (tm p (tm p z z) (tm p z z))))), .quiet (.agg (kd p r c gx gy).toArray), .quiet (U (tm p 4 (tm p x (tm p y y)))), .quiet (U (tm p 4 (tm p x (tm p y y)))), .call (U (pl p (tm p 4 (tm p x (tm p y y))) (tm p 4 (tm p x (tm p y y))))), .call (U (mi p (tm p (pl p (tm p 3 (tm p x x)) (tm p (tm p z z) (tm p z z))) (pl p (tm p 3 (tm p x x)) (tm p (tm p z z) (tm p z z)))) (pl p (tm p 4 (tm p x (tm p y y))) (tm p 4 (tm p x (tm p y y)))))), .quiet (U (mi p (tm p (pl p (tm p 3 (tm p x x)) (tm p (tm p z z) (tm p z z))) (pl p (tm p 3 (tm p x x)) (tm p (tm p z z) (tm p z z)))) (pl p (tm p 4 (tm p x (tm p y y))) (tm p 4 (tm p x (tm p y y))))))] H4 ?ho5 ?he5
  case ho5 => exact ak (fun γ => ⟨rfl, fun w' h => ex_loadT h 0 rfl rfl rfl Tryd.isAgg105 Tryd.sizeOf105 rfl rfl⟩) (ak (fun γ => ⟨rfl, fun w' h => ex_loadT h 0 rfl rfl rfl Tryd.isAgg105 Tryd.sizeOf105 rfl rfl⟩) (ak (fun _ => ⟨rfl, fun _ _ => rfl⟩) (ak (fun _ => ⟨rfl, fun _ _ => rfl⟩) (ak (fun γ => ⟨rfl, fun w' h => ⟨128, #[.agg (kd p r c gx gy).toArray, U (pl p (tm p 3 (tm p x x)) (tm p (tm p z z) (tm p z z))), U (pl p (tm p 3 (tm p x x)) (tm p (tm p z z) (tm p z z)))], exec_call rfl call128 rfl (mpn rfl), times_any hp (pl p (tm p 3 (tm p x x)) (tm p (tm p z z) (tm p z z))) (pl p (tm p 3 (tm p x x)) (tm p (tm p z z) (tm p z z))) (pl_lt hp) (pl_lt hp) w'⟩⟩) (ak (fun γ => ⟨rfl, fun w' h => ex_loadT h 0 rfl rfl rfl Tryd.isAgg105 Tryd.sizeOf105 rfl rfl⟩) (ak (fun _ => ⟨rfl, fun _ _ => rfl⟩) (ak (fun _ => ⟨rfl, fun _ _ => rfl⟩) (ak (fun γ => ⟨rfl, fun w' h => ⟨139, #[.agg (kd p r c gx gy).toArray, U (tm p 4 (tm p x (tm p y y))), U (tm p 4 (tm p x (tm p y y)))], exec_call rfl call139 rfl (mpn rfl), plus_any hp (tm p 4 (tm p x (tm p y y))) (tm p 4 (tm p x (tm p y y))) (tm_lt hp) (tm_lt hp) w'⟩⟩) (ak (fun γ => ⟨rfl, fun w' h => ⟨140, #[.agg (kd p r c gx gy).toArray, U (tm p (pl p (tm p 3 (tm p x x)) (tm p (tm p z z) (tm p z z))) (pl p (tm p 3 (tm p x x)) (tm p (tm p z z) (tm p z z)))), U (pl p (tm p 4 (tm p x (tm p y y))) (tm p 4 (tm p x (tm p y y))))], exec_call rfl call140 rfl (mpn rfl), minus_any hp (tm p (pl p (tm p 3 (tm p x x)) (tm p (tm p z z) (tm p z z))) (pl p (tm p 3 (tm p x x)) (tm p (tm p z z) (tm p z z)))) (pl p (tm p 4 (tm p x (tm p y y))) (tm p 4 (tm p x (tm p y y)))) (tm_lt hp) (pl_lt hp) w'⟩⟩) (ak (fun _ => ⟨rfl, fun _ _ => rfl⟩) trivial))))))))))
  intro _ w5 H5
  clear H4
  refine rest0 rfl (then_normal (wp_seq ?_))
  refine walk_put (by kernel_rfl) 30 [29] [.quiet (U (mi p (tm p (pl p (tm p 3 (tm p x x)) (tm p (tm p z z) (tm p z z))) (pl p (tm p 3 (tm p x x)) (tm p (tm p z z) (tm p z z)))) (pl p (tm p 4 (tm p x (tm p y y))) (tm p 4 (tm p x (tm p y y)))))), .quiet (.agg (kd p r c gx gy).toArray), .quiet (.agg (kd p r c gx gy).toArray), .quiet (U (pl p (tm p 3 (tm p x x)) (tm p (tm p z z) (tm p z z)))), .quiet (.agg (kd p r c gx gy).toArray), .quiet (U (tm p 4 (tm p x (tm p y y)))), .quiet (U (mi p (tm p (pl p (tm p 3 (tm p x x)) (tm p (tm p z z) (tm p z z))) (pl p (tm p 3 (tm p x x)) (tm p (tm p z z) (tm p z z)))) (pl p (tm p 4 (tm p x (tm p y y))) (tm p 4 (tm p x (tm p y y)))))), .call (U (mi p (tm p 4 (tm p x (tm p y y))) (mi p (tm p (pl p (tm p 3 (tm p x x)) (tm p (tm p z z) (tm p z z))) (pl p (tm p 3 (tm p x x)) (tm p (tm p z z) (tm p z z)))) (pl p (tm p 4 (tm p x (tm p y y))) (tm p 4 (tm p x (tm p y y))))))), .call (U (tm p (pl p (tm p 3 (tm p x x)) (tm p (tm p z z) (tm p z z))) (mi p (tm p 4 (tm p x (tm p y y))) (mi p (tm p (pl p (tm p 3 (tm p x x)) (tm p (tm p z z) (tm p z z))) (pl p (tm p 3 (tm p x x)) (tm p (tm p z z) (tm p z z)))) (pl p (tm p 4 (tm p x (tm p y y))) (tm p 4 (tm p x (tm p y y)))))))), .quiet (.agg (kd p r c gx gy).toArray), .quiet (U (tm p y y)), .quiet (U (tm p y y)), .call (U (tm p (tm p y y) (tm p y y))), .quiet (U (8 * (tm p (tm p y y) (tm p y y)))), .quiet (PT γ1_0 0), .quiet (U p), .quiet (U (tm p 8 (tm p (tm p y y) (tm p y y)))), .call (U (mi p (tm p (pl p (tm p 3 (tm p x x)) (tm p (tm p z z) (tm p z z))) (mi p (tm p 4 (tm p x (tm p y y))) (mi p (tm p (pl p (tm p 3 (tm p x x)) (tm p (tm p z z) (tm p z z))) (pl p (tm p 3 (tm p x x)) (tm p (tm p z z) (tm p z z)))) (pl p (tm p 4 (tm p x (tm p y y))) (tm p 4 (tm p x (tm p y y))))))) (tm p 8 (tm p (tm p y y) (tm p y y))))), .quiet (.agg (kd p r c gx gy).toArray), .quiet (PT γ1_1 1), .quiet (U y), .quiet (PT γ1_1 2), .quiet (U z), .call (U (tm p y z)), .quiet (U (2 * (tm p y z))), .quiet (PT γ1_0 0), .quiet (U p), .quiet (U (tm p 2 (tm p y z))), .quiet (.agg (tr (mi p (tm p (pl p (tm p 3 (tm p x x)) (tm p (tm p z z) (tm p z z))) (pl p (tm p 3 (tm p x x)) (tm p (tm p z z) (tm p z z)))) (pl p (tm p 4 (tm p x (tm p y y))) (tm p 4 (tm p x (tm p y y))))) (mi p (tm p (pl p (tm p 3 (tm p x x)) (tm p (tm p z z) (tm p z z))) (mi p (tm p 4 (tm p x (tm p y y))) (mi p (tm p (pl p (tm p 3 (tm p x x)) (tm p (tm p z z) (tm p z z))) (pl p (tm p 3 (tm p x x)) (tm p (tm p z z) (tm p z z)))) (pl p (tm p 4 (tm p x (tm p y y))) (tm p 4 (tm p x (tm p y y))))))) (tm p 8 (tm p (tm p y y) (tm p y y)))) (tm p 2 (tm p y z))).toArray), .quiet (U (pl p (tm p 3 (tm p x x)) (tm p (tm p z z) (tm p z z))))] _ ?pre6 ?F6 _ ?hpre6 (fun γ => ?hF6) (by kernel_rfl) rfl ?hL6 (sB H5) ?ho6 ?hla6 ?he6
  case hpre6 => simp only [tk, tz]; rfl
  case hF6 => simp only [fill, Kind.val, Act.put, sa, sz, ss]; rfl
  case hL6 => exact trivial
  case ho6 =>
    refine ak (fun _ => ⟨rfl, fun _ _ => rfl⟩) ?_
    refine ak (fun γ => ⟨rfl, fun w' h => ex_loadT h 0 rfl rfl rfl Tryd.isAgg105 Tryd.sizeOf105 rfl rfl⟩) ?_
    refine ak (fun γ => ⟨rfl, fun w' h => ex_loadT h 0 rfl rfl rfl Tryd.isAgg105 Tryd.sizeOf105 rfl rfl⟩) ?_
    refine ak (fun _ => ⟨rfl, fun _ _ => rfl⟩) ?_
    refine ak (fun γ => ⟨rfl, fun w' h => ex_loadT h 0 rfl rfl rfl Tryd.isAgg105 Tryd.sizeOf105 rfl rfl⟩) ?_
    refine ak (fun _ => ⟨rfl, fun _ _ => rfl⟩) ?_
    refine ak (fun _ => ⟨rfl, fun _ _ => rfl⟩) ?_
    refine ak (fun γ => ⟨rfl, fun w' h => ⟨140, #[.agg (kd p r c gx gy).toArray, U (tm p 4 (tm p x (tm p y y))), U (mi p (tm p (pl p (tm p 3 (tm p x x)) (tm p (tm p z z) (tm p z z))) (pl p (tm p 3 (tm p x x)) (tm p (tm p z z) (tm p z z)))) (pl p (tm p 4 (tm p x (tm p y y))) (tm p 4 (tm p x (tm p y y)))))], exec_call rfl call140 rfl (mpn rfl), minus_any hp (tm p 4 (tm p x (tm p y y))) (mi p (tm p (pl p (tm p 3 (tm p x x)) (tm p (tm p z z) (tm p z z))) (pl p (tm p 3 (tm p x x)) (tm p (tm p z z) (tm p z z)))) (pl p (tm p 4 (tm p x (tm p y y))) (tm p 4 (tm p x (tm p y y))))) (tm_lt hp) (mi_lt hp) w'⟩⟩) ?_
    refine ak (fun γ => ⟨rfl, fun w' h => ⟨128, #[.agg (kd p r c gx gy).toArray, U (pl p (tm p 3 (tm p x x)) (tm p (tm p z z) (tm p z z))), U (mi p (tm p 4 (tm p x (tm p y y))) (mi p (tm p (pl p (tm p 3 (tm p x x)) (tm p (tm p z z) (tm p z z))) (pl p (tm p 3 (tm p x x)) (tm p (tm p z z) (tm p z z)))) (pl p (tm p 4 (tm p x (tm p y y))) (tm p 4 (tm p x (tm p y y))))))], exec_call rfl call128 rfl (mpn rfl), times_any hp (pl p (tm p 3 (tm p x x)) (tm p (tm p z z) (tm p z z))) (mi p (tm p 4 (tm p x (tm p y y))) (mi p (tm p (pl p (tm p 3 (tm p x x)) (tm p (tm p z z) (tm p z z))) (pl p (tm p 3 (tm p x x)) (tm p (tm p z z) (tm p z z)))) (pl p (tm p 4 (tm p x (tm p y y))) (tm p 4 (tm p x (tm p y y)))))) (pl_lt hp) (mi_lt hp) w'⟩⟩) ?_
    refine ak (fun γ => ⟨rfl, fun w' h => ex_loadT h 0 rfl rfl rfl Tryd.isAgg105 Tryd.sizeOf105 rfl rfl⟩) ?_
    refine ak (fun _ => ⟨rfl, fun _ _ => rfl⟩) ?_
    refine ak (fun _ => ⟨rfl, fun _ _ => rfl⟩) ?_
    refine ak (fun γ => ⟨rfl, fun w' h => ⟨128, #[.agg (kd p r c gx gy).toArray, U (tm p y y), U (tm p y y)], exec_call rfl call128 rfl (mpn rfl), times_any hp (tm p y y) (tm p y y) (tm_lt hp) (tm_lt hp) w'⟩⟩) ?_
    refine ak (fun γ => ⟨rfl, fun w' _ => ex_mulU (small_mul hp (by decide) (tm_lt hp)) rfl rfl rfl⟩) ?_
    refine ak (by refine fun γ => ⟨rfl, fun w' h => ?_⟩; clear h; go_simp) ?_
    refine ak (fun γ => ⟨rfl, fun w' h => ex_loadC h 0 rfl rfl rfl Tryd.isAgg22 rfl⟩) ?_
    refine ak (fun γ => ⟨rfl, fun w' _ => ex_remU (Nat.ne_of_gt (zero_lt hp)) rfl rfl rfl⟩) ?_
    refine ak (fun γ => ⟨rfl, fun w' h => ⟨140, #[.agg (kd p r c gx gy).toArray, U (tm p (pl p (tm p 3 (tm p x x)) (tm p (tm p z z) (tm p z z))) (mi p (tm p 4 (tm p x (tm p y y))) (mi p (tm p (pl p (tm p 3 (tm p x x)) (tm p (tm p z z) (tm p z z))) (pl p (tm p 3 (tm p x x)) (tm p (tm p z z) (tm p z z)))) (pl p (tm p 4 (tm p x (tm p y y))) (tm p 4 (tm p x (tm p y y))))))), U (tm p 8 (tm p (tm p y y) (tm p y y)))], exec_call rfl call140 rfl (mpn rfl), minus_any hp (tm p (pl p (tm p 3 (tm p x x)) (tm p (tm p z z) (tm p z z))) (mi p (tm p 4 (tm p x (tm p y y))) (mi p (tm p (pl p (tm p 3 (tm p x x)) (tm p (tm p z z) (tm p z z))) (pl p (tm p 3 (tm p x x)) (tm p (tm p z z) (tm p z z)))) (pl p (tm p 4 (tm p x (tm p y y))) (tm p 4 (tm p x (tm p y y))))))) (tm p 8 (tm p (tm p y y) (tm p y y))) (tm_lt hp) (tm_lt hp) w'⟩⟩) ?_
    refine ak (fun γ => ⟨rfl, fun w' h => ex_loadT h 0 rfl rfl rfl Tryd.isAgg105 Tryd.sizeOf105 rfl rfl⟩) ?_
    refine ak (by refine fun γ => ⟨rfl, fun w' h => ?_⟩; clear h; go_simp) ?_
    refine ak (fun γ => ⟨rfl, fun w' h => ex_loadC h 1 rfl rfl rfl Tryd.isAgg22 rfl⟩) ?_
    refine ak (by refine fun γ => ⟨rfl, fun w' h => ?_⟩; clear h; go_simp) ?_
    refine ak (fun γ => ⟨rfl, fun w' h => ex_loadC h 1 rfl rfl rfl Tryd.isAgg22 rfl⟩) ?_
    refine ak (fun γ => ⟨rfl, fun w' h => ⟨128, #[.agg (kd p r c gx gy).toArray, U y, U z], exec_call rfl call128 rfl (mpn rfl), times_any hp y z hy hz w'⟩⟩) ?_
    refine ak (fun γ => ⟨rfl, fun w' _ => ex_mulU (small_mul hp (by decide) (tm_lt hp)) rfl rfl rfl⟩) ?_
    refine ak (by refine fun γ => ⟨rfl, fun w' h => ?_⟩; clear h; go_simp) ?_
    refine ak (fun γ => ⟨rfl, fun w' h => ex_loadC h 0 rfl rfl rfl Tryd.isAgg22 rfl⟩) ?_
    refine ak (fun γ => ⟨rfl, fun w' _ => ex_remU (Nat.ne_of_gt (zero_lt hp)) rfl rfl rfl⟩) ?_
    refine ak (fun γ => ⟨rfl, fun w' _ => ex_build77_012 rfl rfl rfl rfl⟩) ?_
    refine ak (fun _ => ⟨rfl, fun _ _ => rfl⟩) ?_
    exact trivial
  case hla6 => exact ⟨⟨_, _, rfl, rfl, fun γ => ⟨rfl, fun w' => by first | rfl | go_simp⟩⟩, trivial⟩
  intro γ w6 l hM hl
  have H6 := keepB H5 hM.below
  clear hM hl l H5 γ
  refine ⟨_, ex_storeT (vs := tr (mi p (tm p (pl p (tm p 3 (tm p x x)) (tm p (tm p z z) (tm p z z))) (pl p (tm p 3 (tm p x x)) (tm p (tm p z z) (tm p z z)))) (pl p (tm p 4 (tm p x (tm p y y))) (tm p 4 (tm p x (tm p y y))))) (mi p (tm p (pl p (tm p 3 (tm p x x)) (tm p (tm p z z) (tm p z z))) (mi p (tm p 4 (tm p x (tm p y y))) (mi p (tm p (pl p (tm p 3 (tm p x x)) (tm p (tm p z z) (tm p z z))) (pl p (tm p 3 (tm p x x)) (tm p (tm p z z) (tm p z z)))) (pl p (tm p 4 (tm p x (tm p y y))) (tm p 4 (tm p x (tm p y y))))))) (tm p 8 (tm p (tm p y y) (tm p y y)))) (tm p 2 (tm p y z))) H6.out.1 2 rfl rfl rfl rfl Tryd.sizeOf146 rfl (Nat.le_of_ble_eq_true rfl), ?_⟩
  have H7 : Hid (Mm (w6.setCells γ1_2 0 (tr (mi p (tm p (pl p (tm p 3 (tm p x x)) (tm p (tm p z z) (tm p z z))) (pl p (tm p 3 (tm p x x)) (tm p (tm p z z) (tm p z z)))) (pl p (tm p 4 (tm p x (tm p y y))) (tm p 4 (tm p x (tm p y y))))) (mi p (tm p (pl p (tm p 3 (tm p x x)) (tm p (tm p z z) (tm p z z))) (mi p (tm p 4 (tm p x (tm p y y))) (mi p (tm p (pl p (tm p 3 (tm p x x)) (tm p (tm p z z) (tm p z z))) (pl p (tm p 3 (tm p x x)) (tm p (tm p z z) (tm p z z)))) (pl p (tm p 4 (tm p x (tm p y y))) (tm p 4 (tm p x (tm p y y))))))) (tm p 8 (tm p (tm p y y) (tm p y y)))) (tm p 2 (tm p y z)))) [(γ1_0, kd p r c gx gy), (γ1_1, tr x y z), (γ1_2, tr (mi p (tm p (pl p (tm p 3 (tm p x x)) (tm p (tm p z z) (tm p z z))) (pl p (tm p 3 (tm p x x)) (tm p (tm p z z) (tm p z z)))) (pl p (tm p 4 (tm p x (tm p y y))) (tm p 4 (tm p x (tm p y y))))) (mi p (tm p (pl p (tm p 3 (tm p x x)) (tm p (tm p z z) (tm p z z))) (mi p (tm p 4 (tm p x (tm p y y))) (mi p (tm p (pl p (tm p 3 (tm p x x)) (tm p (tm p z z) (tm p z z))) (pl p (tm p 3 (tm p x x)) (tm p (tm p z z) (tm p z z)))) (pl p (tm p 4 (tm p x (tm p y y))) (tm p 4 (tm p x (tm p y y))))))) (tm p 8 (tm p (tm p y y) (tm p y y)))) (tm p 2 (tm p y z)))] ∧ Below w.heap.size w (w6.setCells γ1_2 0 (tr (mi p (tm p (pl p (tm p 3 (tm p x x)) (tm p (tm p z z) (tm p z z))) (pl p (tm p 3 (tm p x x)) (tm p (tm p z z) (tm p z z)))) (pl p (tm p 4 (tm p x (tm p y y))) (tm p 4 (tm p x (tm p y y))))) (mi p (tm p (pl p (tm p 3 (tm p x x)) (tm p (tm p z z) (tm p z z))) (mi p (tm p 4 (tm p x (tm p y y))) (mi p (tm p (pl p (tm p 3 (tm p x x)) (tm p (tm p z z) (tm p z z))) (pl p (tm p 3 (tm p x x)) (tm p (tm p z z) (tm p z z)))) (pl p (tm p 4 (tm p x (tm p y y))) (tm p 4 (tm p x (tm p y y))))))) (tm p 8 (tm p (tm p y y) (tm p y y)))) (tm p 2 (tm p y z))))) := ⟨H6.out.1.put 2 (off := 0) (vs := tr (mi p (tm p (pl p (tm p 3 (tm p x x)) (tm p (tm p z z) (tm p z z))) (pl p (tm p 3 (tm p x x)) (tm p (tm p z z) (tm p z z)))) (pl p (tm p 4 (tm p x (tm p y y))) (tm p 4 (tm p x (tm p y y))))) (mi p (tm p (pl p (tm p 3 (tm p x x)) (tm p (tm p z z) (tm p z z))) (mi p (tm p 4 (tm p x (tm p y y))) (mi p (tm p (pl p (tm p 3 (tm p x x)) (tm p (tm p z z) (tm p z z))) (pl p (tm p 3 (tm p x x)) (tm p (tm p z z) (tm p z z)))) (pl p (tm p 4 (tm p x (tm p y y))) (tm p 4 (tm p x (tm p y y))))))) (tm p 8 (tm p (tm p y y) (tm p y y)))) (tm p 2 (tm p y z))) rfl (Nat.le_of_ble_eq_true rfl), below_setCells _ o1_2.out _ _ _ H6.out.2⟩
  clear H6
  generalize hgw : World.setCells _ _ _ _ = w7 at H7 ⊢
  clear hgw
  refine rest_at (l := [31]) rfl ?_
  refine rest_set (d := 5) rfl rfl rfl rfl ?_
  simp only [Act.put, sa, sz, ss]
  refine rest_nil (then_normal (wp_ret ?_))
  repeat (first | refine then_ret ?_ | refine block_ret ?_)
  have hf0 := var_T H7.out.1 2 rfl Tryd.isAgg146 Tryd.sizeOf146 rfl
  refine bodyPost_ret (v := .tuple #[.agg (tr (mi p (tm p (pl p (tm p 3 (tm p x x)) (tm p (tm p z z) (tm p z z))) (pl p (tm p 3 (tm p x x)) (tm p (tm p z z) (tm p z z)))) (pl p (tm p 4 (tm p x (tm p y y))) (tm p 4 (tm p x (tm p y y))))) (mi p (tm p (pl p (tm p 3 (tm p x x)) (tm p (tm p z z) (tm p z z))) (mi p (tm p 4 (tm p x (tm p y y))) (mi p (tm p (pl p (tm p 3 (tm p x x)) (tm p (tm p z z) (tm p z z))) (pl p (tm p 3 (tm p x x)) (tm p (tm p z z) (tm p z z)))) (pl p (tm p 4 (tm p x (tm p y y))) (tm p 4 (tm p x (tm p y y))))))) (tm p 8 (tm p (tm p y y) (tm p y y)))) (tm p 2 (tm p y z))).toArray, U (pl p (tm p 3 (tm p x x)) (tm p (tm p z z) (tm p z z)))]) (by simp [results, Tryd.results130, asAddr, Act.eval, hf0]) rfl ?_
  exact ⟨rfl, H7.out.2⟩
theorem twice_any (hp : Pr p) (t : T3) (ht : Lt3 p t) (w : World) : Calls Tryd.prog 130 #[.agg (kd p r c gx gy).toArray, .agg (tr t.1 t.2.1 t.2.2).toArray] w fun e w' => e = .returned (.tuple #[V (tc (twT p t)), U (tR p t.1 t.2.2)]) ∧ Below w.heap.size w w' :=
  twice_raw hp t.1 t.2.1 t.2.2 ht.x ht.y ht.z w
set_option maxRecDepth 100000 in
theorem joined_z (x y z X Y : Nat) (w : World) :
    Calls Tryd.prog 131 #[.agg (kd p r c gx gy).toArray, .agg (tr x y z).toArray, .agg (pt X Y true).toArray] w fun e w' => e = .returned (.tuple #[V (tr x y z), U 0]) ∧ Below w.heap.size w w' := by
  have H0 : Hid (_ ∧ _) := ⟨Mm.nil w, Below.refl w.heap.size w⟩
  go_enter Tryd.func131, Tryd.ntmps131
  refine wp_seq ?_
  refine walk_seqA 5 [.made (kd p r c gx gy) 105, .made (tr x y z) 146, .made (pt X Y true) 64, .made (tr 0 0 0) 146, .quiet (U 0)] (sB H0) ?ho1 ?he1
  case ho1 => exact ak (fun γ => ⟨rfl, fun w' => ex_boxT rfl rfl⟩) (ak (fun γ => ⟨rfl, fun w' => ex_boxT rfl rfl⟩) (ak (fun γ => ⟨rfl, fun w' => ex_boxT rfl rfl⟩) (ak (fun γ => ⟨rfl, fun w' => ex_made77 rfl⟩) (ak (fun _ => ⟨rfl, fun _ _ => rfl⟩) trivial))))
  intro γ w1 l hM hl
  have H1 : Hid (Mm w1 [(γ 0, kd p r c gx gy), (γ 1, tr x y z), (γ 2, pt X Y true), (γ 3, tr 0 0 0)] ∧ _) := growB H0 hM (Nat.le_refl _) hl [0, 1, 2, 3] rfl (by decide)
  have o1_0 := ownB H0 hM (Nat.le_refl _) hl (i := 0) rfl
  have o1_1 := ownB H0 hM (Nat.le_refl _) hl (i := 1) rfl
  have o1_2 := ownB H0 hM (Nat.le_refl _) hl (i := 2) rfl
  have o1_3 := ownB H0 hM (Nat.le_refl _) hl (i := 3) rfl
  clear hM hl l
  generalize γ 0 = γ1_0 at H1 o1_0 ⊢
  generalize γ 1 = γ1_1 at H1 o1_1 ⊢
  generalize γ 2 = γ1_2 at H1 o1_2 ⊢
  generalize γ 3 = γ1_3 at H1 o1_3 ⊢
  clear γ
  refine rest0 rfl (then_normal (wp_seq (wp_seq ?_)))
  refine walk_seqB 2 [.quiet (PT γ1_2 2), .quiet (.bool true)] H1 ?ho2 ?he2
  case ho2 => exact ak (by refine fun γ => ⟨rfl, fun w' h => ?_⟩; clear h; go_simp) (ak (fun γ => ⟨rfl, fun w' h => ex_loadC h 2 rfl rfl rfl Tryd.isAgg4 rfl⟩) trivial)
  intro _ w2 H2
  clear H1
  refine rest0 rfl (then_normal (wp_cond_true rfl (wp_seq ?_)))
  refine walk_seqB 1 [.quiet (.agg (tr x y z).toArray)] H2 ?ho3 ?he3
  case ho3 => exact ak (fun γ => ⟨rfl, fun w' h => ex_loadT h 1 rfl rfl rfl Tryd.isAgg146 Tryd.sizeOf146 rfl rfl⟩) trivial
  intro _ w3 H3
  clear H2
  refine rest_at (l := [1, 2]) rfl ?_
  refine rest_store rfl rfl rfl (ex_storeT (vs := tr x y z) H3.out.1 3 rfl rfl rfl rfl Tryd.sizeOf146 rfl (Nat.le_of_ble_eq_true rfl)) ?_
  have H4 : Hid (Mm (w3.setCells γ1_3 0 (tr x y z)) [(γ1_0, kd p r c gx gy), (γ1_1, tr x y z), (γ1_2, pt X Y true), (γ1_3, tr x y z)] ∧ Below w.heap.size w (w3.setCells γ1_3 0 (tr x y z))) := ⟨H3.out.1.put 3 (off := 0) (vs := tr x y z) rfl (Nat.le_of_ble_eq_true rfl), below_setCells _ o1_3.out _ _ _ H3.out.2⟩
  clear H3
  generalize hgw : World.setCells _ _ _ _ = w4 at H4 ⊢
  clear hgw
  refine rest_set (d := 7) rfl rfl rfl rfl ?_
  simp only [Act.put, sa, sz, ss]
  refine rest_nil (then_normal (wp_ret ?_))
  repeat (first | refine then_ret ?_ | refine block_ret ?_)
  have hf0 := var_T H4.out.1 3 rfl Tryd.isAgg146 Tryd.sizeOf146 rfl
  refine bodyPost_ret (v := .tuple #[.agg (tr x y z).toArray, U 0]) (by simp [results, Tryd.results131, asAddr, Act.eval, hf0]) rfl ?_
  exact ⟨rfl, H4.out.2⟩
set_option maxRecDepth 100000 in
theorem joined_0 (x y z X Y : Nat) (h : z = 0) (w : World) :
    Calls Tryd.prog 131 #[.agg (kd p r c gx gy).toArray, .agg (tr x y z).toArray, .agg (pt X Y false).toArray] w fun e w' => e = .returned (.tuple #[V (tr X Y 1), U 0]) ∧ Below w.heap.size w w' := by
  have H0 : Hid (_ ∧ _) := ⟨Mm.nil w, Below.refl w.heap.size w⟩
  go_enter Tryd.func131, Tryd.ntmps131
  refine wp_seq ?_
  refine walk_seqA 5 [.made (kd p r c gx gy) 105, .made (tr x y z) 146, .made (pt X Y false) 64, .made (tr 0 0 0) 146, .quiet (U 0)] (sB H0) ?ho1 ?he1
  case ho1 => exact ak (fun γ => ⟨rfl, fun w' => ex_boxT rfl rfl⟩) (ak (fun γ => ⟨rfl, fun w' => ex_boxT rfl rfl⟩) (ak (fun γ => ⟨rfl, fun w' => ex_boxT rfl rfl⟩) (ak (fun γ => ⟨rfl, fun w' => ex_made77 rfl⟩) (ak (fun _ => ⟨rfl, fun _ _ => rfl⟩) trivial))))
  intro γ w1 l hM hl
  have H1 : Hid (Mm w1 [(γ 0, kd p r c gx gy), (γ 1, tr x y z), (γ 2, pt X Y false), (γ 3, tr 0 0 0)] ∧ _) := growB H0 hM (Nat.le_refl _) hl [0, 1, 2, 3] rfl (by decide)
  have o1_0 := ownB H0 hM (Nat.le_refl _) hl (i := 0) rfl
  have o1_1 := ownB H0 hM (Nat.le_refl _) hl (i := 1) rfl
  have o1_2 := ownB H0 hM (Nat.le_refl _) hl (i := 2) rfl
  have o1_3 := ownB H0 hM (Nat.le_refl _) hl (i := 3) rfl
  clear hM hl l
  generalize γ 0 = γ1_0 at H1 o1_0 ⊢
  generalize γ 1 = γ1_1 at H1 o1_1 ⊢
  generalize γ 2 = γ1_2 at H1 o1_2 ⊢
  generalize γ 3 = γ1_3 at H1 o1_3 ⊢
  clear γ
  refine rest0 rfl (then_normal (wp_seq (wp_seq ?_)))
  refine walk_seqB 2 [.quiet (PT γ1_2 2), .quiet (.bool false)] H1 ?ho2 ?he2
  case ho2 => exact ak (by refine fun γ => ⟨rfl, fun w' h => ?_⟩; clear h; go_simp) (ak (fun γ => ⟨rfl, fun w' h => ex_loadC h 2 rfl rfl rfl Tryd.isAgg4 rfl⟩) trivial)
  intro _ w2 H2
  clear H1
  refine rest0 rfl (then_normal (wp_cond_false rfl ?_))
  refine wp_skip (then_normal ?_)
  refine wp_seq (wp_seq ?_)
  refine walk_seqB 3 [.quiet (PT γ1_1 2), .quiet (U z), .quiet (.bool true)] H2 ?ho3 ?he3
  case ho3 => exact ak (by refine fun γ => ⟨rfl, fun w' h => ?_⟩; clear h; go_simp) (ak (fun γ => ⟨rfl, fun w' h => ex_loadC h 1 rfl rfl rfl Tryd.isAgg22 rfl⟩) (ak (fun γ => ⟨rfl, fun w' _ => ex_eqU rfl rfl rfl (decide_eq_true (h))⟩) trivial))
  intro _ w3 H3
  clear H2
  refine rest0 rfl (then_normal (wp_cond_true rfl (wp_seq ?_)))
  refine walk_seqB 2 [.quiet (.agg (pt X Y false).toArray), .call (.agg (tr X Y 1).toArray)] H3 ?ho4 ?he4
  case ho4 => exact ak (fun γ => ⟨rfl, fun w' h => ex_loadT h 2 rfl rfl rfl Tryd.isAgg64 Tryd.sizeOf64 rfl rfl⟩) (ak (fun γ => ⟨rfl, fun w' h => ⟨141, #[.agg (pt X Y false).toArray], exec_call rfl call141 rfl (mpn rfl), tripleOf_f X Y w'⟩⟩) trivial)
  intro _ w4 H4
  clear H3
  refine rest_at (l := [2, 3]) rfl ?_
  refine rest_store rfl rfl rfl (ex_storeT (vs := tr X Y 1) H4.out.1 3 rfl rfl rfl rfl Tryd.sizeOf146 rfl (Nat.le_of_ble_eq_true rfl)) ?_
  have H5 : Hid (Mm (w4.setCells γ1_3 0 (tr X Y 1)) [(γ1_0, kd p r c gx gy), (γ1_1, tr x y z), (γ1_2, pt X Y false), (γ1_3, tr X Y 1)] ∧ Below w.heap.size w (w4.setCells γ1_3 0 (tr X Y 1))) := ⟨H4.out.1.put 3 (off := 0) (vs := tr X Y 1) rfl (Nat.le_of_ble_eq_true rfl), below_setCells _ o1_3.out _ _ _ H4.out.2⟩
  clear H4
  generalize hgw : World.setCells _ _ _ _ = w5 at H5 ⊢
  clear hgw
  refine rest_set (d := 7) rfl rfl rfl rfl ?_
  simp only [Act.put, sa, sz, ss]
  refine rest_nil (then_normal (wp_ret ?_))
  repeat (first | refine then_ret ?_ | refine block_ret ?_)
  have hf0 := var_T H5.out.1 3 rfl Tryd.isAgg146 Tryd.sizeOf146 rfl
  refine bodyPost_ret (v := .tuple #[.agg (tr X Y 1).toArray, U 0]) (by simp [results, Tryd.results131, asAddr, Act.eval, hf0]) rfl ?_
  exact ⟨rfl, H5.out.2⟩
set_option maxHeartbeats 1000000 in
set_option maxRecDepth 100000 in
theorem joined_same (hp : Pr p) (x y z : Nat) (hx : x < p) (hy : y < p) (hz : z < p) (X Y : Nat) (hX : X < p) (hY : Y < p) (h : z ≠ 0) (h1 : jU p x z X = 0) (h2 : jS p y z Y = 0) (w : World) :
    Calls Tryd.prog 131 #[.agg (kd p r c gx gy).toArray, .agg (tr x y z).toArray, .agg (pt X Y false).toArray] w fun e w' => e = .returned (.tuple #[V (tr (tX p x y z) (tY p x y z) (tm p 2 (tm p y z))), U (tR p x z)]) ∧ Below w.heap.size w w' := by
  have H0 : Hid (_ ∧ _) := ⟨Mm.nil w, Below.refl w.heap.size w⟩
  go_enter Tryd.func131, Tryd.ntmps131
  refine wp_seq ?_
  refine walk_seqA 5 [.made (kd p r c gx gy) 105, .made (tr x y z) 146, .made (pt X Y false) 64, .made (tr 0 0 0) 146, .quiet (U 0)] (sB H0) ?ho1 ?he1
  case ho1 => exact ak (fun γ => ⟨rfl, fun w' => ex_boxT rfl rfl⟩) (ak (fun γ => ⟨rfl, fun w' => ex_boxT rfl rfl⟩) (ak (fun γ => ⟨rfl, fun w' => ex_boxT rfl rfl⟩) (ak (fun γ => ⟨rfl, fun w' => ex_made77 rfl⟩) (ak (fun _ => ⟨rfl, fun _ _ => rfl⟩) trivial))))
  intro γ w1 l hM hl
  have H1 : Hid (Mm w1 [(γ 0, kd p r c gx gy), (γ 1, tr x y z), (γ 2, pt X Y false), (γ 3, tr 0 0 0)] ∧ _) := growB H0 hM (Nat.le_refl _) hl [0, 1, 2, 3] rfl (by decide)
  have o1_0 := ownB H0 hM (Nat.le_refl _) hl (i := 0) rfl
  have o1_1 := ownB H0 hM (Nat.le_refl _) hl (i := 1) rfl
  have o1_2 := ownB H0 hM (Nat.le_refl _) hl (i := 2) rfl
  have o1_3 := ownB H0 hM (Nat.le_refl _) hl (i := 3) rfl
  clear hM hl l
  generalize γ 0 = γ1_0 at H1 o1_0 ⊢
  generalize γ 1 = γ1_1 at H1 o1_1 ⊢
  generalize γ 2 = γ1_2 at H1 o1_2 ⊢
  generalize γ 3 = γ1_3 at H1 o1_3 ⊢
  clear γ
  refine rest0 rfl (then_normal (wp_seq (wp_seq ?_)))
  refine walk_seqB 2 [.quiet (PT γ1_2 2), .quiet (.bool false)] H1 ?ho2 ?he2
  case ho2 => exact ak (by refine fun γ => ⟨rfl, fun w' h => ?_⟩; clear h; go_simp) (ak (fun γ => ⟨rfl, fun w' h => ex_loadC h 2 rfl rfl rfl Tryd.isAgg4 rfl⟩) trivial)
  intro _ w2 H2
  clear H1
  refine rest0 rfl (then_normal (wp_cond_false rfl ?_))
  refine wp_skip (then_normal ?_)
  refine wp_seq (wp_seq ?_)
  refine walk_seqB 3 [.quiet (PT γ1_1 2), .quiet (U z), .quiet (.bool false)] H2 ?ho3 ?he3
  case ho3 => exact ak (by refine fun γ => ⟨rfl, fun w' h => ?_⟩; clear h; go_simp) (ak (fun γ => ⟨rfl, fun w' h => ex_loadC h 1 rfl rfl rfl Tryd.isAgg22 rfl⟩) (ak (fun γ => ⟨rfl, fun w' _ => ex_eqU rfl rfl rfl (decide_eq_false (h))⟩) trivial))
  intro _ w3 H3
  clear H2
  refine rest0 rfl (then_normal (wp_cond_false rfl ?_))
  refine wp_skip (then_normal (wp_seq ?_))
  refine walk_seqB 7 [.quiet (.agg (kd p r c gx gy).toArray), .quiet (PT γ1_1 2), .quiet (U z), .quiet (PT γ1_1 2), .quiet (U z), .call (U (tm p z z)), .quiet (U (tm p z z))] H3 ?ho4 ?he4
  case ho4 => exact ak (fun γ => ⟨rfl, fun w' h => ex_loadT h 0 rfl rfl rfl Tryd.isAgg105 Tryd.sizeOf105 rfl rfl⟩) (ak (by refine fun γ => ⟨rfl, fun w' h => ?_⟩; clear h; go_simp) (ak (fun γ => ⟨rfl, fun w' h => ex_loadC h 1 rfl rfl rfl Tryd.isAgg22 rfl⟩) (ak (by refine fun γ => ⟨rfl, fun w' h => ?_⟩; clear h; go_simp) (ak (fun γ => ⟨rfl, fun w' h => ex_loadC h 1 rfl rfl rfl Tryd.isAgg22 rfl⟩) (ak (fun γ => ⟨rfl, fun w' h => ⟨128, #[.agg (kd p r c gx gy).toArray, U z, U z], exec_call rfl call128 rfl (mpn rfl), times_any hp z z hz hz w'⟩⟩) (ak (fun _ => ⟨rfl, fun _ _ => rfl⟩) trivial))))))
  intro _ w4 H4
  clear H3
  refine rest0 rfl (then_normal (wp_seq ?_))
  refine walk_anyB 10 [.quiet (.agg (kd p r c gx gy).toArray), .quiet (.agg (kd p r c gx gy).toArray), .quiet (PT γ1_2 0), .quiet (U X), .quiet (U (tm p z z)), .call (U (tm p X (tm p z z))), .quiet (PT γ1_1 0), .quiet (U x), .call (U (jU p x z X)), .quiet (U (jU p x z X))] H4 ?ho5 ?he5
  case ho5 => exact ak (fun γ => ⟨rfl, fun w' h => ex_loadT h 0 rfl rfl rfl Tryd.isAgg105 Tryd.sizeOf105 rfl rfl⟩) (ak (fun γ => ⟨rfl, fun w' h => ex_loadT h 0 rfl rfl rfl Tryd.isAgg105 Tryd.sizeOf105 rfl rfl⟩) (ak (by refine fun γ => ⟨rfl, fun w' h => ?_⟩; clear h; go_simp) (ak (fun γ => ⟨rfl, fun w' h => ex_loadC h 2 rfl rfl rfl Tryd.isAgg22 rfl⟩) (ak (fun _ => ⟨rfl, fun _ _ => rfl⟩) (ak (fun γ => ⟨rfl, fun w' h => ⟨128, #[.agg (kd p r c gx gy).toArray, U X, U (tm p z z)], exec_call rfl call128 rfl (mpn rfl), times_any hp X (tm p z z) hX (tm_lt hp) w'⟩⟩) (ak (by refine fun γ => ⟨rfl, fun w' h => ?_⟩; clear h; go_simp) (ak (fun γ => ⟨rfl, fun w' h => ex_loadC h 1 rfl rfl rfl Tryd.isAgg22 rfl⟩) (ak (fun γ => ⟨rfl, fun w' h => ⟨140, #[.agg (kd p r c gx gy).toArray, U (tm p X (tm p z z)), U x], exec_call rfl call140 rfl (mpn rfl), minus_any hp (tm p X (tm p z z)) x (tm_lt hp) hx w'⟩⟩) (ak (fun _ => ⟨rfl, fun _ _ => rfl⟩) trivial)))))))))
  intro _ w5 H5
  clear H4
  refine rest0 rfl (then_normal (wp_seq ?_))
  refine walk_anyB 14 [.quiet (.agg (kd p r c gx gy).toArray), .quiet (.agg (kd p r c gx gy).toArray), .quiet (PT γ1_2 1), .quiet (U Y), .quiet (.agg (kd p r c gx gy).toArray), .quiet (PT γ1_1 2), .quiet (U z), .quiet (U (tm p z z)), .call (U (tm p z (tm p z z))), .call (U (tm p Y (tm p z (tm p z z)))), .quiet (PT γ1_1 1), .quiet (U y), .call (U (jS p y z Y)), .quiet (U (jS p y z Y))] H5 ?ho6 ?he6
  case ho6 => exact ak (fun γ => ⟨rfl, fun w' h => ex_loadT h 0 rfl rfl rfl Tryd.isAgg105 Tryd.sizeOf105 rfl rfl⟩) (ak (fun γ => ⟨rfl, fun w' h => ex_loadT h 0 rfl rfl rfl Tryd.isAgg105 Tryd.sizeOf105 rfl rfl⟩) (ak (by refine fun γ => ⟨rfl, fun w' h => ?_⟩; clear h; go_simp) (ak (fun γ => ⟨rfl, fun w' h => ex_loadC h 2 rfl rfl rfl Tryd.isAgg22 rfl⟩) (ak (fun γ => ⟨rfl, fun w' h => ex_loadT h 0 rfl rfl rfl Tryd.isAgg105 Tryd.sizeOf105 rfl rfl⟩) (ak (by refine fun γ => ⟨rfl, fun w' h => ?_⟩; clear h; go_simp) (ak (fun γ => ⟨rfl, fun w' h => ex_loadC h 1 rfl rfl rfl Tryd.isAgg22 rfl⟩) (ak (fun _ => ⟨rfl, fun _ _ => rfl⟩) (ak (fun γ => ⟨rfl, fun w' h => ⟨128, #[.agg (kd p r c gx gy).toArray, U z, U (tm p z z)], exec_call rfl call128 rfl (mpn rfl), times_any hp z (tm p z z) hz (tm_lt hp) w'⟩⟩) (ak (fun γ => ⟨rfl, fun w' h => ⟨128, #[.agg (kd p r c gx gy).toArray, U Y, U (tm p z (tm p z z))], exec_call rfl call128 rfl (mpn rfl), times_any hp Y (tm p z (tm p z z)) hY (tm_lt hp) w'⟩⟩) (ak (by refine fun γ => ⟨rfl, fun w' h => ?_⟩; clear h; go_simp) (ak (fun γ => ⟨rfl, fun w' h => ex_loadC h 1 rfl rfl rfl Tryd.isAgg22 rfl⟩) (ak (fun γ => ⟨rfl, fun w' h => ⟨140, #[.agg (kd p r c gx gy).toArray, U (tm p Y (tm p z (tm p z z))), U y], exec_call rfl call140 rfl (mpn rfl), minus_any hp (tm p Y (tm p z (tm p z z))) y (tm_lt hp) hy w'⟩⟩) (ak (fun _ => ⟨rfl, fun _ _ => rfl⟩) trivial)))))))))))))
  intro _ w6 H6
  clear H5
  refine rest0 rfl (then_normal (wp_seq (wp_seq ?_)))
  refine walk_seqB 6 [.quiet (U (jU p x z X)), .quiet (.bool true), .quiet (.bool true), .quiet (U (jS p y z Y)), .quiet (.bool true), .quiet (.bool true)] H6 ?ho7 ?he7
  case ho7 => exact ak (fun _ => ⟨rfl, fun _ _ => rfl⟩) (ak (fun γ => ⟨rfl, fun w' _ => ex_eqU rfl rfl rfl (decide_eq_true (h1))⟩) (ak (fun _ => ⟨rfl, fun _ _ => rfl⟩) (ak (fun _ => ⟨rfl, fun _ _ => rfl⟩) (ak (fun γ => ⟨rfl, fun w' _ => ex_eqU rfl rfl rfl (decide_eq_true (h2))⟩) (ak (by refine fun γ => ⟨rfl, fun w' h => ?_⟩; clear h; go_simp) trivial)))))
  intro _ w7 H7
  clear H6
  refine rest0 rfl (then_normal (wp_cond_true rfl (wp_seq ?_)))
  refine walk_seqB 5 [.quiet (.agg (kd p r c gx gy).toArray), .quiet (.agg (tr x y z).toArray), .call (.tuple #[.agg (tr (tX p x y z) (tY p x y z) (tm p 2 (tm p y z))).toArray, U (tR p x z)]), .quiet (.agg (tr (tX p x y z) (tY p x y z) (tm p 2 (tm p y z))).toArray), .quiet (U (tR p x z))] H7 ?ho8 ?he8
  case ho8 => exact ak (fun γ => ⟨rfl, fun w' h => ex_loadT h 0 rfl rfl rfl Tryd.isAgg105 Tryd.sizeOf105 rfl rfl⟩) (ak (fun γ => ⟨rfl, fun w' h => ex_loadT h 1 rfl rfl rfl Tryd.isAgg146 Tryd.sizeOf146 rfl rfl⟩) (ak (fun γ => ⟨rfl, fun w' h => ⟨130, #[.agg (kd p r c gx gy).toArray, .agg (tr x y z).toArray], exec_call rfl call130 rfl (mpn rfl), twice_raw hp x y z hx hy hz w'⟩⟩) (ak (by refine fun γ => ⟨rfl, fun w' h => ?_⟩; clear h; go_simp) (ak (by refine fun γ => ⟨rfl, fun w' h => ?_⟩; clear h; go_simp) trivial))))
  intro _ w8 H8
  clear H7
  refine rest_at (l := [5, 6]) rfl ?_
  refine rest_store rfl rfl rfl (ex_storeT (vs := tr (tX p x y z) (tY p x y z) (tm p 2 (tm p y z))) H8.out.1 3 rfl rfl rfl rfl Tryd.sizeOf146 rfl (Nat.le_of_ble_eq_true rfl)) ?_
  have H9 : Hid (Mm (w8.setCells γ1_3 0 (tr (tX p x y z) (tY p x y z) (tm p 2 (tm p y z)))) [(γ1_0, kd p r c gx gy), (γ1_1, tr x y z), (γ1_2, pt X Y false), (γ1_3, tr (tX p x y z) (tY p x y z) (tm p 2 (tm p y z)))] ∧ Below w.heap.size w (w8.setCells γ1_3 0 (tr (tX p x y z) (tY p x y z) (tm p 2 (tm p y z))))) := ⟨H8.out.1.put 3 (off := 0) (vs := tr (tX p x y z) (tY p x y z) (tm p 2 (tm p y z))) rfl (Nat.le_of_ble_eq_true rfl), below_setCells _ o1_3.out _ _ _ H8.out.2⟩
  clear H8
  generalize hgw : World.setCells _ _ _ _ = w9 at H9 ⊢
  clear hgw
  refine rest_set (d := 7) rfl rfl rfl rfl ?_
  simp only [Act.put, sa, sz, ss]
  refine rest_nil (then_normal (wp_ret ?_))
  repeat (first | refine then_ret ?_ | refine block_ret ?_)
  have hf0 := var_T H9.out.1 3 rfl Tryd.isAgg146 Tryd.sizeOf146 rfl
  refine bodyPost_ret (v := .tuple #[.agg (tr (tX p x y z) (tY p x y z) (tm p 2 (tm p y z))).toArray, U (tR p x z)]) (by simp [results, Tryd.results131, asAddr, Act.eval, hf0]) rfl ?_
  exact ⟨rfl, H9.out.2⟩
set_option maxHeartbeats 1000000 in
set_option maxRecDepth 100000 in
theorem joined_u (hp : Pr p) (x y z : Nat) (hx : x < p) (hy : y < p) (hz : z < p) (X Y : Nat) (hX : X < p) (hY : Y < p) (h : z ≠ 0) (h1 : jU p x z X ≠ 0) (w : World) :
    Calls Tryd.prog 131 #[.agg (kd p r c gx gy).toArray, .agg (tr x y z).toArray, .agg (pt X Y false).toArray] w fun e w' => e = .returned (.tuple #[V (tr (jX p x (jU p x z X) (jS p y z Y)) (jY p x y (jU p x z X) (jS p y z Y)) (tm p z (jU p x z X))), U (jS p y z Y)]) ∧ Below w.heap.size w w' := by
  have H0 : Hid (_ ∧ _) := ⟨Mm.nil w, Below.refl w.heap.size w⟩
  go_enter Tryd.func131, Tryd.ntmps131
  refine wp_seq ?_
  refine walk_seqA 5 [.made (kd p r c gx gy) 105, .made (tr x y z) 146, .made (pt X Y false) 64, .made (tr 0 0 0) 146, .quiet (U 0)] (sB H0) ?ho1 ?he1
  case ho1 => exact ak (fun γ => ⟨rfl, fun w' => ex_boxT rfl rfl⟩) (ak (fun γ => ⟨rfl, fun w' => ex_boxT rfl rfl⟩) (ak (fun γ => ⟨rfl, fun w' => ex_boxT rfl rfl⟩) (ak (fun γ => ⟨rfl, fun w' => ex_made77 rfl⟩) (ak (fun _ => ⟨rfl, fun _ _ => rfl⟩) trivial))))
  intro γ w1 l hM hl
  have H1 : Hid (Mm w1 [(γ 0, kd p r c gx gy), (γ 1, tr x y z), (γ 2, pt X Y false), (γ 3, tr 0 0 0)] ∧ _) := growB H0 hM (Nat.le_refl _) hl [0, 1, 2, 3] rfl (by decide)
  have o1_0 := ownB H0 hM (Nat.le_refl _) hl (i := 0) rfl
  have o1_1 := ownB H0 hM (Nat.le_refl _) hl (i := 1) rfl
  have o1_2 := ownB H0 hM (Nat.le_refl _) hl (i := 2) rfl
  have o1_3 := ownB H0 hM (Nat.le_refl _) hl (i := 3) rfl
  clear hM hl l
  generalize γ 0 = γ1_0 at H1 o1_0 ⊢
  generalize γ 1 = γ1_1 at H1 o1_1 ⊢
  generalize γ 2 = γ1_2 at H1 o1_2 ⊢
  generalize γ 3 = γ1_3 at H1 o1_3 ⊢
  clear γ
  refine rest0 rfl (then_normal (wp_seq (wp_seq ?_)))
  refine walk_seqB 2 [.quiet (PT γ1_2 2), .quiet (.bool false)] H1 ?ho2 ?he2
  case ho2 => exact ak (by refine fun γ => ⟨rfl, fun w' h => ?_⟩; clear h; go_simp) (ak (fun γ => ⟨rfl, fun w' h => ex_loadC h 2 rfl rfl rfl Tryd.isAgg4 rfl⟩) trivial)
  intro _ w2 H2
  clear H1
  refine rest0 rfl (then_normal (wp_cond_false rfl ?_))
  refine wp_skip (then_normal ?_)
  refine wp_seq (wp_seq ?_)
  refine walk_seqB 3 [.quiet (PT γ1_1 2), .quiet (U z), .quiet (.bool false)] H2 ?ho3 ?he3
  case ho3 => exact ak (by refine fun γ => ⟨rfl, fun w' h => ?_⟩; clear h; go_simp) (ak (fun γ => ⟨rfl, fun w' h => ex_loadC h 1 rfl rfl rfl Tryd.isAgg22 rfl⟩) (ak (fun γ => ⟨rfl, fun w' _ => ex_eqU rfl rfl rfl (decide_eq_false (h))⟩) trivial))
  intro _ w3 H3
  clear H2
  refine rest0 rfl (then_normal (wp_cond_false rfl ?_))
  refine wp_skip (then_normal (wp_seq ?_))
  refine walk_seqB 7 [.quiet (.agg (kd p r c gx gy).toArray), .quiet (PT γ1_1 2), .quiet (U z), .quiet (PT γ1_1 2), .quiet (U z), .call (U (tm p z z)), .quiet (U (tm p z z))] H3 ?ho4 ?he4
  case ho4 => exact ak (fun γ => ⟨rfl, fun w' h => ex_loadT h 0 rfl rfl rfl Tryd.isAgg105 Tryd.sizeOf105 rfl rfl⟩) (ak (by refine fun γ => ⟨rfl, fun w' h => ?_⟩; clear h; go_simp) (ak (fun γ => ⟨rfl, fun w' h => ex_loadC h 1 rfl rfl rfl Tryd.isAgg22 rfl⟩) (ak (by refine fun γ => ⟨rfl, fun w' h => ?_⟩; clear h; go_simp) (ak (fun γ => ⟨rfl, fun w' h => ex_loadC h 1 rfl rfl rfl Tryd.isAgg22 rfl⟩) (ak (fun γ => ⟨rfl, fun w' h => ⟨128, #[.agg (kd p r c gx gy).toArray, U z, U z], exec_call rfl call128 rfl (mpn rfl), times_any hp z z hz hz w'⟩⟩) (ak (fun _ => ⟨rfl, fun _ _ => rfl⟩) trivial))))))
  intro _ w4 H4
  clear H3
  refine rest0 rfl (then_normal (wp_seq ?_))
  refine walk_anyB 10 [.quiet (.agg (kd p r c gx gy).toArray), .quiet (.agg (kd p r c gx gy).toArray), .quiet (PT γ1_2 0), .quiet (U X), .quiet (U (tm p z z)), .call (U (tm p X (tm p z z))), .quiet (PT γ1_1 0), .quiet (U x), .call (U (jU p x z X)), .quiet (U (jU p x z X))] H4 ?ho5 ?he5
  case ho5 => exact ak (fun γ => ⟨rfl, fun w' h => ex_loadT h 0 rfl rfl rfl Tryd.isAgg105 Tryd.sizeOf105 rfl rfl⟩) (ak (fun γ => ⟨rfl, fun w' h => ex_loadT h 0 rfl rfl rfl Tryd.isAgg105 Tryd.sizeOf105 rfl rfl⟩) (ak (by refine fun γ => ⟨rfl, fun w' h => ?_⟩; clear h; go_simp) (ak (fun γ => ⟨rfl, fun w' h => ex_loadC h 2 rfl rfl rfl Tryd.isAgg22 rfl⟩) (ak (fun _ => ⟨rfl, fun _ _ => rfl⟩) (ak (fun γ => ⟨rfl, fun w' h => ⟨128, #[.agg (kd p r c gx gy).toArray, U X, U (tm p z z)], exec_call rfl call128 rfl (mpn rfl), times_any hp X (tm p z z) hX (tm_lt hp) w'⟩⟩) (ak (by refine fun γ => ⟨rfl, fun w' h => ?_⟩; clear h; go_simp) (ak (fun γ => ⟨rfl, fun w' h => ex_loadC h 1 rfl rfl rfl Tryd.isAgg22 rfl⟩) (ak (fun γ => ⟨rfl, fun w' h => ⟨140, #[.agg (kd p r c gx gy).toArray, U (tm p X (tm p z z)), U x], exec_call rfl call140 rfl (mpn rfl), minus_any hp (tm p X (tm p z z)) x (tm_lt hp) hx w'⟩⟩) (ak (fun _ => ⟨rfl, fun _ _ => rfl⟩) trivial)))))))))
  intro _ w5 H5
  clear H4
  refine rest0 rfl (then_normal (wp_seq ?_))
  refine walk_anyB 14 [.quiet (.agg (kd p r c gx gy).toArray), .quiet (.agg (kd p r c gx gy).toArray), .quiet (PT γ1_2 1), .quiet (U Y), .quiet (.agg (kd p r c gx gy).toArray), .quiet (PT γ1_1 2), .quiet (U z), .quiet (U (tm p z z)), .call (U (tm p z (tm p z z))), .call (U (tm p Y (tm p z (tm p z z)))), .quiet (PT γ1_1 1), .quiet (U y), .call (U (jS p y z Y)), .quiet (U (jS p y z Y))] H5 ?ho6 ?he6
  case ho6 => exact ak (fun γ => ⟨rfl, fun w' h => ex_loadT h 0 rfl rfl rfl Tryd.isAgg105 Tryd.sizeOf105 rfl rfl⟩) (ak (fun γ => ⟨rfl, fun w' h => ex_loadT h 0 rfl rfl rfl Tryd.isAgg105 Tryd.sizeOf105 rfl rfl⟩) (ak (by refine fun γ => ⟨rfl, fun w' h => ?_⟩; clear h; go_simp) (ak (fun γ => ⟨rfl, fun w' h => ex_loadC h 2 rfl rfl rfl Tryd.isAgg22 rfl⟩) (ak (fun γ => ⟨rfl, fun w' h => ex_loadT h 0 rfl rfl rfl Tryd.isAgg105 Tryd.sizeOf105 rfl rfl⟩) (ak (by refine fun γ => ⟨rfl, fun w' h => ?_⟩; clear h; go_simp) (ak (fun γ => ⟨rfl, fun w' h => ex_loadC h 1 rfl rfl rfl Tryd.isAgg22 rfl⟩) (ak (fun _ => ⟨rfl, fun _ _ => rfl⟩) (ak (fun γ => ⟨rfl, fun w' h => ⟨128, #[.agg (kd p r c gx gy).toArray, U z, U (tm p z z)], exec_call rfl call128 rfl (mpn rfl), times_any hp z (tm p z z) hz (tm_lt hp) w'⟩⟩) (ak (fun γ => ⟨rfl, fun w' h => ⟨128, #[.agg (kd p r c gx gy).toArray, U Y, U (tm p z (tm p z z))], exec_call rfl call128 rfl (mpn rfl), times_any hp Y (tm p z (tm p z z)) hY (tm_lt hp) w'⟩⟩) (ak (by refine fun γ => ⟨rfl, fun w' h => ?_⟩; clear h; go_simp) (ak (fun γ => ⟨rfl, fun w' h => ex_loadC h 1 rfl rfl rfl Tryd.isAgg22 rfl⟩) (ak (fun γ => ⟨rfl, fun w' h => ⟨140, #[.agg (kd p r c gx gy).toArray, U (tm p Y (tm p z (tm p z z))), U y], exec_call rfl call140 rfl (mpn rfl), minus_any hp (tm p Y (tm p z (tm p z z))) y (tm_lt hp) hy w'⟩⟩) (ak (fun _ => ⟨rfl, fun _ _ => rfl⟩) trivial)))))))))))))
  intro _ w6 H6
  clear H5
  refine rest0 rfl (then_normal (wp_seq (wp_seq ?_)))
  refine walk_seqB 6 [.quiet (U (jU p x z X)), .quiet (.bool false), .quiet (.bool false), .gone, .gone, .quiet (.bool false)] H6 ?ho7 ?he7
  case ho7 => exact ak (fun _ => ⟨rfl, fun _ _ => rfl⟩) (ak (fun γ => ⟨rfl, fun w' _ => ex_eqU rfl rfl rfl (decide_eq_false (h1))⟩) (ak (fun _ => ⟨rfl, fun _ _ => rfl⟩) (ak (fun γ => rfl) (ak (fun γ => rfl) (ak (by refine fun γ => ⟨rfl, fun w' h => ?_⟩; clear h; go_simp) trivial)))))
  intro _ w7 H7
  clear H6
  refine rest0 rfl (then_normal (wp_cond_false rfl ?_))
  refine wp_skip (then_normal (wp_seq ?_))
  refine walk_seqB 5 [.quiet (.agg (kd p r c gx gy).toArray), .quiet (U (jU p x z X)), .quiet (U (jU p x z X)), .call (U (tm p (jU p x z X) (jU p x z X))), .quiet (U (tm p (jU p x z X) (jU p x z X)))] H7 ?ho8 ?he8
  case ho8 => exact ak (fun γ => ⟨rfl, fun w' h => ex_loadT h 0 rfl rfl rfl Tryd.isAgg105 Tryd.sizeOf105 rfl rfl⟩) (ak (fun _ => ⟨rfl, fun _ _ => rfl⟩) (ak (fun _ => ⟨rfl, fun _ _ => rfl⟩) (ak (fun γ => ⟨rfl, fun w' h => ⟨128, #[.agg (kd p r c gx gy).toArray, U (jU p x z X), U (jU p x z X)], exec_call rfl call128 rfl (mpn rfl), times_any hp (jU p x z X) (jU p x z X) (mi_lt hp) (mi_lt hp) w'⟩⟩) (ak (fun _ => ⟨rfl, fun _ _ => rfl⟩) trivial))))
  intro _ w8 H8
  clear H7
  refine rest0 rfl (then_normal (wp_seq ?_))
  refine walk_seqB 5 [.quiet (.agg (kd p r c gx gy).toArray), .quiet (U (tm p (jU p x z X) (jU p x z X))), .quiet (U (jU p x z X)), .call (U (jC p (jU p x z X))), .quiet (U (jC p (jU p x z X)))] H8 ?ho9 ?he9
  case ho9 => exact ak (fun γ => ⟨rfl, fun w' h => ex_loadT h 0 rfl rfl rfl Tryd.isAgg105 Tryd.sizeOf105 rfl rfl⟩) (ak (fun _ => ⟨rfl, fun _ _ => rfl⟩) (ak (fun _ => ⟨rfl, fun _ _ => rfl⟩) (ak (fun γ => ⟨rfl, fun w' h => ⟨128, #[.agg (kd p r c gx gy).toArray, U (tm p (jU p x z X) (jU p x z X)), U (jU p x z X)], exec_call rfl call128 rfl (mpn rfl), times_any hp (tm p (jU p x z X) (jU p x z X)) (jU p x z X) (tm_lt hp) (mi_lt hp) w'⟩⟩) (ak (fun _ => ⟨rfl, fun _ _ => rfl⟩) trivial))))
  intro _ w9 H9
  clear H8
  refine rest0 rfl (then_normal (wp_seq ?_))
  refine walk_seqB 6 [.quiet (.agg (kd p r c gx gy).toArray), .quiet (PT γ1_1 0), .quiet (U x), .quiet (U (tm p (jU p x z X) (jU p x z X))), .call (U (jM p x (jU p x z X))), .quiet (U (jM p x (jU p x z X)))] H9 ?ho10 ?he10
  case ho10 => exact ak (fun γ => ⟨rfl, fun w' h => ex_loadT h 0 rfl rfl rfl Tryd.isAgg105 Tryd.sizeOf105 rfl rfl⟩) (ak (by refine fun γ => ⟨rfl, fun w' h => ?_⟩; clear h; go_simp) (ak (fun γ => ⟨rfl, fun w' h => ex_loadC h 1 rfl rfl rfl Tryd.isAgg22 rfl⟩) (ak (fun _ => ⟨rfl, fun _ _ => rfl⟩) (ak (fun γ => ⟨rfl, fun w' h => ⟨128, #[.agg (kd p r c gx gy).toArray, U x, U (tm p (jU p x z X) (jU p x z X))], exec_call rfl call128 rfl (mpn rfl), times_any hp x (tm p (jU p x z X) (jU p x z X)) hx (tm_lt hp) w'⟩⟩) (ak (fun _ => ⟨rfl, fun _ _ => rfl⟩) trivial)))))
  intro _ w10 H10
  clear H9
  refine rest0 rfl (then_normal (wp_seq ?_))
  refine walk_anyB 14 [.quiet (.agg (kd p r c gx gy).toArray), .quiet (.agg (kd p r c gx gy).toArray), .quiet (.agg (kd p r c gx gy).toArray), .quiet (U (jS p y z Y)), .quiet (U (jS p y z Y)), .call (U (tm p (jS p y z Y) (jS p y z Y))), .quiet (U (jC p (jU p x z X))), .call (U (mi p (tm p (jS p y z Y) (jS p y z Y)) (jC p (jU p x z X)))), .quiet (.agg (kd p r c gx gy).toArray), .quiet (U (jM p x (jU p x z X))), .quiet (U (jM p x (jU p x z X))), .call (U (pl p (jM p x (jU p x z X)) (jM p x (jU p x z X)))), .call (U (jX p x (jU p x z X) (jS p y z Y))), .quiet (U (jX p x (jU p x z X) (jS p y z Y)))] H10 ?ho11 ?he11
  case ho11 => exact ak (fun γ => ⟨rfl, fun w' h => ex_loadT h 0 rfl rfl rfl Tryd.isAgg105 Tryd.sizeOf105 rfl rfl⟩) (ak (fun γ => ⟨rfl, fun w' h => ex_loadT h 0 rfl rfl rfl Tryd.isAgg105 Tryd.sizeOf105 rfl rfl⟩) (ak (fun γ => ⟨rfl, fun w' h => ex_loadT h 0 rfl rfl rfl Tryd.isAgg105 Tryd.sizeOf105 rfl rfl⟩) (ak (fun _ => ⟨rfl, fun _ _ => rfl⟩) (ak (fun _ => ⟨rfl, fun _ _ => rfl⟩) (ak (fun γ => ⟨rfl, fun w' h => ⟨128, #[.agg (kd p r c gx gy).toArray, U (jS p y z Y), U (jS p y z Y)], exec_call rfl call128 rfl (mpn rfl), times_any hp (jS p y z Y) (jS p y z Y) (mi_lt hp) (mi_lt hp) w'⟩⟩) (ak (fun _ => ⟨rfl, fun _ _ => rfl⟩) (ak (fun γ => ⟨rfl, fun w' h => ⟨140, #[.agg (kd p r c gx gy).toArray, U (tm p (jS p y z Y) (jS p y z Y)), U (jC p (jU p x z X))], exec_call rfl call140 rfl (mpn rfl), minus_any hp (tm p (jS p y z Y) (jS p y z Y)) (jC p (jU p x z X)) (tm_lt hp) (tm_lt hp) w'⟩⟩) (ak (fun γ => ⟨rfl, fun w' h => ex_loadT h 0 rfl rfl rfl Tryd.isAgg105 Tryd.sizeOf105 rfl rfl⟩) (ak (fun _ => ⟨rfl, fun _ _ => rfl⟩) (ak (fun _ => ⟨rfl, fun _ _ => rfl⟩) (ak (fun γ => ⟨rfl, fun w' h => ⟨139, #[.agg (kd p r c gx gy).toArray, U (jM p x (jU p x z X)), U (jM p x (jU p x z X))], exec_call rfl call139 rfl (mpn rfl), plus_any hp (jM p x (jU p x z X)) (jM p x (jU p x z X)) (tm_lt hp) (tm_lt hp) w'⟩⟩) (ak (fun γ => ⟨rfl, fun w' h => ⟨140, #[.agg (kd p r c gx gy).toArray, U (mi p (tm p (jS p y z Y) (jS p y z Y)) (jC p (jU p x z X))), U (pl p (jM p x (jU p x z X)) (jM p x (jU p x z X)))], exec_call rfl call140 rfl (mpn rfl), minus_any hp (mi p (tm p (jS p y z Y) (jS p y z Y)) (jC p (jU p x z X))) (pl p (jM p x (jU p x z X)) (jM p x (jU p x z X))) (mi_lt hp) (pl_lt hp) w'⟩⟩) (ak (fun _ => ⟨rfl, fun _ _ => rfl⟩) trivial)))))))))))))
  intro _ w11 H11
  clear H10
  refine rest0 rfl (then_normal (wp_seq ?_))
  refine walk_put (by kernel_rfl) 22 [21] [.quiet (U (jX p x (jU p x z X) (jS p y z Y))), .quiet (.agg (kd p r c gx gy).toArray), .quiet (.agg (kd p r c gx gy).toArray), .quiet (U (jS p y z Y)), .quiet (.agg (kd p r c gx gy).toArray), .quiet (U (jM p x (jU p x z X))), .quiet (U (jX p x (jU p x z X) (jS p y z Y))), .call (U (mi p (jM p x (jU p x z X)) (jX p x (jU p x z X) (jS p y z Y)))), .call (U (tm p (jS p y z Y) (mi p (jM p x (jU p x z X)) (jX p x (jU p x z X) (jS p y z Y))))), .quiet (.agg (kd p r c gx gy).toArray), .quiet (PT γ1_1 1), .quiet (U y), .quiet (U (jC p (jU p x z X))), .call (U (tm p y (jC p (jU p x z X)))), .call (U (mi p (tm p (jS p y z Y) (mi p (jM p x (jU p x z X)) (jX p x (jU p x z X) (jS p y z Y)))) (tm p y (jC p (jU p x z X))))), .quiet (.agg (kd p r c gx gy).toArray), .quiet (PT γ1_1 2), .quiet (U z), .quiet (U (jU p x z X)), .call (U (tm p z (jU p x z X))), .quiet (.agg (tr (jX p x (jU p x z X) (jS p y z Y)) (mi p (tm p (jS p y z Y) (mi p (jM p x (jU p x z X)) (jX p x (jU p x z X) (jS p y z Y)))) (tm p y (jC p (jU p x z X)))) (tm p z (jU p x z X))).toArray), .quiet (U (jS p y z Y))] _ ?pre12 ?F12 _ ?hpre12 (fun γ => ?hF12) (by kernel_rfl) rfl trivial (sB H11) ?ho12 ?hla12 ?he12
  case hpre12 => simp only [tk, tz]; rfl
  case hF12 => simp only [fill, Kind.val, Act.put, sa, sz, ss]; rfl
  case ho12 =>
    refine ak (fun _ => ⟨rfl, fun _ _ => rfl⟩) ?_
    refine ak (fun γ => ⟨rfl, fun w' h => ex_loadT h 0 rfl rfl rfl Tryd.isAgg105 Tryd.sizeOf105 rfl rfl⟩) ?_
    refine ak (fun γ => ⟨rfl, fun w' h => ex_loadT h 0 rfl rfl rfl Tryd.isAgg105 Tryd.sizeOf105 rfl rfl⟩) ?_
    refine ak (fun _ => ⟨rfl, fun _ _ => rfl⟩) ?_
    refine ak (fun γ => ⟨rfl, fun w' h => ex_loadT h 0 rfl rfl rfl Tryd.isAgg105 Tryd.sizeOf105 rfl rfl⟩) ?_
    refine ak (fun _ => ⟨rfl, fun _ _ => rfl⟩) ?_
    refine ak (fun _ => ⟨rfl, fun _ _ => rfl⟩) ?_
    refine ak (fun γ => ⟨rfl, fun w' h => ⟨140, #[.agg (kd p r c gx gy).toArray, U (jM p x (jU p x z X)), U (jX p x (jU p x z X) (jS p y z Y))], exec_call rfl call140 rfl (mpn rfl), minus_any hp (jM p x (jU p x z X)) (jX p x (jU p x z X) (jS p y z Y)) (tm_lt hp) (mi_lt hp) w'⟩⟩) ?_
    refine ak (fun γ => ⟨rfl, fun w' h => ⟨128, #[.agg (kd p r c gx gy).toArray, U (jS p y z Y), U (mi p (jM p x (jU p x z X)) (jX p x (jU p x z X) (jS p y z Y)))], exec_call rfl call128 rfl (mpn rfl), times_any hp (jS p y z Y) (mi p (jM p x (jU p x z X)) (jX p x (jU p x z X) (jS p y z Y))) (mi_lt hp) (mi_lt hp) w'⟩⟩) ?_
    refine ak (fun γ => ⟨rfl, fun w' h => ex_loadT h 0 rfl rfl rfl Tryd.isAgg105 Tryd.sizeOf105 rfl rfl⟩) ?_
    refine ak (by refine fun γ => ⟨rfl, fun w' h => ?_⟩; clear h; go_simp) ?_
    refine ak (fun γ => ⟨rfl, fun w' h => ex_loadC h 1 rfl rfl rfl Tryd.isAgg22 rfl⟩) ?_
    refine ak (fun _ => ⟨rfl, fun _ _ => rfl⟩) ?_
    refine ak (fun γ => ⟨rfl, fun w' h => ⟨128, #[.agg (kd p r c gx gy).toArray, U y, U (jC p (jU p x z X))], exec_call rfl call128 rfl (mpn rfl), times_any hp y (jC p (jU p x z X)) hy (tm_lt hp) w'⟩⟩) ?_
    refine ak (fun γ => ⟨rfl, fun w' h => ⟨140, #[.agg (kd p r c gx gy).toArray, U (tm p (jS p y z Y) (mi p (jM p x (jU p x z X)) (jX p x (jU p x z X) (jS p y z Y)))), U (tm p y (jC p (jU p x z X)))], exec_call rfl call140 rfl (mpn rfl), minus_any hp (tm p (jS p y z Y) (mi p (jM p x (jU p x z X)) (jX p x (jU p x z X) (jS p y z Y)))) (tm p y (jC p (jU p x z X))) (tm_lt hp) (tm_lt hp) w'⟩⟩) ?_
    refine ak (fun γ => ⟨rfl, fun w' h => ex_loadT h 0 rfl rfl rfl Tryd.isAgg105 Tryd.sizeOf105 rfl rfl⟩) ?_
    refine ak (by refine fun γ => ⟨rfl, fun w' h => ?_⟩; clear h; go_simp) ?_
    refine ak (fun γ => ⟨rfl, fun w' h => ex_loadC h 1 rfl rfl rfl Tryd.isAgg22 rfl⟩) ?_
    refine ak (fun _ => ⟨rfl, fun _ _ => rfl⟩) ?_
    refine ak (fun γ => ⟨rfl, fun w' h => ⟨128, #[.agg (kd p r c gx gy).toArray, U z, U (jU p x z X)], exec_call rfl call128 rfl (mpn rfl), times_any hp z (jU p x z X) hz (mi_lt hp) w'⟩⟩) ?_
    refine ak (fun γ => ⟨rfl, fun w' _ => ex_build77_012 rfl rfl rfl rfl⟩) ?_
    refine ak (fun _ => ⟨rfl, fun _ _ => rfl⟩) ?_
    exact trivial
  case hla12 => exact ⟨⟨_, _, rfl, rfl, fun γ => ⟨rfl, fun w' => by first | rfl | go_simp⟩⟩, trivial⟩
  intro γ w12 l hM hl
  have H12 := keepB H11 hM.below
  clear hM hl l H11 γ
  refine ⟨_, ex_storeT (vs := tr (jX p x (jU p x z X) (jS p y z Y)) (mi p (tm p (jS p y z Y) (mi p (jM p x (jU p x z X)) (jX p x (jU p x z X) (jS p y z Y)))) (tm p y (jC p (jU p x z X)))) (tm p z (jU p x z X))) H12.out.1 3 rfl rfl rfl rfl Tryd.sizeOf146 rfl (Nat.le_of_ble_eq_true rfl), ?_⟩
  have H13 : Hid (Mm (w12.setCells γ1_3 0 (tr (jX p x (jU p x z X) (jS p y z Y)) (mi p (tm p (jS p y z Y) (mi p (jM p x (jU p x z X)) (jX p x (jU p x z X) (jS p y z Y)))) (tm p y (jC p (jU p x z X)))) (tm p z (jU p x z X)))) [(γ1_0, kd p r c gx gy), (γ1_1, tr x y z), (γ1_2, pt X Y false), (γ1_3, tr (jX p x (jU p x z X) (jS p y z Y)) (mi p (tm p (jS p y z Y) (mi p (jM p x (jU p x z X)) (jX p x (jU p x z X) (jS p y z Y)))) (tm p y (jC p (jU p x z X)))) (tm p z (jU p x z X)))] ∧ Below w.heap.size w (w12.setCells γ1_3 0 (tr (jX p x (jU p x z X) (jS p y z Y)) (mi p (tm p (jS p y z Y) (mi p (jM p x (jU p x z X)) (jX p x (jU p x z X) (jS p y z Y)))) (tm p y (jC p (jU p x z X)))) (tm p z (jU p x z X))))) := ⟨H12.out.1.put 3 (off := 0) (vs := tr (jX p x (jU p x z X) (jS p y z Y)) (mi p (tm p (jS p y z Y) (mi p (jM p x (jU p x z X)) (jX p x (jU p x z X) (jS p y z Y)))) (tm p y (jC p (jU p x z X)))) (tm p z (jU p x z X))) rfl (Nat.le_of_ble_eq_true rfl), below_setCells _ o1_3.out _ _ _ H12.out.2⟩
  clear H12
  generalize hgw : World.setCells _ _ _ _ = w13 at H13 ⊢
  clear hgw
  refine rest_at (l := [23]) rfl ?_
  refine rest_set (d := 7) rfl rfl rfl rfl ?_
  simp only [Act.put, sa, sz, ss]
  refine rest_nil (then_normal (wp_ret ?_))
  repeat (first | refine then_ret ?_ | refine block_ret ?_)
  have hf0 := var_T H13.out.1 3 rfl Tryd.isAgg146 Tryd.sizeOf146 rfl
  refine bodyPost_ret (v := .tuple #[.agg (tr (jX p x (jU p x z X) (jS p y z Y)) (mi p (tm p (jS p y z Y) (mi p (jM p x (jU p x z X)) (jX p x (jU p x z X) (jS p y z Y)))) (tm p y (jC p (jU p x z X)))) (tm p z (jU p x z X))).toArray, U (jS p y z Y)]) (by simp [results, Tryd.results131, asAddr, Act.eval, hf0]) rfl ?_
  exact ⟨rfl, H13.out.2⟩
set_option maxHeartbeats 1000000 in
set_option maxRecDepth 100000 in
theorem joined_s (hp : Pr p) (x y z : Nat) (hx : x < p) (hy : y < p) (hz : z < p) (X Y : Nat) (hX : X < p) (hY : Y < p) (h : z ≠ 0) (h1 : jU p x z X = 0) (h2 : jS p y z Y ≠ 0) (w : World) :
    Calls Tryd.prog 131 #[.agg (kd p r c gx gy).toArray, .agg (tr x y z).toArray, .agg (pt X Y false).toArray] w fun e w' => e = .returned (.tuple #[V (tr (jX p x (jU p x z X) (jS p y z Y)) (jY p x y (jU p x z X) (jS p y z Y)) (tm p z (jU p x z X))), U (jS p y z Y)]) ∧ Below w.heap.size w w' := by
  have H0 : Hid (_ ∧ _) := ⟨Mm.nil w, Below.refl w.heap.size w⟩
  go_enter Tryd.func131, Tryd.ntmps131
  refine wp_seq ?_
  refine walk_seqA 5 [.made (kd p r c gx gy) 105, .made (tr x y z) 146, .made (pt X Y false) 64, .made (tr 0 0 0) 146, .quiet (U 0)] (sB H0) ?ho1 ?he1
  case ho1 => exact ak (fun γ => ⟨rfl, fun w' => ex_boxT rfl rfl⟩) (ak (fun γ => ⟨rfl, fun w' => ex_boxT rfl rfl⟩) (ak (fun γ => ⟨rfl, fun w' => ex_boxT rfl rfl⟩) (ak (fun γ => ⟨rfl, fun w' => ex_made77 rfl⟩) (ak (fun _ => ⟨rfl, fun _ _ => rfl⟩) trivial))))
  intro γ w1 l hM hl
  have H1 : Hid (Mm w1 [(γ 0, kd p r c gx gy), (γ 1, tr x y z), (γ 2, pt X Y false), (γ 3, tr 0 0 0)] ∧ _) := growB H0 hM (Nat.le_refl _) hl [0, 1, 2, 3] rfl (by decide)
  have o1_0 := ownB H0 hM (Nat.le_refl _) hl (i := 0) rfl
  have o1_1 := ownB H0 hM (Nat.le_refl _) hl (i := 1) rfl
  have o1_2 := ownB H0 hM (Nat.le_refl _) hl (i := 2) rfl
  have o1_3 := ownB H0 hM (Nat.le_refl _) hl (i := 3) rfl
  clear hM hl l
  generalize γ 0 = γ1_0 at H1 o1_0 ⊢
  generalize γ 1 = γ1_1 at H1 o1_1 ⊢
  generalize γ 2 = γ1_2 at H1 o1_2 ⊢
  generalize γ 3 = γ1_3 at H1 o1_3 ⊢
  clear γ
  refine rest0 rfl (then_normal (wp_seq (wp_seq ?_)))
  refine walk_seqB 2 [.quiet (PT γ1_2 2), .quiet (.bool false)] H1 ?ho2 ?he2
  case ho2 => exact ak (by refine fun γ => ⟨rfl, fun w' h => ?_⟩; clear h; go_simp) (ak (fun γ => ⟨rfl, fun w' h => ex_loadC h 2 rfl rfl rfl Tryd.isAgg4 rfl⟩) trivial)
  intro _ w2 H2
  clear H1
  refine rest0 rfl (then_normal (wp_cond_false rfl ?_))
  refine wp_skip (then_normal ?_)
  refine wp_seq (wp_seq ?_)
  refine walk_seqB 3 [.quiet (PT γ1_1 2), .quiet (U z), .quiet (.bool false)] H2 ?ho3 ?he3
  case ho3 => exact ak (by refine fun γ => ⟨rfl, fun w' h => ?_⟩; clear h; go_simp) (ak (fun γ => ⟨rfl, fun w' h => ex_loadC h 1 rfl rfl rfl Tryd.isAgg22 rfl⟩) (ak (fun γ => ⟨rfl, fun w' _ => ex_eqU rfl rfl rfl (decide_eq_false (h))⟩) trivial))
  intro _ w3 H3
  clear H2
  refine rest0 rfl (then_normal (wp_cond_false rfl ?_))
  refine wp_skip (then_normal (wp_seq ?_))
  refine walk_seqB 7 [.quiet (.agg (kd p r c gx gy).toArray), .quiet (PT γ1_1 2), .quiet (U z), .quiet (PT γ1_1 2), .quiet (U z), .call (U (tm p z z)), .quiet (U (tm p z z))] H3 ?ho4 ?he4
  case ho4 => exact ak (fun γ => ⟨rfl, fun w' h => ex_loadT h 0 rfl rfl rfl Tryd.isAgg105 Tryd.sizeOf105 rfl rfl⟩) (ak (by refine fun γ => ⟨rfl, fun w' h => ?_⟩; clear h; go_simp) (ak (fun γ => ⟨rfl, fun w' h => ex_loadC h 1 rfl rfl rfl Tryd.isAgg22 rfl⟩) (ak (by refine fun γ => ⟨rfl, fun w' h => ?_⟩; clear h; go_simp) (ak (fun γ => ⟨rfl, fun w' h => ex_loadC h 1 rfl rfl rfl Tryd.isAgg22 rfl⟩) (ak (fun γ => ⟨rfl, fun w' h => ⟨128, #[.agg (kd p r c gx gy).toArray, U z, U z], exec_call rfl call128 rfl (mpn rfl), times_any hp z z hz hz w'⟩⟩) (ak (fun _ => ⟨rfl, fun _ _ => rfl⟩) trivial))))))
  intro _ w4 H4
  clear H3
  refine rest0 rfl (then_normal (wp_seq ?_))
  refine walk_anyB 10 [.quiet (.agg (kd p r c gx gy).toArray), .quiet (.agg (kd p r c gx gy).toArray), .quiet (PT γ1_2 0), .quiet (U X), .quiet (U (tm p z z)), .call (U (tm p X (tm p z z))), .quiet (PT γ1_1 0), .quiet (U x), .call (U (jU p x z X)), .quiet (U (jU p x z X))] H4 ?ho5 ?he5
  case ho5 => exact ak (fun γ => ⟨rfl, fun w' h => ex_loadT h 0 rfl rfl rfl Tryd.isAgg105 Tryd.sizeOf105 rfl rfl⟩) (ak (fun γ => ⟨rfl, fun w' h => ex_loadT h 0 rfl rfl rfl Tryd.isAgg105 Tryd.sizeOf105 rfl rfl⟩) (ak (by refine fun γ => ⟨rfl, fun w' h => ?_⟩; clear h; go_simp) (ak (fun γ => ⟨rfl, fun w' h => ex_loadC h 2 rfl rfl rfl Tryd.isAgg22 rfl⟩) (ak (fun _ => ⟨rfl, fun _ _ => rfl⟩) (ak (fun γ => ⟨rfl, fun w' h => ⟨128, #[.agg (kd p r c gx gy).toArray, U X, U (tm p z z)], exec_call rfl call128 rfl (mpn rfl), times_any hp X (tm p z z) hX (tm_lt hp) w'⟩⟩) (ak (by refine fun γ => ⟨rfl, fun w' h => ?_⟩; clear h; go_simp) (ak (fun γ => ⟨rfl, fun w' h => ex_loadC h 1 rfl rfl rfl Tryd.isAgg22 rfl⟩) (ak (fun γ => ⟨rfl, fun w' h => ⟨140, #[.agg (kd p r c gx gy).toArray, U (tm p X (tm p z z)), U x], exec_call rfl call140 rfl (mpn rfl), minus_any hp (tm p X (tm p z z)) x (tm_lt hp) hx w'⟩⟩) (ak (fun _ => ⟨rfl, fun _ _ => rfl⟩) trivial)))))))))
  intro _ w5 H5
  clear H4
  refine rest0 rfl (then_normal (wp_seq ?_))
  refine walk_anyB 14 [.quiet (.agg (kd p r c gx gy).toArray), .quiet (.agg (kd p r c gx gy).toArray), .quiet (PT γ1_2 1), .quiet (U Y), .quiet (.agg (kd p r c gx gy).toArray), .quiet (PT γ1_1 2), .quiet (U z), .quiet (U (tm p z z)), .call (U (tm p z (tm p z z))), .call (U (tm p Y (tm p z (tm p z z)))), .quiet (PT γ1_1 1), .quiet (U y), .call (U (jS p y z Y)), .quiet (U (jS p y z Y))] H5 ?ho6 ?he6
  case ho6 => exact ak (fun γ => ⟨rfl, fun w' h => ex_loadT h 0 rfl rfl rfl Tryd.isAgg105 Tryd.sizeOf105 rfl rfl⟩) (ak (fun γ => ⟨rfl, fun w' h => ex_loadT h 0 rfl rfl rfl Tryd.isAgg105 Tryd.sizeOf105 rfl rfl⟩) (ak (by refine fun γ => ⟨rfl, fun w' h => ?_⟩; clear h; go_simp) (ak (fun γ => ⟨rfl, fun w' h => ex_loadC h 2 rfl rfl rfl Tryd.isAgg22 rfl⟩) (ak (fun γ => ⟨rfl, fun w' h => ex_loadT h 0 rfl rfl rfl Tryd.isAgg105 Tryd.sizeOf105 rfl rfl⟩) (ak (by refine fun γ => ⟨rfl, fun w' h => ?_⟩; clear h; go_simp) (ak (fun γ => ⟨rfl, fun w' h => ex_loadC h 1 rfl rfl rfl Tryd.isAgg22 rfl⟩) (ak (fun _ => ⟨rfl, fun _ _ => rfl⟩) (ak (fun γ => ⟨rfl, fun w' h => ⟨128, #[.agg (kd p r c gx gy).toArray, U z, U (tm p z z)], exec_call rfl call128 rfl (mpn rfl), times_any hp z (tm p z z) hz (tm_lt hp) w'⟩⟩) (ak (fun γ => ⟨rfl, fun w' h => ⟨128, #[.agg (kd p r c gx gy).toArray, U Y, U (tm p z (tm p z z))], exec_call rfl call128 rfl (mpn rfl), times_any hp Y (tm p z (tm p z z)) hY (tm_lt hp) w'⟩⟩) (ak (by refine fun γ => ⟨rfl, fun w' h => ?_⟩; clear h; go_simp) (ak (fun γ => ⟨rfl, fun w' h => ex_loadC h 1 rfl rfl rfl Tryd.isAgg22 rfl⟩) (ak (fun γ => ⟨rfl, fun w' h => ⟨140, #[.agg (kd p r c gx gy).toArray, U (tm p Y (tm p z (tm p z z))), U y], exec_call rfl call140 rfl (mpn rfl), minus_any hp (tm p Y (tm p z (tm p z z))) y (tm_lt hp) hy w'⟩⟩) (ak (fun _ => ⟨rfl, fun _ _ => rfl⟩) trivial)))))))))))))
  intro _ w6 H6
  clear H5
  refine rest0 rfl (then_normal (wp_seq (wp_seq ?_)))
  refine walk_seqB 6 [.quiet (U (jU p x z X)), .quiet (.bool true), .quiet (.bool true), .quiet (U (jS p y z Y)), .quiet (.bool false), .quiet (.bool false)] H6 ?ho7 ?he7
  case ho7 => exact ak (fun _ => ⟨rfl, fun _ _ => rfl⟩) (ak (fun γ => ⟨rfl, fun w' _ => ex_eqU rfl rfl rfl (decide_eq_true (h1))⟩) (ak (fun _ => ⟨rfl, fun _ _ => rfl⟩) (ak (fun _ => ⟨rfl, fun _ _ => rfl⟩) (ak (fun γ => ⟨rfl, fun w' _ => ex_eqU rfl rfl rfl (decide_eq_false (h2))⟩) (ak (by refine fun γ => ⟨rfl, fun w' h => ?_⟩; clear h; go_simp) trivial)))))
  intro _ w7 H7
  clear H6
  refine rest0 rfl (then_normal (wp_cond_false rfl ?_))
  refine wp_skip (then_normal (wp_seq ?_))
  refine walk_seqB 5 [.quiet (.agg (kd p r c gx gy).toArray), .quiet (U (jU p x z X)), .quiet (U (jU p x z X)), .call (U (tm p (jU p x z X) (jU p x z X))), .quiet (U (tm p (jU p x z X) (jU p x z X)))] H7 ?ho8 ?he8
  case ho8 => exact ak (fun γ => ⟨rfl, fun w' h => ex_loadT h 0 rfl rfl rfl Tryd.isAgg105 Tryd.sizeOf105 rfl rfl⟩) (ak (fun _ => ⟨rfl, fun _ _ => rfl⟩) (ak (fun _ => ⟨rfl, fun _ _ => rfl⟩) (ak (fun γ => ⟨rfl, fun w' h => ⟨128, #[.agg (kd p r c gx gy).toArray, U (jU p x z X), U (jU p x z X)], exec_call rfl call128 rfl (mpn rfl), times_any hp (jU p x z X) (jU p x z X) (mi_lt hp) (mi_lt hp) w'⟩⟩) (ak (fun _ => ⟨rfl, fun _ _ => rfl⟩) trivial))))
  intro _ w8 H8
  clear H7
  refine rest0 rfl (then_normal (wp_seq ?_))
  refine walk_seqB 5 [.quiet (.agg (kd p r c gx gy).toArray), .quiet (U (tm p (jU p x z X) (jU p x z X))), .quiet (U (jU p x z X)), .call (U (jC p (jU p x z X))), .quiet (U (jC p (jU p x z X)))] H8 ?ho9 ?he9
  case ho9 => exact ak (fun γ => ⟨rfl, fun w' h => ex_loadT h 0 rfl rfl rfl Tryd.isAgg105 Tryd.sizeOf105 rfl rfl⟩) (ak (fun _ => ⟨rfl, fun _ _ => rfl⟩) (ak (fun _ => ⟨rfl, fun _ _ => rfl⟩) (ak (fun γ => ⟨rfl, fun w' h => ⟨128, #[.agg (kd p r c gx gy).toArray, U (tm p (jU p x z X) (jU p x z X)), U (jU p x z X)], exec_call rfl call128 rfl (mpn rfl), times_any hp (tm p (jU p x z X) (jU p x z X)) (jU p x z X) (tm_lt hp) (mi_lt hp) w'⟩⟩) (ak (fun _ => ⟨rfl, fun _ _ => rfl⟩) trivial))))
  intro _ w9 H9
  clear H8
  refine rest0 rfl (then_normal (wp_seq ?_))
  refine walk_seqB 6 [.quiet (.agg (kd p r c gx gy).toArray), .quiet (PT γ1_1 0), .quiet (U x), .quiet (U (tm p (jU p x z X) (jU p x z X))), .call (U (jM p x (jU p x z X))), .quiet (U (jM p x (jU p x z X)))] H9 ?ho10 ?he10
  case ho10 => exact ak (fun γ => ⟨rfl, fun w' h => ex_loadT h 0 rfl rfl rfl Tryd.isAgg105 Tryd.sizeOf105 rfl rfl⟩) (ak (by refine fun γ => ⟨rfl, fun w' h => ?_⟩; clear h; go_simp) (ak (fun γ => ⟨rfl, fun w' h => ex_loadC h 1 rfl rfl rfl Tryd.isAgg22 rfl⟩) (ak (fun _ => ⟨rfl, fun _ _ => rfl⟩) (ak (fun γ => ⟨rfl, fun w' h => ⟨128, #[.agg (kd p r c gx gy).toArray, U x, U (tm p (jU p x z X) (jU p x z X))], exec_call rfl call128 rfl (mpn rfl), times_any hp x (tm p (jU p x z X) (jU p x z X)) hx (tm_lt hp) w'⟩⟩) (ak (fun _ => ⟨rfl, fun _ _ => rfl⟩) trivial)))))
  intro _ w10 H10
  clear H9
  refine rest0 rfl (then_normal (wp_seq ?_))
  refine walk_anyB 14 [.quiet (.agg (kd p r c gx gy).toArray), .quiet (.agg (kd p r c gx gy).toArray), .quiet (.agg (kd p r c gx gy).toArray), .quiet (U (jS p y z Y)), .quiet (U (jS p y z Y)), .call (U (tm p (jS p y z Y) (jS p y z Y))), .quiet (U (jC p (jU p x z X))), .call (U (mi p (tm p (jS p y z Y) (jS p y z Y)) (jC p (jU p x z X)))), .quiet (.agg (kd p r c gx gy).toArray), .quiet (U (jM p x (jU p x z X))), .quiet (U (jM p x (jU p x z X))), .call (U (pl p (jM p x (jU p x z X)) (jM p x (jU p x z X)))), .call (U (jX p x (jU p x z X) (jS p y z Y))), .quiet (U (jX p x (jU p x z X) (jS p y z Y)))] H10 ?ho11 ?he11
  case ho11 => exact ak (fun γ => ⟨rfl, fun w' h => ex_loadT h 0 rfl rfl rfl Tryd.isAgg105 Tryd.sizeOf105 rfl rfl⟩) (ak (fun γ => ⟨rfl, fun w' h => ex_loadT h 0 rfl rfl rfl Tryd.isAgg105 Tryd.sizeOf105 rfl rfl⟩) (ak (fun γ => ⟨rfl, fun w' h => ex_loadT h 0 rfl rfl rfl Tryd.isAgg105 Tryd.sizeOf105 rfl rfl⟩) (ak (fun _ => ⟨rfl, fun _ _ => rfl⟩) (ak (fun _ => ⟨rfl, fun _ _ => rfl⟩) (ak (fun γ => ⟨rfl, fun w' h => ⟨128, #[.agg (kd p r c gx gy).toArray, U (jS p y z Y), U (jS p y z Y)], exec_call rfl call128 rfl (mpn rfl), times_any hp (jS p y z Y) (jS p y z Y) (mi_lt hp) (mi_lt hp) w'⟩⟩) (ak (fun _ => ⟨rfl, fun _ _ => rfl⟩) (ak (fun γ => ⟨rfl, fun w' h => ⟨140, #[.agg (kd p r c gx gy).toArray, U (tm p (jS p y z Y) (jS p y z Y)), U (jC p (jU p x z X))], exec_call rfl call140 rfl (mpn rfl), minus_any hp (tm p (jS p y z Y) (jS p y z Y)) (jC p (jU p x z X)) (tm_lt hp) (tm_lt hp) w'⟩⟩) (ak (fun γ => ⟨rfl, fun w' h => ex_loadT h 0 rfl rfl rfl Tryd.isAgg105 Tryd.sizeOf105 rfl rfl⟩) (ak (fun _ => ⟨rfl, fun _ _ => rfl⟩) (ak (fun _ => ⟨rfl, fun _ _ => rfl⟩) (ak (fun γ => ⟨rfl, fun w' h => ⟨139, #[.agg (kd p r c gx gy).toArray, U (jM p x (jU p x z X)), U (jM p x (jU p x z X))], exec_call rfl call139 rfl (mpn rfl), plus_any hp (jM p x (jU p x z X)) (jM p x (jU p x z X)) (tm_lt hp) (tm_lt hp) w'⟩⟩) (ak (fun γ => ⟨rfl, fun w' h => ⟨140, #[.agg (kd p r c gx gy).toArray, U (mi p (tm p (jS p y z Y) (jS p y z Y)) (jC p (jU p x z X))), U (pl p (jM p x (jU p x z X)) (jM p x (jU p x z X)))], exec_call rfl call140 rfl (mpn rfl), minus_any hp (mi p (tm p (jS p y z Y) (jS p y z Y)) (jC p (jU p x z X))) (pl p (jM p x (jU p x z X)) (jM p x (jU p x z X))) (mi_lt hp) (pl_lt hp) w'⟩⟩) (ak (fun _ => ⟨rfl, fun _ _ => rfl⟩) trivial)))))))))))))
  intro _ w11 H11
  clear H10
  refine rest0 rfl (then_normal (wp_seq ?_))
  refine walk_put (by kernel_rfl) 22 [21] [.quiet (U (jX p x (jU p x z X) (jS p y z Y))), .quiet (.agg (kd p r c gx gy).toArray), .quiet (.agg (kd p r c gx gy).toArray), .quiet (U (jS p y z Y)), .quiet (.agg (kd p r c gx gy).toArray), .quiet (U (jM p x (jU p x z X))), .quiet (U (jX p x (jU p x z X) (jS p y z Y))), .call (U (mi p (jM p x (jU p x z X)) (jX p x (jU p x z X) (jS p y z Y)))), .call (U (tm p (jS p y z Y) (mi p (jM p x (jU p x z X)) (jX p x (jU p x z X) (jS p y z Y))))), .quiet (.agg (kd p r c gx gy).toArray), .quiet (PT γ1_1 1), .quiet (U y), .quiet (U (jC p (jU p x z X))), .call (U (tm p y (jC p (jU p x z X)))), .call (U (mi p (tm p (jS p y z Y) (mi p (jM p x (jU p x z X)) (jX p x (jU p x z X) (jS p y z Y)))) (tm p y (jC p (jU p x z X))))), .quiet (.agg (kd p r c gx gy).toArray), .quiet (PT γ1_1 2), .quiet (U z), .quiet (U (jU p x z X)), .call (U (tm p z (jU p x z X))), .quiet (.agg (tr (jX p x (jU p x z X) (jS p y z Y)) (mi p (tm p (jS p y z Y) (mi p (jM p x (jU p x z X)) (jX p x (jU p x z X) (jS p y z Y)))) (tm p y (jC p (jU p x z X)))) (tm p z (jU p x z X))).toArray), .quiet (U (jS p y z Y))] _ ?pre12 ?F12 _ ?hpre12 (fun γ => ?hF12) (by kernel_rfl) rfl trivial (sB H11) ?ho12 ?hla12 ?he12
  case hpre12 => simp only [tk, tz]; rfl
  case hF12 => simp only [fill, Kind.val, Act.put, sa, sz, ss]; rfl
  case ho12 =>
    refine ak (fun _ => ⟨rfl, fun _ _ => rfl⟩) ?_
    refine ak (fun γ => ⟨rfl, fun w' h => ex_loadT h 0 rfl rfl rfl Tryd.isAgg105 Tryd.sizeOf105 rfl rfl⟩) ?_
    refine ak (fun γ => ⟨rfl, fun w' h => ex_loadT h 0 rfl rfl rfl Tryd.isAgg105 Tryd.sizeOf105 rfl rfl⟩) ?_
    refine ak (fun _ => ⟨rfl, fun _ _ => rfl⟩) ?_
    refine ak (fun γ => ⟨rfl, fun w' h => ex_loadT h 0 rfl rfl rfl Tryd.isAgg105 Tryd.sizeOf105 rfl rfl⟩) ?_
    refine ak (fun _ => ⟨rfl, fun _ _ => rfl⟩) ?_
    refine ak (fun _ => ⟨rfl, fun _ _ => rfl⟩) ?_
    refine ak (fun γ => ⟨rfl, fun w' h => ⟨140, #[.agg (kd p r c gx gy).toArray, U (jM p x (jU p x z X)), U (jX p x (jU p x z X) (jS p y z Y))], exec_call rfl call140 rfl (mpn rfl), minus_any hp (jM p x (jU p x z X)) (jX p x (jU p x z X) (jS p y z Y)) (tm_lt hp) (mi_lt hp) w'⟩⟩) ?_
    refine ak (fun γ => ⟨rfl, fun w' h => ⟨128, #[.agg (kd p r c gx gy).toArray, U (jS p y z Y), U (mi p (jM p x (jU p x z X)) (jX p x (jU p x z X) (jS p y z Y)))], exec_call rfl call128 rfl (mpn rfl), times_any hp (jS p y z Y) (mi p (jM p x (jU p x z X)) (jX p x (jU p x z X) (jS p y z Y))) (mi_lt hp) (mi_lt hp) w'⟩⟩) ?_
    refine ak (fun γ => ⟨rfl, fun w' h => ex_loadT h 0 rfl rfl rfl Tryd.isAgg105 Tryd.sizeOf105 rfl rfl⟩) ?_
    refine ak (by refine fun γ => ⟨rfl, fun w' h => ?_⟩; clear h; go_simp) ?_
    refine ak (fun γ => ⟨rfl, fun w' h => ex_loadC h 1 rfl rfl rfl Tryd.isAgg22 rfl⟩) ?_
    refine ak (fun _ => ⟨rfl, fun _ _ => rfl⟩) ?_
    refine ak (fun γ => ⟨rfl, fun w' h => ⟨128, #[.agg (kd p r c gx gy).toArray, U y, U (jC p (jU p x z X))], exec_call rfl call128 rfl (mpn rfl), times_any hp y (jC p (jU p x z X)) hy (tm_lt hp) w'⟩⟩) ?_
    refine ak (fun γ => ⟨rfl, fun w' h => ⟨140, #[.agg (kd p r c gx gy).toArray, U (tm p (jS p y z Y) (mi p (jM p x (jU p x z X)) (jX p x (jU p x z X) (jS p y z Y)))), U (tm p y (jC p (jU p x z X)))], exec_call rfl call140 rfl (mpn rfl), minus_any hp (tm p (jS p y z Y) (mi p (jM p x (jU p x z X)) (jX p x (jU p x z X) (jS p y z Y)))) (tm p y (jC p (jU p x z X))) (tm_lt hp) (tm_lt hp) w'⟩⟩) ?_
    refine ak (fun γ => ⟨rfl, fun w' h => ex_loadT h 0 rfl rfl rfl Tryd.isAgg105 Tryd.sizeOf105 rfl rfl⟩) ?_
    refine ak (by refine fun γ => ⟨rfl, fun w' h => ?_⟩; clear h; go_simp) ?_
    refine ak (fun γ => ⟨rfl, fun w' h => ex_loadC h 1 rfl rfl rfl Tryd.isAgg22 rfl⟩) ?_
    refine ak (fun _ => ⟨rfl, fun _ _ => rfl⟩) ?_
    refine ak (fun γ => ⟨rfl, fun w' h => ⟨128, #[.agg (kd p r c gx gy).toArray, U z, U (jU p x z X)], exec_call rfl call128 rfl (mpn rfl), times_any hp z (jU p x z X) hz (mi_lt hp) w'⟩⟩) ?_
    refine ak (fun γ => ⟨rfl, fun w' _ => ex_build77_012 rfl rfl rfl rfl⟩) ?_
    refine ak (fun _ => ⟨rfl, fun _ _ => rfl⟩) ?_
    exact trivial
  case hla12 => exact ⟨⟨_, _, rfl, rfl, fun γ => ⟨rfl, fun w' => by first | rfl | go_simp⟩⟩, trivial⟩
  intro γ w12 l hM hl
  have H12 := keepB H11 hM.below
  clear hM hl l H11 γ
  refine ⟨_, ex_storeT (vs := tr (jX p x (jU p x z X) (jS p y z Y)) (mi p (tm p (jS p y z Y) (mi p (jM p x (jU p x z X)) (jX p x (jU p x z X) (jS p y z Y)))) (tm p y (jC p (jU p x z X)))) (tm p z (jU p x z X))) H12.out.1 3 rfl rfl rfl rfl Tryd.sizeOf146 rfl (Nat.le_of_ble_eq_true rfl), ?_⟩
  have H13 : Hid (Mm (w12.setCells γ1_3 0 (tr (jX p x (jU p x z X) (jS p y z Y)) (mi p (tm p (jS p y z Y) (mi p (jM p x (jU p x z X)) (jX p x (jU p x z X) (jS p y z Y)))) (tm p y (jC p (jU p x z X)))) (tm p z (jU p x z X)))) [(γ1_0, kd p r c gx gy), (γ1_1, tr x y z), (γ1_2, pt X Y false), (γ1_3, tr (jX p x (jU p x z X) (jS p y z Y)) (mi p (tm p (jS p y z Y) (mi p (jM p x (jU p x z X)) (jX p x (jU p x z X) (jS p y z Y)))) (tm p y (jC p (jU p x z X)))) (tm p z (jU p x z X)))] ∧ Below w.heap.size w (w12.setCells γ1_3 0 (tr (jX p x (jU p x z X) (jS p y z Y)) (mi p (tm p (jS p y z Y) (mi p (jM p x (jU p x z X)) (jX p x (jU p x z X) (jS p y z Y)))) (tm p y (jC p (jU p x z X)))) (tm p z (jU p x z X))))) := ⟨H12.out.1.put 3 (off := 0) (vs := tr (jX p x (jU p x z X) (jS p y z Y)) (mi p (tm p (jS p y z Y) (mi p (jM p x (jU p x z X)) (jX p x (jU p x z X) (jS p y z Y)))) (tm p y (jC p (jU p x z X)))) (tm p z (jU p x z X))) rfl (Nat.le_of_ble_eq_true rfl), below_setCells _ o1_3.out _ _ _ H12.out.2⟩
  clear H12
  generalize hgw : World.setCells _ _ _ _ = w13 at H13 ⊢
  clear hgw
  refine rest_at (l := [23]) rfl ?_
  refine rest_set (d := 7) rfl rfl rfl rfl ?_
  simp only [Act.put, sa, sz, ss]
  refine rest_nil (then_normal (wp_ret ?_))
  repeat (first | refine then_ret ?_ | refine block_ret ?_)
  have hf0 := var_T H13.out.1 3 rfl Tryd.isAgg146 Tryd.sizeOf146 rfl
  refine bodyPost_ret (v := .tuple #[.agg (tr (jX p x (jU p x z X) (jS p y z Y)) (mi p (tm p (jS p y z Y) (mi p (jM p x (jU p x z X)) (jX p x (jU p x z X) (jS p y z Y)))) (tm p y (jC p (jU p x z X)))) (tm p z (jU p x z X))).toArray, U (jS p y z Y)]) (by simp [results, Tryd.results131, asAddr, Act.eval, hf0]) rfl ?_
  exact ⟨rfl, H13.out.2⟩
theorem joined_any (hp : Pr p) (t : T3) (ht : Lt3 p t) (X Y : Nat) (Z : Bool) (hX : X < p) (hY : Y < p) (w : World) : Calls Tryd.prog 131 #[.agg (kd p r c gx gy).toArray, .agg (tr t.1 t.2.1 t.2.2).toArray, .agg (pt X Y Z).toArray] w fun e w' => e = .returned (.tuple #[V (tc (jnT p t X Y Z)), U (jnR p t X Y Z)]) ∧ Below w.heap.size w w' := by
  cases Z
  · by_cases h : t.2.2 = 0
    · rw [jnT_0 h, jnR_0 h]; exact joined_0 _ _ _ X Y h w
    · by_cases h1 : jU p t.1 t.2.2 X = 0
      · by_cases h2 : jS p t.2.1 t.2.2 Y = 0
        · rw [jnT_s h ⟨h1, h2⟩, jnR_s h ⟨h1, h2⟩]; exact joined_same hp _ _ _ ht.x ht.y ht.z X Y hX hY h h1 h2 w
        · rw [jnT_g h (fun e => h2 e.2), jnR_g h (fun e => h2 e.2)]; exact joined_s hp _ _ _ ht.x ht.y ht.z X Y hX hY h h1 h2 w
      · rw [jnT_g h (fun e => h1 e.1), jnR_g h (fun e => h1 e.1)]; exact joined_u hp _ _ _ ht.x ht.y ht.z X Y hX hY h h1 w
  · exact joined_z _ _ _ X Y w
end
end Lt
end Rg
end Go.Proofs.YtfnmahjdkmgdkaaDoor
end
section
namespace Go.Proofs.YtfnmahjdkmgdkaaDoor
open Go.RowKit
namespace Rg
namespace Lt
theorem len_in (n : Nat) (hn : n < 18446744073709551616) (w : World) : Calls Tryd.prog 71 #[U n] w fun e w' => e = .returned (.int .i64 ((bl n : Nat) : Int)) ∧ Below w.heap.size w w' := by
  have h := len64_any (n : Int) w (by omega) (by omega)
  rw [Int.toNat_natCast] at h
  exact Calls.mono h (fun e w' h => ⟨h.1, by rw [h.2]; exact Below.refl _ _⟩)
theorem call131 : ∀ args w, (callFunc 131 args).run Tryd.prog w = .ok (.enter 131 args) w := by intro args w; go_simp
theorem call117 : ∀ args w, (callFunc 117 args).run Tryd.prog w = .ok (.enter 117 args) w := by intro args w; go_simp
theorem call116 : ∀ args w, (callFunc 116 args).run Tryd.prog w = .ok (.enter 116 args) w := by intro args w; go_simp
theorem call71 : ∀ args w, (callFunc 71 args).run Tryd.prog w = .ok (.enter 71 args) w := by intro args w; go_simp
section
variable {p r c gx gy : Nat}
set_option maxHeartbeats 1000000 in
set_option maxRecDepth 100000 in
theorem multiple_any (hp : Pr p) (X Y : Nat) (Z : Bool) (hX : X < p) (hY : Y < p) (n : Nat) (hn : n < 18446744073709551616) (w : World) :
    Calls Tryd.prog 117 #[.agg (kd p r c gx gy).toArray, .agg (pt X Y Z).toArray, U n] w fun e w' => e = .returned (V (tc (mt p X Y Z n))) ∧ Below w.heap.size w w' := by
  have H0 : Hid (_ ∧ _) := ⟨Mm.nil w, Below.refl w.heap.size w⟩
  go_enter Tryd.func117, Tryd.ntmps117
  refine wp_seq ?_
  refine walk_seqA 3 [.made (kd p r c gx gy) 105, .made (pt X Y Z) 64, .made (tr 0 0 0) 146] (sB H0) ?ho1 ?he1
  case ho1 => exact ak (fun γ => ⟨rfl, fun w' => ex_boxT rfl rfl⟩) (ak (fun γ => ⟨rfl, fun w' => ex_boxT rfl rfl⟩) (ak (fun γ => ⟨rfl, fun w' => ex_made77 rfl⟩) trivial))
  intro γ w1 l hM hl
  have H1 : Hid (Mm w1 [(γ 0, kd p r c gx gy), (γ 1, pt X Y Z), (γ 2, tr 0 0 0)] ∧ _) := growB H0 hM (Nat.le_refl _) hl [0, 1, 2] rfl (by decide)
  have o1_0 := ownB H0 hM (Nat.le_refl _) hl (i := 0) rfl
  have o1_1 := ownB H0 hM (Nat.le_refl _) hl (i := 1) rfl
  have o1_2 := ownB H0 hM (Nat.le_refl _) hl (i := 2) rfl
  clear hM hl l
  generalize γ 0 = γ1_0 at H1 o1_0 ⊢
  generalize γ 1 = γ1_1 at H1 o1_1 ⊢
  generalize γ 2 = γ1_2 at H1 o1_2 ⊢
  clear γ
  refine rest0 rfl (then_normal (wp_seq ?_))
  refine walk_seqA 1 [.made (tr 0 0 0) 146] (sB H1) ?ho2 ?he2
  case ho2 => exact ak (fun γ => ⟨rfl, fun w' => ex_made77 rfl⟩) trivial
  intro γ w2 l hM hl
  have H2 : Hid (Mm w2 [(γ 0, tr 0 0 0), (γ1_0, kd p r c gx gy), (γ1_1, pt X Y Z), (γ1_2, tr 0 0 0)] ∧ _) := growB H1 hM (Nat.le_refl _) hl [0] rfl (by decide)
  have o2_0 := ownB H1 hM (Nat.le_refl _) hl (i := 0) rfl
  clear hM hl l H1
  generalize γ 0 = γ2_0 at H2 o2_0 ⊢
  clear γ
  refine rest0 rfl (then_normal (wp_seq (wp_seq ?_)))
  refine walk_seqB 4 [.quiet (U n), .call (.int .i64 ((bl n : Nat) : Int)), .quiet (.int .i64 (((bl n : Nat) : Int) - 1)), .quiet (.int .i64 (((bl n : Nat) : Int) - 1))] H2 ?ho3 ?he3
  case ho3 => exact ak (fun _ => ⟨rfl, fun _ _ => rfl⟩) (ak (fun γ => ⟨rfl, fun w' h => ⟨71, #[U n], exec_call rfl call71 rfl (mpn rfl), len_in n hn w'⟩⟩) (ak (by refine fun γ => ⟨rfl, fun w' h => ?_⟩; clear h; have hbl := bl_le_of n 64 hn; go_simp; rw [IntKind.wrap_i64]; omega) (ak (fun _ => ⟨rfl, fun _ _ => rfl⟩) trivial)))
  intro _ w3 H3
  clear H2
  refine rest0 rfl (then_normal (wp_block ?_))
  refine loop_ghost (α := Nat) (fun k a' w' => ∃ s0 : Nat → Value, a' = ⟨#[.agg (kd p r c gx gy).toArray, .agg (pt X Y Z).toArray, U n, PT γ1_0 0, PT γ1_1 0, undef, PT γ1_2 0, PT γ2_0 0, .int .i64 (((k : Nat) : Int) - 1), U n, .int .i64 ((bl n : Nat) : Int), .int .i64 (((bl n : Nat) : Int) - 1), s0 12, s0 13, s0 14, s0 15, s0 16, s0 17, s0 18, s0 19, s0 20, s0 21, s0 22, s0 23, s0 24, s0 25, s0 26, s0 27, s0 28, s0 29, s0 30, s0 31, s0 32, s0 33, undef], []⟩ ∧ (Mm w' [(γ2_0, tc (mt p X Y Z (n / 2 ^ k))), (γ1_0, kd p r c gx gy), (γ1_1, pt X Y Z), (γ1_2, tr 0 0 0)] ∧ Below w.heap.size w w') ∧ k ≤ 64) (fun k => k) (bl n) ?st0 ?rd0
  case st0 => exact ⟨(slotfn [undef, undef, undef, undef, undef, undef, undef, undef, undef, undef, undef, undef, undef, undef, undef, undef, undef, undef, undef, undef, undef, undef, undef, undef, undef, undef, undef, undef, undef, undef, undef, undef, undef, undef]), rfl, ⟨by rw [Nat.div_eq_of_lt (bl_lt n), mt_zero]; exact H3.out.1, H3.out.2⟩, bl_le_of n 64 hn⟩
  intro k a' w4 hI
  obtain ⟨s0, rfl, hMB, hk0⟩ := hI
  have H4 : Hid (_ ∧ _) := hMB
  clear hMB H3
  by_cases hlt : 0 < k
  · have hrd : True := trivial
    clear hrd
    obtain ⟨j, rfl⟩ : ∃ j, k = j + 1 := ⟨k - 1, by omega⟩
    rw [show (((j + 1 : Nat) : Int) - 1) = ((j : Nat) : Int) by omega]
    by_cases hb : n / 2 ^ j % 2 = 1
    · have hrd : True := trivial
      clear hrd
      refine wp_seq (wp_seq ?_)
      refine walk_seqB 2 [.quiet (.int .i64 ((j : Nat) : Int)), .quiet (.bool true)] H4 ?ho4 ?he4
      case ho4 => exact ak (fun _ => ⟨rfl, fun _ _ => rfl⟩) (ak (by refine fun γ => ⟨rfl, fun w' h => ?_⟩; clear h; go_simp) trivial)
      intro _ w5 H5
      clear H4
      refine rest0 rfl (then_normal (wp_cond_true rfl ?_))
      refine wp_skip (then_normal ?_)
      refine wp_seq (wp_block (wp_seq ?_))
      refine walk_seqB 6 [.quiet (.agg (kd p r c gx gy).toArray), .quiet (.agg (tc (mt p X Y Z (n / 2 ^ (j + 1)))).toArray), .call (.tuple #[.agg (tr ((twT p (mt p X Y Z (n / 2 ^ (j + 1)))).1) ((twT p (mt p X Y Z (n / 2 ^ (j + 1)))).2.1) ((twT p (mt p X Y Z (n / 2 ^ (j + 1)))).2.2)).toArray, U (tR p (mt p X Y Z (n / 2 ^ (j + 1))).1 (mt p X Y Z (n / 2 ^ (j + 1))).2.2)]), .quiet (.tuple #[.agg (tr ((twT p (mt p X Y Z (n / 2 ^ (j + 1)))).1) ((twT p (mt p X Y Z (n / 2 ^ (j + 1)))).2.1) ((twT p (mt p X Y Z (n / 2 ^ (j + 1)))).2.2)).toArray, U (tR p (mt p X Y Z (n / 2 ^ (j + 1))).1 (mt p X Y Z (n / 2 ^ (j + 1))).2.2)]), .quiet (.agg (tr ((twT p (mt p X Y Z (n / 2 ^ (j + 1)))).1) ((twT p (mt p X Y Z (n / 2 ^ (j + 1)))).2.1) ((twT p (mt p X Y Z (n / 2 ^ (j + 1)))).2.2)).toArray), .quiet (U (tR p (mt p X Y Z (n / 2 ^ (j + 1))).1 (mt p X Y Z (n / 2 ^ (j + 1))).2.2))] H5 ?ho5 ?he5
      case ho5 => exact ak (fun γ => ⟨rfl, fun w' h => ex_loadT h 1 rfl rfl rfl Tryd.isAgg105 Tryd.sizeOf105 rfl rfl⟩) (ak (fun γ => ⟨rfl, fun w' h => ex_loadT h 0 rfl rfl rfl Tryd.isAgg146 Tryd.sizeOf146 rfl rfl⟩) (ak (fun γ => ⟨rfl, fun w' h => ⟨130, #[.agg (kd p r c gx gy).toArray, .agg (tc (mt p X Y Z (n / 2 ^ (j + 1)))).toArray], exec_call rfl call130 rfl (mpn rfl), twice_any hp (mt p X Y Z (n / 2 ^ (j + 1))) (mt_lt hp hX hY _) w'⟩⟩) (ak (fun _ => ⟨rfl, fun _ _ => rfl⟩) (ak (by refine fun γ => ⟨rfl, fun w' h => ?_⟩; clear h; go_simp) (ak (by refine fun γ => ⟨rfl, fun w' h => ?_⟩; clear h; go_simp) trivial)))))
      intro _ w6 H6
      clear H5
      refine rest_at (l := [6]) rfl ?_
      refine rest_store rfl rfl rfl (ex_storeT (vs := tr ((twT p (mt p X Y Z (n / 2 ^ (j + 1)))).1) ((twT p (mt p X Y Z (n / 2 ^ (j + 1)))).2.1) ((twT p (mt p X Y Z (n / 2 ^ (j + 1)))).2.2)) H6.out.1 0 rfl rfl rfl rfl Tryd.sizeOf146 rfl (Nat.le_of_ble_eq_true rfl)) ?_
      have H7 : Hid (Mm (w6.setCells γ2_0 0 (tr ((twT p (mt p X Y Z (n / 2 ^ (j + 1)))).1) ((twT p (mt p X Y Z (n / 2 ^ (j + 1)))).2.1) ((twT p (mt p X Y Z (n / 2 ^ (j + 1)))).2.2))) [(γ2_0, tr ((twT p (mt p X Y Z (n / 2 ^ (j + 1)))).1) ((twT p (mt p X Y Z (n / 2 ^ (j + 1)))).2.1) ((twT p (mt p X Y Z (n / 2 ^ (j + 1)))).2.2)), (γ1_0, kd p r c gx gy), (γ1_1, pt X Y Z), (γ1_2, tr 0 0 0)] ∧ Below w.heap.size w (w6.setCells γ2_0 0 (tr ((twT p (mt p X Y Z (n / 2 ^ (j + 1)))).1) ((twT p (mt p X Y Z (n / 2 ^ (j + 1)))).2.1) ((twT p (mt p X Y Z (n / 2 ^ (j + 1)))).2.2)))) := ⟨H6.out.1.put 0 (off := 0) (vs := tr ((twT p (mt p X Y Z (n / 2 ^ (j + 1)))).1) ((twT p (mt p X Y Z (n / 2 ^ (j + 1)))).2.1) ((twT p (mt p X Y Z (n / 2 ^ (j + 1)))).2.2)) rfl (Nat.le_of_ble_eq_true rfl), below_setCells _ o2_0.out _ _ _ H6.out.2⟩
      clear H6
      generalize hgw : World.setCells _ _ _ _ = w7 at H7 ⊢
      clear hgw
      refine rest_nil (then_normal (wp_seq ?_))
      refine walk_seqB 5 [.quiet (U n), .quiet (.int .i64 ((j : Nat) : Int)), .quiet (U (n / 2 ^ j)), .quiet (U (n / 2 ^ j % 2)), .quiet (.bool true)] H7 ?ho6 ?he6
      case ho6 => exact ak (fun _ => ⟨rfl, fun _ _ => rfl⟩) (ak (fun _ => ⟨rfl, fun _ _ => rfl⟩) (ak (fun γ => ⟨rfl, fun w' _ => ex_shrU (by omega) rfl rfl rfl⟩) (ak (fun γ => ⟨rfl, fun w' _ => ex_and1 rfl (Nat.lt_of_le_of_lt (Nat.div_le_self _ _) hn) rfl rfl⟩) (ak (fun γ => ⟨rfl, fun w' _ => ex_eqU rfl rfl rfl (decide_eq_true (hb))⟩) trivial))))
      intro _ w8 H8
      clear H7
      refine rest0 rfl (then_normal (wp_cond_true rfl ?_))
      refine walk_seqB 7 [.quiet (.agg (kd p r c gx gy).toArray), .quiet (.agg (tr ((twT p (mt p X Y Z (n / 2 ^ (j + 1)))).1) ((twT p (mt p X Y Z (n / 2 ^ (j + 1)))).2.1) ((twT p (mt p X Y Z (n / 2 ^ (j + 1)))).2.2)).toArray), .quiet (.agg (pt X Y Z).toArray), .call (.tuple #[.agg (tr ((jnT p (twT p (mt p X Y Z (n / 2 ^ (j + 1)))) X Y Z).1) ((jnT p (twT p (mt p X Y Z (n / 2 ^ (j + 1)))) X Y Z).2.1) ((jnT p (twT p (mt p X Y Z (n / 2 ^ (j + 1)))) X Y Z).2.2)).toArray, U (jnR p (twT p (mt p X Y Z (n / 2 ^ (j + 1)))) X Y Z)]), .quiet (.tuple #[.agg (tr ((jnT p (twT p (mt p X Y Z (n / 2 ^ (j + 1)))) X Y Z).1) ((jnT p (twT p (mt p X Y Z (n / 2 ^ (j + 1)))) X Y Z).2.1) ((jnT p (twT p (mt p X Y Z (n / 2 ^ (j + 1)))) X Y Z).2.2)).toArray, U (jnR p (twT p (mt p X Y Z (n / 2 ^ (j + 1)))) X Y Z)]), .quiet (.agg (tr ((jnT p (twT p (mt p X Y Z (n / 2 ^ (j + 1)))) X Y Z).1) ((jnT p (twT p (mt p X Y Z (n / 2 ^ (j + 1)))) X Y Z).2.1) ((jnT p (twT p (mt p X Y Z (n / 2 ^ (j + 1)))) X Y Z).2.2)).toArray), .quiet (U (jnR p (twT p (mt p X Y Z (n / 2 ^ (j + 1)))) X Y Z))] H8 ?ho7 ?he7
      case ho7 => exact ak (fun γ => ⟨rfl, fun w' h => ex_loadT h 1 rfl rfl rfl Tryd.isAgg105 Tryd.sizeOf105 rfl rfl⟩) (ak (fun γ => ⟨rfl, fun w' h => ex_loadT h 0 rfl rfl rfl Tryd.isAgg146 Tryd.sizeOf146 rfl rfl⟩) (ak (fun γ => ⟨rfl, fun w' h => ex_loadT h 2 rfl rfl rfl Tryd.isAgg64 Tryd.sizeOf64 rfl rfl⟩) (ak (fun γ => ⟨rfl, fun w' h => ⟨131, #[.agg (kd p r c gx gy).toArray, .agg (tr ((twT p (mt p X Y Z (n / 2 ^ (j + 1)))).1) ((twT p (mt p X Y Z (n / 2 ^ (j + 1)))).2.1) ((twT p (mt p X Y Z (n / 2 ^ (j + 1)))).2.2)).toArray, .agg (pt X Y Z).toArray], exec_call rfl call131 rfl (mpn rfl), joined_any hp (twT p (mt p X Y Z (n / 2 ^ (j + 1)))) (tw_lt hp _) X Y Z hX hY w'⟩⟩) (ak (fun _ => ⟨rfl, fun _ _ => rfl⟩) (ak (by refine fun γ => ⟨rfl, fun w' h => ?_⟩; clear h; go_simp) (ak (by refine fun γ => ⟨rfl, fun w' h => ?_⟩; clear h; go_simp) trivial))))))
      intro _ w9 H9
      clear H8
      refine rest_at (l := [7]) rfl ?_
      refine rest_store rfl rfl rfl (ex_storeT (vs := tr ((jnT p (twT p (mt p X Y Z (n / 2 ^ (j + 1)))) X Y Z).1) ((jnT p (twT p (mt p X Y Z (n / 2 ^ (j + 1)))) X Y Z).2.1) ((jnT p (twT p (mt p X Y Z (n / 2 ^ (j + 1)))) X Y Z).2.2)) H9.out.1 0 rfl rfl rfl rfl Tryd.sizeOf146 rfl (Nat.le_of_ble_eq_true rfl)) ?_
      have H10 : Hid (Mm (w9.setCells γ2_0 0 (tr ((jnT p (twT p (mt p X Y Z (n / 2 ^ (j + 1)))) X Y Z).1) ((jnT p (twT p (mt p X Y Z (n / 2 ^ (j + 1)))) X Y Z).2.1) ((jnT p (twT p (mt p X Y Z (n / 2 ^ (j + 1)))) X Y Z).2.2))) [(γ2_0, tr ((jnT p (twT p (mt p X Y Z (n / 2 ^ (j + 1)))) X Y Z).1) ((jnT p (twT p (mt p X Y Z (n / 2 ^ (j + 1)))) X Y Z).2.1) ((jnT p (twT p (mt p X Y Z (n / 2 ^ (j + 1)))) X Y Z).2.2)), (γ1_0, kd p r c gx gy), (γ1_1, pt X Y Z), (γ1_2, tr 0 0 0)] ∧ Below w.heap.size w (w9.setCells γ2_0 0 (tr ((jnT p (twT p (mt p X Y Z (n / 2 ^ (j + 1)))) X Y Z).1) ((jnT p (twT p (mt p X Y Z (n / 2 ^ (j + 1)))) X Y Z).2.1) ((jnT p (twT p (mt p X Y Z (n / 2 ^ (j + 1)))) X Y Z).2.2)))) := ⟨H9.out.1.put 0 (off := 0) (vs := tr ((jnT p (twT p (mt p X Y Z (n / 2 ^ (j + 1)))) X Y Z).1) ((jnT p (twT p (mt p X Y Z (n / 2 ^ (j + 1)))) X Y Z).2.1) ((jnT p (twT p (mt p X Y Z (n / 2 ^ (j + 1)))) X Y Z).2.2)) rfl (Nat.le_of_ble_eq_true rfl), below_setCells _ o2_0.out _ _ _ H9.out.2⟩
      clear H9
      generalize hgw : World.setCells _ _ _ _ = w10 at H10 ⊢
      clear hgw
      refine rest_nil (block_normal (then_normal ?_))
      refine walk_seqB 2 [.quiet (.int .i64 ((j : Nat) : Int)), .quiet (.int .i64 (((j : Nat) : Int) - 1))] H10 ?ho8 ?he8
      case ho8 => exact ak (fun _ => ⟨rfl, fun _ _ => rfl⟩) (ak (by refine fun γ => ⟨rfl, fun w' h => ?_⟩; clear h; go_simp; rw [IntKind.wrap_i64]; omega) trivial)
      intro _ w11 H11
      clear H10
      refine rest_at (l := [2]) rfl ?_
      refine rest_set (d := 8) rfl rfl rfl rfl ?_
      simp only [Act.put, sa, sz, ss]
      refine rest_nil (then_normal ?_)
      exact ⟨j, ⟨(slotfn [undef, undef, undef, undef, undef, undef, undef, undef, undef, undef, undef, undef, .int .i64 ((j : Nat) : Int), .bool true, .int .i64 ((j : Nat) : Int), .int .i64 (((j : Nat) : Int) - 1), .tuple #[.agg (tr ((twT p (mt p X Y Z (n / 2 ^ (j + 1)))).1) ((twT p (mt p X Y Z (n / 2 ^ (j + 1)))).2.1) ((twT p (mt p X Y Z (n / 2 ^ (j + 1)))).2.2)).toArray, U (tR p (mt p X Y Z (n / 2 ^ (j + 1))).1 (mt p X Y Z (n / 2 ^ (j + 1))).2.2)], .agg (kd p r c gx gy).toArray, .agg (tc (mt p X Y Z (n / 2 ^ (j + 1)))).toArray, .tuple #[.agg (tr ((twT p (mt p X Y Z (n / 2 ^ (j + 1)))).1) ((twT p (mt p X Y Z (n / 2 ^ (j + 1)))).2.1) ((twT p (mt p X Y Z (n / 2 ^ (j + 1)))).2.2)).toArray, U (tR p (mt p X Y Z (n / 2 ^ (j + 1))).1 (mt p X Y Z (n / 2 ^ (j + 1))).2.2)], .agg (tr ((twT p (mt p X Y Z (n / 2 ^ (j + 1)))).1) ((twT p (mt p X Y Z (n / 2 ^ (j + 1)))).2.1) ((twT p (mt p X Y Z (n / 2 ^ (j + 1)))).2.2)).toArray, U (tR p (mt p X Y Z (n / 2 ^ (j + 1))).1 (mt p X Y Z (n / 2 ^ (j + 1))).2.2), U n, .int .i64 ((j : Nat) : Int), U (n / 2 ^ j), U (n / 2 ^ j % 2), .bool true, .tuple #[.agg (tr ((jnT p (twT p (mt p X Y Z (n / 2 ^ (j + 1)))) X Y Z).1) ((jnT p (twT p (mt p X Y Z (n / 2 ^ (j + 1)))) X Y Z).2.1) ((jnT p (twT p (mt p X Y Z (n / 2 ^ (j + 1)))) X Y Z).2.2)).toArray, U (jnR p (twT p (mt p X Y Z (n / 2 ^ (j + 1)))) X Y Z)], .agg (kd p r c gx gy).toArray, .agg (tr ((twT p (mt p X Y Z (n / 2 ^ (j + 1)))).1) ((twT p (mt p X Y Z (n / 2 ^ (j + 1)))).2.1) ((twT p (mt p X Y Z (n / 2 ^ (j + 1)))).2.2)).toArray, .agg (pt X Y Z).toArray, .tuple #[.agg (tr ((jnT p (twT p (mt p X Y Z (n / 2 ^ (j + 1)))) X Y Z).1) ((jnT p (twT p (mt p X Y Z (n / 2 ^ (j + 1)))) X Y Z).2.1) ((jnT p (twT p (mt p X Y Z (n / 2 ^ (j + 1)))) X Y Z).2.2)).toArray, U (jnR p (twT p (mt p X Y Z (n / 2 ^ (j + 1)))) X Y Z)], .agg (tr ((jnT p (twT p (mt p X Y Z (n / 2 ^ (j + 1)))) X Y Z).1) ((jnT p (twT p (mt p X Y Z (n / 2 ^ (j + 1)))) X Y Z).2.1) ((jnT p (twT p (mt p X Y Z (n / 2 ^ (j + 1)))) X Y Z).2.2)).toArray, U (jnR p (twT p (mt p X Y Z (n / 2 ^ (j + 1)))) X Y Z)]), rfl, ⟨by rw [mt_bit X Y Z n j hn, if_pos hb]; exact H11.out.1, H11.out.2⟩, by omega⟩, by omega⟩
    · have hrd : True := trivial
      clear hrd
      refine wp_seq (wp_seq ?_)
      refine walk_seqB 2 [.quiet (.int .i64 ((j : Nat) : Int)), .quiet (.bool true)] H4 ?ho9 ?he9
      case ho9 => exact ak (fun _ => ⟨rfl, fun _ _ => rfl⟩) (ak (by refine fun γ => ⟨rfl, fun w' h => ?_⟩; clear h; go_simp) trivial)
      intro _ w12 H12
      clear H4
      refine rest0 rfl (then_normal (wp_cond_true rfl ?_))
      refine wp_skip (then_normal ?_)
      refine wp_seq (wp_block (wp_seq ?_))
      refine walk_seqB 6 [.quiet (.agg (kd p r c gx gy).toArray), .quiet (.agg (tc (mt p X Y Z (n / 2 ^ (j + 1)))).toArray), .call (.tuple #[.agg (tr ((twT p (mt p X Y Z (n / 2 ^ (j + 1)))).1) ((twT p (mt p X Y Z (n / 2 ^ (j + 1)))).2.1) ((twT p (mt p X Y Z (n / 2 ^ (j + 1)))).2.2)).toArray, U (tR p (mt p X Y Z (n / 2 ^ (j + 1))).1 (mt p X Y Z (n / 2 ^ (j + 1))).2.2)]), .quiet (.tuple #[.agg (tr ((twT p (mt p X Y Z (n / 2 ^ (j + 1)))).1) ((twT p (mt p X Y Z (n / 2 ^ (j + 1)))).2.1) ((twT p (mt p X Y Z (n / 2 ^ (j + 1)))).2.2)).toArray, U (tR p (mt p X Y Z (n / 2 ^ (j + 1))).1 (mt p X Y Z (n / 2 ^ (j + 1))).2.2)]), .quiet (.agg (tr ((twT p (mt p X Y Z (n / 2 ^ (j + 1)))).1) ((twT p (mt p X Y Z (n / 2 ^ (j + 1)))).2.1) ((twT p (mt p X Y Z (n / 2 ^ (j + 1)))).2.2)).toArray), .quiet (U (tR p (mt p X Y Z (n / 2 ^ (j + 1))).1 (mt p X Y Z (n / 2 ^ (j + 1))).2.2))] H12 ?ho10 ?he10
      case ho10 => exact ak (fun γ => ⟨rfl, fun w' h => ex_loadT h 1 rfl rfl rfl Tryd.isAgg105 Tryd.sizeOf105 rfl rfl⟩) (ak (fun γ => ⟨rfl, fun w' h => ex_loadT h 0 rfl rfl rfl Tryd.isAgg146 Tryd.sizeOf146 rfl rfl⟩) (ak (fun γ => ⟨rfl, fun w' h => ⟨130, #[.agg (kd p r c gx gy).toArray, .agg (tc (mt p X Y Z (n / 2 ^ (j + 1)))).toArray], exec_call rfl call130 rfl (mpn rfl), twice_any hp (mt p X Y Z (n / 2 ^ (j + 1))) (mt_lt hp hX hY _) w'⟩⟩) (ak (fun _ => ⟨rfl, fun _ _ => rfl⟩) (ak (by refine fun γ => ⟨rfl, fun w' h => ?_⟩; clear h; go_simp) (ak (by refine fun γ => ⟨rfl, fun w' h => ?_⟩; clear h; go_simp) trivial)))))
      intro _ w13 H13
      clear H12
      refine rest_at (l := [6]) rfl ?_
      refine rest_store rfl rfl rfl (ex_storeT (vs := tr ((twT p (mt p X Y Z (n / 2 ^ (j + 1)))).1) ((twT p (mt p X Y Z (n / 2 ^ (j + 1)))).2.1) ((twT p (mt p X Y Z (n / 2 ^ (j + 1)))).2.2)) H13.out.1 0 rfl rfl rfl rfl Tryd.sizeOf146 rfl (Nat.le_of_ble_eq_true rfl)) ?_
      have H14 : Hid (Mm (w13.setCells γ2_0 0 (tr ((twT p (mt p X Y Z (n / 2 ^ (j + 1)))).1) ((twT p (mt p X Y Z (n / 2 ^ (j + 1)))).2.1) ((twT p (mt p X Y Z (n / 2 ^ (j + 1)))).2.2))) [(γ2_0, tr ((twT p (mt p X Y Z (n / 2 ^ (j + 1)))).1) ((twT p (mt p X Y Z (n / 2 ^ (j + 1)))).2.1) ((twT p (mt p X Y Z (n / 2 ^ (j + 1)))).2.2)), (γ1_0, kd p r c gx gy), (γ1_1, pt X Y Z), (γ1_2, tr 0 0 0)] ∧ Below w.heap.size w (w13.setCells γ2_0 0 (tr ((twT p (mt p X Y Z (n / 2 ^ (j + 1)))).1) ((twT p (mt p X Y Z (n / 2 ^ (j + 1)))).2.1) ((twT p (mt p X Y Z (n / 2 ^ (j + 1)))).2.2)))) := ⟨H13.out.1.put 0 (off := 0) (vs := tr ((twT p (mt p X Y Z (n / 2 ^ (j + 1)))).1) ((twT p (mt p X Y Z (n / 2 ^ (j + 1)))).2.1) ((twT p (mt p X Y Z (n / 2 ^ (j + 1)))).2.2)) rfl (Nat.le_of_ble_eq_true rfl), below_setCells _ o2_0.out _ _ _ H13.out.2⟩
      clear H13
      generalize hgw : World.setCells _ _ _ _ = w14 at H14 ⊢
      clear hgw
      refine rest_nil (then_normal (wp_seq ?_))
      refine walk_seqB 5 [.quiet (U n), .quiet (.int .i64 ((j : Nat) : Int)), .quiet (U (n / 2 ^ j)), .quiet (U (n / 2 ^ j % 2)), .quiet (.bool false)] H14 ?ho11 ?he11
      case ho11 => exact ak (fun _ => ⟨rfl, fun _ _ => rfl⟩) (ak (fun _ => ⟨rfl, fun _ _ => rfl⟩) (ak (fun γ => ⟨rfl, fun w' _ => ex_shrU (by omega) rfl rfl rfl⟩) (ak (fun γ => ⟨rfl, fun w' _ => ex_and1 rfl (Nat.lt_of_le_of_lt (Nat.div_le_self _ _) hn) rfl rfl⟩) (ak (fun γ => ⟨rfl, fun w' _ => ex_eqU rfl rfl rfl (decide_eq_false (hb))⟩) trivial))))
      intro _ w15 H15
      clear H14
      refine rest0 rfl (then_normal (wp_cond_false rfl ?_))
      refine wp_skip (block_normal (then_normal ?_))
      refine walk_seqB 2 [.quiet (.int .i64 ((j : Nat) : Int)), .quiet (.int .i64 (((j : Nat) : Int) - 1))] H15 ?ho12 ?he12
      case ho12 => exact ak (fun _ => ⟨rfl, fun _ _ => rfl⟩) (ak (by refine fun γ => ⟨rfl, fun w' h => ?_⟩; clear h; go_simp; rw [IntKind.wrap_i64]; omega) trivial)
      intro _ w16 H16
      clear H15
      refine rest_at (l := [2]) rfl ?_
      refine rest_set (d := 8) rfl rfl rfl rfl ?_
      simp only [Act.put, sa, sz, ss]
      refine rest_nil (then_normal ?_)
      exact ⟨j, ⟨(slotfn [undef, undef, undef, undef, undef, undef, undef, undef, undef, undef, undef, undef, .int .i64 ((j : Nat) : Int), .bool true, .int .i64 ((j : Nat) : Int), .int .i64 (((j : Nat) : Int) - 1), .tuple #[.agg (tr ((twT p (mt p X Y Z (n / 2 ^ (j + 1)))).1) ((twT p (mt p X Y Z (n / 2 ^ (j + 1)))).2.1) ((twT p (mt p X Y Z (n / 2 ^ (j + 1)))).2.2)).toArray, U (tR p (mt p X Y Z (n / 2 ^ (j + 1))).1 (mt p X Y Z (n / 2 ^ (j + 1))).2.2)], .agg (kd p r c gx gy).toArray, .agg (tc (mt p X Y Z (n / 2 ^ (j + 1)))).toArray, .tuple #[.agg (tr ((twT p (mt p X Y Z (n / 2 ^ (j + 1)))).1) ((twT p (mt p X Y Z (n / 2 ^ (j + 1)))).2.1) ((twT p (mt p X Y Z (n / 2 ^ (j + 1)))).2.2)).toArray, U (tR p (mt p X Y Z (n / 2 ^ (j + 1))).1 (mt p X Y Z (n / 2 ^ (j + 1))).2.2)], .agg (tr ((twT p (mt p X Y Z (n / 2 ^ (j + 1)))).1) ((twT p (mt p X Y Z (n / 2 ^ (j + 1)))).2.1) ((twT p (mt p X Y Z (n / 2 ^ (j + 1)))).2.2)).toArray, U (tR p (mt p X Y Z (n / 2 ^ (j + 1))).1 (mt p X Y Z (n / 2 ^ (j + 1))).2.2), U n, .int .i64 ((j : Nat) : Int), U (n / 2 ^ j), U (n / 2 ^ j % 2), .bool false, s0 27, s0 28, s0 29, s0 30, s0 31, s0 32, s0 33]), rfl, ⟨by rw [mt_bit X Y Z n j hn, if_neg hb]; exact H16.out.1, H16.out.2⟩, by omega⟩, by omega⟩
  have hk : k = 0 := by omega
  subst hk
  refine wp_seq (wp_seq ?_)
  refine walk_seqB 2 [.quiet (.int .i64 (((0 : Nat) : Int) - 1)), .quiet (.bool false)] H4 ?ho13 ?he13
  case ho13 => exact ak (fun _ => ⟨rfl, fun _ _ => rfl⟩) (ak (by refine fun γ => ⟨rfl, fun w' h => ?_⟩; clear h; go_simp) trivial)
  intro _ w17 H17
  clear H4
  refine rest0 rfl (then_normal (wp_cond_false rfl ?_))
  refine wp_exit ?_
  repeat refine then_exit ?_
  refine block_exit ?_
  refine then_normal (wp_seq ?_)
  refine walk_seqB 1 [.quiet (.agg (tc (mt p X Y Z (n / 2 ^ 0))).toArray)] H17 ?ho14 ?he14
  case ho14 => exact ak (fun γ => ⟨rfl, fun w' h => ex_loadT h 0 rfl rfl rfl Tryd.isAgg146 Tryd.sizeOf146 rfl rfl⟩) trivial
  intro _ w18 H18
  clear H17
  refine rest_at (l := [1]) rfl ?_
  refine rest_store rfl rfl rfl (ex_storeT (vs := tc (mt p X Y Z (n / 2 ^ 0))) H18.out.1 3 rfl rfl rfl rfl Tryd.sizeOf146 rfl (Nat.le_of_ble_eq_true rfl)) ?_
  have H19 : Hid (Mm (w18.setCells γ1_2 0 (tc (mt p X Y Z (n / 2 ^ 0)))) [(γ2_0, tc (mt p X Y Z (n / 2 ^ 0))), (γ1_0, kd p r c gx gy), (γ1_1, pt X Y Z), (γ1_2, tc (mt p X Y Z (n / 2 ^ 0)))] ∧ Below w.heap.size w (w18.setCells γ1_2 0 (tc (mt p X Y Z (n / 2 ^ 0))))) := ⟨H18.out.1.put 3 (off := 0) (vs := tc (mt p X Y Z (n / 2 ^ 0))) rfl (Nat.le_of_ble_eq_true rfl), below_setCells _ o1_2.out _ _ _ H18.out.2⟩
  clear H18
  generalize hgw : World.setCells _ _ _ _ = w19 at H19 ⊢
  clear hgw
  refine rest_nil (then_normal (wp_ret ?_))
  repeat (first | refine then_ret ?_ | refine block_ret ?_)
  have hf0 := var_T H19.out.1 3 rfl Tryd.isAgg146 Tryd.sizeOf146 rfl
  refine bodyPost_ret (v := .agg (tc (mt p X Y Z (n / 2 ^ 0))).toArray) (by simp [results, Tryd.results117, asAddr, hf0]) rfl ?_
  exact ⟨by rw [Nat.pow_zero, Nat.div_one], H19.out.2⟩
theorem oc_lt {p X Y : Nat} {Z : Bool} (hp : Pr p) (h : oc p X Y Z = true) : X < p ∧ Y < p := by
  unfold oc at h
  split at h
  · simp at h
    rw [h.1, h.2]
    exact ⟨zero_lt hp, zero_lt hp⟩
  · simp at h
    exact ⟨h.1, h.2.1⟩
theorem on_is (hp : Pr p) (X Y : Nat) (Z t : Bool) (h : oc p X Y Z = t) (w : World) : Calls Tryd.prog 116 #[.agg (kd p r c gx gy).toArray, .agg (pt X Y Z).toArray] w fun e w' => e = .returned (.bool t) ∧ Below w.heap.size w w' := by
  rw [← h]
  exact onCurve_any hp X Y Z w
set_option maxRecDepth 100000 in
theorem in_no (hp : Pr p) (X Y : Nat) (Z : Bool) (hoc : oc p X Y Z = false) (w : World) :
    Calls Tryd.prog 95 #[.agg (kd p r c gx gy).toArray, .agg (pt X Y Z).toArray] w fun e w' => e = .returned (.bool false) ∧ Below w.heap.size w w' := by
  have H0 : Hid (_ ∧ _) := ⟨Mm.nil w, Below.refl w.heap.size w⟩
  go_enter Tryd.func95, Tryd.ntmps95
  refine wp_seq ?_
  refine walk_seqA 3 [.made (kd p r c gx gy) 105, .made (pt X Y Z) 64, .quiet (.bool false)] (sB H0) ?ho1 ?he1
  case ho1 => exact ak (fun γ => ⟨rfl, fun w' => ex_boxT rfl rfl⟩) (ak (fun γ => ⟨rfl, fun w' => ex_boxT rfl rfl⟩) (ak (fun _ => ⟨rfl, fun _ _ => rfl⟩) trivial))
  intro γ w1 l hM hl
  have H1 : Hid (Mm w1 [(γ 0, kd p r c gx gy), (γ 1, pt X Y Z)] ∧ _) := growB H0 hM (Nat.le_refl _) hl [0, 1] rfl (by decide)
  have o1_0 := ownB H0 hM (Nat.le_refl _) hl (i := 0) rfl
  have o1_1 := ownB H0 hM (Nat.le_refl _) hl (i := 1) rfl
  clear hM hl l
  generalize γ 0 = γ1_0 at H1 o1_0 ⊢
  generalize γ 1 = γ1_1 at H1 o1_1 ⊢
  clear γ
  refine rest0 rfl (then_normal (wp_seq ?_))
  refine walk_seqB 13 [.quiet (.agg (kd p r c gx gy).toArray), .quiet (.agg (pt X Y Z).toArray), .call (.bool false), .quiet (.bool false), .gone, .gone, .gone, .gone, .gone, .gone, .gone, .quiet (.bool false), .quiet (.bool false)] H1 ?ho2 ?he2
  case ho2 => exact ak (fun γ => ⟨rfl, fun w' h => ex_loadT h 0 rfl rfl rfl Tryd.isAgg105 Tryd.sizeOf105 rfl rfl⟩) (ak (fun γ => ⟨rfl, fun w' h => ex_loadT h 1 rfl rfl rfl Tryd.isAgg64 Tryd.sizeOf64 rfl rfl⟩) (ak (fun γ => ⟨rfl, fun w' h => ⟨116, #[.agg (kd p r c gx gy).toArray, .agg (pt X Y Z).toArray], exec_call rfl call116 rfl (mpn rfl), on_is hp X Y Z _ hoc w'⟩⟩) (ak (fun _ => ⟨rfl, fun _ _ => rfl⟩) (ak (fun γ => rfl) (ak (fun γ => rfl) (ak (fun γ => rfl) (ak (fun γ => rfl) (ak (fun γ => rfl) (ak (fun γ => rfl) (ak (fun γ => rfl) (ak (by refine fun γ => ⟨rfl, fun w' h => ?_⟩; clear h; go_simp) (ak (fun _ => ⟨rfl, fun _ _ => rfl⟩) trivial))))))))))))
  intro _ w2 H2
  clear H1
  refine rest0 rfl (then_normal (wp_ret ?_))
  repeat (first | refine then_ret ?_ | refine block_ret ?_)
  refine bodyPost_ret (v := .bool false) (by simp [results, Tryd.results95, go_sem, *]) rfl ?_
  exact ⟨rfl, H2.out.2⟩
set_option maxRecDepth 100000 in
theorem in_yes (hp : Pr p) (X Y : Nat) (Z : Bool) (hoc : oc p X Y Z = true) (hr : r < 18446744073709551616) (w : World) :
    Calls Tryd.prog 95 #[.agg (kd p r c gx gy).toArray, .agg (pt X Y Z).toArray] w fun e w' => e = .returned (.bool (decide ((mt p X Y Z r).2.2 = 0))) ∧ Below w.heap.size w w' := by
  have H0 : Hid (_ ∧ _) := ⟨Mm.nil w, Below.refl w.heap.size w⟩
  go_enter Tryd.func95, Tryd.ntmps95
  refine wp_seq ?_
  refine walk_seqA 3 [.made (kd p r c gx gy) 105, .made (pt X Y Z) 64, .quiet (.bool false)] (sB H0) ?ho1 ?he1
  case ho1 => exact ak (fun γ => ⟨rfl, fun w' => ex_boxT rfl rfl⟩) (ak (fun γ => ⟨rfl, fun w' => ex_boxT rfl rfl⟩) (ak (fun _ => ⟨rfl, fun _ _ => rfl⟩) trivial))
  intro γ w1 l hM hl
  have H1 : Hid (Mm w1 [(γ 0, kd p r c gx gy), (γ 1, pt X Y Z)] ∧ _) := growB H0 hM (Nat.le_refl _) hl [0, 1] rfl (by decide)
  have o1_0 := ownB H0 hM (Nat.le_refl _) hl (i := 0) rfl
  have o1_1 := ownB H0 hM (Nat.le_refl _) hl (i := 1) rfl
  clear hM hl l
  generalize γ 0 = γ1_0 at H1 o1_0 ⊢
  generalize γ 1 = γ1_1 at H1 o1_1 ⊢
  clear γ
  refine rest0 rfl (then_normal (wp_seq ?_))
  refine walk_seqB 13 [.quiet (.agg (kd p r c gx gy).toArray), .quiet (.agg (pt X Y Z).toArray), .call (.bool true), .quiet (.bool true), .quiet (.agg (kd p r c gx gy).toArray), .quiet (.agg (pt X Y Z).toArray), .quiet (PT γ1_0 1), .quiet (U r), .call (.agg (tr ((mt p X Y Z r).1) ((mt p X Y Z r).2.1) ((mt p X Y Z r).2.2)).toArray), .quiet (U ((mt p X Y Z r).2.2)), .quiet (.bool (decide ((mt p X Y Z r).2.2 = 0))), .quiet (.bool (decide ((mt p X Y Z r).2.2 = 0))), .quiet (.bool (decide ((mt p X Y Z r).2.2 = 0)))] H1 ?ho2 ?he2
  case ho2 => exact ak (fun γ => ⟨rfl, fun w' h => ex_loadT h 0 rfl rfl rfl Tryd.isAgg105 Tryd.sizeOf105 rfl rfl⟩) (ak (fun γ => ⟨rfl, fun w' h => ex_loadT h 1 rfl rfl rfl Tryd.isAgg64 Tryd.sizeOf64 rfl rfl⟩) (ak (fun γ => ⟨rfl, fun w' h => ⟨116, #[.agg (kd p r c gx gy).toArray, .agg (pt X Y Z).toArray], exec_call rfl call116 rfl (mpn rfl), on_is hp X Y Z _ hoc w'⟩⟩) (ak (fun _ => ⟨rfl, fun _ _ => rfl⟩) (ak (fun γ => ⟨rfl, fun w' h => ex_loadT h 0 rfl rfl rfl Tryd.isAgg105 Tryd.sizeOf105 rfl rfl⟩) (ak (fun γ => ⟨rfl, fun w' h => ex_loadT h 1 rfl rfl rfl Tryd.isAgg64 Tryd.sizeOf64 rfl rfl⟩) (ak (by refine fun γ => ⟨rfl, fun w' h => ?_⟩; clear h; go_simp) (ak (fun γ => ⟨rfl, fun w' h => ex_loadC h 0 rfl rfl rfl Tryd.isAgg22 rfl⟩) (ak (fun γ => ⟨rfl, fun w' h => ⟨117, #[.agg (kd p r c gx gy).toArray, .agg (pt X Y Z).toArray, U r], exec_call rfl call117 rfl (mpn rfl), multiple_any hp X Y Z (oc_lt hp hoc).1 (oc_lt hp hoc).2 r hr w'⟩⟩) (ak (fun γ => ⟨rfl, fun w' _ => ex_field77_2 rfl rfl rfl⟩) (ak (fun γ => ⟨rfl, fun w' _ => ex_eqU rfl rfl rfl rfl⟩) (ak (by refine fun γ => ⟨rfl, fun w' h => ?_⟩; clear h; go_simp) (ak (fun _ => ⟨rfl, fun _ _ => rfl⟩) trivial))))))))))))
  intro _ w2 H2
  clear H1
  refine rest0 rfl (then_normal (wp_ret ?_))
  repeat (first | refine then_ret ?_ | refine block_ret ?_)
  refine bodyPost_ret (v := .bool (decide ((mt p X Y Z r).2.2 = 0))) (by simp [results, Tryd.results95, go_sem, *]) rfl ?_
  exact ⟨rfl, H2.out.2⟩
theorem inGroup_any (hp : Pr p) (hr : r < 18446744073709551616) (X Y : Nat) (Z : Bool) (w : World) : Calls Tryd.prog 95 #[.agg (kd p r c gx gy).toArray, .agg (pt X Y Z).toArray] w fun e w' => e = .returned (.bool (ig p r X Y Z)) ∧ Below w.heap.size w w' := by
  unfold ig
  cases h : oc p X Y Z
  · exact in_no hp X Y Z h w
  · exact in_yes hp X Y Z h hr w
end
end Lt
end Rg
end Go.Proofs.YtfnmahjdkmgdkaaDoor
end
section
namespace Go.Proofs.YtfnmahjdkmgdkaaDoor
open Go.RowKit
namespace Rg
namespace Lt
/-- Two points' cells. -/
abbrev p2 (a b : Nat) (z : Bool) (a' b' : Nat) (z' : Bool) : List Value := [U a, U b, .bool z, U a', U b', .bool z']
theorem rounds_in {P : Program} {c : Code} {Q : Exit → Act → World → Prop} {n : Nat} {a : Act} {w : World} (h : c.wp P (Exit.then (Code.rounds P c Q n) Q) a w) : Code.rounds P c Q (n + 1) a w := h
/-- What a suite is. -/
structure Kd (s : Int) (p r c gx gy : Nat) : Prop where
  pr : Pr p
  rb : r < 18446744073709551616
  cb : c < 18446744073709551616
  kind : ∀ w, Calls Tryd.prog 82 #[.int .i64 s] w fun e w' => e = .returned (.tuple #[V (kd p r c gx gy), .int .i64 0]) ∧ Below w.heap.size w w'
theorem kd_1 : Kd 1 786251 65521 12 9723 164643 := ⟨⟨by decide, by decide⟩, by decide, by decide, kindOf_1⟩
theorem kd_2 : Kd 2 1152921504606846223 72057594037927889 16 613740293506734924 666621259561003659 := ⟨⟨by decide, by decide⟩, by decide, by decide, kindOf_2⟩
theorem call82 : ∀ args w, (callFunc 82 args).run Tryd.prog w = .ok (.enter 82 args) w := by intro args w; go_simp
theorem call95 : ∀ args w, (callFunc 95 args).run Tryd.prog w = .ok (.enter 95 args) w := by intro args w; go_simp
section
variable {s : Int} {p r c gx gy : Nat}
set_option maxRecDepth 100000 in
theorem Order_ok (k : Kd s p r c gx gy) (w : World) :
    Calls Tryd.prog 53 #[.int .i64 s] w fun e w' => e = .returned (.tuple #[U r, .int .i64 0]) ∧ Below w.heap.size w w' := by
  have H0 : Hid (_ ∧ _) := ⟨Mm.nil w, Below.refl w.heap.size w⟩
  go_enter Tryd.func53, Tryd.ntmps53
  refine wp_seq ?_
  refine walk_seqB 2 [.quiet (U 0), .quiet (.int .i64 0)] H0 ?ho1 ?he1
  case ho1 => exact ak (fun _ => ⟨rfl, fun _ _ => rfl⟩) (ak (fun _ => ⟨rfl, fun _ _ => rfl⟩) trivial)
  intro _ w1 H1
  refine rest0 rfl (then_normal (wp_seq ?_))
  refine walk_seqA 8 [.quiet (.int .i64 s), .call (.tuple #[.agg (kd p r c gx gy).toArray, .int .i64 0]), .quiet (.tuple #[.agg (kd p r c gx gy).toArray, .int .i64 0]), .quiet (.agg (kd p r c gx gy).toArray), .quiet (.int .i64 0), .made (kd 0 0 0 0 0) 105, .laid 5 (kd 0 0 0 0 0) (kd p r c gx gy), .quiet (.int .i64 0)] (sB H1) ?ho2 ?he2 (hL := ?hL2)
  case hL2 => exact ⟨⟨_, rfl⟩, trivial⟩
  case ho2 => exact ak (fun _ => ⟨rfl, fun _ _ => rfl⟩) (ak (fun γ => ⟨rfl, fun w' h => ⟨82, #[.int .i64 s], exec_call rfl call82 rfl (mpn rfl), k.kind w'⟩⟩) (ak (fun _ => ⟨rfl, fun _ _ => rfl⟩) (ak (by refine fun γ => ⟨rfl, fun w' h => ?_⟩; clear h; go_simp) (ak (by refine fun γ => ⟨rfl, fun w' h => ?_⟩; clear h; go_simp) (ak (fun γ => ⟨rfl, fun w' => ex_made72 rfl⟩) (ak (fun γ => ⟨rfl, rfl, rfl, fun w' h => ex_laidT h rfl rfl Tryd.sizeOf105 rfl rfl rfl⟩) (ak (fun _ => ⟨rfl, fun _ _ => rfl⟩) trivial)))))))
  intro γ w2 l hM hl
  have H2 : Hid (Mm w2 [(γ 5, kd p r c gx gy)] ∧ _) := growB H1 hM (Nat.le_refl _) hl [5] rfl (by decide)
  have o2_5 := ownB H1 hM (Nat.le_refl _) hl (i := 5) rfl
  clear hM hl l H1
  generalize γ 5 = γ2_5 at H2 o2_5 ⊢
  clear γ
  refine rest0 rfl (then_normal (wp_seq ?_))
  refine walk_seqB 5 [.quiet (PT γ2_5 1), .quiet (U r), .quiet (.int .i64 0), .quiet (U r), .quiet (.int .i64 0)] H2 ?ho3 ?he3
  case ho3 => exact ak (by refine fun γ => ⟨rfl, fun w' h => ?_⟩; clear h; go_simp) (ak (fun γ => ⟨rfl, fun w' h => ex_loadC h 0 rfl rfl rfl Tryd.isAgg22 rfl⟩) (ak (fun _ => ⟨rfl, fun _ _ => rfl⟩) (ak (fun _ => ⟨rfl, fun _ _ => rfl⟩) (ak (fun _ => ⟨rfl, fun _ _ => rfl⟩) trivial))))
  intro _ w3 H3
  clear H2
  refine rest0 rfl (then_normal (wp_ret ?_))
  repeat (first | refine then_ret ?_ | refine block_ret ?_)
  refine bodyPost_ret (v := .tuple #[U r, .int .i64 0]) (by simp [results, Tryd.results53, go_sem, *]) rfl ?_
  exact ⟨rfl, H3.out.2⟩
set_option maxRecDepth 100000 in
theorem Gen_ok (k : Kd s p r c gx gy) (w : World) :
    Calls Tryd.prog 74 #[.int .i64 s] w fun e w' => e = .returned (.tuple #[V (pt gx gy false), .int .i64 0]) ∧ Below w.heap.size w w' := by
  have H0 : Hid (_ ∧ _) := ⟨Mm.nil w, Below.refl w.heap.size w⟩
  go_enter Tryd.func74, Tryd.ntmps74
  refine wp_seq ?_
  refine walk_seqA 2 [.made (pt 0 0 false) 64, .quiet (.int .i64 0)] (sB H0) ?ho1 ?he1
  case ho1 => exact ak (fun γ => ⟨rfl, fun w' => ex_made25 rfl⟩) (ak (fun _ => ⟨rfl, fun _ _ => rfl⟩) trivial)
  intro γ w1 l hM hl
  have H1 : Hid (Mm w1 [(γ 0, pt 0 0 false)] ∧ _) := growB H0 hM (Nat.le_refl _) hl [0] rfl (by decide)
  have o1_0 := ownB H0 hM (Nat.le_refl _) hl (i := 0) rfl
  clear hM hl l
  generalize γ 0 = γ1_0 at H1 o1_0 ⊢
  clear γ
  refine rest0 rfl (then_normal (wp_seq ?_))
  refine walk_seqA 8 [.quiet (.int .i64 s), .call (.tuple #[.agg (kd p r c gx gy).toArray, .int .i64 0]), .quiet (.tuple #[.agg (kd p r c gx gy).toArray, .int .i64 0]), .quiet (.agg (kd p r c gx gy).toArray), .quiet (.int .i64 0), .made (kd 0 0 0 0 0) 105, .laid 5 (kd 0 0 0 0 0) (kd p r c gx gy), .quiet (.int .i64 0)] (sB H1) ?ho2 ?he2 (hL := ?hL2)
  case hL2 => exact ⟨⟨_, rfl⟩, trivial⟩
  case ho2 => exact ak (fun _ => ⟨rfl, fun _ _ => rfl⟩) (ak (fun γ => ⟨rfl, fun w' h => ⟨82, #[.int .i64 s], exec_call rfl call82 rfl (mpn rfl), k.kind w'⟩⟩) (ak (fun _ => ⟨rfl, fun _ _ => rfl⟩) (ak (by refine fun γ => ⟨rfl, fun w' h => ?_⟩; clear h; go_simp) (ak (by refine fun γ => ⟨rfl, fun w' h => ?_⟩; clear h; go_simp) (ak (fun γ => ⟨rfl, fun w' => ex_made72 rfl⟩) (ak (fun γ => ⟨rfl, rfl, rfl, fun w' h => ex_laidT h rfl rfl Tryd.sizeOf105 rfl rfl rfl⟩) (ak (fun _ => ⟨rfl, fun _ _ => rfl⟩) trivial)))))))
  intro γ w2 l hM hl
  have H2 : Hid (Mm w2 [(γ 5, kd p r c gx gy), (γ1_0, pt 0 0 false)] ∧ _) := growB H1 hM (Nat.le_refl _) hl [5] rfl (by decide)
  have o2_5 := ownB H1 hM (Nat.le_refl _) hl (i := 5) rfl
  clear hM hl l H1
  generalize γ 5 = γ2_5 at H2 o2_5 ⊢
  clear γ
  refine rest0 rfl (then_normal (wp_seq ?_))
  refine walk_seqB 3 [.quiet (PT γ2_5 3), .quiet (.agg (pt gx gy false).toArray), .quiet (.int .i64 0)] H2 ?ho3 ?he3
  case ho3 => exact ak (by refine fun γ => ⟨rfl, fun w' h => ?_⟩; clear h; go_simp) (ak (fun γ => ⟨rfl, fun w' h => ex_loadT h 0 rfl rfl rfl Tryd.isAgg64 Tryd.sizeOf64 rfl rfl⟩) (ak (fun _ => ⟨rfl, fun _ _ => rfl⟩) trivial))
  intro _ w3 H3
  clear H2
  refine rest_at (l := [3, 4]) rfl ?_
  refine rest_store rfl rfl rfl (ex_storeT (vs := pt gx gy false) H3.out.1 1 rfl rfl rfl rfl Tryd.sizeOf64 rfl (Nat.le_of_ble_eq_true rfl)) ?_
  have H4 : Hid (Mm (w3.setCells γ1_0 0 (pt gx gy false)) [(γ2_5, kd p r c gx gy), (γ1_0, pt gx gy false)] ∧ Below w.heap.size w (w3.setCells γ1_0 0 (pt gx gy false))) := ⟨H3.out.1.put 1 (off := 0) (vs := pt gx gy false) rfl (Nat.le_of_ble_eq_true rfl), below_setCells _ o1_0.out _ _ _ H3.out.2⟩
  clear H3
  generalize hgw : World.setCells _ _ _ _ = w4 at H4 ⊢
  clear hgw
  refine rest_set (d := 3) rfl rfl rfl rfl ?_
  simp only [Act.put, sa, sz, ss]
  refine rest_nil (then_normal (wp_ret ?_))
  repeat (first | refine then_ret ?_ | refine block_ret ?_)
  have hf0 := var_T H4.out.1 1 rfl Tryd.isAgg64 Tryd.sizeOf64 rfl
  refine bodyPost_ret (v := .tuple #[.agg (pt gx gy false).toArray, .int .i64 0]) (by simp [results, Tryd.results74, asAddr, Act.eval, hf0]) rfl ?_
  exact ⟨rfl, H4.out.2⟩
set_option maxRecDepth 100000 in
theorem In_ok (k : Kd s p r c gx gy) (X Y : Nat) (Z : Bool) (w : World) :
    Calls Tryd.prog 77 #[.int .i64 s, .agg (pt X Y Z).toArray] w fun e w' => e = .returned (.bool (ig p r X Y Z)) ∧ Below w.heap.size w w' := by
  have H0 : Hid (_ ∧ _) := ⟨Mm.nil w, Below.refl w.heap.size w⟩
  go_enter Tryd.func77, Tryd.ntmps77
  refine wp_seq ?_
  refine walk_seqA 2 [.made (pt X Y Z) 64, .quiet (.bool false)] (sB H0) ?ho1 ?he1
  case ho1 => exact ak (fun γ => ⟨rfl, fun w' => ex_boxT rfl rfl⟩) (ak (fun _ => ⟨rfl, fun _ _ => rfl⟩) trivial)
  intro γ w1 l hM hl
  have H1 : Hid (Mm w1 [(γ 0, pt X Y Z)] ∧ _) := growB H0 hM (Nat.le_refl _) hl [0] rfl (by decide)
  have o1_0 := ownB H0 hM (Nat.le_refl _) hl (i := 0) rfl
  clear hM hl l
  generalize γ 0 = γ1_0 at H1 o1_0 ⊢
  clear γ
  refine rest0 rfl (then_normal (wp_seq ?_))
  refine walk_seqA 8 [.quiet (.int .i64 s), .call (.tuple #[.agg (kd p r c gx gy).toArray, .int .i64 0]), .quiet (.tuple #[.agg (kd p r c gx gy).toArray, .int .i64 0]), .quiet (.agg (kd p r c gx gy).toArray), .quiet (.int .i64 0), .made (kd 0 0 0 0 0) 105, .laid 5 (kd 0 0 0 0 0) (kd p r c gx gy), .quiet (.int .i64 0)] (sB H1) ?ho2 ?he2 (hL := ?hL2)
  case hL2 => exact ⟨⟨_, rfl⟩, trivial⟩
  case ho2 => exact ak (fun _ => ⟨rfl, fun _ _ => rfl⟩) (ak (fun γ => ⟨rfl, fun w' h => ⟨82, #[.int .i64 s], exec_call rfl call82 rfl (mpn rfl), k.kind w'⟩⟩) (ak (fun _ => ⟨rfl, fun _ _ => rfl⟩) (ak (by refine fun γ => ⟨rfl, fun w' h => ?_⟩; clear h; go_simp) (ak (by refine fun γ => ⟨rfl, fun w' h => ?_⟩; clear h; go_simp) (ak (fun γ => ⟨rfl, fun w' => ex_made72 rfl⟩) (ak (fun γ => ⟨rfl, rfl, rfl, fun w' h => ex_laidT h rfl rfl Tryd.sizeOf105 rfl rfl rfl⟩) (ak (fun _ => ⟨rfl, fun _ _ => rfl⟩) trivial)))))))
  intro γ w2 l hM hl
  have H2 : Hid (Mm w2 [(γ 5, kd p r c gx gy), (γ1_0, pt X Y Z)] ∧ _) := growB H1 hM (Nat.le_refl _) hl [5] rfl (by decide)
  have o2_5 := ownB H1 hM (Nat.le_refl _) hl (i := 5) rfl
  clear hM hl l H1
  generalize γ 5 = γ2_5 at H2 o2_5 ⊢
  clear γ
  refine rest0 rfl (then_normal (wp_seq ?_))
  refine walk_seqB 8 [.quiet (.int .i64 0), .quiet (.bool true), .quiet (.bool true), .quiet (.agg (kd p r c gx gy).toArray), .quiet (.agg (pt X Y Z).toArray), .call (.bool (ig p r X Y Z)), .quiet (.bool (ig p r X Y Z)), .quiet (.bool (ig p r X Y Z))] H2 ?ho3 ?he3
  case ho3 => exact ak (fun _ => ⟨rfl, fun _ _ => rfl⟩) (ak (by refine fun γ => ⟨rfl, fun w' h => ?_⟩; clear h; go_simp) (ak (fun _ => ⟨rfl, fun _ _ => rfl⟩) (ak (fun γ => ⟨rfl, fun w' h => ex_loadT h 0 rfl rfl rfl Tryd.isAgg105 Tryd.sizeOf105 rfl rfl⟩) (ak (fun γ => ⟨rfl, fun w' h => ex_loadT h 1 rfl rfl rfl Tryd.isAgg64 Tryd.sizeOf64 rfl rfl⟩) (ak (fun γ => ⟨rfl, fun w' h => ⟨95, #[.agg (kd p r c gx gy).toArray, .agg (pt X Y Z).toArray], exec_call rfl call95 rfl (mpn rfl), inGroup_any k.pr k.rb X Y Z w'⟩⟩) (ak (by refine fun γ => ⟨rfl, fun w' h => ?_⟩; clear h; go_simp) (ak (fun _ => ⟨rfl, fun _ _ => rfl⟩) trivial)))))))
  intro _ w3 H3
  clear H2
  refine rest0 rfl (then_normal (wp_ret ?_))
  repeat (first | refine then_ret ?_ | refine block_ret ?_)
  refine bodyPost_ret (v := .bool (ig p r X Y Z)) (by simp [results, Tryd.results77, go_sem, *]) rfl ?_
  exact ⟨rfl, H3.out.2⟩
end
end Lt
end Rg
end Go.Proofs.YtfnmahjdkmgdkaaDoor
end
section
namespace Go.Proofs.YtfnmahjdkmgdkaaDoor
open Go.RowKit
namespace NT
theorem prm_65521 : Prm 65521 := prm_trial 65521 256 (by decide) (by decide) (by decide +kernel)
theorem prm_2192917 : Prm 2192917 := prm_trial 2192917 1481 (by decide) (by decide) (by decide +kernel)
theorem prm_6868571 : Prm 6868571 := prm_trial 6868571 2621 (by decide) (by decide) (by decide +kernel)
theorem fac_72057594037927889 : ∀ d, Prm d → d ∣ 72057594037927889 → 15062206111607 ∣ d - 1 := by
  intro d hd hdN
  refine pockp (N := 72057594037927889) (M := 72057594037927888) (F := 15062206111607) (a := 2) [2192917, 6868571] (by decide) (by decide +kernel) hd hdN (by decide +kernel) ?_ ?_
  · intro t h
    have e : 15062206111607 = (2192917 * 6868571) := by decide
    rw [e]
    exact Nat.Coprime.mul_left ((h 2192917 (by decide))) ((h 6868571 (by decide)))
  · intro q hq
    simp only [List.mem_cons, List.not_mem_nil, or_false] at hq
    rcases hq with rfl | rfl
    · exact ⟨prm_2192917, by decide +kernel, by decide +kernel⟩
    · exact ⟨prm_6868571, by decide +kernel, by decide +kernel⟩
theorem prm_72057594037927889 : Prm 72057594037927889 := prm_of (by decide) (by decide) fac_72057594037927889
end NT
end Go.Proofs.YtfnmahjdkmgdkaaDoor
end
section
namespace Go.Proofs.YtfnmahjdkmgdkaaDoor
open Go.RowKit
namespace Rg
theorem inv_ex {n a : Nat} (ok : Ok n) (hg : Nat.gcd n a = 1) : ∃ x, x < n ∧ x * a % n = 1 := by
  have key : ∀ (m : Nat) (z : WS), z.o + z.r = m → WI n a z → ∃ x, x < n ∧ x * a % n = 1 := by
    intro m
    induction m using Nat.strongRecOn with
    | _ m ih =>
      intro z hz I
      obtain ⟨o, r, u, v, h, t⟩ := z
      simp only at hz
      by_cases hr : r = 0
      · subst hr
        have ho : o = 1 := by
          have h1 : Nat.gcd o 0 = Nat.gcd n a := I.gcd
          rw [Nat.gcd_zero_right] at h1
          rw [h1]; exact hg
        cases t with
        | true => exact ⟨_, Nat.mod_lt _ ok.pos, end_true ok I ho⟩
        | false => exact ⟨_, Nat.mod_lt _ ok.pos, end_false ok I ho⟩
      · have hrb : r < big := by have h1 : r ≤ n := I.rn; have := ok.big; omega
        obtain ⟨k, r1, hk, er, hr1, _⟩ := trailing_any hrb hr
        obtain ⟨p1, p2, _⟩ := I.facts hr er
        obtain ⟨i1, i2⟩ := I.next hr er hr1
        have hle : r1 ≤ r := by rw [er]; exact Nat.le_mul_of_pos_right _ (Nat.two_pow_pos k)
        by_cases hl : r1 < o
        · exact ih (r1 + (o - r1)) (by omega) _ rfl (i1 hl)
        · exact ih (o + (r1 - o)) (by omega) _ rfl (i2 hl)
  exact key _ ⟨n, a % n, 0, 1, 0, false⟩ rfl (WI.start ok)
theorem invm_spec {n a : Nat} (ok : Ok n) (hg : Nat.gcd n a = 1) : invm n a < n ∧ invm n a * a % n = 1 := by
  obtain ⟨x, hx, h1⟩ := inv_ex ok hg
  rw [invm_eq hx h1]
  exact ⟨hx, h1⟩
end Rg
end Go.Proofs.YtfnmahjdkmgdkaaDoor
end
section
namespace Go.Proofs.YtfnmahjdkmgdkaaDoor
open Go.RowKit
namespace Rg
set_option maxRecDepth 100000
set_option maxHeartbeats 4000000 in
set_option maxRecDepth 100000 in
theorem awake11_gen (n1 n2 n3 n4 n5 gx gy : Nat)
    (e_n1 : ∀ w, (Op.equalIn 10000 24 (N n1) (N n1)).run Tryd.prog w = .ok true w)
    (e_n4 : ∀ w, (Op.equalIn 10000 24 (N n4) (N n4)).run Tryd.prog w = .ok true w)
    (e_n5 : ∀ w, (Op.equalIn 10000 24 (N n5) (N n5)).run Tryd.prog w = .ok true w)
    (c0 : ∀ w, Calls Tryd.prog 25 #[.int .i64 1] w fun e w' => e = .returned (.tuple #[N n1, .int .i64 0]) ∧ Below w.heap.size w w')
    (c1 : ∀ w, Calls Tryd.prog 23 #[.int .u64 65520] w fun e w' => e = .returned (N n2) ∧ Below w.heap.size w w')
    (c2 : ∀ w, Calls Tryd.prog 23 #[.int .u64 2] w fun e w' => e = .returned (N n3) ∧ Below w.heap.size w w')
    (c3 : ∀ w, Calls Tryd.prog 20 #[.int .i64 1, N n2, N n3] w fun e w' => e = .returned (.tuple #[N n4, .int .i64 0]) ∧ Below w.heap.size w w')
    (c4 : ∀ w, Mm w [(0, dtab)] → Calls Tryd.prog 22 #[.int .i64 1, N n3] w fun e w' => e = .returned (.tuple #[N n5, .int .i64 0]) ∧ Below w.heap.size w w')
    (c5 : ∀ w, Calls Tryd.prog 48 #[.int .i64 1] w fun e w' => e = .returned (.tuple #[.agg ([Value.int .i64 1] ++ (cel [0, 0] ++ [Value.bool false, Value.int .u64 (gx : Int), Value.int .u64 (gy : Int), Value.bool false])).toArray, .int .i64 0]) ∧ Below w.heap.size w w')
    (c6 : ∀ w, Calls Tryd.prog 23 #[.int .u64 65521] w fun e w' => e = .returned (N n1) ∧ Below w.heap.size w w')
    (c7 : ∀ w, Calls Tryd.prog 23 #[.int .u64 1] w fun e w' => e = .returned (N n4) ∧ Below w.heap.size w w')
    (c8 : ∀ w, Calls Tryd.prog 23 #[.int .u64 32761] w fun e w' => e = .returned (N n5) ∧ Below w.heap.size w w')
    (c9 : ∀ w, Calls Tryd.prog 49 #[.agg ([Value.int .i64 1] ++ (cel [0, 0] ++ [Value.bool false, Value.int .u64 (gx : Int), Value.int .u64 (gy : Int), Value.bool false])).toArray] w fun e w' => e = .returned (.bool true) ∧ Below w.heap.size w w') (w : World) (hm : Mm w [(0, dtab)]) :
    Calls Tryd.prog 17 #[] w fun e w' => e = .returned (.bool true) ∧ Below w.heap.size w w' := by
  have H0 : Hid (_ ∧ _) := ⟨hm, Below.refl w.heap.size w⟩
  clear hm
  have C0 : Hid _ := c0
  have C1 : Hid _ := c1
  have C2 : Hid _ := c2
  have C3 : Hid _ := c3
  have C4 : Hid _ := c4
  have C5 : Hid _ := c5
  have C6 : Hid _ := c6
  have C7 : Hid _ := c7
  have C8 : Hid _ := c8
  have C9 : Hid _ := c9
  clear c0 c1 c2 c3 c4 c5 c6 c7 c8 c9
  go_enter Tryd.func17, Tryd.ntmps17
  refine wp_seq ?_
  refine walk_seqB 1 [.quiet (.bool false)] H0 ?ho1 ?he1
  case ho1 => exact ak (fun _ => ⟨rfl, fun _ _ => rfl⟩) trivial
  intro _ w1 H1
  refine rest0 rfl (then_normal (wp_seq ?_))
  refine walk_seqA 7 [.call (.tuple #[N n1, .int .i64 0]), .quiet (.tuple #[N n1, .int .i64 0]), .quiet (N n1), .quiet (.int .i64 0), .made zero6 24, .laid 4 zero6 (cells6 n1), .quiet (.int .i64 0)] (sB H1) ?ho2 ?he2 (hL := ?hL2)
  case hL2 => exact ⟨⟨_, rfl⟩, trivial⟩
  case ho2 => exact ak (fun γ => ⟨rfl, fun w' h => ⟨25, #[.int .i64 1], exec_call rfl call25 rfl (mpn rfl), C0.out w'⟩⟩) (ak (fun _ => ⟨rfl, fun _ _ => rfl⟩) (ak (by refine fun γ => ⟨rfl, fun w' h => ?_⟩; clear h; go_simp) (ak (by refine fun γ => ⟨rfl, fun w' h => ?_⟩; clear h; go_simp) (ak (fun γ => ⟨rfl, fun w' => exec_made6 rfl⟩) (ak (fun γ => ⟨rfl, rfl, rfl, fun w' h => exec_laid6 h rfl rfl rfl⟩) (ak (fun _ => ⟨rfl, fun _ _ => rfl⟩) trivial))))))
  intro γ w2 l hM hl
  have H2 : Hid (Mm w2 [(γ 4, cells6 n1), (0, dtab)] ∧ _) := growB H1 hM (Nat.le_refl _) hl [4] rfl (by decide)
  have o2_4 := ownB H1 hM (Nat.le_refl _) hl (i := 4) rfl
  clear hM hl l H1
  generalize γ 4 = γ2_4 at H2 o2_4 ⊢
  clear γ
  refine rest0 rfl (then_normal (wp_seq ?_))
  refine walk_seqA 9 [.call (N n2), .call (N n3), .call (.tuple #[N n4, .int .i64 0]), .quiet (.tuple #[N n4, .int .i64 0]), .quiet (N n4), .quiet (.int .i64 0), .made zero6 24, .laid 6 zero6 (cells6 n4), .quiet (.int .i64 0)] (sB H2) ?ho3 ?he3 (hL := ?hL3)
  case hL3 => exact ⟨⟨_, rfl⟩, trivial⟩
  case ho3 => exact ak (fun γ => ⟨rfl, fun w' h => ⟨23, #[.int .u64 65520], exec_call rfl call23 rfl (mpn rfl), C1.out w'⟩⟩) (ak (fun γ => ⟨rfl, fun w' h => ⟨23, #[.int .u64 2], exec_call rfl call23 rfl (mpn rfl), C2.out w'⟩⟩) (ak (fun γ => ⟨rfl, fun w' h => ⟨20, #[.int .i64 1, N n2, N n3], exec_call rfl call20 rfl (mpn rfl), C3.out w'⟩⟩) (ak (fun _ => ⟨rfl, fun _ _ => rfl⟩) (ak (by refine fun γ => ⟨rfl, fun w' h => ?_⟩; clear h; go_simp) (ak (by refine fun γ => ⟨rfl, fun w' h => ?_⟩; clear h; go_simp) (ak (fun γ => ⟨rfl, fun w' => exec_made6 rfl⟩) (ak (fun γ => ⟨rfl, rfl, rfl, fun w' h => exec_laid6 h rfl rfl rfl⟩) (ak (fun _ => ⟨rfl, fun _ _ => rfl⟩) trivial))))))))
  intro γ w3 l hM hl
  have H3 : Hid (Mm w3 [(γ 6, cells6 n4), (γ2_4, cells6 n1), (0, dtab)] ∧ _) := growB H2 hM (Nat.le_refl _) hl [6] rfl (by decide)
  have o3_6 := ownB H2 hM (Nat.le_refl _) hl (i := 6) rfl
  clear hM hl l H2
  generalize γ 6 = γ3_6 at H3 o3_6 ⊢
  clear γ
  refine rest0 rfl (then_normal (wp_seq ?_))
  refine walk_seqA 8 [.call (N n3), .call (.tuple #[N n5, .int .i64 0]), .quiet (.tuple #[N n5, .int .i64 0]), .quiet (N n5), .quiet (.int .i64 0), .made zero6 24, .laid 5 zero6 (cells6 n5), .quiet (.int .i64 0)] (sB H3) ?ho4 ?he4 (hL := ?hL4)
  case hL4 => exact ⟨⟨_, rfl⟩, trivial⟩
  case ho4 => exact ak (fun γ => ⟨rfl, fun w' h => ⟨23, #[.int .u64 2], exec_call rfl call23 rfl (mpn rfl), C2.out w'⟩⟩) (ak (fun γ => ⟨rfl, fun w' h => ⟨22, #[.int .i64 1, N n3], exec_call rfl call22 rfl (mpn rfl), C4.out w' (h.one 2 rfl)⟩⟩) (ak (fun _ => ⟨rfl, fun _ _ => rfl⟩) (ak (by refine fun γ => ⟨rfl, fun w' h => ?_⟩; clear h; go_simp) (ak (by refine fun γ => ⟨rfl, fun w' h => ?_⟩; clear h; go_simp) (ak (fun γ => ⟨rfl, fun w' => exec_made6 rfl⟩) (ak (fun γ => ⟨rfl, rfl, rfl, fun w' h => exec_laid6 h rfl rfl rfl⟩) (ak (fun _ => ⟨rfl, fun _ _ => rfl⟩) trivial)))))))
  intro γ w4 l hM hl
  have H4 : Hid (Mm w4 [(γ 5, cells6 n5), (γ3_6, cells6 n4), (γ2_4, cells6 n1), (0, dtab)] ∧ _) := growB H3 hM (Nat.le_refl _) hl [5] rfl (by decide)
  have o4_5 := ownB H3 hM (Nat.le_refl _) hl (i := 5) rfl
  clear hM hl l H3
  generalize γ 5 = γ4_5 at H4 o4_5 ⊢
  clear γ
  refine rest0 rfl (then_normal (wp_seq ?_))
  refine walk_seqA 7 [.call (.tuple #[.agg ([Value.int .i64 1] ++ (cel [0, 0] ++ [Value.bool false, Value.int .u64 (gx : Int), Value.int .u64 (gy : Int), Value.bool false])).toArray, .int .i64 0]), .quiet (.tuple #[.agg ([Value.int .i64 1] ++ (cel [0, 0] ++ [Value.bool false, Value.int .u64 (gx : Int), Value.int .u64 (gy : Int), Value.bool false])).toArray, .int .i64 0]), .quiet (.agg ([Value.int .i64 1] ++ (cel [0, 0] ++ [Value.bool false, Value.int .u64 (gx : Int), Value.int .u64 (gy : Int), Value.bool false])).toArray), .quiet (.int .i64 0), .made ([Value.int .i64 0] ++ (cel [0, 0] ++ [Value.bool false, Value.int .u64 0, Value.int .u64 0, Value.bool false])) 66, .laid 4 ([Value.int .i64 0] ++ (cel [0, 0] ++ [Value.bool false, Value.int .u64 0, Value.int .u64 0, Value.bool false])) ([Value.int .i64 1] ++ (cel [0, 0] ++ [Value.bool false, Value.int .u64 (gx : Int), Value.int .u64 (gy : Int), Value.bool false])), .quiet (.int .i64 0)] (sB H4) ?ho5 ?he5 (hL := ?hL5)
  case hL5 => exact ⟨⟨_, rfl⟩, trivial⟩
  case ho5 => exact ak (fun γ => ⟨rfl, fun w' h => ⟨48, #[.int .i64 1], exec_call rfl call48 rfl (mpn rfl), C5.out w'⟩⟩) (ak (fun _ => ⟨rfl, fun _ _ => rfl⟩) (ak (by refine fun γ => ⟨rfl, fun w' h => ?_⟩; clear h; go_simp) (ak (by refine fun γ => ⟨rfl, fun w' h => ?_⟩; clear h; go_simp) (ak (fun γ => ⟨rfl, fun w' => ex_made66 rfl⟩) (ak (fun γ => ⟨rfl, rfl, rfl, fun w' h => ex_laidT h rfl rfl Tryd.sizeOf66 rfl rfl rfl⟩) (ak (fun _ => ⟨rfl, fun _ _ => rfl⟩) trivial))))))
  intro γ w5 l hM hl
  have H5 : Hid (Mm w5 [(γ 4, [Value.int .i64 1] ++ (cel [0, 0] ++ [Value.bool false, Value.int .u64 (gx : Int), Value.int .u64 (gy : Int), Value.bool false])), (γ4_5, cells6 n5), (γ3_6, cells6 n4), (γ2_4, cells6 n1), (0, dtab)] ∧ _) := growB H4 hM (Nat.le_refl _) hl [4] rfl (by decide)
  have o5_4 := ownB H4 hM (Nat.le_refl _) hl (i := 4) rfl
  clear hM hl l H4
  generalize γ 4 = γ5_4 at H5 o5_4 ⊢
  clear γ
  refine rest0 rfl (then_normal (wp_seq ?_))
  refine walk_anyB 34 [.quiet (N n1), .call (N n1), .quiet (.bool true), .quiet (.bool true), .quiet (.int .i64 0), .quiet (.bool true), .quiet (.bool true), .quiet (.bool true), .quiet (N n4), .call (N n4), .quiet (.bool true), .quiet (.bool true), .quiet (.bool true), .quiet (.int .i64 0), .quiet (.bool true), .quiet (.bool true), .quiet (.bool true), .quiet (N n5), .call (N n5), .quiet (.bool true), .quiet (.bool true), .quiet (.bool true), .quiet (.int .i64 0), .quiet (.bool true), .quiet (.bool true), .quiet (.bool true), .quiet (.agg ([Value.int .i64 1] ++ (cel [0, 0] ++ [Value.bool false, Value.int .u64 (gx : Int), Value.int .u64 (gy : Int), Value.bool false])).toArray), .call (.bool true), .quiet (.bool true), .quiet (.bool true), .quiet (.int .i64 0), .quiet (.bool true), .quiet (.bool true), .quiet (.bool true)] H5 ?ho6 ?he6 (hL := ?hL6)
  case hL6 => exact trivial
  case ho6 => exact ak (fun γ => ⟨rfl, fun w' h => ex_load6 h 3 rfl rfl rfl rfl⟩) (ak (fun γ => ⟨rfl, fun w' h => ⟨23, #[.int .u64 65521], exec_call rfl call23 rfl (mpn rfl), C6.out w'⟩⟩) (ak (fun γ => ⟨rfl, fun w' _ => exec_eq6 e_n1 rfl rfl rfl⟩) (ak (fun _ => ⟨rfl, fun _ _ => rfl⟩) (ak (fun _ => ⟨rfl, fun _ _ => rfl⟩) (ak (by refine fun γ => ⟨rfl, fun w' h => ?_⟩; clear h; go_simp) (ak (by refine fun γ => ⟨rfl, fun w' h => ?_⟩; clear h; go_simp) (ak (fun _ => ⟨rfl, fun _ _ => rfl⟩) (ak (fun γ => ⟨rfl, fun w' h => ex_load6 h 2 rfl rfl rfl rfl⟩) (ak (fun γ => ⟨rfl, fun w' h => ⟨23, #[.int .u64 1], exec_call rfl call23 rfl (mpn rfl), C7.out w'⟩⟩) (ak (fun γ => ⟨rfl, fun w' _ => exec_eq6 e_n4 rfl rfl rfl⟩) (ak (by refine fun γ => ⟨rfl, fun w' h => ?_⟩; clear h; go_simp) (ak (fun _ => ⟨rfl, fun _ _ => rfl⟩) (ak (fun _ => ⟨rfl, fun _ _ => rfl⟩) (ak (by refine fun γ => ⟨rfl, fun w' h => ?_⟩; clear h; go_simp) (ak (by refine fun γ => ⟨rfl, fun w' h => ?_⟩; clear h; go_simp) (ak (fun _ => ⟨rfl, fun _ _ => rfl⟩) (ak (fun γ => ⟨rfl, fun w' h => ex_load6 h 1 rfl rfl rfl rfl⟩) (ak (fun γ => ⟨rfl, fun w' h => ⟨23, #[.int .u64 32761], exec_call rfl call23 rfl (mpn rfl), C8.out w'⟩⟩) (ak (fun γ => ⟨rfl, fun w' _ => exec_eq6 e_n5 rfl rfl rfl⟩) (ak (by refine fun γ => ⟨rfl, fun w' h => ?_⟩; clear h; go_simp) (ak (fun _ => ⟨rfl, fun _ _ => rfl⟩) (ak (fun _ => ⟨rfl, fun _ _ => rfl⟩) (ak (by refine fun γ => ⟨rfl, fun w' h => ?_⟩; clear h; go_simp) (ak (by refine fun γ => ⟨rfl, fun w' h => ?_⟩; clear h; go_simp) (ak (fun _ => ⟨rfl, fun _ _ => rfl⟩) (ak (fun γ => ⟨rfl, fun w' h => ex_loadT h 0 rfl rfl rfl Tryd.isAgg66 Tryd.sizeOf66 rfl rfl⟩) (ak (fun γ => ⟨rfl, fun w' h => ⟨49, #[.agg ([Value.int .i64 1] ++ (cel [0, 0] ++ [Value.bool false, Value.int .u64 (gx : Int), Value.int .u64 (gy : Int), Value.bool false])).toArray], exec_call rfl call49 rfl (mpn rfl), C9.out w'⟩⟩) (ak (by refine fun γ => ⟨rfl, fun w' h => ?_⟩; clear h; go_simp) (ak (fun _ => ⟨rfl, fun _ _ => rfl⟩) (ak (fun _ => ⟨rfl, fun _ _ => rfl⟩) (ak (by refine fun γ => ⟨rfl, fun w' h => ?_⟩; clear h; go_simp) (ak (by refine fun γ => ⟨rfl, fun w' h => ?_⟩; clear h; go_simp) (ak (fun _ => ⟨rfl, fun _ _ => rfl⟩) trivial)))))))))))))))))))))))))))))))))
  intro _ w6 H6
  clear H5
  refine rest0 rfl (then_normal (wp_ret ?_))
  repeat (first | refine then_ret ?_ | refine block_ret ?_)
  refine bodyPost_ret (v := .bool true) (by simp [results, Tryd.results17, go_sem, *]) rfl ?_
  exact ⟨rfl, H6.out.2⟩
open NT in
theorem prm_cop {r a : Nat} (hp : Prm r) (ha : a < r) (h0 : a ≠ 0) : Nat.gcd r a = 1 := hp.cop (fun d => absurd (Nat.le_of_dvd (by omega) d) (by omega))
theorem eq_refl24 {v : Nat} (h : v < big) (w : World) : (Op.equalIn 10000 24 (N v) (N v)).run Tryd.prog w = .ok true w := by
  rw [run_eqN v v h h, decide_eq_true rfl]
theorem su_great : Su 0 rB := ⟨fun w => order_great rB base_rB w, rB_ok⟩
theorem su_little : Su 1 65521 := ⟨fun w => order_little 1 0 65521 65521 (by decide) (Lt.Order_ok Lt.kd_1) (fun w => of_any 65521 (by decide) w) w, ⟨by decide, by decide, small_big (4 * 65521) (by decide)⟩⟩
theorem su_middle : Su 2 72057594037927889 := ⟨fun w => order_little 2 0 72057594037927889 72057594037927889 (by decide) (Lt.Order_ok Lt.kd_2) (fun w => of_any 72057594037927889 (by decide) w) w, ⟨by decide, by decide, small_big (4 * 72057594037927889) (by decide)⟩⟩
theorem ig1 : Lt.ig 786251 65521 9723 164643 false = true := by decide +kernel
theorem inv2 : invm 65521 2 = 32761 := by
  have h := invm_spec (n := 65521) (a := 2) su_little.ok (by decide)
  exact inv_unique h.1 (by decide) h.2 (by decide)
theorem awake11 (w : World) (hm : Mm w [(0, dtab)]) : Calls Tryd.prog 17 #[] w fun e w' => e = .returned (.bool true) ∧ Below w.heap.size w w' := by
  refine awake11_gen 65521 65520 2 1 32761 9723 164643 (eq_refl24 (small_big _ (by decide))) (eq_refl24 (small_big _ (by decide))) (eq_refl24 (small_big _ (by decide)))
    su_little.ord (fun w => of_any 65520 (by decide) w) (fun w => of_any 2 (by decide) w) (fun w => sAdd_ok su_little 65520 2 (by decide) (by decide) w) (fun w hm => ?_) (fun w => gen_little 1 9723 164643 false (by decide) (Lt.Gen_ok Lt.kd_1) w)
    (fun w => of_any 65521 (by decide) w) (fun w => of_any 1 (by decide) w) (fun w => of_any 32761 (by decide) w) (fun w => ?_) w hm
  · have h := sInv_ok su_little 2 (by decide) (by decide) w hm
    rw [inv2] at h
    exact h
  · have h := keyCheck_lyes 1 0 0 false 9723 164643 false (by decide) (fun w => run_eqP1 0 0 0 0 false false big_pos big_pos big_pos big_pos w) (Lt.ig 786251 65521 9723 164643 false) (fun w => Lt.In_ok Lt.kd_1 9723 164643 false w) w
    rw [ig1] at h
    exact h
end Rg
end Go.Proofs.YtfnmahjdkmgdkaaDoor
end
