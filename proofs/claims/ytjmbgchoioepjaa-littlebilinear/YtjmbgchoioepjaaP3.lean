/- Texts of the proof, joined. -/
import Derived.Test.YtjmbgchoioepjaaP2
section
namespace Go.Proofs.Ytjmbgchoioepjaa
open Go.RowKit
namespace Rg
theorem small_mul {p k a : Nat} (hp : Pr p) (hk : k ≤ 8) (ha : a < p) : k * a < 18446744073709551616 :=
  Nat.lt_of_le_of_lt (Nat.mul_le_mul hk (Nat.le_of_lt ha)) (by have := hp.hi; omega)
/-- Three numbers: a point (x / z z, y / z z z), of z 0 the zero. -/
abbrev T3 : Type := Nat × Nat × Nat
structure Lt3 (p : Nat) (t : T3) : Prop where
  x : t.1 < p
  y : t.2.1 < p
  z : t.2.2 < p
/-- A triple's cells. -/
abbrev tc (t : T3) : List Value := tr t.1 t.2.1 t.2.2
/-- The slope of a point and itself. -/
def tR (p x z : Nat) : Nat := pl p (tm p 3 (tm p x x)) (tm p (tm p z z) (tm p z z))
def tM (p x y : Nat) : Nat := tm p 4 (tm p x (tm p y y))
def tX (p x y z : Nat) : Nat := mi p (tm p (tR p x z) (tR p x z)) (pl p (tM p x y) (tM p x y))
def tY (p x y z : Nat) : Nat := mi p (tm p (tR p x z) (mi p (tM p x y) (tX p x y z))) (tm p 8 (tm p (tm p y y) (tm p y y)))
def twT (p : Nat) (t : T3) : T3 := (tX p t.1 t.2.1 t.2.2, tY p t.1 t.2.1 t.2.2, tm p 2 (tm p t.2.1 t.2.2))
/-- A point and a triple. -/
def jU (p x z X : Nat) : Nat := mi p (tm p X (tm p z z)) x
def jS (p y z Y : Nat) : Nat := mi p (tm p Y (tm p z (tm p z z))) y
def jC (p u : Nat) : Nat := tm p (tm p u u) u
def jM (p x u : Nat) : Nat := tm p x (tm p u u)
def jX (p x u s : Nat) : Nat := mi p (mi p (tm p s s) (jC p u)) (pl p (jM p x u) (jM p x u))
def jY (p x y u s : Nat) : Nat := mi p (tm p s (mi p (jM p x u) (jX p x u s))) (tm p y (jC p u))
def tO (X Y : Nat) (Z : Bool) : T3 := if Z = true then (0, 0, 0) else (X, Y, 1)
def jnT (p : Nat) (t : T3) (X Y : Nat) (Z : Bool) : T3 :=
  if Z = true then t else if t.2.2 = 0 then (X, Y, 1) else if jU p t.1 t.2.2 X = 0 ∧ jS p t.2.1 t.2.2 Y = 0 then twT p t
  else (jX p t.1 (jU p t.1 t.2.2 X) (jS p t.2.1 t.2.2 Y), jY p t.1 t.2.1 (jU p t.1 t.2.2 X) (jS p t.2.1 t.2.2 Y), tm p t.2.2 (jU p t.1 t.2.2 X))
def jnR (p : Nat) (t : T3) (X Y : Nat) (Z : Bool) : Nat :=
  if Z = true then 0 else if t.2.2 = 0 then 0 else if jU p t.1 t.2.2 X = 0 ∧ jS p t.2.1 t.2.2 Y = 0 then tR p t.1 t.2.2 else jS p t.2.1 t.2.2 Y
section
variable {p : Nat} {t : T3} {X Y : Nat}
theorem jnT_z : jnT p t X Y true = t := if_pos rfl
theorem jnT_0 (h : t.2.2 = 0) : jnT p t X Y false = (X, Y, 1) := by unfold jnT; rw [if_neg Bool.false_ne_true, if_pos h]
theorem jnT_s (h : t.2.2 ≠ 0) (h1 : jU p t.1 t.2.2 X = 0 ∧ jS p t.2.1 t.2.2 Y = 0) : jnT p t X Y false = twT p t := by unfold jnT; rw [if_neg Bool.false_ne_true, if_neg h, if_pos h1]
theorem jnT_g (h : t.2.2 ≠ 0) (h1 : ¬ (jU p t.1 t.2.2 X = 0 ∧ jS p t.2.1 t.2.2 Y = 0)) : jnT p t X Y false = (jX p t.1 (jU p t.1 t.2.2 X) (jS p t.2.1 t.2.2 Y), jY p t.1 t.2.1 (jU p t.1 t.2.2 X) (jS p t.2.1 t.2.2 Y), tm p t.2.2 (jU p t.1 t.2.2 X)) := by unfold jnT; rw [if_neg Bool.false_ne_true, if_neg h, if_neg h1]
theorem jnR_0 (h : t.2.2 = 0) : jnR p t X Y false = 0 := by unfold jnR; rw [if_neg Bool.false_ne_true, if_pos h]
theorem jnR_s (h : t.2.2 ≠ 0) (h1 : jU p t.1 t.2.2 X = 0 ∧ jS p t.2.1 t.2.2 Y = 0) : jnR p t X Y false = tR p t.1 t.2.2 := by unfold jnR; rw [if_neg Bool.false_ne_true, if_neg h, if_pos h1]
theorem jnR_g (h : t.2.2 ≠ 0) (h1 : ¬ (jU p t.1 t.2.2 X = 0 ∧ jS p t.2.1 t.2.2 Y = 0)) : jnR p t X Y false = jS p t.2.1 t.2.2 Y := by unfold jnR; rw [if_neg Bool.false_ne_true, if_neg h, if_neg h1]
end
theorem tw_lt {p : Nat} (hp : Pr p) (t : T3) : Lt3 p (twT p t) := ⟨mi_lt hp, mi_lt hp, tm_lt hp⟩
theorem jn_lt {p : Nat} (hp : Pr p) {t : T3} (ht : Lt3 p t) {X Y : Nat} {Z : Bool} (hX : X < p) (hY : Y < p) : Lt3 p (jnT p t X Y Z) := by
  unfold jnT
  split
  · exact ht
  · split
    · exact ⟨hX, hY, one_lt hp⟩
    · split
      · exact tw_lt hp t
      · exact ⟨mi_lt hp, mi_lt hp, tm_lt hp⟩
/-- A point multiplied. -/
def mtf (p X Y : Nat) (Z : Bool) : Nat → Nat → T3
  | 0, _ => (0, 0, 0)
  | f + 1, n => if n = 0 then (0, 0, 0) else if n % 2 = 1 then jnT p (twT p (mtf p X Y Z f (n / 2))) X Y Z else twT p (mtf p X Y Z f (n / 2))
def mt (p X Y : Nat) (Z : Bool) (n : Nat) : T3 := mtf p X Y Z 64 n
theorem mtf_up (p X Y : Nat) (Z : Bool) : ∀ (f n : Nat), n < 2 ^ f → mtf p X Y Z f n = mtf p X Y Z (f + 1) n
  | 0, n, h => by
    have : n = 0 := by omega
    subst this
    rfl
  | f + 1, n, h => by
    have e := mtf_up p X Y Z f (n / 2) (by rw [Nat.pow_succ] at h; omega)
    rw [mtf, mtf, e]
theorem mt_zero (p X Y : Nat) (Z : Bool) : mt p X Y Z 0 = (0, 0, 0) := rfl
theorem mt_step (p X Y : Nat) (Z : Bool) (n : Nat) (hn : n < 18446744073709551616) (h0 : n ≠ 0) : mt p X Y Z n = if n % 2 = 1 then jnT p (twT p (mt p X Y Z (n / 2))) X Y Z else twT p (mt p X Y Z (n / 2)) := by
  have e := mtf_up p X Y Z 63 (n / 2) (by rw [show 2 ^ 63 = 9223372036854775808 by decide]; omega)
  unfold mt
  rw [mtf, if_neg h0, e]
theorem tw_zero {p : Nat} : (twT p (0, 0, 0)) = (0, 0, 0) := by
  have z : ∀ a, tm p a 0 = 0 := fun a => by unfold tm; rw [Nat.mul_zero, Nat.zero_mod]
  have y : ∀ a, tm p 0 a = 0 := fun a => by unfold tm; rw [Nat.zero_mul, Nat.zero_mod]
  have q : pl p 0 0 = 0 := by unfold pl; rw [Nat.add_zero, Nat.zero_mod]
  have m : mi p 0 0 = 0 := by unfold mi; rw [Nat.zero_add, Nat.sub_zero, Nat.mod_self]
  simp only [twT, tX, tY, tR, tM, z, q, m]
theorem mt_bit {p : Nat} (X Y : Nat) (Z : Bool) (n k : Nat) (hn : n < 18446744073709551616) : mt p X Y Z (n / 2 ^ k) = if n / 2 ^ k % 2 = 1 then jnT p (twT p (mt p X Y Z (n / 2 ^ (k + 1)))) X Y Z else twT p (mt p X Y Z (n / 2 ^ (k + 1))) := by
  have e : n / 2 ^ (k + 1) = n / 2 ^ k / 2 := by rw [Nat.pow_succ, Nat.div_div_eq_div_mul]
  rw [e]
  by_cases h : n / 2 ^ k = 0
  · rw [h, Nat.zero_div, mt_zero, Nat.zero_mod, if_neg (by decide), tw_zero]
  · exact mt_step p X Y Z _ (Nat.lt_of_le_of_lt (Nat.div_le_self _ _) hn) h
theorem mtf_lt {p : Nat} (hp : Pr p) {X Y : Nat} {Z : Bool} (hX : X < p) (hY : Y < p) : ∀ (f n : Nat), Lt3 p (mtf p X Y Z f n)
  | 0, _ => ⟨zero_lt hp, zero_lt hp, zero_lt hp⟩
  | f + 1, n => by
    rw [mtf]
    split
    · exact ⟨zero_lt hp, zero_lt hp, zero_lt hp⟩
    · split
      · exact jn_lt hp (tw_lt hp _) hX hY
      · exact tw_lt hp _
theorem mt_lt {p : Nat} (hp : Pr p) {X Y : Nat} {Z : Bool} (hX : X < p) (hY : Y < p) (n : Nat) : Lt3 p (mt p X Y Z n) := mtf_lt hp hX hY 64 n
/-- The point of a triple. -/
def pX (p : Nat) (t : T3) : Nat := if t.2.2 = 0 then 0 else tm p t.1 (tm p (pw p t.2.2 (p - 2)) (pw p t.2.2 (p - 2)))
def pY (p : Nat) (t : T3) : Nat := if t.2.2 = 0 then 0 else tm p t.2.1 (tm p (tm p (pw p t.2.2 (p - 2)) (pw p t.2.2 (p - 2))) (pw p t.2.2 (p - 2)))
def pZ (t : T3) : Bool := decide (t.2.2 = 0)
/-- Whether it is a point of the curve, of the group. -/
def oc (p X Y : Nat) (Z : Bool) : Bool := if Z = true then decide (X = 0) && decide (Y = 0) else decide (X < p) && (decide (Y < p) && decide (tm p Y Y = cb p X))
def ig (p r X Y : Nat) (Z : Bool) : Bool := oc p X Y Z && decide ((mt p X Y Z r).2.2 = 0)
theorem call45 : ∀ args w, (callFunc 45 args).run Try.prog w = .ok (.enter 45 args) w := by intro args w; go_simp
theorem call70 : ∀ args w, (callFunc 70 args).run Try.prog w = .ok (.enter 70 args) w := by intro args w; go_simp
theorem call72 : ∀ args w, (callFunc 72 args).run Try.prog w = .ok (.enter 72 args) w := by intro args w; go_simp
section
variable {p r c gx gy : Nat}
set_option maxRecDepth 100000 in
theorem kindOf_1  (w : World) :
    Calls Try.prog 42 #[.int .i64 1] w fun e w' => e = .returned (.tuple #[V (kd 786251 65521 12 9723 164643), .int .i64 0]) ∧ Below w.heap.size w w' := by
  have H0 : Hid (_ ∧ _) := ⟨Mm.nil w, Below.refl w.heap.size w⟩
  go_enter Try.func42, Try.ntmps42
  refine wp_seq ?_
  refine walk_seqA 2 [.made (kd 0 0 0 0 0) 72, .quiet (.int .i64 0)] (sB H0) ?ho1 ?he1
  case ho1 => exact ak (fun γ => ⟨rfl, fun w' => ex_made72 rfl⟩) (ak (fun _ => ⟨rfl, fun _ _ => rfl⟩) trivial)
  intro γ w1 l hM hl
  have H1 : Hid (Mm w1 [(γ 0, kd 0 0 0 0 0)] ∧ _) := growB H0 hM (Nat.le_refl _) hl [0] rfl (by decide)
  have o1_0 := ownB H0 hM (Nat.le_refl _) hl (i := 0) rfl
  clear hM hl l
  generalize γ 0 = γ1_0 at H1 o1_0 ⊢
  clear γ
  refine rest0 rfl (then_normal (wp_seq (wp_seq ?_)))
  refine walk_seqB 1 [.quiet (.int .i64 1)] H1 ?ho2 ?he2
  case ho2 => exact ak (fun _ => ⟨rfl, fun _ _ => rfl⟩) trivial
  intro _ w2 H2
  clear H1
  refine rest0 rfl (then_normal (wp_block (wp_seq ?_)))
  refine walk_seqB 2 [.quiet (.bool true), .quiet (.bool true)] H2 ?ho3 ?he3
  case ho3 => exact ak (by refine fun γ => ⟨rfl, fun w' h => ?_⟩; clear h; go_simp) (ak (fun _ => ⟨rfl, fun _ _ => rfl⟩) trivial)
  intro _ w3 H3
  clear H2
  refine rest0 rfl (then_normal (wp_cond_true rfl (wp_seq ?_)))
  refine walk_seqB 2 [.quiet (.agg (pt 9723 164643 false).toArray), .quiet (.agg (kd 786251 65521 12 9723 164643).toArray)] H3 ?ho4 ?he4
  case ho4 => exact ak (fun γ => ⟨rfl, fun w' _ => ex_build25_01 rfl rfl rfl⟩) (ak (fun γ => ⟨rfl, fun w' _ => ex_build72_0123 rfl rfl rfl rfl rfl⟩) trivial)
  intro _ w4 H4
  clear H3
  refine rest_at (l := [2, 3]) rfl ?_
  refine rest_store rfl rfl rfl (ex_storeT (vs := kd 786251 65521 12 9723 164643) H4.out.1 0 rfl rfl rfl rfl Try.sizeOf72 rfl (Nat.le_of_ble_eq_true rfl)) ?_
  have H5 : Hid (Mm (w4.setCells γ1_0 0 (kd 786251 65521 12 9723 164643)) [(γ1_0, kd 786251 65521 12 9723 164643)] ∧ Below w.heap.size w (w4.setCells γ1_0 0 (kd 786251 65521 12 9723 164643))) := ⟨H4.out.1.put 0 (off := 0) (vs := kd 786251 65521 12 9723 164643) rfl (Nat.le_of_ble_eq_true rfl), below_setCells _ o1_0.out _ _ _ H4.out.2⟩
  clear H4
  generalize hgw : World.setCells _ _ _ _ = w5 at H5 ⊢
  clear hgw
  refine rest_set (d := 3) rfl rfl rfl rfl ?_
  simp only [Act.put, sa, sz, ss]
  refine rest_nil (then_normal (wp_ret ?_))
  repeat (first | refine then_ret ?_ | refine block_ret ?_)
  have hf0 := var_T H5.out.1 0 rfl Try.isAgg72 Try.sizeOf72 rfl
  refine bodyPost_ret (v := .tuple #[.agg (kd 786251 65521 12 9723 164643).toArray, .int .i64 0]) (by simp [results, Try.results42, asAddr, Act.eval, hf0]) rfl ?_
  exact ⟨rfl, H5.out.2⟩
set_option maxRecDepth 100000 in
theorem kindOf_2  (w : World) :
    Calls Try.prog 42 #[.int .i64 2] w fun e w' => e = .returned (.tuple #[V (kd 1152921504606846223 72057594037927889 16 613740293506734924 666621259561003659), .int .i64 0]) ∧ Below w.heap.size w w' := by
  have H0 : Hid (_ ∧ _) := ⟨Mm.nil w, Below.refl w.heap.size w⟩
  go_enter Try.func42, Try.ntmps42
  refine wp_seq ?_
  refine walk_seqA 2 [.made (kd 0 0 0 0 0) 72, .quiet (.int .i64 0)] (sB H0) ?ho1 ?he1
  case ho1 => exact ak (fun γ => ⟨rfl, fun w' => ex_made72 rfl⟩) (ak (fun _ => ⟨rfl, fun _ _ => rfl⟩) trivial)
  intro γ w1 l hM hl
  have H1 : Hid (Mm w1 [(γ 0, kd 0 0 0 0 0)] ∧ _) := growB H0 hM (Nat.le_refl _) hl [0] rfl (by decide)
  have o1_0 := ownB H0 hM (Nat.le_refl _) hl (i := 0) rfl
  clear hM hl l
  generalize γ 0 = γ1_0 at H1 o1_0 ⊢
  clear γ
  refine rest0 rfl (then_normal (wp_seq (wp_seq ?_)))
  refine walk_seqB 1 [.quiet (.int .i64 2)] H1 ?ho2 ?he2
  case ho2 => exact ak (fun _ => ⟨rfl, fun _ _ => rfl⟩) trivial
  intro _ w2 H2
  clear H1
  refine rest0 rfl (then_normal (wp_block (wp_seq ?_)))
  refine walk_seqB 2 [.quiet (.bool false), .quiet (.bool false)] H2 ?ho3 ?he3
  case ho3 => exact ak (by refine fun γ => ⟨rfl, fun w' h => ?_⟩; clear h; go_simp) (ak (fun _ => ⟨rfl, fun _ _ => rfl⟩) trivial)
  intro _ w3 H3
  clear H2
  refine rest0 rfl (then_normal (wp_cond_false rfl (wp_seq ?_)))
  refine walk_seqB 2 [.quiet (.bool true), .quiet (.bool true)] H3 ?ho4 ?he4
  case ho4 => exact ak (by refine fun γ => ⟨rfl, fun w' h => ?_⟩; clear h; go_simp) (ak (fun _ => ⟨rfl, fun _ _ => rfl⟩) trivial)
  intro _ w4 H4
  clear H3
  refine rest0 rfl (then_normal (wp_cond_true rfl (wp_seq ?_)))
  refine walk_seqB 2 [.quiet (.agg (pt 613740293506734924 666621259561003659 false).toArray), .quiet (.agg (kd 1152921504606846223 72057594037927889 16 613740293506734924 666621259561003659).toArray)] H4 ?ho5 ?he5
  case ho5 => exact ak (fun γ => ⟨rfl, fun w' _ => ex_build25_01 rfl rfl rfl⟩) (ak (fun γ => ⟨rfl, fun w' _ => ex_build72_0123 rfl rfl rfl rfl rfl⟩) trivial)
  intro _ w5 H5
  clear H4
  refine rest_at (l := [2, 3]) rfl ?_
  refine rest_store rfl rfl rfl (ex_storeT (vs := kd 1152921504606846223 72057594037927889 16 613740293506734924 666621259561003659) H5.out.1 0 rfl rfl rfl rfl Try.sizeOf72 rfl (Nat.le_of_ble_eq_true rfl)) ?_
  have H6 : Hid (Mm (w5.setCells γ1_0 0 (kd 1152921504606846223 72057594037927889 16 613740293506734924 666621259561003659)) [(γ1_0, kd 1152921504606846223 72057594037927889 16 613740293506734924 666621259561003659)] ∧ Below w.heap.size w (w5.setCells γ1_0 0 (kd 1152921504606846223 72057594037927889 16 613740293506734924 666621259561003659))) := ⟨H5.out.1.put 0 (off := 0) (vs := kd 1152921504606846223 72057594037927889 16 613740293506734924 666621259561003659) rfl (Nat.le_of_ble_eq_true rfl), below_setCells _ o1_0.out _ _ _ H5.out.2⟩
  clear H5
  generalize hgw : World.setCells _ _ _ _ = w6 at H6 ⊢
  clear hgw
  refine rest_set (d := 3) rfl rfl rfl rfl ?_
  simp only [Act.put, sa, sz, ss]
  refine rest_nil (then_normal (wp_ret ?_))
  repeat (first | refine then_ret ?_ | refine block_ret ?_)
  have hf0 := var_T H6.out.1 0 rfl Try.isAgg72 Try.sizeOf72 rfl
  refine bodyPost_ret (v := .tuple #[.agg (kd 1152921504606846223 72057594037927889 16 613740293506734924 666621259561003659).toArray, .int .i64 0]) (by simp [results, Try.results42, asAddr, Act.eval, hf0]) rfl ?_
  exact ⟨rfl, H6.out.2⟩
set_option maxRecDepth 100000 in
theorem kindOf_no (s : Int) (h1 : s ≠ 1) (h2 : s ≠ 2) (w : World) :
    Calls Try.prog 42 #[.int .i64 s] w fun e w' => e = .returned (.tuple #[V (kd 0 0 0 0 0), .int .i64 2]) ∧ Below w.heap.size w w' := by
  have H0 : Hid (_ ∧ _) := ⟨Mm.nil w, Below.refl w.heap.size w⟩
  go_enter Try.func42, Try.ntmps42
  refine wp_seq ?_
  refine walk_seqA 2 [.made (kd 0 0 0 0 0) 72, .quiet (.int .i64 0)] (sB H0) ?ho1 ?he1
  case ho1 => exact ak (fun γ => ⟨rfl, fun w' => ex_made72 rfl⟩) (ak (fun _ => ⟨rfl, fun _ _ => rfl⟩) trivial)
  intro γ w1 l hM hl
  have H1 : Hid (Mm w1 [(γ 0, kd 0 0 0 0 0)] ∧ _) := growB H0 hM (Nat.le_refl _) hl [0] rfl (by decide)
  have o1_0 := ownB H0 hM (Nat.le_refl _) hl (i := 0) rfl
  clear hM hl l
  generalize γ 0 = γ1_0 at H1 o1_0 ⊢
  clear γ
  refine rest0 rfl (then_normal (wp_seq (wp_seq ?_)))
  refine walk_seqB 1 [.quiet (.int .i64 s)] H1 ?ho2 ?he2
  case ho2 => exact ak (fun _ => ⟨rfl, fun _ _ => rfl⟩) trivial
  intro _ w2 H2
  clear H1
  refine rest0 rfl (then_normal (wp_block (wp_seq ?_)))
  refine walk_seqB 2 [.quiet (.bool false), .quiet (.bool false)] H2 ?ho3 ?he3
  case ho3 => exact ak (by refine fun γ => ⟨rfl, fun w' h => ?_⟩; clear h; go_simp) (ak (fun _ => ⟨rfl, fun _ _ => rfl⟩) trivial)
  intro _ w3 H3
  clear H2
  refine rest0 rfl (then_normal (wp_cond_false rfl (wp_seq ?_)))
  refine walk_seqB 2 [.quiet (.bool false), .quiet (.bool false)] H3 ?ho4 ?he4
  case ho4 => exact ak (by refine fun γ => ⟨rfl, fun w' h => ?_⟩; clear h; go_simp) (ak (fun _ => ⟨rfl, fun _ _ => rfl⟩) trivial)
  intro _ w4 H4
  clear H3
  refine rest0 rfl (then_normal (wp_cond_false rfl ?_))
  refine wp_skip (block_normal ?_)
  refine then_normal (wp_seq ?_)
  refine walk_seqB 1 [.quiet (.agg (kd 0 0 0 0 0).toArray)] H4 ?ho5 ?he5
  case ho5 => exact ak (fun γ => ⟨rfl, fun w' _ => ex_build72_ rfl⟩) trivial
  intro _ w5 H5
  clear H4
  refine rest_at (l := [1, 2]) rfl ?_
  refine rest_store rfl rfl rfl (ex_storeT (vs := kd 0 0 0 0 0) H5.out.1 0 rfl rfl rfl rfl Try.sizeOf72 rfl (Nat.le_of_ble_eq_true rfl)) ?_
  have H6 : Hid (Mm (w5.setCells γ1_0 0 (kd 0 0 0 0 0)) [(γ1_0, kd 0 0 0 0 0)] ∧ Below w.heap.size w (w5.setCells γ1_0 0 (kd 0 0 0 0 0))) := ⟨H5.out.1.put 0 (off := 0) (vs := kd 0 0 0 0 0) rfl (Nat.le_of_ble_eq_true rfl), below_setCells _ o1_0.out _ _ _ H5.out.2⟩
  clear H5
  generalize hgw : World.setCells _ _ _ _ = w6 at H6 ⊢
  clear hgw
  refine rest_set (d := 3) rfl rfl rfl rfl ?_
  simp only [Act.put, sa, sz, ss]
  refine rest_nil (then_normal (wp_ret ?_))
  repeat (first | refine then_ret ?_ | refine block_ret ?_)
  have hf0 := var_T H6.out.1 0 rfl Try.isAgg72 Try.sizeOf72 rfl
  refine bodyPost_ret (v := .tuple #[.agg (kd 0 0 0 0 0).toArray, .int .i64 2]) (by simp [results, Try.results42, asAddr, Act.eval, hf0]) rfl ?_
  exact ⟨rfl, H6.out.2⟩
set_option maxRecDepth 100000 in
theorem on_zero (X Y : Nat) (w : World) :
    Calls Try.prog 50 #[.agg (kd p r c gx gy).toArray, .agg (pt X Y true).toArray] w fun e w' => e = .returned (.bool (decide (X = 0) && (decide (Y = 0) && (true == true)))) ∧ Below w.heap.size w w' := by
  have H0 : Hid (_ ∧ _) := ⟨Mm.nil w, Below.refl w.heap.size w⟩
  go_enter Try.func50, Try.ntmps50
  refine wp_seq ?_
  refine walk_seqA 3 [.made (kd p r c gx gy) 72, .made (pt X Y true) 25, .quiet (.bool false)] (sB H0) ?ho1 ?he1
  case ho1 => exact ak (fun γ => ⟨rfl, fun w' => ex_boxT rfl rfl⟩) (ak (fun γ => ⟨rfl, fun w' => ex_boxT rfl rfl⟩) (ak (fun _ => ⟨rfl, fun _ _ => rfl⟩) trivial))
  intro γ w1 l hM hl
  have H1 : Hid (Mm w1 [(γ 0, kd p r c gx gy), (γ 1, pt X Y true)] ∧ _) := growB H0 hM (Nat.le_refl _) hl [0, 1] rfl (by decide)
  have o1_0 := ownB H0 hM (Nat.le_refl _) hl (i := 0) rfl
  have o1_1 := ownB H0 hM (Nat.le_refl _) hl (i := 1) rfl
  clear hM hl l
  generalize γ 0 = γ1_0 at H1 o1_0 ⊢
  generalize γ 1 = γ1_1 at H1 o1_1 ⊢
  clear γ
  refine rest0 rfl (then_normal (wp_seq (wp_seq ?_)))
  refine walk_seqB 2 [.quiet (PT γ1_1 2), .quiet (.bool true)] H1 ?ho2 ?he2
  case ho2 => exact ak (by refine fun γ => ⟨rfl, fun w' h => ?_⟩; clear h; go_simp) (ak (fun γ => ⟨rfl, fun w' h => ex_loadC h 1 rfl rfl rfl Try.isAgg4 rfl⟩) trivial)
  intro _ w2 H2
  clear H1
  refine rest0 rfl (then_normal (wp_cond_true rfl (wp_seq ?_)))
  refine walk_seqB 4 [.quiet (.agg (pt X Y true).toArray), .quiet (.agg (pt 0 0 true).toArray), .quiet (.bool (decide (X = 0) && (decide (Y = 0) && (true == true)))), .quiet (.bool (decide (X = 0) && (decide (Y = 0) && (true == true))))] H2 ?ho3 ?he3
  case ho3 => exact ak (fun γ => ⟨rfl, fun w' h => ex_loadT h 1 rfl rfl rfl Try.isAgg25 Try.sizeOf25 rfl rfl⟩) (ak (fun γ => ⟨rfl, fun w' _ => ex_build25_2 rfl rfl⟩) (ak (fun γ => ⟨rfl, fun w' _ => exec_eqT25 (fun w => run_eqP X Y 0 0 true true w) rfl rfl rfl⟩) (ak (fun _ => ⟨rfl, fun _ _ => rfl⟩) trivial)))
  intro _ w3 H3
  clear H2
  refine rest0 rfl (then_normal (wp_ret ?_))
  repeat (first | refine then_ret ?_ | refine block_ret ?_)
  refine bodyPost_ret (v := .bool (decide (X = 0) && (decide (Y = 0) && (true == true)))) (by simp [results, Try.results50, go_sem, *]) rfl ?_
  exact ⟨rfl, H3.out.2⟩
set_option maxRecDepth 100000 in
theorem on_x (X Y : Nat) (hX : ¬ X < p) (w : World) :
    Calls Try.prog 50 #[.agg (kd p r c gx gy).toArray, .agg (pt X Y false).toArray] w fun e w' => e = .returned (.bool false) ∧ Below w.heap.size w w' := by
  have H0 : Hid (_ ∧ _) := ⟨Mm.nil w, Below.refl w.heap.size w⟩
  go_enter Try.func50, Try.ntmps50
  refine wp_seq ?_
  refine walk_seqA 3 [.made (kd p r c gx gy) 72, .made (pt X Y false) 25, .quiet (.bool false)] (sB H0) ?ho1 ?he1
  case ho1 => exact ak (fun γ => ⟨rfl, fun w' => ex_boxT rfl rfl⟩) (ak (fun γ => ⟨rfl, fun w' => ex_boxT rfl rfl⟩) (ak (fun _ => ⟨rfl, fun _ _ => rfl⟩) trivial))
  intro γ w1 l hM hl
  have H1 : Hid (Mm w1 [(γ 0, kd p r c gx gy), (γ 1, pt X Y false)] ∧ _) := growB H0 hM (Nat.le_refl _) hl [0, 1] rfl (by decide)
  have o1_0 := ownB H0 hM (Nat.le_refl _) hl (i := 0) rfl
  have o1_1 := ownB H0 hM (Nat.le_refl _) hl (i := 1) rfl
  clear hM hl l
  generalize γ 0 = γ1_0 at H1 o1_0 ⊢
  generalize γ 1 = γ1_1 at H1 o1_1 ⊢
  clear γ
  refine rest0 rfl (then_normal (wp_seq (wp_seq ?_)))
  refine walk_seqB 2 [.quiet (PT γ1_1 2), .quiet (.bool false)] H1 ?ho2 ?he2
  case ho2 => exact ak (by refine fun γ => ⟨rfl, fun w' h => ?_⟩; clear h; go_simp) (ak (fun γ => ⟨rfl, fun w' h => ex_loadC h 1 rfl rfl rfl Try.isAgg4 rfl⟩) trivial)
  intro _ w2 H2
  clear H1
  refine rest0 rfl (then_normal (wp_cond_false rfl ?_))
  refine wp_skip (then_normal (wp_seq ?_))
  refine walk_anyB 26 [.quiet (PT γ1_1 0), .quiet (U X), .quiet (PT γ1_0 0), .quiet (U p), .quiet (.bool false), .quiet (.bool false), .gone, .gone, .gone, .gone, .gone, .quiet (.bool false), .quiet (.bool false), .gone, .gone, .gone, .gone, .gone, .gone, .gone, .gone, .gone, .gone, .gone, .quiet (.bool false), .quiet (.bool false)] H2 ?ho3 ?he3 (hL := ?hL3)
  case hL3 => exact trivial
  case ho3 => exact ak (by refine fun γ => ⟨rfl, fun w' h => ?_⟩; clear h; go_simp) (ak (fun γ => ⟨rfl, fun w' h => ex_loadC h 1 rfl rfl rfl Try.isAgg23 rfl⟩) (ak (by refine fun γ => ⟨rfl, fun w' h => ?_⟩; clear h; go_simp) (ak (fun γ => ⟨rfl, fun w' h => ex_loadC h 0 rfl rfl rfl Try.isAgg23 rfl⟩) (ak (fun γ => ⟨rfl, fun w' _ => ex_ltU rfl rfl rfl (decide_eq_false (hX))⟩) (ak (fun _ => ⟨rfl, fun _ _ => rfl⟩) (ak (fun γ => rfl) (ak (fun γ => rfl) (ak (fun γ => rfl) (ak (fun γ => rfl) (ak (fun γ => rfl) (ak (by refine fun γ => ⟨rfl, fun w' h => ?_⟩; clear h; go_simp) (ak (fun _ => ⟨rfl, fun _ _ => rfl⟩) (ak (fun γ => rfl) (ak (fun γ => rfl) (ak (fun γ => rfl) (ak (fun γ => rfl) (ak (fun γ => rfl) (ak (fun γ => rfl) (ak (fun γ => rfl) (ak (fun γ => rfl) (ak (fun γ => rfl) (ak (fun γ => rfl) (ak (fun γ => rfl) (ak (by refine fun γ => ⟨rfl, fun w' h => ?_⟩; clear h; go_simp) (ak (fun _ => ⟨rfl, fun _ _ => rfl⟩) trivial)))))))))))))))))))))))))
  intro _ w3 H3
  clear H2
  refine rest0 rfl (then_normal (wp_ret ?_))
  repeat (first | refine then_ret ?_ | refine block_ret ?_)
  refine bodyPost_ret (v := .bool false) (by simp [results, Try.results50, go_sem, *]) rfl ?_
  exact ⟨rfl, H3.out.2⟩
set_option maxRecDepth 100000 in
theorem on_y (X Y : Nat) (hX : X < p) (hY : ¬ Y < p) (w : World) :
    Calls Try.prog 50 #[.agg (kd p r c gx gy).toArray, .agg (pt X Y false).toArray] w fun e w' => e = .returned (.bool false) ∧ Below w.heap.size w w' := by
  have H0 : Hid (_ ∧ _) := ⟨Mm.nil w, Below.refl w.heap.size w⟩
  go_enter Try.func50, Try.ntmps50
  refine wp_seq ?_
  refine walk_seqA 3 [.made (kd p r c gx gy) 72, .made (pt X Y false) 25, .quiet (.bool false)] (sB H0) ?ho1 ?he1
  case ho1 => exact ak (fun γ => ⟨rfl, fun w' => ex_boxT rfl rfl⟩) (ak (fun γ => ⟨rfl, fun w' => ex_boxT rfl rfl⟩) (ak (fun _ => ⟨rfl, fun _ _ => rfl⟩) trivial))
  intro γ w1 l hM hl
  have H1 : Hid (Mm w1 [(γ 0, kd p r c gx gy), (γ 1, pt X Y false)] ∧ _) := growB H0 hM (Nat.le_refl _) hl [0, 1] rfl (by decide)
  have o1_0 := ownB H0 hM (Nat.le_refl _) hl (i := 0) rfl
  have o1_1 := ownB H0 hM (Nat.le_refl _) hl (i := 1) rfl
  clear hM hl l
  generalize γ 0 = γ1_0 at H1 o1_0 ⊢
  generalize γ 1 = γ1_1 at H1 o1_1 ⊢
  clear γ
  refine rest0 rfl (then_normal (wp_seq (wp_seq ?_)))
  refine walk_seqB 2 [.quiet (PT γ1_1 2), .quiet (.bool false)] H1 ?ho2 ?he2
  case ho2 => exact ak (by refine fun γ => ⟨rfl, fun w' h => ?_⟩; clear h; go_simp) (ak (fun γ => ⟨rfl, fun w' h => ex_loadC h 1 rfl rfl rfl Try.isAgg4 rfl⟩) trivial)
  intro _ w2 H2
  clear H1
  refine rest0 rfl (then_normal (wp_cond_false rfl ?_))
  refine wp_skip (then_normal (wp_seq ?_))
  refine walk_anyB 26 [.quiet (PT γ1_1 0), .quiet (U X), .quiet (PT γ1_0 0), .quiet (U p), .quiet (.bool true), .quiet (.bool true), .quiet (PT γ1_1 1), .quiet (U Y), .quiet (PT γ1_0 0), .quiet (U p), .quiet (.bool false), .quiet (.bool false), .quiet (.bool false), .gone, .gone, .gone, .gone, .gone, .gone, .gone, .gone, .gone, .gone, .gone, .quiet (.bool false), .quiet (.bool false)] H2 ?ho3 ?he3 (hL := ?hL3)
  case hL3 => exact trivial
  case ho3 => exact ak (by refine fun γ => ⟨rfl, fun w' h => ?_⟩; clear h; go_simp) (ak (fun γ => ⟨rfl, fun w' h => ex_loadC h 1 rfl rfl rfl Try.isAgg23 rfl⟩) (ak (by refine fun γ => ⟨rfl, fun w' h => ?_⟩; clear h; go_simp) (ak (fun γ => ⟨rfl, fun w' h => ex_loadC h 0 rfl rfl rfl Try.isAgg23 rfl⟩) (ak (fun γ => ⟨rfl, fun w' _ => ex_ltU rfl rfl rfl (decide_eq_true (hX))⟩) (ak (fun _ => ⟨rfl, fun _ _ => rfl⟩) (ak (by refine fun γ => ⟨rfl, fun w' h => ?_⟩; clear h; go_simp) (ak (fun γ => ⟨rfl, fun w' h => ex_loadC h 1 rfl rfl rfl Try.isAgg23 rfl⟩) (ak (by refine fun γ => ⟨rfl, fun w' h => ?_⟩; clear h; go_simp) (ak (fun γ => ⟨rfl, fun w' h => ex_loadC h 0 rfl rfl rfl Try.isAgg23 rfl⟩) (ak (fun γ => ⟨rfl, fun w' _ => ex_ltU rfl rfl rfl (decide_eq_false (hY))⟩) (ak (by refine fun γ => ⟨rfl, fun w' h => ?_⟩; clear h; go_simp) (ak (fun _ => ⟨rfl, fun _ _ => rfl⟩) (ak (fun γ => rfl) (ak (fun γ => rfl) (ak (fun γ => rfl) (ak (fun γ => rfl) (ak (fun γ => rfl) (ak (fun γ => rfl) (ak (fun γ => rfl) (ak (fun γ => rfl) (ak (fun γ => rfl) (ak (fun γ => rfl) (ak (fun γ => rfl) (ak (by refine fun γ => ⟨rfl, fun w' h => ?_⟩; clear h; go_simp) (ak (fun _ => ⟨rfl, fun _ _ => rfl⟩) trivial)))))))))))))))))))))))))
  intro _ w3 H3
  clear H2
  refine rest0 rfl (then_normal (wp_ret ?_))
  repeat (first | refine then_ret ?_ | refine block_ret ?_)
  refine bodyPost_ret (v := .bool false) (by simp [results, Try.results50, go_sem, *]) rfl ?_
  exact ⟨rfl, H3.out.2⟩
set_option maxRecDepth 100000 in
theorem on_in (hp : Pr p) (X Y : Nat) (hX : X < p) (hY : Y < p) (w : World) :
    Calls Try.prog 50 #[.agg (kd p r c gx gy).toArray, .agg (pt X Y false).toArray] w fun e w' => e = .returned (.bool (decide (tm p Y Y = cb p X))) ∧ Below w.heap.size w w' := by
  have H0 : Hid (_ ∧ _) := ⟨Mm.nil w, Below.refl w.heap.size w⟩
  go_enter Try.func50, Try.ntmps50
  refine wp_seq ?_
  refine walk_seqA 3 [.made (kd p r c gx gy) 72, .made (pt X Y false) 25, .quiet (.bool false)] (sB H0) ?ho1 ?he1
  case ho1 => exact ak (fun γ => ⟨rfl, fun w' => ex_boxT rfl rfl⟩) (ak (fun γ => ⟨rfl, fun w' => ex_boxT rfl rfl⟩) (ak (fun _ => ⟨rfl, fun _ _ => rfl⟩) trivial))
  intro γ w1 l hM hl
  have H1 : Hid (Mm w1 [(γ 0, kd p r c gx gy), (γ 1, pt X Y false)] ∧ _) := growB H0 hM (Nat.le_refl _) hl [0, 1] rfl (by decide)
  have o1_0 := ownB H0 hM (Nat.le_refl _) hl (i := 0) rfl
  have o1_1 := ownB H0 hM (Nat.le_refl _) hl (i := 1) rfl
  clear hM hl l
  generalize γ 0 = γ1_0 at H1 o1_0 ⊢
  generalize γ 1 = γ1_1 at H1 o1_1 ⊢
  clear γ
  refine rest0 rfl (then_normal (wp_seq (wp_seq ?_)))
  refine walk_seqB 2 [.quiet (PT γ1_1 2), .quiet (.bool false)] H1 ?ho2 ?he2
  case ho2 => exact ak (by refine fun γ => ⟨rfl, fun w' h => ?_⟩; clear h; go_simp) (ak (fun γ => ⟨rfl, fun w' h => ex_loadC h 1 rfl rfl rfl Try.isAgg4 rfl⟩) trivial)
  intro _ w2 H2
  clear H1
  refine rest0 rfl (then_normal (wp_cond_false rfl ?_))
  refine wp_skip (then_normal (wp_seq ?_))
  refine walk_anyB 26 [.quiet (PT γ1_1 0), .quiet (U X), .quiet (PT γ1_0 0), .quiet (U p), .quiet (.bool true), .quiet (.bool true), .quiet (PT γ1_1 1), .quiet (U Y), .quiet (PT γ1_0 0), .quiet (U p), .quiet (.bool true), .quiet (.bool true), .quiet (.bool true), .quiet (.agg (kd p r c gx gy).toArray), .quiet (PT γ1_1 1), .quiet (U Y), .quiet (PT γ1_1 1), .quiet (U Y), .call (U (tm p Y Y)), .quiet (.agg (kd p r c gx gy).toArray), .quiet (PT γ1_1 0), .quiet (U X), .call (U (cb p X)), .quiet (.bool (decide (tm p Y Y = cb p X))), .quiet (.bool (decide (tm p Y Y = cb p X))), .quiet (.bool (decide (tm p Y Y = cb p X)))] H2 ?ho3 ?he3 (hL := ?hL3)
  case hL3 => exact trivial
  case ho3 => exact ak (by refine fun γ => ⟨rfl, fun w' h => ?_⟩; clear h; go_simp) (ak (fun γ => ⟨rfl, fun w' h => ex_loadC h 1 rfl rfl rfl Try.isAgg23 rfl⟩) (ak (by refine fun γ => ⟨rfl, fun w' h => ?_⟩; clear h; go_simp) (ak (fun γ => ⟨rfl, fun w' h => ex_loadC h 0 rfl rfl rfl Try.isAgg23 rfl⟩) (ak (fun γ => ⟨rfl, fun w' _ => ex_ltU rfl rfl rfl (decide_eq_true (hX))⟩) (ak (fun _ => ⟨rfl, fun _ _ => rfl⟩) (ak (by refine fun γ => ⟨rfl, fun w' h => ?_⟩; clear h; go_simp) (ak (fun γ => ⟨rfl, fun w' h => ex_loadC h 1 rfl rfl rfl Try.isAgg23 rfl⟩) (ak (by refine fun γ => ⟨rfl, fun w' h => ?_⟩; clear h; go_simp) (ak (fun γ => ⟨rfl, fun w' h => ex_loadC h 0 rfl rfl rfl Try.isAgg23 rfl⟩) (ak (fun γ => ⟨rfl, fun w' _ => ex_ltU rfl rfl rfl (decide_eq_true (hY))⟩) (ak (by refine fun γ => ⟨rfl, fun w' h => ?_⟩; clear h; go_simp) (ak (fun _ => ⟨rfl, fun _ _ => rfl⟩) (ak (fun γ => ⟨rfl, fun w' h => ex_loadT h 0 rfl rfl rfl Try.isAgg72 Try.sizeOf72 rfl rfl⟩) (ak (by refine fun γ => ⟨rfl, fun w' h => ?_⟩; clear h; go_simp) (ak (fun γ => ⟨rfl, fun w' h => ex_loadC h 1 rfl rfl rfl Try.isAgg23 rfl⟩) (ak (by refine fun γ => ⟨rfl, fun w' h => ?_⟩; clear h; go_simp) (ak (fun γ => ⟨rfl, fun w' h => ex_loadC h 1 rfl rfl rfl Try.isAgg23 rfl⟩) (ak (fun γ => ⟨rfl, fun w' h => ⟨69, #[.agg (kd p r c gx gy).toArray, U Y, U Y], exec_call rfl call69 rfl (mpn rfl), times_any hp Y Y hY hY w'⟩⟩) (ak (fun γ => ⟨rfl, fun w' h => ex_loadT h 0 rfl rfl rfl Try.isAgg72 Try.sizeOf72 rfl rfl⟩) (ak (by refine fun γ => ⟨rfl, fun w' h => ?_⟩; clear h; go_simp) (ak (fun γ => ⟨rfl, fun w' h => ex_loadC h 1 rfl rfl rfl Try.isAgg23 rfl⟩) (ak (fun γ => ⟨rfl, fun w' h => ⟨74, #[.agg (kd p r c gx gy).toArray, U X], exec_call rfl call74 rfl (mpn rfl), cube_any hp X hX w'⟩⟩) (ak (fun γ => ⟨rfl, fun w' _ => ex_eqU rfl rfl rfl rfl⟩) (ak (by refine fun γ => ⟨rfl, fun w' h => ?_⟩; clear h; go_simp) (ak (fun _ => ⟨rfl, fun _ _ => rfl⟩) trivial)))))))))))))))))))))))))
  intro _ w3 H3
  clear H2
  refine rest0 rfl (then_normal (wp_ret ?_))
  repeat (first | refine then_ret ?_ | refine block_ret ?_)
  refine bodyPost_ret (v := .bool (decide (tm p Y Y = cb p X))) (by simp [results, Try.results50, go_sem, *]) rfl ?_
  exact ⟨rfl, H3.out.2⟩
theorem onCurve_any (hp : Pr p) (X Y : Nat) (Z : Bool) (w : World) : Calls Try.prog 50 #[.agg (kd p r c gx gy).toArray, .agg (pt X Y Z).toArray] w fun e w' => e = .returned (.bool (oc p X Y Z)) ∧ Below w.heap.size w w' := by
  unfold oc
  cases Z
  · rw [if_neg (by decide)]
    by_cases hX : X < p
    · by_cases hY : Y < p
      · rw [decide_eq_true hX, decide_eq_true hY, Bool.true_and, Bool.true_and]; exact on_in hp X Y hX hY w
      · rw [decide_eq_false hY, Bool.false_and, Bool.and_false]; exact on_y X Y hX hY w
    · rw [decide_eq_false hX, Bool.false_and]; exact on_x X Y hX w
  · rw [if_pos rfl]
    have h := on_zero (p := p) (r := r) (c := c) (gx := gx) (gy := gy) X Y w
    rw [show (true == true) = true from rfl, Bool.and_true] at h
    exact h
set_option maxRecDepth 100000 in
theorem tripleOf_t (X Y : Nat) (w : World) :
    Calls Try.prog 45 #[.agg (pt X Y true).toArray] w fun e w' => e = .returned (V (tr 0 0 0)) ∧ Below w.heap.size w w' := by
  have H0 : Hid (_ ∧ _) := ⟨Mm.nil w, Below.refl w.heap.size w⟩
  go_enter Try.func45, Try.ntmps45
  refine wp_seq ?_
  refine walk_seqA 2 [.made (pt X Y true) 25, .made (tr 0 0 0) 77] (sB H0) ?ho1 ?he1
  case ho1 => exact ak (fun γ => ⟨rfl, fun w' => ex_boxT rfl rfl⟩) (ak (fun γ => ⟨rfl, fun w' => ex_made77 rfl⟩) trivial)
  intro γ w1 l hM hl
  have H1 : Hid (Mm w1 [(γ 0, pt X Y true), (γ 1, tr 0 0 0)] ∧ _) := growB H0 hM (Nat.le_refl _) hl [0, 1] rfl (by decide)
  have o1_0 := ownB H0 hM (Nat.le_refl _) hl (i := 0) rfl
  have o1_1 := ownB H0 hM (Nat.le_refl _) hl (i := 1) rfl
  clear hM hl l
  generalize γ 0 = γ1_0 at H1 o1_0 ⊢
  generalize γ 1 = γ1_1 at H1 o1_1 ⊢
  clear γ
  refine rest0 rfl (then_normal (wp_seq (wp_seq ?_)))
  refine walk_seqB 2 [.quiet (PT γ1_0 2), .quiet (.bool true)] H1 ?ho2 ?he2
  case ho2 => exact ak (by refine fun γ => ⟨rfl, fun w' h => ?_⟩; clear h; go_simp) (ak (fun γ => ⟨rfl, fun w' h => ex_loadC h 0 rfl rfl rfl Try.isAgg4 rfl⟩) trivial)
  intro _ w2 H2
  clear H1
  refine rest0 rfl (then_normal (wp_cond_true rfl (wp_seq ?_)))
  refine walk_seqB 1 [.quiet (.agg (tr 0 0 0).toArray)] H2 ?ho3 ?he3
  case ho3 => exact ak (fun γ => ⟨rfl, fun w' _ => ex_build77_ rfl⟩) trivial
  intro _ w3 H3
  clear H2
  refine rest_at (l := [1]) rfl ?_
  refine rest_store rfl rfl rfl (ex_storeT (vs := tr 0 0 0) H3.out.1 1 rfl rfl rfl rfl Try.sizeOf77 rfl (Nat.le_of_ble_eq_true rfl)) ?_
  have H4 : Hid (Mm (w3.setCells γ1_1 0 (tr 0 0 0)) [(γ1_0, pt X Y true), (γ1_1, tr 0 0 0)] ∧ Below w.heap.size w (w3.setCells γ1_1 0 (tr 0 0 0))) := ⟨H3.out.1.put 1 (off := 0) (vs := tr 0 0 0) rfl (Nat.le_of_ble_eq_true rfl), below_setCells _ o1_1.out _ _ _ H3.out.2⟩
  clear H3
  generalize hgw : World.setCells _ _ _ _ = w4 at H4 ⊢
  clear hgw
  refine rest_nil (then_normal (wp_ret ?_))
  repeat (first | refine then_ret ?_ | refine block_ret ?_)
  have hf0 := var_T H4.out.1 1 rfl Try.isAgg77 Try.sizeOf77 rfl
  refine bodyPost_ret (v := .agg (tr 0 0 0).toArray) (by simp [results, Try.results45, asAddr, hf0]) rfl ?_
  exact ⟨rfl, H4.out.2⟩
set_option maxRecDepth 100000 in
theorem tripleOf_f (X Y : Nat) (w : World) :
    Calls Try.prog 45 #[.agg (pt X Y false).toArray] w fun e w' => e = .returned (V (tr X Y 1)) ∧ Below w.heap.size w w' := by
  have H0 : Hid (_ ∧ _) := ⟨Mm.nil w, Below.refl w.heap.size w⟩
  go_enter Try.func45, Try.ntmps45
  refine wp_seq ?_
  refine walk_seqA 2 [.made (pt X Y false) 25, .made (tr 0 0 0) 77] (sB H0) ?ho1 ?he1
  case ho1 => exact ak (fun γ => ⟨rfl, fun w' => ex_boxT rfl rfl⟩) (ak (fun γ => ⟨rfl, fun w' => ex_made77 rfl⟩) trivial)
  intro γ w1 l hM hl
  have H1 : Hid (Mm w1 [(γ 0, pt X Y false), (γ 1, tr 0 0 0)] ∧ _) := growB H0 hM (Nat.le_refl _) hl [0, 1] rfl (by decide)
  have o1_0 := ownB H0 hM (Nat.le_refl _) hl (i := 0) rfl
  have o1_1 := ownB H0 hM (Nat.le_refl _) hl (i := 1) rfl
  clear hM hl l
  generalize γ 0 = γ1_0 at H1 o1_0 ⊢
  generalize γ 1 = γ1_1 at H1 o1_1 ⊢
  clear γ
  refine rest0 rfl (then_normal (wp_seq (wp_seq ?_)))
  refine walk_seqB 2 [.quiet (PT γ1_0 2), .quiet (.bool false)] H1 ?ho2 ?he2
  case ho2 => exact ak (by refine fun γ => ⟨rfl, fun w' h => ?_⟩; clear h; go_simp) (ak (fun γ => ⟨rfl, fun w' h => ex_loadC h 0 rfl rfl rfl Try.isAgg4 rfl⟩) trivial)
  intro _ w2 H2
  clear H1
  refine rest0 rfl (then_normal (wp_cond_false rfl ?_))
  refine wp_skip (then_normal (wp_seq ?_))
  refine walk_seqB 5 [.quiet (PT γ1_0 0), .quiet (U X), .quiet (PT γ1_0 1), .quiet (U Y), .quiet (.agg (tr X Y 1).toArray)] H2 ?ho3 ?he3
  case ho3 => exact ak (by refine fun γ => ⟨rfl, fun w' h => ?_⟩; clear h; go_simp) (ak (fun γ => ⟨rfl, fun w' h => ex_loadC h 0 rfl rfl rfl Try.isAgg23 rfl⟩) (ak (by refine fun γ => ⟨rfl, fun w' h => ?_⟩; clear h; go_simp) (ak (fun γ => ⟨rfl, fun w' h => ex_loadC h 0 rfl rfl rfl Try.isAgg23 rfl⟩) (ak (fun γ => ⟨rfl, fun w' _ => ex_build77_012 rfl rfl rfl rfl⟩) trivial))))
  intro _ w3 H3
  clear H2
  refine rest_at (l := [5]) rfl ?_
  refine rest_store rfl rfl rfl (ex_storeT (vs := tr X Y 1) H3.out.1 1 rfl rfl rfl rfl Try.sizeOf77 rfl (Nat.le_of_ble_eq_true rfl)) ?_
  have H4 : Hid (Mm (w3.setCells γ1_1 0 (tr X Y 1)) [(γ1_0, pt X Y false), (γ1_1, tr X Y 1)] ∧ Below w.heap.size w (w3.setCells γ1_1 0 (tr X Y 1))) := ⟨H3.out.1.put 1 (off := 0) (vs := tr X Y 1) rfl (Nat.le_of_ble_eq_true rfl), below_setCells _ o1_1.out _ _ _ H3.out.2⟩
  clear H3
  generalize hgw : World.setCells _ _ _ _ = w4 at H4 ⊢
  clear hgw
  refine rest_nil (then_normal (wp_ret ?_))
  repeat (first | refine then_ret ?_ | refine block_ret ?_)
  have hf0 := var_T H4.out.1 1 rfl Try.isAgg77 Try.sizeOf77 rfl
  refine bodyPost_ret (v := .agg (tr X Y 1).toArray) (by simp [results, Try.results45, asAddr, hf0]) rfl ?_
  exact ⟨rfl, H4.out.2⟩
theorem tripleOf_any (X Y : Nat) (Z : Bool) (w : World) : Calls Try.prog 45 #[.agg (pt X Y Z).toArray] w fun e w' => e = .returned (V (tc (tO X Y Z))) ∧ Below w.heap.size w w' := by
  cases Z
  · exact tripleOf_f X Y w
  · exact tripleOf_t X Y w
set_option maxHeartbeats 1000000 in
set_option maxRecDepth 100000 in
theorem twice_raw (hp : Pr p) (x y z : Nat) (hx : x < p) (hy : y < p) (hz : z < p) (w : World) :
    Calls Try.prog 70 #[.agg (kd p r c gx gy).toArray, .agg (tr x y z).toArray] w fun e w' => e = .returned (.tuple #[V (tr (tX p x y z) (tY p x y z) (tm p 2 (tm p y z))), U (tR p x z)]) ∧ Below w.heap.size w w' := by
  have H0 : Hid (_ ∧ _) := ⟨Mm.nil w, Below.refl w.heap.size w⟩
  go_enter Try.func70, Try.ntmps70
  refine wp_seq ?_
  refine walk_seqA 4 [.made (kd p r c gx gy) 72, .made (tr x y z) 77, .made (tr 0 0 0) 77, .quiet (U 0)] (sB H0) ?ho1 ?he1
  case ho1 => exact ak (fun γ => ⟨rfl, fun w' => ex_boxT rfl rfl⟩) (ak (fun γ => ⟨rfl, fun w' => ex_boxT rfl rfl⟩) (ak (fun γ => ⟨rfl, fun w' => ex_made77 rfl⟩) (ak (fun _ => ⟨rfl, fun _ _ => rfl⟩) trivial)))
  intro γ w1 l hM hl
  have H1 : Hid (Mm w1 [(γ 0, kd p r c gx gy), (γ 1, tr x y z), (γ 2, tr 0 0 0)] ∧ _) := growB H0 hM (Nat.le_refl _) hl [0, 1, 2] rfl (by decide)
  have o1_0 := ownB H0 hM (Nat.le_refl _) hl (i := 0) rfl
  have o1_1 := ownB H0 hM (Nat.le_refl _) hl (i := 1) rfl
  have o1_2 := ownB H0 hM (Nat.le_refl _) hl (i := 2) rfl
  clear hM hl l
  generalize γ 0 = γ1_0 at H1 o1_0 ⊢
  generalize γ 1 = γ1_1 at H1 o1_1 ⊢
  generalize γ 2 = γ1_2 at H1 o1_2 ⊢
  clear γ
  refine rest0 rfl (then_normal (wp_seq ?_))
  refine walk_anyB 21 [.quiet (.agg (kd p r c gx gy).toArray), .quiet (PT γ1_1 0), .quiet (U x), .quiet (PT γ1_1 0), .quiet (U x), .call (U (tm p x x)), .quiet (.agg (kd p r c gx gy).toArray), .quiet (PT γ1_1 1), .quiet (U y), .quiet (PT γ1_1 1), .quiet (U y), .call (U (tm p y y)), .quiet (.agg (kd p r c gx gy).toArray), .quiet (PT γ1_1 2), .quiet (U z), .quiet (PT γ1_1 2), .quiet (U z), .call (U (tm p z z)), .quiet (U (tm p x x)), .quiet (U (tm p y y)), .quiet (U (tm p z z))] H1 ?ho2 ?he2
  case ho2 => exact ak (fun γ => ⟨rfl, fun w' h => ex_loadT h 0 rfl rfl rfl Try.isAgg72 Try.sizeOf72 rfl rfl⟩) (ak (by refine fun γ => ⟨rfl, fun w' h => ?_⟩; clear h; go_simp) (ak (fun γ => ⟨rfl, fun w' h => ex_loadC h 1 rfl rfl rfl Try.isAgg23 rfl⟩) (ak (by refine fun γ => ⟨rfl, fun w' h => ?_⟩; clear h; go_simp) (ak (fun γ => ⟨rfl, fun w' h => ex_loadC h 1 rfl rfl rfl Try.isAgg23 rfl⟩) (ak (fun γ => ⟨rfl, fun w' h => ⟨69, #[.agg (kd p r c gx gy).toArray, U x, U x], exec_call rfl call69 rfl (mpn rfl), times_any hp x x hx hx w'⟩⟩) (ak (fun γ => ⟨rfl, fun w' h => ex_loadT h 0 rfl rfl rfl Try.isAgg72 Try.sizeOf72 rfl rfl⟩) (ak (by refine fun γ => ⟨rfl, fun w' h => ?_⟩; clear h; go_simp) (ak (fun γ => ⟨rfl, fun w' h => ex_loadC h 1 rfl rfl rfl Try.isAgg23 rfl⟩) (ak (by refine fun γ => ⟨rfl, fun w' h => ?_⟩; clear h; go_simp) (ak (fun γ => ⟨rfl, fun w' h => ex_loadC h 1 rfl rfl rfl Try.isAgg23 rfl⟩) (ak (fun γ => ⟨rfl, fun w' h => ⟨69, #[.agg (kd p r c gx gy).toArray, U y, U y], exec_call rfl call69 rfl (mpn rfl), times_any hp y y hy hy w'⟩⟩) (ak (fun γ => ⟨rfl, fun w' h => ex_loadT h 0 rfl rfl rfl Try.isAgg72 Try.sizeOf72 rfl rfl⟩) (ak (by refine fun γ => ⟨rfl, fun w' h => ?_⟩; clear h; go_simp) (ak (fun γ => ⟨rfl, fun w' h => ex_loadC h 1 rfl rfl rfl Try.isAgg23 rfl⟩) (ak (by refine fun γ => ⟨rfl, fun w' h => ?_⟩; clear h; go_simp) (ak (fun γ => ⟨rfl, fun w' h => ex_loadC h 1 rfl rfl rfl Try.isAgg23 rfl⟩) (ak (fun γ => ⟨rfl, fun w' h => ⟨69, #[.agg (kd p r c gx gy).toArray, U z, U z], exec_call rfl call69 rfl (mpn rfl), times_any hp z z hz hz w'⟩⟩) (ak (fun _ => ⟨rfl, fun _ _ => rfl⟩) (ak (fun _ => ⟨rfl, fun _ _ => rfl⟩) (ak (fun _ => ⟨rfl, fun _ _ => rfl⟩) trivial))))))))))))))))))))
  intro _ w2 H2
  clear H1
  refine rest0 rfl (then_normal (wp_seq ?_))
  refine walk_anyB 12 [.quiet (.agg (kd p r c gx gy).toArray), .quiet (U (tm p x x)), .quiet (U (3 * (tm p x x))), .quiet (PT γ1_0 0), .quiet (U p), .quiet (U (tm p 3 (tm p x x))), .quiet (.agg (kd p r c gx gy).toArray), .quiet (U (tm p z z)), .quiet (U (tm p z z)), .call (U (tm p (tm p z z) (tm p z z))), .call (U (pl p (tm p 3 (tm p x x)) (tm p (tm p z z) (tm p z z)))), .quiet (U (pl p (tm p 3 (tm p x x)) (tm p (tm p z z) (tm p z z))))] H2 ?ho3 ?he3
  case ho3 => exact ak (fun γ => ⟨rfl, fun w' h => ex_loadT h 0 rfl rfl rfl Try.isAgg72 Try.sizeOf72 rfl rfl⟩) (ak (fun _ => ⟨rfl, fun _ _ => rfl⟩) (ak (fun γ => ⟨rfl, fun w' _ => ex_mulU (small_mul hp (by decide) (tm_lt hp)) rfl rfl rfl⟩) (ak (by refine fun γ => ⟨rfl, fun w' h => ?_⟩; clear h; go_simp) (ak (fun γ => ⟨rfl, fun w' h => ex_loadC h 0 rfl rfl rfl Try.isAgg23 rfl⟩) (ak (fun γ => ⟨rfl, fun w' _ => ex_remU (Nat.ne_of_gt (zero_lt hp)) rfl rfl rfl⟩) (ak (fun γ => ⟨rfl, fun w' h => ex_loadT h 0 rfl rfl rfl Try.isAgg72 Try.sizeOf72 rfl rfl⟩) (ak (fun _ => ⟨rfl, fun _ _ => rfl⟩) (ak (fun _ => ⟨rfl, fun _ _ => rfl⟩) (ak (fun γ => ⟨rfl, fun w' h => ⟨69, #[.agg (kd p r c gx gy).toArray, U (tm p z z), U (tm p z z)], exec_call rfl call69 rfl (mpn rfl), times_any hp (tm p z z) (tm p z z) (tm_lt hp) (tm_lt hp) w'⟩⟩) (ak (fun γ => ⟨rfl, fun w' h => ⟨71, #[.agg (kd p r c gx gy).toArray, U (tm p 3 (tm p x x)), U (tm p (tm p z z) (tm p z z))], exec_call rfl call71 rfl (mpn rfl), plus_any hp (tm p 3 (tm p x x)) (tm p (tm p z z) (tm p z z)) (tm_lt hp) (tm_lt hp) w'⟩⟩) (ak (fun _ => ⟨rfl, fun _ _ => rfl⟩) trivial)))))))))))
  intro _ w3 H3
  clear H2
  refine rest0 rfl (then_normal (wp_seq ?_))
  refine walk_anyB 10 [.quiet (.agg (kd p r c gx gy).toArray), .quiet (PT γ1_1 0), .quiet (U x), .quiet (U (tm p y y)), .call (U (tm p x (tm p y y))), .quiet (U (4 * (tm p x (tm p y y)))), .quiet (PT γ1_0 0), .quiet (U p), .quiet (U (tm p 4 (tm p x (tm p y y)))), .quiet (U (tm p 4 (tm p x (tm p y y))))] H3 ?ho4 ?he4
  case ho4 => exact ak (fun γ => ⟨rfl, fun w' h => ex_loadT h 0 rfl rfl rfl Try.isAgg72 Try.sizeOf72 rfl rfl⟩) (ak (by refine fun γ => ⟨rfl, fun w' h => ?_⟩; clear h; go_simp) (ak (fun γ => ⟨rfl, fun w' h => ex_loadC h 1 rfl rfl rfl Try.isAgg23 rfl⟩) (ak (fun _ => ⟨rfl, fun _ _ => rfl⟩) (ak (fun γ => ⟨rfl, fun w' h => ⟨69, #[.agg (kd p r c gx gy).toArray, U x, U (tm p y y)], exec_call rfl call69 rfl (mpn rfl), times_any hp x (tm p y y) hx (tm_lt hp) w'⟩⟩) (ak (fun γ => ⟨rfl, fun w' _ => ex_mulU (small_mul hp (by decide) (tm_lt hp)) rfl rfl rfl⟩) (ak (by refine fun γ => ⟨rfl, fun w' h => ?_⟩; clear h; go_simp) (ak (fun γ => ⟨rfl, fun w' h => ex_loadC h 0 rfl rfl rfl Try.isAgg23 rfl⟩) (ak (fun γ => ⟨rfl, fun w' _ => ex_remU (Nat.ne_of_gt (zero_lt hp)) rfl rfl rfl⟩) (ak (fun _ => ⟨rfl, fun _ _ => rfl⟩) trivial)))))))))
  intro _ w4 H4
  clear H3
  refine rest0 rfl (then_normal (wp_seq ?_))
  refine walk_anyB 11 [.quiet (.agg (kd p r c gx gy).toArray), .quiet (.agg (kd p r c gx gy).toArray), .quiet (U (pl p (tm p 3 (tm p x x)) (tm p (tm p z z) (tm p z z)))), .quiet (U (pl p (tm p 3 (tm p x x)) (tm p (tm p z z) (tm p z z)))), .call (U (tm p (pl p (tm p 3 (tm p x x)) (tm p (tm p z z) (tm p z z))) (pl p (tm p 3 (tm p x x)) (tm p (tm p z z) (tm p z z))))), .quiet (.agg (kd p r c gx gy).toArray), .quiet (U (tm p 4 (tm p x (tm p y y)))), .quiet (U (tm p 4 (tm p x (tm p y y)))), .call (U (pl p (tm p 4 (tm p x (tm p y y))) (tm p 4 (tm p x (tm p y y))))), .call (U (mi p (tm p (pl p (tm p 3 (tm p x x)) (tm p (tm p z z) (tm p z z))) (pl p (tm p 3 (tm p x x)) (tm p (tm p z z) (tm p z z)))) (pl p (tm p 4 (tm p x (tm p y y))) (tm p 4 (tm p x (tm p y y)))))), .quiet (U (mi p (tm p (pl p (tm p 3 (tm p x x)) (tm p (tm p z z) (tm p z z))) (pl p (tm p 3 (tm p x x)) (tm p (tm p z z) (tm p z z)))) (pl p (tm p 4 (tm p x (tm p y y))) (tm p 4 (tm p x (tm p y y))))))] H4 ?ho5 ?he5
  case ho5 => exact ak (fun γ => ⟨rfl, fun w' h => ex_loadT h 0 rfl rfl rfl Try.isAgg72 Try.sizeOf72 rfl rfl⟩) (ak (fun γ => ⟨rfl, fun w' h => ex_loadT h 0 rfl rfl rfl Try.isAgg72 Try.sizeOf72 rfl rfl⟩) (ak (fun _ => ⟨rfl, fun _ _ => rfl⟩) (ak (fun _ => ⟨rfl, fun _ _ => rfl⟩) (ak (fun γ => ⟨rfl, fun w' h => ⟨69, #[.agg (kd p r c gx gy).toArray, U (pl p (tm p 3 (tm p x x)) (tm p (tm p z z) (tm p z z))), U (pl p (tm p 3 (tm p x x)) (tm p (tm p z z) (tm p z z)))], exec_call rfl call69 rfl (mpn rfl), times_any hp (pl p (tm p 3 (tm p x x)) (tm p (tm p z z) (tm p z z))) (pl p (tm p 3 (tm p x x)) (tm p (tm p z z) (tm p z z))) (pl_lt hp) (pl_lt hp) w'⟩⟩) (ak (fun γ => ⟨rfl, fun w' h => ex_loadT h 0 rfl rfl rfl Try.isAgg72 Try.sizeOf72 rfl rfl⟩) (ak (fun _ => ⟨rfl, fun _ _ => rfl⟩) (ak (fun _ => ⟨rfl, fun _ _ => rfl⟩) (ak (fun γ => ⟨rfl, fun w' h => ⟨71, #[.agg (kd p r c gx gy).toArray, U (tm p 4 (tm p x (tm p y y))), U (tm p 4 (tm p x (tm p y y)))], exec_call rfl call71 rfl (mpn rfl), plus_any hp (tm p 4 (tm p x (tm p y y))) (tm p 4 (tm p x (tm p y y))) (tm_lt hp) (tm_lt hp) w'⟩⟩) (ak (fun γ => ⟨rfl, fun w' h => ⟨48, #[.agg (kd p r c gx gy).toArray, U (tm p (pl p (tm p 3 (tm p x x)) (tm p (tm p z z) (tm p z z))) (pl p (tm p 3 (tm p x x)) (tm p (tm p z z) (tm p z z)))), U (pl p (tm p 4 (tm p x (tm p y y))) (tm p 4 (tm p x (tm p y y))))], exec_call rfl call48 rfl (mpn rfl), minus_any hp (tm p (pl p (tm p 3 (tm p x x)) (tm p (tm p z z) (tm p z z))) (pl p (tm p 3 (tm p x x)) (tm p (tm p z z) (tm p z z)))) (pl p (tm p 4 (tm p x (tm p y y))) (tm p 4 (tm p x (tm p y y)))) (tm_lt hp) (pl_lt hp) w'⟩⟩) (ak (fun _ => ⟨rfl, fun _ _ => rfl⟩) trivial))))))))))
  intro _ w5 H5
  clear H4
  refine rest0 rfl (then_normal (wp_seq ?_))
  refine walk_put (by kernel_rfl) 30 [29] [.quiet (U (mi p (tm p (pl p (tm p 3 (tm p x x)) (tm p (tm p z z) (tm p z z))) (pl p (tm p 3 (tm p x x)) (tm p (tm p z z) (tm p z z)))) (pl p (tm p 4 (tm p x (tm p y y))) (tm p 4 (tm p x (tm p y y)))))), .quiet (.agg (kd p r c gx gy).toArray), .quiet (.agg (kd p r c gx gy).toArray), .quiet (U (pl p (tm p 3 (tm p x x)) (tm p (tm p z z) (tm p z z)))), .quiet (.agg (kd p r c gx gy).toArray), .quiet (U (tm p 4 (tm p x (tm p y y)))), .quiet (U (mi p (tm p (pl p (tm p 3 (tm p x x)) (tm p (tm p z z) (tm p z z))) (pl p (tm p 3 (tm p x x)) (tm p (tm p z z) (tm p z z)))) (pl p (tm p 4 (tm p x (tm p y y))) (tm p 4 (tm p x (tm p y y)))))), .call (U (mi p (tm p 4 (tm p x (tm p y y))) (mi p (tm p (pl p (tm p 3 (tm p x x)) (tm p (tm p z z) (tm p z z))) (pl p (tm p 3 (tm p x x)) (tm p (tm p z z) (tm p z z)))) (pl p (tm p 4 (tm p x (tm p y y))) (tm p 4 (tm p x (tm p y y))))))), .call (U (tm p (pl p (tm p 3 (tm p x x)) (tm p (tm p z z) (tm p z z))) (mi p (tm p 4 (tm p x (tm p y y))) (mi p (tm p (pl p (tm p 3 (tm p x x)) (tm p (tm p z z) (tm p z z))) (pl p (tm p 3 (tm p x x)) (tm p (tm p z z) (tm p z z)))) (pl p (tm p 4 (tm p x (tm p y y))) (tm p 4 (tm p x (tm p y y)))))))), .quiet (.agg (kd p r c gx gy).toArray), .quiet (U (tm p y y)), .quiet (U (tm p y y)), .call (U (tm p (tm p y y) (tm p y y))), .quiet (U (8 * (tm p (tm p y y) (tm p y y)))), .quiet (PT γ1_0 0), .quiet (U p), .quiet (U (tm p 8 (tm p (tm p y y) (tm p y y)))), .call (U (mi p (tm p (pl p (tm p 3 (tm p x x)) (tm p (tm p z z) (tm p z z))) (mi p (tm p 4 (tm p x (tm p y y))) (mi p (tm p (pl p (tm p 3 (tm p x x)) (tm p (tm p z z) (tm p z z))) (pl p (tm p 3 (tm p x x)) (tm p (tm p z z) (tm p z z)))) (pl p (tm p 4 (tm p x (tm p y y))) (tm p 4 (tm p x (tm p y y))))))) (tm p 8 (tm p (tm p y y) (tm p y y))))), .quiet (.agg (kd p r c gx gy).toArray), .quiet (PT γ1_1 1), .quiet (U y), .quiet (PT γ1_1 2), .quiet (U z), .call (U (tm p y z)), .quiet (U (2 * (tm p y z))), .quiet (PT γ1_0 0), .quiet (U p), .quiet (U (tm p 2 (tm p y z))), .quiet (.agg (tr (mi p (tm p (pl p (tm p 3 (tm p x x)) (tm p (tm p z z) (tm p z z))) (pl p (tm p 3 (tm p x x)) (tm p (tm p z z) (tm p z z)))) (pl p (tm p 4 (tm p x (tm p y y))) (tm p 4 (tm p x (tm p y y))))) (mi p (tm p (pl p (tm p 3 (tm p x x)) (tm p (tm p z z) (tm p z z))) (mi p (tm p 4 (tm p x (tm p y y))) (mi p (tm p (pl p (tm p 3 (tm p x x)) (tm p (tm p z z) (tm p z z))) (pl p (tm p 3 (tm p x x)) (tm p (tm p z z) (tm p z z)))) (pl p (tm p 4 (tm p x (tm p y y))) (tm p 4 (tm p x (tm p y y))))))) (tm p 8 (tm p (tm p y y) (tm p y y)))) (tm p 2 (tm p y z))).toArray), .quiet (U (pl p (tm p 3 (tm p x x)) (tm p (tm p z z) (tm p z z))))] _ ?pre6 ?F6 _ ?hpre6 (fun γ => ?hF6) (by kernel_rfl) rfl ?hL6 (sB H5) ?ho6 ?hla6 ?he6
  case hpre6 => simp only [tk, tz]; rfl
  case hF6 => simp only [fill, Kind.val, Act.put, sa, sz, ss]; rfl
  case hL6 => exact trivial
  case ho6 =>
    refine ak (fun _ => ⟨rfl, fun _ _ => rfl⟩) ?_
    refine ak (fun γ => ⟨rfl, fun w' h => ex_loadT h 0 rfl rfl rfl Try.isAgg72 Try.sizeOf72 rfl rfl⟩) ?_
    refine ak (fun γ => ⟨rfl, fun w' h => ex_loadT h 0 rfl rfl rfl Try.isAgg72 Try.sizeOf72 rfl rfl⟩) ?_
    refine ak (fun _ => ⟨rfl, fun _ _ => rfl⟩) ?_
    refine ak (fun γ => ⟨rfl, fun w' h => ex_loadT h 0 rfl rfl rfl Try.isAgg72 Try.sizeOf72 rfl rfl⟩) ?_
    refine ak (fun _ => ⟨rfl, fun _ _ => rfl⟩) ?_
    refine ak (fun _ => ⟨rfl, fun _ _ => rfl⟩) ?_
    refine ak (fun γ => ⟨rfl, fun w' h => ⟨48, #[.agg (kd p r c gx gy).toArray, U (tm p 4 (tm p x (tm p y y))), U (mi p (tm p (pl p (tm p 3 (tm p x x)) (tm p (tm p z z) (tm p z z))) (pl p (tm p 3 (tm p x x)) (tm p (tm p z z) (tm p z z)))) (pl p (tm p 4 (tm p x (tm p y y))) (tm p 4 (tm p x (tm p y y)))))], exec_call rfl call48 rfl (mpn rfl), minus_any hp (tm p 4 (tm p x (tm p y y))) (mi p (tm p (pl p (tm p 3 (tm p x x)) (tm p (tm p z z) (tm p z z))) (pl p (tm p 3 (tm p x x)) (tm p (tm p z z) (tm p z z)))) (pl p (tm p 4 (tm p x (tm p y y))) (tm p 4 (tm p x (tm p y y))))) (tm_lt hp) (mi_lt hp) w'⟩⟩) ?_
    refine ak (fun γ => ⟨rfl, fun w' h => ⟨69, #[.agg (kd p r c gx gy).toArray, U (pl p (tm p 3 (tm p x x)) (tm p (tm p z z) (tm p z z))), U (mi p (tm p 4 (tm p x (tm p y y))) (mi p (tm p (pl p (tm p 3 (tm p x x)) (tm p (tm p z z) (tm p z z))) (pl p (tm p 3 (tm p x x)) (tm p (tm p z z) (tm p z z)))) (pl p (tm p 4 (tm p x (tm p y y))) (tm p 4 (tm p x (tm p y y))))))], exec_call rfl call69 rfl (mpn rfl), times_any hp (pl p (tm p 3 (tm p x x)) (tm p (tm p z z) (tm p z z))) (mi p (tm p 4 (tm p x (tm p y y))) (mi p (tm p (pl p (tm p 3 (tm p x x)) (tm p (tm p z z) (tm p z z))) (pl p (tm p 3 (tm p x x)) (tm p (tm p z z) (tm p z z)))) (pl p (tm p 4 (tm p x (tm p y y))) (tm p 4 (tm p x (tm p y y)))))) (pl_lt hp) (mi_lt hp) w'⟩⟩) ?_
    refine ak (fun γ => ⟨rfl, fun w' h => ex_loadT h 0 rfl rfl rfl Try.isAgg72 Try.sizeOf72 rfl rfl⟩) ?_
    refine ak (fun _ => ⟨rfl, fun _ _ => rfl⟩) ?_
    refine ak (fun _ => ⟨rfl, fun _ _ => rfl⟩) ?_
    refine ak (fun γ => ⟨rfl, fun w' h => ⟨69, #[.agg (kd p r c gx gy).toArray, U (tm p y y), U (tm p y y)], exec_call rfl call69 rfl (mpn rfl), times_any hp (tm p y y) (tm p y y) (tm_lt hp) (tm_lt hp) w'⟩⟩) ?_
    refine ak (fun γ => ⟨rfl, fun w' _ => ex_mulU (small_mul hp (by decide) (tm_lt hp)) rfl rfl rfl⟩) ?_
    refine ak (by refine fun γ => ⟨rfl, fun w' h => ?_⟩; clear h; go_simp) ?_
    refine ak (fun γ => ⟨rfl, fun w' h => ex_loadC h 0 rfl rfl rfl Try.isAgg23 rfl⟩) ?_
    refine ak (fun γ => ⟨rfl, fun w' _ => ex_remU (Nat.ne_of_gt (zero_lt hp)) rfl rfl rfl⟩) ?_
    refine ak (fun γ => ⟨rfl, fun w' h => ⟨48, #[.agg (kd p r c gx gy).toArray, U (tm p (pl p (tm p 3 (tm p x x)) (tm p (tm p z z) (tm p z z))) (mi p (tm p 4 (tm p x (tm p y y))) (mi p (tm p (pl p (tm p 3 (tm p x x)) (tm p (tm p z z) (tm p z z))) (pl p (tm p 3 (tm p x x)) (tm p (tm p z z) (tm p z z)))) (pl p (tm p 4 (tm p x (tm p y y))) (tm p 4 (tm p x (tm p y y))))))), U (tm p 8 (tm p (tm p y y) (tm p y y)))], exec_call rfl call48 rfl (mpn rfl), minus_any hp (tm p (pl p (tm p 3 (tm p x x)) (tm p (tm p z z) (tm p z z))) (mi p (tm p 4 (tm p x (tm p y y))) (mi p (tm p (pl p (tm p 3 (tm p x x)) (tm p (tm p z z) (tm p z z))) (pl p (tm p 3 (tm p x x)) (tm p (tm p z z) (tm p z z)))) (pl p (tm p 4 (tm p x (tm p y y))) (tm p 4 (tm p x (tm p y y))))))) (tm p 8 (tm p (tm p y y) (tm p y y))) (tm_lt hp) (tm_lt hp) w'⟩⟩) ?_
    refine ak (fun γ => ⟨rfl, fun w' h => ex_loadT h 0 rfl rfl rfl Try.isAgg72 Try.sizeOf72 rfl rfl⟩) ?_
    refine ak (by refine fun γ => ⟨rfl, fun w' h => ?_⟩; clear h; go_simp) ?_
    refine ak (fun γ => ⟨rfl, fun w' h => ex_loadC h 1 rfl rfl rfl Try.isAgg23 rfl⟩) ?_
    refine ak (by refine fun γ => ⟨rfl, fun w' h => ?_⟩; clear h; go_simp) ?_
    refine ak (fun γ => ⟨rfl, fun w' h => ex_loadC h 1 rfl rfl rfl Try.isAgg23 rfl⟩) ?_
    refine ak (fun γ => ⟨rfl, fun w' h => ⟨69, #[.agg (kd p r c gx gy).toArray, U y, U z], exec_call rfl call69 rfl (mpn rfl), times_any hp y z hy hz w'⟩⟩) ?_
    refine ak (fun γ => ⟨rfl, fun w' _ => ex_mulU (small_mul hp (by decide) (tm_lt hp)) rfl rfl rfl⟩) ?_
    refine ak (by refine fun γ => ⟨rfl, fun w' h => ?_⟩; clear h; go_simp) ?_
    refine ak (fun γ => ⟨rfl, fun w' h => ex_loadC h 0 rfl rfl rfl Try.isAgg23 rfl⟩) ?_
    refine ak (fun γ => ⟨rfl, fun w' _ => ex_remU (Nat.ne_of_gt (zero_lt hp)) rfl rfl rfl⟩) ?_
    refine ak (fun γ => ⟨rfl, fun w' _ => ex_build77_012 rfl rfl rfl rfl⟩) ?_
    refine ak (fun _ => ⟨rfl, fun _ _ => rfl⟩) ?_
    exact trivial
  case hla6 => exact ⟨⟨_, _, rfl, rfl, fun γ => ⟨rfl, fun w' => by first | rfl | go_simp⟩⟩, trivial⟩
  intro γ w6 l hM hl
  have H6 := keepB H5 hM.below
  clear hM hl l H5 γ
  refine ⟨_, ex_storeT (vs := tr (mi p (tm p (pl p (tm p 3 (tm p x x)) (tm p (tm p z z) (tm p z z))) (pl p (tm p 3 (tm p x x)) (tm p (tm p z z) (tm p z z)))) (pl p (tm p 4 (tm p x (tm p y y))) (tm p 4 (tm p x (tm p y y))))) (mi p (tm p (pl p (tm p 3 (tm p x x)) (tm p (tm p z z) (tm p z z))) (mi p (tm p 4 (tm p x (tm p y y))) (mi p (tm p (pl p (tm p 3 (tm p x x)) (tm p (tm p z z) (tm p z z))) (pl p (tm p 3 (tm p x x)) (tm p (tm p z z) (tm p z z)))) (pl p (tm p 4 (tm p x (tm p y y))) (tm p 4 (tm p x (tm p y y))))))) (tm p 8 (tm p (tm p y y) (tm p y y)))) (tm p 2 (tm p y z))) H6.out.1 2 rfl rfl rfl rfl Try.sizeOf77 rfl (Nat.le_of_ble_eq_true rfl), ?_⟩
  have H7 : Hid (Mm (w6.setCells γ1_2 0 (tr (mi p (tm p (pl p (tm p 3 (tm p x x)) (tm p (tm p z z) (tm p z z))) (pl p (tm p 3 (tm p x x)) (tm p (tm p z z) (tm p z z)))) (pl p (tm p 4 (tm p x (tm p y y))) (tm p 4 (tm p x (tm p y y))))) (mi p (tm p (pl p (tm p 3 (tm p x x)) (tm p (tm p z z) (tm p z z))) (mi p (tm p 4 (tm p x (tm p y y))) (mi p (tm p (pl p (tm p 3 (tm p x x)) (tm p (tm p z z) (tm p z z))) (pl p (tm p 3 (tm p x x)) (tm p (tm p z z) (tm p z z)))) (pl p (tm p 4 (tm p x (tm p y y))) (tm p 4 (tm p x (tm p y y))))))) (tm p 8 (tm p (tm p y y) (tm p y y)))) (tm p 2 (tm p y z)))) [(γ1_0, kd p r c gx gy), (γ1_1, tr x y z), (γ1_2, tr (mi p (tm p (pl p (tm p 3 (tm p x x)) (tm p (tm p z z) (tm p z z))) (pl p (tm p 3 (tm p x x)) (tm p (tm p z z) (tm p z z)))) (pl p (tm p 4 (tm p x (tm p y y))) (tm p 4 (tm p x (tm p y y))))) (mi p (tm p (pl p (tm p 3 (tm p x x)) (tm p (tm p z z) (tm p z z))) (mi p (tm p 4 (tm p x (tm p y y))) (mi p (tm p (pl p (tm p 3 (tm p x x)) (tm p (tm p z z) (tm p z z))) (pl p (tm p 3 (tm p x x)) (tm p (tm p z z) (tm p z z)))) (pl p (tm p 4 (tm p x (tm p y y))) (tm p 4 (tm p x (tm p y y))))))) (tm p 8 (tm p (tm p y y) (tm p y y)))) (tm p 2 (tm p y z)))] ∧ Below w.heap.size w (w6.setCells γ1_2 0 (tr (mi p (tm p (pl p (tm p 3 (tm p x x)) (tm p (tm p z z) (tm p z z))) (pl p (tm p 3 (tm p x x)) (tm p (tm p z z) (tm p z z)))) (pl p (tm p 4 (tm p x (tm p y y))) (tm p 4 (tm p x (tm p y y))))) (mi p (tm p (pl p (tm p 3 (tm p x x)) (tm p (tm p z z) (tm p z z))) (mi p (tm p 4 (tm p x (tm p y y))) (mi p (tm p (pl p (tm p 3 (tm p x x)) (tm p (tm p z z) (tm p z z))) (pl p (tm p 3 (tm p x x)) (tm p (tm p z z) (tm p z z)))) (pl p (tm p 4 (tm p x (tm p y y))) (tm p 4 (tm p x (tm p y y))))))) (tm p 8 (tm p (tm p y y) (tm p y y)))) (tm p 2 (tm p y z))))) := ⟨H6.out.1.put 2 (off := 0) (vs := tr (mi p (tm p (pl p (tm p 3 (tm p x x)) (tm p (tm p z z) (tm p z z))) (pl p (tm p 3 (tm p x x)) (tm p (tm p z z) (tm p z z)))) (pl p (tm p 4 (tm p x (tm p y y))) (tm p 4 (tm p x (tm p y y))))) (mi p (tm p (pl p (tm p 3 (tm p x x)) (tm p (tm p z z) (tm p z z))) (mi p (tm p 4 (tm p x (tm p y y))) (mi p (tm p (pl p (tm p 3 (tm p x x)) (tm p (tm p z z) (tm p z z))) (pl p (tm p 3 (tm p x x)) (tm p (tm p z z) (tm p z z)))) (pl p (tm p 4 (tm p x (tm p y y))) (tm p 4 (tm p x (tm p y y))))))) (tm p 8 (tm p (tm p y y) (tm p y y)))) (tm p 2 (tm p y z))) rfl (Nat.le_of_ble_eq_true rfl), below_setCells _ o1_2.out _ _ _ H6.out.2⟩
  clear H6
  generalize hgw : World.setCells _ _ _ _ = w7 at H7 ⊢
  clear hgw
  refine rest_at (l := [31]) rfl ?_
  refine rest_set (d := 5) rfl rfl rfl rfl ?_
  simp only [Act.put, sa, sz, ss]
  refine rest_nil (then_normal (wp_ret ?_))
  repeat (first | refine then_ret ?_ | refine block_ret ?_)
  have hf0 := var_T H7.out.1 2 rfl Try.isAgg77 Try.sizeOf77 rfl
  refine bodyPost_ret (v := .tuple #[.agg (tr (mi p (tm p (pl p (tm p 3 (tm p x x)) (tm p (tm p z z) (tm p z z))) (pl p (tm p 3 (tm p x x)) (tm p (tm p z z) (tm p z z)))) (pl p (tm p 4 (tm p x (tm p y y))) (tm p 4 (tm p x (tm p y y))))) (mi p (tm p (pl p (tm p 3 (tm p x x)) (tm p (tm p z z) (tm p z z))) (mi p (tm p 4 (tm p x (tm p y y))) (mi p (tm p (pl p (tm p 3 (tm p x x)) (tm p (tm p z z) (tm p z z))) (pl p (tm p 3 (tm p x x)) (tm p (tm p z z) (tm p z z)))) (pl p (tm p 4 (tm p x (tm p y y))) (tm p 4 (tm p x (tm p y y))))))) (tm p 8 (tm p (tm p y y) (tm p y y)))) (tm p 2 (tm p y z))).toArray, U (pl p (tm p 3 (tm p x x)) (tm p (tm p z z) (tm p z z)))]) (by simp [results, Try.results70, asAddr, Act.eval, hf0]) rfl ?_
  exact ⟨rfl, H7.out.2⟩
theorem twice_any (hp : Pr p) (t : T3) (ht : Lt3 p t) (w : World) : Calls Try.prog 70 #[.agg (kd p r c gx gy).toArray, .agg (tr t.1 t.2.1 t.2.2).toArray] w fun e w' => e = .returned (.tuple #[V (tc (twT p t)), U (tR p t.1 t.2.2)]) ∧ Below w.heap.size w w' :=
  twice_raw hp t.1 t.2.1 t.2.2 ht.x ht.y ht.z w
set_option maxRecDepth 100000 in
theorem joined_z (x y z X Y : Nat) (w : World) :
    Calls Try.prog 44 #[.agg (kd p r c gx gy).toArray, .agg (tr x y z).toArray, .agg (pt X Y true).toArray] w fun e w' => e = .returned (.tuple #[V (tr x y z), U 0]) ∧ Below w.heap.size w w' := by
  have H0 : Hid (_ ∧ _) := ⟨Mm.nil w, Below.refl w.heap.size w⟩
  go_enter Try.func44, Try.ntmps44
  refine wp_seq ?_
  refine walk_seqA 5 [.made (kd p r c gx gy) 72, .made (tr x y z) 77, .made (pt X Y true) 25, .made (tr 0 0 0) 77, .quiet (U 0)] (sB H0) ?ho1 ?he1
  case ho1 => exact ak (fun γ => ⟨rfl, fun w' => ex_boxT rfl rfl⟩) (ak (fun γ => ⟨rfl, fun w' => ex_boxT rfl rfl⟩) (ak (fun γ => ⟨rfl, fun w' => ex_boxT rfl rfl⟩) (ak (fun γ => ⟨rfl, fun w' => ex_made77 rfl⟩) (ak (fun _ => ⟨rfl, fun _ _ => rfl⟩) trivial))))
  intro γ w1 l hM hl
  have H1 : Hid (Mm w1 [(γ 0, kd p r c gx gy), (γ 1, tr x y z), (γ 2, pt X Y true), (γ 3, tr 0 0 0)] ∧ _) := growB H0 hM (Nat.le_refl _) hl [0, 1, 2, 3] rfl (by decide)
  have o1_0 := ownB H0 hM (Nat.le_refl _) hl (i := 0) rfl
  have o1_1 := ownB H0 hM (Nat.le_refl _) hl (i := 1) rfl
  have o1_2 := ownB H0 hM (Nat.le_refl _) hl (i := 2) rfl
  have o1_3 := ownB H0 hM (Nat.le_refl _) hl (i := 3) rfl
  clear hM hl l
  generalize γ 0 = γ1_0 at H1 o1_0 ⊢
  generalize γ 1 = γ1_1 at H1 o1_1 ⊢
  generalize γ 2 = γ1_2 at H1 o1_2 ⊢
  generalize γ 3 = γ1_3 at H1 o1_3 ⊢
  clear γ
  refine rest0 rfl (then_normal (wp_seq (wp_seq ?_)))
  refine walk_seqB 2 [.quiet (PT γ1_2 2), .quiet (.bool true)] H1 ?ho2 ?he2
  case ho2 => exact ak (by refine fun γ => ⟨rfl, fun w' h => ?_⟩; clear h; go_simp) (ak (fun γ => ⟨rfl, fun w' h => ex_loadC h 2 rfl rfl rfl Try.isAgg4 rfl⟩) trivial)
  intro _ w2 H2
  clear H1
  refine rest0 rfl (then_normal (wp_cond_true rfl (wp_seq ?_)))
  refine walk_seqB 1 [.quiet (.agg (tr x y z).toArray)] H2 ?ho3 ?he3
  case ho3 => exact ak (fun γ => ⟨rfl, fun w' h => ex_loadT h 1 rfl rfl rfl Try.isAgg77 Try.sizeOf77 rfl rfl⟩) trivial
  intro _ w3 H3
  clear H2
  refine rest_at (l := [1, 2]) rfl ?_
  refine rest_store rfl rfl rfl (ex_storeT (vs := tr x y z) H3.out.1 3 rfl rfl rfl rfl Try.sizeOf77 rfl (Nat.le_of_ble_eq_true rfl)) ?_
  have H4 : Hid (Mm (w3.setCells γ1_3 0 (tr x y z)) [(γ1_0, kd p r c gx gy), (γ1_1, tr x y z), (γ1_2, pt X Y true), (γ1_3, tr x y z)] ∧ Below w.heap.size w (w3.setCells γ1_3 0 (tr x y z))) := ⟨H3.out.1.put 3 (off := 0) (vs := tr x y z) rfl (Nat.le_of_ble_eq_true rfl), below_setCells _ o1_3.out _ _ _ H3.out.2⟩
  clear H3
  generalize hgw : World.setCells _ _ _ _ = w4 at H4 ⊢
  clear hgw
  refine rest_set (d := 7) rfl rfl rfl rfl ?_
  simp only [Act.put, sa, sz, ss]
  refine rest_nil (then_normal (wp_ret ?_))
  repeat (first | refine then_ret ?_ | refine block_ret ?_)
  have hf0 := var_T H4.out.1 3 rfl Try.isAgg77 Try.sizeOf77 rfl
  refine bodyPost_ret (v := .tuple #[.agg (tr x y z).toArray, U 0]) (by simp [results, Try.results44, asAddr, Act.eval, hf0]) rfl ?_
  exact ⟨rfl, H4.out.2⟩
set_option maxRecDepth 100000 in
theorem joined_0 (x y z X Y : Nat) (h : z = 0) (w : World) :
    Calls Try.prog 44 #[.agg (kd p r c gx gy).toArray, .agg (tr x y z).toArray, .agg (pt X Y false).toArray] w fun e w' => e = .returned (.tuple #[V (tr X Y 1), U 0]) ∧ Below w.heap.size w w' := by
  have H0 : Hid (_ ∧ _) := ⟨Mm.nil w, Below.refl w.heap.size w⟩
  go_enter Try.func44, Try.ntmps44
  refine wp_seq ?_
  refine walk_seqA 5 [.made (kd p r c gx gy) 72, .made (tr x y z) 77, .made (pt X Y false) 25, .made (tr 0 0 0) 77, .quiet (U 0)] (sB H0) ?ho1 ?he1
  case ho1 => exact ak (fun γ => ⟨rfl, fun w' => ex_boxT rfl rfl⟩) (ak (fun γ => ⟨rfl, fun w' => ex_boxT rfl rfl⟩) (ak (fun γ => ⟨rfl, fun w' => ex_boxT rfl rfl⟩) (ak (fun γ => ⟨rfl, fun w' => ex_made77 rfl⟩) (ak (fun _ => ⟨rfl, fun _ _ => rfl⟩) trivial))))
  intro γ w1 l hM hl
  have H1 : Hid (Mm w1 [(γ 0, kd p r c gx gy), (γ 1, tr x y z), (γ 2, pt X Y false), (γ 3, tr 0 0 0)] ∧ _) := growB H0 hM (Nat.le_refl _) hl [0, 1, 2, 3] rfl (by decide)
  have o1_0 := ownB H0 hM (Nat.le_refl _) hl (i := 0) rfl
  have o1_1 := ownB H0 hM (Nat.le_refl _) hl (i := 1) rfl
  have o1_2 := ownB H0 hM (Nat.le_refl _) hl (i := 2) rfl
  have o1_3 := ownB H0 hM (Nat.le_refl _) hl (i := 3) rfl
  clear hM hl l
  generalize γ 0 = γ1_0 at H1 o1_0 ⊢
  generalize γ 1 = γ1_1 at H1 o1_1 ⊢
  generalize γ 2 = γ1_2 at H1 o1_2 ⊢
  generalize γ 3 = γ1_3 at H1 o1_3 ⊢
  clear γ
  refine rest0 rfl (then_normal (wp_seq (wp_seq ?_)))
  refine walk_seqB 2 [.quiet (PT γ1_2 2), .quiet (.bool false)] H1 ?ho2 ?he2
  case ho2 => exact ak (by refine fun γ => ⟨rfl, fun w' h => ?_⟩; clear h; go_simp) (ak (fun γ => ⟨rfl, fun w' h => ex_loadC h 2 rfl rfl rfl Try.isAgg4 rfl⟩) trivial)
  intro _ w2 H2
  clear H1
  refine rest0 rfl (then_normal (wp_cond_false rfl ?_))
  refine wp_skip (then_normal ?_)
  refine wp_seq (wp_seq ?_)
  refine walk_seqB 3 [.quiet (PT γ1_1 2), .quiet (U z), .quiet (.bool true)] H2 ?ho3 ?he3
  case ho3 => exact ak (by refine fun γ => ⟨rfl, fun w' h => ?_⟩; clear h; go_simp) (ak (fun γ => ⟨rfl, fun w' h => ex_loadC h 1 rfl rfl rfl Try.isAgg23 rfl⟩) (ak (fun γ => ⟨rfl, fun w' _ => ex_eqU rfl rfl rfl (decide_eq_true (h))⟩) trivial))
  intro _ w3 H3
  clear H2
  refine rest0 rfl (then_normal (wp_cond_true rfl (wp_seq ?_)))
  refine walk_seqB 2 [.quiet (.agg (pt X Y false).toArray), .call (.agg (tr X Y 1).toArray)] H3 ?ho4 ?he4
  case ho4 => exact ak (fun γ => ⟨rfl, fun w' h => ex_loadT h 2 rfl rfl rfl Try.isAgg25 Try.sizeOf25 rfl rfl⟩) (ak (fun γ => ⟨rfl, fun w' h => ⟨45, #[.agg (pt X Y false).toArray], exec_call rfl call45 rfl (mpn rfl), tripleOf_f X Y w'⟩⟩) trivial)
  intro _ w4 H4
  clear H3
  refine rest_at (l := [2, 3]) rfl ?_
  refine rest_store rfl rfl rfl (ex_storeT (vs := tr X Y 1) H4.out.1 3 rfl rfl rfl rfl Try.sizeOf77 rfl (Nat.le_of_ble_eq_true rfl)) ?_
  have H5 : Hid (Mm (w4.setCells γ1_3 0 (tr X Y 1)) [(γ1_0, kd p r c gx gy), (γ1_1, tr x y z), (γ1_2, pt X Y false), (γ1_3, tr X Y 1)] ∧ Below w.heap.size w (w4.setCells γ1_3 0 (tr X Y 1))) := ⟨H4.out.1.put 3 (off := 0) (vs := tr X Y 1) rfl (Nat.le_of_ble_eq_true rfl), below_setCells _ o1_3.out _ _ _ H4.out.2⟩
  clear H4
  generalize hgw : World.setCells _ _ _ _ = w5 at H5 ⊢
  clear hgw
  refine rest_set (d := 7) rfl rfl rfl rfl ?_
  simp only [Act.put, sa, sz, ss]
  refine rest_nil (then_normal (wp_ret ?_))
  repeat (first | refine then_ret ?_ | refine block_ret ?_)
  have hf0 := var_T H5.out.1 3 rfl Try.isAgg77 Try.sizeOf77 rfl
  refine bodyPost_ret (v := .tuple #[.agg (tr X Y 1).toArray, U 0]) (by simp [results, Try.results44, asAddr, Act.eval, hf0]) rfl ?_
  exact ⟨rfl, H5.out.2⟩
set_option maxHeartbeats 1000000 in
set_option maxRecDepth 100000 in
theorem joined_same (hp : Pr p) (x y z : Nat) (hx : x < p) (hy : y < p) (hz : z < p) (X Y : Nat) (hX : X < p) (hY : Y < p) (h : z ≠ 0) (h1 : jU p x z X = 0) (h2 : jS p y z Y = 0) (w : World) :
    Calls Try.prog 44 #[.agg (kd p r c gx gy).toArray, .agg (tr x y z).toArray, .agg (pt X Y false).toArray] w fun e w' => e = .returned (.tuple #[V (tr (tX p x y z) (tY p x y z) (tm p 2 (tm p y z))), U (tR p x z)]) ∧ Below w.heap.size w w' := by
  have H0 : Hid (_ ∧ _) := ⟨Mm.nil w, Below.refl w.heap.size w⟩
  go_enter Try.func44, Try.ntmps44
  refine wp_seq ?_
  refine walk_seqA 5 [.made (kd p r c gx gy) 72, .made (tr x y z) 77, .made (pt X Y false) 25, .made (tr 0 0 0) 77, .quiet (U 0)] (sB H0) ?ho1 ?he1
  case ho1 => exact ak (fun γ => ⟨rfl, fun w' => ex_boxT rfl rfl⟩) (ak (fun γ => ⟨rfl, fun w' => ex_boxT rfl rfl⟩) (ak (fun γ => ⟨rfl, fun w' => ex_boxT rfl rfl⟩) (ak (fun γ => ⟨rfl, fun w' => ex_made77 rfl⟩) (ak (fun _ => ⟨rfl, fun _ _ => rfl⟩) trivial))))
  intro γ w1 l hM hl
  have H1 : Hid (Mm w1 [(γ 0, kd p r c gx gy), (γ 1, tr x y z), (γ 2, pt X Y false), (γ 3, tr 0 0 0)] ∧ _) := growB H0 hM (Nat.le_refl _) hl [0, 1, 2, 3] rfl (by decide)
  have o1_0 := ownB H0 hM (Nat.le_refl _) hl (i := 0) rfl
  have o1_1 := ownB H0 hM (Nat.le_refl _) hl (i := 1) rfl
  have o1_2 := ownB H0 hM (Nat.le_refl _) hl (i := 2) rfl
  have o1_3 := ownB H0 hM (Nat.le_refl _) hl (i := 3) rfl
  clear hM hl l
  generalize γ 0 = γ1_0 at H1 o1_0 ⊢
  generalize γ 1 = γ1_1 at H1 o1_1 ⊢
  generalize γ 2 = γ1_2 at H1 o1_2 ⊢
  generalize γ 3 = γ1_3 at H1 o1_3 ⊢
  clear γ
  refine rest0 rfl (then_normal (wp_seq (wp_seq ?_)))
  refine walk_seqB 2 [.quiet (PT γ1_2 2), .quiet (.bool false)] H1 ?ho2 ?he2
  case ho2 => exact ak (by refine fun γ => ⟨rfl, fun w' h => ?_⟩; clear h; go_simp) (ak (fun γ => ⟨rfl, fun w' h => ex_loadC h 2 rfl rfl rfl Try.isAgg4 rfl⟩) trivial)
  intro _ w2 H2
  clear H1
  refine rest0 rfl (then_normal (wp_cond_false rfl ?_))
  refine wp_skip (then_normal ?_)
  refine wp_seq (wp_seq ?_)
  refine walk_seqB 3 [.quiet (PT γ1_1 2), .quiet (U z), .quiet (.bool false)] H2 ?ho3 ?he3
  case ho3 => exact ak (by refine fun γ => ⟨rfl, fun w' h => ?_⟩; clear h; go_simp) (ak (fun γ => ⟨rfl, fun w' h => ex_loadC h 1 rfl rfl rfl Try.isAgg23 rfl⟩) (ak (fun γ => ⟨rfl, fun w' _ => ex_eqU rfl rfl rfl (decide_eq_false (h))⟩) trivial))
  intro _ w3 H3
  clear H2
  refine rest0 rfl (then_normal (wp_cond_false rfl ?_))
  refine wp_skip (then_normal (wp_seq ?_))
  refine walk_seqB 7 [.quiet (.agg (kd p r c gx gy).toArray), .quiet (PT γ1_1 2), .quiet (U z), .quiet (PT γ1_1 2), .quiet (U z), .call (U (tm p z z)), .quiet (U (tm p z z))] H3 ?ho4 ?he4
  case ho4 => exact ak (fun γ => ⟨rfl, fun w' h => ex_loadT h 0 rfl rfl rfl Try.isAgg72 Try.sizeOf72 rfl rfl⟩) (ak (by refine fun γ => ⟨rfl, fun w' h => ?_⟩; clear h; go_simp) (ak (fun γ => ⟨rfl, fun w' h => ex_loadC h 1 rfl rfl rfl Try.isAgg23 rfl⟩) (ak (by refine fun γ => ⟨rfl, fun w' h => ?_⟩; clear h; go_simp) (ak (fun γ => ⟨rfl, fun w' h => ex_loadC h 1 rfl rfl rfl Try.isAgg23 rfl⟩) (ak (fun γ => ⟨rfl, fun w' h => ⟨69, #[.agg (kd p r c gx gy).toArray, U z, U z], exec_call rfl call69 rfl (mpn rfl), times_any hp z z hz hz w'⟩⟩) (ak (fun _ => ⟨rfl, fun _ _ => rfl⟩) trivial))))))
  intro _ w4 H4
  clear H3
  refine rest0 rfl (then_normal (wp_seq ?_))
  refine walk_anyB 10 [.quiet (.agg (kd p r c gx gy).toArray), .quiet (.agg (kd p r c gx gy).toArray), .quiet (PT γ1_2 0), .quiet (U X), .quiet (U (tm p z z)), .call (U (tm p X (tm p z z))), .quiet (PT γ1_1 0), .quiet (U x), .call (U (jU p x z X)), .quiet (U (jU p x z X))] H4 ?ho5 ?he5
  case ho5 => exact ak (fun γ => ⟨rfl, fun w' h => ex_loadT h 0 rfl rfl rfl Try.isAgg72 Try.sizeOf72 rfl rfl⟩) (ak (fun γ => ⟨rfl, fun w' h => ex_loadT h 0 rfl rfl rfl Try.isAgg72 Try.sizeOf72 rfl rfl⟩) (ak (by refine fun γ => ⟨rfl, fun w' h => ?_⟩; clear h; go_simp) (ak (fun γ => ⟨rfl, fun w' h => ex_loadC h 2 rfl rfl rfl Try.isAgg23 rfl⟩) (ak (fun _ => ⟨rfl, fun _ _ => rfl⟩) (ak (fun γ => ⟨rfl, fun w' h => ⟨69, #[.agg (kd p r c gx gy).toArray, U X, U (tm p z z)], exec_call rfl call69 rfl (mpn rfl), times_any hp X (tm p z z) hX (tm_lt hp) w'⟩⟩) (ak (by refine fun γ => ⟨rfl, fun w' h => ?_⟩; clear h; go_simp) (ak (fun γ => ⟨rfl, fun w' h => ex_loadC h 1 rfl rfl rfl Try.isAgg23 rfl⟩) (ak (fun γ => ⟨rfl, fun w' h => ⟨48, #[.agg (kd p r c gx gy).toArray, U (tm p X (tm p z z)), U x], exec_call rfl call48 rfl (mpn rfl), minus_any hp (tm p X (tm p z z)) x (tm_lt hp) hx w'⟩⟩) (ak (fun _ => ⟨rfl, fun _ _ => rfl⟩) trivial)))))))))
  intro _ w5 H5
  clear H4
  refine rest0 rfl (then_normal (wp_seq ?_))
  refine walk_anyB 14 [.quiet (.agg (kd p r c gx gy).toArray), .quiet (.agg (kd p r c gx gy).toArray), .quiet (PT γ1_2 1), .quiet (U Y), .quiet (.agg (kd p r c gx gy).toArray), .quiet (PT γ1_1 2), .quiet (U z), .quiet (U (tm p z z)), .call (U (tm p z (tm p z z))), .call (U (tm p Y (tm p z (tm p z z)))), .quiet (PT γ1_1 1), .quiet (U y), .call (U (jS p y z Y)), .quiet (U (jS p y z Y))] H5 ?ho6 ?he6
  case ho6 => exact ak (fun γ => ⟨rfl, fun w' h => ex_loadT h 0 rfl rfl rfl Try.isAgg72 Try.sizeOf72 rfl rfl⟩) (ak (fun γ => ⟨rfl, fun w' h => ex_loadT h 0 rfl rfl rfl Try.isAgg72 Try.sizeOf72 rfl rfl⟩) (ak (by refine fun γ => ⟨rfl, fun w' h => ?_⟩; clear h; go_simp) (ak (fun γ => ⟨rfl, fun w' h => ex_loadC h 2 rfl rfl rfl Try.isAgg23 rfl⟩) (ak (fun γ => ⟨rfl, fun w' h => ex_loadT h 0 rfl rfl rfl Try.isAgg72 Try.sizeOf72 rfl rfl⟩) (ak (by refine fun γ => ⟨rfl, fun w' h => ?_⟩; clear h; go_simp) (ak (fun γ => ⟨rfl, fun w' h => ex_loadC h 1 rfl rfl rfl Try.isAgg23 rfl⟩) (ak (fun _ => ⟨rfl, fun _ _ => rfl⟩) (ak (fun γ => ⟨rfl, fun w' h => ⟨69, #[.agg (kd p r c gx gy).toArray, U z, U (tm p z z)], exec_call rfl call69 rfl (mpn rfl), times_any hp z (tm p z z) hz (tm_lt hp) w'⟩⟩) (ak (fun γ => ⟨rfl, fun w' h => ⟨69, #[.agg (kd p r c gx gy).toArray, U Y, U (tm p z (tm p z z))], exec_call rfl call69 rfl (mpn rfl), times_any hp Y (tm p z (tm p z z)) hY (tm_lt hp) w'⟩⟩) (ak (by refine fun γ => ⟨rfl, fun w' h => ?_⟩; clear h; go_simp) (ak (fun γ => ⟨rfl, fun w' h => ex_loadC h 1 rfl rfl rfl Try.isAgg23 rfl⟩) (ak (fun γ => ⟨rfl, fun w' h => ⟨48, #[.agg (kd p r c gx gy).toArray, U (tm p Y (tm p z (tm p z z))), U y], exec_call rfl call48 rfl (mpn rfl), minus_any hp (tm p Y (tm p z (tm p z z))) y (tm_lt hp) hy w'⟩⟩) (ak (fun _ => ⟨rfl, fun _ _ => rfl⟩) trivial)))))))))))))
  intro _ w6 H6
  clear H5
  refine rest0 rfl (then_normal (wp_seq (wp_seq ?_)))
  refine walk_seqB 6 [.quiet (U (jU p x z X)), .quiet (.bool true), .quiet (.bool true), .quiet (U (jS p y z Y)), .quiet (.bool true), .quiet (.bool true)] H6 ?ho7 ?he7
  case ho7 => exact ak (fun _ => ⟨rfl, fun _ _ => rfl⟩) (ak (fun γ => ⟨rfl, fun w' _ => ex_eqU rfl rfl rfl (decide_eq_true (h1))⟩) (ak (fun _ => ⟨rfl, fun _ _ => rfl⟩) (ak (fun _ => ⟨rfl, fun _ _ => rfl⟩) (ak (fun γ => ⟨rfl, fun w' _ => ex_eqU rfl rfl rfl (decide_eq_true (h2))⟩) (ak (by refine fun γ => ⟨rfl, fun w' h => ?_⟩; clear h; go_simp) trivial)))))
  intro _ w7 H7
  clear H6
  refine rest0 rfl (then_normal (wp_cond_true rfl (wp_seq ?_)))
  refine walk_seqB 5 [.quiet (.agg (kd p r c gx gy).toArray), .quiet (.agg (tr x y z).toArray), .call (.tuple #[.agg (tr (tX p x y z) (tY p x y z) (tm p 2 (tm p y z))).toArray, U (tR p x z)]), .quiet (.agg (tr (tX p x y z) (tY p x y z) (tm p 2 (tm p y z))).toArray), .quiet (U (tR p x z))] H7 ?ho8 ?he8
  case ho8 => exact ak (fun γ => ⟨rfl, fun w' h => ex_loadT h 0 rfl rfl rfl Try.isAgg72 Try.sizeOf72 rfl rfl⟩) (ak (fun γ => ⟨rfl, fun w' h => ex_loadT h 1 rfl rfl rfl Try.isAgg77 Try.sizeOf77 rfl rfl⟩) (ak (fun γ => ⟨rfl, fun w' h => ⟨70, #[.agg (kd p r c gx gy).toArray, .agg (tr x y z).toArray], exec_call rfl call70 rfl (mpn rfl), twice_raw hp x y z hx hy hz w'⟩⟩) (ak (by refine fun γ => ⟨rfl, fun w' h => ?_⟩; clear h; go_simp) (ak (by refine fun γ => ⟨rfl, fun w' h => ?_⟩; clear h; go_simp) trivial))))
  intro _ w8 H8
  clear H7
  refine rest_at (l := [5, 6]) rfl ?_
  refine rest_store rfl rfl rfl (ex_storeT (vs := tr (tX p x y z) (tY p x y z) (tm p 2 (tm p y z))) H8.out.1 3 rfl rfl rfl rfl Try.sizeOf77 rfl (Nat.le_of_ble_eq_true rfl)) ?_
  have H9 : Hid (Mm (w8.setCells γ1_3 0 (tr (tX p x y z) (tY p x y z) (tm p 2 (tm p y z)))) [(γ1_0, kd p r c gx gy), (γ1_1, tr x y z), (γ1_2, pt X Y false), (γ1_3, tr (tX p x y z) (tY p x y z) (tm p 2 (tm p y z)))] ∧ Below w.heap.size w (w8.setCells γ1_3 0 (tr (tX p x y z) (tY p x y z) (tm p 2 (tm p y z))))) := ⟨H8.out.1.put 3 (off := 0) (vs := tr (tX p x y z) (tY p x y z) (tm p 2 (tm p y z))) rfl (Nat.le_of_ble_eq_true rfl), below_setCells _ o1_3.out _ _ _ H8.out.2⟩
  clear H8
  generalize hgw : World.setCells _ _ _ _ = w9 at H9 ⊢
  clear hgw
  refine rest_set (d := 7) rfl rfl rfl rfl ?_
  simp only [Act.put, sa, sz, ss]
  refine rest_nil (then_normal (wp_ret ?_))
  repeat (first | refine then_ret ?_ | refine block_ret ?_)
  have hf0 := var_T H9.out.1 3 rfl Try.isAgg77 Try.sizeOf77 rfl
  refine bodyPost_ret (v := .tuple #[.agg (tr (tX p x y z) (tY p x y z) (tm p 2 (tm p y z))).toArray, U (tR p x z)]) (by simp [results, Try.results44, asAddr, Act.eval, hf0]) rfl ?_
  exact ⟨rfl, H9.out.2⟩
set_option maxHeartbeats 1000000 in
set_option maxRecDepth 100000 in
theorem joined_u (hp : Pr p) (x y z : Nat) (hx : x < p) (hy : y < p) (hz : z < p) (X Y : Nat) (hX : X < p) (hY : Y < p) (h : z ≠ 0) (h1 : jU p x z X ≠ 0) (w : World) :
    Calls Try.prog 44 #[.agg (kd p r c gx gy).toArray, .agg (tr x y z).toArray, .agg (pt X Y false).toArray] w fun e w' => e = .returned (.tuple #[V (tr (jX p x (jU p x z X) (jS p y z Y)) (jY p x y (jU p x z X) (jS p y z Y)) (tm p z (jU p x z X))), U (jS p y z Y)]) ∧ Below w.heap.size w w' := by
  have H0 : Hid (_ ∧ _) := ⟨Mm.nil w, Below.refl w.heap.size w⟩
  go_enter Try.func44, Try.ntmps44
  refine wp_seq ?_
  refine walk_seqA 5 [.made (kd p r c gx gy) 72, .made (tr x y z) 77, .made (pt X Y false) 25, .made (tr 0 0 0) 77, .quiet (U 0)] (sB H0) ?ho1 ?he1
  case ho1 => exact ak (fun γ => ⟨rfl, fun w' => ex_boxT rfl rfl⟩) (ak (fun γ => ⟨rfl, fun w' => ex_boxT rfl rfl⟩) (ak (fun γ => ⟨rfl, fun w' => ex_boxT rfl rfl⟩) (ak (fun γ => ⟨rfl, fun w' => ex_made77 rfl⟩) (ak (fun _ => ⟨rfl, fun _ _ => rfl⟩) trivial))))
  intro γ w1 l hM hl
  have H1 : Hid (Mm w1 [(γ 0, kd p r c gx gy), (γ 1, tr x y z), (γ 2, pt X Y false), (γ 3, tr 0 0 0)] ∧ _) := growB H0 hM (Nat.le_refl _) hl [0, 1, 2, 3] rfl (by decide)
  have o1_0 := ownB H0 hM (Nat.le_refl _) hl (i := 0) rfl
  have o1_1 := ownB H0 hM (Nat.le_refl _) hl (i := 1) rfl
  have o1_2 := ownB H0 hM (Nat.le_refl _) hl (i := 2) rfl
  have o1_3 := ownB H0 hM (Nat.le_refl _) hl (i := 3) rfl
  clear hM hl l
  generalize γ 0 = γ1_0 at H1 o1_0 ⊢
  generalize γ 1 = γ1_1 at H1 o1_1 ⊢
  generalize γ 2 = γ1_2 at H1 o1_2 ⊢
  generalize γ 3 = γ1_3 at H1 o1_3 ⊢
  clear γ
  refine rest0 rfl (then_normal (wp_seq (wp_seq ?_)))
  refine walk_seqB 2 [.quiet (PT γ1_2 2), .quiet (.bool false)] H1 ?ho2 ?he2
  case ho2 => exact ak (by refine fun γ => ⟨rfl, fun w' h => ?_⟩; clear h; go_simp) (ak (fun γ => ⟨rfl, fun w' h => ex_loadC h 2 rfl rfl rfl Try.isAgg4 rfl⟩) trivial)
  intro _ w2 H2
  clear H1
  refine rest0 rfl (then_normal (wp_cond_false rfl ?_))
  refine wp_skip (then_normal ?_)
  refine wp_seq (wp_seq ?_)
  refine walk_seqB 3 [.quiet (PT γ1_1 2), .quiet (U z), .quiet (.bool false)] H2 ?ho3 ?he3
  case ho3 => exact ak (by refine fun γ => ⟨rfl, fun w' h => ?_⟩; clear h; go_simp) (ak (fun γ => ⟨rfl, fun w' h => ex_loadC h 1 rfl rfl rfl Try.isAgg23 rfl⟩) (ak (fun γ => ⟨rfl, fun w' _ => ex_eqU rfl rfl rfl (decide_eq_false (h))⟩) trivial))
  intro _ w3 H3
  clear H2
  refine rest0 rfl (then_normal (wp_cond_false rfl ?_))
  refine wp_skip (then_normal (wp_seq ?_))
  refine walk_seqB 7 [.quiet (.agg (kd p r c gx gy).toArray), .quiet (PT γ1_1 2), .quiet (U z), .quiet (PT γ1_1 2), .quiet (U z), .call (U (tm p z z)), .quiet (U (tm p z z))] H3 ?ho4 ?he4
  case ho4 => exact ak (fun γ => ⟨rfl, fun w' h => ex_loadT h 0 rfl rfl rfl Try.isAgg72 Try.sizeOf72 rfl rfl⟩) (ak (by refine fun γ => ⟨rfl, fun w' h => ?_⟩; clear h; go_simp) (ak (fun γ => ⟨rfl, fun w' h => ex_loadC h 1 rfl rfl rfl Try.isAgg23 rfl⟩) (ak (by refine fun γ => ⟨rfl, fun w' h => ?_⟩; clear h; go_simp) (ak (fun γ => ⟨rfl, fun w' h => ex_loadC h 1 rfl rfl rfl Try.isAgg23 rfl⟩) (ak (fun γ => ⟨rfl, fun w' h => ⟨69, #[.agg (kd p r c gx gy).toArray, U z, U z], exec_call rfl call69 rfl (mpn rfl), times_any hp z z hz hz w'⟩⟩) (ak (fun _ => ⟨rfl, fun _ _ => rfl⟩) trivial))))))
  intro _ w4 H4
  clear H3
  refine rest0 rfl (then_normal (wp_seq ?_))
  refine walk_anyB 10 [.quiet (.agg (kd p r c gx gy).toArray), .quiet (.agg (kd p r c gx gy).toArray), .quiet (PT γ1_2 0), .quiet (U X), .quiet (U (tm p z z)), .call (U (tm p X (tm p z z))), .quiet (PT γ1_1 0), .quiet (U x), .call (U (jU p x z X)), .quiet (U (jU p x z X))] H4 ?ho5 ?he5
  case ho5 => exact ak (fun γ => ⟨rfl, fun w' h => ex_loadT h 0 rfl rfl rfl Try.isAgg72 Try.sizeOf72 rfl rfl⟩) (ak (fun γ => ⟨rfl, fun w' h => ex_loadT h 0 rfl rfl rfl Try.isAgg72 Try.sizeOf72 rfl rfl⟩) (ak (by refine fun γ => ⟨rfl, fun w' h => ?_⟩; clear h; go_simp) (ak (fun γ => ⟨rfl, fun w' h => ex_loadC h 2 rfl rfl rfl Try.isAgg23 rfl⟩) (ak (fun _ => ⟨rfl, fun _ _ => rfl⟩) (ak (fun γ => ⟨rfl, fun w' h => ⟨69, #[.agg (kd p r c gx gy).toArray, U X, U (tm p z z)], exec_call rfl call69 rfl (mpn rfl), times_any hp X (tm p z z) hX (tm_lt hp) w'⟩⟩) (ak (by refine fun γ => ⟨rfl, fun w' h => ?_⟩; clear h; go_simp) (ak (fun γ => ⟨rfl, fun w' h => ex_loadC h 1 rfl rfl rfl Try.isAgg23 rfl⟩) (ak (fun γ => ⟨rfl, fun w' h => ⟨48, #[.agg (kd p r c gx gy).toArray, U (tm p X (tm p z z)), U x], exec_call rfl call48 rfl (mpn rfl), minus_any hp (tm p X (tm p z z)) x (tm_lt hp) hx w'⟩⟩) (ak (fun _ => ⟨rfl, fun _ _ => rfl⟩) trivial)))))))))
  intro _ w5 H5
  clear H4
  refine rest0 rfl (then_normal (wp_seq ?_))
  refine walk_anyB 14 [.quiet (.agg (kd p r c gx gy).toArray), .quiet (.agg (kd p r c gx gy).toArray), .quiet (PT γ1_2 1), .quiet (U Y), .quiet (.agg (kd p r c gx gy).toArray), .quiet (PT γ1_1 2), .quiet (U z), .quiet (U (tm p z z)), .call (U (tm p z (tm p z z))), .call (U (tm p Y (tm p z (tm p z z)))), .quiet (PT γ1_1 1), .quiet (U y), .call (U (jS p y z Y)), .quiet (U (jS p y z Y))] H5 ?ho6 ?he6
  case ho6 => exact ak (fun γ => ⟨rfl, fun w' h => ex_loadT h 0 rfl rfl rfl Try.isAgg72 Try.sizeOf72 rfl rfl⟩) (ak (fun γ => ⟨rfl, fun w' h => ex_loadT h 0 rfl rfl rfl Try.isAgg72 Try.sizeOf72 rfl rfl⟩) (ak (by refine fun γ => ⟨rfl, fun w' h => ?_⟩; clear h; go_simp) (ak (fun γ => ⟨rfl, fun w' h => ex_loadC h 2 rfl rfl rfl Try.isAgg23 rfl⟩) (ak (fun γ => ⟨rfl, fun w' h => ex_loadT h 0 rfl rfl rfl Try.isAgg72 Try.sizeOf72 rfl rfl⟩) (ak (by refine fun γ => ⟨rfl, fun w' h => ?_⟩; clear h; go_simp) (ak (fun γ => ⟨rfl, fun w' h => ex_loadC h 1 rfl rfl rfl Try.isAgg23 rfl⟩) (ak (fun _ => ⟨rfl, fun _ _ => rfl⟩) (ak (fun γ => ⟨rfl, fun w' h => ⟨69, #[.agg (kd p r c gx gy).toArray, U z, U (tm p z z)], exec_call rfl call69 rfl (mpn rfl), times_any hp z (tm p z z) hz (tm_lt hp) w'⟩⟩) (ak (fun γ => ⟨rfl, fun w' h => ⟨69, #[.agg (kd p r c gx gy).toArray, U Y, U (tm p z (tm p z z))], exec_call rfl call69 rfl (mpn rfl), times_any hp Y (tm p z (tm p z z)) hY (tm_lt hp) w'⟩⟩) (ak (by refine fun γ => ⟨rfl, fun w' h => ?_⟩; clear h; go_simp) (ak (fun γ => ⟨rfl, fun w' h => ex_loadC h 1 rfl rfl rfl Try.isAgg23 rfl⟩) (ak (fun γ => ⟨rfl, fun w' h => ⟨48, #[.agg (kd p r c gx gy).toArray, U (tm p Y (tm p z (tm p z z))), U y], exec_call rfl call48 rfl (mpn rfl), minus_any hp (tm p Y (tm p z (tm p z z))) y (tm_lt hp) hy w'⟩⟩) (ak (fun _ => ⟨rfl, fun _ _ => rfl⟩) trivial)))))))))))))
  intro _ w6 H6
  clear H5
  refine rest0 rfl (then_normal (wp_seq (wp_seq ?_)))
  refine walk_seqB 6 [.quiet (U (jU p x z X)), .quiet (.bool false), .quiet (.bool false), .gone, .gone, .quiet (.bool false)] H6 ?ho7 ?he7
  case ho7 => exact ak (fun _ => ⟨rfl, fun _ _ => rfl⟩) (ak (fun γ => ⟨rfl, fun w' _ => ex_eqU rfl rfl rfl (decide_eq_false (h1))⟩) (ak (fun _ => ⟨rfl, fun _ _ => rfl⟩) (ak (fun γ => rfl) (ak (fun γ => rfl) (ak (by refine fun γ => ⟨rfl, fun w' h => ?_⟩; clear h; go_simp) trivial)))))
  intro _ w7 H7
  clear H6
  refine rest0 rfl (then_normal (wp_cond_false rfl ?_))
  refine wp_skip (then_normal (wp_seq ?_))
  refine walk_seqB 5 [.quiet (.agg (kd p r c gx gy).toArray), .quiet (U (jU p x z X)), .quiet (U (jU p x z X)), .call (U (tm p (jU p x z X) (jU p x z X))), .quiet (U (tm p (jU p x z X) (jU p x z X)))] H7 ?ho8 ?he8
  case ho8 => exact ak (fun γ => ⟨rfl, fun w' h => ex_loadT h 0 rfl rfl rfl Try.isAgg72 Try.sizeOf72 rfl rfl⟩) (ak (fun _ => ⟨rfl, fun _ _ => rfl⟩) (ak (fun _ => ⟨rfl, fun _ _ => rfl⟩) (ak (fun γ => ⟨rfl, fun w' h => ⟨69, #[.agg (kd p r c gx gy).toArray, U (jU p x z X), U (jU p x z X)], exec_call rfl call69 rfl (mpn rfl), times_any hp (jU p x z X) (jU p x z X) (mi_lt hp) (mi_lt hp) w'⟩⟩) (ak (fun _ => ⟨rfl, fun _ _ => rfl⟩) trivial))))
  intro _ w8 H8
  clear H7
  refine rest0 rfl (then_normal (wp_seq ?_))
  refine walk_seqB 5 [.quiet (.agg (kd p r c gx gy).toArray), .quiet (U (tm p (jU p x z X) (jU p x z X))), .quiet (U (jU p x z X)), .call (U (jC p (jU p x z X))), .quiet (U (jC p (jU p x z X)))] H8 ?ho9 ?he9
  case ho9 => exact ak (fun γ => ⟨rfl, fun w' h => ex_loadT h 0 rfl rfl rfl Try.isAgg72 Try.sizeOf72 rfl rfl⟩) (ak (fun _ => ⟨rfl, fun _ _ => rfl⟩) (ak (fun _ => ⟨rfl, fun _ _ => rfl⟩) (ak (fun γ => ⟨rfl, fun w' h => ⟨69, #[.agg (kd p r c gx gy).toArray, U (tm p (jU p x z X) (jU p x z X)), U (jU p x z X)], exec_call rfl call69 rfl (mpn rfl), times_any hp (tm p (jU p x z X) (jU p x z X)) (jU p x z X) (tm_lt hp) (mi_lt hp) w'⟩⟩) (ak (fun _ => ⟨rfl, fun _ _ => rfl⟩) trivial))))
  intro _ w9 H9
  clear H8
  refine rest0 rfl (then_normal (wp_seq ?_))
  refine walk_seqB 6 [.quiet (.agg (kd p r c gx gy).toArray), .quiet (PT γ1_1 0), .quiet (U x), .quiet (U (tm p (jU p x z X) (jU p x z X))), .call (U (jM p x (jU p x z X))), .quiet (U (jM p x (jU p x z X)))] H9 ?ho10 ?he10
  case ho10 => exact ak (fun γ => ⟨rfl, fun w' h => ex_loadT h 0 rfl rfl rfl Try.isAgg72 Try.sizeOf72 rfl rfl⟩) (ak (by refine fun γ => ⟨rfl, fun w' h => ?_⟩; clear h; go_simp) (ak (fun γ => ⟨rfl, fun w' h => ex_loadC h 1 rfl rfl rfl Try.isAgg23 rfl⟩) (ak (fun _ => ⟨rfl, fun _ _ => rfl⟩) (ak (fun γ => ⟨rfl, fun w' h => ⟨69, #[.agg (kd p r c gx gy).toArray, U x, U (tm p (jU p x z X) (jU p x z X))], exec_call rfl call69 rfl (mpn rfl), times_any hp x (tm p (jU p x z X) (jU p x z X)) hx (tm_lt hp) w'⟩⟩) (ak (fun _ => ⟨rfl, fun _ _ => rfl⟩) trivial)))))
  intro _ w10 H10
  clear H9
  refine rest0 rfl (then_normal (wp_seq ?_))
  refine walk_anyB 14 [.quiet (.agg (kd p r c gx gy).toArray), .quiet (.agg (kd p r c gx gy).toArray), .quiet (.agg (kd p r c gx gy).toArray), .quiet (U (jS p y z Y)), .quiet (U (jS p y z Y)), .call (U (tm p (jS p y z Y) (jS p y z Y))), .quiet (U (jC p (jU p x z X))), .call (U (mi p (tm p (jS p y z Y) (jS p y z Y)) (jC p (jU p x z X)))), .quiet (.agg (kd p r c gx gy).toArray), .quiet (U (jM p x (jU p x z X))), .quiet (U (jM p x (jU p x z X))), .call (U (pl p (jM p x (jU p x z X)) (jM p x (jU p x z X)))), .call (U (jX p x (jU p x z X) (jS p y z Y))), .quiet (U (jX p x (jU p x z X) (jS p y z Y)))] H10 ?ho11 ?he11
  case ho11 => exact ak (fun γ => ⟨rfl, fun w' h => ex_loadT h 0 rfl rfl rfl Try.isAgg72 Try.sizeOf72 rfl rfl⟩) (ak (fun γ => ⟨rfl, fun w' h => ex_loadT h 0 rfl rfl rfl Try.isAgg72 Try.sizeOf72 rfl rfl⟩) (ak (fun γ => ⟨rfl, fun w' h => ex_loadT h 0 rfl rfl rfl Try.isAgg72 Try.sizeOf72 rfl rfl⟩) (ak (fun _ => ⟨rfl, fun _ _ => rfl⟩) (ak (fun _ => ⟨rfl, fun _ _ => rfl⟩) (ak (fun γ => ⟨rfl, fun w' h => ⟨69, #[.agg (kd p r c gx gy).toArray, U (jS p y z Y), U (jS p y z Y)], exec_call rfl call69 rfl (mpn rfl), times_any hp (jS p y z Y) (jS p y z Y) (mi_lt hp) (mi_lt hp) w'⟩⟩) (ak (fun _ => ⟨rfl, fun _ _ => rfl⟩) (ak (fun γ => ⟨rfl, fun w' h => ⟨48, #[.agg (kd p r c gx gy).toArray, U (tm p (jS p y z Y) (jS p y z Y)), U (jC p (jU p x z X))], exec_call rfl call48 rfl (mpn rfl), minus_any hp (tm p (jS p y z Y) (jS p y z Y)) (jC p (jU p x z X)) (tm_lt hp) (tm_lt hp) w'⟩⟩) (ak (fun γ => ⟨rfl, fun w' h => ex_loadT h 0 rfl rfl rfl Try.isAgg72 Try.sizeOf72 rfl rfl⟩) (ak (fun _ => ⟨rfl, fun _ _ => rfl⟩) (ak (fun _ => ⟨rfl, fun _ _ => rfl⟩) (ak (fun γ => ⟨rfl, fun w' h => ⟨71, #[.agg (kd p r c gx gy).toArray, U (jM p x (jU p x z X)), U (jM p x (jU p x z X))], exec_call rfl call71 rfl (mpn rfl), plus_any hp (jM p x (jU p x z X)) (jM p x (jU p x z X)) (tm_lt hp) (tm_lt hp) w'⟩⟩) (ak (fun γ => ⟨rfl, fun w' h => ⟨48, #[.agg (kd p r c gx gy).toArray, U (mi p (tm p (jS p y z Y) (jS p y z Y)) (jC p (jU p x z X))), U (pl p (jM p x (jU p x z X)) (jM p x (jU p x z X)))], exec_call rfl call48 rfl (mpn rfl), minus_any hp (mi p (tm p (jS p y z Y) (jS p y z Y)) (jC p (jU p x z X))) (pl p (jM p x (jU p x z X)) (jM p x (jU p x z X))) (mi_lt hp) (pl_lt hp) w'⟩⟩) (ak (fun _ => ⟨rfl, fun _ _ => rfl⟩) trivial)))))))))))))
  intro _ w11 H11
  clear H10
  refine rest0 rfl (then_normal (wp_seq ?_))
  refine walk_put (by kernel_rfl) 22 [21] [.quiet (U (jX p x (jU p x z X) (jS p y z Y))), .quiet (.agg (kd p r c gx gy).toArray), .quiet (.agg (kd p r c gx gy).toArray), .quiet (U (jS p y z Y)), .quiet (.agg (kd p r c gx gy).toArray), .quiet (U (jM p x (jU p x z X))), .quiet (U (jX p x (jU p x z X) (jS p y z Y))), .call (U (mi p (jM p x (jU p x z X)) (jX p x (jU p x z X) (jS p y z Y)))), .call (U (tm p (jS p y z Y) (mi p (jM p x (jU p x z X)) (jX p x (jU p x z X) (jS p y z Y))))), .quiet (.agg (kd p r c gx gy).toArray), .quiet (PT γ1_1 1), .quiet (U y), .quiet (U (jC p (jU p x z X))), .call (U (tm p y (jC p (jU p x z X)))), .call (U (mi p (tm p (jS p y z Y) (mi p (jM p x (jU p x z X)) (jX p x (jU p x z X) (jS p y z Y)))) (tm p y (jC p (jU p x z X))))), .quiet (.agg (kd p r c gx gy).toArray), .quiet (PT γ1_1 2), .quiet (U z), .quiet (U (jU p x z X)), .call (U (tm p z (jU p x z X))), .quiet (.agg (tr (jX p x (jU p x z X) (jS p y z Y)) (mi p (tm p (jS p y z Y) (mi p (jM p x (jU p x z X)) (jX p x (jU p x z X) (jS p y z Y)))) (tm p y (jC p (jU p x z X)))) (tm p z (jU p x z X))).toArray), .quiet (U (jS p y z Y))] _ ?pre12 ?F12 _ ?hpre12 (fun γ => ?hF12) (by kernel_rfl) rfl trivial (sB H11) ?ho12 ?hla12 ?he12
  case hpre12 => simp only [tk, tz]; rfl
  case hF12 => simp only [fill, Kind.val, Act.put, sa, sz, ss]; rfl
  case ho12 =>
    refine ak (fun _ => ⟨rfl, fun _ _ => rfl⟩) ?_
    refine ak (fun γ => ⟨rfl, fun w' h => ex_loadT h 0 rfl rfl rfl Try.isAgg72 Try.sizeOf72 rfl rfl⟩) ?_
    refine ak (fun γ => ⟨rfl, fun w' h => ex_loadT h 0 rfl rfl rfl Try.isAgg72 Try.sizeOf72 rfl rfl⟩) ?_
    refine ak (fun _ => ⟨rfl, fun _ _ => rfl⟩) ?_
    refine ak (fun γ => ⟨rfl, fun w' h => ex_loadT h 0 rfl rfl rfl Try.isAgg72 Try.sizeOf72 rfl rfl⟩) ?_
    refine ak (fun _ => ⟨rfl, fun _ _ => rfl⟩) ?_
    refine ak (fun _ => ⟨rfl, fun _ _ => rfl⟩) ?_
    refine ak (fun γ => ⟨rfl, fun w' h => ⟨48, #[.agg (kd p r c gx gy).toArray, U (jM p x (jU p x z X)), U (jX p x (jU p x z X) (jS p y z Y))], exec_call rfl call48 rfl (mpn rfl), minus_any hp (jM p x (jU p x z X)) (jX p x (jU p x z X) (jS p y z Y)) (tm_lt hp) (mi_lt hp) w'⟩⟩) ?_
    refine ak (fun γ => ⟨rfl, fun w' h => ⟨69, #[.agg (kd p r c gx gy).toArray, U (jS p y z Y), U (mi p (jM p x (jU p x z X)) (jX p x (jU p x z X) (jS p y z Y)))], exec_call rfl call69 rfl (mpn rfl), times_any hp (jS p y z Y) (mi p (jM p x (jU p x z X)) (jX p x (jU p x z X) (jS p y z Y))) (mi_lt hp) (mi_lt hp) w'⟩⟩) ?_
    refine ak (fun γ => ⟨rfl, fun w' h => ex_loadT h 0 rfl rfl rfl Try.isAgg72 Try.sizeOf72 rfl rfl⟩) ?_
    refine ak (by refine fun γ => ⟨rfl, fun w' h => ?_⟩; clear h; go_simp) ?_
    refine ak (fun γ => ⟨rfl, fun w' h => ex_loadC h 1 rfl rfl rfl Try.isAgg23 rfl⟩) ?_
    refine ak (fun _ => ⟨rfl, fun _ _ => rfl⟩) ?_
    refine ak (fun γ => ⟨rfl, fun w' h => ⟨69, #[.agg (kd p r c gx gy).toArray, U y, U (jC p (jU p x z X))], exec_call rfl call69 rfl (mpn rfl), times_any hp y (jC p (jU p x z X)) hy (tm_lt hp) w'⟩⟩) ?_
    refine ak (fun γ => ⟨rfl, fun w' h => ⟨48, #[.agg (kd p r c gx gy).toArray, U (tm p (jS p y z Y) (mi p (jM p x (jU p x z X)) (jX p x (jU p x z X) (jS p y z Y)))), U (tm p y (jC p (jU p x z X)))], exec_call rfl call48 rfl (mpn rfl), minus_any hp (tm p (jS p y z Y) (mi p (jM p x (jU p x z X)) (jX p x (jU p x z X) (jS p y z Y)))) (tm p y (jC p (jU p x z X))) (tm_lt hp) (tm_lt hp) w'⟩⟩) ?_
    refine ak (fun γ => ⟨rfl, fun w' h => ex_loadT h 0 rfl rfl rfl Try.isAgg72 Try.sizeOf72 rfl rfl⟩) ?_
    refine ak (by refine fun γ => ⟨rfl, fun w' h => ?_⟩; clear h; go_simp) ?_
    refine ak (fun γ => ⟨rfl, fun w' h => ex_loadC h 1 rfl rfl rfl Try.isAgg23 rfl⟩) ?_
    refine ak (fun _ => ⟨rfl, fun _ _ => rfl⟩) ?_
    refine ak (fun γ => ⟨rfl, fun w' h => ⟨69, #[.agg (kd p r c gx gy).toArray, U z, U (jU p x z X)], exec_call rfl call69 rfl (mpn rfl), times_any hp z (jU p x z X) hz (mi_lt hp) w'⟩⟩) ?_
    refine ak (fun γ => ⟨rfl, fun w' _ => ex_build77_012 rfl rfl rfl rfl⟩) ?_
    refine ak (fun _ => ⟨rfl, fun _ _ => rfl⟩) ?_
    exact trivial
  case hla12 => exact ⟨⟨_, _, rfl, rfl, fun γ => ⟨rfl, fun w' => by first | rfl | go_simp⟩⟩, trivial⟩
  intro γ w12 l hM hl
  have H12 := keepB H11 hM.below
  clear hM hl l H11 γ
  refine ⟨_, ex_storeT (vs := tr (jX p x (jU p x z X) (jS p y z Y)) (mi p (tm p (jS p y z Y) (mi p (jM p x (jU p x z X)) (jX p x (jU p x z X) (jS p y z Y)))) (tm p y (jC p (jU p x z X)))) (tm p z (jU p x z X))) H12.out.1 3 rfl rfl rfl rfl Try.sizeOf77 rfl (Nat.le_of_ble_eq_true rfl), ?_⟩
  have H13 : Hid (Mm (w12.setCells γ1_3 0 (tr (jX p x (jU p x z X) (jS p y z Y)) (mi p (tm p (jS p y z Y) (mi p (jM p x (jU p x z X)) (jX p x (jU p x z X) (jS p y z Y)))) (tm p y (jC p (jU p x z X)))) (tm p z (jU p x z X)))) [(γ1_0, kd p r c gx gy), (γ1_1, tr x y z), (γ1_2, pt X Y false), (γ1_3, tr (jX p x (jU p x z X) (jS p y z Y)) (mi p (tm p (jS p y z Y) (mi p (jM p x (jU p x z X)) (jX p x (jU p x z X) (jS p y z Y)))) (tm p y (jC p (jU p x z X)))) (tm p z (jU p x z X)))] ∧ Below w.heap.size w (w12.setCells γ1_3 0 (tr (jX p x (jU p x z X) (jS p y z Y)) (mi p (tm p (jS p y z Y) (mi p (jM p x (jU p x z X)) (jX p x (jU p x z X) (jS p y z Y)))) (tm p y (jC p (jU p x z X)))) (tm p z (jU p x z X))))) := ⟨H12.out.1.put 3 (off := 0) (vs := tr (jX p x (jU p x z X) (jS p y z Y)) (mi p (tm p (jS p y z Y) (mi p (jM p x (jU p x z X)) (jX p x (jU p x z X) (jS p y z Y)))) (tm p y (jC p (jU p x z X)))) (tm p z (jU p x z X))) rfl (Nat.le_of_ble_eq_true rfl), below_setCells _ o1_3.out _ _ _ H12.out.2⟩
  clear H12
  generalize hgw : World.setCells _ _ _ _ = w13 at H13 ⊢
  clear hgw
  refine rest_at (l := [23]) rfl ?_
  refine rest_set (d := 7) rfl rfl rfl rfl ?_
  simp only [Act.put, sa, sz, ss]
  refine rest_nil (then_normal (wp_ret ?_))
  repeat (first | refine then_ret ?_ | refine block_ret ?_)
  have hf0 := var_T H13.out.1 3 rfl Try.isAgg77 Try.sizeOf77 rfl
  refine bodyPost_ret (v := .tuple #[.agg (tr (jX p x (jU p x z X) (jS p y z Y)) (mi p (tm p (jS p y z Y) (mi p (jM p x (jU p x z X)) (jX p x (jU p x z X) (jS p y z Y)))) (tm p y (jC p (jU p x z X)))) (tm p z (jU p x z X))).toArray, U (jS p y z Y)]) (by simp [results, Try.results44, asAddr, Act.eval, hf0]) rfl ?_
  exact ⟨rfl, H13.out.2⟩
set_option maxHeartbeats 1000000 in
set_option maxRecDepth 100000 in
theorem joined_s (hp : Pr p) (x y z : Nat) (hx : x < p) (hy : y < p) (hz : z < p) (X Y : Nat) (hX : X < p) (hY : Y < p) (h : z ≠ 0) (h1 : jU p x z X = 0) (h2 : jS p y z Y ≠ 0) (w : World) :
    Calls Try.prog 44 #[.agg (kd p r c gx gy).toArray, .agg (tr x y z).toArray, .agg (pt X Y false).toArray] w fun e w' => e = .returned (.tuple #[V (tr (jX p x (jU p x z X) (jS p y z Y)) (jY p x y (jU p x z X) (jS p y z Y)) (tm p z (jU p x z X))), U (jS p y z Y)]) ∧ Below w.heap.size w w' := by
  have H0 : Hid (_ ∧ _) := ⟨Mm.nil w, Below.refl w.heap.size w⟩
  go_enter Try.func44, Try.ntmps44
  refine wp_seq ?_
  refine walk_seqA 5 [.made (kd p r c gx gy) 72, .made (tr x y z) 77, .made (pt X Y false) 25, .made (tr 0 0 0) 77, .quiet (U 0)] (sB H0) ?ho1 ?he1
  case ho1 => exact ak (fun γ => ⟨rfl, fun w' => ex_boxT rfl rfl⟩) (ak (fun γ => ⟨rfl, fun w' => ex_boxT rfl rfl⟩) (ak (fun γ => ⟨rfl, fun w' => ex_boxT rfl rfl⟩) (ak (fun γ => ⟨rfl, fun w' => ex_made77 rfl⟩) (ak (fun _ => ⟨rfl, fun _ _ => rfl⟩) trivial))))
  intro γ w1 l hM hl
  have H1 : Hid (Mm w1 [(γ 0, kd p r c gx gy), (γ 1, tr x y z), (γ 2, pt X Y false), (γ 3, tr 0 0 0)] ∧ _) := growB H0 hM (Nat.le_refl _) hl [0, 1, 2, 3] rfl (by decide)
  have o1_0 := ownB H0 hM (Nat.le_refl _) hl (i := 0) rfl
  have o1_1 := ownB H0 hM (Nat.le_refl _) hl (i := 1) rfl
  have o1_2 := ownB H0 hM (Nat.le_refl _) hl (i := 2) rfl
  have o1_3 := ownB H0 hM (Nat.le_refl _) hl (i := 3) rfl
  clear hM hl l
  generalize γ 0 = γ1_0 at H1 o1_0 ⊢
  generalize γ 1 = γ1_1 at H1 o1_1 ⊢
  generalize γ 2 = γ1_2 at H1 o1_2 ⊢
  generalize γ 3 = γ1_3 at H1 o1_3 ⊢
  clear γ
  refine rest0 rfl (then_normal (wp_seq (wp_seq ?_)))
  refine walk_seqB 2 [.quiet (PT γ1_2 2), .quiet (.bool false)] H1 ?ho2 ?he2
  case ho2 => exact ak (by refine fun γ => ⟨rfl, fun w' h => ?_⟩; clear h; go_simp) (ak (fun γ => ⟨rfl, fun w' h => ex_loadC h 2 rfl rfl rfl Try.isAgg4 rfl⟩) trivial)
  intro _ w2 H2
  clear H1
  refine rest0 rfl (then_normal (wp_cond_false rfl ?_))
  refine wp_skip (then_normal ?_)
  refine wp_seq (wp_seq ?_)
  refine walk_seqB 3 [.quiet (PT γ1_1 2), .quiet (U z), .quiet (.bool false)] H2 ?ho3 ?he3
  case ho3 => exact ak (by refine fun γ => ⟨rfl, fun w' h => ?_⟩; clear h; go_simp) (ak (fun γ => ⟨rfl, fun w' h => ex_loadC h 1 rfl rfl rfl Try.isAgg23 rfl⟩) (ak (fun γ => ⟨rfl, fun w' _ => ex_eqU rfl rfl rfl (decide_eq_false (h))⟩) trivial))
  intro _ w3 H3
  clear H2
  refine rest0 rfl (then_normal (wp_cond_false rfl ?_))
  refine wp_skip (then_normal (wp_seq ?_))
  refine walk_seqB 7 [.quiet (.agg (kd p r c gx gy).toArray), .quiet (PT γ1_1 2), .quiet (U z), .quiet (PT γ1_1 2), .quiet (U z), .call (U (tm p z z)), .quiet (U (tm p z z))] H3 ?ho4 ?he4
  case ho4 => exact ak (fun γ => ⟨rfl, fun w' h => ex_loadT h 0 rfl rfl rfl Try.isAgg72 Try.sizeOf72 rfl rfl⟩) (ak (by refine fun γ => ⟨rfl, fun w' h => ?_⟩; clear h; go_simp) (ak (fun γ => ⟨rfl, fun w' h => ex_loadC h 1 rfl rfl rfl Try.isAgg23 rfl⟩) (ak (by refine fun γ => ⟨rfl, fun w' h => ?_⟩; clear h; go_simp) (ak (fun γ => ⟨rfl, fun w' h => ex_loadC h 1 rfl rfl rfl Try.isAgg23 rfl⟩) (ak (fun γ => ⟨rfl, fun w' h => ⟨69, #[.agg (kd p r c gx gy).toArray, U z, U z], exec_call rfl call69 rfl (mpn rfl), times_any hp z z hz hz w'⟩⟩) (ak (fun _ => ⟨rfl, fun _ _ => rfl⟩) trivial))))))
  intro _ w4 H4
  clear H3
  refine rest0 rfl (then_normal (wp_seq ?_))
  refine walk_anyB 10 [.quiet (.agg (kd p r c gx gy).toArray), .quiet (.agg (kd p r c gx gy).toArray), .quiet (PT γ1_2 0), .quiet (U X), .quiet (U (tm p z z)), .call (U (tm p X (tm p z z))), .quiet (PT γ1_1 0), .quiet (U x), .call (U (jU p x z X)), .quiet (U (jU p x z X))] H4 ?ho5 ?he5
  case ho5 => exact ak (fun γ => ⟨rfl, fun w' h => ex_loadT h 0 rfl rfl rfl Try.isAgg72 Try.sizeOf72 rfl rfl⟩) (ak (fun γ => ⟨rfl, fun w' h => ex_loadT h 0 rfl rfl rfl Try.isAgg72 Try.sizeOf72 rfl rfl⟩) (ak (by refine fun γ => ⟨rfl, fun w' h => ?_⟩; clear h; go_simp) (ak (fun γ => ⟨rfl, fun w' h => ex_loadC h 2 rfl rfl rfl Try.isAgg23 rfl⟩) (ak (fun _ => ⟨rfl, fun _ _ => rfl⟩) (ak (fun γ => ⟨rfl, fun w' h => ⟨69, #[.agg (kd p r c gx gy).toArray, U X, U (tm p z z)], exec_call rfl call69 rfl (mpn rfl), times_any hp X (tm p z z) hX (tm_lt hp) w'⟩⟩) (ak (by refine fun γ => ⟨rfl, fun w' h => ?_⟩; clear h; go_simp) (ak (fun γ => ⟨rfl, fun w' h => ex_loadC h 1 rfl rfl rfl Try.isAgg23 rfl⟩) (ak (fun γ => ⟨rfl, fun w' h => ⟨48, #[.agg (kd p r c gx gy).toArray, U (tm p X (tm p z z)), U x], exec_call rfl call48 rfl (mpn rfl), minus_any hp (tm p X (tm p z z)) x (tm_lt hp) hx w'⟩⟩) (ak (fun _ => ⟨rfl, fun _ _ => rfl⟩) trivial)))))))))
  intro _ w5 H5
  clear H4
  refine rest0 rfl (then_normal (wp_seq ?_))
  refine walk_anyB 14 [.quiet (.agg (kd p r c gx gy).toArray), .quiet (.agg (kd p r c gx gy).toArray), .quiet (PT γ1_2 1), .quiet (U Y), .quiet (.agg (kd p r c gx gy).toArray), .quiet (PT γ1_1 2), .quiet (U z), .quiet (U (tm p z z)), .call (U (tm p z (tm p z z))), .call (U (tm p Y (tm p z (tm p z z)))), .quiet (PT γ1_1 1), .quiet (U y), .call (U (jS p y z Y)), .quiet (U (jS p y z Y))] H5 ?ho6 ?he6
  case ho6 => exact ak (fun γ => ⟨rfl, fun w' h => ex_loadT h 0 rfl rfl rfl Try.isAgg72 Try.sizeOf72 rfl rfl⟩) (ak (fun γ => ⟨rfl, fun w' h => ex_loadT h 0 rfl rfl rfl Try.isAgg72 Try.sizeOf72 rfl rfl⟩) (ak (by refine fun γ => ⟨rfl, fun w' h => ?_⟩; clear h; go_simp) (ak (fun γ => ⟨rfl, fun w' h => ex_loadC h 2 rfl rfl rfl Try.isAgg23 rfl⟩) (ak (fun γ => ⟨rfl, fun w' h => ex_loadT h 0 rfl rfl rfl Try.isAgg72 Try.sizeOf72 rfl rfl⟩) (ak (by refine fun γ => ⟨rfl, fun w' h => ?_⟩; clear h; go_simp) (ak (fun γ => ⟨rfl, fun w' h => ex_loadC h 1 rfl rfl rfl Try.isAgg23 rfl⟩) (ak (fun _ => ⟨rfl, fun _ _ => rfl⟩) (ak (fun γ => ⟨rfl, fun w' h => ⟨69, #[.agg (kd p r c gx gy).toArray, U z, U (tm p z z)], exec_call rfl call69 rfl (mpn rfl), times_any hp z (tm p z z) hz (tm_lt hp) w'⟩⟩) (ak (fun γ => ⟨rfl, fun w' h => ⟨69, #[.agg (kd p r c gx gy).toArray, U Y, U (tm p z (tm p z z))], exec_call rfl call69 rfl (mpn rfl), times_any hp Y (tm p z (tm p z z)) hY (tm_lt hp) w'⟩⟩) (ak (by refine fun γ => ⟨rfl, fun w' h => ?_⟩; clear h; go_simp) (ak (fun γ => ⟨rfl, fun w' h => ex_loadC h 1 rfl rfl rfl Try.isAgg23 rfl⟩) (ak (fun γ => ⟨rfl, fun w' h => ⟨48, #[.agg (kd p r c gx gy).toArray, U (tm p Y (tm p z (tm p z z))), U y], exec_call rfl call48 rfl (mpn rfl), minus_any hp (tm p Y (tm p z (tm p z z))) y (tm_lt hp) hy w'⟩⟩) (ak (fun _ => ⟨rfl, fun _ _ => rfl⟩) trivial)))))))))))))
  intro _ w6 H6
  clear H5
  refine rest0 rfl (then_normal (wp_seq (wp_seq ?_)))
  refine walk_seqB 6 [.quiet (U (jU p x z X)), .quiet (.bool true), .quiet (.bool true), .quiet (U (jS p y z Y)), .quiet (.bool false), .quiet (.bool false)] H6 ?ho7 ?he7
  case ho7 => exact ak (fun _ => ⟨rfl, fun _ _ => rfl⟩) (ak (fun γ => ⟨rfl, fun w' _ => ex_eqU rfl rfl rfl (decide_eq_true (h1))⟩) (ak (fun _ => ⟨rfl, fun _ _ => rfl⟩) (ak (fun _ => ⟨rfl, fun _ _ => rfl⟩) (ak (fun γ => ⟨rfl, fun w' _ => ex_eqU rfl rfl rfl (decide_eq_false (h2))⟩) (ak (by refine fun γ => ⟨rfl, fun w' h => ?_⟩; clear h; go_simp) trivial)))))
  intro _ w7 H7
  clear H6
  refine rest0 rfl (then_normal (wp_cond_false rfl ?_))
  refine wp_skip (then_normal (wp_seq ?_))
  refine walk_seqB 5 [.quiet (.agg (kd p r c gx gy).toArray), .quiet (U (jU p x z X)), .quiet (U (jU p x z X)), .call (U (tm p (jU p x z X) (jU p x z X))), .quiet (U (tm p (jU p x z X) (jU p x z X)))] H7 ?ho8 ?he8
  case ho8 => exact ak (fun γ => ⟨rfl, fun w' h => ex_loadT h 0 rfl rfl rfl Try.isAgg72 Try.sizeOf72 rfl rfl⟩) (ak (fun _ => ⟨rfl, fun _ _ => rfl⟩) (ak (fun _ => ⟨rfl, fun _ _ => rfl⟩) (ak (fun γ => ⟨rfl, fun w' h => ⟨69, #[.agg (kd p r c gx gy).toArray, U (jU p x z X), U (jU p x z X)], exec_call rfl call69 rfl (mpn rfl), times_any hp (jU p x z X) (jU p x z X) (mi_lt hp) (mi_lt hp) w'⟩⟩) (ak (fun _ => ⟨rfl, fun _ _ => rfl⟩) trivial))))
  intro _ w8 H8
  clear H7
  refine rest0 rfl (then_normal (wp_seq ?_))
  refine walk_seqB 5 [.quiet (.agg (kd p r c gx gy).toArray), .quiet (U (tm p (jU p x z X) (jU p x z X))), .quiet (U (jU p x z X)), .call (U (jC p (jU p x z X))), .quiet (U (jC p (jU p x z X)))] H8 ?ho9 ?he9
  case ho9 => exact ak (fun γ => ⟨rfl, fun w' h => ex_loadT h 0 rfl rfl rfl Try.isAgg72 Try.sizeOf72 rfl rfl⟩) (ak (fun _ => ⟨rfl, fun _ _ => rfl⟩) (ak (fun _ => ⟨rfl, fun _ _ => rfl⟩) (ak (fun γ => ⟨rfl, fun w' h => ⟨69, #[.agg (kd p r c gx gy).toArray, U (tm p (jU p x z X) (jU p x z X)), U (jU p x z X)], exec_call rfl call69 rfl (mpn rfl), times_any hp (tm p (jU p x z X) (jU p x z X)) (jU p x z X) (tm_lt hp) (mi_lt hp) w'⟩⟩) (ak (fun _ => ⟨rfl, fun _ _ => rfl⟩) trivial))))
  intro _ w9 H9
  clear H8
  refine rest0 rfl (then_normal (wp_seq ?_))
  refine walk_seqB 6 [.quiet (.agg (kd p r c gx gy).toArray), .quiet (PT γ1_1 0), .quiet (U x), .quiet (U (tm p (jU p x z X) (jU p x z X))), .call (U (jM p x (jU p x z X))), .quiet (U (jM p x (jU p x z X)))] H9 ?ho10 ?he10
  case ho10 => exact ak (fun γ => ⟨rfl, fun w' h => ex_loadT h 0 rfl rfl rfl Try.isAgg72 Try.sizeOf72 rfl rfl⟩) (ak (by refine fun γ => ⟨rfl, fun w' h => ?_⟩; clear h; go_simp) (ak (fun γ => ⟨rfl, fun w' h => ex_loadC h 1 rfl rfl rfl Try.isAgg23 rfl⟩) (ak (fun _ => ⟨rfl, fun _ _ => rfl⟩) (ak (fun γ => ⟨rfl, fun w' h => ⟨69, #[.agg (kd p r c gx gy).toArray, U x, U (tm p (jU p x z X) (jU p x z X))], exec_call rfl call69 rfl (mpn rfl), times_any hp x (tm p (jU p x z X) (jU p x z X)) hx (tm_lt hp) w'⟩⟩) (ak (fun _ => ⟨rfl, fun _ _ => rfl⟩) trivial)))))
  intro _ w10 H10
  clear H9
  refine rest0 rfl (then_normal (wp_seq ?_))
  refine walk_anyB 14 [.quiet (.agg (kd p r c gx gy).toArray), .quiet (.agg (kd p r c gx gy).toArray), .quiet (.agg (kd p r c gx gy).toArray), .quiet (U (jS p y z Y)), .quiet (U (jS p y z Y)), .call (U (tm p (jS p y z Y) (jS p y z Y))), .quiet (U (jC p (jU p x z X))), .call (U (mi p (tm p (jS p y z Y) (jS p y z Y)) (jC p (jU p x z X)))), .quiet (.agg (kd p r c gx gy).toArray), .quiet (U (jM p x (jU p x z X))), .quiet (U (jM p x (jU p x z X))), .call (U (pl p (jM p x (jU p x z X)) (jM p x (jU p x z X)))), .call (U (jX p x (jU p x z X) (jS p y z Y))), .quiet (U (jX p x (jU p x z X) (jS p y z Y)))] H10 ?ho11 ?he11
  case ho11 => exact ak (fun γ => ⟨rfl, fun w' h => ex_loadT h 0 rfl rfl rfl Try.isAgg72 Try.sizeOf72 rfl rfl⟩) (ak (fun γ => ⟨rfl, fun w' h => ex_loadT h 0 rfl rfl rfl Try.isAgg72 Try.sizeOf72 rfl rfl⟩) (ak (fun γ => ⟨rfl, fun w' h => ex_loadT h 0 rfl rfl rfl Try.isAgg72 Try.sizeOf72 rfl rfl⟩) (ak (fun _ => ⟨rfl, fun _ _ => rfl⟩) (ak (fun _ => ⟨rfl, fun _ _ => rfl⟩) (ak (fun γ => ⟨rfl, fun w' h => ⟨69, #[.agg (kd p r c gx gy).toArray, U (jS p y z Y), U (jS p y z Y)], exec_call rfl call69 rfl (mpn rfl), times_any hp (jS p y z Y) (jS p y z Y) (mi_lt hp) (mi_lt hp) w'⟩⟩) (ak (fun _ => ⟨rfl, fun _ _ => rfl⟩) (ak (fun γ => ⟨rfl, fun w' h => ⟨48, #[.agg (kd p r c gx gy).toArray, U (tm p (jS p y z Y) (jS p y z Y)), U (jC p (jU p x z X))], exec_call rfl call48 rfl (mpn rfl), minus_any hp (tm p (jS p y z Y) (jS p y z Y)) (jC p (jU p x z X)) (tm_lt hp) (tm_lt hp) w'⟩⟩) (ak (fun γ => ⟨rfl, fun w' h => ex_loadT h 0 rfl rfl rfl Try.isAgg72 Try.sizeOf72 rfl rfl⟩) (ak (fun _ => ⟨rfl, fun _ _ => rfl⟩) (ak (fun _ => ⟨rfl, fun _ _ => rfl⟩) (ak (fun γ => ⟨rfl, fun w' h => ⟨71, #[.agg (kd p r c gx gy).toArray, U (jM p x (jU p x z X)), U (jM p x (jU p x z X))], exec_call rfl call71 rfl (mpn rfl), plus_any hp (jM p x (jU p x z X)) (jM p x (jU p x z X)) (tm_lt hp) (tm_lt hp) w'⟩⟩) (ak (fun γ => ⟨rfl, fun w' h => ⟨48, #[.agg (kd p r c gx gy).toArray, U (mi p (tm p (jS p y z Y) (jS p y z Y)) (jC p (jU p x z X))), U (pl p (jM p x (jU p x z X)) (jM p x (jU p x z X)))], exec_call rfl call48 rfl (mpn rfl), minus_any hp (mi p (tm p (jS p y z Y) (jS p y z Y)) (jC p (jU p x z X))) (pl p (jM p x (jU p x z X)) (jM p x (jU p x z X))) (mi_lt hp) (pl_lt hp) w'⟩⟩) (ak (fun _ => ⟨rfl, fun _ _ => rfl⟩) trivial)))))))))))))
  intro _ w11 H11
  clear H10
  refine rest0 rfl (then_normal (wp_seq ?_))
  refine walk_put (by kernel_rfl) 22 [21] [.quiet (U (jX p x (jU p x z X) (jS p y z Y))), .quiet (.agg (kd p r c gx gy).toArray), .quiet (.agg (kd p r c gx gy).toArray), .quiet (U (jS p y z Y)), .quiet (.agg (kd p r c gx gy).toArray), .quiet (U (jM p x (jU p x z X))), .quiet (U (jX p x (jU p x z X) (jS p y z Y))), .call (U (mi p (jM p x (jU p x z X)) (jX p x (jU p x z X) (jS p y z Y)))), .call (U (tm p (jS p y z Y) (mi p (jM p x (jU p x z X)) (jX p x (jU p x z X) (jS p y z Y))))), .quiet (.agg (kd p r c gx gy).toArray), .quiet (PT γ1_1 1), .quiet (U y), .quiet (U (jC p (jU p x z X))), .call (U (tm p y (jC p (jU p x z X)))), .call (U (mi p (tm p (jS p y z Y) (mi p (jM p x (jU p x z X)) (jX p x (jU p x z X) (jS p y z Y)))) (tm p y (jC p (jU p x z X))))), .quiet (.agg (kd p r c gx gy).toArray), .quiet (PT γ1_1 2), .quiet (U z), .quiet (U (jU p x z X)), .call (U (tm p z (jU p x z X))), .quiet (.agg (tr (jX p x (jU p x z X) (jS p y z Y)) (mi p (tm p (jS p y z Y) (mi p (jM p x (jU p x z X)) (jX p x (jU p x z X) (jS p y z Y)))) (tm p y (jC p (jU p x z X)))) (tm p z (jU p x z X))).toArray), .quiet (U (jS p y z Y))] _ ?pre12 ?F12 _ ?hpre12 (fun γ => ?hF12) (by kernel_rfl) rfl trivial (sB H11) ?ho12 ?hla12 ?he12
  case hpre12 => simp only [tk, tz]; rfl
  case hF12 => simp only [fill, Kind.val, Act.put, sa, sz, ss]; rfl
  case ho12 =>
    refine ak (fun _ => ⟨rfl, fun _ _ => rfl⟩) ?_
    refine ak (fun γ => ⟨rfl, fun w' h => ex_loadT h 0 rfl rfl rfl Try.isAgg72 Try.sizeOf72 rfl rfl⟩) ?_
    refine ak (fun γ => ⟨rfl, fun w' h => ex_loadT h 0 rfl rfl rfl Try.isAgg72 Try.sizeOf72 rfl rfl⟩) ?_
    refine ak (fun _ => ⟨rfl, fun _ _ => rfl⟩) ?_
    refine ak (fun γ => ⟨rfl, fun w' h => ex_loadT h 0 rfl rfl rfl Try.isAgg72 Try.sizeOf72 rfl rfl⟩) ?_
    refine ak (fun _ => ⟨rfl, fun _ _ => rfl⟩) ?_
    refine ak (fun _ => ⟨rfl, fun _ _ => rfl⟩) ?_
    refine ak (fun γ => ⟨rfl, fun w' h => ⟨48, #[.agg (kd p r c gx gy).toArray, U (jM p x (jU p x z X)), U (jX p x (jU p x z X) (jS p y z Y))], exec_call rfl call48 rfl (mpn rfl), minus_any hp (jM p x (jU p x z X)) (jX p x (jU p x z X) (jS p y z Y)) (tm_lt hp) (mi_lt hp) w'⟩⟩) ?_
    refine ak (fun γ => ⟨rfl, fun w' h => ⟨69, #[.agg (kd p r c gx gy).toArray, U (jS p y z Y), U (mi p (jM p x (jU p x z X)) (jX p x (jU p x z X) (jS p y z Y)))], exec_call rfl call69 rfl (mpn rfl), times_any hp (jS p y z Y) (mi p (jM p x (jU p x z X)) (jX p x (jU p x z X) (jS p y z Y))) (mi_lt hp) (mi_lt hp) w'⟩⟩) ?_
    refine ak (fun γ => ⟨rfl, fun w' h => ex_loadT h 0 rfl rfl rfl Try.isAgg72 Try.sizeOf72 rfl rfl⟩) ?_
    refine ak (by refine fun γ => ⟨rfl, fun w' h => ?_⟩; clear h; go_simp) ?_
    refine ak (fun γ => ⟨rfl, fun w' h => ex_loadC h 1 rfl rfl rfl Try.isAgg23 rfl⟩) ?_
    refine ak (fun _ => ⟨rfl, fun _ _ => rfl⟩) ?_
    refine ak (fun γ => ⟨rfl, fun w' h => ⟨69, #[.agg (kd p r c gx gy).toArray, U y, U (jC p (jU p x z X))], exec_call rfl call69 rfl (mpn rfl), times_any hp y (jC p (jU p x z X)) hy (tm_lt hp) w'⟩⟩) ?_
    refine ak (fun γ => ⟨rfl, fun w' h => ⟨48, #[.agg (kd p r c gx gy).toArray, U (tm p (jS p y z Y) (mi p (jM p x (jU p x z X)) (jX p x (jU p x z X) (jS p y z Y)))), U (tm p y (jC p (jU p x z X)))], exec_call rfl call48 rfl (mpn rfl), minus_any hp (tm p (jS p y z Y) (mi p (jM p x (jU p x z X)) (jX p x (jU p x z X) (jS p y z Y)))) (tm p y (jC p (jU p x z X))) (tm_lt hp) (tm_lt hp) w'⟩⟩) ?_
    refine ak (fun γ => ⟨rfl, fun w' h => ex_loadT h 0 rfl rfl rfl Try.isAgg72 Try.sizeOf72 rfl rfl⟩) ?_
    refine ak (by refine fun γ => ⟨rfl, fun w' h => ?_⟩; clear h; go_simp) ?_
    refine ak (fun γ => ⟨rfl, fun w' h => ex_loadC h 1 rfl rfl rfl Try.isAgg23 rfl⟩) ?_
    refine ak (fun _ => ⟨rfl, fun _ _ => rfl⟩) ?_
    refine ak (fun γ => ⟨rfl, fun w' h => ⟨69, #[.agg (kd p r c gx gy).toArray, U z, U (jU p x z X)], exec_call rfl call69 rfl (mpn rfl), times_any hp z (jU p x z X) hz (mi_lt hp) w'⟩⟩) ?_
    refine ak (fun γ => ⟨rfl, fun w' _ => ex_build77_012 rfl rfl rfl rfl⟩) ?_
    refine ak (fun _ => ⟨rfl, fun _ _ => rfl⟩) ?_
    exact trivial
  case hla12 => exact ⟨⟨_, _, rfl, rfl, fun γ => ⟨rfl, fun w' => by first | rfl | go_simp⟩⟩, trivial⟩
  intro γ w12 l hM hl
  have H12 := keepB H11 hM.below
  clear hM hl l H11 γ
  refine ⟨_, ex_storeT (vs := tr (jX p x (jU p x z X) (jS p y z Y)) (mi p (tm p (jS p y z Y) (mi p (jM p x (jU p x z X)) (jX p x (jU p x z X) (jS p y z Y)))) (tm p y (jC p (jU p x z X)))) (tm p z (jU p x z X))) H12.out.1 3 rfl rfl rfl rfl Try.sizeOf77 rfl (Nat.le_of_ble_eq_true rfl), ?_⟩
  have H13 : Hid (Mm (w12.setCells γ1_3 0 (tr (jX p x (jU p x z X) (jS p y z Y)) (mi p (tm p (jS p y z Y) (mi p (jM p x (jU p x z X)) (jX p x (jU p x z X) (jS p y z Y)))) (tm p y (jC p (jU p x z X)))) (tm p z (jU p x z X)))) [(γ1_0, kd p r c gx gy), (γ1_1, tr x y z), (γ1_2, pt X Y false), (γ1_3, tr (jX p x (jU p x z X) (jS p y z Y)) (mi p (tm p (jS p y z Y) (mi p (jM p x (jU p x z X)) (jX p x (jU p x z X) (jS p y z Y)))) (tm p y (jC p (jU p x z X)))) (tm p z (jU p x z X)))] ∧ Below w.heap.size w (w12.setCells γ1_3 0 (tr (jX p x (jU p x z X) (jS p y z Y)) (mi p (tm p (jS p y z Y) (mi p (jM p x (jU p x z X)) (jX p x (jU p x z X) (jS p y z Y)))) (tm p y (jC p (jU p x z X)))) (tm p z (jU p x z X))))) := ⟨H12.out.1.put 3 (off := 0) (vs := tr (jX p x (jU p x z X) (jS p y z Y)) (mi p (tm p (jS p y z Y) (mi p (jM p x (jU p x z X)) (jX p x (jU p x z X) (jS p y z Y)))) (tm p y (jC p (jU p x z X)))) (tm p z (jU p x z X))) rfl (Nat.le_of_ble_eq_true rfl), below_setCells _ o1_3.out _ _ _ H12.out.2⟩
  clear H12
  generalize hgw : World.setCells _ _ _ _ = w13 at H13 ⊢
  clear hgw
  refine rest_at (l := [23]) rfl ?_
  refine rest_set (d := 7) rfl rfl rfl rfl ?_
  simp only [Act.put, sa, sz, ss]
  refine rest_nil (then_normal (wp_ret ?_))
  repeat (first | refine then_ret ?_ | refine block_ret ?_)
  have hf0 := var_T H13.out.1 3 rfl Try.isAgg77 Try.sizeOf77 rfl
  refine bodyPost_ret (v := .tuple #[.agg (tr (jX p x (jU p x z X) (jS p y z Y)) (mi p (tm p (jS p y z Y) (mi p (jM p x (jU p x z X)) (jX p x (jU p x z X) (jS p y z Y)))) (tm p y (jC p (jU p x z X)))) (tm p z (jU p x z X))).toArray, U (jS p y z Y)]) (by simp [results, Try.results44, asAddr, Act.eval, hf0]) rfl ?_
  exact ⟨rfl, H13.out.2⟩
theorem joined_any (hp : Pr p) (t : T3) (ht : Lt3 p t) (X Y : Nat) (Z : Bool) (hX : X < p) (hY : Y < p) (w : World) : Calls Try.prog 44 #[.agg (kd p r c gx gy).toArray, .agg (tr t.1 t.2.1 t.2.2).toArray, .agg (pt X Y Z).toArray] w fun e w' => e = .returned (.tuple #[V (tc (jnT p t X Y Z)), U (jnR p t X Y Z)]) ∧ Below w.heap.size w w' := by
  cases Z
  · by_cases h : t.2.2 = 0
    · rw [jnT_0 h, jnR_0 h]; exact joined_0 _ _ _ X Y h w
    · by_cases h1 : jU p t.1 t.2.2 X = 0
      · by_cases h2 : jS p t.2.1 t.2.2 Y = 0
        · rw [jnT_s h ⟨h1, h2⟩, jnR_s h ⟨h1, h2⟩]; exact joined_same hp _ _ _ ht.x ht.y ht.z X Y hX hY h h1 h2 w
        · rw [jnT_g h (fun e => h2 e.2), jnR_g h (fun e => h2 e.2)]; exact joined_s hp _ _ _ ht.x ht.y ht.z X Y hX hY h h1 h2 w
      · rw [jnT_g h (fun e => h1 e.1), jnR_g h (fun e => h1 e.1)]; exact joined_u hp _ _ _ ht.x ht.y ht.z X Y hX hY h h1 w
  · exact joined_z _ _ _ X Y w
set_option maxRecDepth 100000 in
theorem point_0 (x y z : Nat) (h : z = 0) (w : World) :
    Calls Try.prog 46 #[.agg (kd p r c gx gy).toArray, .agg (tr x y z).toArray] w fun e w' => e = .returned (V (pt 0 0 true)) ∧ Below w.heap.size w w' := by
  have H0 : Hid (_ ∧ _) := ⟨Mm.nil w, Below.refl w.heap.size w⟩
  go_enter Try.func46, Try.ntmps46
  refine wp_seq ?_
  refine walk_seqA 3 [.made (kd p r c gx gy) 72, .made (tr x y z) 77, .made (pt 0 0 false) 25] (sB H0) ?ho1 ?he1
  case ho1 => exact ak (fun γ => ⟨rfl, fun w' => ex_boxT rfl rfl⟩) (ak (fun γ => ⟨rfl, fun w' => ex_boxT rfl rfl⟩) (ak (fun γ => ⟨rfl, fun w' => ex_made25 rfl⟩) trivial))
  intro γ w1 l hM hl
  have H1 : Hid (Mm w1 [(γ 0, kd p r c gx gy), (γ 1, tr x y z), (γ 2, pt 0 0 false)] ∧ _) := growB H0 hM (Nat.le_refl _) hl [0, 1, 2] rfl (by decide)
  have o1_0 := ownB H0 hM (Nat.le_refl _) hl (i := 0) rfl
  have o1_1 := ownB H0 hM (Nat.le_refl _) hl (i := 1) rfl
  have o1_2 := ownB H0 hM (Nat.le_refl _) hl (i := 2) rfl
  clear hM hl l
  generalize γ 0 = γ1_0 at H1 o1_0 ⊢
  generalize γ 1 = γ1_1 at H1 o1_1 ⊢
  generalize γ 2 = γ1_2 at H1 o1_2 ⊢
  clear γ
  refine rest0 rfl (then_normal (wp_seq (wp_seq ?_)))
  refine walk_seqB 3 [.quiet (PT γ1_1 2), .quiet (U z), .quiet (.bool true)] H1 ?ho2 ?he2
  case ho2 => exact ak (by refine fun γ => ⟨rfl, fun w' h => ?_⟩; clear h; go_simp) (ak (fun γ => ⟨rfl, fun w' h => ex_loadC h 1 rfl rfl rfl Try.isAgg23 rfl⟩) (ak (fun γ => ⟨rfl, fun w' _ => ex_eqU rfl rfl rfl (decide_eq_true (h))⟩) trivial))
  intro _ w2 H2
  clear H1
  refine rest0 rfl (then_normal (wp_cond_true rfl (wp_seq ?_)))
  refine walk_seqB 1 [.quiet (.agg (pt 0 0 true).toArray)] H2 ?ho3 ?he3
  case ho3 => exact ak (fun γ => ⟨rfl, fun w' _ => ex_build25_2 rfl rfl⟩) trivial
  intro _ w3 H3
  clear H2
  refine rest_at (l := [1]) rfl ?_
  refine rest_store rfl rfl rfl (ex_storeT (vs := pt 0 0 true) H3.out.1 2 rfl rfl rfl rfl Try.sizeOf25 rfl (Nat.le_of_ble_eq_true rfl)) ?_
  have H4 : Hid (Mm (w3.setCells γ1_2 0 (pt 0 0 true)) [(γ1_0, kd p r c gx gy), (γ1_1, tr x y z), (γ1_2, pt 0 0 true)] ∧ Below w.heap.size w (w3.setCells γ1_2 0 (pt 0 0 true))) := ⟨H3.out.1.put 2 (off := 0) (vs := pt 0 0 true) rfl (Nat.le_of_ble_eq_true rfl), below_setCells _ o1_2.out _ _ _ H3.out.2⟩
  clear H3
  generalize hgw : World.setCells _ _ _ _ = w4 at H4 ⊢
  clear hgw
  refine rest_nil (then_normal (wp_ret ?_))
  repeat (first | refine then_ret ?_ | refine block_ret ?_)
  have hf0 := var_T H4.out.1 2 rfl Try.isAgg25 Try.sizeOf25 rfl
  refine bodyPost_ret (v := .agg (pt 0 0 true).toArray) (by simp [results, Try.results46, asAddr, hf0]) rfl ?_
  exact ⟨rfl, H4.out.2⟩
set_option maxRecDepth 100000 in
theorem point_1 (hp : Pr p) (x y z : Nat) (hx : x < p) (hy : y < p) (hz : z < p) (h : z ≠ 0) (w : World) :
    Calls Try.prog 46 #[.agg (kd p r c gx gy).toArray, .agg (tr x y z).toArray] w fun e w' => e = .returned (V (pt (tm p x (tm p (pw p z (p - 2)) (pw p z (p - 2)))) (tm p y (tm p (tm p (pw p z (p - 2)) (pw p z (p - 2))) (pw p z (p - 2)))) false)) ∧ Below w.heap.size w w' := by
  have H0 : Hid (_ ∧ _) := ⟨Mm.nil w, Below.refl w.heap.size w⟩
  go_enter Try.func46, Try.ntmps46
  refine wp_seq ?_
  refine walk_seqA 3 [.made (kd p r c gx gy) 72, .made (tr x y z) 77, .made (pt 0 0 false) 25] (sB H0) ?ho1 ?he1
  case ho1 => exact ak (fun γ => ⟨rfl, fun w' => ex_boxT rfl rfl⟩) (ak (fun γ => ⟨rfl, fun w' => ex_boxT rfl rfl⟩) (ak (fun γ => ⟨rfl, fun w' => ex_made25 rfl⟩) trivial))
  intro γ w1 l hM hl
  have H1 : Hid (Mm w1 [(γ 0, kd p r c gx gy), (γ 1, tr x y z), (γ 2, pt 0 0 false)] ∧ _) := growB H0 hM (Nat.le_refl _) hl [0, 1, 2] rfl (by decide)
  have o1_0 := ownB H0 hM (Nat.le_refl _) hl (i := 0) rfl
  have o1_1 := ownB H0 hM (Nat.le_refl _) hl (i := 1) rfl
  have o1_2 := ownB H0 hM (Nat.le_refl _) hl (i := 2) rfl
  clear hM hl l
  generalize γ 0 = γ1_0 at H1 o1_0 ⊢
  generalize γ 1 = γ1_1 at H1 o1_1 ⊢
  generalize γ 2 = γ1_2 at H1 o1_2 ⊢
  clear γ
  refine rest0 rfl (then_normal (wp_seq (wp_seq ?_)))
  refine walk_seqB 3 [.quiet (PT γ1_1 2), .quiet (U z), .quiet (.bool false)] H1 ?ho2 ?he2
  case ho2 => exact ak (by refine fun γ => ⟨rfl, fun w' h => ?_⟩; clear h; go_simp) (ak (fun γ => ⟨rfl, fun w' h => ex_loadC h 1 rfl rfl rfl Try.isAgg23 rfl⟩) (ak (fun γ => ⟨rfl, fun w' _ => ex_eqU rfl rfl rfl (decide_eq_false (h))⟩) trivial))
  intro _ w2 H2
  clear H1
  refine rest0 rfl (then_normal (wp_cond_false rfl ?_))
  refine wp_skip (then_normal (wp_seq ?_))
  refine walk_seqB 5 [.quiet (.agg (kd p r c gx gy).toArray), .quiet (PT γ1_1 2), .quiet (U z), .call (U (pw p z (p - 2))), .quiet (U (pw p z (p - 2)))] H2 ?ho3 ?he3
  case ho3 => exact ak (fun γ => ⟨rfl, fun w' h => ex_loadT h 0 rfl rfl rfl Try.isAgg72 Try.sizeOf72 rfl rfl⟩) (ak (by refine fun γ => ⟨rfl, fun w' h => ?_⟩; clear h; go_simp) (ak (fun γ => ⟨rfl, fun w' h => ex_loadC h 1 rfl rfl rfl Try.isAgg23 rfl⟩) (ak (fun γ => ⟨rfl, fun w' h => ⟨72, #[.agg (kd p r c gx gy).toArray, U z], exec_call rfl call72 rfl (mpn rfl), inverse_any hp z hz w'⟩⟩) (ak (fun _ => ⟨rfl, fun _ _ => rfl⟩) trivial))))
  intro _ w3 H3
  clear H2
  refine rest0 rfl (then_normal (wp_seq ?_))
  refine walk_seqB 5 [.quiet (.agg (kd p r c gx gy).toArray), .quiet (U (pw p z (p - 2))), .quiet (U (pw p z (p - 2))), .call (U (tm p (pw p z (p - 2)) (pw p z (p - 2)))), .quiet (U (tm p (pw p z (p - 2)) (pw p z (p - 2))))] H3 ?ho4 ?he4
  case ho4 => exact ak (fun γ => ⟨rfl, fun w' h => ex_loadT h 0 rfl rfl rfl Try.isAgg72 Try.sizeOf72 rfl rfl⟩) (ak (fun _ => ⟨rfl, fun _ _ => rfl⟩) (ak (fun _ => ⟨rfl, fun _ _ => rfl⟩) (ak (fun γ => ⟨rfl, fun w' h => ⟨69, #[.agg (kd p r c gx gy).toArray, U (pw p z (p - 2)), U (pw p z (p - 2))], exec_call rfl call69 rfl (mpn rfl), times_any hp (pw p z (p - 2)) (pw p z (p - 2)) (pw_lt hp) (pw_lt hp) w'⟩⟩) (ak (fun _ => ⟨rfl, fun _ _ => rfl⟩) trivial))))
  intro _ w4 H4
  clear H3
  refine rest0 rfl (then_normal (wp_seq ?_))
  refine walk_anyB 14 [.quiet (.agg (kd p r c gx gy).toArray), .quiet (PT γ1_1 0), .quiet (U x), .quiet (U (tm p (pw p z (p - 2)) (pw p z (p - 2)))), .call (U (tm p x (tm p (pw p z (p - 2)) (pw p z (p - 2))))), .quiet (.agg (kd p r c gx gy).toArray), .quiet (PT γ1_1 1), .quiet (U y), .quiet (.agg (kd p r c gx gy).toArray), .quiet (U (tm p (pw p z (p - 2)) (pw p z (p - 2)))), .quiet (U (pw p z (p - 2))), .call (U (tm p (tm p (pw p z (p - 2)) (pw p z (p - 2))) (pw p z (p - 2)))), .call (U (tm p y (tm p (tm p (pw p z (p - 2)) (pw p z (p - 2))) (pw p z (p - 2))))), .quiet (.agg (pt (tm p x (tm p (pw p z (p - 2)) (pw p z (p - 2)))) (tm p y (tm p (tm p (pw p z (p - 2)) (pw p z (p - 2))) (pw p z (p - 2)))) false).toArray)] H4 ?ho5 ?he5
  case ho5 => exact ak (fun γ => ⟨rfl, fun w' h => ex_loadT h 0 rfl rfl rfl Try.isAgg72 Try.sizeOf72 rfl rfl⟩) (ak (by refine fun γ => ⟨rfl, fun w' h => ?_⟩; clear h; go_simp) (ak (fun γ => ⟨rfl, fun w' h => ex_loadC h 1 rfl rfl rfl Try.isAgg23 rfl⟩) (ak (fun _ => ⟨rfl, fun _ _ => rfl⟩) (ak (fun γ => ⟨rfl, fun w' h => ⟨69, #[.agg (kd p r c gx gy).toArray, U x, U (tm p (pw p z (p - 2)) (pw p z (p - 2)))], exec_call rfl call69 rfl (mpn rfl), times_any hp x (tm p (pw p z (p - 2)) (pw p z (p - 2))) hx (tm_lt hp) w'⟩⟩) (ak (fun γ => ⟨rfl, fun w' h => ex_loadT h 0 rfl rfl rfl Try.isAgg72 Try.sizeOf72 rfl rfl⟩) (ak (by refine fun γ => ⟨rfl, fun w' h => ?_⟩; clear h; go_simp) (ak (fun γ => ⟨rfl, fun w' h => ex_loadC h 1 rfl rfl rfl Try.isAgg23 rfl⟩) (ak (fun γ => ⟨rfl, fun w' h => ex_loadT h 0 rfl rfl rfl Try.isAgg72 Try.sizeOf72 rfl rfl⟩) (ak (fun _ => ⟨rfl, fun _ _ => rfl⟩) (ak (fun _ => ⟨rfl, fun _ _ => rfl⟩) (ak (fun γ => ⟨rfl, fun w' h => ⟨69, #[.agg (kd p r c gx gy).toArray, U (tm p (pw p z (p - 2)) (pw p z (p - 2))), U (pw p z (p - 2))], exec_call rfl call69 rfl (mpn rfl), times_any hp (tm p (pw p z (p - 2)) (pw p z (p - 2))) (pw p z (p - 2)) (tm_lt hp) (pw_lt hp) w'⟩⟩) (ak (fun γ => ⟨rfl, fun w' h => ⟨69, #[.agg (kd p r c gx gy).toArray, U y, U (tm p (tm p (pw p z (p - 2)) (pw p z (p - 2))) (pw p z (p - 2)))], exec_call rfl call69 rfl (mpn rfl), times_any hp y (tm p (tm p (pw p z (p - 2)) (pw p z (p - 2))) (pw p z (p - 2))) hy (tm_lt hp) w'⟩⟩) (ak (fun γ => ⟨rfl, fun w' _ => ex_build25_01 rfl rfl rfl⟩) trivial)))))))))))))
  intro _ w5 H5
  clear H4
  refine rest_at (l := [14]) rfl ?_
  refine rest_store rfl rfl rfl (ex_storeT (vs := pt (tm p x (tm p (pw p z (p - 2)) (pw p z (p - 2)))) (tm p y (tm p (tm p (pw p z (p - 2)) (pw p z (p - 2))) (pw p z (p - 2)))) false) H5.out.1 2 rfl rfl rfl rfl Try.sizeOf25 rfl (Nat.le_of_ble_eq_true rfl)) ?_
  have H6 : Hid (Mm (w5.setCells γ1_2 0 (pt (tm p x (tm p (pw p z (p - 2)) (pw p z (p - 2)))) (tm p y (tm p (tm p (pw p z (p - 2)) (pw p z (p - 2))) (pw p z (p - 2)))) false)) [(γ1_0, kd p r c gx gy), (γ1_1, tr x y z), (γ1_2, pt (tm p x (tm p (pw p z (p - 2)) (pw p z (p - 2)))) (tm p y (tm p (tm p (pw p z (p - 2)) (pw p z (p - 2))) (pw p z (p - 2)))) false)] ∧ Below w.heap.size w (w5.setCells γ1_2 0 (pt (tm p x (tm p (pw p z (p - 2)) (pw p z (p - 2)))) (tm p y (tm p (tm p (pw p z (p - 2)) (pw p z (p - 2))) (pw p z (p - 2)))) false))) := ⟨H5.out.1.put 2 (off := 0) (vs := pt (tm p x (tm p (pw p z (p - 2)) (pw p z (p - 2)))) (tm p y (tm p (tm p (pw p z (p - 2)) (pw p z (p - 2))) (pw p z (p - 2)))) false) rfl (Nat.le_of_ble_eq_true rfl), below_setCells _ o1_2.out _ _ _ H5.out.2⟩
  clear H5
  generalize hgw : World.setCells _ _ _ _ = w6 at H6 ⊢
  clear hgw
  refine rest_nil (then_normal (wp_ret ?_))
  repeat (first | refine then_ret ?_ | refine block_ret ?_)
  have hf0 := var_T H6.out.1 2 rfl Try.isAgg25 Try.sizeOf25 rfl
  refine bodyPost_ret (v := .agg (pt (tm p x (tm p (pw p z (p - 2)) (pw p z (p - 2)))) (tm p y (tm p (tm p (pw p z (p - 2)) (pw p z (p - 2))) (pw p z (p - 2)))) false).toArray) (by simp [results, Try.results46, asAddr, hf0]) rfl ?_
  exact ⟨rfl, H6.out.2⟩
theorem point_any (hp : Pr p) (t : T3) (ht : Lt3 p t) (w : World) : Calls Try.prog 46 #[.agg (kd p r c gx gy).toArray, .agg (tr t.1 t.2.1 t.2.2).toArray] w fun e w' => e = .returned (V (pt (pX p t) (pY p t) (pZ t))) ∧ Below w.heap.size w w' := by
  obtain ⟨x, y, z⟩ := t
  unfold pX pY pZ
  by_cases h : z = 0
  · rw [if_pos h, if_pos h, decide_eq_true h]; exact point_0 x y z h w
  · rw [if_neg h, if_neg h, decide_eq_false h]; exact point_1 hp x y z ht.x ht.y ht.z h w
end
end Rg
end Go.Proofs.Ytjmbgchoioepjaa
end
section
namespace Go.Proofs.Ytjmbgchoioepjaa
open Go.RowKit
namespace Rg
theorem len_in (n : Nat) (hn : n < 18446744073709551616) (w : World) : Calls Try.prog 57 #[U n] w fun e w' => e = .returned (.int .i64 ((bl n : Nat) : Int)) ∧ Below w.heap.size w w' := by
  have h := len64_any (n : Int) w (by omega) (by omega)
  rw [Int.toNat_natCast] at h
  exact Calls.mono h (fun e w' h => ⟨h.1, by rw [h.2]; exact Below.refl _ _⟩)
theorem call44 : ∀ args w, (callFunc 44 args).run Try.prog w = .ok (.enter 44 args) w := by intro args w; go_simp
theorem call47 : ∀ args w, (callFunc 47 args).run Try.prog w = .ok (.enter 47 args) w := by intro args w; go_simp
theorem call50 : ∀ args w, (callFunc 50 args).run Try.prog w = .ok (.enter 50 args) w := by intro args w; go_simp
theorem call57 : ∀ args w, (callFunc 57 args).run Try.prog w = .ok (.enter 57 args) w := by intro args w; go_simp
section
variable {p r c gx gy : Nat}
set_option maxHeartbeats 1000000 in
set_option maxRecDepth 100000 in
theorem multiple_any (hp : Pr p) (X Y : Nat) (Z : Bool) (hX : X < p) (hY : Y < p) (n : Nat) (hn : n < 18446744073709551616) (w : World) :
    Calls Try.prog 47 #[.agg (kd p r c gx gy).toArray, .agg (pt X Y Z).toArray, U n] w fun e w' => e = .returned (V (tc (mt p X Y Z n))) ∧ Below w.heap.size w w' := by
  have H0 : Hid (_ ∧ _) := ⟨Mm.nil w, Below.refl w.heap.size w⟩
  go_enter Try.func47, Try.ntmps47
  refine wp_seq ?_
  refine walk_seqA 3 [.made (kd p r c gx gy) 72, .made (pt X Y Z) 25, .made (tr 0 0 0) 77] (sB H0) ?ho1 ?he1
  case ho1 => exact ak (fun γ => ⟨rfl, fun w' => ex_boxT rfl rfl⟩) (ak (fun γ => ⟨rfl, fun w' => ex_boxT rfl rfl⟩) (ak (fun γ => ⟨rfl, fun w' => ex_made77 rfl⟩) trivial))
  intro γ w1 l hM hl
  have H1 : Hid (Mm w1 [(γ 0, kd p r c gx gy), (γ 1, pt X Y Z), (γ 2, tr 0 0 0)] ∧ _) := growB H0 hM (Nat.le_refl _) hl [0, 1, 2] rfl (by decide)
  have o1_0 := ownB H0 hM (Nat.le_refl _) hl (i := 0) rfl
  have o1_1 := ownB H0 hM (Nat.le_refl _) hl (i := 1) rfl
  have o1_2 := ownB H0 hM (Nat.le_refl _) hl (i := 2) rfl
  clear hM hl l
  generalize γ 0 = γ1_0 at H1 o1_0 ⊢
  generalize γ 1 = γ1_1 at H1 o1_1 ⊢
  generalize γ 2 = γ1_2 at H1 o1_2 ⊢
  clear γ
  refine rest0 rfl (then_normal (wp_seq ?_))
  refine walk_seqA 1 [.made (tr 0 0 0) 77] (sB H1) ?ho2 ?he2
  case ho2 => exact ak (fun γ => ⟨rfl, fun w' => ex_made77 rfl⟩) trivial
  intro γ w2 l hM hl
  have H2 : Hid (Mm w2 [(γ 0, tr 0 0 0), (γ1_0, kd p r c gx gy), (γ1_1, pt X Y Z), (γ1_2, tr 0 0 0)] ∧ _) := growB H1 hM (Nat.le_refl _) hl [0] rfl (by decide)
  have o2_0 := ownB H1 hM (Nat.le_refl _) hl (i := 0) rfl
  clear hM hl l H1
  generalize γ 0 = γ2_0 at H2 o2_0 ⊢
  clear γ
  refine rest0 rfl (then_normal (wp_seq (wp_seq ?_)))
  refine walk_seqB 4 [.quiet (U n), .call (.int .i64 ((bl n : Nat) : Int)), .quiet (.int .i64 (((bl n : Nat) : Int) - 1)), .quiet (.int .i64 (((bl n : Nat) : Int) - 1))] H2 ?ho3 ?he3
  case ho3 => exact ak (fun _ => ⟨rfl, fun _ _ => rfl⟩) (ak (fun γ => ⟨rfl, fun w' h => ⟨57, #[U n], exec_call rfl call57 rfl (mpn rfl), len_in n hn w'⟩⟩) (ak (by refine fun γ => ⟨rfl, fun w' h => ?_⟩; clear h; have hbl := bl_le_of n 64 hn; go_simp; rw [IntKind.wrap_i64]; omega) (ak (fun _ => ⟨rfl, fun _ _ => rfl⟩) trivial)))
  intro _ w3 H3
  clear H2
  refine rest0 rfl (then_normal (wp_block ?_))
  refine loop_ghost (α := Nat) (fun k a' w' => ∃ s0 : Nat → Value, a' = ⟨#[.agg (kd p r c gx gy).toArray, .agg (pt X Y Z).toArray, U n, PT γ1_0 0, PT γ1_1 0, undef, PT γ1_2 0, PT γ2_0 0, .int .i64 (((k : Nat) : Int) - 1), U n, .int .i64 ((bl n : Nat) : Int), .int .i64 (((bl n : Nat) : Int) - 1), s0 12, s0 13, s0 14, s0 15, s0 16, s0 17, s0 18, s0 19, s0 20, s0 21, s0 22, s0 23, s0 24, s0 25, s0 26, s0 27, s0 28, s0 29, s0 30, s0 31, s0 32, s0 33, undef], []⟩ ∧ (Mm w' [(γ2_0, tc (mt p X Y Z (n / 2 ^ k))), (γ1_0, kd p r c gx gy), (γ1_1, pt X Y Z), (γ1_2, tr 0 0 0)] ∧ Below w.heap.size w w') ∧ k ≤ 64) (fun k => k) (bl n) ?st0 ?rd0
  case st0 => exact ⟨(slotfn [undef, undef, undef, undef, undef, undef, undef, undef, undef, undef, undef, undef, undef, undef, undef, undef, undef, undef, undef, undef, undef, undef, undef, undef, undef, undef, undef, undef, undef, undef, undef, undef, undef, undef]), rfl, ⟨by rw [Nat.div_eq_of_lt (bl_lt n), mt_zero]; exact H3.out.1, H3.out.2⟩, bl_le_of n 64 hn⟩
  intro k a' w4 hI
  obtain ⟨s0, rfl, hMB, hk0⟩ := hI
  have H4 : Hid (_ ∧ _) := hMB
  clear hMB H3
  by_cases hlt : 0 < k
  · have hrd : True := trivial
    clear hrd
    obtain ⟨j, rfl⟩ : ∃ j, k = j + 1 := ⟨k - 1, by omega⟩
    rw [show (((j + 1 : Nat) : Int) - 1) = ((j : Nat) : Int) by omega]
    by_cases hb : n / 2 ^ j % 2 = 1
    · have hrd : True := trivial
      clear hrd
      refine wp_seq (wp_seq ?_)
      refine walk_seqB 2 [.quiet (.int .i64 ((j : Nat) : Int)), .quiet (.bool true)] H4 ?ho4 ?he4
      case ho4 => exact ak (fun _ => ⟨rfl, fun _ _ => rfl⟩) (ak (by refine fun γ => ⟨rfl, fun w' h => ?_⟩; clear h; go_simp) trivial)
      intro _ w5 H5
      clear H4
      refine rest0 rfl (then_normal (wp_cond_true rfl ?_))
      refine wp_skip (then_normal ?_)
      refine wp_seq (wp_block (wp_seq ?_))
      refine walk_seqB 6 [.quiet (.agg (kd p r c gx gy).toArray), .quiet (.agg (tc (mt p X Y Z (n / 2 ^ (j + 1)))).toArray), .call (.tuple #[.agg (tr ((twT p (mt p X Y Z (n / 2 ^ (j + 1)))).1) ((twT p (mt p X Y Z (n / 2 ^ (j + 1)))).2.1) ((twT p (mt p X Y Z (n / 2 ^ (j + 1)))).2.2)).toArray, U (tR p (mt p X Y Z (n / 2 ^ (j + 1))).1 (mt p X Y Z (n / 2 ^ (j + 1))).2.2)]), .quiet (.tuple #[.agg (tr ((twT p (mt p X Y Z (n / 2 ^ (j + 1)))).1) ((twT p (mt p X Y Z (n / 2 ^ (j + 1)))).2.1) ((twT p (mt p X Y Z (n / 2 ^ (j + 1)))).2.2)).toArray, U (tR p (mt p X Y Z (n / 2 ^ (j + 1))).1 (mt p X Y Z (n / 2 ^ (j + 1))).2.2)]), .quiet (.agg (tr ((twT p (mt p X Y Z (n / 2 ^ (j + 1)))).1) ((twT p (mt p X Y Z (n / 2 ^ (j + 1)))).2.1) ((twT p (mt p X Y Z (n / 2 ^ (j + 1)))).2.2)).toArray), .quiet (U (tR p (mt p X Y Z (n / 2 ^ (j + 1))).1 (mt p X Y Z (n / 2 ^ (j + 1))).2.2))] H5 ?ho5 ?he5
      case ho5 => exact ak (fun γ => ⟨rfl, fun w' h => ex_loadT h 1 rfl rfl rfl Try.isAgg72 Try.sizeOf72 rfl rfl⟩) (ak (fun γ => ⟨rfl, fun w' h => ex_loadT h 0 rfl rfl rfl Try.isAgg77 Try.sizeOf77 rfl rfl⟩) (ak (fun γ => ⟨rfl, fun w' h => ⟨70, #[.agg (kd p r c gx gy).toArray, .agg (tc (mt p X Y Z (n / 2 ^ (j + 1)))).toArray], exec_call rfl call70 rfl (mpn rfl), twice_any hp (mt p X Y Z (n / 2 ^ (j + 1))) (mt_lt hp hX hY _) w'⟩⟩) (ak (fun _ => ⟨rfl, fun _ _ => rfl⟩) (ak (by refine fun γ => ⟨rfl, fun w' h => ?_⟩; clear h; go_simp) (ak (by refine fun γ => ⟨rfl, fun w' h => ?_⟩; clear h; go_simp) trivial)))))
      intro _ w6 H6
      clear H5
      refine rest_at (l := [6]) rfl ?_
      refine rest_store rfl rfl rfl (ex_storeT (vs := tr ((twT p (mt p X Y Z (n / 2 ^ (j + 1)))).1) ((twT p (mt p X Y Z (n / 2 ^ (j + 1)))).2.1) ((twT p (mt p X Y Z (n / 2 ^ (j + 1)))).2.2)) H6.out.1 0 rfl rfl rfl rfl Try.sizeOf77 rfl (Nat.le_of_ble_eq_true rfl)) ?_
      have H7 : Hid (Mm (w6.setCells γ2_0 0 (tr ((twT p (mt p X Y Z (n / 2 ^ (j + 1)))).1) ((twT p (mt p X Y Z (n / 2 ^ (j + 1)))).2.1) ((twT p (mt p X Y Z (n / 2 ^ (j + 1)))).2.2))) [(γ2_0, tr ((twT p (mt p X Y Z (n / 2 ^ (j + 1)))).1) ((twT p (mt p X Y Z (n / 2 ^ (j + 1)))).2.1) ((twT p (mt p X Y Z (n / 2 ^ (j + 1)))).2.2)), (γ1_0, kd p r c gx gy), (γ1_1, pt X Y Z), (γ1_2, tr 0 0 0)] ∧ Below w.heap.size w (w6.setCells γ2_0 0 (tr ((twT p (mt p X Y Z (n / 2 ^ (j + 1)))).1) ((twT p (mt p X Y Z (n / 2 ^ (j + 1)))).2.1) ((twT p (mt p X Y Z (n / 2 ^ (j + 1)))).2.2)))) := ⟨H6.out.1.put 0 (off := 0) (vs := tr ((twT p (mt p X Y Z (n / 2 ^ (j + 1)))).1) ((twT p (mt p X Y Z (n / 2 ^ (j + 1)))).2.1) ((twT p (mt p X Y Z (n / 2 ^ (j + 1)))).2.2)) rfl (Nat.le_of_ble_eq_true rfl), below_setCells _ o2_0.out _ _ _ H6.out.2⟩
      clear H6
      generalize hgw : World.setCells _ _ _ _ = w7 at H7 ⊢
      clear hgw
      refine rest_nil (then_normal (wp_seq ?_))
      refine walk_seqB 5 [.quiet (U n), .quiet (.int .i64 ((j : Nat) : Int)), .quiet (U (n / 2 ^ j)), .quiet (U (n / 2 ^ j % 2)), .quiet (.bool true)] H7 ?ho6 ?he6
      case ho6 => exact ak (fun _ => ⟨rfl, fun _ _ => rfl⟩) (ak (fun _ => ⟨rfl, fun _ _ => rfl⟩) (ak (fun γ => ⟨rfl, fun w' _ => ex_shrU (by omega) rfl rfl rfl⟩) (ak (fun γ => ⟨rfl, fun w' _ => ex_and1 rfl (Nat.lt_of_le_of_lt (Nat.div_le_self _ _) hn) rfl rfl⟩) (ak (fun γ => ⟨rfl, fun w' _ => ex_eqU rfl rfl rfl (decide_eq_true (hb))⟩) trivial))))
      intro _ w8 H8
      clear H7
      refine rest0 rfl (then_normal (wp_cond_true rfl ?_))
      refine walk_seqB 7 [.quiet (.agg (kd p r c gx gy).toArray), .quiet (.agg (tr ((twT p (mt p X Y Z (n / 2 ^ (j + 1)))).1) ((twT p (mt p X Y Z (n / 2 ^ (j + 1)))).2.1) ((twT p (mt p X Y Z (n / 2 ^ (j + 1)))).2.2)).toArray), .quiet (.agg (pt X Y Z).toArray), .call (.tuple #[.agg (tr ((jnT p (twT p (mt p X Y Z (n / 2 ^ (j + 1)))) X Y Z).1) ((jnT p (twT p (mt p X Y Z (n / 2 ^ (j + 1)))) X Y Z).2.1) ((jnT p (twT p (mt p X Y Z (n / 2 ^ (j + 1)))) X Y Z).2.2)).toArray, U (jnR p (twT p (mt p X Y Z (n / 2 ^ (j + 1)))) X Y Z)]), .quiet (.tuple #[.agg (tr ((jnT p (twT p (mt p X Y Z (n / 2 ^ (j + 1)))) X Y Z).1) ((jnT p (twT p (mt p X Y Z (n / 2 ^ (j + 1)))) X Y Z).2.1) ((jnT p (twT p (mt p X Y Z (n / 2 ^ (j + 1)))) X Y Z).2.2)).toArray, U (jnR p (twT p (mt p X Y Z (n / 2 ^ (j + 1)))) X Y Z)]), .quiet (.agg (tr ((jnT p (twT p (mt p X Y Z (n / 2 ^ (j + 1)))) X Y Z).1) ((jnT p (twT p (mt p X Y Z (n / 2 ^ (j + 1)))) X Y Z).2.1) ((jnT p (twT p (mt p X Y Z (n / 2 ^ (j + 1)))) X Y Z).2.2)).toArray), .quiet (U (jnR p (twT p (mt p X Y Z (n / 2 ^ (j + 1)))) X Y Z))] H8 ?ho7 ?he7
      case ho7 => exact ak (fun γ => ⟨rfl, fun w' h => ex_loadT h 1 rfl rfl rfl Try.isAgg72 Try.sizeOf72 rfl rfl⟩) (ak (fun γ => ⟨rfl, fun w' h => ex_loadT h 0 rfl rfl rfl Try.isAgg77 Try.sizeOf77 rfl rfl⟩) (ak (fun γ => ⟨rfl, fun w' h => ex_loadT h 2 rfl rfl rfl Try.isAgg25 Try.sizeOf25 rfl rfl⟩) (ak (fun γ => ⟨rfl, fun w' h => ⟨44, #[.agg (kd p r c gx gy).toArray, .agg (tr ((twT p (mt p X Y Z (n / 2 ^ (j + 1)))).1) ((twT p (mt p X Y Z (n / 2 ^ (j + 1)))).2.1) ((twT p (mt p X Y Z (n / 2 ^ (j + 1)))).2.2)).toArray, .agg (pt X Y Z).toArray], exec_call rfl call44 rfl (mpn rfl), joined_any hp (twT p (mt p X Y Z (n / 2 ^ (j + 1)))) (tw_lt hp _) X Y Z hX hY w'⟩⟩) (ak (fun _ => ⟨rfl, fun _ _ => rfl⟩) (ak (by refine fun γ => ⟨rfl, fun w' h => ?_⟩; clear h; go_simp) (ak (by refine fun γ => ⟨rfl, fun w' h => ?_⟩; clear h; go_simp) trivial))))))
      intro _ w9 H9
      clear H8
      refine rest_at (l := [7]) rfl ?_
      refine rest_store rfl rfl rfl (ex_storeT (vs := tr ((jnT p (twT p (mt p X Y Z (n / 2 ^ (j + 1)))) X Y Z).1) ((jnT p (twT p (mt p X Y Z (n / 2 ^ (j + 1)))) X Y Z).2.1) ((jnT p (twT p (mt p X Y Z (n / 2 ^ (j + 1)))) X Y Z).2.2)) H9.out.1 0 rfl rfl rfl rfl Try.sizeOf77 rfl (Nat.le_of_ble_eq_true rfl)) ?_
      have H10 : Hid (Mm (w9.setCells γ2_0 0 (tr ((jnT p (twT p (mt p X Y Z (n / 2 ^ (j + 1)))) X Y Z).1) ((jnT p (twT p (mt p X Y Z (n / 2 ^ (j + 1)))) X Y Z).2.1) ((jnT p (twT p (mt p X Y Z (n / 2 ^ (j + 1)))) X Y Z).2.2))) [(γ2_0, tr ((jnT p (twT p (mt p X Y Z (n / 2 ^ (j + 1)))) X Y Z).1) ((jnT p (twT p (mt p X Y Z (n / 2 ^ (j + 1)))) X Y Z).2.1) ((jnT p (twT p (mt p X Y Z (n / 2 ^ (j + 1)))) X Y Z).2.2)), (γ1_0, kd p r c gx gy), (γ1_1, pt X Y Z), (γ1_2, tr 0 0 0)] ∧ Below w.heap.size w (w9.setCells γ2_0 0 (tr ((jnT p (twT p (mt p X Y Z (n / 2 ^ (j + 1)))) X Y Z).1) ((jnT p (twT p (mt p X Y Z (n / 2 ^ (j + 1)))) X Y Z).2.1) ((jnT p (twT p (mt p X Y Z (n / 2 ^ (j + 1)))) X Y Z).2.2)))) := ⟨H9.out.1.put 0 (off := 0) (vs := tr ((jnT p (twT p (mt p X Y Z (n / 2 ^ (j + 1)))) X Y Z).1) ((jnT p (twT p (mt p X Y Z (n / 2 ^ (j + 1)))) X Y Z).2.1) ((jnT p (twT p (mt p X Y Z (n / 2 ^ (j + 1)))) X Y Z).2.2)) rfl (Nat.le_of_ble_eq_true rfl), below_setCells _ o2_0.out _ _ _ H9.out.2⟩
      clear H9
      generalize hgw : World.setCells _ _ _ _ = w10 at H10 ⊢
      clear hgw
      refine rest_nil (block_normal (then_normal ?_))
      refine walk_seqB 2 [.quiet (.int .i64 ((j : Nat) : Int)), .quiet (.int .i64 (((j : Nat) : Int) - 1))] H10 ?ho8 ?he8
      case ho8 => exact ak (fun _ => ⟨rfl, fun _ _ => rfl⟩) (ak (by refine fun γ => ⟨rfl, fun w' h => ?_⟩; clear h; go_simp; rw [IntKind.wrap_i64]; omega) trivial)
      intro _ w11 H11
      clear H10
      refine rest_at (l := [2]) rfl ?_
      refine rest_set (d := 8) rfl rfl rfl rfl ?_
      simp only [Act.put, sa, sz, ss]
      refine rest_nil (then_normal ?_)
      exact ⟨j, ⟨(slotfn [undef, undef, undef, undef, undef, undef, undef, undef, undef, undef, undef, undef, .int .i64 ((j : Nat) : Int), .bool true, .int .i64 ((j : Nat) : Int), .int .i64 (((j : Nat) : Int) - 1), .tuple #[.agg (tr ((twT p (mt p X Y Z (n / 2 ^ (j + 1)))).1) ((twT p (mt p X Y Z (n / 2 ^ (j + 1)))).2.1) ((twT p (mt p X Y Z (n / 2 ^ (j + 1)))).2.2)).toArray, U (tR p (mt p X Y Z (n / 2 ^ (j + 1))).1 (mt p X Y Z (n / 2 ^ (j + 1))).2.2)], .agg (kd p r c gx gy).toArray, .agg (tc (mt p X Y Z (n / 2 ^ (j + 1)))).toArray, .tuple #[.agg (tr ((twT p (mt p X Y Z (n / 2 ^ (j + 1)))).1) ((twT p (mt p X Y Z (n / 2 ^ (j + 1)))).2.1) ((twT p (mt p X Y Z (n / 2 ^ (j + 1)))).2.2)).toArray, U (tR p (mt p X Y Z (n / 2 ^ (j + 1))).1 (mt p X Y Z (n / 2 ^ (j + 1))).2.2)], .agg (tr ((twT p (mt p X Y Z (n / 2 ^ (j + 1)))).1) ((twT p (mt p X Y Z (n / 2 ^ (j + 1)))).2.1) ((twT p (mt p X Y Z (n / 2 ^ (j + 1)))).2.2)).toArray, U (tR p (mt p X Y Z (n / 2 ^ (j + 1))).1 (mt p X Y Z (n / 2 ^ (j + 1))).2.2), U n, .int .i64 ((j : Nat) : Int), U (n / 2 ^ j), U (n / 2 ^ j % 2), .bool true, .tuple #[.agg (tr ((jnT p (twT p (mt p X Y Z (n / 2 ^ (j + 1)))) X Y Z).1) ((jnT p (twT p (mt p X Y Z (n / 2 ^ (j + 1)))) X Y Z).2.1) ((jnT p (twT p (mt p X Y Z (n / 2 ^ (j + 1)))) X Y Z).2.2)).toArray, U (jnR p (twT p (mt p X Y Z (n / 2 ^ (j + 1)))) X Y Z)], .agg (kd p r c gx gy).toArray, .agg (tr ((twT p (mt p X Y Z (n / 2 ^ (j + 1)))).1) ((twT p (mt p X Y Z (n / 2 ^ (j + 1)))).2.1) ((twT p (mt p X Y Z (n / 2 ^ (j + 1)))).2.2)).toArray, .agg (pt X Y Z).toArray, .tuple #[.agg (tr ((jnT p (twT p (mt p X Y Z (n / 2 ^ (j + 1)))) X Y Z).1) ((jnT p (twT p (mt p X Y Z (n / 2 ^ (j + 1)))) X Y Z).2.1) ((jnT p (twT p (mt p X Y Z (n / 2 ^ (j + 1)))) X Y Z).2.2)).toArray, U (jnR p (twT p (mt p X Y Z (n / 2 ^ (j + 1)))) X Y Z)], .agg (tr ((jnT p (twT p (mt p X Y Z (n / 2 ^ (j + 1)))) X Y Z).1) ((jnT p (twT p (mt p X Y Z (n / 2 ^ (j + 1)))) X Y Z).2.1) ((jnT p (twT p (mt p X Y Z (n / 2 ^ (j + 1)))) X Y Z).2.2)).toArray, U (jnR p (twT p (mt p X Y Z (n / 2 ^ (j + 1)))) X Y Z)]), rfl, ⟨by rw [mt_bit X Y Z n j hn, if_pos hb]; exact H11.out.1, H11.out.2⟩, by omega⟩, by omega⟩
    · have hrd : True := trivial
      clear hrd
      refine wp_seq (wp_seq ?_)
      refine walk_seqB 2 [.quiet (.int .i64 ((j : Nat) : Int)), .quiet (.bool true)] H4 ?ho9 ?he9
      case ho9 => exact ak (fun _ => ⟨rfl, fun _ _ => rfl⟩) (ak (by refine fun γ => ⟨rfl, fun w' h => ?_⟩; clear h; go_simp) trivial)
      intro _ w12 H12
      clear H4
      refine rest0 rfl (then_normal (wp_cond_true rfl ?_))
      refine wp_skip (then_normal ?_)
      refine wp_seq (wp_block (wp_seq ?_))
      refine walk_seqB 6 [.quiet (.agg (kd p r c gx gy).toArray), .quiet (.agg (tc (mt p X Y Z (n / 2 ^ (j + 1)))).toArray), .call (.tuple #[.agg (tr ((twT p (mt p X Y Z (n / 2 ^ (j + 1)))).1) ((twT p (mt p X Y Z (n / 2 ^ (j + 1)))).2.1) ((twT p (mt p X Y Z (n / 2 ^ (j + 1)))).2.2)).toArray, U (tR p (mt p X Y Z (n / 2 ^ (j + 1))).1 (mt p X Y Z (n / 2 ^ (j + 1))).2.2)]), .quiet (.tuple #[.agg (tr ((twT p (mt p X Y Z (n / 2 ^ (j + 1)))).1) ((twT p (mt p X Y Z (n / 2 ^ (j + 1)))).2.1) ((twT p (mt p X Y Z (n / 2 ^ (j + 1)))).2.2)).toArray, U (tR p (mt p X Y Z (n / 2 ^ (j + 1))).1 (mt p X Y Z (n / 2 ^ (j + 1))).2.2)]), .quiet (.agg (tr ((twT p (mt p X Y Z (n / 2 ^ (j + 1)))).1) ((twT p (mt p X Y Z (n / 2 ^ (j + 1)))).2.1) ((twT p (mt p X Y Z (n / 2 ^ (j + 1)))).2.2)).toArray), .quiet (U (tR p (mt p X Y Z (n / 2 ^ (j + 1))).1 (mt p X Y Z (n / 2 ^ (j + 1))).2.2))] H12 ?ho10 ?he10
      case ho10 => exact ak (fun γ => ⟨rfl, fun w' h => ex_loadT h 1 rfl rfl rfl Try.isAgg72 Try.sizeOf72 rfl rfl⟩) (ak (fun γ => ⟨rfl, fun w' h => ex_loadT h 0 rfl rfl rfl Try.isAgg77 Try.sizeOf77 rfl rfl⟩) (ak (fun γ => ⟨rfl, fun w' h => ⟨70, #[.agg (kd p r c gx gy).toArray, .agg (tc (mt p X Y Z (n / 2 ^ (j + 1)))).toArray], exec_call rfl call70 rfl (mpn rfl), twice_any hp (mt p X Y Z (n / 2 ^ (j + 1))) (mt_lt hp hX hY _) w'⟩⟩) (ak (fun _ => ⟨rfl, fun _ _ => rfl⟩) (ak (by refine fun γ => ⟨rfl, fun w' h => ?_⟩; clear h; go_simp) (ak (by refine fun γ => ⟨rfl, fun w' h => ?_⟩; clear h; go_simp) trivial)))))
      intro _ w13 H13
      clear H12
      refine rest_at (l := [6]) rfl ?_
      refine rest_store rfl rfl rfl (ex_storeT (vs := tr ((twT p (mt p X Y Z (n / 2 ^ (j + 1)))).1) ((twT p (mt p X Y Z (n / 2 ^ (j + 1)))).2.1) ((twT p (mt p X Y Z (n / 2 ^ (j + 1)))).2.2)) H13.out.1 0 rfl rfl rfl rfl Try.sizeOf77 rfl (Nat.le_of_ble_eq_true rfl)) ?_
      have H14 : Hid (Mm (w13.setCells γ2_0 0 (tr ((twT p (mt p X Y Z (n / 2 ^ (j + 1)))).1) ((twT p (mt p X Y Z (n / 2 ^ (j + 1)))).2.1) ((twT p (mt p X Y Z (n / 2 ^ (j + 1)))).2.2))) [(γ2_0, tr ((twT p (mt p X Y Z (n / 2 ^ (j + 1)))).1) ((twT p (mt p X Y Z (n / 2 ^ (j + 1)))).2.1) ((twT p (mt p X Y Z (n / 2 ^ (j + 1)))).2.2)), (γ1_0, kd p r c gx gy), (γ1_1, pt X Y Z), (γ1_2, tr 0 0 0)] ∧ Below w.heap.size w (w13.setCells γ2_0 0 (tr ((twT p (mt p X Y Z (n / 2 ^ (j + 1)))).1) ((twT p (mt p X Y Z (n / 2 ^ (j + 1)))).2.1) ((twT p (mt p X Y Z (n / 2 ^ (j + 1)))).2.2)))) := ⟨H13.out.1.put 0 (off := 0) (vs := tr ((twT p (mt p X Y Z (n / 2 ^ (j + 1)))).1) ((twT p (mt p X Y Z (n / 2 ^ (j + 1)))).2.1) ((twT p (mt p X Y Z (n / 2 ^ (j + 1)))).2.2)) rfl (Nat.le_of_ble_eq_true rfl), below_setCells _ o2_0.out _ _ _ H13.out.2⟩
      clear H13
      generalize hgw : World.setCells _ _ _ _ = w14 at H14 ⊢
      clear hgw
      refine rest_nil (then_normal (wp_seq ?_))
      refine walk_seqB 5 [.quiet (U n), .quiet (.int .i64 ((j : Nat) : Int)), .quiet (U (n / 2 ^ j)), .quiet (U (n / 2 ^ j % 2)), .quiet (.bool false)] H14 ?ho11 ?he11
      case ho11 => exact ak (fun _ => ⟨rfl, fun _ _ => rfl⟩) (ak (fun _ => ⟨rfl, fun _ _ => rfl⟩) (ak (fun γ => ⟨rfl, fun w' _ => ex_shrU (by omega) rfl rfl rfl⟩) (ak (fun γ => ⟨rfl, fun w' _ => ex_and1 rfl (Nat.lt_of_le_of_lt (Nat.div_le_self _ _) hn) rfl rfl⟩) (ak (fun γ => ⟨rfl, fun w' _ => ex_eqU rfl rfl rfl (decide_eq_false (hb))⟩) trivial))))
      intro _ w15 H15
      clear H14
      refine rest0 rfl (then_normal (wp_cond_false rfl ?_))
      refine wp_skip (block_normal (then_normal ?_))
      refine walk_seqB 2 [.quiet (.int .i64 ((j : Nat) : Int)), .quiet (.int .i64 (((j : Nat) : Int) - 1))] H15 ?ho12 ?he12
      case ho12 => exact ak (fun _ => ⟨rfl, fun _ _ => rfl⟩) (ak (by refine fun γ => ⟨rfl, fun w' h => ?_⟩; clear h; go_simp; rw [IntKind.wrap_i64]; omega) trivial)
      intro _ w16 H16
      clear H15
      refine rest_at (l := [2]) rfl ?_
      refine rest_set (d := 8) rfl rfl rfl rfl ?_
      simp only [Act.put, sa, sz, ss]
      refine rest_nil (then_normal ?_)
      exact ⟨j, ⟨(slotfn [undef, undef, undef, undef, undef, undef, undef, undef, undef, undef, undef, undef, .int .i64 ((j : Nat) : Int), .bool true, .int .i64 ((j : Nat) : Int), .int .i64 (((j : Nat) : Int) - 1), .tuple #[.agg (tr ((twT p (mt p X Y Z (n / 2 ^ (j + 1)))).1) ((twT p (mt p X Y Z (n / 2 ^ (j + 1)))).2.1) ((twT p (mt p X Y Z (n / 2 ^ (j + 1)))).2.2)).toArray, U (tR p (mt p X Y Z (n / 2 ^ (j + 1))).1 (mt p X Y Z (n / 2 ^ (j + 1))).2.2)], .agg (kd p r c gx gy).toArray, .agg (tc (mt p X Y Z (n / 2 ^ (j + 1)))).toArray, .tuple #[.agg (tr ((twT p (mt p X Y Z (n / 2 ^ (j + 1)))).1) ((twT p (mt p X Y Z (n / 2 ^ (j + 1)))).2.1) ((twT p (mt p X Y Z (n / 2 ^ (j + 1)))).2.2)).toArray, U (tR p (mt p X Y Z (n / 2 ^ (j + 1))).1 (mt p X Y Z (n / 2 ^ (j + 1))).2.2)], .agg (tr ((twT p (mt p X Y Z (n / 2 ^ (j + 1)))).1) ((twT p (mt p X Y Z (n / 2 ^ (j + 1)))).2.1) ((twT p (mt p X Y Z (n / 2 ^ (j + 1)))).2.2)).toArray, U (tR p (mt p X Y Z (n / 2 ^ (j + 1))).1 (mt p X Y Z (n / 2 ^ (j + 1))).2.2), U n, .int .i64 ((j : Nat) : Int), U (n / 2 ^ j), U (n / 2 ^ j % 2), .bool false, s0 27, s0 28, s0 29, s0 30, s0 31, s0 32, s0 33]), rfl, ⟨by rw [mt_bit X Y Z n j hn, if_neg hb]; exact H16.out.1, H16.out.2⟩, by omega⟩, by omega⟩
  have hk : k = 0 := by omega
  subst hk
  refine wp_seq (wp_seq ?_)
  refine walk_seqB 2 [.quiet (.int .i64 (((0 : Nat) : Int) - 1)), .quiet (.bool false)] H4 ?ho13 ?he13
  case ho13 => exact ak (fun _ => ⟨rfl, fun _ _ => rfl⟩) (ak (by refine fun γ => ⟨rfl, fun w' h => ?_⟩; clear h; go_simp) trivial)
  intro _ w17 H17
  clear H4
  refine rest0 rfl (then_normal (wp_cond_false rfl ?_))
  refine wp_exit ?_
  repeat refine then_exit ?_
  refine block_exit ?_
  refine then_normal (wp_seq ?_)
  refine walk_seqB 1 [.quiet (.agg (tc (mt p X Y Z (n / 2 ^ 0))).toArray)] H17 ?ho14 ?he14
  case ho14 => exact ak (fun γ => ⟨rfl, fun w' h => ex_loadT h 0 rfl rfl rfl Try.isAgg77 Try.sizeOf77 rfl rfl⟩) trivial
  intro _ w18 H18
  clear H17
  refine rest_at (l := [1]) rfl ?_
  refine rest_store rfl rfl rfl (ex_storeT (vs := tc (mt p X Y Z (n / 2 ^ 0))) H18.out.1 3 rfl rfl rfl rfl Try.sizeOf77 rfl (Nat.le_of_ble_eq_true rfl)) ?_
  have H19 : Hid (Mm (w18.setCells γ1_2 0 (tc (mt p X Y Z (n / 2 ^ 0)))) [(γ2_0, tc (mt p X Y Z (n / 2 ^ 0))), (γ1_0, kd p r c gx gy), (γ1_1, pt X Y Z), (γ1_2, tc (mt p X Y Z (n / 2 ^ 0)))] ∧ Below w.heap.size w (w18.setCells γ1_2 0 (tc (mt p X Y Z (n / 2 ^ 0))))) := ⟨H18.out.1.put 3 (off := 0) (vs := tc (mt p X Y Z (n / 2 ^ 0))) rfl (Nat.le_of_ble_eq_true rfl), below_setCells _ o1_2.out _ _ _ H18.out.2⟩
  clear H18
  generalize hgw : World.setCells _ _ _ _ = w19 at H19 ⊢
  clear hgw
  refine rest_nil (then_normal (wp_ret ?_))
  repeat (first | refine then_ret ?_ | refine block_ret ?_)
  have hf0 := var_T H19.out.1 3 rfl Try.isAgg77 Try.sizeOf77 rfl
  refine bodyPost_ret (v := .agg (tc (mt p X Y Z (n / 2 ^ 0))).toArray) (by simp [results, Try.results47, asAddr, hf0]) rfl ?_
  exact ⟨by rw [Nat.pow_zero, Nat.div_one], H19.out.2⟩
theorem oc_lt {p X Y : Nat} {Z : Bool} (hp : Pr p) (h : oc p X Y Z = true) : X < p ∧ Y < p := by
  unfold oc at h
  split at h
  · simp at h
    rw [h.1, h.2]
    exact ⟨zero_lt hp, zero_lt hp⟩
  · simp at h
    exact ⟨h.1, h.2.1⟩
theorem on_is (hp : Pr p) (X Y : Nat) (Z t : Bool) (h : oc p X Y Z = t) (w : World) : Calls Try.prog 50 #[.agg (kd p r c gx gy).toArray, .agg (pt X Y Z).toArray] w fun e w' => e = .returned (.bool t) ∧ Below w.heap.size w w' := by
  rw [← h]
  exact onCurve_any hp X Y Z w
set_option maxRecDepth 100000 in
theorem in_no (hp : Pr p) (X Y : Nat) (Z : Bool) (hoc : oc p X Y Z = false) (w : World) :
    Calls Try.prog 51 #[.agg (kd p r c gx gy).toArray, .agg (pt X Y Z).toArray] w fun e w' => e = .returned (.bool false) ∧ Below w.heap.size w w' := by
  have H0 : Hid (_ ∧ _) := ⟨Mm.nil w, Below.refl w.heap.size w⟩
  go_enter Try.func51, Try.ntmps51
  refine wp_seq ?_
  refine walk_seqA 3 [.made (kd p r c gx gy) 72, .made (pt X Y Z) 25, .quiet (.bool false)] (sB H0) ?ho1 ?he1
  case ho1 => exact ak (fun γ => ⟨rfl, fun w' => ex_boxT rfl rfl⟩) (ak (fun γ => ⟨rfl, fun w' => ex_boxT rfl rfl⟩) (ak (fun _ => ⟨rfl, fun _ _ => rfl⟩) trivial))
  intro γ w1 l hM hl
  have H1 : Hid (Mm w1 [(γ 0, kd p r c gx gy), (γ 1, pt X Y Z)] ∧ _) := growB H0 hM (Nat.le_refl _) hl [0, 1] rfl (by decide)
  have o1_0 := ownB H0 hM (Nat.le_refl _) hl (i := 0) rfl
  have o1_1 := ownB H0 hM (Nat.le_refl _) hl (i := 1) rfl
  clear hM hl l
  generalize γ 0 = γ1_0 at H1 o1_0 ⊢
  generalize γ 1 = γ1_1 at H1 o1_1 ⊢
  clear γ
  refine rest0 rfl (then_normal (wp_seq ?_))
  refine walk_seqB 13 [.quiet (.agg (kd p r c gx gy).toArray), .quiet (.agg (pt X Y Z).toArray), .call (.bool false), .quiet (.bool false), .gone, .gone, .gone, .gone, .gone, .gone, .gone, .quiet (.bool false), .quiet (.bool false)] H1 ?ho2 ?he2
  case ho2 => exact ak (fun γ => ⟨rfl, fun w' h => ex_loadT h 0 rfl rfl rfl Try.isAgg72 Try.sizeOf72 rfl rfl⟩) (ak (fun γ => ⟨rfl, fun w' h => ex_loadT h 1 rfl rfl rfl Try.isAgg25 Try.sizeOf25 rfl rfl⟩) (ak (fun γ => ⟨rfl, fun w' h => ⟨50, #[.agg (kd p r c gx gy).toArray, .agg (pt X Y Z).toArray], exec_call rfl call50 rfl (mpn rfl), on_is hp X Y Z _ hoc w'⟩⟩) (ak (fun _ => ⟨rfl, fun _ _ => rfl⟩) (ak (fun γ => rfl) (ak (fun γ => rfl) (ak (fun γ => rfl) (ak (fun γ => rfl) (ak (fun γ => rfl) (ak (fun γ => rfl) (ak (fun γ => rfl) (ak (by refine fun γ => ⟨rfl, fun w' h => ?_⟩; clear h; go_simp) (ak (fun _ => ⟨rfl, fun _ _ => rfl⟩) trivial))))))))))))
  intro _ w2 H2
  clear H1
  refine rest0 rfl (then_normal (wp_ret ?_))
  repeat (first | refine then_ret ?_ | refine block_ret ?_)
  refine bodyPost_ret (v := .bool false) (by simp [results, Try.results51, go_sem, *]) rfl ?_
  exact ⟨rfl, H2.out.2⟩
set_option maxRecDepth 100000 in
theorem in_yes (hp : Pr p) (X Y : Nat) (Z : Bool) (hoc : oc p X Y Z = true) (hr : r < 18446744073709551616) (w : World) :
    Calls Try.prog 51 #[.agg (kd p r c gx gy).toArray, .agg (pt X Y Z).toArray] w fun e w' => e = .returned (.bool (decide ((mt p X Y Z r).2.2 = 0))) ∧ Below w.heap.size w w' := by
  have H0 : Hid (_ ∧ _) := ⟨Mm.nil w, Below.refl w.heap.size w⟩
  go_enter Try.func51, Try.ntmps51
  refine wp_seq ?_
  refine walk_seqA 3 [.made (kd p r c gx gy) 72, .made (pt X Y Z) 25, .quiet (.bool false)] (sB H0) ?ho1 ?he1
  case ho1 => exact ak (fun γ => ⟨rfl, fun w' => ex_boxT rfl rfl⟩) (ak (fun γ => ⟨rfl, fun w' => ex_boxT rfl rfl⟩) (ak (fun _ => ⟨rfl, fun _ _ => rfl⟩) trivial))
  intro γ w1 l hM hl
  have H1 : Hid (Mm w1 [(γ 0, kd p r c gx gy), (γ 1, pt X Y Z)] ∧ _) := growB H0 hM (Nat.le_refl _) hl [0, 1] rfl (by decide)
  have o1_0 := ownB H0 hM (Nat.le_refl _) hl (i := 0) rfl
  have o1_1 := ownB H0 hM (Nat.le_refl _) hl (i := 1) rfl
  clear hM hl l
  generalize γ 0 = γ1_0 at H1 o1_0 ⊢
  generalize γ 1 = γ1_1 at H1 o1_1 ⊢
  clear γ
  refine rest0 rfl (then_normal (wp_seq ?_))
  refine walk_seqB 13 [.quiet (.agg (kd p r c gx gy).toArray), .quiet (.agg (pt X Y Z).toArray), .call (.bool true), .quiet (.bool true), .quiet (.agg (kd p r c gx gy).toArray), .quiet (.agg (pt X Y Z).toArray), .quiet (PT γ1_0 1), .quiet (U r), .call (.agg (tr ((mt p X Y Z r).1) ((mt p X Y Z r).2.1) ((mt p X Y Z r).2.2)).toArray), .quiet (U ((mt p X Y Z r).2.2)), .quiet (.bool (decide ((mt p X Y Z r).2.2 = 0))), .quiet (.bool (decide ((mt p X Y Z r).2.2 = 0))), .quiet (.bool (decide ((mt p X Y Z r).2.2 = 0)))] H1 ?ho2 ?he2
  case ho2 => exact ak (fun γ => ⟨rfl, fun w' h => ex_loadT h 0 rfl rfl rfl Try.isAgg72 Try.sizeOf72 rfl rfl⟩) (ak (fun γ => ⟨rfl, fun w' h => ex_loadT h 1 rfl rfl rfl Try.isAgg25 Try.sizeOf25 rfl rfl⟩) (ak (fun γ => ⟨rfl, fun w' h => ⟨50, #[.agg (kd p r c gx gy).toArray, .agg (pt X Y Z).toArray], exec_call rfl call50 rfl (mpn rfl), on_is hp X Y Z _ hoc w'⟩⟩) (ak (fun _ => ⟨rfl, fun _ _ => rfl⟩) (ak (fun γ => ⟨rfl, fun w' h => ex_loadT h 0 rfl rfl rfl Try.isAgg72 Try.sizeOf72 rfl rfl⟩) (ak (fun γ => ⟨rfl, fun w' h => ex_loadT h 1 rfl rfl rfl Try.isAgg25 Try.sizeOf25 rfl rfl⟩) (ak (by refine fun γ => ⟨rfl, fun w' h => ?_⟩; clear h; go_simp) (ak (fun γ => ⟨rfl, fun w' h => ex_loadC h 0 rfl rfl rfl Try.isAgg23 rfl⟩) (ak (fun γ => ⟨rfl, fun w' h => ⟨47, #[.agg (kd p r c gx gy).toArray, .agg (pt X Y Z).toArray, U r], exec_call rfl call47 rfl (mpn rfl), multiple_any hp X Y Z (oc_lt hp hoc).1 (oc_lt hp hoc).2 r hr w'⟩⟩) (ak (fun γ => ⟨rfl, fun w' _ => ex_field77_2 rfl rfl rfl⟩) (ak (fun γ => ⟨rfl, fun w' _ => ex_eqU rfl rfl rfl rfl⟩) (ak (by refine fun γ => ⟨rfl, fun w' h => ?_⟩; clear h; go_simp) (ak (fun _ => ⟨rfl, fun _ _ => rfl⟩) trivial))))))))))))
  intro _ w2 H2
  clear H1
  refine rest0 rfl (then_normal (wp_ret ?_))
  repeat (first | refine then_ret ?_ | refine block_ret ?_)
  refine bodyPost_ret (v := .bool (decide ((mt p X Y Z r).2.2 = 0))) (by simp [results, Try.results51, go_sem, *]) rfl ?_
  exact ⟨rfl, H2.out.2⟩
theorem inGroup_any (hp : Pr p) (hr : r < 18446744073709551616) (X Y : Nat) (Z : Bool) (w : World) : Calls Try.prog 51 #[.agg (kd p r c gx gy).toArray, .agg (pt X Y Z).toArray] w fun e w' => e = .returned (.bool (ig p r X Y Z)) ∧ Below w.heap.size w w' := by
  unfold ig
  cases h : oc p X Y Z
  · exact in_no hp X Y Z h w
  · exact in_yes hp X Y Z h hr w
end
end Rg
end Go.Proofs.Ytjmbgchoioepjaa
end
section
namespace Go.Proofs.Ytjmbgchoioepjaa
open Go.RowKit
namespace Rg
section
variable {P : Program} {ops : Array Oper} {ks : List Kind} {a₀ : Act} {w₀ : World} {Q : Exit → Act → World → Prop}
end
end Rg
end Go.Proofs.Ytjmbgchoioepjaa
end
