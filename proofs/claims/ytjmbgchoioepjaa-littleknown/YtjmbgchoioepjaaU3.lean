/- Powers, inverses, roots, the point near a number -/
import Derived.Test.YtjmbgchoioepjaaU2
namespace Go.Proofs.Ytjmbgchoioepjaa
open Go.RowKit
namespace Rg
def slotfn (l : List Value) (d : Nat) : Value := l.getD d undef
theorem ex_minU {ρ : Operand → Value} {o : Oper} {x y : Operand} {a b : Nat} {w : World} (ho : o.op = .call { callee := .builtin .min, args := #[x, y], argTypes := #[23, 23] }) (hx : ρ x = U a) (hy : ρ y = U b) : (execOp ρ o).run Try.prog w = .ok (.value (U (min a b))) w := by
  simp only [execOp, ho]
  go_simp
  omega
/-- A number's power, by p. -/
def pw (p a n : Nat) : Nat := a ^ n % p
theorem pw_lt {p a n : Nat} (hp : Pr p) : pw p a n < p := Nat.mod_lt _ (zero_lt hp)
theorem pw_even (p A B m : Nat) (h : m % 2 = 0) : A * tm p B B ^ (m / 2) % p = A * B ^ m % p := by
  unfold tm
  rw [Nat.mul_mod, ← Nat.pow_mod, ← Nat.mul_mod, ← Nat.pow_two, ← Nat.pow_mul, show 2 * (m / 2) = m by omega]
theorem pw_even' (p A B m : Nat) (h : m % 2 = 1) : A * tm p B B ^ (m / 2) % p = A * B ^ (m - 1) % p := by
  unfold tm
  rw [Nat.mul_mod, ← Nat.pow_mod, ← Nat.mul_mod, ← Nat.pow_two, ← Nat.pow_mul, show 2 * (m / 2) = m - 1 by omega]
theorem pw_odd (p A B m : Nat) (h : m % 2 = 1) : tm p A B * tm p B B ^ (m / 2) % p = A * B ^ m % p := by
  rw [pw_even' p (tm p A B) B m h]
  unfold tm
  rw [Nat.mul_mod, Nat.mod_mod, ← Nat.mul_mod, Nat.mul_assoc, ← Nat.pow_succ', show (m - 1).succ = m by omega]
def rb (p a : Nat) : Nat := pw p a ((p + 1) / 4)
/-- The lesser root, and whether it is one. -/
def rt (p a : Nat) : Nat := min (rb p a) (mi p 0 (rb p a))
def sq (p a : Nat) : Bool := decide (tm p (rb p a) (rb p a) = a)
/-- How far it is to the next X of a point. -/
def nkf (p : Nat) : Nat → Nat → Nat
  | 0, _ => 0
  | f + 1, x => if sq p (cb p (x % p)) = true then 0 else nkf p f (x + 1) + 1
def nk (p x : Nat) : Nat := nkf p p x
theorem nkf_spec (p : Nat) : ∀ (f x j : Nat), j < f → sq p (cb p ((x + j) % p)) = true → sq p (cb p ((x + nkf p f x) % p)) = true ∧ (∀ i, i < nkf p f x → sq p (cb p ((x + i) % p)) = false) ∧ nkf p f x ≤ j
  | 0, _, _, h, _ => by omega
  | f + 1, x, j, h, hj => by
    unfold nkf
    by_cases h0 : sq p (cb p (x % p)) = true
    · rw [if_pos h0]
      exact ⟨h0, fun i hi => by omega, by omega⟩
    · rw [if_neg h0]
      obtain ⟨i, rfl⟩ : ∃ i, j = i + 1 := ⟨j - 1, by
        have : j ≠ 0 := fun e => h0 (by rw [e] at hj; exact hj)
        omega⟩
      obtain ⟨h1, h2, h3⟩ := nkf_spec p f (x + 1) i (by omega) (by rw [Nat.add_assoc, Nat.add_comm 1 i]; exact hj)
      refine ⟨by rw [Nat.add_assoc, Nat.add_comm 1] at h1; exact h1, fun k hk => ?_, by omega⟩
      rcases k with _ | k
      · simpa using h0
      · have := h2 k (by omega)
        rw [Nat.add_assoc, Nat.add_comm 1] at this
        exact this
theorem sq_zero {p : Nat} (hp : Pr p) : sq p 0 = true := by
  have h := hp.lo
  unfold sq rb pw tm
  rw [Nat.zero_pow (by omega)]
  simp
theorem cb_zero (p : Nat) : cb p 0 = 0 := by
  unfold cb tm
  rw [Nat.zero_mul, Nat.zero_mod]
theorem nk_spec {p : Nat} (hp : Pr p) (x : Nat) : sq p (cb p ((x + nk p x) % p)) = true ∧ (∀ i, i < nk p x → sq p (cb p ((x + i) % p)) = false) ∧ nk p x < p := by
  have h0 := zero_lt hp
  have hx := Nat.mod_lt x h0
  have hj : (x + (p - x % p) % p) % p = 0 := by
    rw [Nat.add_mod_mod]
    have e : x + (p - x % p) = p * (x / p + 1) := by
      have := Nat.div_add_mod x p
      rw [Nat.mul_add]
      omega
    rw [e, Nat.mul_mod_right]
  obtain ⟨h1, h2, h3⟩ := nkf_spec p p x ((p - x % p) % p) (Nat.mod_lt _ h0) (by rw [hj, cb_zero]; exact sq_zero hp)
  exact ⟨h1, h2, Nat.lt_of_le_of_lt h3 (Nat.mod_lt _ h0)⟩
theorem call48 : ∀ args w, (callFunc 48 args).run Try.prog w = .ok (.enter 48 args) w := by intro args w; go_simp
theorem call73 : ∀ args w, (callFunc 73 args).run Try.prog w = .ok (.enter 73 args) w := by intro args w; go_simp
theorem call74 : ∀ args w, (callFunc 74 args).run Try.prog w = .ok (.enter 74 args) w := by intro args w; go_simp
theorem call82 : ∀ args w, (callFunc 82 args).run Try.prog w = .ok (.enter 82 args) w := by intro args w; go_simp
section
variable {p r c gx gy : Nat}
set_option maxRecDepth 100000 in
theorem power_any (hp : Pr p) (a n : Nat) (ha : a < p) (hn : n < 18446744073709551616) (w : World) :
    Calls Try.prog 82 #[.agg (kd p r c gx gy).toArray, U a, U n] w fun e w' => e = .returned (U (pw p a n)) ∧ Below w.heap.size w w' := by
  have H0 : Hid (_ ∧ _) := ⟨Mm.nil w, Below.refl w.heap.size w⟩
  go_enter Try.func82, Try.ntmps82
  refine wp_seq ?_
  refine walk_seqA 2 [.made (kd p r c gx gy) 72, .quiet (U 0)] (sB H0) ?ho1 ?he1
  case ho1 => exact ak (fun γ => ⟨rfl, fun w' => ex_boxT rfl rfl⟩) (ak (fun _ => ⟨rfl, fun _ _ => rfl⟩) trivial)
  intro γ w1 l hM hl
  have H1 : Hid (Mm w1 [(γ 0, kd p r c gx gy)] ∧ _) := growB H0 hM (Nat.le_refl _) hl [0] rfl (by decide)
  have o1_0 := ownB H0 hM (Nat.le_refl _) hl (i := 0) rfl
  clear hM hl l
  generalize γ 0 = γ1_0 at H1 o1_0 ⊢
  clear γ
  refine rest0 rfl (then_normal (wp_seq ?_))
  refine walk_seqB 1 [.quiet (U 1)] H1 ?ho2 ?he2
  case ho2 => exact ak (fun _ => ⟨rfl, fun _ _ => rfl⟩) trivial
  intro _ w2 H2
  clear H1
  refine rest0 rfl (then_normal (wp_seq (wp_block ?_)))
  refine loop_ghost (α := Nat × Nat × Nat) (fun z a' w' => ∃ s0 : Nat → Value, a' = ⟨#[.agg (kd p r c gx gy).toArray, U z.2.1, U z.2.2, PT γ1_0 0, undef, undef, U 0, U z.1, s0 8, s0 9, s0 10, s0 11, s0 12, s0 13, s0 14, s0 15, s0 16, s0 17, s0 18, s0 19, s0 20, s0 21, s0 22, undef], []⟩ ∧ (Mm w' [(γ1_0, kd p r c gx gy)] ∧ Below w.heap.size w w') ∧ (z.1 < p ∧ z.2.1 < p ∧ z.2.2 < 18446744073709551616 ∧ z.1 * z.2.1 ^ z.2.2 % p = pw p a n)) (fun z => z.2.2) (1, a, n) ?st0 ?rd0
  case st0 => exact ⟨(slotfn [undef, undef, undef, undef, undef, undef, undef, undef, undef, undef, undef, undef, undef, undef, undef, undef, undef, undef, undef, undef, undef, undef, undef]), rfl, ⟨H2.out.1, H2.out.2⟩, ⟨one_lt hp, ha, hn, by rw [Nat.one_mul]; rfl⟩⟩
  intro z a' w3 hI
  obtain ⟨s0, rfl, hMB, hk0⟩ := hI
  have H3 : Hid (_ ∧ _) := hMB
  clear hMB H2
  by_cases hlt : 0 < z.2.2
  · have hrd : True := trivial
    clear hrd
    obtain ⟨hz1, hz2, hz3, hz4⟩ := hk0
    by_cases ho : z.2.2 % 2 = 1
    · have hrd : True := trivial
      clear hrd
      refine wp_seq (wp_seq ?_)
      refine walk_seqB 2 [.quiet (U z.2.2), .quiet (.bool true)] H3 ?ho3 ?he3
      case ho3 => exact ak (fun _ => ⟨rfl, fun _ _ => rfl⟩) (ak (fun γ => ⟨rfl, fun w' _ => ex_gtU rfl rfl rfl (decide_eq_true (hlt))⟩) trivial)
      intro _ w4 H4
      clear H3
      refine rest0 rfl (then_normal (wp_cond_true rfl ?_))
      refine wp_skip (then_normal ?_)
      refine wp_seq (wp_block ?_)
      refine wp_seq (wp_seq ?_)
      refine walk_seqB 3 [.quiet (U z.2.2), .quiet (U (z.2.2 % 2)), .quiet (.bool true)] H4 ?ho4 ?he4
      case ho4 => exact ak (fun _ => ⟨rfl, fun _ _ => rfl⟩) (ak (fun γ => ⟨rfl, fun w' _ => ex_and1 rfl (hz3) rfl rfl⟩) (ak (fun γ => ⟨rfl, fun w' _ => ex_eqU rfl rfl rfl (decide_eq_true (ho))⟩) trivial))
      intro _ w5 H5
      clear H4
      refine rest0 rfl (then_normal (wp_cond_true rfl ?_))
      refine walk_seqB 4 [.quiet (.agg (kd p r c gx gy).toArray), .quiet (U z.1), .quiet (U z.2.1), .call (U (tm p z.1 z.2.1))] H5 ?ho5 ?he5
      case ho5 => exact ak (fun γ => ⟨rfl, fun w' h => ex_loadT h 0 rfl rfl rfl Try.isAgg72 Try.sizeOf72 rfl rfl⟩) (ak (fun _ => ⟨rfl, fun _ _ => rfl⟩) (ak (fun _ => ⟨rfl, fun _ _ => rfl⟩) (ak (fun γ => ⟨rfl, fun w' h => ⟨69, #[.agg (kd p r c gx gy).toArray, U z.1, U z.2.1], exec_call rfl call69 rfl (mpn rfl), times_any hp z.1 z.2.1 hz1 hz2 w'⟩⟩) trivial)))
      intro _ w6 H6
      clear H5
      refine rest_at (l := [4]) rfl ?_
      refine rest_set (d := 7) rfl rfl rfl rfl ?_
      simp only [Act.put, sa, sz, ss]
      refine rest_nil (then_normal ?_)
      refine walk_seqB 4 [.quiet (.agg (kd p r c gx gy).toArray), .quiet (U z.2.1), .quiet (U z.2.1), .call (U (tm p z.2.1 z.2.1))] H6 ?ho6 ?he6
      case ho6 => exact ak (fun γ => ⟨rfl, fun w' h => ex_loadT h 0 rfl rfl rfl Try.isAgg72 Try.sizeOf72 rfl rfl⟩) (ak (fun _ => ⟨rfl, fun _ _ => rfl⟩) (ak (fun _ => ⟨rfl, fun _ _ => rfl⟩) (ak (fun γ => ⟨rfl, fun w' h => ⟨69, #[.agg (kd p r c gx gy).toArray, U z.2.1, U z.2.1], exec_call rfl call69 rfl (mpn rfl), times_any hp z.2.1 z.2.1 hz2 hz2 w'⟩⟩) trivial)))
      intro _ w7 H7
      clear H6
      refine rest_at (l := [4]) rfl ?_
      refine rest_set (d := 1) rfl rfl rfl rfl ?_
      simp only [Act.put, sa, sz, ss]
      refine rest_nil (block_normal (then_normal ?_))
      refine walk_seqB 2 [.quiet (U z.2.2), .quiet (U (z.2.2 / 2))] H7 ?ho7 ?he7
      case ho7 => exact ak (fun _ => ⟨rfl, fun _ _ => rfl⟩) (ak (fun γ => ⟨rfl, fun w' _ => ex_shr1 rfl rfl rfl⟩) trivial)
      intro _ w8 H8
      clear H7
      refine rest_at (l := [2]) rfl ?_
      refine rest_set (d := 2) rfl rfl rfl rfl ?_
      simp only [Act.put, sa, sz, ss]
      refine rest_nil (then_normal ?_)
      exact ⟨(tm p z.1 z.2.1, tm p z.2.1 z.2.1, z.2.2 / 2), ⟨(slotfn [undef, undef, undef, undef, undef, undef, undef, undef, U z.2.2, .bool true, U z.2.2, U (z.2.2 / 2), U z.2.2, U (z.2.2 % 2), .bool true, .agg (kd p r c gx gy).toArray, U z.1, U z.2.1, U (tm p z.1 z.2.1), .agg (kd p r c gx gy).toArray, U z.2.1, U z.2.1, U (tm p z.2.1 z.2.1)]), rfl, ⟨H8.out.1, H8.out.2⟩, ⟨tm_lt hp, tm_lt hp, Nat.lt_of_le_of_lt (Nat.div_le_self _ _) hz3, (pw_odd p _ _ _ ho).trans hz4⟩⟩, Nat.div_lt_self hlt (by decide)⟩
    · have hrd : True := trivial
      clear hrd
      refine wp_seq (wp_seq ?_)
      refine walk_seqB 2 [.quiet (U z.2.2), .quiet (.bool true)] H3 ?ho8 ?he8
      case ho8 => exact ak (fun _ => ⟨rfl, fun _ _ => rfl⟩) (ak (fun γ => ⟨rfl, fun w' _ => ex_gtU rfl rfl rfl (decide_eq_true (hlt))⟩) trivial)
      intro _ w9 H9
      clear H3
      refine rest0 rfl (then_normal (wp_cond_true rfl ?_))
      refine wp_skip (then_normal ?_)
      refine wp_seq (wp_block ?_)
      refine wp_seq (wp_seq ?_)
      refine walk_seqB 3 [.quiet (U z.2.2), .quiet (U (z.2.2 % 2)), .quiet (.bool false)] H9 ?ho9 ?he9
      case ho9 => exact ak (fun _ => ⟨rfl, fun _ _ => rfl⟩) (ak (fun γ => ⟨rfl, fun w' _ => ex_and1 rfl (hz3) rfl rfl⟩) (ak (fun γ => ⟨rfl, fun w' _ => ex_eqU rfl rfl rfl (decide_eq_false (ho))⟩) trivial))
      intro _ w10 H10
      clear H9
      refine rest0 rfl (then_normal (wp_cond_false rfl ?_))
      refine wp_skip (then_normal ?_)
      refine walk_seqB 4 [.quiet (.agg (kd p r c gx gy).toArray), .quiet (U z.2.1), .quiet (U z.2.1), .call (U (tm p z.2.1 z.2.1))] H10 ?ho10 ?he10
      case ho10 => exact ak (fun γ => ⟨rfl, fun w' h => ex_loadT h 0 rfl rfl rfl Try.isAgg72 Try.sizeOf72 rfl rfl⟩) (ak (fun _ => ⟨rfl, fun _ _ => rfl⟩) (ak (fun _ => ⟨rfl, fun _ _ => rfl⟩) (ak (fun γ => ⟨rfl, fun w' h => ⟨69, #[.agg (kd p r c gx gy).toArray, U z.2.1, U z.2.1], exec_call rfl call69 rfl (mpn rfl), times_any hp z.2.1 z.2.1 hz2 hz2 w'⟩⟩) trivial)))
      intro _ w11 H11
      clear H10
      refine rest_at (l := [4]) rfl ?_
      refine rest_set (d := 1) rfl rfl rfl rfl ?_
      simp only [Act.put, sa, sz, ss]
      refine rest_nil (block_normal (then_normal ?_))
      refine walk_seqB 2 [.quiet (U z.2.2), .quiet (U (z.2.2 / 2))] H11 ?ho11 ?he11
      case ho11 => exact ak (fun _ => ⟨rfl, fun _ _ => rfl⟩) (ak (fun γ => ⟨rfl, fun w' _ => ex_shr1 rfl rfl rfl⟩) trivial)
      intro _ w12 H12
      clear H11
      refine rest_at (l := [2]) rfl ?_
      refine rest_set (d := 2) rfl rfl rfl rfl ?_
      simp only [Act.put, sa, sz, ss]
      refine rest_nil (then_normal ?_)
      exact ⟨(z.1, tm p z.2.1 z.2.1, z.2.2 / 2), ⟨(slotfn [undef, undef, undef, undef, undef, undef, undef, undef, U z.2.2, .bool true, U z.2.2, U (z.2.2 / 2), U z.2.2, U (z.2.2 % 2), .bool false, s0 15, s0 16, s0 17, s0 18, .agg (kd p r c gx gy).toArray, U z.2.1, U z.2.1, U (tm p z.2.1 z.2.1)]), rfl, ⟨H12.out.1, H12.out.2⟩, ⟨hz1, tm_lt hp, Nat.lt_of_le_of_lt (Nat.div_le_self _ _) hz3, (pw_even p _ _ _ (by omega)).trans hz4⟩⟩, Nat.div_lt_self hlt (by decide)⟩
  obtain ⟨hz1, hz2, hz3, hz4⟩ := hk0
  refine wp_seq (wp_seq ?_)
  refine walk_seqB 2 [.quiet (U z.2.2), .quiet (.bool false)] H3 ?ho12 ?he12
  case ho12 => exact ak (fun _ => ⟨rfl, fun _ _ => rfl⟩) (ak (fun γ => ⟨rfl, fun w' _ => ex_gtU rfl rfl rfl (decide_eq_false (hlt))⟩) trivial)
  intro _ w13 H13
  clear H3
  refine rest0 rfl (then_normal (wp_cond_false rfl ?_))
  refine wp_exit ?_
  repeat refine then_exit ?_
  refine block_exit ?_
  refine then_normal (wp_seq ?_)
  refine walk_seqB 2 [.quiet (U z.1), .quiet (U z.1)] H13 ?ho13 ?he13
  case ho13 => exact ak (fun _ => ⟨rfl, fun _ _ => rfl⟩) (ak (fun _ => ⟨rfl, fun _ _ => rfl⟩) trivial)
  intro _ w14 H14
  clear H13
  refine rest0 rfl (then_normal (wp_ret ?_))
  repeat (first | refine then_ret ?_ | refine block_ret ?_)
  refine bodyPost_ret (v := U z.1) (by simp [results, Try.results82, go_sem, *]) rfl ?_
  exact ⟨by rw [← hz4, show z.2.2 = 0 by omega, Nat.pow_zero, Nat.mul_one, Nat.mod_eq_of_lt hz1], H14.out.2⟩
set_option maxRecDepth 100000 in
theorem inverse_any (hp : Pr p) (a : Nat) (ha : a < p) (w : World) :
    Calls Try.prog 72 #[.agg (kd p r c gx gy).toArray, U a] w fun e w' => e = .returned (U (pw p a (p - 2))) ∧ Below w.heap.size w w' := by
  have H0 : Hid (_ ∧ _) := ⟨Mm.nil w, Below.refl w.heap.size w⟩
  go_enter Try.func72, Try.ntmps72
  refine wp_seq ?_
  refine walk_seqA 2 [.made (kd p r c gx gy) 72, .quiet (U 0)] (sB H0) ?ho1 ?he1
  case ho1 => exact ak (fun γ => ⟨rfl, fun w' => ex_boxT rfl rfl⟩) (ak (fun _ => ⟨rfl, fun _ _ => rfl⟩) trivial)
  intro γ w1 l hM hl
  have H1 : Hid (Mm w1 [(γ 0, kd p r c gx gy)] ∧ _) := growB H0 hM (Nat.le_refl _) hl [0] rfl (by decide)
  have o1_0 := ownB H0 hM (Nat.le_refl _) hl (i := 0) rfl
  clear hM hl l
  generalize γ 0 = γ1_0 at H1 o1_0 ⊢
  clear γ
  refine rest0 rfl (then_normal (wp_seq ?_))
  refine walk_seqB 7 [.quiet (.agg (kd p r c gx gy).toArray), .quiet (U a), .quiet (PT γ1_0 0), .quiet (U p), .quiet (U (p - 2)), .call (U (pw p a (p - 2))), .quiet (U (pw p a (p - 2)))] H1 ?ho2 ?he2
  case ho2 => exact ak (fun γ => ⟨rfl, fun w' h => ex_loadT h 0 rfl rfl rfl Try.isAgg72 Try.sizeOf72 rfl rfl⟩) (ak (fun _ => ⟨rfl, fun _ _ => rfl⟩) (ak (by refine fun γ => ⟨rfl, fun w' h => ?_⟩; clear h; go_simp) (ak (fun γ => ⟨rfl, fun w' h => ex_loadC h 0 rfl rfl rfl Try.isAgg23 rfl⟩) (ak (fun γ => ⟨rfl, fun w' _ => ex_subU (by have := hp.lo; omega) (by have := hp.hi; omega) rfl rfl rfl⟩) (ak (fun γ => ⟨rfl, fun w' h => ⟨82, #[.agg (kd p r c gx gy).toArray, U a, U (p - 2)], exec_call rfl call82 rfl (mpn rfl), power_any hp a (p - 2) ha (by have := hp.hi; omega) w'⟩⟩) (ak (fun _ => ⟨rfl, fun _ _ => rfl⟩) trivial))))))
  intro _ w2 H2
  clear H1
  refine rest0 rfl (then_normal (wp_ret ?_))
  repeat (first | refine then_ret ?_ | refine block_ret ?_)
  refine bodyPost_ret (v := U (pw p a (p - 2))) (by simp [results, Try.results72, go_sem, *]) rfl ?_
  exact ⟨rfl, H2.out.2⟩
set_option maxRecDepth 100000 in
theorem root_any (hp : Pr p) (a : Nat) (ha : a < p) (w : World) :
    Calls Try.prog 73 #[.agg (kd p r c gx gy).toArray, U a] w fun e w' => e = .returned (.tuple #[U (rt p a), .bool (sq p a)]) ∧ Below w.heap.size w w' := by
  have H0 : Hid (_ ∧ _) := ⟨Mm.nil w, Below.refl w.heap.size w⟩
  go_enter Try.func73, Try.ntmps73
  refine wp_seq ?_
  refine walk_seqA 3 [.made (kd p r c gx gy) 72, .quiet (U 0), .quiet (.bool false)] (sB H0) ?ho1 ?he1
  case ho1 => exact ak (fun γ => ⟨rfl, fun w' => ex_boxT rfl rfl⟩) (ak (fun _ => ⟨rfl, fun _ _ => rfl⟩) (ak (fun _ => ⟨rfl, fun _ _ => rfl⟩) trivial))
  intro γ w1 l hM hl
  have H1 : Hid (Mm w1 [(γ 0, kd p r c gx gy)] ∧ _) := growB H0 hM (Nat.le_refl _) hl [0] rfl (by decide)
  have o1_0 := ownB H0 hM (Nat.le_refl _) hl (i := 0) rfl
  clear hM hl l
  generalize γ 0 = γ1_0 at H1 o1_0 ⊢
  clear γ
  refine rest0 rfl (then_normal (wp_seq ?_))
  refine walk_seqB 8 [.quiet (.agg (kd p r c gx gy).toArray), .quiet (U a), .quiet (PT γ1_0 0), .quiet (U p), .quiet (U (p + 1)), .quiet (U ((p + 1) / 4)), .call (U (pw p a ((p + 1) / 4))), .quiet (U (pw p a ((p + 1) / 4)))] H1 ?ho2 ?he2
  case ho2 => exact ak (fun γ => ⟨rfl, fun w' h => ex_loadT h 0 rfl rfl rfl Try.isAgg72 Try.sizeOf72 rfl rfl⟩) (ak (fun _ => ⟨rfl, fun _ _ => rfl⟩) (ak (by refine fun γ => ⟨rfl, fun w' h => ?_⟩; clear h; go_simp) (ak (fun γ => ⟨rfl, fun w' h => ex_loadC h 0 rfl rfl rfl Try.isAgg23 rfl⟩) (ak (fun γ => ⟨rfl, fun w' _ => ex_addU (by have := hp.hi; omega) rfl rfl rfl⟩) (ak (fun γ => ⟨rfl, fun w' _ => ex_quoU (by decide) (by have := hp.hi; omega) rfl rfl rfl⟩) (ak (fun γ => ⟨rfl, fun w' h => ⟨82, #[.agg (kd p r c gx gy).toArray, U a, U ((p + 1) / 4)], exec_call rfl call82 rfl (mpn rfl), power_any hp a ((p + 1) / 4) ha (by have := hp.hi; omega) w'⟩⟩) (ak (fun _ => ⟨rfl, fun _ _ => rfl⟩) trivial)))))))
  intro _ w2 H2
  clear H1
  refine rest0 rfl (then_normal (wp_seq ?_))
  refine walk_anyB 13 [.quiet (U (pw p a ((p + 1) / 4))), .quiet (.agg (kd p r c gx gy).toArray), .quiet (U (pw p a ((p + 1) / 4))), .call (U (mi p 0 (pw p a ((p + 1) / 4)))), .quiet (U (min (pw p a ((p + 1) / 4)) (mi p 0 (pw p a ((p + 1) / 4))))), .quiet (.agg (kd p r c gx gy).toArray), .quiet (U (pw p a ((p + 1) / 4))), .quiet (U (pw p a ((p + 1) / 4))), .call (U (tm p (pw p a ((p + 1) / 4)) (pw p a ((p + 1) / 4)))), .quiet (U a), .quiet (.bool (decide (tm p (pw p a ((p + 1) / 4)) (pw p a ((p + 1) / 4)) = a))), .quiet (U (min (pw p a ((p + 1) / 4)) (mi p 0 (pw p a ((p + 1) / 4))))), .quiet (.bool (decide (tm p (pw p a ((p + 1) / 4)) (pw p a ((p + 1) / 4)) = a)))] H2 ?ho3 ?he3
  case ho3 => exact ak (fun _ => ⟨rfl, fun _ _ => rfl⟩) (ak (fun γ => ⟨rfl, fun w' h => ex_loadT h 0 rfl rfl rfl Try.isAgg72 Try.sizeOf72 rfl rfl⟩) (ak (fun _ => ⟨rfl, fun _ _ => rfl⟩) (ak (fun γ => ⟨rfl, fun w' h => ⟨48, #[.agg (kd p r c gx gy).toArray, U 0, U (pw p a ((p + 1) / 4))], exec_call rfl call48 rfl (mpn rfl), minus_any hp 0 (pw p a ((p + 1) / 4)) (zero_lt hp) (pw_lt hp) w'⟩⟩) (ak (fun γ => ⟨rfl, fun w' _ => ex_minU rfl rfl rfl⟩) (ak (fun γ => ⟨rfl, fun w' h => ex_loadT h 0 rfl rfl rfl Try.isAgg72 Try.sizeOf72 rfl rfl⟩) (ak (fun _ => ⟨rfl, fun _ _ => rfl⟩) (ak (fun _ => ⟨rfl, fun _ _ => rfl⟩) (ak (fun γ => ⟨rfl, fun w' h => ⟨69, #[.agg (kd p r c gx gy).toArray, U (pw p a ((p + 1) / 4)), U (pw p a ((p + 1) / 4))], exec_call rfl call69 rfl (mpn rfl), times_any hp (pw p a ((p + 1) / 4)) (pw p a ((p + 1) / 4)) (pw_lt hp) (pw_lt hp) w'⟩⟩) (ak (fun _ => ⟨rfl, fun _ _ => rfl⟩) (ak (fun γ => ⟨rfl, fun w' _ => ex_eqU rfl rfl rfl rfl⟩) (ak (fun _ => ⟨rfl, fun _ _ => rfl⟩) (ak (fun _ => ⟨rfl, fun _ _ => rfl⟩) trivial))))))))))))
  intro _ w3 H3
  clear H2
  refine rest0 rfl (then_normal (wp_ret ?_))
  repeat (first | refine then_ret ?_ | refine block_ret ?_)
  refine bodyPost_ret (v := .tuple #[U (min (pw p a ((p + 1) / 4)) (mi p 0 (pw p a ((p + 1) / 4)))), .bool (decide (tm p (pw p a ((p + 1) / 4)) (pw p a ((p + 1) / 4)) = a))]) (by simp [results, Try.results73, go_sem, *]) rfl ?_
  exact ⟨rfl, H3.out.2⟩
theorem root_true (hp : Pr p) (a : Nat) (ha : a < p) (h : sq p a = true) (w : World) : Calls Try.prog 73 #[.agg (kd p r c gx gy).toArray, U a] w fun e w' => e = .returned (.tuple #[U (rt p a), .bool true]) ∧ Below w.heap.size w w' := by
  have e := root_any (r := r) (c := c) (gx := gx) (gy := gy) hp a ha w
  rw [h] at e
  exact e
theorem root_false (hp : Pr p) (a : Nat) (ha : a < p) (h : sq p a = false) (w : World) : Calls Try.prog 73 #[.agg (kd p r c gx gy).toArray, U a] w fun e w' => e = .returned (.tuple #[U (rt p a), .bool false]) ∧ Below w.heap.size w w' := by
  have e := root_any (r := r) (c := c) (gx := gx) (gy := gy) hp a ha w
  rw [h] at e
  exact e
theorem step_any (hp : Pr p) (x k : Nat) (w : World) : Calls Try.prog 71 #[.agg (kd p r c gx gy).toArray, U ((x + k) % p), U 1] w fun e w' => e = .returned (U ((x + (k + 1)) % p)) ∧ Below w.heap.size w w' := by
  have h := plus_any (r := r) (c := c) (gx := gx) (gy := gy) hp ((x + k) % p) 1 (Nat.mod_lt _ (zero_lt hp)) (one_lt hp) w
  have e : pl p ((x + k) % p) 1 = (x + (k + 1)) % p := by
    unfold pl
    rw [Nat.mod_add_mod, Nat.add_assoc]
  rw [e] at h
  exact h
set_option maxRecDepth 100000 in
theorem near_any (hp : Pr p) (x : Nat) (w : World) :
    Calls Try.prog 49 #[.agg (kd p r c gx gy).toArray, U x] w fun e w' => e = .returned (.tuple #[V (pt ((x + nk p x) % p) (rt p (cb p ((x + nk p x) % p))) false), .int .i64 ((nk p x : Nat) : Int)]) ∧ Below w.heap.size w w' := by
  have H0 : Hid (_ ∧ _) := ⟨Mm.nil w, Below.refl w.heap.size w⟩
  go_enter Try.func49, Try.ntmps49
  refine wp_seq ?_
  refine walk_seqA 3 [.made (kd p r c gx gy) 72, .made (pt 0 0 false) 25, .quiet (.int .i64 0)] (sB H0) ?ho1 ?he1
  case ho1 => exact ak (fun γ => ⟨rfl, fun w' => ex_boxT rfl rfl⟩) (ak (fun γ => ⟨rfl, fun w' => ex_made25 rfl⟩) (ak (fun _ => ⟨rfl, fun _ _ => rfl⟩) trivial))
  intro γ w1 l hM hl
  have H1 : Hid (Mm w1 [(γ 0, kd p r c gx gy), (γ 1, pt 0 0 false)] ∧ _) := growB H0 hM (Nat.le_refl _) hl [0, 1] rfl (by decide)
  have o1_0 := ownB H0 hM (Nat.le_refl _) hl (i := 0) rfl
  have o1_1 := ownB H0 hM (Nat.le_refl _) hl (i := 1) rfl
  clear hM hl l
  generalize γ 0 = γ1_0 at H1 o1_0 ⊢
  generalize γ 1 = γ1_1 at H1 o1_1 ⊢
  clear γ
  refine rest0 rfl (then_normal (wp_seq ?_))
  refine walk_seqB 4 [.quiet (U x), .quiet (PT γ1_0 0), .quiet (U p), .quiet (U (x % p))] H1 ?ho2 ?he2
  case ho2 => exact ak (fun _ => ⟨rfl, fun _ _ => rfl⟩) (ak (by refine fun γ => ⟨rfl, fun w' h => ?_⟩; clear h; go_simp) (ak (fun γ => ⟨rfl, fun w' h => ex_loadC h 0 rfl rfl rfl Try.isAgg23 rfl⟩) (ak (fun γ => ⟨rfl, fun w' _ => ex_remU (by have := hp.lo; omega) rfl rfl rfl⟩) trivial)))
  intro _ w2 H2
  clear H1
  refine rest_at (l := [4]) rfl ?_
  refine rest_set (d := 1) rfl rfl rfl rfl ?_
  simp only [Act.put, sa, sz, ss]
  refine rest_nil (then_normal (wp_seq ?_))
  refine walk_seqB 1 [.quiet (.int .i64 0)] H2 ?ho3 ?he3
  case ho3 => exact ak (fun _ => ⟨rfl, fun _ _ => rfl⟩) trivial
  intro _ w3 H3
  clear H2
  refine rest0 rfl (then_normal (wp_block ?_))
  refine loop_ghost (α := Nat) (fun k a' w' => ∃ s0 : Nat → Value, a' = ⟨#[.agg (kd p r c gx gy).toArray, U ((x + k) % p), PT γ1_0 0, undef, PT γ1_1 0, s0 5, .int .i64 ((k : Nat) : Int), s0 7, s0 8, U x, PT γ1_0 0, U p, U (x % p), s0 13, s0 14, s0 15, s0 16, s0 17, s0 18, s0 19, s0 20, s0 21, s0 22, s0 23, s0 24, s0 25, s0 26, s0 27, s0 28, s0 29, s0 30], []⟩ ∧ (Mm w' [(γ1_0, kd p r c gx gy), (γ1_1, pt 0 0 false)] ∧ Below w.heap.size w w') ∧ k ≤ nk p x) (fun k => nk p x - k) 0 ?st0 ?rd0
  case st0 => exact ⟨(slotfn [undef, undef, undef, undef, undef, .int .i64 0, undef, undef, undef, undef, undef, undef, undef, undef, undef, undef, undef, undef, undef, undef, undef, undef, undef, undef, undef, undef, undef, undef, undef, undef, undef]), by rw [Nat.add_zero]; rfl, ⟨H3.out.1, H3.out.2⟩, Nat.zero_le _⟩
  intro k a' w4 hI
  obtain ⟨s0, rfl, hMB, hk0⟩ := hI
  have H4 : Hid (_ ∧ _) := hMB
  clear hMB H3
  obtain ⟨hz1, hz2, hz3⟩ := nk_spec hp x
  by_cases hs : sq p (cb p ((x + k) % p)) = true
  · have hrd : True := trivial
    clear hrd
    refine wp_seq (wp_block ?_)
    refine wp_seq (wp_seq ?_)
    refine walk_anyB 10 [.quiet (.agg (kd p r c gx gy).toArray), .quiet (.agg (kd p r c gx gy).toArray), .quiet (U ((x + k) % p)), .call (U (cb p ((x + k) % p))), .call (.tuple #[U (rt p (cb p ((x + k) % p))), .bool true]), .quiet (.tuple #[U (rt p (cb p ((x + k) % p))), .bool true]), .quiet (U (rt p (cb p ((x + k) % p)))), .quiet (.bool true), .quiet (U (rt p (cb p ((x + k) % p)))), .quiet (.bool true)] H4 ?ho4 ?he4
    case ho4 => exact ak (fun γ => ⟨rfl, fun w' h => ex_loadT h 0 rfl rfl rfl Try.isAgg72 Try.sizeOf72 rfl rfl⟩) (ak (fun γ => ⟨rfl, fun w' h => ex_loadT h 0 rfl rfl rfl Try.isAgg72 Try.sizeOf72 rfl rfl⟩) (ak (fun _ => ⟨rfl, fun _ _ => rfl⟩) (ak (fun γ => ⟨rfl, fun w' h => ⟨74, #[.agg (kd p r c gx gy).toArray, U ((x + k) % p)], exec_call rfl call74 rfl (mpn rfl), cube_any hp ((x + k) % p) (Nat.mod_lt _ (zero_lt hp)) w'⟩⟩) (ak (fun γ => ⟨rfl, fun w' h => ⟨73, #[.agg (kd p r c gx gy).toArray, U (cb p ((x + k) % p))], exec_call rfl call73 rfl (mpn rfl), root_true hp _ (tm_lt hp) hs w'⟩⟩) (ak (fun _ => ⟨rfl, fun _ _ => rfl⟩) (ak (by refine fun γ => ⟨rfl, fun w' h => ?_⟩; clear h; go_simp) (ak (by refine fun γ => ⟨rfl, fun w' h => ?_⟩; clear h; go_simp) (ak (fun _ => ⟨rfl, fun _ _ => rfl⟩) (ak (fun _ => ⟨rfl, fun _ _ => rfl⟩) trivial)))))))))
    intro _ w5 H5
    clear H4
    refine rest0 rfl (then_normal (wp_seq ?_))
    refine walk_seqB 1 [.quiet (.bool true)] H5 ?ho5 ?he5
    case ho5 => exact ak (fun _ => ⟨rfl, fun _ _ => rfl⟩) trivial
    intro _ w6 H6
    clear H5
    refine rest0 rfl (then_normal (wp_cond_true rfl (wp_seq ?_)))
    refine walk_seqB 4 [.quiet (U ((x + k) % p)), .quiet (U (rt p (cb p ((x + k) % p)))), .quiet (.agg (pt ((x + k) % p) (rt p (cb p ((x + k) % p))) false).toArray), .quiet (.int .i64 ((k : Nat) : Int))] H6 ?ho6 ?he6
    case ho6 => exact ak (fun _ => ⟨rfl, fun _ _ => rfl⟩) (ak (fun _ => ⟨rfl, fun _ _ => rfl⟩) (ak (fun γ => ⟨rfl, fun w' _ => ex_build25_01 rfl rfl rfl⟩) (ak (fun _ => ⟨rfl, fun _ _ => rfl⟩) trivial)))
    intro _ w7 H7
    clear H6
    refine rest_at (l := [4, 5]) rfl ?_
    refine rest_store rfl rfl rfl (ex_storeT (vs := pt ((x + k) % p) (rt p (cb p ((x + k) % p))) false) H7.out.1 1 rfl rfl rfl rfl Try.sizeOf25 rfl (Nat.le_of_ble_eq_true rfl)) ?_
    have H8 : Hid (Mm (w7.setCells γ1_1 0 (pt ((x + k) % p) (rt p (cb p ((x + k) % p))) false)) [(γ1_0, kd p r c gx gy), (γ1_1, pt ((x + k) % p) (rt p (cb p ((x + k) % p))) false)] ∧ Below w.heap.size w (w7.setCells γ1_1 0 (pt ((x + k) % p) (rt p (cb p ((x + k) % p))) false))) := ⟨H7.out.1.put 1 (off := 0) (vs := pt ((x + k) % p) (rt p (cb p ((x + k) % p))) false) rfl (Nat.le_of_ble_eq_true rfl), below_setCells _ o1_1.out _ _ _ H7.out.2⟩
    clear H7
    generalize hgw : World.setCells _ _ _ _ = w8 at H8 ⊢
    clear hgw
    refine rest_set (d := 5) rfl rfl rfl rfl ?_
    simp only [Act.put, sa, sz, ss]
    refine rest_nil (then_normal (wp_ret ?_))
    repeat (first | refine then_ret ?_ | refine block_ret ?_)
    have hf0 := var_T H8.out.1 1 rfl Try.isAgg25 Try.sizeOf25 rfl
    refine bodyPost_ret (v := .tuple #[.agg (pt ((x + k) % p) (rt p (cb p ((x + k) % p))) false).toArray, .int .i64 ((k : Nat) : Int)]) (by simp [results, Try.results49, asAddr, Act.eval, hf0]) rfl ?_
    have e : k = nk p x := Nat.le_antisymm hk0 (Nat.le_of_not_lt fun hl => by rw [hz2 k hl] at hs; cases hs)
    exact ⟨by rw [e], H8.out.2⟩
  · have hrd : True := trivial
    clear hrd
    have hne : k ≠ nk p x := fun e => hs (by rw [e]; exact hz1)
    refine wp_seq (wp_block ?_)
    refine wp_seq (wp_seq ?_)
    refine walk_anyB 10 [.quiet (.agg (kd p r c gx gy).toArray), .quiet (.agg (kd p r c gx gy).toArray), .quiet (U ((x + k) % p)), .call (U (cb p ((x + k) % p))), .call (.tuple #[U (rt p (cb p ((x + k) % p))), .bool false]), .quiet (.tuple #[U (rt p (cb p ((x + k) % p))), .bool false]), .quiet (U (rt p (cb p ((x + k) % p)))), .quiet (.bool false), .quiet (U (rt p (cb p ((x + k) % p)))), .quiet (.bool false)] H4 ?ho7 ?he7
    case ho7 => exact ak (fun γ => ⟨rfl, fun w' h => ex_loadT h 0 rfl rfl rfl Try.isAgg72 Try.sizeOf72 rfl rfl⟩) (ak (fun γ => ⟨rfl, fun w' h => ex_loadT h 0 rfl rfl rfl Try.isAgg72 Try.sizeOf72 rfl rfl⟩) (ak (fun _ => ⟨rfl, fun _ _ => rfl⟩) (ak (fun γ => ⟨rfl, fun w' h => ⟨74, #[.agg (kd p r c gx gy).toArray, U ((x + k) % p)], exec_call rfl call74 rfl (mpn rfl), cube_any hp ((x + k) % p) (Nat.mod_lt _ (zero_lt hp)) w'⟩⟩) (ak (fun γ => ⟨rfl, fun w' h => ⟨73, #[.agg (kd p r c gx gy).toArray, U (cb p ((x + k) % p))], exec_call rfl call73 rfl (mpn rfl), root_false hp _ (tm_lt hp) (Bool.eq_false_iff.2 hs) w'⟩⟩) (ak (fun _ => ⟨rfl, fun _ _ => rfl⟩) (ak (by refine fun γ => ⟨rfl, fun w' h => ?_⟩; clear h; go_simp) (ak (by refine fun γ => ⟨rfl, fun w' h => ?_⟩; clear h; go_simp) (ak (fun _ => ⟨rfl, fun _ _ => rfl⟩) (ak (fun _ => ⟨rfl, fun _ _ => rfl⟩) trivial)))))))))
    intro _ w9 H9
    clear H4
    refine rest0 rfl (then_normal (wp_seq ?_))
    refine walk_seqB 1 [.quiet (.bool false)] H9 ?ho8 ?he8
    case ho8 => exact ak (fun _ => ⟨rfl, fun _ _ => rfl⟩) trivial
    intro _ w10 H10
    clear H9
    refine rest0 rfl (then_normal (wp_cond_false rfl ?_))
    refine wp_skip (then_normal ?_)
    refine walk_seqB 3 [.quiet (.agg (kd p r c gx gy).toArray), .quiet (U ((x + k) % p)), .call (U ((x + (k + 1)) % p))] H10 ?ho9 ?he9
    case ho9 => exact ak (fun γ => ⟨rfl, fun w' h => ex_loadT h 0 rfl rfl rfl Try.isAgg72 Try.sizeOf72 rfl rfl⟩) (ak (fun _ => ⟨rfl, fun _ _ => rfl⟩) (ak (fun γ => ⟨rfl, fun w' h => ⟨71, #[.agg (kd p r c gx gy).toArray, U ((x + k) % p), U 1], exec_call rfl call71 rfl (mpn rfl), step_any hp x k w'⟩⟩) trivial))
    intro _ w11 H11
    clear H10
    refine rest_at (l := [3]) rfl ?_
    refine rest_set (d := 1) rfl rfl rfl rfl ?_
    simp only [Act.put, sa, sz, ss]
    refine rest_nil (block_normal (then_normal ?_))
    refine walk_seqB 2 [.quiet (.int .i64 ((k : Nat) : Int)), .quiet (.int .i64 ((k + 1 : Nat) : Int))] H11 ?ho10 ?he10
    case ho10 => exact ak (fun _ => ⟨rfl, fun _ _ => rfl⟩) (ak (by refine fun γ => ⟨rfl, fun w' h => ?_⟩; clear h; have := hp.hi; go_simp; rw [IntKind.wrap_i64]; omega) trivial)
    intro _ w12 H12
    clear H11
    refine rest_at (l := [2]) rfl ?_
    refine rest_set (d := 6) rfl rfl rfl rfl ?_
    simp only [Act.put, sa, sz, ss]
    refine rest_nil (then_normal ?_)
    exact ⟨k + 1, ⟨(slotfn [undef, undef, undef, undef, undef, s0 5, undef, U (rt p (cb p ((x + k) % p))), .bool false, undef, undef, undef, undef, .int .i64 ((k : Nat) : Int), .int .i64 ((k + 1 : Nat) : Int), .tuple #[U (rt p (cb p ((x + k) % p))), .bool false], .agg (kd p r c gx gy).toArray, .agg (kd p r c gx gy).toArray, U ((x + k) % p), U (cb p ((x + k) % p)), .tuple #[U (rt p (cb p ((x + k) % p))), .bool false], U (rt p (cb p ((x + k) % p))), .bool false, .bool false, s0 24, s0 25, s0 26, s0 27, .agg (kd p r c gx gy).toArray, U ((x + k) % p), U ((x + (k + 1)) % p)]), rfl, ⟨H12.out.1, H12.out.2⟩, by omega⟩, by omega⟩
end
end Rg
end Go.Proofs.Ytjmbgchoioepjaa
