/- The field of a suite: sums, differences, products -/
import Derived.Test.YtjmbgchoioepjaaU1
namespace Go.Proofs.Ytjmbgchoioepjaa
open Go.RowKit
namespace Rg
/-- What is known of a prime here. -/
structure Pr (p : Nat) : Prop where
  lo : 8 < p
  hi : p < 1152921504606846976
def tm (p a b : Nat) : Nat := a * b % p
def pl (p a b : Nat) : Nat := (a + b) % p
def mi (p a b : Nat) : Nat := (a + p - b) % p
theorem tm_lt {p a b : Nat} (hp : Pr p) : tm p a b < p := Nat.mod_lt _ (by have := hp.lo; omega)
theorem pl_lt {p a b : Nat} (hp : Pr p) : pl p a b < p := Nat.mod_lt _ (by have := hp.lo; omega)
theorem mi_lt {p a b : Nat} (hp : Pr p) : mi p a b < p := Nat.mod_lt _ (by have := hp.lo; omega)
theorem zero_lt {p : Nat} (hp : Pr p) : 0 < p := by have := hp.lo; omega
theorem one_lt {p : Nat} (hp : Pr p) : 1 < p := by have := hp.lo; omega
theorem pl_small {p a b : Nat} (h : a + b < p) : pl p a b = a + b := Nat.mod_eq_of_lt h
theorem pl_great {p a b : Nat} (ha : a < p) (hb : b < p) (h : ¬ a + b < p) : pl p a b = a + b - p := by
  unfold pl
  rw [Nat.mod_eq_sub_mod (by omega), Nat.mod_eq_of_lt (by omega)]
theorem mi_small {p a b : Nat} (ha : a < p) (h : b ≤ a) : mi p a b = a - b := by
  unfold mi
  rw [show a + p - b = (a - b) + p by omega, Nat.add_mod_right, Nat.mod_eq_of_lt (by omega)]
theorem mi_great {p a b : Nat} (hb : b < p) (h : ¬ b ≤ a) : mi p a b = a + p - b := Nat.mod_eq_of_lt (by omega)
theorem below_drew {w w' : World} (h : ∃ n, w' = w.drewN n) : Below w.heap.size w w' := by
  obtain ⟨n, rfl⟩ := h
  exact below_drewN (Below.refl _ _) n
theorem call69 : ∀ args w, (callFunc 69 args).run Try.prog w = .ok (.enter 69 args) w := by intro args w; go_simp
theorem call71 : ∀ args w, (callFunc 71 args).run Try.prog w = .ok (.enter 71 args) w := by intro args w; go_simp
theorem call75 : ∀ args w, (callFunc 75 args).run Try.prog w = .ok (.enter 75 args) w := by intro args w; go_simp
theorem call76 : ∀ args w, (callFunc 76 args).run Try.prog w = .ok (.enter 76 args) w := by intro args w; go_simp
section
variable {p r c gx gy : Nat}
set_option maxRecDepth 100000 in
theorem plus_lo (hp : Pr p) (a b : Nat) (_ha : a < p) (_hb : b < p) (h : a + b < p) (w : World) :
    Calls Try.prog 71 #[.agg (kd p r c gx gy).toArray, U a, U b] w fun e w' => e = .returned (U (a + b)) ∧ Below w.heap.size w w' := by
  have H0 : Hid (_ ∧ _) := ⟨Mm.nil w, Below.refl w.heap.size w⟩
  go_enter Try.func71, Try.ntmps71
  refine wp_seq ?_
  refine walk_seqA 2 [.made (kd p r c gx gy) 72, .quiet (U 0)] (sB H0) ?ho1 ?he1
  case ho1 => exact ak (fun γ => ⟨rfl, fun w' => ex_boxT rfl rfl⟩) (ak (fun _ => ⟨rfl, fun _ _ => rfl⟩) trivial)
  intro γ w1 l hM hl
  have H1 : Hid (Mm w1 [(γ 0, kd p r c gx gy)] ∧ _) := growB H0 hM (Nat.le_refl _) hl [0] rfl (by decide)
  have o1_0 := ownB H0 hM (Nat.le_refl _) hl (i := 0) rfl
  clear hM hl l
  generalize γ 0 = γ1_0 at H1 o1_0 ⊢
  clear γ
  refine rest0 rfl (then_normal (wp_seq (wp_seq ?_)))
  refine walk_seqB 4 [.quiet (U a), .quiet (U b), .quiet (U (a + b)), .quiet (U (a + b))] H1 ?ho2 ?he2
  case ho2 => exact ak (fun _ => ⟨rfl, fun _ _ => rfl⟩) (ak (fun _ => ⟨rfl, fun _ _ => rfl⟩) (ak (fun γ => ⟨rfl, fun w' _ => ex_addU (by have := hp.hi; omega) rfl rfl rfl⟩) (ak (fun _ => ⟨rfl, fun _ _ => rfl⟩) trivial)))
  intro _ w2 H2
  clear H1
  refine rest0 rfl (then_normal (wp_seq ?_))
  refine walk_seqB 4 [.quiet (U (a + b)), .quiet (PT γ1_0 0), .quiet (U p), .quiet (.bool true)] H2 ?ho3 ?he3
  case ho3 => exact ak (fun _ => ⟨rfl, fun _ _ => rfl⟩) (ak (by refine fun γ => ⟨rfl, fun w' h => ?_⟩; clear h; go_simp) (ak (fun γ => ⟨rfl, fun w' h => ex_loadC h 0 rfl rfl rfl Try.isAgg23 rfl⟩) (ak (fun γ => ⟨rfl, fun w' _ => ex_ltU rfl rfl rfl (decide_eq_true (h))⟩) trivial)))
  intro _ w3 H3
  clear H2
  refine rest0 rfl (then_normal (wp_cond_true rfl (wp_seq ?_)))
  refine walk_seqB 2 [.quiet (U (a + b)), .quiet (U (a + b))] H3 ?ho4 ?he4
  case ho4 => exact ak (fun _ => ⟨rfl, fun _ _ => rfl⟩) (ak (fun _ => ⟨rfl, fun _ _ => rfl⟩) trivial)
  intro _ w4 H4
  clear H3
  refine rest0 rfl (then_normal (wp_ret ?_))
  repeat (first | refine then_ret ?_ | refine block_ret ?_)
  refine bodyPost_ret (v := U (a + b)) (by simp [results, Try.results71, go_sem, *]) rfl ?_
  exact ⟨rfl, H4.out.2⟩
set_option maxRecDepth 100000 in
theorem plus_hi (hp : Pr p) (a b : Nat) (ha : a < p) (hb : b < p) (h : ¬ a + b < p) (w : World) :
    Calls Try.prog 71 #[.agg (kd p r c gx gy).toArray, U a, U b] w fun e w' => e = .returned (U (a + b - p)) ∧ Below w.heap.size w w' := by
  have H0 : Hid (_ ∧ _) := ⟨Mm.nil w, Below.refl w.heap.size w⟩
  go_enter Try.func71, Try.ntmps71
  refine wp_seq ?_
  refine walk_seqA 2 [.made (kd p r c gx gy) 72, .quiet (U 0)] (sB H0) ?ho1 ?he1
  case ho1 => exact ak (fun γ => ⟨rfl, fun w' => ex_boxT rfl rfl⟩) (ak (fun _ => ⟨rfl, fun _ _ => rfl⟩) trivial)
  intro γ w1 l hM hl
  have H1 : Hid (Mm w1 [(γ 0, kd p r c gx gy)] ∧ _) := growB H0 hM (Nat.le_refl _) hl [0] rfl (by decide)
  have o1_0 := ownB H0 hM (Nat.le_refl _) hl (i := 0) rfl
  clear hM hl l
  generalize γ 0 = γ1_0 at H1 o1_0 ⊢
  clear γ
  refine rest0 rfl (then_normal (wp_seq (wp_seq ?_)))
  refine walk_seqB 4 [.quiet (U a), .quiet (U b), .quiet (U (a + b)), .quiet (U (a + b))] H1 ?ho2 ?he2
  case ho2 => exact ak (fun _ => ⟨rfl, fun _ _ => rfl⟩) (ak (fun _ => ⟨rfl, fun _ _ => rfl⟩) (ak (fun γ => ⟨rfl, fun w' _ => ex_addU (by have := hp.hi; omega) rfl rfl rfl⟩) (ak (fun _ => ⟨rfl, fun _ _ => rfl⟩) trivial)))
  intro _ w2 H2
  clear H1
  refine rest0 rfl (then_normal (wp_seq ?_))
  refine walk_seqB 4 [.quiet (U (a + b)), .quiet (PT γ1_0 0), .quiet (U p), .quiet (.bool false)] H2 ?ho3 ?he3
  case ho3 => exact ak (fun _ => ⟨rfl, fun _ _ => rfl⟩) (ak (by refine fun γ => ⟨rfl, fun w' h => ?_⟩; clear h; go_simp) (ak (fun γ => ⟨rfl, fun w' h => ex_loadC h 0 rfl rfl rfl Try.isAgg23 rfl⟩) (ak (fun γ => ⟨rfl, fun w' _ => ex_ltU rfl rfl rfl (decide_eq_false (h))⟩) trivial)))
  intro _ w3 H3
  clear H2
  refine rest0 rfl (then_normal (wp_cond_false rfl ?_))
  refine wp_skip (then_normal (wp_seq ?_))
  refine walk_seqB 7 [.quiet (U a), .quiet (U b), .quiet (U (a + b)), .quiet (PT γ1_0 0), .quiet (U p), .quiet (U (a + b - p)), .quiet (U (a + b - p))] H3 ?ho4 ?he4
  case ho4 => exact ak (fun _ => ⟨rfl, fun _ _ => rfl⟩) (ak (fun _ => ⟨rfl, fun _ _ => rfl⟩) (ak (fun γ => ⟨rfl, fun w' _ => ex_addU (by have := hp.hi; omega) rfl rfl rfl⟩) (ak (by refine fun γ => ⟨rfl, fun w' h => ?_⟩; clear h; go_simp) (ak (fun γ => ⟨rfl, fun w' h => ex_loadC h 0 rfl rfl rfl Try.isAgg23 rfl⟩) (ak (fun γ => ⟨rfl, fun w' _ => ex_subU (by omega) (by have := hp.hi; omega) rfl rfl rfl⟩) (ak (fun _ => ⟨rfl, fun _ _ => rfl⟩) trivial))))))
  intro _ w4 H4
  clear H3
  refine rest0 rfl (then_normal (wp_ret ?_))
  repeat (first | refine then_ret ?_ | refine block_ret ?_)
  refine bodyPost_ret (v := U (a + b - p)) (by simp [results, Try.results71, go_sem, *]) rfl ?_
  exact ⟨rfl, H4.out.2⟩
theorem plus_any (hp : Pr p) (a b : Nat) (ha : a < p) (hb : b < p) (w : World) : Calls Try.prog 71 #[.agg (kd p r c gx gy).toArray, U a, U b] w fun e w' => e = .returned (U (pl p a b)) ∧ Below w.heap.size w w' := by
  by_cases h : a + b < p
  · rw [pl_small h]; exact plus_lo hp a b ha hb h w
  · rw [pl_great ha hb h]; exact plus_hi hp a b ha hb h w
set_option maxRecDepth 100000 in
theorem minus_lo (hp : Pr p) (a b : Nat) (ha : a < p) (_hb : b < p) (h : b ≤ a) (w : World) :
    Calls Try.prog 48 #[.agg (kd p r c gx gy).toArray, U a, U b] w fun e w' => e = .returned (U (a - b)) ∧ Below w.heap.size w w' := by
  have H0 : Hid (_ ∧ _) := ⟨Mm.nil w, Below.refl w.heap.size w⟩
  go_enter Try.func48, Try.ntmps48
  refine wp_seq ?_
  refine walk_seqA 2 [.made (kd p r c gx gy) 72, .quiet (U 0)] (sB H0) ?ho1 ?he1
  case ho1 => exact ak (fun γ => ⟨rfl, fun w' => ex_boxT rfl rfl⟩) (ak (fun _ => ⟨rfl, fun _ _ => rfl⟩) trivial)
  intro γ w1 l hM hl
  have H1 : Hid (Mm w1 [(γ 0, kd p r c gx gy)] ∧ _) := growB H0 hM (Nat.le_refl _) hl [0] rfl (by decide)
  have o1_0 := ownB H0 hM (Nat.le_refl _) hl (i := 0) rfl
  clear hM hl l
  generalize γ 0 = γ1_0 at H1 o1_0 ⊢
  clear γ
  refine rest0 rfl (then_normal (wp_seq (wp_seq ?_)))
  refine walk_seqB 3 [.quiet (U a), .quiet (U b), .quiet (.bool true)] H1 ?ho2 ?he2
  case ho2 => exact ak (fun _ => ⟨rfl, fun _ _ => rfl⟩) (ak (fun _ => ⟨rfl, fun _ _ => rfl⟩) (ak (fun γ => ⟨rfl, fun w' _ => ex_geU rfl rfl rfl (decide_eq_true (h))⟩) trivial))
  intro _ w2 H2
  clear H1
  refine rest0 rfl (then_normal (wp_cond_true rfl (wp_seq ?_)))
  refine walk_seqB 4 [.quiet (U a), .quiet (U b), .quiet (U (a - b)), .quiet (U (a - b))] H2 ?ho3 ?he3
  case ho3 => exact ak (fun _ => ⟨rfl, fun _ _ => rfl⟩) (ak (fun _ => ⟨rfl, fun _ _ => rfl⟩) (ak (fun γ => ⟨rfl, fun w' _ => ex_subU (h) (by have := hp.hi; omega) rfl rfl rfl⟩) (ak (fun _ => ⟨rfl, fun _ _ => rfl⟩) trivial)))
  intro _ w3 H3
  clear H2
  refine rest0 rfl (then_normal (wp_ret ?_))
  repeat (first | refine then_ret ?_ | refine block_ret ?_)
  refine bodyPost_ret (v := U (a - b)) (by simp [results, Try.results48, go_sem, *]) rfl ?_
  exact ⟨rfl, H3.out.2⟩
set_option maxRecDepth 100000 in
theorem minus_hi (hp : Pr p) (a b : Nat) (_ha : a < p) (hb : b < p) (h : ¬ b ≤ a) (w : World) :
    Calls Try.prog 48 #[.agg (kd p r c gx gy).toArray, U a, U b] w fun e w' => e = .returned (U (a + p - b)) ∧ Below w.heap.size w w' := by
  have H0 : Hid (_ ∧ _) := ⟨Mm.nil w, Below.refl w.heap.size w⟩
  go_enter Try.func48, Try.ntmps48
  refine wp_seq ?_
  refine walk_seqA 2 [.made (kd p r c gx gy) 72, .quiet (U 0)] (sB H0) ?ho1 ?he1
  case ho1 => exact ak (fun γ => ⟨rfl, fun w' => ex_boxT rfl rfl⟩) (ak (fun _ => ⟨rfl, fun _ _ => rfl⟩) trivial)
  intro γ w1 l hM hl
  have H1 : Hid (Mm w1 [(γ 0, kd p r c gx gy)] ∧ _) := growB H0 hM (Nat.le_refl _) hl [0] rfl (by decide)
  have o1_0 := ownB H0 hM (Nat.le_refl _) hl (i := 0) rfl
  clear hM hl l
  generalize γ 0 = γ1_0 at H1 o1_0 ⊢
  clear γ
  refine rest0 rfl (then_normal (wp_seq (wp_seq ?_)))
  refine walk_seqB 3 [.quiet (U a), .quiet (U b), .quiet (.bool false)] H1 ?ho2 ?he2
  case ho2 => exact ak (fun _ => ⟨rfl, fun _ _ => rfl⟩) (ak (fun _ => ⟨rfl, fun _ _ => rfl⟩) (ak (fun γ => ⟨rfl, fun w' _ => ex_geU rfl rfl rfl (decide_eq_false (h))⟩) trivial))
  intro _ w2 H2
  clear H1
  refine rest0 rfl (then_normal (wp_cond_false rfl ?_))
  refine wp_skip (then_normal (wp_seq ?_))
  refine walk_seqB 7 [.quiet (U a), .quiet (PT γ1_0 0), .quiet (U p), .quiet (U (a + p)), .quiet (U b), .quiet (U (a + p - b)), .quiet (U (a + p - b))] H2 ?ho3 ?he3
  case ho3 => exact ak (fun _ => ⟨rfl, fun _ _ => rfl⟩) (ak (by refine fun γ => ⟨rfl, fun w' h => ?_⟩; clear h; go_simp) (ak (fun γ => ⟨rfl, fun w' h => ex_loadC h 0 rfl rfl rfl Try.isAgg23 rfl⟩) (ak (fun γ => ⟨rfl, fun w' _ => ex_addU (by have := hp.hi; omega) rfl rfl rfl⟩) (ak (fun _ => ⟨rfl, fun _ _ => rfl⟩) (ak (fun γ => ⟨rfl, fun w' _ => ex_subU (by omega) (by have := hp.hi; omega) rfl rfl rfl⟩) (ak (fun _ => ⟨rfl, fun _ _ => rfl⟩) trivial))))))
  intro _ w3 H3
  clear H2
  refine rest0 rfl (then_normal (wp_ret ?_))
  repeat (first | refine then_ret ?_ | refine block_ret ?_)
  refine bodyPost_ret (v := U (a + p - b)) (by simp [results, Try.results48, go_sem, *]) rfl ?_
  exact ⟨rfl, H3.out.2⟩
theorem minus_any (hp : Pr p) (a b : Nat) (ha : a < p) (hb : b < p) (w : World) : Calls Try.prog 48 #[.agg (kd p r c gx gy).toArray, U a, U b] w fun e w' => e = .returned (U (mi p a b)) ∧ Below w.heap.size w w' := by
  by_cases h : b ≤ a
  · rw [mi_small ha h]; exact minus_lo hp a b ha hb h w
  · rw [mi_great hb h]; exact minus_hi hp a b ha hb h w
theorem mul_in (a b : Nat) (ha : a < 18446744073709551616) (hb : b < 18446744073709551616) (w : World) : Calls Try.prog 75 #[U a, U b] w fun e w' => e = .returned (.tuple #[U (a * b / 18446744073709551616), U (a * b % 18446744073709551616)]) ∧ Below w.heap.size w w' :=
  Calls.mono (mul64N a b ha hb w) (fun e w' h => ⟨h.1, by rw [h.2]; exact Below.refl _ _⟩)
theorem rem_in (hp : Pr p) (n : Nat) (w : World) : Calls Try.prog 76 #[U (n / 18446744073709551616), U (n % 18446744073709551616), U p] w fun e w' => e = .returned (U (n % p)) ∧ Below w.heap.size w w' := by
  have h := rem64_any (n / 18446744073709551616) (n % 18446744073709551616) p (zero_lt hp) (by have := hp.hi; omega) (Nat.mod_lt _ (by decide)) w
  rw [show n / 18446744073709551616 * 18446744073709551616 + n % 18446744073709551616 = n from Nat.div_add_mod' n _] at h
  exact Calls.mono h (fun e w' h => ⟨h.1, below_drew h.2⟩)
set_option maxRecDepth 100000 in
theorem times_any (hp : Pr p) (a b : Nat) (ha : a < p) (hb : b < p) (w : World) :
    Calls Try.prog 69 #[.agg (kd p r c gx gy).toArray, U a, U b] w fun e w' => e = .returned (U (tm p a b)) ∧ Below w.heap.size w w' := by
  have H0 : Hid (_ ∧ _) := ⟨Mm.nil w, Below.refl w.heap.size w⟩
  go_enter Try.func69, Try.ntmps69
  refine wp_seq ?_
  refine walk_seqA 2 [.made (kd p r c gx gy) 72, .quiet (U 0)] (sB H0) ?ho1 ?he1
  case ho1 => exact ak (fun γ => ⟨rfl, fun w' => ex_boxT rfl rfl⟩) (ak (fun _ => ⟨rfl, fun _ _ => rfl⟩) trivial)
  intro γ w1 l hM hl
  have H1 : Hid (Mm w1 [(γ 0, kd p r c gx gy)] ∧ _) := growB H0 hM (Nat.le_refl _) hl [0] rfl (by decide)
  have o1_0 := ownB H0 hM (Nat.le_refl _) hl (i := 0) rfl
  clear hM hl l
  generalize γ 0 = γ1_0 at H1 o1_0 ⊢
  clear γ
  refine rest0 rfl (then_normal (wp_seq ?_))
  refine walk_seqB 8 [.quiet (U a), .quiet (U b), .call (.tuple #[U (a * b / 18446744073709551616), U (a * b % 18446744073709551616)]), .quiet (.tuple #[U (a * b / 18446744073709551616), U (a * b % 18446744073709551616)]), .quiet (U (a * b / 18446744073709551616)), .quiet (U (a * b % 18446744073709551616)), .quiet (U (a * b / 18446744073709551616)), .quiet (U (a * b % 18446744073709551616))] H1 ?ho2 ?he2
  case ho2 => exact ak (fun _ => ⟨rfl, fun _ _ => rfl⟩) (ak (fun _ => ⟨rfl, fun _ _ => rfl⟩) (ak (fun γ => ⟨rfl, fun w' h => ⟨75, #[U a, U b], exec_call rfl call75 rfl (mpn rfl), mul_in a b (by have := hp.hi; omega) (by have := hp.hi; omega) w'⟩⟩) (ak (fun _ => ⟨rfl, fun _ _ => rfl⟩) (ak (by refine fun γ => ⟨rfl, fun w' h => ?_⟩; clear h; go_simp) (ak (by refine fun γ => ⟨rfl, fun w' h => ?_⟩; clear h; go_simp) (ak (fun _ => ⟨rfl, fun _ _ => rfl⟩) (ak (fun _ => ⟨rfl, fun _ _ => rfl⟩) trivial)))))))
  intro _ w2 H2
  clear H1
  refine rest0 rfl (then_normal (wp_seq ?_))
  refine walk_seqB 6 [.quiet (U (a * b / 18446744073709551616)), .quiet (U (a * b % 18446744073709551616)), .quiet (PT γ1_0 0), .quiet (U p), .call (U (a * b % p)), .quiet (U (a * b % p))] H2 ?ho3 ?he3
  case ho3 => exact ak (fun _ => ⟨rfl, fun _ _ => rfl⟩) (ak (fun _ => ⟨rfl, fun _ _ => rfl⟩) (ak (by refine fun γ => ⟨rfl, fun w' h => ?_⟩; clear h; go_simp) (ak (fun γ => ⟨rfl, fun w' h => ex_loadC h 0 rfl rfl rfl Try.isAgg23 rfl⟩) (ak (fun γ => ⟨rfl, fun w' h => ⟨76, #[U (a * b / 18446744073709551616), U (a * b % 18446744073709551616), U p], exec_call rfl call76 rfl (mpn rfl), rem_in hp (a * b) w'⟩⟩) (ak (fun _ => ⟨rfl, fun _ _ => rfl⟩) trivial)))))
  intro _ w3 H3
  clear H2
  refine rest0 rfl (then_normal (wp_ret ?_))
  repeat (first | refine then_ret ?_ | refine block_ret ?_)
  refine bodyPost_ret (v := U (a * b % p)) (by simp [results, Try.results69, go_sem, *]) rfl ?_
  exact ⟨rfl, H3.out.2⟩
/-- X X X + X -/
def cb (p x : Nat) : Nat := tm p x (pl p (tm p x x) 1)
set_option maxRecDepth 100000 in
theorem cube_any (hp : Pr p) (x : Nat) (hx : x < p) (w : World) :
    Calls Try.prog 74 #[.agg (kd p r c gx gy).toArray, U x] w fun e w' => e = .returned (U (cb p x)) ∧ Below w.heap.size w w' := by
  have H0 : Hid (_ ∧ _) := ⟨Mm.nil w, Below.refl w.heap.size w⟩
  go_enter Try.func74, Try.ntmps74
  refine wp_seq ?_
  refine walk_seqA 2 [.made (kd p r c gx gy) 72, .quiet (U 0)] (sB H0) ?ho1 ?he1
  case ho1 => exact ak (fun γ => ⟨rfl, fun w' => ex_boxT rfl rfl⟩) (ak (fun _ => ⟨rfl, fun _ _ => rfl⟩) trivial)
  intro γ w1 l hM hl
  have H1 : Hid (Mm w1 [(γ 0, kd p r c gx gy)] ∧ _) := growB H0 hM (Nat.le_refl _) hl [0] rfl (by decide)
  have o1_0 := ownB H0 hM (Nat.le_refl _) hl (i := 0) rfl
  clear hM hl l
  generalize γ 0 = γ1_0 at H1 o1_0 ⊢
  clear γ
  refine rest0 rfl (then_normal (wp_seq ?_))
  refine walk_anyB 10 [.quiet (.agg (kd p r c gx gy).toArray), .quiet (U x), .quiet (.agg (kd p r c gx gy).toArray), .quiet (.agg (kd p r c gx gy).toArray), .quiet (U x), .quiet (U x), .call (U (tm p x x)), .call (U (pl p (tm p x x) 1)), .call (U (tm p x (pl p (tm p x x) 1))), .quiet (U (tm p x (pl p (tm p x x) 1)))] H1 ?ho2 ?he2
  case ho2 => exact ak (fun γ => ⟨rfl, fun w' h => ex_loadT h 0 rfl rfl rfl Try.isAgg72 Try.sizeOf72 rfl rfl⟩) (ak (fun _ => ⟨rfl, fun _ _ => rfl⟩) (ak (fun γ => ⟨rfl, fun w' h => ex_loadT h 0 rfl rfl rfl Try.isAgg72 Try.sizeOf72 rfl rfl⟩) (ak (fun γ => ⟨rfl, fun w' h => ex_loadT h 0 rfl rfl rfl Try.isAgg72 Try.sizeOf72 rfl rfl⟩) (ak (fun _ => ⟨rfl, fun _ _ => rfl⟩) (ak (fun _ => ⟨rfl, fun _ _ => rfl⟩) (ak (fun γ => ⟨rfl, fun w' h => ⟨69, #[.agg (kd p r c gx gy).toArray, U x, U x], exec_call rfl call69 rfl (mpn rfl), times_any hp x x hx hx w'⟩⟩) (ak (fun γ => ⟨rfl, fun w' h => ⟨71, #[.agg (kd p r c gx gy).toArray, U (tm p x x), U 1], exec_call rfl call71 rfl (mpn rfl), plus_any hp (tm p x x) 1 (tm_lt hp) (one_lt hp) w'⟩⟩) (ak (fun γ => ⟨rfl, fun w' h => ⟨69, #[.agg (kd p r c gx gy).toArray, U x, U (pl p (tm p x x) 1)], exec_call rfl call69 rfl (mpn rfl), times_any hp x (pl p (tm p x x) 1) hx (pl_lt hp) w'⟩⟩) (ak (fun _ => ⟨rfl, fun _ _ => rfl⟩) trivial)))))))))
  intro _ w2 H2
  clear H1
  refine rest0 rfl (then_normal (wp_ret ?_))
  repeat (first | refine then_ret ?_ | refine block_ret ?_)
  refine bodyPost_ret (v := U (tm p x (pl p (tm p x x) 1))) (by simp [results, Try.results74, go_sem, *]) rfl ?_
  exact ⟨rfl, H2.out.2⟩
end
end Rg
end Go.Proofs.Ytjmbgchoioepjaa
