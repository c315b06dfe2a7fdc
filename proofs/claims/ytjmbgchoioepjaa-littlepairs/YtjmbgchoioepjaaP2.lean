/- Texts of the proof, joined. -/
import Derived.Test.YtjmbgchoioepjaaP1
section
namespace Go.Proofs.Ytjmbgchoioepjaa
open Go.RowKit
namespace Rg
/-- What is known of a prime here. -/
structure Pr (p : Nat) : Prop where
  lo : 8 < p
  hi : p < 1152921504606846976
def tm (p a b : Nat) : Nat := a * b % p
def pl (p a b : Nat) : Nat := (a + b) % p
def mi (p a b : Nat) : Nat := (a + p - b) % p
theorem tm_lt {p a b : Nat} (hp : Pr p) : tm p a b < p := Nat.mod_lt _ (by have := hp.lo; omega)
theorem pl_lt {p a b : Nat} (hp : Pr p) : pl p a b < p := Nat.mod_lt _ (by have := hp.lo; omega)
theorem mi_lt {p a b : Nat} (hp : Pr p) : mi p a b < p := Nat.mod_lt _ (by have := hp.lo; omega)
theorem zero_lt {p : Nat} (hp : Pr p) : 0 < p := by have := hp.lo; omega
theorem one_lt {p : Nat} (hp : Pr p) : 1 < p := by have := hp.lo; omega
theorem pl_small {p a b : Nat} (h : a + b < p) : pl p a b = a + b := Nat.mod_eq_of_lt h
theorem pl_great {p a b : Nat} (ha : a < p) (hb : b < p) (h : ¬ a + b < p) : pl p a b = a + b - p := by
  unfold pl
  rw [Nat.mod_eq_sub_mod (by omega), Nat.mod_eq_of_lt (by omega)]
theorem mi_small {p a b : Nat} (ha : a < p) (h : b ≤ a) : mi p a b = a - b := by
  unfold mi
  rw [show a + p - b = (a - b) + p by omega, Nat.add_mod_right, Nat.mod_eq_of_lt (by omega)]
theorem mi_great {p a b : Nat} (hb : b < p) (h : ¬ b ≤ a) : mi p a b = a + p - b := Nat.mod_eq_of_lt (by omega)
theorem below_drew {w w' : World} (h : ∃ n, w' = w.drewN n) : Below w.heap.size w w' := by
  obtain ⟨n, rfl⟩ := h
  exact below_drewN (Below.refl _ _) n
theorem call69 : ∀ args w, (callFunc 69 args).run Try.prog w = .ok (.enter 69 args) w := by intro args w; go_simp
theorem call71 : ∀ args w, (callFunc 71 args).run Try.prog w = .ok (.enter 71 args) w := by intro args w; go_simp
theorem call75 : ∀ args w, (callFunc 75 args).run Try.prog w = .ok (.enter 75 args) w := by intro args w; go_simp
theorem call76 : ∀ args w, (callFunc 76 args).run Try.prog w = .ok (.enter 76 args) w := by intro args w; go_simp
section
variable {p r c gx gy : Nat}
set_option maxRecDepth 100000 in
theorem plus_lo (hp : Pr p) (a b : Nat) (_ha : a < p) (_hb : b < p) (h : a + b < p) (w : World) :
    Calls Try.prog 71 #[.agg (kd p r c gx gy).toArray, U a, U b] w fun e w' => e = .returned (U (a + b)) ∧ Below w.heap.size w w' := by
  have H0 : Hid (_ ∧ _) := ⟨Mm.nil w, Below.refl w.heap.size w⟩
  go_enter Try.func71, Try.ntmps71
  refine wp_seq ?_
  refine walk_seqA 2 [.made (kd p r c gx gy) 72, .quiet (U 0)] (sB H0) ?ho1 ?he1
  case ho1 => exact ak (fun γ => ⟨rfl, fun w' => ex_boxT rfl rfl⟩) (ak (fun _ => ⟨rfl, fun _ _ => rfl⟩) trivial)
  intro γ w1 l hM hl
  have H1 : Hid (Mm w1 [(γ 0, kd p r c gx gy)] ∧ _) := growB H0 hM (Nat.le_refl _) hl [0] rfl (by decide)
  have o1_0 := ownB H0 hM (Nat.le_refl _) hl (i := 0) rfl
  clear hM hl l
  generalize γ 0 = γ1_0 at H1 o1_0 ⊢
  clear γ
  refine rest0 rfl (then_normal (wp_seq (wp_seq ?_)))
  refine walk_seqB 4 [.quiet (U a), .quiet (U b), .quiet (U (a + b)), .quiet (U (a + b))] H1 ?ho2 ?he2
  case ho2 => exact ak (fun _ => ⟨rfl, fun _ _ => rfl⟩) (ak (fun _ => ⟨rfl, fun _ _ => rfl⟩) (ak (fun γ => ⟨rfl, fun w' _ => ex_addU (by have := hp.hi; omega) rfl rfl rfl⟩) (ak (fun _ => ⟨rfl, fun _ _ => rfl⟩) trivial)))
  intro _ w2 H2
  clear H1
  refine rest0 rfl (then_normal (wp_seq ?_))
  refine walk_seqB 4 [.quiet (U (a + b)), .quiet (PT γ1_0 0), .quiet (U p), .quiet (.bool true)] H2 ?ho3 ?he3
  case ho3 => exact ak (fun _ => ⟨rfl, fun _ _ => rfl⟩) (ak (by refine fun γ => ⟨rfl, fun w' h => ?_⟩; clear h; go_simp) (ak (fun γ => ⟨rfl, fun w' h => ex_loadC h 0 rfl rfl rfl Try.isAgg23 rfl⟩) (ak (fun γ => ⟨rfl, fun w' _ => ex_ltU rfl rfl rfl (decide_eq_true (h))⟩) trivial)))
  intro _ w3 H3
  clear H2
  refine rest0 rfl (then_normal (wp_cond_true rfl (wp_seq ?_)))
  refine walk_seqB 2 [.quiet (U (a + b)), .quiet (U (a + b))] H3 ?ho4 ?he4
  case ho4 => exact ak (fun _ => ⟨rfl, fun _ _ => rfl⟩) (ak (fun _ => ⟨rfl, fun _ _ => rfl⟩) trivial)
  intro _ w4 H4
  clear H3
  refine rest0 rfl (then_normal (wp_ret ?_))
  repeat (first | refine then_ret ?_ | refine block_ret ?_)
  refine bodyPost_ret (v := U (a + b)) (by simp [results, Try.results71, go_sem, *]) rfl ?_
  exact ⟨rfl, H4.out.2⟩
set_option maxRecDepth 100000 in
theorem plus_hi (hp : Pr p) (a b : Nat) (ha : a < p) (hb : b < p) (h : ¬ a + b < p) (w : World) :
    Calls Try.prog 71 #[.agg (kd p r c gx gy).toArray, U a, U b] w fun e w' => e = .returned (U (a + b - p)) ∧ Below w.heap.size w w' := by
  have H0 : Hid (_ ∧ _) := ⟨Mm.nil w, Below.refl w.heap.size w⟩
  go_enter Try.func71, Try.ntmps71
  refine wp_seq ?_
  refine walk_seqA 2 [.made (kd p r c gx gy) 72, .quiet (U 0)] (sB H0) ?ho1 ?he1
  case ho1 => exact ak (fun γ => ⟨rfl, fun w' => ex_boxT rfl rfl⟩) (ak (fun _ => ⟨rfl, fun _ _ => rfl⟩) trivial)
  intro γ w1 l hM hl
  have H1 : Hid (Mm w1 [(γ 0, kd p r c gx gy)] ∧ _) := growB H0 hM (Nat.le_refl _) hl [0] rfl (by decide)
  have o1_0 := ownB H0 hM (Nat.le_refl _) hl (i := 0) rfl
  clear hM hl l
  generalize γ 0 = γ1_0 at H1 o1_0 ⊢
  clear γ
  refine rest0 rfl (then_normal (wp_seq (wp_seq ?_)))
  refine walk_seqB 4 [.quiet (U a), .quiet (U b), .quiet (U (a + b)), .quiet (U (a + b))] H1 ?ho2 ?he2
  case ho2 => exact ak (fun _ => ⟨rfl, fun _ _ => rfl⟩) (ak (fun _ => ⟨rfl, fun _ _ => rfl⟩) (ak (fun γ => ⟨rfl, fun w' _ => ex_addU (by have := hp.hi; omega) rfl rfl rfl⟩) (ak (fun _ => ⟨rfl, fun _ _ => rfl⟩) trivial)))
  intro _ w2 H2
  clear H1
  refine rest0 rfl (then_normal (wp_seq ?_))
  refine walk_seqB 4 [.quiet (U (a + b)), .quiet (PT γ1_0 0), .quiet (U p), .quiet (.bool false)] H2 ?ho3 ?he3
  case ho3 => exact ak (fun _ => ⟨rfl, fun _ _ => rfl⟩) (ak (by refine fun γ => ⟨rfl, fun w' h => ?_⟩; clear h; go_simp) (ak (fun γ => ⟨rfl, fun w' h => ex_loadC h 0 rfl rfl rfl Try.isAgg23 rfl⟩) (ak (fun γ => ⟨rfl, fun w' _ => ex_ltU rfl rfl rfl (decide_eq_false (h))⟩) trivial)))
  intro _ w3 H3
  clear H2
  refine rest0 rfl (then_normal (wp_cond_false rfl ?_))
  refine wp_skip (then_normal (wp_seq ?_))
  refine walk_seqB 7 [.quiet (U a), .quiet (U b), .quiet (U (a + b)), .quiet (PT γ1_0 0), .quiet (U p), .quiet (U (a + b - p)), .quiet (U (a + b - p))] H3 ?ho4 ?he4
  case ho4 => exact ak (fun _ => ⟨rfl, fun _ _ => rfl⟩) (ak (fun _ => ⟨rfl, fun _ _ => rfl⟩) (ak (fun γ => ⟨rfl, fun w' _ => ex_addU (by have := hp.hi; omega) rfl rfl rfl⟩) (ak (by refine fun γ => ⟨rfl, fun w' h => ?_⟩; clear h; go_simp) (ak (fun γ => ⟨rfl, fun w' h => ex_loadC h 0 rfl rfl rfl Try.isAgg23 rfl⟩) (ak (fun γ => ⟨rfl, fun w' _ => ex_subU (by omega) (by have := hp.hi; omega) rfl rfl rfl⟩) (ak (fun _ => ⟨rfl, fun _ _ => rfl⟩) trivial))))))
  intro _ w4 H4
  clear H3
  refine rest0 rfl (then_normal (wp_ret ?_))
  repeat (first | refine then_ret ?_ | refine block_ret ?_)
  refine bodyPost_ret (v := U (a + b - p)) (by simp [results, Try.results71, go_sem, *]) rfl ?_
  exact ⟨rfl, H4.out.2⟩
theorem plus_any (hp : Pr p) (a b : Nat) (ha : a < p) (hb : b < p) (w : World) : Calls Try.prog 71 #[.agg (kd p r c gx gy).toArray, U a, U b] w fun e w' => e = .returned (U (pl p a b)) ∧ Below w.heap.size w w' := by
  by_cases h : a + b < p
  · rw [pl_small h]; exact plus_lo hp a b ha hb h w
  · rw [pl_great ha hb h]; exact plus_hi hp a b ha hb h w
set_option maxRecDepth 100000 in
theorem minus_lo (hp : Pr p) (a b : Nat) (ha : a < p) (_hb : b < p) (h : b ≤ a) (w : World) :
    Calls Try.prog 48 #[.agg (kd p r c gx gy).toArray, U a, U b] w fun e w' => e = .returned (U (a - b)) ∧ Below w.heap.size w w' := by
  have H0 : Hid (_ ∧ _) := ⟨Mm.nil w, Below.refl w.heap.size w⟩
  go_enter Try.func48, Try.ntmps48
  refine wp_seq ?_
  refine walk_seqA 2 [.made (kd p r c gx gy) 72, .quiet (U 0)] (sB H0) ?ho1 ?he1
  case ho1 => exact ak (fun γ => ⟨rfl, fun w' => ex_boxT rfl rfl⟩) (ak (fun _ => ⟨rfl, fun _ _ => rfl⟩) trivial)
  intro γ w1 l hM hl
  have H1 : Hid (Mm w1 [(γ 0, kd p r c gx gy)] ∧ _) := growB H0 hM (Nat.le_refl _) hl [0] rfl (by decide)
  have o1_0 := ownB H0 hM (Nat.le_refl _) hl (i := 0) rfl
  clear hM hl l
  generalize γ 0 = γ1_0 at H1 o1_0 ⊢
  clear γ
  refine rest0 rfl (then_normal (wp_seq (wp_seq ?_)))
  refine walk_seqB 3 [.quiet (U a), .quiet (U b), .quiet (.bool true)] H1 ?ho2 ?he2
  case ho2 => exact ak (fun _ => ⟨rfl, fun _ _ => rfl⟩) (ak (fun _ => ⟨rfl, fun _ _ => rfl⟩) (ak (fun γ => ⟨rfl, fun w' _ => ex_geU rfl rfl rfl (decide_eq_true (h))⟩) trivial))
  intro _ w2 H2
  clear H1
  refine rest0 rfl (then_normal (wp_cond_true rfl (wp_seq ?_)))
  refine walk_seqB 4 [.quiet (U a), .quiet (U b), .quiet (U (a - b)), .quiet (U (a - b))] H2 ?ho3 ?he3
  case ho3 => exact ak (fun _ => ⟨rfl, fun _ _ => rfl⟩) (ak (fun _ => ⟨rfl, fun _ _ => rfl⟩) (ak (fun γ => ⟨rfl, fun w' _ => ex_subU (h) (by have := hp.hi; omega) rfl rfl rfl⟩) (ak (fun _ => ⟨rfl, fun _ _ => rfl⟩) trivial)))
  intro _ w3 H3
  clear H2
  refine rest0 rfl (then_normal (wp_ret ?_))
  repeat (first | refine then_ret ?_ | refine block_ret ?_)
  refine bodyPost_ret (v := U (a - b)) (by simp [results, Try.results48, go_sem, *]) rfl ?_
  exact ⟨rfl, H3.out.2⟩
set_option maxRecDepth 100000 in
theorem minus_hi (hp : Pr p) (a b : Nat) (_ha : a < p) (hb : b < p) (h : ¬ b ≤ a) (w : World) :
    Calls Try.prog 48 #[.agg (kd p r c gx gy).toArray, U a, U b] w fun e w' => e = .returned (U (a + p - b)) ∧ Below w.heap.size w w' := by
  have H0 : Hid (_ ∧ _) := ⟨Mm.nil w, Below.refl w.heap.size w⟩
  go_enter Try.func48, Try.ntmps48
  refine wp_seq ?_
  refine walk_seqA 2 [.made (kd p r c gx gy) 72, .quiet (U 0)] (sB H0) ?ho1 ?he1
  case ho1 => exact ak (fun γ => ⟨rfl, fun w' => ex_boxT rfl rfl⟩) (ak (fun _ => ⟨rfl, fun _ _ => rfl⟩) trivial)
  intro γ w1 l hM hl
  have H1 : Hid (Mm w1 [(γ 0, kd p r c gx gy)] ∧ _) := growB H0 hM (Nat.le_refl _) hl [0] rfl (by decide)
  have o1_0 := ownB H0 hM (Nat.le_refl _) hl (i := 0) rfl
  clear hM hl l
  generalize γ 0 = γ1_0 at H1 o1_0 ⊢
  clear γ
  refine rest0 rfl (then_normal (wp_seq (wp_seq ?_)))
  refine walk_seqB 3 [.quiet (U a), .quiet (U b), .quiet (.bool false)] H1 ?ho2 ?he2
  case ho2 => exact ak (fun _ => ⟨rfl, fun _ _ => rfl⟩) (ak (fun _ => ⟨rfl, fun _ _ => rfl⟩) (ak (fun γ => ⟨rfl, fun w' _ => ex_geU rfl rfl rfl (decide_eq_false (h))⟩) trivial))
  intro _ w2 H2
  clear H1
  refine rest0 rfl (then_normal (wp_cond_false rfl ?_))
  refine wp_skip (then_normal (wp_seq ?_))
  refine walk_seqB 7 [.quiet (U a), .quiet (PT γ1_0 0), .quiet (U p), .quiet (U (a + p)), .quiet (U b), .quiet (U (a + p - b)), .quiet (U (a + p - b))] H2 ?ho3 ?he3
  case ho3 => exact ak (fun _ => ⟨rfl, fun _ _ => rfl⟩) (ak (by refine fun γ => ⟨rfl, fun w' h => ?_⟩; clear h; go_simp) (ak (fun γ => ⟨rfl, fun w' h => ex_loadC h 0 rfl rfl rfl Try.isAgg23 rfl⟩) (ak (fun γ => ⟨rfl, fun w' _ => ex_addU (by have := hp.hi; omega) rfl rfl rfl⟩) (ak (fun _ => ⟨rfl, fun _ _ => rfl⟩) (ak (fun γ => ⟨rfl, fun w' _ => ex_subU (by omega) (by have := hp.hi; omega) rfl rfl rfl⟩) (ak (fun _ => ⟨rfl, fun _ _ => rfl⟩) trivial))))))
  intro _ w3 H3
  clear H2
  refine rest0 rfl (then_normal (wp_ret ?_))
  repeat (first | refine then_ret ?_ | refine block_ret ?_)
  refine bodyPost_ret (v := U (a + p - b)) (by simp [results, Try.results48, go_sem, *]) rfl ?_
  exact ⟨rfl, H3.out.2⟩
theorem minus_any (hp : Pr p) (a b : Nat) (ha : a < p) (hb : b < p) (w : World) : Calls Try.prog 48 #[.agg (kd p r c gx gy).toArray, U a, U b] w fun e w' => e = .returned (U (mi p a b)) ∧ Below w.heap.size w w' := by
  by_cases h : b ≤ a
  · rw [mi_small ha h]; exact minus_lo hp a b ha hb h w
  · rw [mi_great hb h]; exact minus_hi hp a b ha hb h w
theorem mul_in (a b : Nat) (ha : a < 18446744073709551616) (hb : b < 18446744073709551616) (w : World) : Calls Try.prog 75 #[U a, U b] w fun e w' => e = .returned (.tuple #[U (a * b / 18446744073709551616), U (a * b % 18446744073709551616)]) ∧ Below w.heap.size w w' :=
  Calls.mono (mul64N a b ha hb w) (fun e w' h => ⟨h.1, by rw [h.2]; exact Below.refl _ _⟩)
theorem rem_in (hp : Pr p) (n : Nat) (w : World) : Calls Try.prog 76 #[U (n / 18446744073709551616), U (n % 18446744073709551616), U p] w fun e w' => e = .returned (U (n % p)) ∧ Below w.heap.size w w' := by
  have h := rem64_any (n / 18446744073709551616) (n % 18446744073709551616) p (zero_lt hp) (by have := hp.hi; omega) (Nat.mod_lt _ (by decide)) w
  rw [show n / 18446744073709551616 * 18446744073709551616 + n % 18446744073709551616 = n from Nat.div_add_mod' n _] at h
  exact Calls.mono h (fun e w' h => ⟨h.1, below_drew h.2⟩)
set_option maxRecDepth 100000 in
theorem times_any (hp : Pr p) (a b : Nat) (ha : a < p) (hb : b < p) (w : World) :
    Calls Try.prog 69 #[.agg (kd p r c gx gy).toArray, U a, U b] w fun e w' => e = .returned (U (tm p a b)) ∧ Below w.heap.size w w' := by
  have H0 : Hid (_ ∧ _) := ⟨Mm.nil w, Below.refl w.heap.size w⟩
  go_enter Try.func69, Try.ntmps69
  refine wp_seq ?_
  refine walk_seqA 2 [.made (kd p r c gx gy) 72, .quiet (U 0)] (sB H0) ?ho1 ?he1
  case ho1 => exact ak (fun γ => ⟨rfl, fun w' => ex_boxT rfl rfl⟩) (ak (fun _ => ⟨rfl, fun _ _ => rfl⟩) trivial)
  intro γ w1 l hM hl
  have H1 : Hid (Mm w1 [(γ 0, kd p r c gx gy)] ∧ _) := growB H0 hM (Nat.le_refl _) hl [0] rfl (by decide)
  have o1_0 := ownB H0 hM (Nat.le_refl _) hl (i := 0) rfl
  clear hM hl l
  generalize γ 0 = γ1_0 at H1 o1_0 ⊢
  clear γ
  refine rest0 rfl (then_normal (wp_seq ?_))
  refine walk_seqB 8 [.quiet (U a), .quiet (U b), .call (.tuple #[U (a * b / 18446744073709551616), U (a * b % 18446744073709551616)]), .quiet (.tuple #[U (a * b / 18446744073709551616), U (a * b % 18446744073709551616)]), .quiet (U (a * b / 18446744073709551616)), .quiet (U (a * b % 18446744073709551616)), .quiet (U (a * b / 18446744073709551616)), .quiet (U (a * b % 18446744073709551616))] H1 ?ho2 ?he2
  case ho2 => exact ak (fun _ => ⟨rfl, fun _ _ => rfl⟩) (ak (fun _ => ⟨rfl, fun _ _ => rfl⟩) (ak (fun γ => ⟨rfl, fun w' h => ⟨75, #[U a, U b], exec_call rfl call75 rfl (mpn rfl), mul_in a b (by have := hp.hi; omega) (by have := hp.hi; omega) w'⟩⟩) (ak (fun _ => ⟨rfl, fun _ _ => rfl⟩) (ak (by refine fun γ => ⟨rfl, fun w' h => ?_⟩; clear h; go_simp) (ak (by refine fun γ => ⟨rfl, fun w' h => ?_⟩; clear h; go_simp) (ak (fun _ => ⟨rfl, fun _ _ => rfl⟩) (ak (fun _ => ⟨rfl, fun _ _ => rfl⟩) trivial)))))))
  intro _ w2 H2
  clear H1
  refine rest0 rfl (then_normal (wp_seq ?_))
  refine walk_seqB 6 [.quiet (U (a * b / 18446744073709551616)), .quiet (U (a * b % 18446744073709551616)), .quiet (PT γ1_0 0), .quiet (U p), .call (U (a * b % p)), .quiet (U (a * b % p))] H2 ?ho3 ?he3
  case ho3 => exact ak (fun _ => ⟨rfl, fun _ _ => rfl⟩) (ak (fun _ => ⟨rfl, fun _ _ => rfl⟩) (ak (by refine fun γ => ⟨rfl, fun w' h => ?_⟩; clear h; go_simp) (ak (fun γ => ⟨rfl, fun w' h => ex_loadC h 0 rfl rfl rfl Try.isAgg23 rfl⟩) (ak (fun γ => ⟨rfl, fun w' h => ⟨76, #[U (a * b / 18446744073709551616), U (a * b % 18446744073709551616), U p], exec_call rfl call76 rfl (mpn rfl), rem_in hp (a * b) w'⟩⟩) (ak (fun _ => ⟨rfl, fun _ _ => rfl⟩) trivial)))))
  intro _ w3 H3
  clear H2
  refine rest0 rfl (then_normal (wp_ret ?_))
  repeat (first | refine then_ret ?_ | refine block_ret ?_)
  refine bodyPost_ret (v := U (a * b % p)) (by simp [results, Try.results69, go_sem, *]) rfl ?_
  exact ⟨rfl, H3.out.2⟩
/-- X X X + X -/
def cb (p x : Nat) : Nat := tm p x (pl p (tm p x x) 1)
set_option maxRecDepth 100000 in
theorem cube_any (hp : Pr p) (x : Nat) (hx : x < p) (w : World) :
    Calls Try.prog 74 #[.agg (kd p r c gx gy).toArray, U x] w fun e w' => e = .returned (U (cb p x)) ∧ Below w.heap.size w w' := by
  have H0 : Hid (_ ∧ _) := ⟨Mm.nil w, Below.refl w.heap.size w⟩
  go_enter Try.func74, Try.ntmps74
  refine wp_seq ?_
  refine walk_seqA 2 [.made (kd p r c gx gy) 72, .quiet (U 0)] (sB H0) ?ho1 ?he1
  case ho1 => exact ak (fun γ => ⟨rfl, fun w' => ex_boxT rfl rfl⟩) (ak (fun _ => ⟨rfl, fun _ _ => rfl⟩) trivial)
  intro γ w1 l hM hl
  have H1 : Hid (Mm w1 [(γ 0, kd p r c gx gy)] ∧ _) := growB H0 hM (Nat.le_refl _) hl [0] rfl (by decide)
  have o1_0 := ownB H0 hM (Nat.le_refl _) hl (i := 0) rfl
  clear hM hl l
  generalize γ 0 = γ1_0 at H1 o1_0 ⊢
  clear γ
  refine rest0 rfl (then_normal (wp_seq ?_))
  refine walk_anyB 10 [.quiet (.agg (kd p r c gx gy).toArray), .quiet (U x), .quiet (.agg (kd p r c gx gy).toArray), .quiet (.agg (kd p r c gx gy).toArray), .quiet (U x), .quiet (U x), .call (U (tm p x x)), .call (U (pl p (tm p x x) 1)), .call (U (tm p x (pl p (tm p x x) 1))), .quiet (U (tm p x (pl p (tm p x x) 1)))] H1 ?ho2 ?he2
  case ho2 => exact ak (fun γ => ⟨rfl, fun w' h => ex_loadT h 0 rfl rfl rfl Try.isAgg72 Try.sizeOf72 rfl rfl⟩) (ak (fun _ => ⟨rfl, fun _ _ => rfl⟩) (ak (fun γ => ⟨rfl, fun w' h => ex_loadT h 0 rfl rfl rfl Try.isAgg72 Try.sizeOf72 rfl rfl⟩) (ak (fun γ => ⟨rfl, fun w' h => ex_loadT h 0 rfl rfl rfl Try.isAgg72 Try.sizeOf72 rfl rfl⟩) (ak (fun _ => ⟨rfl, fun _ _ => rfl⟩) (ak (fun _ => ⟨rfl, fun _ _ => rfl⟩) (ak (fun γ => ⟨rfl, fun w' h => ⟨69, #[.agg (kd p r c gx gy).toArray, U x, U x], exec_call rfl call69 rfl (mpn rfl), times_any hp x x hx hx w'⟩⟩) (ak (fun γ => ⟨rfl, fun w' h => ⟨71, #[.agg (kd p r c gx gy).toArray, U (tm p x x), U 1], exec_call rfl call71 rfl (mpn rfl), plus_any hp (tm p x x) 1 (tm_lt hp) (one_lt hp) w'⟩⟩) (ak (fun γ => ⟨rfl, fun w' h => ⟨69, #[.agg (kd p r c gx gy).toArray, U x, U (pl p (tm p x x) 1)], exec_call rfl call69 rfl (mpn rfl), times_any hp x (pl p (tm p x x) 1) hx (pl_lt hp) w'⟩⟩) (ak (fun _ => ⟨rfl, fun _ _ => rfl⟩) trivial)))))))))
  intro _ w2 H2
  clear H1
  refine rest0 rfl (then_normal (wp_ret ?_))
  repeat (first | refine then_ret ?_ | refine block_ret ?_)
  refine bodyPost_ret (v := U (tm p x (pl p (tm p x x) 1))) (by simp [results, Try.results74, go_sem, *]) rfl ?_
  exact ⟨rfl, H2.out.2⟩
end
end Rg
end Go.Proofs.Ytjmbgchoioepjaa
end
section
namespace Go.Proofs.Ytjmbgchoioepjaa
open Go.RowKit
namespace Rg
def slotfn (l : List Value) (d : Nat) : Value := l.getD d undef
/-- A number's power, by p. -/
def pw (p a n : Nat) : Nat := a ^ n % p
theorem pw_lt {p a n : Nat} (hp : Pr p) : pw p a n < p := Nat.mod_lt _ (zero_lt hp)
theorem pw_even (p A B m : Nat) (h : m % 2 = 0) : A * tm p B B ^ (m / 2) % p = A * B ^ m % p := by
  unfold tm
  rw [Nat.mul_mod, ← Nat.pow_mod, ← Nat.mul_mod, ← Nat.pow_two, ← Nat.pow_mul, show 2 * (m / 2) = m by omega]
theorem pw_even' (p A B m : Nat) (h : m % 2 = 1) : A * tm p B B ^ (m / 2) % p = A * B ^ (m - 1) % p := by
  unfold tm
  rw [Nat.mul_mod, ← Nat.pow_mod, ← Nat.mul_mod, ← Nat.pow_two, ← Nat.pow_mul, show 2 * (m / 2) = m - 1 by omega]
theorem pw_odd (p A B m : Nat) (h : m % 2 = 1) : tm p A B * tm p B B ^ (m / 2) % p = A * B ^ m % p := by
  rw [pw_even' p (tm p A B) B m h]
  unfold tm
  rw [Nat.mul_mod, Nat.mod_mod, ← Nat.mul_mod, Nat.mul_assoc, ← Nat.pow_succ', show (m - 1).succ = m by omega]
def rb (p a : Nat) : Nat := pw p a ((p + 1) / 4)
theorem call48 : ∀ args w, (callFunc 48 args).run Try.prog w = .ok (.enter 48 args) w := by intro args w; go_simp
theorem call74 : ∀ args w, (callFunc 74 args).run Try.prog w = .ok (.enter 74 args) w := by intro args w; go_simp
theorem call82 : ∀ args w, (callFunc 82 args).run Try.prog w = .ok (.enter 82 args) w := by intro args w; go_simp
section
variable {p r c gx gy : Nat}
set_option maxRecDepth 100000 in
theorem power_any (hp : Pr p) (a n : Nat) (ha : a < p) (hn : n < 18446744073709551616) (w : World) :
    Calls Try.prog 82 #[.agg (kd p r c gx gy).toArray, U a, U n] w fun e w' => e = .returned (U (pw p a n)) ∧ Below w.heap.size w w' := by
  have H0 : Hid (_ ∧ _) := ⟨Mm.nil w, Below.refl w.heap.size w⟩
  go_enter Try.func82, Try.ntmps82
  refine wp_seq ?_
  refine walk_seqA 2 [.made (kd p r c gx gy) 72, .quiet (U 0)] (sB H0) ?ho1 ?he1
  case ho1 => exact ak (fun γ => ⟨rfl, fun w' => ex_boxT rfl rfl⟩) (ak (fun _ => ⟨rfl, fun _ _ => rfl⟩) trivial)
  intro γ w1 l hM hl
  have H1 : Hid (Mm w1 [(γ 0, kd p r c gx gy)] ∧ _) := growB H0 hM (Nat.le_refl _) hl [0] rfl (by decide)
  have o1_0 := ownB H0 hM (Nat.le_refl _) hl (i := 0) rfl
  clear hM hl l
  generalize γ 0 = γ1_0 at H1 o1_0 ⊢
  clear γ
  refine rest0 rfl (then_normal (wp_seq ?_))
  refine walk_seqB 1 [.quiet (U 1)] H1 ?ho2 ?he2
  case ho2 => exact ak (fun _ => ⟨rfl, fun _ _ => rfl⟩) trivial
  intro _ w2 H2
  clear H1
  refine rest0 rfl (then_normal (wp_seq (wp_block ?_)))
  refine loop_ghost (α := Nat × Nat × Nat) (fun z a' w' => ∃ s0 : Nat → Value, a' = ⟨#[.agg (kd p r c gx gy).toArray, U z.2.1, U z.2.2, PT γ1_0 0, undef, undef, U 0, U z.1, s0 8, s0 9, s0 10, s0 11, s0 12, s0 13, s0 14, s0 15, s0 16, s0 17, s0 18, s0 19, s0 20, s0 21, s0 22, undef], []⟩ ∧ (Mm w' [(γ1_0, kd p r c gx gy)] ∧ Below w.heap.size w w') ∧ (z.1 < p ∧ z.2.1 < p ∧ z.2.2 < 18446744073709551616 ∧ z.1 * z.2.1 ^ z.2.2 % p = pw p a n)) (fun z => z.2.2) (1, a, n) ?st0 ?rd0
  case st0 => exact ⟨(slotfn [undef, undef, undef, undef, undef, undef, undef, undef, undef, undef, undef, undef, undef, undef, undef, undef, undef, undef, undef, undef, undef, undef, undef]), rfl, ⟨H2.out.1, H2.out.2⟩, ⟨one_lt hp, ha, hn, by rw [Nat.one_mul]; rfl⟩⟩
  intro z a' w3 hI
  obtain ⟨s0, rfl, hMB, hk0⟩ := hI
  have H3 : Hid (_ ∧ _) := hMB
  clear hMB H2
  by_cases hlt : 0 < z.2.2
  · have hrd : True := trivial
    clear hrd
    obtain ⟨hz1, hz2, hz3, hz4⟩ := hk0
    by_cases ho : z.2.2 % 2 = 1
    · have hrd : True := trivial
      clear hrd
      refine wp_seq (wp_seq ?_)
      refine walk_seqB 2 [.quiet (U z.2.2), .quiet (.bool true)] H3 ?ho3 ?he3
      case ho3 => exact ak (fun _ => ⟨rfl, fun _ _ => rfl⟩) (ak (fun γ => ⟨rfl, fun w' _ => ex_gtU rfl rfl rfl (decide_eq_true (hlt))⟩) trivial)
      intro _ w4 H4
      clear H3
      refine rest0 rfl (then_normal (wp_cond_true rfl ?_))
      refine wp_skip (then_normal ?_)
      refine wp_seq (wp_block ?_)
      refine wp_seq (wp_seq ?_)
      refine walk_seqB 3 [.quiet (U z.2.2), .quiet (U (z.2.2 % 2)), .quiet (.bool true)] H4 ?ho4 ?he4
      case ho4 => exact ak (fun _ => ⟨rfl, fun _ _ => rfl⟩) (ak (fun γ => ⟨rfl, fun w' _ => ex_and1 rfl (hz3) rfl rfl⟩) (ak (fun γ => ⟨rfl, fun w' _ => ex_eqU rfl rfl rfl (decide_eq_true (ho))⟩) trivial))
      intro _ w5 H5
      clear H4
      refine rest0 rfl (then_normal (wp_cond_true rfl ?_))
      refine walk_seqB 4 [.quiet (.agg (kd p r c gx gy).toArray), .quiet (U z.1), .quiet (U z.2.1), .call (U (tm p z.1 z.2.1))] H5 ?ho5 ?he5
      case ho5 => exact ak (fun γ => ⟨rfl, fun w' h => ex_loadT h 0 rfl rfl rfl Try.isAgg72 Try.sizeOf72 rfl rfl⟩) (ak (fun _ => ⟨rfl, fun _ _ => rfl⟩) (ak (fun _ => ⟨rfl, fun _ _ => rfl⟩) (ak (fun γ => ⟨rfl, fun w' h => ⟨69, #[.agg (kd p r c gx gy).toArray, U z.1, U z.2.1], exec_call rfl call69 rfl (mpn rfl), times_any hp z.1 z.2.1 hz1 hz2 w'⟩⟩) trivial)))
      intro _ w6 H6
      clear H5
      refine rest_at (l := [4]) rfl ?_
      refine rest_set (d := 7) rfl rfl rfl rfl ?_
      simp only [Act.put, sa, sz, ss]
      refine rest_nil (then_normal ?_)
      refine walk_seqB 4 [.quiet (.agg (kd p r c gx gy).toArray), .quiet (U z.2.1), .quiet (U z.2.1), .call (U (tm p z.2.1 z.2.1))] H6 ?ho6 ?he6
      case ho6 => exact ak (fun γ => ⟨rfl, fun w' h => ex_loadT h 0 rfl rfl rfl Try.isAgg72 Try.sizeOf72 rfl rfl⟩) (ak (fun _ => ⟨rfl, fun _ _ => rfl⟩) (ak (fun _ => ⟨rfl, fun _ _ => rfl⟩) (ak (fun γ => ⟨rfl, fun w' h => ⟨69, #[.agg (kd p r c gx gy).toArray, U z.2.1, U z.2.1], exec_call rfl call69 rfl (mpn rfl), times_any hp z.2.1 z.2.1 hz2 hz2 w'⟩⟩) trivial)))
      intro _ w7 H7
      clear H6
      refine rest_at (l := [4]) rfl ?_
      refine rest_set (d := 1) rfl rfl rfl rfl ?_
      simp only [Act.put, sa, sz, ss]
      refine rest_nil (block_normal (then_normal ?_))
      refine walk_seqB 2 [.quiet (U z.2.2), .quiet (U (z.2.2 / 2))] H7 ?ho7 ?he7
      case ho7 => exact ak (fun _ => ⟨rfl, fun _ _ => rfl⟩) (ak (fun γ => ⟨rfl, fun w' _ => ex_shr1 rfl rfl rfl⟩) trivial)
      intro _ w8 H8
      clear H7
      refine rest_at (l := [2]) rfl ?_
      refine rest_set (d := 2) rfl rfl rfl rfl ?_
      simp only [Act.put, sa, sz, ss]
      refine rest_nil (then_normal ?_)
      exact ⟨(tm p z.1 z.2.1, tm p z.2.1 z.2.1, z.2.2 / 2), ⟨(slotfn [undef, undef, undef, undef, undef, undef, undef, undef, U z.2.2, .bool true, U z.2.2, U (z.2.2 / 2), U z.2.2, U (z.2.2 % 2), .bool true, .agg (kd p r c gx gy).toArray, U z.1, U z.2.1, U (tm p z.1 z.2.1), .agg (kd p r c gx gy).toArray, U z.2.1, U z.2.1, U (tm p z.2.1 z.2.1)]), rfl, ⟨H8.out.1, H8.out.2⟩, ⟨tm_lt hp, tm_lt hp, Nat.lt_of_le_of_lt (Nat.div_le_self _ _) hz3, (pw_odd p _ _ _ ho).trans hz4⟩⟩, Nat.div_lt_self hlt (by decide)⟩
    · have hrd : True := trivial
      clear hrd
      refine wp_seq (wp_seq ?_)
      refine walk_seqB 2 [.quiet (U z.2.2), .quiet (.bool true)] H3 ?ho8 ?he8
      case ho8 => exact ak (fun _ => ⟨rfl, fun _ _ => rfl⟩) (ak (fun γ => ⟨rfl, fun w' _ => ex_gtU rfl rfl rfl (decide_eq_true (hlt))⟩) trivial)
      intro _ w9 H9
      clear H3
      refine rest0 rfl (then_normal (wp_cond_true rfl ?_))
      refine wp_skip (then_normal ?_)
      refine wp_seq (wp_block ?_)
      refine wp_seq (wp_seq ?_)
      refine walk_seqB 3 [.quiet (U z.2.2), .quiet (U (z.2.2 % 2)), .quiet (.bool false)] H9 ?ho9 ?he9
      case ho9 => exact ak (fun _ => ⟨rfl, fun _ _ => rfl⟩) (ak (fun γ => ⟨rfl, fun w' _ => ex_and1 rfl (hz3) rfl rfl⟩) (ak (fun γ => ⟨rfl, fun w' _ => ex_eqU rfl rfl rfl (decide_eq_false (ho))⟩) trivial))
      intro _ w10 H10
      clear H9
      refine rest0 rfl (then_normal (wp_cond_false rfl ?_))
      refine wp_skip (then_normal ?_)
      refine walk_seqB 4 [.quiet (.agg (kd p r c gx gy).toArray), .quiet (U z.2.1), .quiet (U z.2.1), .call (U (tm p z.2.1 z.2.1))] H10 ?ho10 ?he10
      case ho10 => exact ak (fun γ => ⟨rfl, fun w' h => ex_loadT h 0 rfl rfl rfl Try.isAgg72 Try.sizeOf72 rfl rfl⟩) (ak (fun _ => ⟨rfl, fun _ _ => rfl⟩) (ak (fun _ => ⟨rfl, fun _ _ => rfl⟩) (ak (fun γ => ⟨rfl, fun w' h => ⟨69, #[.agg (kd p r c gx gy).toArray, U z.2.1, U z.2.1], exec_call rfl call69 rfl (mpn rfl), times_any hp z.2.1 z.2.1 hz2 hz2 w'⟩⟩) trivial)))
      intro _ w11 H11
      clear H10
      refine rest_at (l := [4]) rfl ?_
      refine rest_set (d := 1) rfl rfl rfl rfl ?_
      simp only [Act.put, sa, sz, ss]
      refine rest_nil (block_normal (then_normal ?_))
      refine walk_seqB 2 [.quiet (U z.2.2), .quiet (U (z.2.2 / 2))] H11 ?ho11 ?he11
      case ho11 => exact ak (fun _ => ⟨rfl, fun _ _ => rfl⟩) (ak (fun γ => ⟨rfl, fun w' _ => ex_shr1 rfl rfl rfl⟩) trivial)
      intro _ w12 H12
      clear H11
      refine rest_at (l := [2]) rfl ?_
      refine rest_set (d := 2) rfl rfl rfl rfl ?_
      simp only [Act.put, sa, sz, ss]
      refine rest_nil (then_normal ?_)
      exact ⟨(z.1, tm p z.2.1 z.2.1, z.2.2 / 2), ⟨(slotfn [undef, undef, undef, undef, undef, undef, undef, undef, U z.2.2, .bool true, U z.2.2, U (z.2.2 / 2), U z.2.2, U (z.2.2 % 2), .bool false, s0 15, s0 16, s0 17, s0 18, .agg (kd p r c gx gy).toArray, U z.2.1, U z.2.1, U (tm p z.2.1 z.2.1)]), rfl, ⟨H12.out.1, H12.out.2⟩, ⟨hz1, tm_lt hp, Nat.lt_of_le_of_lt (Nat.div_le_self _ _) hz3, (pw_even p _ _ _ (by omega)).trans hz4⟩⟩, Nat.div_lt_self hlt (by decide)⟩
  obtain ⟨hz1, hz2, hz3, hz4⟩ := hk0
  refine wp_seq (wp_seq ?_)
  refine walk_seqB 2 [.quiet (U z.2.2), .quiet (.bool false)] H3 ?ho12 ?he12
  case ho12 => exact ak (fun _ => ⟨rfl, fun _ _ => rfl⟩) (ak (fun γ => ⟨rfl, fun w' _ => ex_gtU rfl rfl rfl (decide_eq_false (hlt))⟩) trivial)
  intro _ w13 H13
  clear H3
  refine rest0 rfl (then_normal (wp_cond_false rfl ?_))
  refine wp_exit ?_
  repeat refine then_exit ?_
  refine block_exit ?_
  refine then_normal (wp_seq ?_)
  refine walk_seqB 2 [.quiet (U z.1), .quiet (U z.1)] H13 ?ho13 ?he13
  case ho13 => exact ak (fun _ => ⟨rfl, fun _ _ => rfl⟩) (ak (fun _ => ⟨rfl, fun _ _ => rfl⟩) trivial)
  intro _ w14 H14
  clear H13
  refine rest0 rfl (then_normal (wp_ret ?_))
  repeat (first | refine then_ret ?_ | refine block_ret ?_)
  refine bodyPost_ret (v := U z.1) (by simp [results, Try.results82, go_sem, *]) rfl ?_
  exact ⟨by rw [← hz4, show z.2.2 = 0 by omega, Nat.pow_zero, Nat.mul_one, Nat.mod_eq_of_lt hz1], H14.out.2⟩
set_option maxRecDepth 100000 in
theorem inverse_any (hp : Pr p) (a : Nat) (ha : a < p) (w : World) :
    Calls Try.prog 72 #[.agg (kd p r c gx gy).toArray, U a] w fun e w' => e = .returned (U (pw p a (p - 2))) ∧ Below w.heap.size w w' := by
  have H0 : Hid (_ ∧ _) := ⟨Mm.nil w, Below.refl w.heap.size w⟩
  go_enter Try.func72, Try.ntmps72
  refine wp_seq ?_
  refine walk_seqA 2 [.made (kd p r c gx gy) 72, .quiet (U 0)] (sB H0) ?ho1 ?he1
  case ho1 => exact ak (fun γ => ⟨rfl, fun w' => ex_boxT rfl rfl⟩) (ak (fun _ => ⟨rfl, fun _ _ => rfl⟩) trivial)
  intro γ w1 l hM hl
  have H1 : Hid (Mm w1 [(γ 0, kd p r c gx gy)] ∧ _) := growB H0 hM (Nat.le_refl _) hl [0] rfl (by decide)
  have o1_0 := ownB H0 hM (Nat.le_refl _) hl (i := 0) rfl
  clear hM hl l
  generalize γ 0 = γ1_0 at H1 o1_0 ⊢
  clear γ
  refine rest0 rfl (then_normal (wp_seq ?_))
  refine walk_seqB 7 [.quiet (.agg (kd p r c gx gy).toArray), .quiet (U a), .quiet (PT γ1_0 0), .quiet (U p), .quiet (U (p - 2)), .call (U (pw p a (p - 2))), .quiet (U (pw p a (p - 2)))] H1 ?ho2 ?he2
  case ho2 => exact ak (fun γ => ⟨rfl, fun w' h => ex_loadT h 0 rfl rfl rfl Try.isAgg72 Try.sizeOf72 rfl rfl⟩) (ak (fun _ => ⟨rfl, fun _ _ => rfl⟩) (ak (by refine fun γ => ⟨rfl, fun w' h => ?_⟩; clear h; go_simp) (ak (fun γ => ⟨rfl, fun w' h => ex_loadC h 0 rfl rfl rfl Try.isAgg23 rfl⟩) (ak (fun γ => ⟨rfl, fun w' _ => ex_subU (by have := hp.lo; omega) (by have := hp.hi; omega) rfl rfl rfl⟩) (ak (fun γ => ⟨rfl, fun w' h => ⟨82, #[.agg (kd p r c gx gy).toArray, U a, U (p - 2)], exec_call rfl call82 rfl (mpn rfl), power_any hp a (p - 2) ha (by have := hp.hi; omega) w'⟩⟩) (ak (fun _ => ⟨rfl, fun _ _ => rfl⟩) trivial))))))
  intro _ w2 H2
  clear H1
  refine rest0 rfl (then_normal (wp_ret ?_))
  repeat (first | refine then_ret ?_ | refine block_ret ?_)
  refine bodyPost_ret (v := U (pw p a (p - 2))) (by simp [results, Try.results72, go_sem, *]) rfl ?_
  exact ⟨rfl, H2.out.2⟩
end
end Rg
end Go.Proofs.Ytjmbgchoioepjaa
end
section
namespace Go.Proofs.Ytjmbgchoioepjaa
open Go.RowKit
namespace Rg
section
variable {P : Program} {ops : Array Oper} {ks : List Kind} {a₀ : Act} {w₀ : World} {Q : Exit → Act → World → Prop}
/-- An operation that the store need not wait for: it tells its value in whatever world. -/
def LateOk (P : Program) (ops : Array Oper) (ks : List Kind) (F : (Nat → Nat) → Act) : List Nat → Prop
  | [] => True
  | i :: r => (∃ o v, ops[i]? = some o ∧ ks[i]? = some (.quiet v) ∧ ∀ γ, Region.wanted o (yielded ops (F γ).tmps) = true ∧ ∀ w, (execOp (F γ).eval o).run P w = .ok (.value v) w) ∧ LateOk P ops ks F r
theorem LateOk.at {F : (Nat → Nat) → Act} : ∀ {late : List Nat}, LateOk P ops ks F late → ∀ {i : Nat}, i ∈ late → ∃ o v, ops[i]? = some o ∧ ks[i]? = some (.quiet v) ∧ ∀ γ, Region.wanted o (yielded ops (F γ).tmps) = true ∧ ∀ w, (execOp (F γ).eval o).run P w = .ok (.value v) w
  | [], _, _, h => by cases h
  | j :: r, hl, i, h => by
    rcases List.mem_cons.1 h with e | h
    · subst e; exact hl.1
    · exact hl.2.at h
theorem mem_late {F : (Nat → Nat) → Act} {γ : Nat → Nat} {w : World} : ∀ {late : List Nat} {l : Array Bool}, LateOk P ops ks F late → Mem ks w₀ l γ w → ∃ l', Mem ks w₀ l' γ w ∧ l'.size = l.size ∧ (∀ i, l.getD i false = true → l'.getD i false = true) ∧ ∀ i ∈ late, i < l.size → l'.getD i false = true
  | [], l, _, h => ⟨l, h, rfl, fun _ h => h, fun _ h => by cases h⟩
  | j :: r, l, hl, h => by
    obtain ⟨o, v, _, hk, _⟩ := hl.1
    obtain ⟨l', h1, h2, h3, h4⟩ := mem_late (late := r) hl.2 (h.still (Below.refl _ _) hk rfl (fun _ _ _ h => by cases h))
    refine ⟨l', h1, by rw [h2]; simp, fun i hi => h3 i (getD_true hi), fun i hi hlt => ?_⟩
    rcases List.mem_cons.1 hi with e | hi
    · subst e
      exact h3 i (by simp [hlt])
    · exact h4 i hi (by simpa using hlt)
theorem see_all {full : Array Oper} {l : Array Bool} {γ : Nat → Nat} {a : Act} (h : Agree ops ks a₀ l γ a) {o : Oper} (hn : ∀ cs b, o.op ≠ .select cs b)
    (hlook : ∀ d ∈ o.looksAt full, ∀ j oj, ops[j]? = some oj → oj.dst = some d → l.getD j false = true) :
    execOp a.eval o = execOp (fill γ 0 ops.toList ks a₀).eval o := by
  refine execOp_congr o hn (fun x hx => ?_)
  cases x with
  | tmp t =>
    have := h.slots t (hlook t (List.mem_append_left _ (List.mem_filterMap.2 ⟨.tmp t, by simpa using hx, rfl⟩)))
    simp only [Act.eval, Array.getD_eq_getD_getElem?, this]
  | _ => rfl
/-- The operations that have come up: with each, all that it waits for. -/
def Closed (full : Array Oper) (l : Array Bool) : Prop := ∀ (i : Nat) (o : Oper), full[i]? = some o → l.getD i false = true → ∀ e ∈ o.after, Region.binds .any e = true → l.getD e.on false = true
theorem Closed.none (full : Array Oper) (n : Nat) : Closed full (Array.replicate n false) := fun i o _ h => by rw [none_listed] at h; cases h
theorem Closed.step {full : Array Oper} {l : Array Bool} (h : Closed full l) {i : Nat} {o : Oper} (ho : full[i]? = some o) (hedge : ∀ e ∈ o.after, Region.binds .any e = true → l.getD e.on false = true) : Closed full (l.setIfInBounds i true) := fun j oj hj hl e he hb => by
  by_cases hij : i = j
  · subst hij
    rw [ho] at hj
    injection hj with hj
    subst hj
    exact getD_true (hedge e he hb)
  · rw [getD_set_ne false hij] at hl
    exact getD_true (h j oj hj hl e he hb)
/-- Who waits for operation j, by others or not. -/
def waitsT (full : Array Oper) : Nat → Oper → Nat → Bool
  | 0, o, j => waits o j
  | f + 1, o, j => waits o j || o.after.any fun e => Region.binds .any e && (match full[e.on]? with | some o' => waitsT full f o' j | none => false)
theorem waitsT_spec {full : Array Oper} {l : Array Bool} (h : Closed full l) {j : Nat} : ∀ (f : Nat) (o : Oper), waitsT full f o j = true → (∀ e ∈ o.after, Region.binds .any e = true → l.getD e.on false = true) → l.getD j false = true
  | 0, o, hw, he => waits_spec hw he
  | f + 1, o, hw, he => by
    unfold waitsT at hw
    rw [Bool.or_eq_true] at hw
    rcases hw with hw | hw
    · exact waits_spec hw he
    · obtain ⟨e, hm, hx⟩ := Array.any_eq_true'.1 hw
      rw [Bool.and_eq_true] at hx
      obtain ⟨hb, hx⟩ := hx
      cases ho : full[e.on]? with
      | none => rw [ho] at hx; cases hx
      | some o' =>
        rw [ho] at hx
        exact waitsT_spec h f o' hx (fun e' he' hb' => h e.on o' ho (he e hm hb) e' he' hb')
theorem rest_anyT {full : Array Oper} (p : Nat) (hup : ∀ {i : Nat} {o : Oper}, full[i]? = some o → ∀ e ∈ o.after, Region.binds .any e = true → e.on < i)
    (hwt : ∀ {i : Nat} {o : Oper}, full[i]? = some o → p ≤ i → ∀ j, j < i → waitsT full 4 o j = true) : ∀ (m fuel q : Nat) (l : Array Bool) (a : Act) (w : World), q + m = full.size → p ≤ q → l.size = full.size → m ≤ fuel → Closed full l →
      (∀ i, i < q → l.getD i false = true) → (∀ i, q ≤ i → i < full.size → l.getD i true = false) → wpOps P full Q (List.range' q m) a w → wpAny P .any full Q fuel l a w := by
  intro m
  induction m with
  | zero =>
    intro fuel q l a w hq hpq hsz hfu hcl hl hu h
    have hr : Region.ready .any full l = [] := by
      refine List.eq_nil_iff_forall_not_mem.2 fun i hi => ?_
      obtain ⟨h1, o, ho, _⟩ := mem_ready.1 hi
      have h2 := hl i (by have := (Array.getElem?_eq_some_iff.1 ho).1; omega)
      rw [(getD_same h1).1] at h2
      cases h2
    have hQ : Q .normal a w := h
    cases fuel with
    | zero => exact ⟨hr, hQ⟩
    | succ f => exact ⟨fun _ => hQ, by rw [hr]; simp⟩
  | succ m ih =>
    intro fuel q l a w hq hpq hsz hfu hcl hl hu h
    cases fuel with
    | zero => omega
    | succ f =>
      have hqs : q < full.size := by omega
      have hqr : q ∈ Region.ready .any full l := mem_ready.2 ⟨hu q (Nat.le_refl _) hqs, full[q], Array.getElem?_eq_getElem hqs, fun e he hb => hl _ (hup (Array.getElem?_eq_getElem hqs) e he hb)⟩
      refine ⟨fun hr => absurd hqr (by rw [hr]; simp), fun i hi => ?_⟩
      obtain ⟨hun, o, ho, hedge⟩ := mem_ready.1 hi
      have hilt : i < full.size := (Array.getElem?_eq_some_iff.1 ho).1
      have hiq : i = q := by
        rcases Nat.lt_trichotomy i q with h' | h' | h'
        · have h2 := hl i h'
          rw [(getD_same hun).1] at h2
          cases h2
        · exact h'
        · have h2 := waitsT_spec hcl 4 o (hwt ho (by omega) q h') hedge
          rw [(getD_same (hu q (Nat.le_refl _) hqs)).1] at h2
          cases h2
      subst hiq
      rw [List.range'_succ, wpOps_cons] at h
      refine wpOp_mono (fun a' w' h' => ?_) h
      refine ih f (i + 1) _ a' w' (by omega) (by omega) (by simp [hsz]) (by omega) (hcl.step ho hedge) (fun j hj => ?_) (fun j hj hj2 => ?_) h'
      · rcases Nat.lt_or_ge j i with h2 | h2
        · exact getD_true (hl j h2)
        · have : j = i := by omega
          subst this
          exact (getD_same hun).2
      · rw [getD_set_ne true (by omega)]
        exact hu j (by omega) hj2
theorem tail_count (n : Nat) : ∀ (m : Nat) (l : Array Bool), l.size = n → m ≤ n → (∀ i, n - m ≤ i → i < n → l.getD i true = false) → m ≤ l.toList.count false := by
  intro m
  induction m with
  | zero => intro l _ _ _; omega
  | succ m ih =>
    intro l hs hm hl
    have h4 := count_set (hl (n - (m + 1)) (Nat.le_refl _) (by omega))
    have h5 := ih (l.setIfInBounds (n - (m + 1)) true) (by simp [hs]) (by omega) (fun i hi1 hi2 => by rw [getD_set_ne true (by omega)]; exact hl i (by omega) hi2)
    omega
theorem ready_all {full : Array Oper} (hup : ∀ {i : Nat} {o : Oper}, full[i]? = some o → ∀ e ∈ o.after, Region.binds .any e = true → e.on < i) {l : Array Bool} (hsz : l.size = full.size) (hr : Region.ready .any full l = []) : ∀ i, i < full.size → l.getD i false = true := by
  intro i
  induction i using Nat.strongRecOn with
  | _ i ih2 =>
    intro hi
    have hi' : i < l.size := by omega
    cases hl : l.getD i true with
    | true => simpa [hi'] using hl
    | false =>
      exfalso
      have : i ∈ Region.ready .any full l := mem_ready.2 ⟨hl, full[i], Array.getElem?_eq_getElem hi, fun e he hb => ih2 e.on (hup (Array.getElem?_eq_getElem hi) e he hb) (by have := hup (Array.getElem?_eq_getElem hi) e he hb; omega)⟩
      rw [hr] at this
      cases this
theorem after_put {full : Array Oper} {n p : Nat} (hO : Orderly ops ks n) (hn : n = a₀.tmps.size) (hp : ops.size = p) (hpf : p + 1 ≤ full.size) (hfull : ∀ i, i < p → full[i]? = ops[i]?) (hgd : ∀ {i : Nat} {o : Oper} {g : Nat} {b : Bool}, ops[i]? = some o → o.guard = some (g, b) → g < p)
    (hup : ∀ {i : Nat} {o : Oper}, full[i]? = some o → ∀ e ∈ o.after, Region.binds .any e = true → e.on < i)
    (hwt : ∀ {i : Nat} {o : Oper}, full[i]? = some o → p + 1 ≤ i → ∀ j, j < i → waitsT full 4 o j = true)
    {late : List Nat} (hlate : LateOk P ops ks (fun γ => fill γ 0 ops.toList ks a₀) late) {γ : Nat → Nat} {w : World} (hQ : wpOps P full Q (List.range' (p + 1) (full.size - (p + 1))) (fill γ 0 ops.toList ks a₀) w) :
    ∀ (fuel : Nat) (l : Array Bool) (a : Act), l.size = full.size → l.toList.count false ≤ fuel → Closed full l → (∀ i, i ≤ p → l.getD i true = false → i ∈ late) → (∀ i, p + 1 ≤ i → i < full.size → l.getD i true = false) → Agree ops ks a₀ l γ a → wpAny P .any full Q fuel l a w := by
  intro fuel
  induction fuel with
  | zero =>
    intro l a hsz hc hcl hu ht hA
    have hall : ∀ i, i < full.size → l.getD i false = true := fun i hi => by
      cases hb : l.getD i true with
      | false => have := count_set hb; omega
      | true =>
        have hi' : i < l.size := by omega
        simpa [hi'] using hb
    rw [hA.whole (fun i hi => hall i (by omega))]
    have h0 := tail_count full.size (full.size - (p + 1)) l hsz (by omega) (fun i hi1 hi2 => ht i (by omega) hi2)
    exact rest_anyT (p + 1) hup hwt (full.size - (p + 1)) 0 (p + 1) l _ w (by omega) (Nat.le_refl _) hsz (by omega) hcl (fun i hi => hall i (by omega)) ht hQ
  | succ fuel ih =>
    intro l a hsz hc hcl hu ht hA
    by_cases hall : ∀ i, i < p + 1 → l.getD i false = true
    · rw [hA.whole (fun i hi => hall i (by omega))]
      have h0 := tail_count full.size (full.size - (p + 1)) l hsz (by omega) (fun i hi1 hi2 => ht i (by omega) hi2)
      exact rest_anyT (p + 1) hup hwt (full.size - (p + 1)) (fuel + 1) (p + 1) l _ w (by omega) (Nat.le_refl _) hsz (by omega) hcl hall ht hQ
    · have hex : ∃ x, x < p + 1 ∧ l.getD x false = false := by
        apply Classical.byContradiction
        intro hno
        apply hall
        intro i hi
        cases hb : l.getD i false with
        | true => rfl
        | false => exact absurd ⟨i, hi, hb⟩ hno
      obtain ⟨x, hx, hxf⟩ := hex
      refine ⟨fun hr => ?_, fun i hi => ?_⟩
      · have := ready_all hup hsz hr x (by omega)
        rw [hxf] at this
        cases this
      · obtain ⟨hun, o, ho, hedge⟩ := mem_ready.1 hi
        have hilt : i < full.size := (Array.getElem?_eq_some_iff.1 ho).1
        have hip1 : i < p + 1 := by
          rcases Nat.lt_or_ge i (p + 1) with h' | h'
          · exact h'
          · have := waitsT_spec hcl 4 o (hwt ho h' x (by omega)) hedge
            rw [hxf] at this
            cases this
        obtain ⟨o', v, ho', hk, hxq⟩ := hlate.at (hu i (by omega) hun)
        have hip : i < p := by rw [← hp]; exact (Array.getElem?_eq_some_iff.1 ho').1
        have hof := ho
        rw [hfull i hip, ho'] at ho
        injection ho with ho
        subst ho
        obtain ⟨he, hw0⟩ := hA.sees hO ho' hedge
        have hy : ∀ ts, Region.wanted o' (yielded full ts) = Region.wanted o' (yielded ops ts) := fun ts => by
          unfold Region.wanted
          cases hg : o'.guard with
          | none => rfl
          | some gw =>
            obtain ⟨g, want⟩ := gw
            have : yielded full ts g = yielded ops ts g := by unfold yielded; rw [hfull g (hgd ho' hg)]
            simp only [this]
        have hc' := count_set hun
        refine wpOp_step hof (fun K' hK => ?_)
        rw [hy, hw0, if_pos (hxq γ).1]
        unfold Oper.wp
        rw [he, (hxq γ).2 w]
        refine hK _ _ (ih _ _ (by simp [hsz]) (by omega) (hcl.step hof hedge) (fun j hj hj2 => ?_) (fun j hj hj2 => ?_) (hA.step hO hn ho' hk (fun _ _ _ _ => rfl)))
        · by_cases e : i = j
          · subst e
            have hi' : i < l.size := by omega
            simp [hi'] at hj2
          · rw [getD_set_ne true e] at hj2
            exact hu j hj hj2
        · rw [getD_set_ne true (by omega)]
          exact ht j hj hj2
theorem first_put {full : Array Oper} {n p : Nat} {op : Oper} (hO : Orderly ops ks n) (hn : n = a₀.tmps.size) (hL : LaidOk ks ks) {S : World → Prop} (hS : ∀ w, Below w₀.heap.size w₀ w → S w)
    (hp : ops.size = p) (hpf : p + 1 ≤ full.size) (hfull : ∀ i, i < p → full[i]? = ops[i]?) (hgd : ∀ {i : Nat} {o : Oper} {g : Nat} {b : Bool}, ops[i]? = some o → o.guard = some (g, b) → g < p)
    (hup : ∀ {i : Nat} {o : Oper}, full[i]? = some o → ∀ e ∈ o.after, Region.binds .any e = true → e.on < i)
    (hop : full[p]? = some op) (hdst : op.dst = none) (hgu : op.guard = none) (hsel : ∀ cs b, op.op ≠ .select cs b)
    {late : List Nat} (hwp : ∀ j, j < p → waitsT full 4 op j = true ∨ j ∈ late) (hlook : ∀ d ∈ op.looksAt full, ∀ j oj, ops[j]? = some oj → oj.dst = some d → waitsT full 4 op j = true)
    (hwt : ∀ {i : Nat} {o : Oper}, full[i]? = some o → p + 1 ≤ i → ∀ j, j < i → waitsT full 4 o j = true)
    (hlate : LateOk P ops ks (fun γ => fill γ 0 ops.toList ks a₀) late)
    (hops : AllOk P ops S (fun γ => fill γ 0 ops.toList ks a₀) ops.toList ks)
    (hend : ∀ γ w l, Mem ks w₀ l γ w → (∀ i, i < p → l.getD i false = true) → ∃ w', (execOp (fill γ 0 ops.toList ks a₀).eval op).run P w = .ok .skip w' ∧ wpOps P full Q (List.range' (p + 1) (full.size - (p + 1))) (fill γ 0 ops.toList ks a₀) w') :
    ∀ (fuel : Nat) (l : Array Bool) (γ : Nat → Nat) (a : Act) (w : World), l.size = full.size → l.toList.count false ≤ fuel → Closed full l → (∀ i, p ≤ i → i < full.size → l.getD i true = false) → Agree ops ks a₀ l γ a → Mem ks w₀ l γ w → wpAny P .any full Q fuel l a w := by
  intro fuel
  induction fuel with
  | zero =>
    intro l γ a w hsz hc hcl ht hA hM
    have := count_set (ht p (Nat.le_refl _) (by omega))
    omega
  | succ fuel ih =>
    intro l γ a w hsz hc hcl ht hA hM
    have hpu := ht p (Nat.le_refl _) (by omega)
    refine ⟨fun hr => ?_, fun i hi => ?_⟩
    · have := ready_all hup hsz hr p (by omega)
      rw [(getD_same hpu).1] at this
      cases this
    · obtain ⟨hun, o, ho, hedge⟩ := mem_ready.1 hi
      have hilt : i < full.size := (Array.getElem?_eq_some_iff.1 ho).1
      have hc' := count_set hun
      have hip1 : i < p + 1 := by
        rcases Nat.lt_or_ge i (p + 1) with h' | h'
        · exact h'
        · have := waitsT_spec hcl 4 o (hwt ho h' p (by omega)) hedge
          rw [(getD_same hpu).1] at this
          cases this
      by_cases hip : i = p
      · subst hip
        have ho2 := ho
        rw [hop] at ho
        injection ho with ho
        subst ho
        have hbefore : ∀ j, j < i → j ∉ late → l.getD j false = true := fun j hj hnl => by
          rcases hwp j hj with h | h
          · exact waitsT_spec hcl 4 _ h hedge
          · exact absurd h hnl
        obtain ⟨l', hM', hs', hl1, hl2⟩ := mem_late hlate hM
        have hfin : ∀ j, j < i → l'.getD j false = true := fun j hj => by
          by_cases h : j ∈ late
          · exact hl2 j h (by omega)
          · exact hl1 j (hbefore j hj h)
        obtain ⟨w', hx, hQ⟩ := hend γ w l' hM' hfin
        have he := see_all (full := full) hA hsel (fun d hd j oj hj hdj => waitsT_spec hcl 4 _ (hlook d hd j oj hj hdj) hedge)
        refine wpOp_step hop (fun K' hK => ?_)
        have hwn : Region.wanted op (yielded full a.tmps) = true := by unfold Region.wanted; rw [hgu]
        rw [if_pos hwn]
        unfold Oper.wp
        rw [he, hx]
        have hA' : Agree ops ks a₀ (l.setIfInBounds i true) γ (a.put op.dst undef) := by
          rw [hdst]
          refine ⟨hA.defers, hA.size, fun d hd => hA.slots d (fun j oj hj hdj => ?_)⟩
          have h1 := hd j oj hj hdj
          have hj' : j < i := by rw [← hp]; exact (Array.getElem?_eq_some_iff.1 hj).1
          rwa [getD_set_ne false (by omega)] at h1
        refine hK _ _ (after_put hO hn hp hpf hfull hgd hup hwt hlate hQ fuel _ _ (by simp [hsz]) (by omega) (hcl.step ho2 hedge) (fun j hj hj2 => ?_) (fun j hj hj2 => ?_) hA')
        · by_cases e : i = j
          · subst e
            have hi' : i < l.size := by omega
            simp [hi'] at hj2
          · rw [getD_set_ne true e] at hj2
            apply Classical.byContradiction
            intro hnl
            have := hbefore j (by omega) hnl
            rw [(getD_same hj2).1] at this
            cases this
        · rw [getD_set_ne true (by omega)]
          exact ht j (by omega) hj2
      · have hlt : i < p := by omega
        have ho' : ops[i]? = some o := by rw [← hfull i hlt]; exact ho
        refine kind_step hO hn hL hS hfull hgd hops hA hM hlt ho' hun hedge (fun γ' a' w' hA' hM' => ?_)
        exact ih _ γ' a' w' (by simp [hsz]) (by omega) (hcl.step ho hedge) (fun j hj hj2 => by rw [getD_set_ne true (by omega)]; exact ht j hj hj2) hA' hM'
/-- What is to be looked up of the whole region. -/
def putly (full : Array Oper) (p : Nat) (late : List Nat) : Bool :=
  eachOp full (fun i o => o.after.all fun e => !Region.binds .any e || decide (e.on < i)) && decide (p + 1 ≤ full.size) && Region.noSelect full &&
  (match full[p]? with
   | none => false
   | some op => op.dst.isNone && op.guard.isNone && ((List.range p).all fun j => waitsT full 4 op j || late.contains j) && (op.looksAt full).all fun d => eachOp full fun j oj => oj.dst != some d || waitsT full 4 op j || decide (p ≤ j)) &&
  eachOp full (fun i o => decide (i < p + 1) || (List.range i).all fun j => waitsT full 4 o j)
/-- **The law of such a region.** -/
theorem walk_put {full : Array Oper} {a : Act} {w : World} {id : Nat} (hm : P.follows .mixedOrders = true) (p : Nat) (late : List Nat) (ks : List Kind) (S : World → Prop) (pre : List Oper) (F : (Nat → Nat) → Act) (op : Oper) (hpre : full.toList.take p = pre)
    (hF : ∀ γ, fill γ 0 pre ks a = F γ) (hor : (orderly pre.toArray ks a.tmps.size && guarded pre.toArray p && putly full p late) = true) (hop : full[p]? = some op) (hL : LaidOk ks ks) (hS : ∀ w', Below w.heap.size w w' → S w')
    (hops : AllOk P pre.toArray S F pre ks) (hlate : LateOk P pre.toArray ks F late)
    (hend : ∀ γ w' l, Mem ks w l γ w' → (∀ i, i < p → l.getD i false = true) → ∃ w'', (execOp (F γ).eval op).run P w' = .ok .skip w'' ∧ wpOps P full Q (List.range' (p + 1) (full.size - (p + 1))) (F γ) w'') :
    (Code.region id full true).wp P Q a w := by
  subst hpre
  obtain rfl : (fun γ => fill γ 0 (full.toList.take p) ks a) = F := funext hF
  simp only [Bool.and_eq_true] at hor
  obtain ⟨⟨h1, h2⟩, h3⟩ := hor
  unfold putly at h3
  rw [hop] at h3
  simp only [Bool.and_eq_true, decide_eq_true_eq, Option.isNone_iff_eq_none] at h3
  obtain ⟨⟨⟨⟨h5, h6⟩, h7⟩, ⟨⟨h8, h9⟩, h10⟩, h11⟩, h12⟩ := h3
  have hsz : (full.toList.take p).toArray.size = p := by simp; omega
  have hfu : ∀ i, i < p → full[i]? = (full.toList.take p).toArray[i]? := fun i hi => by rw [← take_arr]; exact first_full hi
  refine wp_region_any hm (first_put (ops := (full.toList.take p).toArray) (Orderly.of h1) rfl hL hS hsz h6 hfu (fun ho hg => guarded_spec h2 ho hg) (fun ho e he hb => ?_) hop h8 h9 (fun cs b => Region.noSelect_spec h7 p op cs b hop) (late := late) (fun j hj => ?_) (fun d hd j oj hj hdj => ?_) (fun ho hi j hj => ?_) hlate hops hend full.size _ (fun _ => 0) a w.drew (by simp) (by simp) (Closed.none _ _) (fun i _ hi => none_listed' hi) (start_agree _ _) (start_mem _ _ (Below.refl _ _).drew))
  · have := Array.all_eq_true_iff_forall_mem.1 (eachOp_spec h5 ho) e he
    simpa [hb] using this
  · have := List.all_eq_true.1 h10 j (List.mem_range.2 hj)
    simpa using this
  · have hj' : j < p := by rw [← hsz]; exact (Array.getElem?_eq_some_iff.1 hj).1
    have := eachOp_spec (List.all_eq_true.1 h11 d hd) (by rw [hfu j hj']; exact hj)
    simp only [hdj, bne_self_eq_false, Bool.false_or, Bool.or_eq_true, decide_eq_true_eq] at this
    rcases this with h | h
    · exact h
    · omega
  · have := eachOp_spec h12 ho
    simp only [Bool.or_eq_true, decide_eq_true_eq] at this
    rcases this with h | h
    · omega
    · exact List.all_eq_true.1 h j (List.mem_range.2 hj)
end
end Rg
end Go.Proofs.Ytjmbgchoioepjaa
end
section
namespace Go.Proofs.Ytjmbgchoioepjaa
open Go.RowKit
namespace Rg
theorem small_mul {p k a : Nat} (hp : Pr p) (hk : k ≤ 8) (ha : a < p) : k * a < 18446744073709551616 :=
  Nat.lt_of_le_of_lt (Nat.mul_le_mul hk (Nat.le_of_lt ha)) (by have := hp.hi; omega)
/-- Three numbers: a point (x / z z, y / z z z), of z 0 the zero. -/
abbrev T3 : Type := Nat × Nat × Nat
structure Lt3 (p : Nat) (t : T3) : Prop where
  x : t.1 < p
  y : t.2.1 < p
  z : t.2.2 < p
/-- A triple's cells. -/
abbrev tc (t : T3) : List Value := tr t.1 t.2.1 t.2.2
/-- The slope of a point and itself. -/
def tR (p x z : Nat) : Nat := pl p (tm p 3 (tm p x x)) (tm p (tm p z z) (tm p z z))
def tM (p x y : Nat) : Nat := tm p 4 (tm p x (tm p y y))
def tX (p x y z : Nat) : Nat := mi p (tm p (tR p x z) (tR p x z)) (pl p (tM p x y) (tM p x y))
def tY (p x y z : Nat) : Nat := mi p (tm p (tR p x z) (mi p (tM p x y) (tX p x y z))) (tm p 8 (tm p (tm p y y) (tm p y y)))
def twT (p : Nat) (t : T3) : T3 := (tX p t.1 t.2.1 t.2.2, tY p t.1 t.2.1 t.2.2, tm p 2 (tm p t.2.1 t.2.2))
/-- A point and a triple. -/
def jU (p x z X : Nat) : Nat := mi p (tm p X (tm p z z)) x
def jS (p y z Y : Nat) : Nat := mi p (tm p Y (tm p z (tm p z z))) y
def jC (p u : Nat) : Nat := tm p (tm p u u) u
def jM (p x u : Nat) : Nat := tm p x (tm p u u)
def jX (p x u s : Nat) : Nat := mi p (mi p (tm p s s) (jC p u)) (pl p (jM p x u) (jM p x u))
def jY (p x y u s : Nat) : Nat := mi p (tm p s (mi p (jM p x u) (jX p x u s))) (tm p y (jC p u))
def tO (X Y : Nat) (Z : Bool) : T3 := if Z = true then (0, 0, 0) else (X, Y, 1)
def jnT (p : Nat) (t : T3) (X Y : Nat) (Z : Bool) : T3 :=
  if Z = true then t else if t.2.2 = 0 then (X, Y, 1) else if jU p t.1 t.2.2 X = 0 ∧ jS p t.2.1 t.2.2 Y = 0 then twT p t
  else (jX p t.1 (jU p t.1 t.2.2 X) (jS p t.2.1 t.2.2 Y), jY p t.1 t.2.1 (jU p t.1 t.2.2 X) (jS p t.2.1 t.2.2 Y), tm p t.2.2 (jU p t.1 t.2.2 X))
def jnR (p : Nat) (t : T3) (X Y : Nat) (Z : Bool) : Nat :=
  if Z = true then 0 else if t.2.2 = 0 then 0 else if jU p t.1 t.2.2 X = 0 ∧ jS p t.2.1 t.2.2 Y = 0 then tR p t.1 t.2.2 else jS p t.2.1 t.2.2 Y
section
variable {p : Nat} {t : T3} {X Y : Nat}
theorem jnT_z : jnT p t X Y true = t := if_pos rfl
theorem jnT_0 (h : t.2.2 = 0) : jnT p t X Y false = (X, Y, 1) := by unfold jnT; rw [if_neg Bool.false_ne_true, if_pos h]
theorem jnT_s (h : t.2.2 ≠ 0) (h1 : jU p t.1 t.2.2 X = 0 ∧ jS p t.2.1 t.2.2 Y = 0) : jnT p t X Y false = twT p t := by unfold jnT; rw [if_neg Bool.false_ne_true, if_neg h, if_pos h1]
theorem jnT_g (h : t.2.2 ≠ 0) (h1 : ¬ (jU p t.1 t.2.2 X = 0 ∧ jS p t.2.1 t.2.2 Y = 0)) : jnT p t X Y false = (jX p t.1 (jU p t.1 t.2.2 X) (jS p t.2.1 t.2.2 Y), jY p t.1 t.2.1 (jU p t.1 t.2.2 X) (jS p t.2.1 t.2.2 Y), tm p t.2.2 (jU p t.1 t.2.2 X)) := by unfold jnT; rw [if_neg Bool.false_ne_true, if_neg h, if_neg h1]
theorem jnR_0 (h : t.2.2 = 0) : jnR p t X Y false = 0 := by unfold jnR; rw [if_neg Bool.false_ne_true, if_pos h]
theorem jnR_s (h : t.2.2 ≠ 0) (h1 : jU p t.1 t.2.2 X = 0 ∧ jS p t.2.1 t.2.2 Y = 0) : jnR p t X Y false = tR p t.1 t.2.2 := by unfold jnR; rw [if_neg Bool.false_ne_true, if_neg h, if_pos h1]
theorem jnR_g (h : t.2.2 ≠ 0) (h1 : ¬ (jU p t.1 t.2.2 X = 0 ∧ jS p t.2.1 t.2.2 Y = 0)) : jnR p t X Y false = jS p t.2.1 t.2.2 Y := by unfold jnR; rw [if_neg Bool.false_ne_true, if_neg h, if_neg h1]
end
theorem tw_lt {p : Nat} (hp : Pr p) (t : T3) : Lt3 p (twT p t) := ⟨mi_lt hp, mi_lt hp, tm_lt hp⟩
theorem jn_lt {p : Nat} (hp : Pr p) {t : T3} (ht : Lt3 p t) {X Y : Nat} {Z : Bool} (hX : X < p) (hY : Y < p) : Lt3 p (jnT p t X Y Z) := by
  unfold jnT
  split
  · exact ht
  · split
    · exact ⟨hX, hY, one_lt hp⟩
    · split
      · exact tw_lt hp t
      · exact ⟨mi_lt hp, mi_lt hp, tm_lt hp⟩
/-- A point multiplied. -/
def mtf (p X Y : Nat) (Z : Bool) : Nat → Nat → T3
  | 0, _ => (0, 0, 0)
  | f + 1, n => if n = 0 then (0, 0, 0) else if n % 2 = 1 then jnT p (twT p (mtf p X Y Z f (n / 2))) X Y Z else twT p (mtf p X Y Z f (n / 2))
def mt (p X Y : Nat) (Z : Bool) (n : Nat) : T3 := mtf p X Y Z 64 n
theorem mtf_up (p X Y : Nat) (Z : Bool) : ∀ (f n : Nat), n < 2 ^ f → mtf p X Y Z f n = mtf p X Y Z (f + 1) n
  | 0, n, h => by
    have : n = 0 := by omega
    subst this
    rfl
  | f + 1, n, h => by
    have e := mtf_up p X Y Z f (n / 2) (by rw [Nat.pow_succ] at h; omega)
    rw [mtf, mtf, e]
theorem mt_zero (p X Y : Nat) (Z : Bool) : mt p X Y Z 0 = (0, 0, 0) := rfl
theorem mt_step (p X Y : Nat) (Z : Bool) (n : Nat) (hn : n < 18446744073709551616) (h0 : n ≠ 0) : mt p X Y Z n = if n % 2 = 1 then jnT p (twT p (mt p X Y Z (n / 2))) X Y Z else twT p (mt p X Y Z (n / 2)) := by
  have e := mtf_up p X Y Z 63 (n / 2) (by rw [show 2 ^ 63 = 9223372036854775808 by decide]; omega)
  unfold mt
  rw [mtf, if_neg h0, e]
theorem tw_zero {p : Nat} : (twT p (0, 0, 0)) = (0, 0, 0) := by
  have z : ∀ a, tm p a 0 = 0 := fun a => by unfold tm; rw [Nat.mul_zero, Nat.zero_mod]
  have y : ∀ a, tm p 0 a = 0 := fun a => by unfold tm; rw [Nat.zero_mul, Nat.zero_mod]
  have q : pl p 0 0 = 0 := by unfold pl; rw [Nat.add_zero, Nat.zero_mod]
  have m : mi p 0 0 = 0 := by unfold mi; rw [Nat.zero_add, Nat.sub_zero, Nat.mod_self]
  simp only [twT, tX, tY, tR, tM, z, q, m]
theorem mt_bit {p : Nat} (X Y : Nat) (Z : Bool) (n k : Nat) (hn : n < 18446744073709551616) : mt p X Y Z (n / 2 ^ k) = if n / 2 ^ k % 2 = 1 then jnT p (twT p (mt p X Y Z (n / 2 ^ (k + 1)))) X Y Z else twT p (mt p X Y Z (n / 2 ^ (k + 1))) := by
  have e : n / 2 ^ (k + 1) = n / 2 ^ k / 2 := by rw [Nat.pow_succ, Nat.div_div_eq_div_mul]
  rw [e]
  by_cases h : n / 2 ^ k = 0
  · rw [h, Nat.zero_div, mt_zero, Nat.zero_mod, if_neg (by decide), tw_zero]
  · exact mt_step p X Y Z _ (Nat.lt_of_le_of_lt (Nat.div_le_self _ _) hn) h
theorem mtf_lt {p : Nat} (hp : Pr p) {X Y : Nat} {Z : Bool} (hX : X < p) (hY : Y < p) : ∀ (f n : Nat), Lt3 p (mtf p X Y Z f n)
  | 0, _ => ⟨zero_lt hp, zero_lt hp, zero_lt hp⟩
  | f + 1, n => by
    rw [mtf]
    split
    · exact ⟨zero_lt hp, zero_lt hp, zero_lt hp⟩
    · split
      · exact jn_lt hp (tw_lt hp _) hX hY
      · exact tw_lt hp _
theorem mt_lt {p : Nat} (hp : Pr p) {X Y : Nat} {Z : Bool} (hX : X < p) (hY : Y < p) (n : Nat) : Lt3 p (mt p X Y Z n) := mtf_lt hp hX hY 64 n
/-- The point of a triple. -/
def pX (p : Nat) (t : T3) : Nat := if t.2.2 = 0 then 0 else tm p t.1 (tm p (pw p t.2.2 (p - 2)) (pw p t.2.2 (p - 2)))
def pY (p : Nat) (t : T3) : Nat := if t.2.2 = 0 then 0 else tm p t.2.1 (tm p (tm p (pw p t.2.2 (p - 2)) (pw p t.2.2 (p - 2))) (pw p t.2.2 (p - 2)))
def pZ (t : T3) : Bool := decide (t.2.2 = 0)
/-- Whether it is a point of the curve, of the group. -/
def oc (p X Y : Nat) (Z : Bool) : Bool := if Z = true then decide (X = 0) && decide (Y = 0) else decide (X < p) && (decide (Y < p) && decide (tm p Y Y = cb p X))
def ig (p r X Y : Nat) (Z : Bool) : Bool := oc p X Y Z && decide ((mt p X Y Z r).2.2 = 0)
theorem call45 : ∀ args w, (callFunc 45 args).run Try.prog w = .ok (.enter 45 args) w := by intro args w; go_simp
theorem call70 : ∀ args w, (callFunc 70 args).run Try.prog w = .ok (.enter 70 args) w := by intro args w; go_simp
theorem call72 : ∀ args w, (callFunc 72 args).run Try.prog w = .ok (.enter 72 args) w := by intro args w; go_simp
section
variable {p r c gx gy : Nat}
set_option maxRecDepth 100000 in
theorem kindOf_1  (w : World) :
    Calls Try.prog 42 #[.int .i64 1] w fun e w' => e = .returned (.tuple #[V (kd 786251 65521 12 9723 164643), .int .i64 0]) ∧ Below w.heap.size w w' := by
  have H0 : Hid (_ ∧ _) := ⟨Mm.nil w, Below.refl w.heap.size w⟩
  go_enter Try.func42, Try.ntmps42
  refine wp_seq ?_
  refine walk_seqA 2 [.made (kd 0 0 0 0 0) 72, .quiet (.int .i64 0)] (sB H0) ?ho1 ?he1
  case ho1 => exact ak (fun γ => ⟨rfl, fun w' => ex_made72 rfl⟩) (ak (fun _ => ⟨rfl, fun _ _ => rfl⟩) trivial)
  intro γ w1 l hM hl
  have H1 : Hid (Mm w1 [(γ 0, kd 0 0 0 0 0)] ∧ _) := growB H0 hM (Nat.le_refl _) hl [0] rfl (by decide)
  have o1_0 := ownB H0 hM (Nat.le_refl _) hl (i := 0) rfl
  clear hM hl l
  generalize γ 0 = γ1_0 at H1 o1_0 ⊢
  clear γ
  refine rest0 rfl (then_normal (wp_seq (wp_seq ?_)))
  refine walk_seqB 1 [.quiet (.int .i64 1)] H1 ?ho2 ?he2
  case ho2 => exact ak (fun _ => ⟨rfl, fun _ _ => rfl⟩) trivial
  intro _ w2 H2
  clear H1
  refine rest0 rfl (then_normal (wp_block (wp_seq ?_)))
  refine walk_seqB 2 [.quiet (.bool true), .quiet (.bool true)] H2 ?ho3 ?he3
  case ho3 => exact ak (by refine fun γ => ⟨rfl, fun w' h => ?_⟩; clear h; go_simp) (ak (fun _ => ⟨rfl, fun _ _ => rfl⟩) trivial)
  intro _ w3 H3
  clear H2
  refine rest0 rfl (then_normal (wp_cond_true rfl (wp_seq ?_)))
  refine walk_seqB 2 [.quiet (.agg (pt 9723 164643 false).toArray), .quiet (.agg (kd 786251 65521 12 9723 164643).toArray)] H3 ?ho4 ?he4
  case ho4 => exact ak (fun γ => ⟨rfl, fun w' _ => ex_build25_01 rfl rfl rfl⟩) (ak (fun γ => ⟨rfl, fun w' _ => ex_build72_0123 rfl rfl rfl rfl rfl⟩) trivial)
  intro _ w4 H4
  clear H3
  refine rest_at (l := [2, 3]) rfl ?_
  refine rest_store rfl rfl rfl (ex_storeT (vs := kd 786251 65521 12 9723 164643) H4.out.1 0 rfl rfl rfl rfl Try.sizeOf72 rfl (Nat.le_of_ble_eq_true rfl)) ?_
  have H5 : Hid (Mm (w4.setCells γ1_0 0 (kd 786251 65521 12 9723 164643)) [(γ1_0, kd 786251 65521 12 9723 164643)] ∧ Below w.heap.size w (w4.setCells γ1_0 0 (kd 786251 65521 12 9723 164643))) := ⟨H4.out.1.put 0 (off := 0) (vs := kd 786251 65521 12 9723 164643) rfl (Nat.le_of_ble_eq_true rfl), below_setCells _ o1_0.out _ _ _ H4.out.2⟩
  clear H4
  generalize hgw : World.setCells _ _ _ _ = w5 at H5 ⊢
  clear hgw
  refine rest_set (d := 3) rfl rfl rfl rfl ?_
  simp only [Act.put, sa, sz, ss]
  refine rest_nil (then_normal (wp_ret ?_))
  repeat (first | refine then_ret ?_ | refine block_ret ?_)
  have hf0 := var_T H5.out.1 0 rfl Try.isAgg72 Try.sizeOf72 rfl
  refine bodyPost_ret (v := .tuple #[.agg (kd 786251 65521 12 9723 164643).toArray, .int .i64 0]) (by simp [results, Try.results42, asAddr, Act.eval, hf0]) rfl ?_
  exact ⟨rfl, H5.out.2⟩
set_option maxRecDepth 100000 in
theorem kindOf_2  (w : World) :
    Calls Try.prog 42 #[.int .i64 2] w fun e w' => e = .returned (.tuple #[V (kd 1152921504606846223 72057594037927889 16 613740293506734924 666621259561003659), .int .i64 0]) ∧ Below w.heap.size w w' := by
  have H0 : Hid (_ ∧ _) := ⟨Mm.nil w, Below.refl w.heap.size w⟩
  go_enter Try.func42, Try.ntmps42
  refine wp_seq ?_
  refine walk_seqA 2 [.made (kd 0 0 0 0 0) 72, .quiet (.int .i64 0)] (sB H0) ?ho1 ?he1
  case ho1 => exact ak (fun γ => ⟨rfl, fun w' => ex_made72 rfl⟩) (ak (fun _ => ⟨rfl, fun _ _ => rfl⟩) trivial)
  intro γ w1 l hM hl
  have H1 : Hid (Mm w1 [(γ 0, kd 0 0 0 0 0)] ∧ _) := growB H0 hM (Nat.le_refl _) hl [0] rfl (by decide)
  have o1_0 := ownB H0 hM (Nat.le_refl _) hl (i := 0) rfl
  clear hM hl l
  generalize γ 0 = γ1_0 at H1 o1_0 ⊢
  clear γ
  refine rest0 rfl (then_normal (wp_seq (wp_seq ?_)))
  refine walk_seqB 1 [.quiet (.int .i64 2)] H1 ?ho2 ?he2
  case ho2 => exact ak (fun _ => ⟨rfl, fun _ _ => rfl⟩) trivial
  intro _ w2 H2
  clear H1
  refine rest0 rfl (then_normal (wp_block (wp_seq ?_)))
  refine walk_seqB 2 [.quiet (.bool false), .quiet (.bool false)] H2 ?ho3 ?he3
  case ho3 => exact ak (by refine fun γ => ⟨rfl, fun w' h => ?_⟩; clear h; go_simp) (ak (fun _ => ⟨rfl, fun _ _ => rfl⟩) trivial)
  intro _ w3 H3
  clear H2
  refine rest0 rfl (then_normal (wp_cond_false rfl (wp_seq ?_)))
  refine walk_seqB 2 [.quiet (.bool true), .quiet (.bool true)] H3 ?ho4 ?he4
  case ho4 => exact ak (by refine fun γ => ⟨rfl, fun w' h => ?_⟩; clear h; go_simp) (ak (fun _ => ⟨rfl, fun _ _ => rfl⟩) trivial)
  intro _ w4 H4
  clear H3
  refine rest0 rfl (then_normal (wp_cond_true rfl (wp_seq ?_)))
  refine walk_seqB 2 [.quiet (.agg (pt 613740293506734924 666621259561003659 false).toArray), .quiet (.agg (kd 1152921504606846223 72057594037927889 16 613740293506734924 666621259561003659).toArray)] H4 ?ho5 ?he5
  case ho5 => exact ak (fun γ => ⟨rfl, fun w' _ => ex_build25_01 rfl rfl rfl⟩) (ak (fun γ => ⟨rfl, fun w' _ => ex_build72_0123 rfl rfl rfl rfl rfl⟩) trivial)
  intro _ w5 H5
  clear H4
  refine rest_at (l := [2, 3]) rfl ?_
  refine rest_store rfl rfl rfl (ex_storeT (vs := kd 1152921504606846223 72057594037927889 16 613740293506734924 666621259561003659) H5.out.1 0 rfl rfl rfl rfl Try.sizeOf72 rfl (Nat.le_of_ble_eq_true rfl)) ?_
  have H6 : Hid (Mm (w5.setCells γ1_0 0 (kd 1152921504606846223 72057594037927889 16 613740293506734924 666621259561003659)) [(γ1_0, kd 1152921504606846223 72057594037927889 16 613740293506734924 666621259561003659)] ∧ Below w.heap.size w (w5.setCells γ1_0 0 (kd 1152921504606846223 72057594037927889 16 613740293506734924 666621259561003659))) := ⟨H5.out.1.put 0 (off := 0) (vs := kd 1152921504606846223 72057594037927889 16 613740293506734924 666621259561003659) rfl (Nat.le_of_ble_eq_true rfl), below_setCells _ o1_0.out _ _ _ H5.out.2⟩
  clear H5
  generalize hgw : World.setCells _ _ _ _ = w6 at H6 ⊢
  clear hgw
  refine rest_set (d := 3) rfl rfl rfl rfl ?_
  simp only [Act.put, sa, sz, ss]
  refine rest_nil (then_normal (wp_ret ?_))
  repeat (first | refine then_ret ?_ | refine block_ret ?_)
  have hf0 := var_T H6.out.1 0 rfl Try.isAgg72 Try.sizeOf72 rfl
  refine bodyPost_ret (v := .tuple #[.agg (kd 1152921504606846223 72057594037927889 16 613740293506734924 666621259561003659).toArray, .int .i64 0]) (by simp [results, Try.results42, asAddr, Act.eval, hf0]) rfl ?_
  exact ⟨rfl, H6.out.2⟩
set_option maxRecDepth 100000 in
theorem kindOf_no (s : Int) (h1 : s ≠ 1) (h2 : s ≠ 2) (w : World) :
    Calls Try.prog 42 #[.int .i64 s] w fun e w' => e = .returned (.tuple #[V (kd 0 0 0 0 0), .int .i64 2]) ∧ Below w.heap.size w w' := by
  have H0 : Hid (_ ∧ _) := ⟨Mm.nil w, Below.refl w.heap.size w⟩
  go_enter Try.func42, Try.ntmps42
  refine wp_seq ?_
  refine walk_seqA 2 [.made (kd 0 0 0 0 0) 72, .quiet (.int .i64 0)] (sB H0) ?ho1 ?he1
  case ho1 => exact ak (fun γ => ⟨rfl, fun w' => ex_made72 rfl⟩) (ak (fun _ => ⟨rfl, fun _ _ => rfl⟩) trivial)
  intro γ w1 l hM hl
  have H1 : Hid (Mm w1 [(γ 0, kd 0 0 0 0 0)] ∧ _) := growB H0 hM (Nat.le_refl _) hl [0] rfl (by decide)
  have o1_0 := ownB H0 hM (Nat.le_refl _) hl (i := 0) rfl
  clear hM hl l
  generalize γ 0 = γ1_0 at H1 o1_0 ⊢
  clear γ
  refine rest0 rfl (then_normal (wp_seq (wp_seq ?_)))
  refine walk_seqB 1 [.quiet (.int .i64 s)] H1 ?ho2 ?he2
  case ho2 => exact ak (fun _ => ⟨rfl, fun _ _ => rfl⟩) trivial
  intro _ w2 H2
  clear H1
  refine rest0 rfl (then_normal (wp_block (wp_seq ?_)))
  refine walk_seqB 2 [.quiet (.bool false), .quiet (.bool false)] H2 ?ho3 ?he3
  case ho3 => exact ak (by refine fun γ => ⟨rfl, fun w' h => ?_⟩; clear h; go_simp) (ak (fun _ => ⟨rfl, fun _ _ => rfl⟩) trivial)
  intro _ w3 H3
  clear H2
  refine rest0 rfl (then_normal (wp_cond_false rfl (wp_seq ?_)))
  refine walk_seqB 2 [.quiet (.bool false), .quiet (.bool false)] H3 ?ho4 ?he4
  case ho4 => exact ak (by refine fun γ => ⟨rfl, fun w' h => ?_⟩; clear h; go_simp) (ak (fun _ => ⟨rfl, fun _ _ => rfl⟩) trivial)
  intro _ w4 H4
  clear H3
  refine rest0 rfl (then_normal (wp_cond_false rfl ?_))
  refine wp_skip (block_normal ?_)
  refine then_normal (wp_seq ?_)
  refine walk_seqB 1 [.quiet (.agg (kd 0 0 0 0 0).toArray)] H4 ?ho5 ?he5
  case ho5 => exact ak (fun γ => ⟨rfl, fun w' _ => ex_build72_ rfl⟩) trivial
  intro _ w5 H5
  clear H4
  refine rest_at (l := [1, 2]) rfl ?_
  refine rest_store rfl rfl rfl (ex_storeT (vs := kd 0 0 0 0 0) H5.out.1 0 rfl rfl rfl rfl Try.sizeOf72 rfl (Nat.le_of_ble_eq_true rfl)) ?_
  have H6 : Hid (Mm (w5.setCells γ1_0 0 (kd 0 0 0 0 0)) [(γ1_0, kd 0 0 0 0 0)] ∧ Below w.heap.size w (w5.setCells γ1_0 0 (kd 0 0 0 0 0))) := ⟨H5.out.1.put 0 (off := 0) (vs := kd 0 0 0 0 0) rfl (Nat.le_of_ble_eq_true rfl), below_setCells _ o1_0.out _ _ _ H5.out.2⟩
  clear H5
  generalize hgw : World.setCells _ _ _ _ = w6 at H6 ⊢
  clear hgw
  refine rest_set (d := 3) rfl rfl rfl rfl ?_
  simp only [Act.put, sa, sz, ss]
  refine rest_nil (then_normal (wp_ret ?_))
  repeat (first | refine then_ret ?_ | refine block_ret ?_)
  have hf0 := var_T H6.out.1 0 rfl Try.isAgg72 Try.sizeOf72 rfl
  refine bodyPost_ret (v := .tuple #[.agg (kd 0 0 0 0 0).toArray, .int .i64 2]) (by simp [results, Try.results42, asAddr, Act.eval, hf0]) rfl ?_
  exact ⟨rfl, H6.out.2⟩
set_option maxRecDepth 100000 in
theorem on_zero (X Y : Nat) (w : World) :
    Calls Try.prog 50 #[.agg (kd p r c gx gy).toArray, .agg (pt X Y true).toArray] w fun e w' => e = .returned (.bool (decide (X = 0) && (decide (Y = 0) && (true == true)))) ∧ Below w.heap.size w w' := by
  have H0 : Hid (_ ∧ _) := ⟨Mm.nil w, Below.refl w.heap.size w⟩
  go_enter Try.func50, Try.ntmps50
  refine wp_seq ?_
  refine walk_seqA 3 [.made (kd p r c gx gy) 72, .made (pt X Y true) 25, .quiet (.bool false)] (sB H0) ?ho1 ?he1
  case ho1 => exact ak (fun γ => ⟨rfl, fun w' => ex_boxT rfl rfl⟩) (ak (fun γ => ⟨rfl, fun w' => ex_boxT rfl rfl⟩) (ak (fun _ => ⟨rfl, fun _ _ => rfl⟩) trivial))
  intro γ w1 l hM hl
  have H1 : Hid (Mm w1 [(γ 0, kd p r c gx gy), (γ 1, pt X Y true)] ∧ _) := growB H0 hM (Nat.le_refl _) hl [0, 1] rfl (by decide)
  have o1_0 := ownB H0 hM (Nat.le_refl _) hl (i := 0) rfl
  have o1_1 := ownB H0 hM (Nat.le_refl _) hl (i := 1) rfl
  clear hM hl l
  generalize γ 0 = γ1_0 at H1 o1_0 ⊢
  generalize γ 1 = γ1_1 at H1 o1_1 ⊢
  clear γ
  refine rest0 rfl (then_normal (wp_seq (wp_seq ?_)))
  refine walk_seqB 2 [.quiet (PT γ1_1 2), .quiet (.bool true)] H1 ?ho2 ?he2
  case ho2 => exact ak (by refine fun γ => ⟨rfl, fun w' h => ?_⟩; clear h; go_simp) (ak (fun γ => ⟨rfl, fun w' h => ex_loadC h 1 rfl rfl rfl Try.isAgg4 rfl⟩) trivial)
  intro _ w2 H2
  clear H1
  refine rest0 rfl (then_normal (wp_cond_true rfl (wp_seq ?_)))
  refine walk_seqB 4 [.quiet (.agg (pt X Y true).toArray), .quiet (.agg (pt 0 0 true).toArray), .quiet (.bool (decide (X = 0) && (decide (Y = 0) && (true == true)))), .quiet (.bool (decide (X = 0) && (decide (Y = 0) && (true == true))))] H2 ?ho3 ?he3
  case ho3 => exact ak (fun γ => ⟨rfl, fun w' h => ex_loadT h 1 rfl rfl rfl Try.isAgg25 Try.sizeOf25 rfl rfl⟩) (ak (fun γ => ⟨rfl, fun w' _ => ex_build25_2 rfl rfl⟩) (ak (fun γ => ⟨rfl, fun w' _ => exec_eqT25 (fun w => run_eqP X Y 0 0 true true w) rfl rfl rfl⟩) (ak (fun _ => ⟨rfl, fun _ _ => rfl⟩) trivial)))
  intro _ w3 H3
  clear H2
  refine rest0 rfl (then_normal (wp_ret ?_))
  repeat (first | refine then_ret ?_ | refine block_ret ?_)
  refine bodyPost_ret (v := .bool (decide (X = 0) && (decide (Y = 0) && (true == true)))) (by simp [results, Try.results50, go_sem, *]) rfl ?_
  exact ⟨rfl, H3.out.2⟩
set_option maxRecDepth 100000 in
theorem on_x (X Y : Nat) (hX : ¬ X < p) (w : World) :
    Calls Try.prog 50 #[.agg (kd p r c gx gy).toArray, .agg (pt X Y false).toArray] w fun e w' => e = .returned (.bool false) ∧ Below w.heap.size w w' := by
  have H0 : Hid (_ ∧ _) := ⟨Mm.nil w, Below.refl w.heap.size w⟩
  go_enter Try.func50, Try.ntmps50
  refine wp_seq ?_
  refine walk_seqA 3 [.made (kd p r c gx gy) 72, .made (pt X Y false) 25, .quiet (.bool false)] (sB H0) ?ho1 ?he1
  case ho1 => exact ak (fun γ => ⟨rfl, fun w' => ex_boxT rfl rfl⟩) (ak (fun γ => ⟨rfl, fun w' => ex_boxT rfl rfl⟩) (ak (fun _ => ⟨rfl, fun _ _ => rfl⟩) trivial))
  intro γ w1 l hM hl
  have H1 : Hid (Mm w1 [(γ 0, kd p r c gx gy), (γ 1, pt X Y false)] ∧ _) := growB H0 hM (Nat.le_refl _) hl [0, 1] rfl (by decide)
  have o1_0 := ownB H0 hM (Nat.le_refl _) hl (i := 0) rfl
  have o1_1 := ownB H0 hM (Nat.le_refl _) hl (i := 1) rfl
  clear hM hl l
  generalize γ 0 = γ1_0 at H1 o1_0 ⊢
  generalize γ 1 = γ1_1 at H1 o1_1 ⊢
  clear γ
  refine rest0 rfl (then_normal (wp_seq (wp_seq ?_)))
  refine walk_seqB 2 [.quiet (PT γ1_1 2), .quiet (.bool false)] H1 ?ho2 ?he2
  case ho2 => exact ak (by refine fun γ => ⟨rfl, fun w' h => ?_⟩; clear h; go_simp) (ak (fun γ => ⟨rfl, fun w' h => ex_loadC h 1 rfl rfl rfl Try.isAgg4 rfl⟩) trivial)
  intro _ w2 H2
  clear H1
  refine rest0 rfl (then_normal (wp_cond_false rfl ?_))
  refine wp_skip (then_normal (wp_seq ?_))
  refine walk_anyB 26 [.quiet (PT γ1_1 0), .quiet (U X), .quiet (PT γ1_0 0), .quiet (U p), .quiet (.bool false), .quiet (.bool false), .gone, .gone, .gone, .gone, .gone, .quiet (.bool false), .quiet (.bool false), .gone, .gone, .gone, .gone, .gone, .gone, .gone, .gone, .gone, .gone, .gone, .quiet (.bool false), .quiet (.bool false)] H2 ?ho3 ?he3 (hL := ?hL3)
  case hL3 => exact trivial
  case ho3 => exact ak (by refine fun γ => ⟨rfl, fun w' h => ?_⟩; clear h; go_simp) (ak (fun γ => ⟨rfl, fun w' h => ex_loadC h 1 rfl rfl rfl Try.isAgg23 rfl⟩) (ak (by refine fun γ => ⟨rfl, fun w' h => ?_⟩; clear h; go_simp) (ak (fun γ => ⟨rfl, fun w' h => ex_loadC h 0 rfl rfl rfl Try.isAgg23 rfl⟩) (ak (fun γ => ⟨rfl, fun w' _ => ex_ltU rfl rfl rfl (decide_eq_false (hX))⟩) (ak (fun _ => ⟨rfl, fun _ _ => rfl⟩) (ak (fun γ => rfl) (ak (fun γ => rfl) (ak (fun γ => rfl) (ak (fun γ => rfl) (ak (fun γ => rfl) (ak (by refine fun γ => ⟨rfl, fun w' h => ?_⟩; clear h; go_simp) (ak (fun _ => ⟨rfl, fun _ _ => rfl⟩) (ak (fun γ => rfl) (ak (fun γ => rfl) (ak (fun γ => rfl) (ak (fun γ => rfl) (ak (fun γ => rfl) (ak (fun γ => rfl) (ak (fun γ => rfl) (ak (fun γ => rfl) (ak (fun γ => rfl) (ak (fun γ => rfl) (ak (fun γ => rfl) (ak (by refine fun γ => ⟨rfl, fun w' h => ?_⟩; clear h; go_simp) (ak (fun _ => ⟨rfl, fun _ _ => rfl⟩) trivial)))))))))))))))))))))))))
  intro _ w3 H3
  clear H2
  refine rest0 rfl (then_normal (wp_ret ?_))
  repeat (first | refine then_ret ?_ | refine block_ret ?_)
  refine bodyPost_ret (v := .bool false) (by simp [results, Try.results50, go_sem, *]) rfl ?_
  exact ⟨rfl, H3.out.2⟩
set_option maxRecDepth 100000 in
theorem on_y (X Y : Nat) (hX : X < p) (hY : ¬ Y < p) (w : World) :
    Calls Try.prog 50 #[.agg (kd p r c gx gy).toArray, .agg (pt X Y false).toArray] w fun e w' => e = .returned (.bool false) ∧ Below w.heap.size w w' := by
  have H0 : Hid (_ ∧ _) := ⟨Mm.nil w, Below.refl w.heap.size w⟩
  go_enter Try.func50, Try.ntmps50
  refine wp_seq ?_
  refine walk_seqA 3 [.made (kd p r c gx gy) 72, .made (pt X Y false) 25, .quiet (.bool false)] (sB H0) ?ho1 ?he1
  case ho1 => exact ak (fun γ => ⟨rfl, fun w' => ex_boxT rfl rfl⟩) (ak (fun γ => ⟨rfl, fun w' => ex_boxT rfl rfl⟩) (ak (fun _ => ⟨rfl, fun _ _ => rfl⟩) trivial))
  intro γ w1 l hM hl
  have H1 : Hid (Mm w1 [(γ 0, kd p r c gx gy), (γ 1, pt X Y false)] ∧ _) := growB H0 hM (Nat.le_refl _) hl [0, 1] rfl (by decide)
  have o1_0 := ownB H0 hM (Nat.le_refl _) hl (i := 0) rfl
  have o1_1 := ownB H0 hM (Nat.le_refl _) hl (i := 1) rfl
  clear hM hl l
  generalize γ 0 = γ1_0 at H1 o1_0 ⊢
  generalize γ 1 = γ1_1 at H1 o1_1 ⊢
  clear γ
  refine rest0 rfl (then_normal (wp_seq (wp_seq ?_)))
  refine walk_seqB 2 [.quiet (PT γ1_1 2), .quiet (.bool false)] H1 ?ho2 ?he2
  case ho2 => exact ak (by refine fun γ => ⟨rfl, fun w' h => ?_⟩; clear h; go_simp) (ak (fun γ => ⟨rfl, fun w' h => ex_loadC h 1 rfl rfl rfl Try.isAgg4 rfl⟩) trivial)
  intro _ w2 H2
  clear H1
  refine rest0 rfl (then_normal (wp_cond_false rfl ?_))
  refine wp_skip (then_normal (wp_seq ?_))
  refine walk_anyB 26 [.quiet (PT γ1_1 0), .quiet (U X), .quiet (PT γ1_0 0), .quiet (U p), .quiet (.bool true), .quiet (.bool true), .quiet (PT γ1_1 1), .quiet (U Y), .quiet (PT γ1_0 0), .quiet (U p), .quiet (.bool false), .quiet (.bool false), .quiet (.bool false), .gone, .gone, .gone, .gone, .gone, .gone, .gone, .gone, .gone, .gone, .gone, .quiet (.bool false), .quiet (.bool false)] H2 ?ho3 ?he3 (hL := ?hL3)
  case hL3 => exact trivial
  case ho3 => exact ak (by refine fun γ => ⟨rfl, fun w' h => ?_⟩; clear h; go_simp) (ak (fun γ => ⟨rfl, fun w' h => ex_loadC h 1 rfl rfl rfl Try.isAgg23 rfl⟩) (ak (by refine fun γ => ⟨rfl, fun w' h => ?_⟩; clear h; go_simp) (ak (fun γ => ⟨rfl, fun w' h => ex_loadC h 0 rfl rfl rfl Try.isAgg23 rfl⟩) (ak (fun γ => ⟨rfl, fun w' _ => ex_ltU rfl rfl rfl (decide_eq_true (hX))⟩) (ak (fun _ => ⟨rfl, fun _ _ => rfl⟩) (ak (by refine fun γ => ⟨rfl, fun w' h => ?_⟩; clear h; go_simp) (ak (fun γ => ⟨rfl, fun w' h => ex_loadC h 1 rfl rfl rfl Try.isAgg23 rfl⟩) (ak (by refine fun γ => ⟨rfl, fun w' h => ?_⟩; clear h; go_simp) (ak (fun γ => ⟨rfl, fun w' h => ex_loadC h 0 rfl rfl rfl Try.isAgg23 rfl⟩) (ak (fun γ => ⟨rfl, fun w' _ => ex_ltU rfl rfl rfl (decide_eq_false (hY))⟩) (ak (by refine fun γ => ⟨rfl, fun w' h => ?_⟩; clear h; go_simp) (ak (fun _ => ⟨rfl, fun _ _ => rfl⟩) (ak (fun γ => rfl) (ak (fun γ => rfl) (ak (fun γ => rfl) (ak (fun γ => rfl) (ak (fun γ => rfl) (ak (fun γ => rfl) (ak (fun γ => rfl) (ak (fun γ => rfl) (ak (fun γ => rfl) (ak (fun γ => rfl) (ak (fun γ => rfl) (ak (by refine fun γ => ⟨rfl, fun w' h => ?_⟩; clear h; go_simp) (ak (fun _ => ⟨rfl, fun _ _ => rfl⟩) trivial)))))))))))))))))))))))))
  intro _ w3 H3
  clear H2
  refine rest0 rfl (then_normal (wp_ret ?_))
  repeat (first | refine then_ret ?_ | refine block_ret ?_)
  refine bodyPost_ret (v := .bool false) (by simp [results, Try.results50, go_sem, *]) rfl ?_
  exact ⟨rfl, H3.out.2⟩
set_option maxRecDepth 100000 in
theorem on_in (hp : Pr p) (X Y : Nat) (hX : X < p) (hY : Y < p) (w : World) :
    Calls Try.prog 50 #[.agg (kd p r c gx gy).toArray, .agg (pt X Y false).toArray] w fun e w' => e = .returned (.bool (decide (tm p Y Y = cb p X))) ∧ Below w.heap.size w w' := by
  have H0 : Hid (_ ∧ _) := ⟨Mm.nil w, Below.refl w.heap.size w⟩
  go_enter Try.func50, Try.ntmps50
  refine wp_seq ?_
  refine walk_seqA 3 [.made (kd p r c gx gy) 72, .made (pt X Y false) 25, .quiet (.bool false)] (sB H0) ?ho1 ?he1
  case ho1 => exact ak (fun γ => ⟨rfl, fun w' => ex_boxT rfl rfl⟩) (ak (fun γ => ⟨rfl, fun w' => ex_boxT rfl rfl⟩) (ak (fun _ => ⟨rfl, fun _ _ => rfl⟩) trivial))
  intro γ w1 l hM hl
  have H1 : Hid (Mm w1 [(γ 0, kd p r c gx gy), (γ 1, pt X Y false)] ∧ _) := growB H0 hM (Nat.le_refl _) hl [0, 1] rfl (by decide)
  have o1_0 := ownB H0 hM (Nat.le_refl _) hl (i := 0) rfl
  have o1_1 := ownB H0 hM (Nat.le_refl _) hl (i := 1) rfl
  clear hM hl l
  generalize γ 0 = γ1_0 at H1 o1_0 ⊢
  generalize γ 1 = γ1_1 at H1 o1_1 ⊢
  clear γ
  refine rest0 rfl (then_normal (wp_seq (wp_seq ?_)))
  refine walk_seqB 2 [.quiet (PT γ1_1 2), .quiet (.bool false)] H1 ?ho2 ?he2
  case ho2 => exact ak (by refine fun γ => ⟨rfl, fun w' h => ?_⟩; clear h; go_simp) (ak (fun γ => ⟨rfl, fun w' h => ex_loadC h 1 rfl rfl rfl Try.isAgg4 rfl⟩) trivial)
  intro _ w2 H2
  clear H1
  refine rest0 rfl (then_normal (wp_cond_false rfl ?_))
  refine wp_skip (then_normal (wp_seq ?_))
  refine walk_anyB 26 [.quiet (PT γ1_1 0), .quiet (U X), .quiet (PT γ1_0 0), .quiet (U p), .quiet (.bool true), .quiet (.bool true), .quiet (PT γ1_1 1), .quiet (U Y), .quiet (PT γ1_0 0), .quiet (U p), .quiet (.bool true), .quiet (.bool true), .quiet (.bool true), .quiet (.agg (kd p r c gx gy).toArray), .quiet (PT γ1_1 1), .quiet (U Y), .quiet (PT γ1_1 1), .quiet (U Y), .call (U (tm p Y Y)), .quiet (.agg (kd p r c gx gy).toArray), .quiet (PT γ1_1 0), .quiet (U X), .call (U (cb p X)), .quiet (.bool (decide (tm p Y Y = cb p X))), .quiet (.bool (decide (tm p Y Y = cb p X))), .quiet (.bool (decide (tm p Y Y = cb p X)))] H2 ?ho3 ?he3 (hL := ?hL3)
  case hL3 => exact trivial
  case ho3 => exact ak (by refine fun γ => ⟨rfl, fun w' h => ?_⟩; clear h; go_simp) (ak (fun γ => ⟨rfl, fun w' h => ex_loadC h 1 rfl rfl rfl Try.isAgg23 rfl⟩) (ak (by refine fun γ => ⟨rfl, fun w' h => ?_⟩; clear h; go_simp) (ak (fun γ => ⟨rfl, fun w' h => ex_loadC h 0 rfl rfl rfl Try.isAgg23 rfl⟩) (ak (fun γ => ⟨rfl, fun w' _ => ex_ltU rfl rfl rfl (decide_eq_true (hX))⟩) (ak (fun _ => ⟨rfl, fun _ _ => rfl⟩) (ak (by refine fun γ => ⟨rfl, fun w' h => ?_⟩; clear h; go_simp) (ak (fun γ => ⟨rfl, fun w' h => ex_loadC h 1 rfl rfl rfl Try.isAgg23 rfl⟩) (ak (by refine fun γ => ⟨rfl, fun w' h => ?_⟩; clear h; go_simp) (ak (fun γ => ⟨rfl, fun w' h => ex_loadC h 0 rfl rfl rfl Try.isAgg23 rfl⟩) (ak (fun γ => ⟨rfl, fun w' _ => ex_ltU rfl rfl rfl (decide_eq_true (hY))⟩) (ak (by refine fun γ => ⟨rfl, fun w' h => ?_⟩; clear h; go_simp) (ak (fun _ => ⟨rfl, fun _ _ => rfl⟩) (ak (fun γ => ⟨rfl, fun w' h => ex_loadT h 0 rfl rfl rfl Try.isAgg72 Try.sizeOf72 rfl rfl⟩) (ak (by refine fun γ => ⟨rfl, fun w' h => ?_⟩; clear h; go_simp) (ak (fun γ => ⟨rfl, fun w' h => ex_loadC h 1 rfl rfl rfl Try.isAgg23 rfl⟩) (ak (by refine fun γ => ⟨rfl, fun w' h => ?_⟩; clear h; go_simp) (ak (fun γ => ⟨rfl, fun w' h => ex_loadC h 1 rfl rfl rfl Try.isAgg23 rfl⟩) (ak (fun γ => ⟨rfl, fun w' h => ⟨69, #[.agg (kd p r c gx gy).toArray, U Y, U Y], exec_call rfl call69 rfl (mpn rfl), times_any hp Y Y hY hY w'⟩⟩) (ak (fun γ => ⟨rfl, fun w' h => ex_loadT h 0 rfl rfl rfl Try.isAgg72 Try.sizeOf72 rfl rfl⟩) (ak (by refine fun γ => ⟨rfl, fun w' h => ?_⟩; clear h; go_simp) (ak (fun γ => ⟨rfl, fun w' h => ex_loadC h 1 rfl rfl rfl Try.isAgg23 rfl⟩) (ak (fun γ => ⟨rfl, fun w' h => ⟨74, #[.agg (kd p r c gx gy).toArray, U X], exec_call rfl call74 rfl (mpn rfl), cube_any hp X hX w'⟩⟩) (ak (fun γ => ⟨rfl, fun w' _ => ex_eqU rfl rfl rfl rfl⟩) (ak (by refine fun γ => ⟨rfl, fun w' h => ?_⟩; clear h; go_simp) (ak (fun _ => ⟨rfl, fun _ _ => rfl⟩) trivial)))))))))))))))))))))))))
  intro _ w3 H3
  clear H2
  refine rest0 rfl (then_normal (wp_ret ?_))
  repeat (first | refine then_ret ?_ | refine block_ret ?_)
  refine bodyPost_ret (v := .bool (decide (tm p Y Y = cb p X))) (by simp [results, Try.results50, go_sem, *]) rfl ?_
  exact ⟨rfl, H3.out.2⟩
theorem onCurve_any (hp : Pr p) (X Y : Nat) (Z : Bool) (w : World) : Calls Try.prog 50 #[.agg (kd p r c gx gy).toArray, .agg (pt X Y Z).toArray] w fun e w' => e = .returned (.bool (oc p X Y Z)) ∧ Below w.heap.size w w' := by
  unfold oc
  cases Z
  · rw [if_neg (by decide)]
    by_cases hX : X < p
    · by_cases hY : Y < p
      · rw [decide_eq_true hX, decide_eq_true hY, Bool.true_and, Bool.true_and]; exact on_in hp X Y hX hY w
      · rw [decide_eq_false hY, Bool.false_and, Bool.and_false]; exact on_y X Y hX hY w
    · rw [decide_eq_false hX, Bool.false_and]; exact on_x X Y hX w
  · rw [if_pos rfl]
    have h := on_zero (p := p) (r := r) (c := c) (gx := gx) (gy := gy) X Y w
    rw [show (true == true) = true from rfl, Bool.and_true] at h
    exact h
set_option maxRecDepth 100000 in
theorem tripleOf_t (X Y : Nat) (w : World) :
    Calls Try.prog 45 #[.agg (pt X Y true).toArray] w fun e w' => e = .returned (V (tr 0 0 0)) ∧ Below w.heap.size w w' := by
  have H0 : Hid (_ ∧ _) := ⟨Mm.nil w, Below.refl w.heap.size w⟩
  go_enter Try.func45, Try.ntmps45
  refine wp_seq ?_
  refine walk_seqA 2 [.made (pt X Y true) 25, .made (tr 0 0 0) 77] (sB H0) ?ho1 ?he1
  case ho1 => exact ak (fun γ => ⟨rfl, fun w' => ex_boxT rfl rfl⟩) (ak (fun γ => ⟨rfl, fun w' => ex_made77 rfl⟩) trivial)
  intro γ w1 l hM hl
  have H1 : Hid (Mm w1 [(γ 0, pt X Y true), (γ 1, tr 0 0 0)] ∧ _) := growB H0 hM (Nat.le_refl _) hl [0, 1] rfl (by decide)
  have o1_0 := ownB H0 hM (Nat.le_refl _) hl (i := 0) rfl
  have o1_1 := ownB H0 hM (Nat.le_refl _) hl (i := 1) rfl
  clear hM hl l
  generalize γ 0 = γ1_0 at H1 o1_0 ⊢
  generalize γ 1 = γ1_1 at H1 o1_1 ⊢
  clear γ
  refine rest0 rfl (then_normal (wp_seq (wp_seq ?_)))
  refine walk_seqB 2 [.quiet (PT γ1_0 2), .quiet (.bool true)] H1 ?ho2 ?he2
  case ho2 => exact ak (by refine fun γ => ⟨rfl, fun w' h => ?_⟩; clear h; go_simp) (ak (fun γ => ⟨rfl, fun w' h => ex_loadC h 0 rfl rfl rfl Try.isAgg4 rfl⟩) trivial)
  intro _ w2 H2
  clear H1
  refine rest0 rfl (then_normal (wp_cond_true rfl (wp_seq ?_)))
  refine walk_seqB 1 [.quiet (.agg (tr 0 0 0).toArray)] H2 ?ho3 ?he3
  case ho3 => exact ak (fun γ => ⟨rfl, fun w' _ => ex_build77_ rfl⟩) trivial
  intro _ w3 H3
  clear H2
  refine rest_at (l := [1]) rfl ?_
  refine rest_store rfl rfl rfl (ex_storeT (vs := tr 0 0 0) H3.out.1 1 rfl rfl rfl rfl Try.sizeOf77 rfl (Nat.le_of_ble_eq_true rfl)) ?_
  have H4 : Hid (Mm (w3.setCells γ1_1 0 (tr 0 0 0)) [(γ1_0, pt X Y true), (γ1_1, tr 0 0 0)] ∧ Below w.heap.size w (w3.setCells γ1_1 0 (tr 0 0 0))) := ⟨H3.out.1.put 1 (off := 0) (vs := tr 0 0 0) rfl (Nat.le_of_ble_eq_true rfl), below_setCells _ o1_1.out _ _ _ H3.out.2⟩
  clear H3
  generalize hgw : World.setCells _ _ _ _ = w4 at H4 ⊢
  clear hgw
  refine rest_nil (then_normal (wp_ret ?_))
  repeat (first | refine then_ret ?_ | refine block_ret ?_)
  have hf0 := var_T H4.out.1 1 rfl Try.isAgg77 Try.sizeOf77 rfl
  refine bodyPost_ret (v := .agg (tr 0 0 0).toArray) (by simp [results, Try.results45, asAddr, hf0]) rfl ?_
  exact ⟨rfl, H4.out.2⟩
set_option maxRecDepth 100000 in
theorem tripleOf_f (X Y : Nat) (w : World) :
    Calls Try.prog 45 #[.agg (pt X Y false).toArray] w fun e w' => e = .returned (V (tr X Y 1)) ∧ Below w.heap.size w w' := by
  have H0 : Hid (_ ∧ _) := ⟨Mm.nil w, Below.refl w.heap.size w⟩
  go_enter Try.func45, Try.ntmps45
  refine wp_seq ?_
  refine walk_seqA 2 [.made (pt X Y false) 25, .made (tr 0 0 0) 77] (sB H0) ?ho1 ?he1
  case ho1 => exact ak (fun γ => ⟨rfl, fun w' => ex_boxT rfl rfl⟩) (ak (fun γ => ⟨rfl, fun w' => ex_made77 rfl⟩) trivial)
  intro γ w1 l hM hl
  have H1 : Hid (Mm w1 [(γ 0, pt X Y false), (γ 1, tr 0 0 0)] ∧ _) := growB H0 hM (Nat.le_refl _) hl [0, 1] rfl (by decide)
  have o1_0 := ownB H0 hM (Nat.le_refl _) hl (i := 0) rfl
  have o1_1 := ownB H0 hM (Nat.le_refl _) hl (i := 1) rfl
  clear hM hl l
  generalize γ 0 = γ1_0 at H1 o1_0 ⊢
  generalize γ 1 = γ1_1 at H1 o1_1 ⊢
  clear γ
  refine rest0 rfl (then_normal (wp_seq (wp_seq ?_)))
  refine walk_seqB 2 [.quiet (PT γ1_0 2), .quiet (.bool false)] H1 ?ho2 ?he2
  case ho2 => exact ak (by refine fun γ => ⟨rfl, fun w' h => ?_⟩; clear h; go_simp) (ak (fun γ => ⟨rfl, fun w' h => ex_loadC h 0 rfl rfl rfl Try.isAgg4 rfl⟩) trivial)
  intro _ w2 H2
  clear H1
  refine rest0 rfl (then_normal (wp_cond_false rfl ?_))
  refine wp_skip (then_normal (wp_seq ?_))
  refine walk_seqB 5 [.quiet (PT γ1_0 0), .quiet (U X), .quiet (PT γ1_0 1), .quiet (U Y), .quiet (.agg (tr X Y 1).toArray)] H2 ?ho3 ?he3
  case ho3 => exact ak (by refine fun γ => ⟨rfl, fun w' h => ?_⟩; clear h; go_simp) (ak (fun γ => ⟨rfl, fun w' h => ex_loadC h 0 rfl rfl rfl Try.isAgg23 rfl⟩) (ak (by refine fun γ => ⟨rfl, fun w' h => ?_⟩; clear h; go_simp) (ak (fun γ => ⟨rfl, fun w' h => ex_loadC h 0 rfl rfl rfl Try.isAgg23 rfl⟩) (ak (fun γ => ⟨rfl, fun w' _ => ex_build77_012 rfl rfl rfl rfl⟩) trivial))))
  intro _ w3 H3
  clear H2
  refine rest_at (l := [5]) rfl ?_
  refine rest_store rfl rfl rfl (ex_storeT (vs := tr X Y 1) H3.out.1 1 rfl rfl rfl rfl Try.sizeOf77 rfl (Nat.le_of_ble_eq_true rfl)) ?_
  have H4 : Hid (Mm (w3.setCells γ1_1 0 (tr X Y 1)) [(γ1_0, pt X Y false), (γ1_1, tr X Y 1)] ∧ Below w.heap.size w (w3.setCells γ1_1 0 (tr X Y 1))) := ⟨H3.out.1.put 1 (off := 0) (vs := tr X Y 1) rfl (Nat.le_of_ble_eq_true rfl), below_setCells _ o1_1.out _ _ _ H3.out.2⟩
  clear H3
  generalize hgw : World.setCells _ _ _ _ = w4 at H4 ⊢
  clear hgw
  refine rest_nil (then_normal (wp_ret ?_))
  repeat (first | refine then_ret ?_ | refine block_ret ?_)
  have hf0 := var_T H4.out.1 1 rfl Try.isAgg77 Try.sizeOf77 rfl
  refine bodyPost_ret (v := .agg (tr X Y 1).toArray) (by simp [results, Try.results45, asAddr, hf0]) rfl ?_
  exact ⟨rfl, H4.out.2⟩
theorem tripleOf_any (X Y : Nat) (Z : Bool) (w : World) : Calls Try.prog 45 #[.agg (pt X Y Z).toArray] w fun e w' => e = .returned (V (tc (tO X Y Z))) ∧ Below w.heap.size w w' := by
  cases Z
  · exact tripleOf_f X Y w
  · exact tripleOf_t X Y w
set_option maxHeartbeats 1000000 in
set_option maxRecDepth 100000 in
theorem twice_raw (hp : Pr p) (x y z : Nat) (hx : x < p) (hy : y < p) (hz : z < p) (w : World) :
    Calls Try.prog 70 #[.agg (kd p r c gx gy).toArray, .agg (tr x y z).toArray] w fun e w' => e = .returned (.tuple #[V (tr (tX p x y z) (tY p x y z) (tm p 2 (tm p y z))), U (tR p x z)]) ∧ Below w.heap.size w w' := by
  have H0 : Hid (_ ∧ _) := ⟨Mm.nil w, Below.refl w.heap.size w⟩
  go_enter Try.func70, Try.ntmps70
  refine wp_seq ?_
  refine walk_seqA 4 [.made (kd p r c gx gy) 72, .made (tr x y z) 77, .made (tr 0 0 0) 77, .quiet (U 0)] (sB H0) ?ho1 ?he1
  case ho1 => exact ak (fun γ => ⟨rfl, fun w' => ex_boxT rfl rfl⟩) (ak (fun γ => ⟨rfl, fun w' => ex_boxT rfl rfl⟩) (ak (fun γ => ⟨rfl, fun w' => ex_made77 rfl⟩) (ak (fun _ => ⟨rfl, fun _ _ => rfl⟩) trivial)))
  intro γ w1 l hM hl
  have H1 : Hid (Mm w1 [(γ 0, kd p r c gx gy), (γ 1, tr x y z), (γ 2, tr 0 0 0)] ∧ _) := growB H0 hM (Nat.le_refl _) hl [0, 1, 2] rfl (by decide)
  have o1_0 := ownB H0 hM (Nat.le_refl _) hl (i := 0) rfl
  have o1_1 := ownB H0 hM (Nat.le_refl _) hl (i := 1) rfl
  have o1_2 := ownB H0 hM (Nat.le_refl _) hl (i := 2) rfl
  clear hM hl l
  generalize γ 0 = γ1_0 at H1 o1_0 ⊢
  generalize γ 1 = γ1_1 at H1 o1_1 ⊢
  generalize γ 2 = γ1_2 at H1 o1_2 ⊢
  clear γ
  refine rest0 rfl (then_normal (wp_seq ?_))
  refine walk_anyB 21 [.quiet (.agg (kd p r c gx gy).toArray), .quiet (PT γ1_1 0), .quiet (U x), .quiet (PT γ1_1 0), .quiet (U x), .call (U (tm p x x)), .quiet (.agg (kd p r c gx gy).toArray), .quiet (PT γ1_1 1), .quiet (U y), .quiet (PT γ1_1 1), .quiet (U y), .call (U (tm p y y)), .quiet (.agg (kd p r c gx gy).toArray), .quiet (PT γ1_1 2), .quiet (U z), .quiet (PT γ1_1 2), .quiet (U z), .call (U (tm p z z)), .quiet (U (tm p x x)), .quiet (U (tm p y y)), .quiet (U (tm p z z))] H1 ?ho2 ?he2
  case ho2 => exact ak (fun γ => ⟨rfl, fun w' h => ex_loadT h 0 rfl rfl rfl Try.isAgg72 Try.sizeOf72 rfl rfl⟩) (ak (by refine fun γ => ⟨rfl, fun w' h => ?_⟩; clear h; go_simp) (ak (fun γ => ⟨rfl, fun w' h => ex_loadC h 1 rfl rfl rfl Try.isAgg23 rfl⟩) (ak (by refine fun γ => ⟨rfl, fun w' h => ?_⟩; clear h; go_simp) (ak (fun γ => ⟨rfl, fun w' h => ex_loadC h 1 rfl rfl rfl Try.isAgg23 rfl⟩) (ak (fun γ => ⟨rfl, fun w' h => ⟨69, #[.agg (kd p r c gx gy).toArray, U x, U x], exec_call rfl call69 rfl (mpn rfl), times_any hp x x hx hx w'⟩⟩) (ak (fun γ => ⟨rfl, fun w' h => ex_loadT h 0 rfl rfl rfl Try.isAgg72 Try.sizeOf72 rfl rfl⟩) (ak (by refine fun γ => ⟨rfl, fun w' h => ?_⟩; clear h; go_simp) (ak (fun γ => ⟨rfl, fun w' h => ex_loadC h 1 rfl rfl rfl Try.isAgg23 rfl⟩) (ak (by refine fun γ => ⟨rfl, fun w' h => ?_⟩; clear h; go_simp) (ak (fun γ => ⟨rfl, fun w' h => ex_loadC h 1 rfl rfl rfl Try.isAgg23 rfl⟩) (ak (fun γ => ⟨rfl, fun w' h => ⟨69, #[.agg (kd p r c gx gy).toArray, U y, U y], exec_call rfl call69 rfl (mpn rfl), times_any hp y y hy hy w'⟩⟩) (ak (fun γ => ⟨rfl, fun w' h => ex_loadT h 0 rfl rfl rfl Try.isAgg72 Try.sizeOf72 rfl rfl⟩) (ak (by refine fun γ => ⟨rfl, fun w' h => ?_⟩; clear h; go_simp) (ak (fun γ => ⟨rfl, fun w' h => ex_loadC h 1 rfl rfl rfl Try.isAgg23 rfl⟩) (ak (by refine fun γ => ⟨rfl, fun w' h => ?_⟩; clear h; go_simp) (ak (fun γ => ⟨rfl, fun w' h => ex_loadC h 1 rfl rfl rfl Try.isAgg23 rfl⟩) (ak (fun γ => ⟨rfl, fun w' h => ⟨69, #[.agg (kd p r c gx gy).toArray, U z, U z], exec_call rfl call69 rfl (mpn rfl), times_any hp z z hz hz w'⟩⟩) (ak (fun _ => ⟨rfl, fun _ _ => rfl⟩) (ak (fun _ => ⟨rfl, fun _ _ => rfl⟩) (ak (fun _ => ⟨rfl, fun _ _ => rfl⟩) trivial))))))))))))))))))))
  intro _ w2 H2
  clear H1
  refine rest0 rfl (then_normal (wp_seq ?_))
  refine walk_anyB 12 [.quiet (.agg (kd p r c gx gy).toArray), .quiet (U (tm p x x)), .quiet (U (3 * (tm p x x))), .quiet (PT γ1_0 0), .quiet (U p), .quiet (U (tm p 3 (tm p x x))), .quiet (.agg (kd p r c gx gy).toArray), .quiet (U (tm p z z)), .quiet (U (tm p z z)), .call (U (tm p (tm p z z) (tm p z z))), .call (U (pl p (tm p 3 (tm p x x)) (tm p (tm p z z) (tm p z z)))), .quiet (U (pl p (tm p 3 (tm p x x)) (tm p (tm p z z) (tm p z z))))] H2 ?ho3 ?he3
  case ho3 => exact ak (fun γ => ⟨rfl, fun w' h => ex_loadT h 0 rfl rfl rfl Try.isAgg72 Try.sizeOf72 rfl rfl⟩) (ak (fun _ => ⟨rfl, fun _ _ => rfl⟩) (ak (fun γ => ⟨rfl, fun w' _ => ex_mulU (small_mul hp (by decide) (tm_lt hp)) rfl rfl rfl⟩) (ak (by refine fun γ => ⟨rfl, fun w' h => ?_⟩; clear h; go_simp) (ak (fun γ => ⟨rfl, fun w' h => ex_loadC h 0 rfl rfl rfl Try.isAgg23 rfl⟩) (ak (fun γ => ⟨rfl, fun w' _ => ex_remU (Nat.ne_of_gt (zero_lt hp)) rfl rfl rfl⟩) (ak (fun γ => ⟨rfl, fun w' h => ex_loadT h 0 rfl rfl rfl Try.isAgg72 Try.sizeOf72 rfl rfl⟩) (ak (fun _ => ⟨rfl, fun _ _ => rfl⟩) (ak (fun _ => ⟨rfl, fun _ _ => rfl⟩) (ak (fun γ => ⟨rfl, fun w' h => ⟨69, #[.agg (kd p r c gx gy).toArray, U (tm p z z), U (tm p z z)], exec_call rfl call69 rfl (mpn rfl), times_any hp (tm p z z) (tm p z z) (tm_lt hp) (tm_lt hp) w'⟩⟩) (ak (fun γ => ⟨rfl, fun w' h => ⟨71, #[.agg (kd p r c gx gy).toArray, U (tm p 3 (tm p x x)), U (tm p (tm p z z) (tm p z z))], exec_call rfl call71 rfl (mpn rfl), plus_any hp (tm p 3 (tm p x x)) (tm p (tm p z z) (tm p z z)) (tm_lt hp) (tm_lt hp) w'⟩⟩) (ak (fun _ => ⟨rfl, fun _ _ => rfl⟩) trivial)))))))))))
  intro _ w3 H3
  clear H2
  refine rest0 rfl (then_normal (wp_seq ?_))
  refine walk_anyB 10 [.quiet (.agg (kd p r c gx gy).toArray), .quiet (PT γ1_1 0), .quiet (U x), .quiet (U (tm p y y)), .call (U (tm p x (tm p y y))), .quiet (U (4 * (tm p x (tm p y y)))), .quiet (PT γ1_0 0), .quiet (U p), .quiet (U (tm p 4 (tm p x (tm p y y)))), .quiet (U (tm p 4 (tm p x (tm p y y))))] H3 ?ho4 ?he4
  case ho4 => exact ak (fun γ => ⟨rfl, fun w' h => ex_loadT h 0 rfl rfl rfl Try.isAgg72 Try.sizeOf72 rfl rfl⟩) (ak (by refine fun γ => ⟨rfl, fun w' h => ?_⟩; clear h; go_simp) (ak (fun γ => ⟨rfl, fun w' h => ex_loadC h 1 rfl rfl rfl Try.isAgg23 rfl⟩) (ak (fun _ => ⟨rfl, fun _ _ => rfl⟩) (ak (fun γ => ⟨rfl, fun w' h => ⟨69, #[.agg (kd p r c gx gy).toArray, U x, U (tm p y y)], exec_call rfl call69 rfl (mpn rfl), times_any hp x (tm p y y) hx (tm_lt hp) w'⟩⟩) (ak (fun γ => ⟨rfl, fun w' _ => ex_mulU (small_mul hp (by decide) (tm_lt hp)) rfl rfl rfl⟩) (ak (by refine fun γ => ⟨rfl, fun w' h => ?_⟩; clear h; go_simp) (ak (fun γ => ⟨rfl, fun w' h => ex_loadC h 0 rfl rfl rfl Try.isAgg23 rfl⟩) (ak (fun γ => ⟨rfl, fun w' _ => ex_remU (Nat.ne_of_gt (zero_lt hp)) rfl rfl rfl⟩) (ak (fun _ => ⟨rfl, fun _ _ => rfl⟩) trivial)))))))))
  intro _ w4 H4
  clear H3
  refine rest0 rfl (then_normal (wp_seq ?_))
  refine walk_anyB 11 [.quiet (.agg (kd p r c gx gy).toArray), .quiet (.agg (kd p r c gx gy).toArray), .quiet (U (pl p (tm p 3 (tm p x x)) (tm p (tm p z z) (tm p z z)))), .quiet (U (pl p (tm p 3 (tm p x x)) (tm p (tm p z z) (tm p z z)))), .call (U (tm p (pl p (tm p 3 (tm p x x)) (tm p (tm p z z) (tm p z z))) (pl p (tm p 3 (tm p x x)) (tm p (tm p z z) (tm p z z))))), .quiet (.agg (kd p r c gx gy).toArray), .quiet (U (tm p 4 (tm p x (tm p y y)))), .quiet (U (tm p 4 (tm p x (tm p y y)))), .call (U (pl p (tm p 4 (tm p x (tm p y y))) (tm p 4 (tm p x (tm p y y))))), .call (U (mi p (tm p (pl p (tm p 3 (tm p x x)) (tm p (tm p z z) (tm p z z))) (pl p (tm p 3 (tm p x x)) (tm p (tm p z z) (tm p z z)))) (pl p (tm p 4 (tm p x (tm p y y))) (tm p 4 (tm p x (tm p y y)))))), .quiet (U (mi p (tm p (pl p (tm p 3 (tm p x x)) (tm p (tm p z z) (tm p z z))) (pl p (tm p 3 (tm p x x)) (tm p (tm p z z) (tm p z z)))) (pl p (tm p 4 (tm p x (tm p y y))) (tm p 4 (tm p x (tm p y y))))))] H4 ?ho5 ?he5
  case ho5 => exact ak (fun γ => ⟨rfl, fun w' h => ex_loadT h 0 rfl rfl rfl Try.isAgg72 Try.sizeOf72 rfl rfl⟩) (ak (fun γ => ⟨rfl, fun w' h => ex_loadT h 0 rfl rfl rfl Try.isAgg72 Try.sizeOf72 rfl rfl⟩) (ak (fun _ => ⟨rfl, fun _ _ => rfl⟩) (ak (fun _ => ⟨rfl, fun _ _ => rfl⟩) (ak (fun γ => ⟨rfl, fun w' h => ⟨69, #[.agg (kd p r c gx gy).toArray, U (pl p (tm p 3 (tm p x x)) (tm p (tm p z z) (tm p z z))), U (pl p (tm p 3 (tm p x x)) (tm p (tm p z z) (tm p z z)))], exec_call rfl call69 rfl (mpn rfl), times_any hp (pl p (tm p 3 (tm p x x)) (tm p (tm p z z) (tm p z z))) (pl p (tm p 3 (tm p x x)) (tm p (tm p z z) (tm p z z))) (pl_lt hp) (pl_lt hp) w'⟩⟩) (ak (fun γ => ⟨rfl, fun w' h => ex_loadT h 0 rfl rfl rfl Try.isAgg72 Try.sizeOf72 rfl rfl⟩) (ak (fun _ => ⟨rfl, fun _ _ => rfl⟩) (ak (fun _ => ⟨rfl, fun _ _ => rfl⟩) (ak (fun γ => ⟨rfl, fun w' h => ⟨71, #[.agg (kd p r c gx gy).toArray, U (tm p 4 (tm p x (tm p y y))), U (tm p 4 (tm p x (tm p y y)))], exec_call rfl call71 rfl (mpn rfl), plus_any hp (tm p 4 (tm p x (tm p y y))) (tm p 4 (tm p x (tm p y y))) (tm_lt hp) (tm_lt hp) w'⟩⟩) (ak (fun γ => ⟨rfl, fun w' h => ⟨48, #[.agg (kd p r c gx gy).toArray, U (tm p (pl p (tm p 3 (tm p x x)) (tm p (tm p z z) (tm p z z))) (pl p (tm p 3 (tm p x x)) (tm p (tm p z z) (tm p z z)))), U (pl p (tm p 4 (tm p x (tm p y y))) (tm p 4 (tm p x (tm p y y))))], exec_call rfl call48 rfl (mpn rfl), minus_any hp (tm p (pl p (tm p 3 (tm p x x)) (tm p (tm p z z) (tm p z z))) (pl p (tm p 3 (tm p x x)) (tm p (tm p z z) (tm p z z)))) (pl p (tm p 4 (tm p x (tm p y y))) (tm p 4 (tm p x (tm p y y)))) (tm_lt hp) (pl_lt hp) w'⟩⟩) (ak (fun _ => ⟨rfl, fun _ _ => rfl⟩) trivial))))))))))
  intro _ w5 H5
  clear H4
  refine rest0 rfl (then_normal (wp_seq ?_))
  refine walk_put (by kernel_rfl) 30 [29] [.quiet (U (mi p (tm p (pl p (tm p 3 (tm p x x)) (tm p (tm p z z) (tm p z z))) (pl p (tm p 3 (tm p x x)) (tm p (tm p z z) (tm p z z)))) (pl p (tm p 4 (tm p x (tm p y y))) (tm p 4 (tm p x (tm p y y)))))), .quiet (.agg (kd p r c gx gy).toArray), .quiet (.agg (kd p r c gx gy).toArray), .quiet (U (pl p (tm p 3 (tm p x x)) (tm p (tm p z z) (tm p z z)))), .quiet (.agg (kd p r c gx gy).toArray), .quiet (U (tm p 4 (tm p x (tm p y y)))), .quiet (U (mi p (tm p (pl p (tm p 3 (tm p x x)) (tm p (tm p z z) (tm p z z))) (pl p (tm p 3 (tm p x x)) (tm p (tm p z z) (tm p z z)))) (pl p (tm p 4 (tm p x (tm p y y))) (tm p 4 (tm p x (tm p y y)))))), .call (U (mi p (tm p 4 (tm p x (tm p y y))) (mi p (tm p (pl p (tm p 3 (tm p x x)) (tm p (tm p z z) (tm p z z))) (pl p (tm p 3 (tm p x x)) (tm p (tm p z z) (tm p z z)))) (pl p (tm p 4 (tm p x (tm p y y))) (tm p 4 (tm p x (tm p y y))))))), .call (U (tm p (pl p (tm p 3 (tm p x x)) (tm p (tm p z z) (tm p z z))) (mi p (tm p 4 (tm p x (tm p y y))) (mi p (tm p (pl p (tm p 3 (tm p x x)) (tm p (tm p z z) (tm p z z))) (pl p (tm p 3 (tm p x x)) (tm p (tm p z z) (tm p z z)))) (pl p (tm p 4 (tm p x (tm p y y))) (tm p 4 (tm p x (tm p y y)))))))), .quiet (.agg (kd p r c gx gy).toArray), .quiet (U (tm p y y)), .quiet (U (tm p y y)), .call (U (tm p (tm p y y) (tm p y y))), .quiet (U (8 * (tm p (tm p y y) (tm p y y)))), .quiet (PT γ1_0 0), .quiet (U p), .quiet (U (tm p 8 (tm p (tm p y y) (tm p y y)))), .call (U (mi p (tm p (pl p (tm p 3 (tm p x x)) (tm p (tm p z z) (tm p z z))) (mi p (tm p 4 (tm p x (tm p y y))) (mi p (tm p (pl p (tm p 3 (tm p x x)) (tm p (tm p z z) (tm p z z))) (pl p (tm p 3 (tm p x x)) (tm p (tm p z z) (tm p z z)))) (pl p (tm p 4 (tm p x (tm p y y))) (tm p 4 (tm p x (tm p y y))))))) (tm p 8 (tm p (tm p y y) (tm p y y))))), .quiet (.agg (kd p r c gx gy).toArray), .quiet (PT γ1_1 1), .quiet (U y), .quiet (PT γ1_1 2), .quiet (U z), .call (U (tm p y z)), .quiet (U (2 * (tm p y z))), .quiet (PT γ1_0 0), .quiet (U p), .quiet (U (tm p 2 (tm p y z))), .quiet (.agg (tr (mi p (tm p (pl p (tm p 3 (tm p x x)) (tm p (tm p z z) (tm p z z))) (pl p (tm p 3 (tm p x x)) (tm p (tm p z z) (tm p z z)))) (pl p (tm p 4 (tm p x (tm p y y))) (tm p 4 (tm p x (tm p y y))))) (mi p (tm p (pl p (tm p 3 (tm p x x)) (tm p (tm p z z) (tm p z z))) (mi p (tm p 4 (tm p x (tm p y y))) (mi p (tm p (pl p (tm p 3 (tm p x x)) (tm p (tm p z z) (tm p z z))) (pl p (tm p 3 (tm p x x)) (tm p (tm p z z) (tm p z z)))) (pl p (tm p 4 (tm p x (tm p y y))) (tm p 4 (tm p x (tm p y y))))))) (tm p 8 (tm p (tm p y y) (tm p y y)))) (tm p 2 (tm p y z))).toArray), .quiet (U (pl p (tm p 3 (tm p x x)) (tm p (tm p z z) (tm p z z))))] _ ?pre6 ?F6 _ ?hpre6 (fun γ => ?hF6) (by kernel_rfl) rfl ?hL6 (sB H5) ?ho6 ?hla6 ?he6
  case hpre6 => simp only [tk, tz]; rfl
  case hF6 => simp only [fill, Kind.val, Act.put, sa, sz, ss]; rfl
  case hL6 => exact trivial
  case ho6 =>
    refine ak (fun _ => ⟨rfl, fun _ _ => rfl⟩) ?_
    refine ak (fun γ => ⟨rfl, fun w' h => ex_loadT h 0 rfl rfl rfl Try.isAgg72 Try.sizeOf72 rfl rfl⟩) ?_
    refine ak (fun γ => ⟨rfl, fun w' h => ex_loadT h 0 rfl rfl rfl Try.isAgg72 Try.sizeOf72 rfl rfl⟩) ?_
    refine ak (fun _ => ⟨rfl, fun _ _ => rfl⟩) ?_
    refine ak (fun γ => ⟨rfl, fun w' h => ex_loadT h 0 rfl rfl rfl Try.isAgg72 Try.sizeOf72 rfl rfl⟩) ?_
    refine ak (fun _ => ⟨rfl, fun _ _ => rfl⟩) ?_
    refine ak (fun _ => ⟨rfl, fun _ _ => rfl⟩) ?_
    refine ak (fun γ => ⟨rfl, fun w' h => ⟨48, #[.agg (kd p r c gx gy).toArray, U (tm p 4 (tm p x (tm p y y))), U (mi p (tm p (pl p (tm p 3 (tm p x x)) (tm p (tm p z z) (tm p z z))) (pl p (tm p 3 (tm p x x)) (tm p (tm p z z) (tm p z z)))) (pl p (tm p 4 (tm p x (tm p y y))) (tm p 4 (tm p x (tm p y y)))))], exec_call rfl call48 rfl (mpn rfl), minus_any hp (tm p 4 (tm p x (tm p y y))) (mi p (tm p (pl p (tm p 3 (tm p x x)) (tm p (tm p z z) (tm p z z))) (pl p (tm p 3 (tm p x x)) (tm p (tm p z z) (tm p z z)))) (pl p (tm p 4 (tm p x (tm p y y))) (tm p 4 (tm p x (tm p y y))))) (tm_lt hp) (mi_lt hp) w'⟩⟩) ?_
    refine ak (fun γ => ⟨rfl, fun w' h => ⟨69, #[.agg (kd p r c gx gy).toArray, U (pl p (tm p 3 (tm p x x)) (tm p (tm p z z) (tm p z z))), U (mi p (tm p 4 (tm p x (tm p y y))) (mi p (tm p (pl p (tm p 3 (tm p x x)) (tm p (tm p z z) (tm p z z))) (pl p (tm p 3 (tm p x x)) (tm p (tm p z z) (tm p z z)))) (pl p (tm p 4 (tm p x (tm p y y))) (tm p 4 (tm p x (tm p y y))))))], exec_call rfl call69 rfl (mpn rfl), times_any hp (pl p (tm p 3 (tm p x x)) (tm p (tm p z z) (tm p z z))) (mi p (tm p 4 (tm p x (tm p y y))) (mi p (tm p (pl p (tm p 3 (tm p x x)) (tm p (tm p z z) (tm p z z))) (pl p (tm p 3 (tm p x x)) (tm p (tm p z z) (tm p z z)))) (pl p (tm p 4 (tm p x (tm p y y))) (tm p 4 (tm p x (tm p y y)))))) (pl_lt hp) (mi_lt hp) w'⟩⟩) ?_
    refine ak (fun γ => ⟨rfl, fun w' h => ex_loadT h 0 rfl rfl rfl Try.isAgg72 Try.sizeOf72 rfl rfl⟩) ?_
    refine ak (fun _ => ⟨rfl, fun _ _ => rfl⟩) ?_
    refine ak (fun _ => ⟨rfl, fun _ _ => rfl⟩) ?_
    refine ak (fun γ => ⟨rfl, fun w' h => ⟨69, #[.agg (kd p r c gx gy).toArray, U (tm p y y), U (tm p y y)], exec_call rfl call69 rfl (mpn rfl), times_any hp (tm p y y) (tm p y y) (tm_lt hp) (tm_lt hp) w'⟩⟩) ?_
    refine ak (fun γ => ⟨rfl, fun w' _ => ex_mulU (small_mul hp (by decide) (tm_lt hp)) rfl rfl rfl⟩) ?_
    refine ak (by refine fun γ => ⟨rfl, fun w' h => ?_⟩; clear h; go_simp) ?_
    refine ak (fun γ => ⟨rfl, fun w' h => ex_loadC h 0 rfl rfl rfl Try.isAgg23 rfl⟩) ?_
    refine ak (fun γ => ⟨rfl, fun w' _ => ex_remU (Nat.ne_of_gt (zero_lt hp)) rfl rfl rfl⟩) ?_
    refine ak (fun γ => ⟨rfl, fun w' h => ⟨48, #[.agg (kd p r c gx gy).toArray, U (tm p (pl p (tm p 3 (tm p x x)) (tm p (tm p z z) (tm p z z))) (mi p (tm p 4 (tm p x (tm p y y))) (mi p (tm p (pl p (tm p 3 (tm p x x)) (tm p (tm p z z) (tm p z z))) (pl p (tm p 3 (tm p x x)) (tm p (tm p z z) (tm p z z)))) (pl p (tm p 4 (tm p x (tm p y y))) (tm p 4 (tm p x (tm p y y))))))), U (tm p 8 (tm p (tm p y y) (tm p y y)))], exec_call rfl call48 rfl (mpn rfl), minus_any hp (tm p (pl p (tm p 3 (tm p x x)) (tm p (tm p z z) (tm p z z))) (mi p (tm p 4 (tm p x (tm p y y))) (mi p (tm p (pl p (tm p 3 (tm p x x)) (tm p (tm p z z) (tm p z z))) (pl p (tm p 3 (tm p x x)) (tm p (tm p z z) (tm p z z)))) (pl p (tm p 4 (tm p x (tm p y y))) (tm p 4 (tm p x (tm p y y))))))) (tm p 8 (tm p (tm p y y) (tm p y y))) (tm_lt hp) (tm_lt hp) w'⟩⟩) ?_
    refine ak (fun γ => ⟨rfl, fun w' h => ex_loadT h 0 rfl rfl rfl Try.isAgg72 Try.sizeOf72 rfl rfl⟩) ?_
    refine ak (by refine fun γ => ⟨rfl, fun w' h => ?_⟩; clear h; go_simp) ?_
    refine ak (fun γ => ⟨rfl, fun w' h => ex_loadC h 1 rfl rfl rfl Try.isAgg23 rfl⟩) ?_
    refine ak (by refine fun γ => ⟨rfl, fun w' h => ?_⟩; clear h; go_simp) ?_
    refine ak (fun γ => ⟨rfl, fun w' h => ex_loadC h 1 rfl rfl rfl Try.isAgg23 rfl⟩) ?_
    refine ak (fun γ => ⟨rfl, fun w' h => ⟨69, #[.agg (kd p r c gx gy).toArray, U y, U z], exec_call rfl call69 rfl (mpn rfl), times_any hp y z hy hz w'⟩⟩) ?_
    refine ak (fun γ => ⟨rfl, fun w' _ => ex_mulU (small_mul hp (by decide) (tm_lt hp)) rfl rfl rfl⟩) ?_
    refine ak (by refine fun γ => ⟨rfl, fun w' h => ?_⟩; clear h; go_simp) ?_
    refine ak (fun γ => ⟨rfl, fun w' h => ex_loadC h 0 rfl rfl rfl Try.isAgg23 rfl⟩) ?_
    refine ak (fun γ => ⟨rfl, fun w' _ => ex_remU (Nat.ne_of_gt (zero_lt hp)) rfl rfl rfl⟩) ?_
    refine ak (fun γ => ⟨rfl, fun w' _ => ex_build77_012 rfl rfl rfl rfl⟩) ?_
    refine ak (fun _ => ⟨rfl, fun _ _ => rfl⟩) ?_
    exact trivial
  case hla6 => exact ⟨⟨_, _, rfl, rfl, fun γ => ⟨rfl, fun w' => by first | rfl | go_simp⟩⟩, trivial⟩
  intro γ w6 l hM hl
  have H6 := keepB H5 hM.below
  clear hM hl l H5 γ
  refine ⟨_, ex_storeT (vs := tr (mi p (tm p (pl p (tm p 3 (tm p x x)) (tm p (tm p z z) (tm p z z))) (pl p (tm p 3 (tm p x x)) (tm p (tm p z z) (tm p z z)))) (pl p (tm p 4 (tm p x (tm p y y))) (tm p 4 (tm p x (tm p y y))))) (mi p (tm p (pl p (tm p 3 (tm p x x)) (tm p (tm p z z) (tm p z z))) (mi p (tm p 4 (tm p x (tm p y y))) (mi p (tm p (pl p (tm p 3 (tm p x x)) (tm p (tm p z z) (tm p z z))) (pl p (tm p 3 (tm p x x)) (tm p (tm p z z) (tm p z z)))) (pl p (tm p 4 (tm p x (tm p y y))) (tm p 4 (tm p x (tm p y y))))))) (tm p 8 (tm p (tm p y y) (tm p y y)))) (tm p 2 (tm p y z))) H6.out.1 2 rfl rfl rfl rfl Try.sizeOf77 rfl (Nat.le_of_ble_eq_true rfl), ?_⟩
  have H7 : Hid (Mm (w6.setCells γ1_2 0 (tr (mi p (tm p (pl p (tm p 3 (tm p x x)) (tm p (tm p z z) (tm p z z))) (pl p (tm p 3 (tm p x x)) (tm p (tm p z z) (tm p z z)))) (pl p (tm p 4 (tm p x (tm p y y))) (tm p 4 (tm p x (tm p y y))))) (mi p (tm p (pl p (tm p 3 (tm p x x)) (tm p (tm p z z) (tm p z z))) (mi p (tm p 4 (tm p x (tm p y y))) (mi p (tm p (pl p (tm p 3 (tm p x x)) (tm p (tm p z z) (tm p z z))) (pl p (tm p 3 (tm p x x)) (tm p (tm p z z) (tm p z z)))) (pl p (tm p 4 (tm p x (tm p y y))) (tm p 4 (tm p x (tm p y y))))))) (tm p 8 (tm p (tm p y y) (tm p y y)))) (tm p 2 (tm p y z)))) [(γ1_0, kd p r c gx gy), (γ1_1, tr x y z), (γ1_2, tr (mi p (tm p (pl p (tm p 3 (tm p x x)) (tm p (tm p z z) (tm p z z))) (pl p (tm p 3 (tm p x x)) (tm p (tm p z z) (tm p z z)))) (pl p (tm p 4 (tm p x (tm p y y))) (tm p 4 (tm p x (tm p y y))))) (mi p (tm p (pl p (tm p 3 (tm p x x)) (tm p (tm p z z) (tm p z z))) (mi p (tm p 4 (tm p x (tm p y y))) (mi p (tm p (pl p (tm p 3 (tm p x x)) (tm p (tm p z z) (tm p z z))) (pl p (tm p 3 (tm p x x)) (tm p (tm p z z) (tm p z z)))) (pl p (tm p 4 (tm p x (tm p y y))) (tm p 4 (tm p x (tm p y y))))))) (tm p 8 (tm p (tm p y y) (tm p y y)))) (tm p 2 (tm p y z)))] ∧ Below w.heap.size w (w6.setCells γ1_2 0 (tr (mi p (tm p (pl p (tm p 3 (tm p x x)) (tm p (tm p z z) (tm p z z))) (pl p (tm p 3 (tm p x x)) (tm p (tm p z z) (tm p z z)))) (pl p (tm p 4 (tm p x (tm p y y))) (tm p 4 (tm p x (tm p y y))))) (mi p (tm p (pl p (tm p 3 (tm p x x)) (tm p (tm p z z) (tm p z z))) (mi p (tm p 4 (tm p x (tm p y y))) (mi p (tm p (pl p (tm p 3 (tm p x x)) (tm p (tm p z z) (tm p z z))) (pl p (tm p 3 (tm p x x)) (tm p (tm p z z) (tm p z z)))) (pl p (tm p 4 (tm p x (tm p y y))) (tm p 4 (tm p x (tm p y y))))))) (tm p 8 (tm p (tm p y y) (tm p y y)))) (tm p 2 (tm p y z))))) := ⟨H6.out.1.put 2 (off := 0) (vs := tr (mi p (tm p (pl p (tm p 3 (tm p x x)) (tm p (tm p z z) (tm p z z))) (pl p (tm p 3 (tm p x x)) (tm p (tm p z z) (tm p z z)))) (pl p (tm p 4 (tm p x (tm p y y))) (tm p 4 (tm p x (tm p y y))))) (mi p (tm p (pl p (tm p 3 (tm p x x)) (tm p (tm p z z) (tm p z z))) (mi p (tm p 4 (tm p x (tm p y y))) (mi p (tm p (pl p (tm p 3 (tm p x x)) (tm p (tm p z z) (tm p z z))) (pl p (tm p 3 (tm p x x)) (tm p (tm p z z) (tm p z z)))) (pl p (tm p 4 (tm p x (tm p y y))) (tm p 4 (tm p x (tm p y y))))))) (tm p 8 (tm p (tm p y y) (tm p y y)))) (tm p 2 (tm p y z))) rfl (Nat.le_of_ble_eq_true rfl), below_setCells _ o1_2.out _ _ _ H6.out.2⟩
  clear H6
  generalize hgw : World.setCells _ _ _ _ = w7 at H7 ⊢
  clear hgw
  refine rest_at (l := [31]) rfl ?_
  refine rest_set (d := 5) rfl rfl rfl rfl ?_
  simp only [Act.put, sa, sz, ss]
  refine rest_nil (then_normal (wp_ret ?_))
  repeat (first | refine then_ret ?_ | refine block_ret ?_)
  have hf0 := var_T H7.out.1 2 rfl Try.isAgg77 Try.sizeOf77 rfl
  refine bodyPost_ret (v := .tuple #[.agg (tr (mi p (tm p (pl p (tm p 3 (tm p x x)) (tm p (tm p z z) (tm p z z))) (pl p (tm p 3 (tm p x x)) (tm p (tm p z z) (tm p z z)))) (pl p (tm p 4 (tm p x (tm p y y))) (tm p 4 (tm p x (tm p y y))))) (mi p (tm p (pl p (tm p 3 (tm p x x)) (tm p (tm p z z) (tm p z z))) (mi p (tm p 4 (tm p x (tm p y y))) (mi p (tm p (pl p (tm p 3 (tm p x x)) (tm p (tm p z z) (tm p z z))) (pl p (tm p 3 (tm p x x)) (tm p (tm p z z) (tm p z z)))) (pl p (tm p 4 (tm p x (tm p y y))) (tm p 4 (tm p x (tm p y y))))))) (tm p 8 (tm p (tm p y y) (tm p y y)))) (tm p 2 (tm p y z))).toArray, U (pl p (tm p 3 (tm p x x)) (tm p (tm p z z) (tm p z z)))]) (by simp [results, Try.results70, asAddr, Act.eval, hf0]) rfl ?_
  exact ⟨rfl, H7.out.2⟩
theorem twice_any (hp : Pr p) (t : T3) (ht : Lt3 p t) (w : World) : Calls Try.prog 70 #[.agg (kd p r c gx gy).toArray, .agg (tr t.1 t.2.1 t.2.2).toArray] w fun e w' => e = .returned (.tuple #[V (tc (twT p t)), U (tR p t.1 t.2.2)]) ∧ Below w.heap.size w w' :=
  twice_raw hp t.1 t.2.1 t.2.2 ht.x ht.y ht.z w
set_option maxRecDepth 100000 in
theorem joined_z (x y z X Y : Nat) (w : World) :
    Calls Try.prog 44 #[.agg (kd p r c gx gy).toArray, .agg (tr x y z).toArray, .agg (pt X Y true).toArray] w fun e w' => e = .returned (.tuple #[V (tr x y z), U 0]) ∧ Below w.heap.size w w' := by
  have H0 : Hid (_ ∧ _) := ⟨Mm.nil w, Below.refl w.heap.size w⟩
  go_enter Try.func44, Try.ntmps44
  refine wp_seq ?_
  refine walk_seqA 5 [.made (kd p r c gx gy) 72, .made (tr x y z) 77, .made (pt X Y true) 25, .made (tr 0 0 0) 77, .quiet (U 0)] (sB H0) ?ho1 ?he1
  case ho1 => exact ak (fun γ => ⟨rfl, fun w' => ex_boxT rfl rfl⟩) (ak (fun γ => ⟨rfl, fun w' => ex_boxT rfl rfl⟩) (ak (fun γ => ⟨rfl, fun w' => ex_boxT rfl rfl⟩) (ak (fun γ => ⟨rfl, fun w' => ex_made77 rfl⟩) (ak (fun _ => ⟨rfl, fun _ _ => rfl⟩) trivial))))
  intro γ w1 l hM hl
  have H1 : Hid (Mm w1 [(γ 0, kd p r c gx gy), (γ 1, tr x y z), (γ 2, pt X Y true), (γ 3, tr 0 0 0)] ∧ _) := growB H0 hM (Nat.le_refl _) hl [0, 1, 2, 3] rfl (by decide)
  have o1_0 := ownB H0 hM (Nat.le_refl _) hl (i := 0) rfl
  have o1_1 := ownB H0 hM (Nat.le_refl _) hl (i := 1) rfl
  have o1_2 := ownB H0 hM (Nat.le_refl _) hl (i := 2) rfl
  have o1_3 := ownB H0 hM (Nat.le_refl _) hl (i := 3) rfl
  clear hM hl l
  generalize γ 0 = γ1_0 at H1 o1_0 ⊢
  generalize γ 1 = γ1_1 at H1 o1_1 ⊢
  generalize γ 2 = γ1_2 at H1 o1_2 ⊢
  generalize γ 3 = γ1_3 at H1 o1_3 ⊢
  clear γ
  refine rest0 rfl (then_normal (wp_seq (wp_seq ?_)))
  refine walk_seqB 2 [.quiet (PT γ1_2 2), .quiet (.bool true)] H1 ?ho2 ?he2
  case ho2 => exact ak (by refine fun γ => ⟨rfl, fun w' h => ?_⟩; clear h; go_simp) (ak (fun γ => ⟨rfl, fun w' h => ex_loadC h 2 rfl rfl rfl Try.isAgg4 rfl⟩) trivial)
  intro _ w2 H2
  clear H1
  refine rest0 rfl (then_normal (wp_cond_true rfl (wp_seq ?_)))
  refine walk_seqB 1 [.quiet (.agg (tr x y z).toArray)] H2 ?ho3 ?he3
  case ho3 => exact ak (fun γ => ⟨rfl, fun w' h => ex_loadT h 1 rfl rfl rfl Try.isAgg77 Try.sizeOf77 rfl rfl⟩) trivial
  intro _ w3 H3
  clear H2
  refine rest_at (l := [1, 2]) rfl ?_
  refine rest_store rfl rfl rfl (ex_storeT (vs := tr x y z) H3.out.1 3 rfl rfl rfl rfl Try.sizeOf77 rfl (Nat.le_of_ble_eq_true rfl)) ?_
  have H4 : Hid (Mm (w3.setCells γ1_3 0 (tr x y z)) [(γ1_0, kd p r c gx gy), (γ1_1, tr x y z), (γ1_2, pt X Y true), (γ1_3, tr x y z)] ∧ Below w.heap.size w (w3.setCells γ1_3 0 (tr x y z))) := ⟨H3.out.1.put 3 (off := 0) (vs := tr x y z) rfl (Nat.le_of_ble_eq_true rfl), below_setCells _ o1_3.out _ _ _ H3.out.2⟩
  clear H3
  generalize hgw : World.setCells _ _ _ _ = w4 at H4 ⊢
  clear hgw
  refine rest_set (d := 7) rfl rfl rfl rfl ?_
  simp only [Act.put, sa, sz, ss]
  refine rest_nil (then_normal (wp_ret ?_))
  repeat (first | refine then_ret ?_ | refine block_ret ?_)
  have hf0 := var_T H4.out.1 3 rfl Try.isAgg77 Try.sizeOf77 rfl
  refine bodyPost_ret (v := .tuple #[.agg (tr x y z).toArray, U 0]) (by simp [results, Try.results44, asAddr, Act.eval, hf0]) rfl ?_
  exact ⟨rfl, H4.out.2⟩
set_option maxRecDepth 100000 in
theorem joined_0 (x y z X Y : Nat) (h : z = 0) (w : World) :
    Calls Try.prog 44 #[.agg (kd p r c gx gy).toArray, .agg (tr x y z).toArray, .agg (pt X Y false).toArray] w fun e w' => e = .returned (.tuple #[V (tr X Y 1), U 0]) ∧ Below w.heap.size w w' := by
  have H0 : Hid (_ ∧ _) := ⟨Mm.nil w, Below.refl w.heap.size w⟩
  go_enter Try.func44, Try.ntmps44
  refine wp_seq ?_
  refine walk_seqA 5 [.made (kd p r c gx gy) 72, .made (tr x y z) 77, .made (pt X Y false) 25, .made (tr 0 0 0) 77, .quiet (U 0)] (sB H0) ?ho1 ?he1
  case ho1 => exact ak (fun γ => ⟨rfl, fun w' => ex_boxT rfl rfl⟩) (ak (fun γ => ⟨rfl, fun w' => ex_boxT rfl rfl⟩) (ak (fun γ => ⟨rfl, fun w' => ex_boxT rfl rfl⟩) (ak (fun γ => ⟨rfl, fun w' => ex_made77 rfl⟩) (ak (fun _ => ⟨rfl, fun _ _ => rfl⟩) trivial))))
  intro γ w1 l hM hl
  have H1 : Hid (Mm w1 [(γ 0, kd p r c gx gy), (γ 1, tr x y z), (γ 2, pt X Y false), (γ 3, tr 0 0 0)] ∧ _) := growB H0 hM (Nat.le_refl _) hl [0, 1, 2, 3] rfl (by decide)
  have o1_0 := ownB H0 hM (Nat.le_refl _) hl (i := 0) rfl
  have o1_1 := ownB H0 hM (Nat.le_refl _) hl (i := 1) rfl
  have o1_2 := ownB H0 hM (Nat.le_refl _) hl (i := 2) rfl
  have o1_3 := ownB H0 hM (Nat.le_refl _) hl (i := 3) rfl
  clear hM hl l
  generalize γ 0 = γ1_0 at H1 o1_0 ⊢
  generalize γ 1 = γ1_1 at H1 o1_1 ⊢
  generalize γ 2 = γ1_2 at H1 o1_2 ⊢
  generalize γ 3 = γ1_3 at H1 o1_3 ⊢
  clear γ
  refine rest0 rfl (then_normal (wp_seq (wp_seq ?_)))
  refine walk_seqB 2 [.quiet (PT γ1_2 2), .quiet (.bool false)] H1 ?ho2 ?he2
  case ho2 => exact ak (by refine fun γ => ⟨rfl, fun w' h => ?_⟩; clear h; go_simp) (ak (fun γ => ⟨rfl, fun w' h => ex_loadC h 2 rfl rfl rfl Try.isAgg4 rfl⟩) trivial)
  intro _ w2 H2
  clear H1
  refine rest0 rfl (then_normal (wp_cond_false rfl ?_))
  refine wp_skip (then_normal ?_)
  refine wp_seq (wp_seq ?_)
  refine walk_seqB 3 [.quiet (PT γ1_1 2), .quiet (U z), .quiet (.bool true)] H2 ?ho3 ?he3
  case ho3 => exact ak (by refine fun γ => ⟨rfl, fun w' h => ?_⟩; clear h; go_simp) (ak (fun γ => ⟨rfl, fun w' h => ex_loadC h 1 rfl rfl rfl Try.isAgg23 rfl⟩) (ak (fun γ => ⟨rfl, fun w' _ => ex_eqU rfl rfl rfl (decide_eq_true (h))⟩) trivial))
  intro _ w3 H3
  clear H2
  refine rest0 rfl (then_normal (wp_cond_true rfl (wp_seq ?_)))
  refine walk_seqB 2 [.quiet (.agg (pt X Y false).toArray), .call (.agg (tr X Y 1).toArray)] H3 ?ho4 ?he4
  case ho4 => exact ak (fun γ => ⟨rfl, fun w' h => ex_loadT h 2 rfl rfl rfl Try.isAgg25 Try.sizeOf25 rfl rfl⟩) (ak (fun γ => ⟨rfl, fun w' h => ⟨45, #[.agg (pt X Y false).toArray], exec_call rfl call45 rfl (mpn rfl), tripleOf_f X Y w'⟩⟩) trivial)
  intro _ w4 H4
  clear H3
  refine rest_at (l := [2, 3]) rfl ?_
  refine rest_store rfl rfl rfl (ex_storeT (vs := tr X Y 1) H4.out.1 3 rfl rfl rfl rfl Try.sizeOf77 rfl (Nat.le_of_ble_eq_true rfl)) ?_
  have H5 : Hid (Mm (w4.setCells γ1_3 0 (tr X Y 1)) [(γ1_0, kd p r c gx gy), (γ1_1, tr x y z), (γ1_2, pt X Y false), (γ1_3, tr X Y 1)] ∧ Below w.heap.size w (w4.setCells γ1_3 0 (tr X Y 1))) := ⟨H4.out.1.put 3 (off := 0) (vs := tr X Y 1) rfl (Nat.le_of_ble_eq_true rfl), below_setCells _ o1_3.out _ _ _ H4.out.2⟩
  clear H4
  generalize hgw : World.setCells _ _ _ _ = w5 at H5 ⊢
  clear hgw
  refine rest_set (d := 7) rfl rfl rfl rfl ?_
  simp only [Act.put, sa, sz, ss]
  refine rest_nil (then_normal (wp_ret ?_))
  repeat (first | refine then_ret ?_ | refine block_ret ?_)
  have hf0 := var_T H5.out.1 3 rfl Try.isAgg77 Try.sizeOf77 rfl
  refine bodyPost_ret (v := .tuple #[.agg (tr X Y 1).toArray, U 0]) (by simp [results, Try.results44, asAddr, Act.eval, hf0]) rfl ?_
  exact ⟨rfl, H5.out.2⟩
set_option maxHeartbeats 1000000 in
set_option maxRecDepth 100000 in
theorem joined_same (hp : Pr p) (x y z : Nat) (hx : x < p) (hy : y < p) (hz : z < p) (X Y : Nat) (hX : X < p) (hY : Y < p) (h : z ≠ 0) (h1 : jU p x z X = 0) (h2 : jS p y z Y = 0) (w : World) :
    Calls Try.prog 44 #[.agg (kd p r c gx gy).toArray, .agg (tr x y z).toArray, .agg (pt X Y false).toArray] w fun e w' => e = .returned (.tuple #[V (tr (tX p x y z) (tY p x y z) (tm p 2 (tm p y z))), U (tR p x z)]) ∧ Below w.heap.size w w' := by
  have H0 : Hid (_ ∧ _) := ⟨Mm.nil w, Below.refl w.heap.size w⟩
  go_enter Try.func44, Try.ntmps44
  refine wp_seq ?_
  refine walk_seqA 5 [.made (kd p r c gx gy) 72, .made (tr x y z) 77, .made (pt X Y false) 25, .made (tr 0 0 0) 77, .quiet (U 0)] (sB H0) ?ho1 ?he1
  case ho1 => exact ak (fun γ => ⟨rfl, fun w' => ex_boxT rfl rfl⟩) (ak (fun γ => ⟨rfl, fun w' => ex_boxT rfl rfl⟩) (ak (fun γ => ⟨rfl, fun w' => ex_boxT rfl rfl⟩) (ak (fun γ => ⟨rfl, fun w' => ex_made77 rfl⟩) (ak (fun _ => ⟨rfl, fun _ _ => rfl⟩) trivial))))
  intro γ w1 l hM hl
  have H1 : Hid (Mm w1 [(γ 0, kd p r c gx gy), (γ 1, tr x y z), (γ 2, pt X Y false), (γ 3, tr 0 0 0)] ∧ _) := growB H0 hM (Nat.le_refl _) hl [0, 1, 2, 3] rfl (by decide)
  have o1_0 := ownB H0 hM (Nat.le_refl _) hl (i := 0) rfl
  have o1_1 := ownB H0 hM (Nat.le_refl _) hl (i := 1) rfl
  have o1_2 := ownB H0 hM (Nat.le_refl _) hl (i := 2) rfl
  have o1_3 := ownB H0 hM (Nat.le_refl _) hl (i := 3) rfl
  clear hM hl l
  generalize γ 0 = γ1_0 at H1 o1_0 ⊢
  generalize γ 1 = γ1_1 at H1 o1_1 ⊢
  generalize γ 2 = γ1_2 at H1 o1_2 ⊢
  generalize γ 3 = γ1_3 at H1 o1_3 ⊢
  clear γ
  refine rest0 rfl (then_normal (wp_seq (wp_seq ?_)))
  refine walk_seqB 2 [.quiet (PT γ1_2 2), .quiet (.bool false)] H1 ?ho2 ?he2
  case ho2 => exact ak (by refine fun γ => ⟨rfl, fun w' h => ?_⟩; clear h; go_simp) (ak (fun γ => ⟨rfl, fun w' h => ex_loadC h 2 rfl rfl rfl Try.isAgg4 rfl⟩) trivial)
  intro _ w2 H2
  clear H1
  refine rest0 rfl (then_normal (wp_cond_false rfl ?_))
  refine wp_skip (then_normal ?_)
  refine wp_seq (wp_seq ?_)
  refine walk_seqB 3 [.quiet (PT γ1_1 2), .quiet (U z), .quiet (.bool false)] H2 ?ho3 ?he3
  case ho3 => exact ak (by refine fun γ => ⟨rfl, fun w' h => ?_⟩; clear h; go_simp) (ak (fun γ => ⟨rfl, fun w' h => ex_loadC h 1 rfl rfl rfl Try.isAgg23 rfl⟩) (ak (fun γ => ⟨rfl, fun w' _ => ex_eqU rfl rfl rfl (decide_eq_false (h))⟩) trivial))
  intro _ w3 H3
  clear H2
  refine rest0 rfl (then_normal (wp_cond_false rfl ?_))
  refine wp_skip (then_normal (wp_seq ?_))
  refine walk_seqB 7 [.quiet (.agg (kd p r c gx gy).toArray), .quiet (PT γ1_1 2), .quiet (U z), .quiet (PT γ1_1 2), .quiet (U z), .call (U (tm p z z)), .quiet (U (tm p z z))] H3 ?ho4 ?he4
  case ho4 => exact ak (fun γ => ⟨rfl, fun w' h => ex_loadT h 0 rfl rfl rfl Try.isAgg72 Try.sizeOf72 rfl rfl⟩) (ak (by refine fun γ => ⟨rfl, fun w' h => ?_⟩; clear h; go_simp) (ak (fun γ => ⟨rfl, fun w' h => ex_loadC h 1 rfl rfl rfl Try.isAgg23 rfl⟩) (ak (by refine fun γ => ⟨rfl, fun w' h => ?_⟩; clear h; go_simp) (ak (fun γ => ⟨rfl, fun w' h => ex_loadC h 1 rfl rfl rfl Try.isAgg23 rfl⟩) (ak (fun γ => ⟨rfl, fun w' h => ⟨69, #[.agg (kd p r c gx gy).toArray, U z, U z], exec_call rfl call69 rfl (mpn rfl), times_any hp z z hz hz w'⟩⟩) (ak (fun _ => ⟨rfl, fun _ _ => rfl⟩) trivial))))))
  intro _ w4 H4
  clear H3
  refine rest0 rfl (then_normal (wp_seq ?_))
  refine walk_anyB 10 [.quiet (.agg (kd p r c gx gy).toArray), .quiet (.agg (kd p r c gx gy).toArray), .quiet (PT γ1_2 0), .quiet (U X), .quiet (U (tm p z z)), .call (U (tm p X (tm p z z))), .quiet (PT γ1_1 0), .quiet (U x), .call (U (jU p x z X)), .quiet (U (jU p x z X))] H4 ?ho5 ?he5
  case ho5 => exact ak (fun γ => ⟨rfl, fun w' h => ex_loadT h 0 rfl rfl rfl Try.isAgg72 Try.sizeOf72 rfl rfl⟩) (ak (fun γ => ⟨rfl, fun w' h => ex_loadT h 0 rfl rfl rfl Try.isAgg72 Try.sizeOf72 rfl rfl⟩) (ak (by refine fun γ => ⟨rfl, fun w' h => ?_⟩; clear h; go_simp) (ak (fun γ => ⟨rfl, fun w' h => ex_loadC h 2 rfl rfl rfl Try.isAgg23 rfl⟩) (ak (fun _ => ⟨rfl, fun _ _ => rfl⟩) (ak (fun γ => ⟨rfl, fun w' h => ⟨69, #[.agg (kd p r c gx gy).toArray, U X, U (tm p z z)], exec_call rfl call69 rfl (mpn rfl), times_any hp X (tm p z z) hX (tm_lt hp) w'⟩⟩) (ak (by refine fun γ => ⟨rfl, fun w' h => ?_⟩; clear h; go_simp) (ak (fun γ => ⟨rfl, fun w' h => ex_loadC h 1 rfl rfl rfl Try.isAgg23 rfl⟩) (ak (fun γ => ⟨rfl, fun w' h => ⟨48, #[.agg (kd p r c gx gy).toArray, U (tm p X (tm p z z)), U x], exec_call rfl call48 rfl (mpn rfl), minus_any hp (tm p X (tm p z z)) x (tm_lt hp) hx w'⟩⟩) (ak (fun _ => ⟨rfl, fun _ _ => rfl⟩) trivial)))))))))
  intro _ w5 H5
  clear H4
  refine rest0 rfl (then_normal (wp_seq ?_))
  refine walk_anyB 14 [.quiet (.agg (kd p r c gx gy).toArray), .quiet (.agg (kd p r c gx gy).toArray), .quiet (PT γ1_2 1), .quiet (U Y), .quiet (.agg (kd p r c gx gy).toArray), .quiet (PT γ1_1 2), .quiet (U z), .quiet (U (tm p z z)), .call (U (tm p z (tm p z z))), .call (U (tm p Y (tm p z (tm p z z)))), .quiet (PT γ1_1 1), .quiet (U y), .call (U (jS p y z Y)), .quiet (U (jS p y z Y))] H5 ?ho6 ?he6
  case ho6 => exact ak (fun γ => ⟨rfl, fun w' h => ex_loadT h 0 rfl rfl rfl Try.isAgg72 Try.sizeOf72 rfl rfl⟩) (ak (fun γ => ⟨rfl, fun w' h => ex_loadT h 0 rfl rfl rfl Try.isAgg72 Try.sizeOf72 rfl rfl⟩) (ak (by refine fun γ => ⟨rfl, fun w' h => ?_⟩; clear h; go_simp) (ak (fun γ => ⟨rfl, fun w' h => ex_loadC h 2 rfl rfl rfl Try.isAgg23 rfl⟩) (ak (fun γ => ⟨rfl, fun w' h => ex_loadT h 0 rfl rfl rfl Try.isAgg72 Try.sizeOf72 rfl rfl⟩) (ak (by refine fun γ => ⟨rfl, fun w' h => ?_⟩; clear h; go_simp) (ak (fun γ => ⟨rfl, fun w' h => ex_loadC h 1 rfl rfl rfl Try.isAgg23 rfl⟩) (ak (fun _ => ⟨rfl, fun _ _ => rfl⟩) (ak (fun γ => ⟨rfl, fun w' h => ⟨69, #[.agg (kd p r c gx gy).toArray, U z, U (tm p z z)], exec_call rfl call69 rfl (mpn rfl), times_any hp z (tm p z z) hz (tm_lt hp) w'⟩⟩) (ak (fun γ => ⟨rfl, fun w' h => ⟨69, #[.agg (kd p r c gx gy).toArray, U Y, U (tm p z (tm p z z))], exec_call rfl call69 rfl (mpn rfl), times_any hp Y (tm p z (tm p z z)) hY (tm_lt hp) w'⟩⟩) (ak (by refine fun γ => ⟨rfl, fun w' h => ?_⟩; clear h; go_simp) (ak (fun γ => ⟨rfl, fun w' h => ex_loadC h 1 rfl rfl rfl Try.isAgg23 rfl⟩) (ak (fun γ => ⟨rfl, fun w' h => ⟨48, #[.agg (kd p r c gx gy).toArray, U (tm p Y (tm p z (tm p z z))), U y], exec_call rfl call48 rfl (mpn rfl), minus_any hp (tm p Y (tm p z (tm p z z))) y (tm_lt hp) hy w'⟩⟩) (ak (fun _ => ⟨rfl, fun _ _ => rfl⟩) trivial)))))))))))))
  intro _ w6 H6
  clear H5
  refine rest0 rfl (then_normal (wp_seq (wp_seq ?_)))
  refine walk_seqB 6 [.quiet (U (jU p x z X)), .quiet (.bool true), .quiet (.bool true), .quiet (U (jS p y z Y)), .quiet (.bool true), .quiet (.bool true)] H6 ?ho7 ?he7
  case ho7 => exact ak (fun _ => ⟨rfl, fun _ _ => rfl⟩) (ak (fun γ => ⟨rfl, fun w' _ => ex_eqU rfl rfl rfl (decide_eq_true (h1))⟩) (ak (fun _ => ⟨rfl, fun _ _ => rfl⟩) (ak (fun _ => ⟨rfl, fun _ _ => rfl⟩) (ak (fun γ => ⟨rfl, fun w' _ => ex_eqU rfl rfl rfl (decide_eq_true (h2))⟩) (ak (by refine fun γ => ⟨rfl, fun w' h => ?_⟩; clear h; go_simp) trivial)))))
  intro _ w7 H7
  clear H6
  refine rest0 rfl (then_normal (wp_cond_true rfl (wp_seq ?_)))
  refine walk_seqB 5 [.quiet (.agg (kd p r c gx gy).toArray), .quiet (.agg (tr x y z).toArray), .call (.tuple #[.agg (tr (tX p x y z) (tY p x y z) (tm p 2 (tm p y z))).toArray, U (tR p x z)]), .quiet (.agg (tr (tX p x y z) (tY p x y z) (tm p 2 (tm p y z))).toArray), .quiet (U (tR p x z))] H7 ?ho8 ?he8
  case ho8 => exact ak (fun γ => ⟨rfl, fun w' h => ex_loadT h 0 rfl rfl rfl Try.isAgg72 Try.sizeOf72 rfl rfl⟩) (ak (fun γ => ⟨rfl, fun w' h => ex_loadT h 1 rfl rfl rfl Try.isAgg77 Try.sizeOf77 rfl rfl⟩) (ak (fun γ => ⟨rfl, fun w' h => ⟨70, #[.agg (kd p r c gx gy).toArray, .agg (tr x y z).toArray], exec_call rfl call70 rfl (mpn rfl), twice_raw hp x y z hx hy hz w'⟩⟩) (ak (by refine fun γ => ⟨rfl, fun w' h => ?_⟩; clear h; go_simp) (ak (by refine fun γ => ⟨rfl, fun w' h => ?_⟩; clear h; go_simp) trivial))))
  intro _ w8 H8
  clear H7
  refine rest_at (l := [5, 6]) rfl ?_
  refine rest_store rfl rfl rfl (ex_storeT (vs := tr (tX p x y z) (tY p x y z) (tm p 2 (tm p y z))) H8.out.1 3 rfl rfl rfl rfl Try.sizeOf77 rfl (Nat.le_of_ble_eq_true rfl)) ?_
  have H9 : Hid (Mm (w8.setCells γ1_3 0 (tr (tX p x y z) (tY p x y z) (tm p 2 (tm p y z)))) [(γ1_0, kd p r c gx gy), (γ1_1, tr x y z), (γ1_2, pt X Y false), (γ1_3, tr (tX p x y z) (tY p x y z) (tm p 2 (tm p y z)))] ∧ Below w.heap.size w (w8.setCells γ1_3 0 (tr (tX p x y z) (tY p x y z) (tm p 2 (tm p y z))))) := ⟨H8.out.1.put 3 (off := 0) (vs := tr (tX p x y z) (tY p x y z) (tm p 2 (tm p y z))) rfl (Nat.le_of_ble_eq_true rfl), below_setCells _ o1_3.out _ _ _ H8.out.2⟩
  clear H8
  generalize hgw : World.setCells _ _ _ _ = w9 at H9 ⊢
  clear hgw
  refine rest_set (d := 7) rfl rfl rfl rfl ?_
  simp only [Act.put, sa, sz, ss]
  refine rest_nil (then_normal (wp_ret ?_))
  repeat (first | refine then_ret ?_ | refine block_ret ?_)
  have hf0 := var_T H9.out.1 3 rfl Try.isAgg77 Try.sizeOf77 rfl
  refine bodyPost_ret (v := .tuple #[.agg (tr (tX p x y z) (tY p x y z) (tm p 2 (tm p y z))).toArray, U (tR p x z)]) (by simp [results, Try.results44, asAddr, Act.eval, hf0]) rfl ?_
  exact ⟨rfl, H9.out.2⟩
set_option maxHeartbeats 1000000 in
set_option maxRecDepth 100000 in
theorem joined_u (hp : Pr p) (x y z : Nat) (hx : x < p) (hy : y < p) (hz : z < p) (X Y : Nat) (hX : X < p) (hY : Y < p) (h : z ≠ 0) (h1 : jU p x z X ≠ 0) (w : World) :
    Calls Try.prog 44 #[.agg (kd p r c gx gy).toArray, .agg (tr x y z).toArray, .agg (pt X Y false).toArray] w fun e w' => e = .returned (.tuple #[V (tr (jX p x (jU p x z X) (jS p y z Y)) (jY p x y (jU p x z X) (jS p y z Y)) (tm p z (jU p x z X))), U (jS p y z Y)]) ∧ Below w.heap.size w w' := by
  have H0 : Hid (_ ∧ _) := ⟨Mm.nil w, Below.refl w.heap.size w⟩
  go_enter Try.func44, Try.ntmps44
  refine wp_seq ?_
  refine walk_seqA 5 [.made (kd p r c gx gy) 72, .made (tr x y z) 77, .made (pt X Y false) 25, .made (tr 0 0 0) 77, .quiet (U 0)] (sB H0) ?ho1 ?he1
  case ho1 => exact ak (fun γ => ⟨rfl, fun w' => ex_boxT rfl rfl⟩) (ak (fun γ => ⟨rfl, fun w' => ex_boxT rfl rfl⟩) (ak (fun γ => ⟨rfl, fun w' => ex_boxT rfl rfl⟩) (ak (fun γ => ⟨rfl, fun w' => ex_made77 rfl⟩) (ak (fun _ => ⟨rfl, fun _ _ => rfl⟩) trivial))))
  intro γ w1 l hM hl
  have H1 : Hid (Mm w1 [(γ 0, kd p r c gx gy), (γ 1, tr x y z), (γ 2, pt X Y false), (γ 3, tr 0 0 0)] ∧ _) := growB H0 hM (Nat.le_refl _) hl [0, 1, 2, 3] rfl (by decide)
  have o1_0 := ownB H0 hM (Nat.le_refl _) hl (i := 0) rfl
  have o1_1 := ownB H0 hM (Nat.le_refl _) hl (i := 1) rfl
  have o1_2 := ownB H0 hM (Nat.le_refl _) hl (i := 2) rfl
  have o1_3 := ownB H0 hM (Nat.le_refl _) hl (i := 3) rfl
  clear hM hl l
  generalize γ 0 = γ1_0 at H1 o1_0 ⊢
  generalize γ 1 = γ1_1 at H1 o1_1 ⊢
  generalize γ 2 = γ1_2 at H1 o1_2 ⊢
  generalize γ 3 = γ1_3 at H1 o1_3 ⊢
  clear γ
  refine rest0 rfl (then_normal (wp_seq (wp_seq ?_)))
  refine walk_seqB 2 [.quiet (PT γ1_2 2), .quiet (.bool false)] H1 ?ho2 ?he2
  case ho2 => exact ak (by refine fun γ => ⟨rfl, fun w' h => ?_⟩; clear h; go_simp) (ak (fun γ => ⟨rfl, fun w' h => ex_loadC h 2 rfl rfl rfl Try.isAgg4 rfl⟩) trivial)
  intro _ w2 H2
  clear H1
  refine rest0 rfl (then_normal (wp_cond_false rfl ?_))
  refine wp_skip (then_normal ?_)
  refine wp_seq (wp_seq ?_)
  refine walk_seqB 3 [.quiet (PT γ1_1 2), .quiet (U z), .quiet (.bool false)] H2 ?ho3 ?he3
  case ho3 => exact ak (by refine fun γ => ⟨rfl, fun w' h => ?_⟩; clear h; go_simp) (ak (fun γ => ⟨rfl, fun w' h => ex_loadC h 1 rfl rfl rfl Try.isAgg23 rfl⟩) (ak (fun γ => ⟨rfl, fun w' _ => ex_eqU rfl rfl rfl (decide_eq_false (h))⟩) trivial))
  intro _ w3 H3
  clear H2
  refine rest0 rfl (then_normal (wp_cond_false rfl ?_))
  refine wp_skip (then_normal (wp_seq ?_))
  refine walk_seqB 7 [.quiet (.agg (kd p r c gx gy).toArray), .quiet (PT γ1_1 2), .quiet (U z), .quiet (PT γ1_1 2), .quiet (U z), .call (U (tm p z z)), .quiet (U (tm p z z))] H3 ?ho4 ?he4
  case ho4 => exact ak (fun γ => ⟨rfl, fun w' h => ex_loadT h 0 rfl rfl rfl Try.isAgg72 Try.sizeOf72 rfl rfl⟩) (ak (by refine fun γ => ⟨rfl, fun w' h => ?_⟩; clear h; go_simp) (ak (fun γ => ⟨rfl, fun w' h => ex_loadC h 1 rfl rfl rfl Try.isAgg23 rfl⟩) (ak (by refine fun γ => ⟨rfl, fun w' h => ?_⟩; clear h; go_simp) (ak (fun γ => ⟨rfl, fun w' h => ex_loadC h 1 rfl rfl rfl Try.isAgg23 rfl⟩) (ak (fun γ => ⟨rfl, fun w' h => ⟨69, #[.agg (kd p r c gx gy).toArray, U z, U z], exec_call rfl call69 rfl (mpn rfl), times_any hp z z hz hz w'⟩⟩) (ak (fun _ => ⟨rfl, fun _ _ => rfl⟩) trivial))))))
  intro _ w4 H4
  clear H3
  refine rest0 rfl (then_normal (wp_seq ?_))
  refine walk_anyB 10 [.quiet (.agg (kd p r c gx gy).toArray), .quiet (.agg (kd p r c gx gy).toArray), .quiet (PT γ1_2 0), .quiet (U X), .quiet (U (tm p z z)), .call (U (tm p X (tm p z z))), .quiet (PT γ1_1 0), .quiet (U x), .call (U (jU p x z X)), .quiet (U (jU p x z X))] H4 ?ho5 ?he5
  case ho5 => exact ak (fun γ => ⟨rfl, fun w' h => ex_loadT h 0 rfl rfl rfl Try.isAgg72 Try.sizeOf72 rfl rfl⟩) (ak (fun γ => ⟨rfl, fun w' h => ex_loadT h 0 rfl rfl rfl Try.isAgg72 Try.sizeOf72 rfl rfl⟩) (ak (by refine fun γ => ⟨rfl, fun w' h => ?_⟩; clear h; go_simp) (ak (fun γ => ⟨rfl, fun w' h => ex_loadC h 2 rfl rfl rfl Try.isAgg23 rfl⟩) (ak (fun _ => ⟨rfl, fun _ _ => rfl⟩) (ak (fun γ => ⟨rfl, fun w' h => ⟨69, #[.agg (kd p r c gx gy).toArray, U X, U (tm p z z)], exec_call rfl call69 rfl (mpn rfl), times_any hp X (tm p z z) hX (tm_lt hp) w'⟩⟩) (ak (by refine fun γ => ⟨rfl, fun w' h => ?_⟩; clear h; go_simp) (ak (fun γ => ⟨rfl, fun w' h => ex_loadC h 1 rfl rfl rfl Try.isAgg23 rfl⟩) (ak (fun γ => ⟨rfl, fun w' h => ⟨48, #[.agg (kd p r c gx gy).toArray, U (tm p X (tm p z z)), U x], exec_call rfl call48 rfl (mpn rfl), minus_any hp (tm p X (tm p z z)) x (tm_lt hp) hx w'⟩⟩) (ak (fun _ => ⟨rfl, fun _ _ => rfl⟩) trivial)))))))))
  intro _ w5 H5
  clear H4
  refine rest0 rfl (then_normal (wp_seq ?_))
  refine walk_anyB 14 [.quiet (.agg (kd p r c gx gy).toArray), .quiet (.agg (kd p r c gx gy).toArray), .quiet (PT γ1_2 1), .quiet (U Y), .quiet (.agg (kd p r c gx gy).toArray), .quiet (PT γ1_1 2), .quiet (U z), .quiet (U (tm p z z)), .call (U (tm p z (tm p z z))), .call (U (tm p Y (tm p z (tm p z z)))), .quiet (PT γ1_1 1), .quiet (U y), .call (U (jS p y z Y)), .quiet (U (jS p y z Y))] H5 ?ho6 ?he6
  case ho6 => exact ak (fun γ => ⟨rfl, fun w' h => ex_loadT h 0 rfl rfl rfl Try.isAgg72 Try.sizeOf72 rfl rfl⟩) (ak (fun γ => ⟨rfl, fun w' h => ex_loadT h 0 rfl rfl rfl Try.isAgg72 Try.sizeOf72 rfl rfl⟩) (ak (by refine fun γ => ⟨rfl, fun w' h => ?_⟩; clear h; go_simp) (ak (fun γ => ⟨rfl, fun w' h => ex_loadC h 2 rfl rfl rfl Try.isAgg23 rfl⟩) (ak (fun γ => ⟨rfl, fun w' h => ex_loadT h 0 rfl rfl rfl Try.isAgg72 Try.sizeOf72 rfl rfl⟩) (ak (by refine fun γ => ⟨rfl, fun w' h => ?_⟩; clear h; go_simp) (ak (fun γ => ⟨rfl, fun w' h => ex_loadC h 1 rfl rfl rfl Try.isAgg23 rfl⟩) (ak (fun _ => ⟨rfl, fun _ _ => rfl⟩) (ak (fun γ => ⟨rfl, fun w' h => ⟨69, #[.agg (kd p r c gx gy).toArray, U z, U (tm p z z)], exec_call rfl call69 rfl (mpn rfl), times_any hp z (tm p z z) hz (tm_lt hp) w'⟩⟩) (ak (fun γ => ⟨rfl, fun w' h => ⟨69, #[.agg (kd p r c gx gy).toArray, U Y, U (tm p z (tm p z z))], exec_call rfl call69 rfl (mpn rfl), times_any hp Y (tm p z (tm p z z)) hY (tm_lt hp) w'⟩⟩) (ak (by refine fun γ => ⟨rfl, fun w' h => ?_⟩; clear h; go_simp) (ak (fun γ => ⟨rfl, fun w' h => ex_loadC h 1 rfl rfl rfl Try.isAgg23 rfl⟩) (ak (fun γ => ⟨rfl, fun w' h => ⟨48, #[.agg (kd p r c gx gy).toArray, U (tm p Y (tm p z (tm p z z))), U y], exec_call rfl call48 rfl (mpn rfl), minus_any hp (tm p Y (tm p z (tm p z z))) y (tm_lt hp) hy w'⟩⟩) (ak (fun _ => ⟨rfl, fun _ _ => rfl⟩) trivial)))))))))))))
  intro _ w6 H6
  clear H5
  refine rest0 rfl (then_normal (wp_seq (wp_seq ?_)))
  refine walk_seqB 6 [.quiet (U (jU p x z X)), .quiet (.bool false), .quiet (.bool false), .gone, .gone, .quiet (.bool false)] H6 ?ho7 ?he7
  case ho7 => exact ak (fun _ => ⟨rfl, fun _ _ => rfl⟩) (ak (fun γ => ⟨rfl, fun w' _ => ex_eqU rfl rfl rfl (decide_eq_false (h1))⟩) (ak (fun _ => ⟨rfl, fun _ _ => rfl⟩) (ak (fun γ => rfl) (ak (fun γ => rfl) (ak (by refine fun γ => ⟨rfl, fun w' h => ?_⟩; clear h; go_simp) trivial)))))
  intro _ w7 H7
  clear H6
  refine rest0 rfl (then_normal (wp_cond_false rfl ?_))
  refine wp_skip (then_normal (wp_seq ?_))
  refine walk_seqB 5 [.quiet (.agg (kd p r c gx gy).toArray), .quiet (U (jU p x z X)), .quiet (U (jU p x z X)), .call (U (tm p (jU p x z X) (jU p x z X))), .quiet (U (tm p (jU p x z X) (jU p x z X)))] H7 ?ho8 ?he8
  case ho8 => exact ak (fun γ => ⟨rfl, fun w' h => ex_loadT h 0 rfl rfl rfl Try.isAgg72 Try.sizeOf72 rfl rfl⟩) (ak (fun _ => ⟨rfl, fun _ _ => rfl⟩) (ak (fun _ => ⟨rfl, fun _ _ => rfl⟩) (ak (fun γ => ⟨rfl, fun w' h => ⟨69, #[.agg (kd p r c gx gy).toArray, U (jU p x z X), U (jU p x z X)], exec_call rfl call69 rfl (mpn rfl), times_any hp (jU p x z X) (jU p x z X) (mi_lt hp) (mi_lt hp) w'⟩⟩) (ak (fun _ => ⟨rfl, fun _ _ => rfl⟩) trivial))))
  intro _ w8 H8
  clear H7
  refine rest0 rfl (then_normal (wp_seq ?_))
  refine walk_seqB 5 [.quiet (.agg (kd p r c gx gy).toArray), .quiet (U (tm p (jU p x z X) (jU p x z X))), .quiet (U (jU p x z X)), .call (U (jC p (jU p x z X))), .quiet (U (jC p (jU p x z X)))] H8 ?ho9 ?he9
  case ho9 => exact ak (fun γ => ⟨rfl, fun w' h => ex_loadT h 0 rfl rfl rfl Try.isAgg72 Try.sizeOf72 rfl rfl⟩) (ak (fun _ => ⟨rfl, fun _ _ => rfl⟩) (ak (fun _ => ⟨rfl, fun _ _ => rfl⟩) (ak (fun γ => ⟨rfl, fun w' h => ⟨69, #[.agg (kd p r c gx gy).toArray, U (tm p (jU p x z X) (jU p x z X)), U (jU p x z X)], exec_call rfl call69 rfl (mpn rfl), times_any hp (tm p (jU p x z X) (jU p x z X)) (jU p x z X) (tm_lt hp) (mi_lt hp) w'⟩⟩) (ak (fun _ => ⟨rfl, fun _ _ => rfl⟩) trivial))))
  intro _ w9 H9
  clear H8
  refine rest0 rfl (then_normal (wp_seq ?_))
  refine walk_seqB 6 [.quiet (.agg (kd p r c gx gy).toArray), .quiet (PT γ1_1 0), .quiet (U x), .quiet (U (tm p (jU p x z X) (jU p x z X))), .call (U (jM p x (jU p x z X))), .quiet (U (jM p x (jU p x z X)))] H9 ?ho10 ?he10
  case ho10 => exact ak (fun γ => ⟨rfl, fun w' h => ex_loadT h 0 rfl rfl rfl Try.isAgg72 Try.sizeOf72 rfl rfl⟩) (ak (by refine fun γ => ⟨rfl, fun w' h => ?_⟩; clear h; go_simp) (ak (fun γ => ⟨rfl, fun w' h => ex_loadC h 1 rfl rfl rfl Try.isAgg23 rfl⟩) (ak (fun _ => ⟨rfl, fun _ _ => rfl⟩) (ak (fun γ => ⟨rfl, fun w' h => ⟨69, #[.agg (kd p r c gx gy).toArray, U x, U (tm p (jU p x z X) (jU p x z X))], exec_call rfl call69 rfl (mpn rfl), times_any hp x (tm p (jU p x z X) (jU p x z X)) hx (tm_lt hp) w'⟩⟩) (ak (fun _ => ⟨rfl, fun _ _ => rfl⟩) trivial)))))
  intro _ w10 H10
  clear H9
  refine rest0 rfl (then_normal (wp_seq ?_))
  refine walk_anyB 14 [.quiet (.agg (kd p r c gx gy).toArray), .quiet (.agg (kd p r c gx gy).toArray), .quiet (.agg (kd p r c gx gy).toArray), .quiet (U (jS p y z Y)), .quiet (U (jS p y z Y)), .call (U (tm p (jS p y z Y) (jS p y z Y))), .quiet (U (jC p (jU p x z X))), .call (U (mi p (tm p (jS p y z Y) (jS p y z Y)) (jC p (jU p x z X)))), .quiet (.agg (kd p r c gx gy).toArray), .quiet (U (jM p x (jU p x z X))), .quiet (U (jM p x (jU p x z X))), .call (U (pl p (jM p x (jU p x z X)) (jM p x (jU p x z X)))), .call (U (jX p x (jU p x z X) (jS p y z Y))), .quiet (U (jX p x (jU p x z X) (jS p y z Y)))] H10 ?ho11 ?he11
  case ho11 => exact ak (fun γ => ⟨rfl, fun w' h => ex_loadT h 0 rfl rfl rfl Try.isAgg72 Try.sizeOf72 rfl rfl⟩) (ak (fun γ => ⟨rfl, fun w' h => ex_loadT h 0 rfl rfl rfl Try.isAgg72 Try.sizeOf72 rfl rfl⟩) (ak (fun γ => ⟨rfl, fun w' h => ex_loadT h 0 rfl rfl rfl Try.isAgg72 Try.sizeOf72 rfl rfl⟩) (ak (fun _ => ⟨rfl, fun _ _ => rfl⟩) (ak (fun _ => ⟨rfl, fun _ _ => rfl⟩) (ak (fun γ => ⟨rfl, fun w' h => ⟨69, #[.agg (kd p r c gx gy).toArray, U (jS p y z Y), U (jS p y z Y)], exec_call rfl call69 rfl (mpn rfl), times_any hp (jS p y z Y) (jS p y z Y) (mi_lt hp) (mi_lt hp) w'⟩⟩) (ak (fun _ => ⟨rfl, fun _ _ => rfl⟩) (ak (fun γ => ⟨rfl, fun w' h => ⟨48, #[.agg (kd p r c gx gy).toArray, U (tm p (jS p y z Y) (jS p y z Y)), U (jC p (jU p x z X))], exec_call rfl call48 rfl (mpn rfl), minus_any hp (tm p (jS p y z Y) (jS p y z Y)) (jC p (jU p x z X)) (tm_lt hp) (tm_lt hp) w'⟩⟩) (ak (fun γ => ⟨rfl, fun w' h => ex_loadT h 0 rfl rfl rfl Try.isAgg72 Try.sizeOf72 rfl rfl⟩) (ak (fun _ => ⟨rfl, fun _ _ => rfl⟩) (ak (fun _ => ⟨rfl, fun _ _ => rfl⟩) (ak (fun γ => ⟨rfl, fun w' h => ⟨71, #[.agg (kd p r c gx gy).toArray, U (jM p x (jU p x z X)), U (jM p x (jU p x z X))], exec_call rfl call71 rfl (mpn rfl), plus_any hp (jM p x (jU p x z X)) (jM p x (jU p x z X)) (tm_lt hp) (tm_lt hp) w'⟩⟩) (ak (fun γ => ⟨rfl, fun w' h => ⟨48, #[.agg (kd p r c gx gy).toArray, U (mi p (tm p (jS p y z Y) (jS p y z Y)) (jC p (jU p x z X))), U (pl p (jM p x (jU p x z X)) (jM p x (jU p x z X)))], exec_call rfl call48 rfl (mpn rfl), minus_any hp (mi p (tm p (jS p y z Y) (jS p y z Y)) (jC p (jU p x z X))) (pl p (jM p x (jU p x z X)) (jM p x (jU p x z X))) (mi_lt hp) (pl_lt hp) w'⟩⟩) (ak (fun _ => ⟨rfl, fun _ _ => rfl⟩) trivial)))))))))))))
  intro _ w11 H11
  clear H10
  refine rest0 rfl (then_normal (wp_seq ?_))
  refine walk_put (by kernel_rfl) 22 [21] [.quiet (U (jX p x (jU p x z X) (jS p y z Y))), .quiet (.agg (kd p r c gx gy).toArray), .quiet (.agg (kd p r c gx gy).toArray), .quiet (U (jS p y z Y)), .quiet (.agg (kd p r c gx gy).toArray), .quiet (U (jM p x (jU p x z X))), .quiet (U (jX p x (jU p x z X) (jS p y z Y))), .call (U (mi p (jM p x (jU p x z X)) (jX p x (jU p x z X) (jS p y z Y)))), .call (U (tm p (jS p y z Y) (mi p (jM p x (jU p x z X)) (jX p x (jU p x z X) (jS p y z Y))))), .quiet (.agg (kd p r c gx gy).toArray), .quiet (PT γ1_1 1), .quiet (U y), .quiet (U (jC p (jU p x z X))), .call (U (tm p y (jC p (jU p x z X)))), .call (U (mi p (tm p (jS p y z Y) (mi p (jM p x (jU p x z X)) (jX p x (jU p x z X) (jS p y z Y)))) (tm p y (jC p (jU p x z X))))), .quiet (.agg (kd p r c gx gy).toArray), .quiet (PT γ1_1 2), .quiet (U z), .quiet (U (jU p x z X)), .call (U (tm p z (jU p x z X))), .quiet (.agg (tr (jX p x (jU p x z X) (jS p y z Y)) (mi p (tm p (jS p y z Y) (mi p (jM p x (jU p x z X)) (jX p x (jU p x z X) (jS p y z Y)))) (tm p y (jC p (jU p x z X)))) (tm p z (jU p x z X))).toArray), .quiet (U (jS p y z Y))] _ ?pre12 ?F12 _ ?hpre12 (fun γ => ?hF12) (by kernel_rfl) rfl trivial (sB H11) ?ho12 ?hla12 ?he12
  case hpre12 => simp only [tk, tz]; rfl
  case hF12 => simp only [fill, Kind.val, Act.put, sa, sz, ss]; rfl
  case ho12 =>
    refine ak (fun _ => ⟨rfl, fun _ _ => rfl⟩) ?_
    refine ak (fun γ => ⟨rfl, fun w' h => ex_loadT h 0 rfl rfl rfl Try.isAgg72 Try.sizeOf72 rfl rfl⟩) ?_
    refine ak (fun γ => ⟨rfl, fun w' h => ex_loadT h 0 rfl rfl rfl Try.isAgg72 Try.sizeOf72 rfl rfl⟩) ?_
    refine ak (fun _ => ⟨rfl, fun _ _ => rfl⟩) ?_
    refine ak (fun γ => ⟨rfl, fun w' h => ex_loadT h 0 rfl rfl rfl Try.isAgg72 Try.sizeOf72 rfl rfl⟩) ?_
    refine ak (fun _ => ⟨rfl, fun _ _ => rfl⟩) ?_
    refine ak (fun _ => ⟨rfl, fun _ _ => rfl⟩) ?_
    refine ak (fun γ => ⟨rfl, fun w' h => ⟨48, #[.agg (kd p r c gx gy).toArray, U (jM p x (jU p x z X)), U (jX p x (jU p x z X) (jS p y z Y))], exec_call rfl call48 rfl (mpn rfl), minus_any hp (jM p x (jU p x z X)) (jX p x (jU p x z X) (jS p y z Y)) (tm_lt hp) (mi_lt hp) w'⟩⟩) ?_
    refine ak (fun γ => ⟨rfl, fun w' h => ⟨69, #[.agg (kd p r c gx gy).toArray, U (jS p y z Y), U (mi p (jM p x (jU p x z X)) (jX p x (jU p x z X) (jS p y z Y)))], exec_call rfl call69 rfl (mpn rfl), times_any hp (jS p y z Y) (mi p (jM p x (jU p x z X)) (jX p x (jU p x z X) (jS p y z Y))) (mi_lt hp) (mi_lt hp) w'⟩⟩) ?_
    refine ak (fun γ => ⟨rfl, fun w' h => ex_loadT h 0 rfl rfl rfl Try.isAgg72 Try.sizeOf72 rfl rfl⟩) ?_
    refine ak (by refine fun γ => ⟨rfl, fun w' h => ?_⟩; clear h; go_simp) ?_
    refine ak (fun γ => ⟨rfl, fun w' h => ex_loadC h 1 rfl rfl rfl Try.isAgg23 rfl⟩) ?_
    refine ak (fun _ => ⟨rfl, fun _ _ => rfl⟩) ?_
    refine ak (fun γ => ⟨rfl, fun w' h => ⟨69, #[.agg (kd p r c gx gy).toArray, U y, U (jC p (jU p x z X))], exec_call rfl call69 rfl (mpn rfl), times_any hp y (jC p (jU p x z X)) hy (tm_lt hp) w'⟩⟩) ?_
    refine ak (fun γ => ⟨rfl, fun w' h => ⟨48, #[.agg (kd p r c gx gy).toArray, U (tm p (jS p y z Y) (mi p (jM p x (jU p x z X)) (jX p x (jU p x z X) (jS p y z Y)))), U (tm p y (jC p (jU p x z X)))], exec_call rfl call48 rfl (mpn rfl), minus_any hp (tm p (jS p y z Y) (mi p (jM p x (jU p x z X)) (jX p x (jU p x z X) (jS p y z Y)))) (tm p y (jC p (jU p x z X))) (tm_lt hp) (tm_lt hp) w'⟩⟩) ?_
    refine ak (fun γ => ⟨rfl, fun w' h => ex_loadT h 0 rfl rfl rfl Try.isAgg72 Try.sizeOf72 rfl rfl⟩) ?_
    refine ak (by refine fun γ => ⟨rfl, fun w' h => ?_⟩; clear h; go_simp) ?_
    refine ak (fun γ => ⟨rfl, fun w' h => ex_loadC h 1 rfl rfl rfl Try.isAgg23 rfl⟩) ?_
    refine ak (fun _ => ⟨rfl, fun _ _ => rfl⟩) ?_
    refine ak (fun γ => ⟨rfl, fun w' h => ⟨69, #[.agg (kd p r c gx gy).toArray, U z, U (jU p x z X)], exec_call rfl call69 rfl (mpn rfl), times_any hp z (jU p x z X) hz (mi_lt hp) w'⟩⟩) ?_
    refine ak (fun γ => ⟨rfl, fun w' _ => ex_build77_012 rfl rfl rfl rfl⟩) ?_
    refine ak (fun _ => ⟨rfl, fun _ _ => rfl⟩) ?_
    exact trivial
  case hla12 => exact ⟨⟨_, _, rfl, rfl, fun γ => ⟨rfl, fun w' => by first | rfl | go_simp⟩⟩, trivial⟩
  intro γ w12 l hM hl
  have H12 := keepB H11 hM.below
  clear hM hl l H11 γ
  refine ⟨_, ex_storeT (vs := tr (jX p x (jU p x z X) (jS p y z Y)) (mi p (tm p (jS p y z Y) (mi p (jM p x (jU p x z X)) (jX p x (jU p x z X) (jS p y z Y)))) (tm p y (jC p (jU p x z X)))) (tm p z (jU p x z X))) H12.out.1 3 rfl rfl rfl rfl Try.sizeOf77 rfl (Nat.le_of_ble_eq_true rfl), ?_⟩
  have H13 : Hid (Mm (w12.setCells γ1_3 0 (tr (jX p x (jU p x z X) (jS p y z Y)) (mi p (tm p (jS p y z Y) (mi p (jM p x (jU p x z X)) (jX p x (jU p x z X) (jS p y z Y)))) (tm p y (jC p (jU p x z X)))) (tm p z (jU p x z X)))) [(γ1_0, kd p r c gx gy), (γ1_1, tr x y z), (γ1_2, pt X Y false), (γ1_3, tr (jX p x (jU p x z X) (jS p y z Y)) (mi p (tm p (jS p y z Y) (mi p (jM p x (jU p x z X)) (jX p x (jU p x z X) (jS p y z Y)))) (tm p y (jC p (jU p x z X)))) (tm p z (jU p x z X)))] ∧ Below w.heap.size w (w12.setCells γ1_3 0 (tr (jX p x (jU p x z X) (jS p y z Y)) (mi p (tm p (jS p y z Y) (mi p (jM p x (jU p x z X)) (jX p x (jU p x z X) (jS p y z Y)))) (tm p y (jC p (jU p x z X)))) (tm p z (jU p x z X))))) := ⟨H12.out.1.put 3 (off := 0) (vs := tr (jX p x (jU p x z X) (jS p y z Y)) (mi p (tm p (jS p y z Y) (mi p (jM p x (jU p x z X)) (jX p x (jU p x z X) (jS p y z Y)))) (tm p y (jC p (jU p x z X)))) (tm p z (jU p x z X))) rfl (Nat.le_of_ble_eq_true rfl), below_setCells _ o1_3.out _ _ _ H12.out.2⟩
  clear H12
  generalize hgw : World.setCells _ _ _ _ = w13 at H13 ⊢
  clear hgw
  refine rest_at (l := [23]) rfl ?_
  refine rest_set (d := 7) rfl rfl rfl rfl ?_
  simp only [Act.put, sa, sz, ss]
  refine rest_nil (then_normal (wp_ret ?_))
  repeat (first | refine then_ret ?_ | refine block_ret ?_)
  have hf0 := var_T H13.out.1 3 rfl Try.isAgg77 Try.sizeOf77 rfl
  refine bodyPost_ret (v := .tuple #[.agg (tr (jX p x (jU p x z X) (jS p y z Y)) (mi p (tm p (jS p y z Y) (mi p (jM p x (jU p x z X)) (jX p x (jU p x z X) (jS p y z Y)))) (tm p y (jC p (jU p x z X)))) (tm p z (jU p x z X))).toArray, U (jS p y z Y)]) (by simp [results, Try.results44, asAddr, Act.eval, hf0]) rfl ?_
  exact ⟨rfl, H13.out.2⟩
set_option maxHeartbeats 1000000 in
set_option maxRecDepth 100000 in
theorem joined_s (hp : Pr p) (x y z : Nat) (hx : x < p) (hy : y < p) (hz : z < p) (X Y : Nat) (hX : X < p) (hY : Y < p) (h : z ≠ 0) (h1 : jU p x z X = 0) (h2 : jS p y z Y ≠ 0) (w : World) :
    Calls Try.prog 44 #[.agg (kd p r c gx gy).toArray, .agg (tr x y z).toArray, .agg (pt X Y false).toArray] w fun e w' => e = .returned (.tuple #[V (tr (jX p x (jU p x z X) (jS p y z Y)) (jY p x y (jU p x z X) (jS p y z Y)) (tm p z (jU p x z X))), U (jS p y z Y)]) ∧ Below w.heap.size w w' := by
  have H0 : Hid (_ ∧ _) := ⟨Mm.nil w, Below.refl w.heap.size w⟩
  go_enter Try.func44, Try.ntmps44
  refine wp_seq ?_
  refine walk_seqA 5 [.made (kd p r c gx gy) 72, .made (tr x y z) 77, .made (pt X Y false) 25, .made (tr 0 0 0) 77, .quiet (U 0)] (sB H0) ?ho1 ?he1
  case ho1 => exact ak (fun γ => ⟨rfl, fun w' => ex_boxT rfl rfl⟩) (ak (fun γ => ⟨rfl, fun w' => ex_boxT rfl rfl⟩) (ak (fun γ => ⟨rfl, fun w' => ex_boxT rfl rfl⟩) (ak (fun γ => ⟨rfl, fun w' => ex_made77 rfl⟩) (ak (fun _ => ⟨rfl, fun _ _ => rfl⟩) trivial))))
  intro γ w1 l hM hl
  have H1 : Hid (Mm w1 [(γ 0, kd p r c gx gy), (γ 1, tr x y z), (γ 2, pt X Y false), (γ 3, tr 0 0 0)] ∧ _) := growB H0 hM (Nat.le_refl _) hl [0, 1, 2, 3] rfl (by decide)
  have o1_0 := ownB H0 hM (Nat.le_refl _) hl (i := 0) rfl
  have o1_1 := ownB H0 hM (Nat.le_refl _) hl (i := 1) rfl
  have o1_2 := ownB H0 hM (Nat.le_refl _) hl (i := 2) rfl
  have o1_3 := ownB H0 hM (Nat.le_refl _) hl (i := 3) rfl
  clear hM hl l
  generalize γ 0 = γ1_0 at H1 o1_0 ⊢
  generalize γ 1 = γ1_1 at H1 o1_1 ⊢
  generalize γ 2 = γ1_2 at H1 o1_2 ⊢
  generalize γ 3 = γ1_3 at H1 o1_3 ⊢
  clear γ
  refine rest0 rfl (then_normal (wp_seq (wp_seq ?_)))
  refine walk_seqB 2 [.quiet (PT γ1_2 2), .quiet (.bool false)] H1 ?ho2 ?he2
  case ho2 => exact ak (by refine fun γ => ⟨rfl, fun w' h => ?_⟩; clear h; go_simp) (ak (fun γ => ⟨rfl, fun w' h => ex_loadC h 2 rfl rfl rfl Try.isAgg4 rfl⟩) trivial)
  intro _ w2 H2
  clear H1
  refine rest0 rfl (then_normal (wp_cond_false rfl ?_))
  refine wp_skip (then_normal ?_)
  refine wp_seq (wp_seq ?_)
  refine walk_seqB 3 [.quiet (PT γ1_1 2), .quiet (U z), .quiet (.bool false)] H2 ?ho3 ?he3
  case ho3 => exact ak (by refine fun γ => ⟨rfl, fun w' h => ?_⟩; clear h; go_simp) (ak (fun γ => ⟨rfl, fun w' h => ex_loadC h 1 rfl rfl rfl Try.isAgg23 rfl⟩) (ak (fun γ => ⟨rfl, fun w' _ => ex_eqU rfl rfl rfl (decide_eq_false (h))⟩) trivial))
  intro _ w3 H3
  clear H2
  refine rest0 rfl (then_normal (wp_cond_false rfl ?_))
  refine wp_skip (then_normal (wp_seq ?_))
  refine walk_seqB 7 [.quiet (.agg (kd p r c gx gy).toArray), .quiet (PT γ1_1 2), .quiet (U z), .quiet (PT γ1_1 2), .quiet (U z), .call (U (tm p z z)), .quiet (U (tm p z z))] H3 ?ho4 ?he4
  case ho4 => exact ak (fun γ => ⟨rfl, fun w' h => ex_loadT h 0 rfl rfl rfl Try.isAgg72 Try.sizeOf72 rfl rfl⟩) (ak (by refine fun γ => ⟨rfl, fun w' h => ?_⟩; clear h; go_simp) (ak (fun γ => ⟨rfl, fun w' h => ex_loadC h 1 rfl rfl rfl Try.isAgg23 rfl⟩) (ak (by refine fun γ => ⟨rfl, fun w' h => ?_⟩; clear h; go_simp) (ak (fun γ => ⟨rfl, fun w' h => ex_loadC h 1 rfl rfl rfl Try.isAgg23 rfl⟩) (ak (fun γ => ⟨rfl, fun w' h => ⟨69, #[.agg (kd p r c gx gy).toArray, U z, U z], exec_call rfl call69 rfl (mpn rfl), times_any hp z z hz hz w'⟩⟩) (ak (fun _ => ⟨rfl, fun _ _ => rfl⟩) trivial))))))
  intro _ w4 H4
  clear H3
  refine rest0 rfl (then_normal (wp_seq ?_))
  refine walk_anyB 10 [.quiet (.agg (kd p r c gx gy).toArray), .quiet (.agg (kd p r c gx gy).toArray), .quiet (PT γ1_2 0), .quiet (U X), .quiet (U (tm p z z)), .call (U (tm p X (tm p z z))), .quiet (PT γ1_1 0), .quiet (U x), .call (U (jU p x z X)), .quiet (U (jU p x z X))] H4 ?ho5 ?he5
  case ho5 => exact ak (fun γ => ⟨rfl, fun w' h => ex_loadT h 0 rfl rfl rfl Try.isAgg72 Try.sizeOf72 rfl rfl⟩) (ak (fun γ => ⟨rfl, fun w' h => ex_loadT h 0 rfl rfl rfl Try.isAgg72 Try.sizeOf72 rfl rfl⟩) (ak (by refine fun γ => ⟨rfl, fun w' h => ?_⟩; clear h; go_simp) (ak (fun γ => ⟨rfl, fun w' h => ex_loadC h 2 rfl rfl rfl Try.isAgg23 rfl⟩) (ak (fun _ => ⟨rfl, fun _ _ => rfl⟩) (ak (fun γ => ⟨rfl, fun w' h => ⟨69, #[.agg (kd p r c gx gy).toArray, U X, U (tm p z z)], exec_call rfl call69 rfl (mpn rfl), times_any hp X (tm p z z) hX (tm_lt hp) w'⟩⟩) (ak (by refine fun γ => ⟨rfl, fun w' h => ?_⟩; clear h; go_simp) (ak (fun γ => ⟨rfl, fun w' h => ex_loadC h 1 rfl rfl rfl Try.isAgg23 rfl⟩) (ak (fun γ => ⟨rfl, fun w' h => ⟨48, #[.agg (kd p r c gx gy).toArray, U (tm p X (tm p z z)), U x], exec_call rfl call48 rfl (mpn rfl), minus_any hp (tm p X (tm p z z)) x (tm_lt hp) hx w'⟩⟩) (ak (fun _ => ⟨rfl, fun _ _ => rfl⟩) trivial)))))))))
  intro _ w5 H5
  clear H4
  refine rest0 rfl (then_normal (wp_seq ?_))
  refine walk_anyB 14 [.quiet (.agg (kd p r c gx gy).toArray), .quiet (.agg (kd p r c gx gy).toArray), .quiet (PT γ1_2 1), .quiet (U Y), .quiet (.agg (kd p r c gx gy).toArray), .quiet (PT γ1_1 2), .quiet (U z), .quiet (U (tm p z z)), .call (U (tm p z (tm p z z))), .call (U (tm p Y (tm p z (tm p z z)))), .quiet (PT γ1_1 1), .quiet (U y), .call (U (jS p y z Y)), .quiet (U (jS p y z Y))] H5 ?ho6 ?he6
  case ho6 => exact ak (fun γ => ⟨rfl, fun w' h => ex_loadT h 0 rfl rfl rfl Try.isAgg72 Try.sizeOf72 rfl rfl⟩) (ak (fun γ => ⟨rfl, fun w' h => ex_loadT h 0 rfl rfl rfl Try.isAgg72 Try.sizeOf72 rfl rfl⟩) (ak (by refine fun γ => ⟨rfl, fun w' h => ?_⟩; clear h; go_simp) (ak (fun γ => ⟨rfl, fun w' h => ex_loadC h 2 rfl rfl rfl Try.isAgg23 rfl⟩) (ak (fun γ => ⟨rfl, fun w' h => ex_loadT h 0 rfl rfl rfl Try.isAgg72 Try.sizeOf72 rfl rfl⟩) (ak (by refine fun γ => ⟨rfl, fun w' h => ?_⟩; clear h; go_simp) (ak (fun γ => ⟨rfl, fun w' h => ex_loadC h 1 rfl rfl rfl Try.isAgg23 rfl⟩) (ak (fun _ => ⟨rfl, fun _ _ => rfl⟩) (ak (fun γ => ⟨rfl, fun w' h => ⟨69, #[.agg (kd p r c gx gy).toArray, U z, U (tm p z z)], exec_call rfl call69 rfl (mpn rfl), times_any hp z (tm p z z) hz (tm_lt hp) w'⟩⟩) (ak (fun γ => ⟨rfl, fun w' h => ⟨69, #[.agg (kd p r c gx gy).toArray, U Y, U (tm p z (tm p z z))], exec_call rfl call69 rfl (mpn rfl), times_any hp Y (tm p z (tm p z z)) hY (tm_lt hp) w'⟩⟩) (ak (by refine fun γ => ⟨rfl, fun w' h => ?_⟩; clear h; go_simp) (ak (fun γ => ⟨rfl, fun w' h => ex_loadC h 1 rfl rfl rfl Try.isAgg23 rfl⟩) (ak (fun γ => ⟨rfl, fun w' h => ⟨48, #[.agg (kd p r c gx gy).toArray, U (tm p Y (tm p z (tm p z z))), U y], exec_call rfl call48 rfl (mpn rfl), minus_any hp (tm p Y (tm p z (tm p z z))) y (tm_lt hp) hy w'⟩⟩) (ak (fun _ => ⟨rfl, fun _ _ => rfl⟩) trivial)))))))))))))
  intro _ w6 H6
  clear H5
  refine rest0 rfl (then_normal (wp_seq (wp_seq ?_)))
  refine walk_seqB 6 [.quiet (U (jU p x z X)), .quiet (.bool true), .quiet (.bool true), .quiet (U (jS p y z Y)), .quiet (.bool false), .quiet (.bool false)] H6 ?ho7 ?he7
  case ho7 => exact ak (fun _ => ⟨rfl, fun _ _ => rfl⟩) (ak (fun γ => ⟨rfl, fun w' _ => ex_eqU rfl rfl rfl (decide_eq_true (h1))⟩) (ak (fun _ => ⟨rfl, fun _ _ => rfl⟩) (ak (fun _ => ⟨rfl, fun _ _ => rfl⟩) (ak (fun γ => ⟨rfl, fun w' _ => ex_eqU rfl rfl rfl (decide_eq_false (h2))⟩) (ak (by refine fun γ => ⟨rfl, fun w' h => ?_⟩; clear h; go_simp) trivial)))))
  intro _ w7 H7
  clear H6
  refine rest0 rfl (then_normal (wp_cond_false rfl ?_))
  refine wp_skip (then_normal (wp_seq ?_))
  refine walk_seqB 5 [.quiet (.agg (kd p r c gx gy).toArray), .quiet (U (jU p x z X)), .quiet (U (jU p x z X)), .call (U (tm p (jU p x z X) (jU p x z X))), .quiet (U (tm p (jU p x z X) (jU p x z X)))] H7 ?ho8 ?he8
  case ho8 => exact ak (fun γ => ⟨rfl, fun w' h => ex_loadT h 0 rfl rfl rfl Try.isAgg72 Try.sizeOf72 rfl rfl⟩) (ak (fun _ => ⟨rfl, fun _ _ => rfl⟩) (ak (fun _ => ⟨rfl, fun _ _ => rfl⟩) (ak (fun γ => ⟨rfl, fun w' h => ⟨69, #[.agg (kd p r c gx gy).toArray, U (jU p x z X), U (jU p x z X)], exec_call rfl call69 rfl (mpn rfl), times_any hp (jU p x z X) (jU p x z X) (mi_lt hp) (mi_lt hp) w'⟩⟩) (ak (fun _ => ⟨rfl, fun _ _ => rfl⟩) trivial))))
  intro _ w8 H8
  clear H7
  refine rest0 rfl (then_normal (wp_seq ?_))
  refine walk_seqB 5 [.quiet (.agg (kd p r c gx gy).toArray), .quiet (U (tm p (jU p x z X) (jU p x z X))), .quiet (U (jU p x z X)), .call (U (jC p (jU p x z X))), .quiet (U (jC p (jU p x z X)))] H8 ?ho9 ?he9
  case ho9 => exact ak (fun γ => ⟨rfl, fun w' h => ex_loadT h 0 rfl rfl rfl Try.isAgg72 Try.sizeOf72 rfl rfl⟩) (ak (fun _ => ⟨rfl, fun _ _ => rfl⟩) (ak (fun _ => ⟨rfl, fun _ _ => rfl⟩) (ak (fun γ => ⟨rfl, fun w' h => ⟨69, #[.agg (kd p r c gx gy).toArray, U (tm p (jU p x z X) (jU p x z X)), U (jU p x z X)], exec_call rfl call69 rfl (mpn rfl), times_any hp (tm p (jU p x z X) (jU p x z X)) (jU p x z X) (tm_lt hp) (mi_lt hp) w'⟩⟩) (ak (fun _ => ⟨rfl, fun _ _ => rfl⟩) trivial))))
  intro _ w9 H9
  clear H8
  refine rest0 rfl (then_normal (wp_seq ?_))
  refine walk_seqB 6 [.quiet (.agg (kd p r c gx gy).toArray), .quiet (PT γ1_1 0), .quiet (U x), .quiet (U (tm p (jU p x z X) (jU p x z X))), .call (U (jM p x (jU p x z X))), .quiet (U (jM p x (jU p x z X)))] H9 ?ho10 ?he10
  case ho10 => exact ak (fun γ => ⟨rfl, fun w' h => ex_loadT h 0 rfl rfl rfl Try.isAgg72 Try.sizeOf72 rfl rfl⟩) (ak (by refine fun γ => ⟨rfl, fun w' h => ?_⟩; clear h; go_simp) (ak (fun γ => ⟨rfl, fun w' h => ex_loadC h 1 rfl rfl rfl Try.isAgg23 rfl⟩) (ak (fun _ => ⟨rfl, fun _ _ => rfl⟩) (ak (fun γ => ⟨rfl, fun w' h => ⟨69, #[.agg (kd p r c gx gy).toArray, U x, U (tm p (jU p x z X) (jU p x z X))], exec_call rfl call69 rfl (mpn rfl), times_any hp x (tm p (jU p x z X) (jU p x z X)) hx (tm_lt hp) w'⟩⟩) (ak (fun _ => ⟨rfl, fun _ _ => rfl⟩) trivial)))))
  intro _ w10 H10
  clear H9
  refine rest0 rfl (then_normal (wp_seq ?_))
  refine walk_anyB 14 [.quiet (.agg (kd p r c gx gy).toArray), .quiet (.agg (kd p r c gx gy).toArray), .quiet (.agg (kd p r c gx gy).toArray), .quiet (U (jS p y z Y)), .quiet (U (jS p y z Y)), .call (U (tm p (jS p y z Y) (jS p y z Y))), .quiet (U (jC p (jU p x z X))), .call (U (mi p (tm p (jS p y z Y) (jS p y z Y)) (jC p (jU p x z X)))), .quiet (.agg (kd p r c gx gy).toArray), .quiet (U (jM p x (jU p x z X))), .quiet (U (jM p x (jU p x z X))), .call (U (pl p (jM p x (jU p x z X)) (jM p x (jU p x z X)))), .call (U (jX p x (jU p x z X) (jS p y z Y))), .quiet (U (jX p x (jU p x z X) (jS p y z Y)))] H10 ?ho11 ?he11
  case ho11 => exact ak (fun γ => ⟨rfl, fun w' h => ex_loadT h 0 rfl rfl rfl Try.isAgg72 Try.sizeOf72 rfl rfl⟩) (ak (fun γ => ⟨rfl, fun w' h => ex_loadT h 0 rfl rfl rfl Try.isAgg72 Try.sizeOf72 rfl rfl⟩) (ak (fun γ => ⟨rfl, fun w' h => ex_loadT h 0 rfl rfl rfl Try.isAgg72 Try.sizeOf72 rfl rfl⟩) (ak (fun _ => ⟨rfl, fun _ _ => rfl⟩) (ak (fun _ => ⟨rfl, fun _ _ => rfl⟩) (ak (fun γ => ⟨rfl, fun w' h => ⟨69, #[.agg (kd p r c gx gy).toArray, U (jS p y z Y), U (jS p y z Y)], exec_call rfl call69 rfl (mpn rfl), times_any hp (jS p y z Y) (jS p y z Y) (mi_lt hp) (mi_lt hp) w'⟩⟩) (ak (fun _ => ⟨rfl, fun _ _ => rfl⟩) (ak (fun γ => ⟨rfl, fun w' h => ⟨48, #[.agg (kd p r c gx gy).toArray, U (tm p (jS p y z Y) (jS p y z Y)), U (jC p (jU p x z X))], exec_call rfl call48 rfl (mpn rfl), minus_any hp (tm p (jS p y z Y) (jS p y z Y)) (jC p (jU p x z X)) (tm_lt hp) (tm_lt hp) w'⟩⟩) (ak (fun γ => ⟨rfl, fun w' h => ex_loadT h 0 rfl rfl rfl Try.isAgg72 Try.sizeOf72 rfl rfl⟩) (ak (fun _ => ⟨rfl, fun _ _ => rfl⟩) (ak (fun _ => ⟨rfl, fun _ _ => rfl⟩) (ak (fun γ => ⟨rfl, fun w' h => ⟨71, #[.agg (kd p r c gx gy).toArray, U (jM p x (jU p x z X)), U (jM p x (jU p x z X))], exec_call rfl call71 rfl (mpn rfl), plus_any hp (jM p x (jU p x z X)) (jM p x (jU p x z X)) (tm_lt hp) (tm_lt hp) w'⟩⟩) (ak (fun γ => ⟨rfl, fun w' h => ⟨48, #[.agg (kd p r c gx gy).toArray, U (mi p (tm p (jS p y z Y) (jS p y z Y)) (jC p (jU p x z X))), U (pl p (jM p x (jU p x z X)) (jM p x (jU p x z X)))], exec_call rfl call48 rfl (mpn rfl), minus_any hp (mi p (tm p (jS p y z Y) (jS p y z Y)) (jC p (jU p x z X))) (pl p (jM p x (jU p x z X)) (jM p x (jU p x z X))) (mi_lt hp) (pl_lt hp) w'⟩⟩) (ak (fun _ => ⟨rfl, fun _ _ => rfl⟩) trivial)))))))))))))
  intro _ w11 H11
  clear H10
  refine rest0 rfl (then_normal (wp_seq ?_))
  refine walk_put (by kernel_rfl) 22 [21] [.quiet (U (jX p x (jU p x z X) (jS p y z Y))), .quiet (.agg (kd p r c gx gy).toArray), .quiet (.agg (kd p r c gx gy).toArray), .quiet (U (jS p y z Y)), .quiet (.agg (kd p r c gx gy).toArray), .quiet (U (jM p x (jU p x z X))), .quiet (U (jX p x (jU p x z X) (jS p y z Y))), .call (U (mi p (jM p x (jU p x z X)) (jX p x (jU p x z X) (jS p y z Y)))), .call (U (tm p (jS p y z Y) (mi p (jM p x (jU p x z X)) (jX p x (jU p x z X) (jS p y z Y))))), .quiet (.agg (kd p r c gx gy).toArray), .quiet (PT γ1_1 1), .quiet (U y), .quiet (U (jC p (jU p x z X))), .call (U (tm p y (jC p (jU p x z X)))), .call (U (mi p (tm p (jS p y z Y) (mi p (jM p x (jU p x z X)) (jX p x (jU p x z X) (jS p y z Y)))) (tm p y (jC p (jU p x z X))))), .quiet (.agg (kd p r c gx gy).toArray), .quiet (PT γ1_1 2), .quiet (U z), .quiet (U (jU p x z X)), .call (U (tm p z (jU p x z X))), .quiet (.agg (tr (jX p x (jU p x z X) (jS p y z Y)) (mi p (tm p (jS p y z Y) (mi p (jM p x (jU p x z X)) (jX p x (jU p x z X) (jS p y z Y)))) (tm p y (jC p (jU p x z X)))) (tm p z (jU p x z X))).toArray), .quiet (U (jS p y z Y))] _ ?pre12 ?F12 _ ?hpre12 (fun γ => ?hF12) (by kernel_rfl) rfl trivial (sB H11) ?ho12 ?hla12 ?he12
  case hpre12 => simp only [tk, tz]; rfl
  case hF12 => simp only [fill, Kind.val, Act.put, sa, sz, ss]; rfl
  case ho12 =>
    refine ak (fun _ => ⟨rfl, fun _ _ => rfl⟩) ?_
    refine ak (fun γ => ⟨rfl, fun w' h => ex_loadT h 0 rfl rfl rfl Try.isAgg72 Try.sizeOf72 rfl rfl⟩) ?_
    refine ak (fun γ => ⟨rfl, fun w' h => ex_loadT h 0 rfl rfl rfl Try.isAgg72 Try.sizeOf72 rfl rfl⟩) ?_
    refine ak (fun _ => ⟨rfl, fun _ _ => rfl⟩) ?_
    refine ak (fun γ => ⟨rfl, fun w' h => ex_loadT h 0 rfl rfl rfl Try.isAgg72 Try.sizeOf72 rfl rfl⟩) ?_
    refine ak (fun _ => ⟨rfl, fun _ _ => rfl⟩) ?_
    refine ak (fun _ => ⟨rfl, fun _ _ => rfl⟩) ?_
    refine ak (fun γ => ⟨rfl, fun w' h => ⟨48, #[.agg (kd p r c gx gy).toArray, U (jM p x (jU p x z X)), U (jX p x (jU p x z X) (jS p y z Y))], exec_call rfl call48 rfl (mpn rfl), minus_any hp (jM p x (jU p x z X)) (jX p x (jU p x z X) (jS p y z Y)) (tm_lt hp) (mi_lt hp) w'⟩⟩) ?_
    refine ak (fun γ => ⟨rfl, fun w' h => ⟨69, #[.agg (kd p r c gx gy).toArray, U (jS p y z Y), U (mi p (jM p x (jU p x z X)) (jX p x (jU p x z X) (jS p y z Y)))], exec_call rfl call69 rfl (mpn rfl), times_any hp (jS p y z Y) (mi p (jM p x (jU p x z X)) (jX p x (jU p x z X) (jS p y z Y))) (mi_lt hp) (mi_lt hp) w'⟩⟩) ?_
    refine ak (fun γ => ⟨rfl, fun w' h => ex_loadT h 0 rfl rfl rfl Try.isAgg72 Try.sizeOf72 rfl rfl⟩) ?_
    refine ak (by refine fun γ => ⟨rfl, fun w' h => ?_⟩; clear h; go_simp) ?_
    refine ak (fun γ => ⟨rfl, fun w' h => ex_loadC h 1 rfl rfl rfl Try.isAgg23 rfl⟩) ?_
    refine ak (fun _ => ⟨rfl, fun _ _ => rfl⟩) ?_
    refine ak (fun γ => ⟨rfl, fun w' h => ⟨69, #[.agg (kd p r c gx gy).toArray, U y, U (jC p (jU p x z X))], exec_call rfl call69 rfl (mpn rfl), times_any hp y (jC p (jU p x z X)) hy (tm_lt hp) w'⟩⟩) ?_
    refine ak (fun γ => ⟨rfl, fun w' h => ⟨48, #[.agg (kd p r c gx gy).toArray, U (tm p (jS p y z Y) (mi p (jM p x (jU p x z X)) (jX p x (jU p x z X) (jS p y z Y)))), U (tm p y (jC p (jU p x z X)))], exec_call rfl call48 rfl (mpn rfl), minus_any hp (tm p (jS p y z Y) (mi p (jM p x (jU p x z X)) (jX p x (jU p x z X) (jS p y z Y)))) (tm p y (jC p (jU p x z X))) (tm_lt hp) (tm_lt hp) w'⟩⟩) ?_
    refine ak (fun γ => ⟨rfl, fun w' h => ex_loadT h 0 rfl rfl rfl Try.isAgg72 Try.sizeOf72 rfl rfl⟩) ?_
    refine ak (by refine fun γ => ⟨rfl, fun w' h => ?_⟩; clear h; go_simp) ?_
    refine ak (fun γ => ⟨rfl, fun w' h => ex_loadC h 1 rfl rfl rfl Try.isAgg23 rfl⟩) ?_
    refine ak (fun _ => ⟨rfl, fun _ _ => rfl⟩) ?_
    refine ak (fun γ => ⟨rfl, fun w' h => ⟨69, #[.agg (kd p r c gx gy).toArray, U z, U (jU p x z X)], exec_call rfl call69 rfl (mpn rfl), times_any hp z (jU p x z X) hz (mi_lt hp) w'⟩⟩) ?_
    refine ak (fun γ => ⟨rfl, fun w' _ => ex_build77_012 rfl rfl rfl rfl⟩) ?_
    refine ak (fun _ => ⟨rfl, fun _ _ => rfl⟩) ?_
    exact trivial
  case hla12 => exact ⟨⟨_, _, rfl, rfl, fun γ => ⟨rfl, fun w' => by first | rfl | go_simp⟩⟩, trivial⟩
  intro γ w12 l hM hl
  have H12 := keepB H11 hM.below
  clear hM hl l H11 γ
  refine ⟨_, ex_storeT (vs := tr (jX p x (jU p x z X) (jS p y z Y)) (mi p (tm p (jS p y z Y) (mi p (jM p x (jU p x z X)) (jX p x (jU p x z X) (jS p y z Y)))) (tm p y (jC p (jU p x z X)))) (tm p z (jU p x z X))) H12.out.1 3 rfl rfl rfl rfl Try.sizeOf77 rfl (Nat.le_of_ble_eq_true rfl), ?_⟩
  have H13 : Hid (Mm (w12.setCells γ1_3 0 (tr (jX p x (jU p x z X) (jS p y z Y)) (mi p (tm p (jS p y z Y) (mi p (jM p x (jU p x z X)) (jX p x (jU p x z X) (jS p y z Y)))) (tm p y (jC p (jU p x z X)))) (tm p z (jU p x z X)))) [(γ1_0, kd p r c gx gy), (γ1_1, tr x y z), (γ1_2, pt X Y false), (γ1_3, tr (jX p x (jU p x z X) (jS p y z Y)) (mi p (tm p (jS p y z Y) (mi p (jM p x (jU p x z X)) (jX p x (jU p x z X) (jS p y z Y)))) (tm p y (jC p (jU p x z X)))) (tm p z (jU p x z X)))] ∧ Below w.heap.size w (w12.setCells γ1_3 0 (tr (jX p x (jU p x z X) (jS p y z Y)) (mi p (tm p (jS p y z Y) (mi p (jM p x (jU p x z X)) (jX p x (jU p x z X) (jS p y z Y)))) (tm p y (jC p (jU p x z X)))) (tm p z (jU p x z X))))) := ⟨H12.out.1.put 3 (off := 0) (vs := tr (jX p x (jU p x z X) (jS p y z Y)) (mi p (tm p (jS p y z Y) (mi p (jM p x (jU p x z X)) (jX p x (jU p x z X) (jS p y z Y)))) (tm p y (jC p (jU p x z X)))) (tm p z (jU p x z X))) rfl (Nat.le_of_ble_eq_true rfl), below_setCells _ o1_3.out _ _ _ H12.out.2⟩
  clear H12
  generalize hgw : World.setCells _ _ _ _ = w13 at H13 ⊢
  clear hgw
  refine rest_at (l := [23]) rfl ?_
  refine rest_set (d := 7) rfl rfl rfl rfl ?_
  simp only [Act.put, sa, sz, ss]
  refine rest_nil (then_normal (wp_ret ?_))
  repeat (first | refine then_ret ?_ | refine block_ret ?_)
  have hf0 := var_T H13.out.1 3 rfl Try.isAgg77 Try.sizeOf77 rfl
  refine bodyPost_ret (v := .tuple #[.agg (tr (jX p x (jU p x z X) (jS p y z Y)) (mi p (tm p (jS p y z Y) (mi p (jM p x (jU p x z X)) (jX p x (jU p x z X) (jS p y z Y)))) (tm p y (jC p (jU p x z X)))) (tm p z (jU p x z X))).toArray, U (jS p y z Y)]) (by simp [results, Try.results44, asAddr, Act.eval, hf0]) rfl ?_
  exact ⟨rfl, H13.out.2⟩
theorem joined_any (hp : Pr p) (t : T3) (ht : Lt3 p t) (X Y : Nat) (Z : Bool) (hX : X < p) (hY : Y < p) (w : World) : Calls Try.prog 44 #[.agg (kd p r c gx gy).toArray, .agg (tr t.1 t.2.1 t.2.2).toArray, .agg (pt X Y Z).toArray] w fun e w' => e = .returned (.tuple #[V (tc (jnT p t X Y Z)), U (jnR p t X Y Z)]) ∧ Below w.heap.size w w' := by
  cases Z
  · by_cases h : t.2.2 = 0
    · rw [jnT_0 h, jnR_0 h]; exact joined_0 _ _ _ X Y h w
    · by_cases h1 : jU p t.1 t.2.2 X = 0
      · by_cases h2 : jS p t.2.1 t.2.2 Y = 0
        · rw [jnT_s h ⟨h1, h2⟩, jnR_s h ⟨h1, h2⟩]; exact joined_same hp _ _ _ ht.x ht.y ht.z X Y hX hY h h1 h2 w
        · rw [jnT_g h (fun e => h2 e.2), jnR_g h (fun e => h2 e.2)]; exact joined_s hp _ _ _ ht.x ht.y ht.z X Y hX hY h h1 h2 w
      · rw [jnT_g h (fun e => h1 e.1), jnR_g h (fun e => h1 e.1)]; exact joined_u hp _ _ _ ht.x ht.y ht.z X Y hX hY h h1 w
  · exact joined_z _ _ _ X Y w
end
end Rg
end Go.Proofs.Ytjmbgchoioepjaa
end
