/- The leading divisor: guess, shift -/
import Derived.Test.YtoagmdgmbkpghaaM4
import Derived.Test.YtoagmdgmbkpghaaPR
import Derived.Test.YtoagmdgmbkpghaaPA2
namespace Go.Proofs.Ytoagmdgmbkpghaa
open Go.RowKit
namespace Rg

theorem ex_shl {ρ : Operand → Value} {o : Oper} {x y : Operand} {a : Int} {k : Nat} {w : World} (ho : o.op = .binOp .shl 22 x y 3) (hx : ρ x = .int .u64 a) (hy : ρ y = .int .i64 ((k : Nat) : Int)) (hk : k ≤ 64) :
    (execOp ρ o).run Try.prog w = .ok (.value (.int .u64 (IntKind.u64.wrap (a * 2 ^ k)))) w := by
  simp only [execOp, ho, hx, hy]
  clear ho hx hy
  go_simp
theorem ex_shr {ρ : Operand → Value} {o : Oper} {x y : Operand} {a : Int} {k : Nat} {w : World} (ho : o.op = .binOp .shr 22 x y 3) (hx : ρ x = .int .u64 a) (hy : ρ y = .int .i64 ((k : Nat) : Int)) (hk : k ≤ 64) :
    (execOp ρ o).run Try.prog w = .ok (.value (.int .u64 (a / 2 ^ k))) w := by
  simp only [execOp, ho, hx, hy]
  clear ho hx hy
  go_simp
theorem ex_or {ρ : Operand → Value} {o : Oper} {x y : Operand} {a b : Int} {w : World} (ho : o.op = .binOp .or 22 x y 22) (hx : ρ x = .int .u64 a) (hy : ρ y = .int .u64 b) :
    (execOp ρ o).run Try.prog w = .ok (.value (.int .u64 (bits .or .u64 a b))) w := by
  simp only [execOp, ho, hx, hy]
  clear ho hx hy
  go_simp
set_option maxHeartbeats 400000 in
theorem guessM_any (h l t : Nat) (hl : l < 18446744073709551616) (ht : t < 18446744073709551616) (w : World) :
    Calls Try.prog 52 #[.int .u64 h, .int .u64 l, .int .u64 t] w fun e w' => e = .returned (.int .u64 ((gs h l t : Nat) : Int)) ∧ Below w.heap.size w w' := by
  unfold gs
  by_cases c : t ≤ h
  · rw [if_pos c]
    clear hl ht
    go_enter Try.func52, Try.ntmps52
    go_wp2
    go_ret
    exact ⟨rfl, Below.refl _ _⟩
  · rw [if_neg c]
    have hc := fun w => div64_any h l t (by omega) ht hl w
    generalize (h * 18446744073709551616 + l) / t = q at hc ⊢
    have HC : Hid _ := hc
    clear hc hl ht
    go_enter Try.func52, Try.ntmps52
    go_wp2_with (go_at_call 53; refine (HC.out _).mono ?_; rintro e w' ⟨rr, rfl, hb⟩)
    go_ret
    obtain ⟨k, rfl⟩ := hb
    exact ⟨rfl, below_drewN (Below.refl _ _) k⟩
/-- A divisor and what is left, in memory. -/
abbrev lec (b : Nat) (f : Nat → Int) : List Value := [.int .u64 (wd b 0), .int .u64 (wd b 1), .int .u64 (wd b 2), .int .u64 (wd b 3), .int .u64 (wd b 4), .int .u64 (wd b 5), .int .u64 (f 0), .int .u64 (f 1), .int .u64 (f 2), .int .u64 (f 3), .int .u64 (f 4), .int .u64 (f 5)]
theorem lec_hi {b : Nat} {f : Nat → Int} {j : Nat} (hj : j < 6) : (lec b f)[6 + j]? = some (.int .u64 (f j)) := by
  match j, hj with
  | 0, _ => rfl
  | 1, _ => rfl
  | 2, _ => rfl
  | 3, _ => rfl
  | 4, _ => rfl
  | 5, _ => rfl
theorem lec_lo {b : Nat} {f : Nat → Int} {j : Nat} (hj : j < 6) : (lec b f)[0 + j]? = some (.int .u64 (wd b j)) := by
  match j, hj with
  | 0, _ => rfl
  | 1, _ => rfl
  | 2, _ => rfl
  | 3, _ => rfl
  | 4, _ => rfl
  | 5, _ => rfl
theorem lec_put {b : Nat} {f : Nat → Int} {j : Nat} {v : Int} (hj : j < 6) : patch (lec b f) (6 + j) [.int .u64 v] = lec b (upd f j v) := by
  match j, hj with
  | 0, _ => rfl
  | 1, _ => rfl
  | 2, _ => rfl
  | 3, _ => rfl
  | 4, _ => rfl
  | 5, _ => rfl
theorem lec_bd {b : Nat} {f : Nat → Int} {j : Nat} (hj : j < 6) : 6 + j < (lec b f).length := by
  show 6 + j < 12
  omega
theorem lec_congr {b : Nat} {f g : Nat → Int} (h : ∀ j, j < 6 → f j = g j) : lec b f = lec b g := by
  unfold lec
  rw [h 0 (by decide), h 1 (by decide), h 2 (by decide), h 3 (by decide), h 4 (by decide), h 5 (by decide)]
/-! Words of a number that is shifted by at most a word. -/
theorem sh_bits (a n k : Nat) (hn : n ≤ 64) : ((a >>> (64 * (k + 1)) % 2 ^ 64) <<< n) % 2 ^ 64 ||| (a >>> (64 * k) % 2 ^ 64) >>> (64 - n) = (a <<< n) >>> (64 * (k + 1)) % 2 ^ 64 := by
  apply Nat.eq_of_testBit_eq
  intro i
  simp only [Nat.testBit_or, Nat.testBit_mod_two_pow, Nat.testBit_shiftLeft, Nat.testBit_shiftRight]
  by_cases hi : i < 64
  · have e1 : n ≤ 64 * (k + 1) + i := by omega
    by_cases ht : n ≤ i
    · have e2 : 64 * (k + 1) + (i - n) = 64 * (k + 1) + i - n := by omega
      have e3 : i - n < 64 := by omega
      have e4 : ¬ 64 - n + i < 64 := by omega
      simp [hi, ht, e1, e2, e3, e4]
    · have e4 : 64 - n + i < 64 := by omega
      have e5 : 64 * k + (64 - n + i) = 64 * (k + 1) + i - n := by omega
      simp [hi, ht, e1, e4, e5]
  · have e4 : ¬ 64 - n + i < 64 := by omega
    simp [hi, e4]
theorem sh_word (a n k : Nat) (hn : n ≤ 64) : bits .or .u64 (IntKind.u64.wrap (wd a (k + 1) * 2 ^ n)) (wd a k / 2 ^ (64 - n)) = wd (a * 2 ^ n) (k + 1) := by
  rw [wd_shr, wrap_shl, wd_shr, div_shr, wd_shr, ← Nat.shiftLeft_eq, ← sh_bits a n k hn]
  refine bits_or_u64_nat _ _ (Nat.mod_lt _ (by decide)) ?_
  rw [Nat.shiftRight_eq_div_pow]
  exact Nat.lt_of_le_of_lt (Nat.div_le_self _ _) (Nat.mod_lt _ (by decide))
theorem sh_low (a n : Nat) : IntKind.u64.wrap (wd a 0 * 2 ^ n) = wd (a * 2 ^ n) 0 := by
  rw [wd_shr, wrap_shl, wd_shr, Nat.mul_zero, Nat.shiftRight_zero, Nat.shiftRight_zero, Nat.shiftLeft_eq, Nat.mod_mul_mod]
theorem wd_last (a j : Nat) (h : a < 2 ^ (64 * (j + 1))) : wd a j = ((a / 2 ^ (64 * j) : Nat) : Int) := by
  unfold wd
  rw [Nat.mod_eq_of_lt]
  rw [Nat.div_lt_iff_lt_mul (pow_pos' j), Nat.mul_comm, ← pow_step]
  exact h
theorem sh_topj (a n j : Nat) (ha : a < 2 ^ (64 * (j + 1))) (hn : n ≤ 64) : wd a j / 2 ^ (64 - n) = ((a * 2 ^ n / 2 ^ (64 * (j + 1)) : Nat) : Int) := by
  rw [wd_last a j ha, div_shr, Nat.shiftRight_eq_div_pow, Nat.div_div_eq_div_mul]
  congr 1
  have hW : 18446744073709551616 = 2 ^ (64 - n) * 2 ^ n := by
    rw [← Nat.pow_add, Nat.sub_add_cancel hn]
  rw [pow_step j, hW, ← Nat.mul_assoc, Nat.mul_div_mul_right _ _ (Nat.two_pow_pos n)]
theorem big_j (j : Nat) (hj : j = 5) : big = 2 ^ (64 * (j + 1)) := by
  obtain ⟨m, hm, e⟩ := big_pow
  rw [e, show m = j + 1 by omega]
theorem sh_top (a n : Nat) (ha : a < big) (hn : n ≤ 64) : wd a 5 / 2 ^ (64 - n) = ((a * 2 ^ n / big : Nat) : Int) := by
  obtain ⟨j, hj⟩ : ∃ j, j = 5 := ⟨5, rfl⟩
  rw [big_j j hj] at ha ⊢
  rw [← hj]
  exact sh_topj a n j ha hn
/-- What is left, words above the k-th from above shifted. -/
def shf (a n k m : Nat) : Int := if 5 - k < m then wd (a * 2 ^ n) m else wd a m
theorem shf_at {a n k m b : Nat} (hm : m ≤ 5 - k) (h6 : m < 6) : (lec b (shf a n k))[6 + m]? = some (.int .u64 (wd a m)) := by
  rw [lec_hi h6]
  unfold shf
  rw [if_neg (by omega)]
theorem shf_step {a n k b : Nat} {v : Int} (hk : k < 5) (h : v = wd (a * 2 ^ n) (5 - k)) : lec b (upd (shf a n k) (5 - k) v) = lec b (shf a n (k + 1)) := lec_congr fun j _ => by
  unfold upd shf
  by_cases h1 : j = 5 - k
  · subst h1; rw [if_pos rfl, if_pos (by omega), h]
  · rw [if_neg h1]
    by_cases h2 : 5 - k < j
    · rw [if_pos h2, if_pos (by omega)]
    · rw [if_neg h2, if_neg (by omega)]
theorem shf_start (a n b : Nat) : lec b (wd a) = lec b (shf a n 0) := lec_congr fun j hj => by
  unfold shf
  rw [if_neg (by omega)]
theorem lec_put0 {b : Nat} {f : Nat → Int} {v : Int} : patch (lec b f) 6 [.int .u64 v] = lec b (upd f 0 v) := rfl
theorem shf_end (a n b : Nat) : lec b (upd (shf a n 5) 0 (IntKind.u64.wrap (wd a 0 * 2 ^ n))) = lec b (wd (a * 2 ^ n % big)) := lec_congr fun j hj => by
  rw [wd_mod _ _ hj]
  unfold upd shf
  by_cases h1 : j = 0
  · subst h1; rw [if_pos rfl, sh_low]
  · rw [if_neg h1, if_pos (by omega)]
set_option maxHeartbeats 1000000 in
set_option maxRecDepth 100000 in
theorem shift_gen (g b L i : Nat) (hi : i ≤ 64) (w : World) (hm : Mm w [(g, lec b (wd L))]) :
    Calls Try.prog 50 #[PT g 0, .int .i64 ((i : Nat) : Int)] w fun e w' => e = .returned (.int .u64 (wd L 5 / 2 ^ (64 - i))) ∧ Mm w' [(g, lec b (wd (L * 2 ^ i % big)))] ∧ Kp g w w' := by
  have H0 : Hid (_ ∧ _) := ⟨hm, Kp.refl g w⟩
  clear hm
  go_enter Try.func50, Try.ntmps50
  refine wp_seq ?_
  refine walk_seq 1 [.quiet (.int .u64 0)] (fun w' => Mm w' [(g, lec b (wd L))]) ?pre1 ?F1 ?hpre1 (fun γ => ?hF1) (by kernel_rfl) ?hL1 ?hS1 ?ho1 ?he1
  case hpre1 =>
    simp only [List.take_succ_cons, List.take_zero]
    exact rfl
  case hF1 =>
    simp only [fill, Kind.val, Act.put, List.setIfInBounds_toArray, List.set_cons_zero, List.set_cons_succ]
    exact rfl
  case hL1 => exact trivial
  case hS1 => exact fun w' hb => H0.out.1.below hb
  case ho1 =>
    refine AllOk.cons ?_ ?_
    · exact fun γ => ⟨rfl, fun w' _ => rfl⟩
    exact trivial
  intro γ w1 l hM hl
  have M1 : Mm w1 [(g, lec b (wd L))] := H0.out.1.grow hM (Nat.le_refl _) hl [] rfl (by decide)
  have B1 : Kp g w w1 := H0.out.2.trans (hM.below)
  clear hM hl l
  clear γ
  have H1 : Hid (_ ∧ _) := ⟨M1, B1⟩
  clear M1 B1
  refine rest_at (l := []) rfl ?_
  refine rest_nil ?_
  refine then_normal ?_
  refine wp_seq ?_
  refine walk_seq 1 [.quiet (.int .i64 5)] (fun w' => Mm w' [(g, lec b (wd L))]) ?pre2 ?F2 ?hpre2 (fun γ => ?hF2) (by kernel_rfl) ?hL2 ?hS2 ?ho2 ?he2
  case hpre2 =>
    simp only [List.take_succ_cons, List.take_zero]
    exact rfl
  case hF2 =>
    simp only [fill, Kind.val, Act.put, List.setIfInBounds_toArray, List.set_cons_zero, List.set_cons_succ]
    exact rfl
  case hL2 => exact trivial
  case hS2 => exact fun w' hb => H1.out.1.below hb
  case ho2 =>
    refine AllOk.cons ?_ ?_
    · exact fun γ => ⟨rfl, fun w' _ => rfl⟩
    exact trivial
  intro γ w2 l hM hl
  have M2 : Mm w2 [(g, lec b (wd L))] := H1.out.1.grow hM (Nat.le_refl _) hl [] rfl (by decide)
  have B2 : Kp g w w2 := H1.out.2.trans (hM.below)
  clear hM hl l H1
  clear γ
  have H2 : Hid (_ ∧ _) := ⟨M2, B2⟩
  clear M2 B2
  refine rest_at (l := []) rfl ?_
  refine rest_nil ?_
  refine then_normal ?_
  refine wp_seq ?_
  refine walk_seq 10 [.quiet (PT g 0), .quiet (.int .i64 5), .quiet (PT g 0), .quiet (PT g 6), .quiet (PT g 11), .quiet (.int .u64 (wd L 5)), .quiet (.int .i64 ((i : Nat) : Int)), .quiet (.int .i64 ((64 - i : Nat) : Int)), .quiet (.int .u64 ((wd L 5) / 2 ^ (64 - i))), .quiet (.int .u64 ((wd L 5) / 2 ^ (64 - i)))] (fun w' => Mm w' [(g, lec b (wd L))]) ?pre3 ?F3 ?hpre3 (fun γ => ?hF3) (by kernel_rfl) ?hL3 ?hS3 ?ho3 ?he3
  case hpre3 =>
    simp only [List.take_succ_cons, List.take_zero]
    exact rfl
  case hF3 =>
    simp only [fill, Kind.val, Act.put, List.setIfInBounds_toArray, List.set_cons_zero, List.set_cons_succ]
    exact rfl
  case hL3 => exact trivial
  case hS3 => exact fun w' hb => H2.out.1.below hb
  case ho3 =>
    refine AllOk.cons ?_ ?_
    · exact fun γ => ⟨rfl, fun w' _ => rfl⟩
    refine AllOk.cons ?_ ?_
    · exact fun γ => ⟨rfl, fun w' _ => rfl⟩
    refine AllOk.cons ?_ ?_
    · (refine fun γ => ⟨rfl, fun w' h => ?_⟩; clear h; go_simp)
    refine AllOk.cons ?_ ?_
    · (refine fun γ => ⟨rfl, fun w' h => ?_⟩; clear h; go_simp)
    refine AllOk.cons ?_ ?_
    · (refine fun γ => ⟨rfl, fun w' h => ?_⟩; clear h; go_simp)
    refine AllOk.cons ?_ ?_
    · exact fun γ => ⟨rfl, fun w' h => ex_load1 h 0 rfl rfl rfl rfl⟩
    refine AllOk.cons ?_ ?_
    · exact fun γ => ⟨rfl, fun w' _ => rfl⟩
    refine AllOk.cons ?_ ?_
    · (refine fun γ => ⟨rfl, fun w' h => ?_⟩; clear h; go_simp; rw [IntKind.wrap_i64]; omega)
    refine AllOk.cons ?_ ?_
    · exact fun γ => ⟨rfl, fun w' _ => ex_shr rfl rfl rfl (Nat.sub_le 64 i)⟩
    refine AllOk.cons ?_ ?_
    · exact fun γ => ⟨rfl, fun w' _ => rfl⟩
    exact trivial
  intro γ w3 l hM hl
  have M3 : Mm w3 [(g, lec b (wd L))] := H2.out.1.grow hM (Nat.le_refl _) hl [] rfl (by decide)
  have B3 : Kp g w w3 := H2.out.2.trans (hM.below)
  clear hM hl l H2
  clear γ
  have H3 : Hid (_ ∧ _) := ⟨M3, B3⟩
  clear M3 B3
  refine rest_at (l := []) rfl ?_
  refine rest_nil ?_
  refine then_normal ?_
  refine wp_seq ?_
  refine wp_seq ?_
  refine walk_seq 2 [.quiet (.int .i64 5), .quiet (.int .i64 5)] (fun w' => Mm w' [(g, lec b (wd L))]) ?pre4 ?F4 ?hpre4 (fun γ => ?hF4) (by kernel_rfl) ?hL4 ?hS4 ?ho4 ?he4
  case hpre4 =>
    simp only [List.take_succ_cons, List.take_zero]
    exact rfl
  case hF4 =>
    simp only [fill, Kind.val, Act.put, List.setIfInBounds_toArray, List.set_cons_zero, List.set_cons_succ]
    exact rfl
  case hL4 => exact trivial
  case hS4 => exact fun w' hb => H3.out.1.below hb
  case ho4 =>
    refine AllOk.cons ?_ ?_
    · exact fun γ => ⟨rfl, fun w' _ => rfl⟩
    refine AllOk.cons ?_ ?_
    · exact fun γ => ⟨rfl, fun w' _ => rfl⟩
    exact trivial
  intro γ w4 l hM hl
  have M4 : Mm w4 [(g, lec b (wd L))] := H3.out.1.grow hM (Nat.le_refl _) hl [] rfl (by decide)
  have B4 : Kp g w w4 := H3.out.2.trans (hM.below)
  clear hM hl l H3
  clear γ
  have H4 : Hid (_ ∧ _) := ⟨M4, B4⟩
  clear M4 B4
  refine rest_at (l := []) rfl ?_
  refine rest_nil ?_
  refine then_normal ?_
  refine wp_block ?_
  refine loop_ghost (α := Nat) (fun k a' w' => ∃ s0 : Nat → Value, a' = ⟨#[PT g 0, .int .i64 ((i : Nat) : Int), undef, undef, .int .u64 0, .int .i64 5, .int .u64 ((wd L 5) / 2 ^ (64 - i)), .int .i64 ((5 - k : Nat) : Int), PT g 0, .int .i64 5, PT g 0, PT g 6, PT g 11, .int .u64 (wd L 5), .int .i64 ((i : Nat) : Int), .int .i64 ((64 - i : Nat) : Int), .int .u64 ((wd L 5) / 2 ^ (64 - i)), .int .i64 5, s0 18, s0 19, s0 20, s0 21, s0 22, s0 23, s0 24, s0 25, s0 26, s0 27, s0 28, s0 29, s0 30, s0 31, s0 32, s0 33, s0 34, s0 35, s0 36, s0 37, s0 38, s0 39, s0 40, s0 41, s0 42, s0 43, s0 44, s0 45, undef, undef, undef, undef, undef, undef, undef, undef, undef, undef, undef], []⟩ ∧ (Mm w' [(g, lec b (shf L i k))] ∧ Kp g w w') ∧ k ≤ 5) (fun k => 5 - k) 0 ?st0 ?rd0
  case st0 => exact ⟨(slotfn [undef, undef, undef, undef, undef, undef, undef, undef, undef, undef, undef, undef, undef, undef, undef, undef, undef, undef, undef, undef, undef, undef, undef, undef, undef, undef, undef, undef, undef, undef, undef, undef, undef, undef, undef, undef, undef, undef, undef, undef, undef, undef, undef, undef, undef, undef]), rfl, ⟨H4.out.1.at0 (shf_start L i b), H4.out.2⟩, by omega⟩
  intro k a' w5 hI
  obtain ⟨s0, rfl, hMB, hk0⟩ := hI
  have H5 : Hid (_ ∧ _) := hMB
  clear hMB H4
  by_cases hlt : k < 5
  · have hrd : True := trivial
    clear hrd
    obtain ⟨m, hm⟩ : ∃ m, 5 - k = m + 1 := ⟨4 - k, by omega⟩
    have hm6 : m + 1 < 6 := by omega
    have hm5 : m < 6 := by omega
    have hk1 : m + 1 ≤ 5 - k := by omega
    have hk2 : m ≤ 5 - k := by omega
    refine wp_seq ?_
    refine wp_seq ?_
    refine walk_seq 2 [.quiet (.int .i64 ((5 - k : Nat) : Int)), .quiet (.bool true)] (fun w' => Mm w' [(g, lec b (shf L i k))]) ?pre5 ?F5 ?hpre5 (fun γ => ?hF5) (by kernel_rfl) ?hL5 ?hS5 ?ho5 ?he5
    case hpre5 =>
      simp only [List.take_succ_cons, List.take_zero]
      exact rfl
    case hF5 =>
      simp only [fill, Kind.val, Act.put, List.setIfInBounds_toArray, List.set_cons_zero, List.set_cons_succ]
      exact rfl
    case hL5 => exact trivial
    case hS5 => exact fun w' hb => H5.out.1.below hb
    case ho5 =>
      refine AllOk.cons ?_ ?_
      · exact fun γ => ⟨rfl, fun w' _ => rfl⟩
      refine AllOk.cons ?_ ?_
      · (refine fun γ => ⟨rfl, fun w' h => ?_⟩; clear h; go_simp <;> omega)
      exact trivial
    intro γ w6 l hM hl
    have M6 : Mm w6 [(g, lec b (shf L i k))] := H5.out.1.grow hM (Nat.le_refl _) hl [] rfl (by decide)
    have B6 : Kp g w w6 := H5.out.2.trans (hM.below)
    clear hM hl l H5
    clear γ
    have H6 : Hid (_ ∧ _) := ⟨M6, B6⟩
    clear M6 B6
    refine rest_at (l := []) rfl ?_
    refine rest_nil ?_
    refine then_normal ?_
    refine wp_cond_true rfl ?_
    refine wp_skip ?_
    refine then_normal ?_
    refine wp_seq ?_
    refine wp_block ?_
    refine walk_put (by kernel_rfl) 24 [] [.quiet (PT g 0), .quiet (.int .i64 ((5 - k : Nat) : Int)), .quiet (PT g 0), .quiet (.int .i64 ((5 - k : Nat) : Int)), .quiet (PT g 0), .quiet (PT g 6), .quiet (PT g (6 + (5 - k))), .quiet (.int .u64 (wd L (5 - k))), .quiet (.int .i64 ((i : Nat) : Int)), .quiet (.int .u64 (IntKind.u64.wrap ((wd L (5 - k)) * 2 ^ i))), .quiet (PT g 0), .quiet (.int .i64 ((5 - k : Nat) : Int)), .quiet (.int .i64 ((m : Nat) : Int)), .quiet (PT g 0), .quiet (PT g 6), .quiet (PT g (6 + m)), .quiet (.int .u64 (wd L m)), .quiet (.int .i64 ((i : Nat) : Int)), .quiet (.int .i64 ((64 - i : Nat) : Int)), .quiet (.int .u64 ((wd L m) / 2 ^ (64 - i))), .quiet (.int .u64 (bits .or .u64 (IntKind.u64.wrap ((wd L (5 - k)) * 2 ^ i)) ((wd L m) / 2 ^ (64 - i)))), .quiet (PT g 0), .quiet (PT g 6), .quiet (PT g (6 + (5 - k)))] (fun w' => Mm w' [(g, lec b (shf L i k))]) ?pre6 ?F6 _ ?hpre6 (fun γ => ?hF6) (by kernel_rfl) rfl ?hL6 ?hS6 ?ho6 ?hla6 ?he6
    case hpre6 =>
      simp only [List.take_succ_cons, List.take_zero]
      exact rfl
    case hF6 =>
      simp only [fill, Kind.val, Act.put, List.setIfInBounds_toArray, List.set_cons_zero, List.set_cons_succ]
      exact rfl
    case hL6 => exact trivial
    case hS6 => exact fun w' hb => H6.out.1.below hb
    case ho6 =>
      refine AllOk.cons ?_ ?_
      · exact fun γ => ⟨rfl, fun w' _ => rfl⟩
      refine AllOk.cons ?_ ?_
      · exact fun γ => ⟨rfl, fun w' _ => rfl⟩
      refine AllOk.cons ?_ ?_
      · exact fun γ => ⟨rfl, fun w' _ => rfl⟩
      refine AllOk.cons ?_ ?_
      · exact fun γ => ⟨rfl, fun w' _ => rfl⟩
      refine AllOk.cons ?_ ?_
      · (refine fun γ => ⟨rfl, fun w' h => ?_⟩; clear h; go_simp)
      refine AllOk.cons ?_ ?_
      · (refine fun γ => ⟨rfl, fun w' h => ?_⟩; clear h; go_simp)
      refine AllOk.cons ?_ ?_
      · exact fun γ => ⟨rfl, fun w' _ => ex_indexAddr6 rfl rfl rfl (Nat.lt_of_le_of_lt (Nat.sub_le 5 k) (by decide))⟩
      refine AllOk.cons ?_ ?_
      · exact fun γ => ⟨rfl, fun w' h => ex_load1 h 0 rfl rfl rfl (shf_at (Nat.le_refl _) (Nat.lt_of_le_of_lt (Nat.sub_le 5 k) (by decide)))⟩
      refine AllOk.cons ?_ ?_
      · exact fun γ => ⟨rfl, fun w' _ => rfl⟩
      refine AllOk.cons ?_ ?_
      · exact fun γ => ⟨rfl, fun w' _ => ex_shl rfl rfl rfl hi⟩
      refine AllOk.cons ?_ ?_
      · exact fun γ => ⟨rfl, fun w' _ => rfl⟩
      refine AllOk.cons ?_ ?_
      · exact fun γ => ⟨rfl, fun w' _ => rfl⟩
      refine AllOk.cons ?_ ?_
      · (refine fun γ => ⟨rfl, fun w' h => ?_⟩; clear h; go_simp; rw [IntKind.wrap_i64]; omega)
      refine AllOk.cons ?_ ?_
      · (refine fun γ => ⟨rfl, fun w' h => ?_⟩; clear h; go_simp)
      refine AllOk.cons ?_ ?_
      · (refine fun γ => ⟨rfl, fun w' h => ?_⟩; clear h; go_simp)
      refine AllOk.cons ?_ ?_
      · exact fun γ => ⟨rfl, fun w' _ => ex_indexAddr6 rfl rfl rfl hm5⟩
      refine AllOk.cons ?_ ?_
      · exact fun γ => ⟨rfl, fun w' h => ex_load1 h 0 rfl rfl rfl (shf_at hk2 hm5)⟩
      refine AllOk.cons ?_ ?_
      · exact fun γ => ⟨rfl, fun w' _ => rfl⟩
      refine AllOk.cons ?_ ?_
      · (refine fun γ => ⟨rfl, fun w' h => ?_⟩; clear h; go_simp; rw [IntKind.wrap_i64]; omega)
      refine AllOk.cons ?_ ?_
      · exact fun γ => ⟨rfl, fun w' _ => ex_shr rfl rfl rfl (Nat.sub_le 64 i)⟩
      refine AllOk.cons ?_ ?_
      · exact fun γ => ⟨rfl, fun w' _ => ex_or rfl rfl rfl⟩
      refine AllOk.cons ?_ ?_
      · (refine fun γ => ⟨rfl, fun w' h => ?_⟩; clear h; go_simp)
      refine AllOk.cons ?_ ?_
      · (refine fun γ => ⟨rfl, fun w' h => ?_⟩; clear h; go_simp)
      refine AllOk.cons ?_ ?_
      · exact fun γ => ⟨rfl, fun w' _ => ex_indexAddr6 rfl rfl rfl (Nat.lt_of_le_of_lt (Nat.sub_le 5 k) (by decide))⟩
      exact trivial
    case hla6 => exact trivial
    intro γ w7 l hM hl
    have M7 : Mm w7 [(g, lec b (shf L i k))] := H6.out.1.grow hM (Nat.le_refl _) hl [] rfl (by decide)
    have B7 : Kp g w w7 := H6.out.2.trans (hM.below)
    clear hM hl l H6
    clear γ
    have H7 : Hid (_ ∧ _) := ⟨M7, B7⟩
    clear M7 B7
    refine ⟨_, ex_storeI H7.out.1 0 rfl rfl Try.sizeOf22 rfl rfl (lec_bd (Nat.lt_of_le_of_lt (Nat.sub_le 5 k) (by decide))), ?_⟩
    have H8 : Hid (Mm (w7.setCells g (6 + (5 - k)) [.int .u64 (bits .or .u64 (IntKind.u64.wrap ((wd L (5 - k)) * 2 ^ i)) ((wd L m) / 2 ^ (64 - i)))]) [(g, lec b (shf L i (k + 1)))] ∧ Kp g w (w7.setCells g (6 + (5 - k)) [.int .u64 (bits .or .u64 (IntKind.u64.wrap ((wd L (5 - k)) * 2 ^ i)) ((wd L m) / 2 ^ (64 - i)))])) := ⟨by
      have h := H7.out.1.put 0 (off := (6 + (5 - k))) (vs := [.int .u64 (bits .or .u64 (IntKind.u64.wrap ((wd L (5 - k)) * 2 ^ i)) ((wd L m) / 2 ^ (64 - i)))]) rfl (lec_bd (Nat.lt_of_le_of_lt (Nat.sub_le 5 k) (by decide)))
      rw [lec_put (Nat.lt_of_le_of_lt (Nat.sub_le 5 k) (by decide)), shf_step hlt (by rw [hm]; exact sh_word L i m hi)] at h
      exact h, H7.out.2.put (Or.inl rfl)⟩
    clear H7
    generalize hgw : World.setCells _ _ _ _ = w8 at H8 ⊢
    clear hgw
    refine rest_at (l := []) rfl ?_
    refine rest_nil ?_
    refine block_normal ?_
    refine then_normal ?_
    refine walk_seq 2 [.quiet (.int .i64 ((5 - k : Nat) : Int)), .quiet (.int .i64 ((5 - (k + 1) : Nat) : Int))] (fun w' => Mm w' [(g, lec b (shf L i (k + 1)))]) ?pre7 ?F7 ?hpre7 (fun γ => ?hF7) (by kernel_rfl) ?hL7 ?hS7 ?ho7 ?he7
    case hpre7 =>
      simp only [List.take_succ_cons, List.take_zero]
      exact rfl
    case hF7 =>
      simp only [fill, Kind.val, Act.put, List.setIfInBounds_toArray, List.set_cons_zero, List.set_cons_succ]
      exact rfl
    case hL7 => exact trivial
    case hS7 => exact fun w' hb => H8.out.1.below hb
    case ho7 =>
      refine AllOk.cons ?_ ?_
      · exact fun γ => ⟨rfl, fun w' _ => rfl⟩
      refine AllOk.cons ?_ ?_
      · (refine fun γ => ⟨rfl, fun w' h => ?_⟩; clear h; go_simp; rw [IntKind.wrap_i64]; omega)
      exact trivial
    intro γ w9 l hM hl
    have M9 : Mm w9 [(g, lec b (shf L i (k + 1)))] := H8.out.1.grow hM (Nat.le_refl _) hl [] rfl (by decide)
    have B9 : Kp g w w9 := H8.out.2.trans (hM.below)
    clear hM hl l H8
    clear γ
    have H9 : Hid (_ ∧ _) := ⟨M9, B9⟩
    clear M9 B9
    refine rest_at (l := [2]) rfl ?_
    refine rest_set (d := 7) rfl rfl rfl rfl ?_
    simp only [Act.put, List.setIfInBounds_toArray, List.set_cons_zero, List.set_cons_succ]
    refine rest_nil ?_
    refine then_normal ?_
    exact ⟨k + 1, ⟨(slotfn [undef, undef, undef, undef, undef, undef, undef, undef, undef, undef, undef, undef, undef, undef, undef, undef, undef, undef, .int .i64 ((5 - k : Nat) : Int), .bool true, .int .i64 ((5 - k : Nat) : Int), .int .i64 ((5 - (k + 1) : Nat) : Int), PT g 0, .int .i64 ((5 - k : Nat) : Int), PT g 0, .int .i64 ((5 - k : Nat) : Int), PT g 0, PT g 6, PT g (6 + (5 - k)), .int .u64 (wd L (5 - k)), .int .i64 ((i : Nat) : Int), .int .u64 (IntKind.u64.wrap ((wd L (5 - k)) * 2 ^ i)), PT g 0, .int .i64 ((5 - k : Nat) : Int), .int .i64 ((m : Nat) : Int), PT g 0, PT g 6, PT g (6 + m), .int .u64 (wd L m), .int .i64 ((i : Nat) : Int), .int .i64 ((64 - i : Nat) : Int), .int .u64 ((wd L m) / 2 ^ (64 - i)), .int .u64 (bits .or .u64 (IntKind.u64.wrap ((wd L (5 - k)) * 2 ^ i)) ((wd L m) / 2 ^ (64 - i))), PT g 0, PT g 6, PT g (6 + (5 - k))]), rfl, ⟨H9.out.1, H9.out.2⟩, by omega⟩, by omega⟩
  have hk5 : k = 5 := by omega
  subst hk5
  refine wp_seq ?_
  refine wp_seq ?_
  refine walk_seq 2 [.quiet (.int .i64 ((5 - 5 : Nat) : Int)), .quiet (.bool false)] (fun w' => Mm w' [(g, lec b (shf L i 5))]) ?pre8 ?F8 ?hpre8 (fun γ => ?hF8) (by kernel_rfl) ?hL8 ?hS8 ?ho8 ?he8
  case hpre8 =>
    simp only [List.take_succ_cons, List.take_zero]
    exact rfl
  case hF8 =>
    simp only [fill, Kind.val, Act.put, List.setIfInBounds_toArray, List.set_cons_zero, List.set_cons_succ]
    exact rfl
  case hL8 => exact trivial
  case hS8 => exact fun w' hb => H5.out.1.below hb
  case ho8 =>
    refine AllOk.cons ?_ ?_
    · exact fun γ => ⟨rfl, fun w' _ => rfl⟩
    refine AllOk.cons ?_ ?_
    · (refine fun γ => ⟨rfl, fun w' h => ?_⟩; clear h; go_simp <;> omega)
    exact trivial
  intro γ w10 l hM hl
  have M10 : Mm w10 [(g, lec b (shf L i 5))] := H5.out.1.grow hM (Nat.le_refl _) hl [] rfl (by decide)
  have B10 : Kp g w w10 := H5.out.2.trans (hM.below)
  clear hM hl l H5
  clear γ
  have H10 : Hid (_ ∧ _) := ⟨M10, B10⟩
  clear M10 B10
  refine rest_at (l := []) rfl ?_
  refine rest_nil ?_
  refine then_normal ?_
  refine wp_cond_false rfl ?_
  refine wp_exit ?_
  repeat refine then_exit ?_
  refine block_exit ?_
  refine then_normal ?_
  refine wp_seq ?_
  refine walk_put (by kernel_rfl) 10 [] [.quiet (PT g 0), .quiet (PT g 0), .quiet (PT g 6), .quiet (PT g 6), .quiet (.int .u64 (wd L 0)), .quiet (.int .i64 ((i : Nat) : Int)), .quiet (.int .u64 (IntKind.u64.wrap ((wd L 0) * 2 ^ i))), .quiet (PT g 0), .quiet (PT g 6), .quiet (PT g 6)] (fun w' => Mm w' [(g, lec b (shf L i 5))]) ?pre9 ?F9 _ ?hpre9 (fun γ => ?hF9) (by kernel_rfl) rfl ?hL9 ?hS9 ?ho9 ?hla9 ?he9
  case hpre9 =>
    simp only [List.take_succ_cons, List.take_zero]
    exact rfl
  case hF9 =>
    simp only [fill, Kind.val, Act.put, List.setIfInBounds_toArray, List.set_cons_zero, List.set_cons_succ]
    exact rfl
  case hL9 => exact trivial
  case hS9 => exact fun w' hb => H10.out.1.below hb
  case ho9 =>
    refine AllOk.cons ?_ ?_
    · exact fun γ => ⟨rfl, fun w' _ => rfl⟩
    refine AllOk.cons ?_ ?_
    · (refine fun γ => ⟨rfl, fun w' h => ?_⟩; clear h; go_simp)
    refine AllOk.cons ?_ ?_
    · (refine fun γ => ⟨rfl, fun w' h => ?_⟩; clear h; go_simp)
    refine AllOk.cons ?_ ?_
    · (refine fun γ => ⟨rfl, fun w' h => ?_⟩; clear h; go_simp)
    refine AllOk.cons ?_ ?_
    · exact fun γ => ⟨rfl, fun w' h => ex_load1 h 0 rfl rfl rfl rfl⟩
    refine AllOk.cons ?_ ?_
    · exact fun γ => ⟨rfl, fun w' _ => rfl⟩
    refine AllOk.cons ?_ ?_
    · exact fun γ => ⟨rfl, fun w' _ => ex_shl rfl rfl rfl hi⟩
    refine AllOk.cons ?_ ?_
    · (refine fun γ => ⟨rfl, fun w' h => ?_⟩; clear h; go_simp)
    refine AllOk.cons ?_ ?_
    · (refine fun γ => ⟨rfl, fun w' h => ?_⟩; clear h; go_simp)
    refine AllOk.cons ?_ ?_
    · (refine fun γ => ⟨rfl, fun w' h => ?_⟩; clear h; go_simp)
    exact trivial
  case hla9 => exact trivial
  intro γ w11 l hM hl
  have M11 : Mm w11 [(g, lec b (shf L i 5))] := H10.out.1.grow hM (Nat.le_refl _) hl [] rfl (by decide)
  have B11 : Kp g w w11 := H10.out.2.trans (hM.below)
  clear hM hl l H10
  clear γ
  have H11 : Hid (_ ∧ _) := ⟨M11, B11⟩
  clear M11 B11
  refine ⟨_, ex_storeI H11.out.1 0 rfl rfl Try.sizeOf22 rfl rfl (Nat.le_of_ble_eq_true rfl), ?_⟩
  have H12 : Hid (Mm (w11.setCells g 6 [.int .u64 (IntKind.u64.wrap ((wd L 0) * 2 ^ i))]) [(g, lec b (wd (L * 2 ^ i % big)))] ∧ Kp g w (w11.setCells g 6 [.int .u64 (IntKind.u64.wrap ((wd L 0) * 2 ^ i))])) := ⟨by
    have h := H11.out.1.put 0 (off := 6) (vs := [.int .u64 (IntKind.u64.wrap ((wd L 0) * 2 ^ i))]) rfl (Nat.le_of_ble_eq_true rfl)
    rw [lec_put0, shf_end] at h
    exact h, H11.out.2.put (Or.inl rfl)⟩
  clear H11
  generalize hgw : World.setCells _ _ _ _ = w12 at H12 ⊢
  clear hgw
  refine rest_at (l := []) rfl ?_
  refine rest_nil ?_
  refine then_normal ?_
  refine wp_seq ?_
  refine walk_seq 2 [.quiet (.int .u64 ((wd L 5) / 2 ^ (64 - i))), .quiet (.int .u64 ((wd L 5) / 2 ^ (64 - i)))] (fun w' => Mm w' [(g, lec b (wd (L * 2 ^ i % big)))]) ?pre10 ?F10 ?hpre10 (fun γ => ?hF10) (by kernel_rfl) ?hL10 ?hS10 ?ho10 ?he10
  case hpre10 =>
    simp only [List.take_succ_cons, List.take_zero]
    exact rfl
  case hF10 =>
    simp only [fill, Kind.val, Act.put, List.setIfInBounds_toArray, List.set_cons_zero, List.set_cons_succ]
    exact rfl
  case hL10 => exact trivial
  case hS10 => exact fun w' hb => H12.out.1.below hb
  case ho10 =>
    refine AllOk.cons ?_ ?_
    · exact fun γ => ⟨rfl, fun w' _ => rfl⟩
    refine AllOk.cons ?_ ?_
    · exact fun γ => ⟨rfl, fun w' _ => rfl⟩
    exact trivial
  intro γ w13 l hM hl
  have M13 : Mm w13 [(g, lec b (wd (L * 2 ^ i % big)))] := H12.out.1.grow hM (Nat.le_refl _) hl [] rfl (by decide)
  have B13 : Kp g w w13 := H12.out.2.trans (hM.below)
  clear hM hl l H12
  clear γ
  have H13 : Hid (_ ∧ _) := ⟨M13, B13⟩
  clear M13 B13
  refine rest_at (l := []) rfl ?_
  refine rest_nil ?_
  refine then_normal ?_
  refine wp_ret ?_
  repeat (first | refine then_ret ?_ | refine block_ret ?_)
  refine bodyPost_ret (v := .int .u64 ((wd L 5) / 2 ^ (64 - i))) (by simp [results, Try.results50, go_sem, *]) rfl ?_
  exact ⟨rfl, H13.out.1.one 0 rfl, H13.out.2⟩
theorem shiftL_any (g b L i : Nat) (hi : i ≤ 64) (hL : L < big) (w : World) (hm : Mm w [(g, lec b (wd L))]) :
    Calls Try.prog 50 #[PT g 0, .int .i64 ((i : Nat) : Int)] w fun e w' => e = .returned (.int .u64 ((L * 2 ^ i / big : Nat) : Int)) ∧ Mm w' [(g, lec b (wd (L * 2 ^ i % big)))] ∧ Kp g w w' := by
  have h := shift_gen g b L i hi w hm
  rw [sh_top L i hL hi] at h
  exact h
end Rg
end Go.Proofs.Ytoagmdgmbkpghaa
