/- Texts of the proof, joined. -/
import Derived.Test.YtfnmahjdkmgdkaaDoorP4
import Derived.WalkKit
section
namespace Go.Proofs.YtfnmahjdkmgdkaaDoor
open Go.RowKit
namespace Rg
theorem lead_facts {n : Nat} (ok : Ok n) : ∃ l s, l = bl n ∧ l ≤ 384 ∧ s = 384 - l ∧ s < 384 ∧ n * 2 ^ s < big ∧ big < n * 2 ^ s + n * 2 ^ s := by
  have h0 : n ≠ 0 := by have := ok.three; omega
  have h1 := bl_lt n
  have h2 := bl_le n h0
  have h3 := bl_pos n h0
  have h4 := len_ok ok
  have hl : bl n ≤ 382 := by omega
  refine ⟨bl n, 384 - bl n, rfl, by omega, rfl, by omega, ?_, ?_⟩
  · obtain ⟨m, hm, e⟩ := big_pow
    have hs : 64 * m = bl n + (384 - bl n) := by omega
    rw [e, hs, Nat.pow_add]
    exact Nat.mul_lt_mul_of_pos_right h1 (Nat.two_pow_pos _)
  · obtain ⟨m, hm, e⟩ := big_pow
    have hs : 64 * m = (bl n - 1) + 1 + (384 - bl n) := by omega
    have hne : 2 ^ (bl n - 1) ≠ n := by
      intro h
      rcases Nat.lt_or_ge (bl n - 1) 1 with g | g
      · have : bl n - 1 = 0 := by omega
        rw [this, Nat.pow_zero] at h
        have := ok.three; omega
      · obtain ⟨k, hk⟩ : ∃ k, bl n - 1 = k + 1 := ⟨bl n - 1 - 1, by omega⟩
        rw [hk, Nat.pow_succ] at h
        have := ok.odd; omega
    have hlt : 2 ^ (bl n - 1) < n := by omega
    have h5 := Nat.mul_lt_mul_of_pos_right hlt (Nat.two_pow_pos (384 - bl n))
    rw [e, hs, Nat.pow_add, Nat.pow_succ, Nat.mul_right_comm]
    omega
theorem powersOf_any {n : Nat} (ok : Ok n) (w : World) : Calls Tryd.prog 91 #[N n] w fun e w' => e = .returned (.tuple #[N (big % n), N (big * big % n)]) ∧ Below w.heap.size w w' := by
  obtain ⟨l, s, hl, hl2, hs, hs2, hB, hB2⟩ := lead_facts ok
  have cb := fun w => shift_up n s hs2 w
  rw [Nat.mod_eq_of_lt hB] at cb
  have hBp : 0 < n * 2 ^ s := by omega
  have cl := fun w => len_any n ok.big w
  rw [← hl] at cl
  obtain ⟨B, hBe⟩ : ∃ B, B = n * 2 ^ s := ⟨_, rfl⟩
  rw [← hBe] at cb hB hB2 hBp
  have cs := fun w => sub_any 0 B big_pos2 hB w
  rw [Nat.zero_add, Nat.mod_eq_of_lt (show big - B < big by omega)] at cs
  have hL0 : big - B < B := by omega
  have hmod : big % B = big - B := by
    rw [Nat.mod_eq_sub_mod (by omega), Nat.mod_eq_of_lt hL0]
  have d1 := fun g w hm => doubleL_any g B (big - B) s (by omega) hB hL0 w hm
  have e1 : (big - B) * 2 ^ s % B = big % n * 2 ^ s := by
    rw [← hmod, Nat.mul_mod, Nat.mod_mod, ← Nat.mul_mod, hBe, Nat.mul_mod_mul_right]
  rw [e1] at d1
  have hp := Nat.two_pow_pos s
  have hL1 : big % n * 2 ^ s < B := by
    rw [hBe]; exact Nat.mul_lt_mul_of_pos_right (Nat.mod_lt _ ok.pos) hp
  obtain ⟨k, hk⟩ : ∃ k : Nat, k = 384 := ⟨_, rfl⟩
  have d2 := fun g w hm => doubleL_any g B (big % n * 2 ^ s) k (by omega) hB hL1 w hm
  have e2 : big % n * 2 ^ s * 2 ^ k % B = big * big % n * 2 ^ s := by
    rw [pow_is k (by omega), Nat.mul_right_comm, hBe, Nat.mul_mod_mul_right, Nat.mul_mod, Nat.mod_mod, ← Nat.mul_mod]
  rw [e2] at d2
  have hL2 : big * big % n * 2 ^ s < B := by
    rw [hBe]; exact Nat.mul_lt_mul_of_pos_right (Nat.mod_lt _ ok.pos) hp
  have ek : ((k : Nat) : Int) = 384 := by omega
  rw [ek] at d2
  have co := fun w => shift_neg' (big % n * 2 ^ s) s (by omega) hs2 w
  have cq := fun w => shift_neg' (big * big % n * 2 ^ s) s (by omega) hs2 w
  rw [Nat.mul_div_cancel _ hp] at co cq
  exact powersOf_gen n l s B 0 (big - B) _ _ _ _ _ rfl hl2 hs cl cb cs d1 co d2 cq w
set_option maxRecDepth 100000 in
theorem new_4 (n o s : Nat) (L : Int) (hr : (wd n 0).tmod 2 = 1)
    (e1 : ∀ w, (Op.equalIn 10000 24 (N n) (N 1)).run Tryd.prog w = .ok false w) (hL : ¬ (382 : Int) < L)
    (c29 : ∀ w, Calls Tryd.prog 23 #[.int .u64 1] w fun e w' => e = .returned (N 1) ∧ Below w.heap.size w w')
    (c33 : ∀ w, Calls Tryd.prog 45 #[N n] w fun e w' => e = .returned (.int .i64 L) ∧ Below w.heap.size w w')
    (c34 : ∀ w, Calls Tryd.prog 90 #[.int .u64 (wd n 0)] w fun e w' => e = .returned (.int .u64 (wrapZ (wd n 0))) ∧ Below w.heap.size w w')
    (c35 : ∀ w, Calls Tryd.prog 91 #[N n] w fun e w' => e = .returned (.tuple #[N o, N s]) ∧ Below w.heap.size w w') (w : World) :
    Calls Tryd.prog 72 #[N n] w fun e w' => Below w.heap.size w w' ∧ ∃ g, e = .returned (.tuple #[PT g 0, .int .i64 0]) ∧ w.heap.size ≤ g ∧ g < w'.heap.size ∧ Blk w' g (modx n o s) := by
  have H0 : Hid (_ ∧ _) := ⟨Mm.nil w, Below.refl w.heap.size w⟩
  have C29 : Hid _ := c29
  have C33 : Hid _ := c33
  have C34 : Hid _ := c34
  have C35 : Hid _ := c35
  clear c29 c33 c34 c35
  go_enter Tryd.func72, Tryd.ntmps72
  refine wp_seq ?_
  refine walk_seqA 3 [.made (cells6 n) 24, .quiet (.pointer none), .quiet (.int .i64 0)] (sB H0) ?ho1 ?he1
  case ho1 => exact ak (fun γ => ⟨rfl, fun w' => ex_box6 rfl rfl⟩) (ak (fun _ => ⟨rfl, fun _ _ => rfl⟩) (ak (fun _ => ⟨rfl, fun _ _ => rfl⟩) trivial))
  intro γ w1 l hM hl
  have H1 : Hid (Mm w1 [(γ 0, cells6 n)] ∧ _) := growB H0 hM (Nat.le_refl _) hl [0] rfl (by decide)
  have o1_0 := ownB H0 hM (Nat.le_refl _) hl (i := 0) rfl
  clear hM hl l
  generalize γ 0 = γ1_0 at H1 o1_0 ⊢
  clear γ
  refine rest0 rfl (then_normal (wp_seq (wp_seq ?_)))
  refine walk_anyB 14 [.quiet (PT γ1_0 0), .quiet (.int .u64 (wd n 0)), .quiet (.int .u64 1), .quiet (.bool false), .quiet (.bool false), .quiet (N n), .call (N 1), .quiet (.bool false), .quiet (.bool false), .quiet (.bool false), .quiet (N n), .call (.int .i64 L), .quiet (.bool false), .quiet (.bool false)] H1 ?ho2 ?he2
  case ho2 => exact ak (by refine fun γ => ⟨rfl, fun w' h => ?_⟩; clear h; go_simp) (ak (fun γ => ⟨rfl, fun w' h => ex_load1 h 0 rfl rfl rfl rfl⟩) (ak (by refine fun γ => ⟨rfl, fun w' h => ?_⟩; clear h; go_simp) (ak (by refine fun γ => ⟨rfl, fun w' h => ?_⟩; clear h; go_simp) (ak (fun _ => ⟨rfl, fun _ _ => rfl⟩) (ak (fun γ => ⟨rfl, fun w' h => ex_load6 h 0 rfl rfl rfl rfl⟩) (ak (fun γ => ⟨rfl, fun w' h => ⟨23, #[.int .u64 1], exec_call rfl call23 rfl (mpn rfl), C29.out w'⟩⟩) (ak (fun γ => ⟨rfl, fun w' _ => exec_eq6 e1 rfl rfl rfl⟩) (ak (by refine fun γ => ⟨rfl, fun w' h => ?_⟩; clear h; go_simp) (ak (fun _ => ⟨rfl, fun _ _ => rfl⟩) (ak (fun γ => ⟨rfl, fun w' h => ex_load6 h 0 rfl rfl rfl rfl⟩) (ak (fun γ => ⟨rfl, fun w' h => ⟨45, #[N n], exec_call rfl call45 rfl (mpn rfl), C33.out w'⟩⟩) (ak (by refine fun γ => ⟨rfl, fun w' h => ?_⟩; clear h; go_simp) (ak (by refine fun γ => ⟨rfl, fun w' h => ?_⟩; clear h; go_simp) trivial)))))))))))))
  intro _ w2 H2
  clear H1
  refine rest0 rfl (then_normal (wp_cond_false rfl ?_))
  refine wp_skip (then_normal (wp_seq ?_))
  refine walk_anyA 6 [.quiet (N n), .quiet (PT γ1_0 0), .quiet (.int .u64 (wd n 0)), .call (.int .u64 (wrapZ (wd n 0))), .quiet (modv n 0 0), .made (modx n 0 0) 27] (sB H2) ?ho3 ?he3
  case ho3 => exact ak (fun γ => ⟨rfl, fun w' h => ex_load6 h 0 rfl rfl rfl rfl⟩) (ak (by refine fun γ => ⟨rfl, fun w' h => ?_⟩; clear h; go_simp) (ak (fun γ => ⟨rfl, fun w' h => ex_load1 h 0 rfl rfl rfl rfl⟩) (ak (fun γ => ⟨rfl, fun w' h => ⟨90, #[.int .u64 (wd n 0)], exec_call rfl call90 rfl (mpn rfl), C34.out w'⟩⟩) (ak (fun γ => ⟨rfl, fun w' _ => ex_build39 rfl rfl rfl⟩) (ak (fun γ => ⟨rfl, fun w' => ex_box39 rfl rfl⟩) trivial)))))
  intro γ w3 l hM hl
  have H3 : Hid (Mm w3 [(γ 5, modx n 0 0), (γ1_0, cells6 n)] ∧ _) := growB H2 hM (Nat.le_refl _) hl [5] rfl (by decide)
  have o3_5 := ownB H2 hM (Nat.le_refl _) hl (i := 5) rfl
  clear hM hl l H2
  generalize γ 5 = γ3_5 at H3 o3_5 ⊢
  clear γ
  refine rest_at (l := [6]) rfl ?_
  refine rest_set (d := 4) rfl rfl rfl rfl ?_
  simp only [Act.put, sa, sz, ss]
  refine rest_nil (then_normal (wp_seq ?_))
  refine walk_seqB 9 [.quiet (PT γ3_5 0), .quiet (PT γ3_5 0), .quiet (N n), .call (.tuple #[N o, N s]), .quiet (.tuple #[N o, N s]), .quiet (N o), .quiet (N s), .quiet (PT γ3_5 0), .quiet (PT γ3_5 7)] H3 ?ho4 ?he4
  case ho4 => exact ak (fun _ => ⟨rfl, fun _ _ => rfl⟩) (ak (fun _ => ⟨rfl, fun _ _ => rfl⟩) (ak (fun γ => ⟨rfl, fun w' h => ex_load6 h 1 rfl rfl rfl rfl⟩) (ak (fun γ => ⟨rfl, fun w' h => ⟨91, #[N n], exec_call rfl call91 rfl (mpn rfl), C35.out w'⟩⟩) (ak (fun _ => ⟨rfl, fun _ _ => rfl⟩) (ak (by refine fun γ => ⟨rfl, fun w' h => ?_⟩; clear h; go_simp) (ak (by refine fun γ => ⟨rfl, fun w' h => ?_⟩; clear h; go_simp) (ak (by refine fun γ => ⟨rfl, fun w' h => ?_⟩; clear h; go_simp) (ak (by refine fun γ => ⟨rfl, fun w' h => ?_⟩; clear h; go_simp) trivial))))))))
  intro _ w4 H4
  clear H3
  refine rest_at (l := [9, 10, 11, 12]) rfl ?_
  refine rest_store rfl rfl rfl (ex_store6 H4.out.1 0 rfl rfl rfl rfl (Nat.le_of_ble_eq_true rfl)) ?_
  have H5 : Hid (Mm (w4.setCells γ3_5 7 (cells6 o)) [(γ3_5, modx n o 0), (γ1_0, cells6 n)] ∧ Below w.heap.size w (w4.setCells γ3_5 7 (cells6 o))) := ⟨H4.out.1.put 0 (off := 7) (vs := cells6 o) rfl (Nat.le_of_ble_eq_true rfl), below_setCells _ o3_5.out _ _ _ H4.out.2⟩
  clear H4
  generalize hgw : World.setCells _ _ _ _ = w5 at H5 ⊢
  clear hgw
  refine rest_set (d := 34) (v := PT γ3_5 0) (w' := w5) rfl rfl rfl (by go_simp) ?_
  simp only [Act.put, sa, sz, ss]
  refine rest_set (d := 35) (v := PT γ3_5 13) (w' := w5) rfl rfl rfl (by go_simp) ?_
  simp only [Act.put, sa, sz, ss]
  refine rest_store rfl rfl rfl (ex_store6 H5.out.1 0 rfl rfl rfl rfl (Nat.le_of_ble_eq_true rfl)) ?_
  have H6 : Hid (Mm (w5.setCells γ3_5 13 (cells6 s)) [(γ3_5, modx n o s), (γ1_0, cells6 n)] ∧ Below w.heap.size w (w5.setCells γ3_5 13 (cells6 s))) := ⟨H5.out.1.put 0 (off := 13) (vs := cells6 s) rfl (Nat.le_of_ble_eq_true rfl), below_setCells _ o3_5.out _ _ _ H5.out.2⟩
  clear H5
  generalize hgw : World.setCells _ _ _ _ = w6 at H6 ⊢
  clear hgw
  refine rest_nil (then_normal (wp_seq ?_))
  refine walk_seqB 3 [.quiet (PT γ3_5 0), .quiet (PT γ3_5 0), .quiet (.int .i64 0)] H6 ?ho5 ?he5
  case ho5 => exact ak (fun _ => ⟨rfl, fun _ _ => rfl⟩) (ak (fun _ => ⟨rfl, fun _ _ => rfl⟩) (ak (fun _ => ⟨rfl, fun _ _ => rfl⟩) trivial))
  intro _ w7 H7
  clear H6
  refine rest0 rfl (then_normal (wp_ret ?_))
  repeat (first | refine then_ret ?_ | refine block_ret ?_)
  refine bodyPost_ret (v := .tuple #[PT γ3_5 0, .int .i64 0]) (by simp [results, Tryd.results72, go_sem, *]) rfl ?_
  exact ⟨H7.out.2, γ3_5, rfl, o3_5.out, H7.out.1.lt (List.mem_of_getElem? (i := 0) rfl), (H7.out.1.blk _ (List.mem_of_getElem? (i := 0) rfl)).2⟩
theorem new_ok {n : Nat} (ok : Ok n) (w : World) : Calls Tryd.prog 72 #[N n] w fun e w' => Below w.heap.size w w' ∧ ∃ g, e = .returned (.tuple #[PT g 0, .int .i64 0]) ∧ w.heap.size ≤ g ∧ g < w'.heap.size ∧ Blk w' g (modc n) := by
  have hw := word_mod n
  rw [ok.odd] at hw
  have e1 := fun w => run_eqN n 1 ok.big (small_big 1 (by decide)) w
  rw [decide_eq_false (by have := ok.three; omega)] at e1
  exact new_4 n (big % n) (big * big % n) _ hw e1 (len_ok ok) (fun w => of_any 1 (by decide) w) (fun w => len_any n ok.big w) (fun w => (wrapOf_any (wd n 0) w).mono fun e w' ⟨h1, h2⟩ => ⟨h1, h2 ▸ Below.refl _ _⟩) (fun w => powersOf_any ok w) w
end Rg
end Go.Proofs.YtfnmahjdkmgdkaaDoor
end
section
namespace Go.Proofs.YtfnmahjdkmgdkaaDoor
open Go.RowKit
namespace Rg
end Rg
end Go.Proofs.YtfnmahjdkmgdkaaDoor
end
section
namespace Go.Proofs.YtfnmahjdkmgdkaaDoor
open Go.RowKit
namespace Rg
end Rg
end Go.Proofs.YtfnmahjdkmgdkaaDoor
end
section
namespace Go.Proofs.YtfnmahjdkmgdkaaDoor
open Go.RowKit
namespace Rg
/-! Numbers side by side. -/
def cel : List Nat → List Value
  | [] => []
  | a :: l => cells6 a ++ cel l
abbrev V (l : List Nat) : Value := .agg (cel l).toArray
theorem cel_drop : ∀ (i : Nat) (l : List Nat), (cel l).drop (6 * i) = cel (l.drop i)
  | 0, _ => by rw [Nat.mul_zero, List.drop_zero, List.drop_zero]
  | i + 1, [] => by simp [cel]
  | i + 1, a :: l => by
    show (cells6 a ++ cel l).drop (6 * (i + 1)) = cel (l.drop i)
    rw [← cel_drop i l, show 6 * (i + 1) = (cells6 a).length + 6 * i by show _ = 6 + 6 * i; omega, List.drop_length_add_append]
theorem cel_take : ∀ (i : Nat) (l : List Nat), (cel l).take (6 * i) = cel (l.take i)
  | 0, _ => by rw [Nat.mul_zero, List.take_zero, List.take_zero]; rfl
  | i + 1, [] => by simp [cel]
  | i + 1, a :: l => by
    show (cells6 a ++ cel l).take (6 * (i + 1)) = cells6 a ++ cel (l.take i)
    rw [← cel_take i l, show 6 * (i + 1) = (cells6 a).length + 6 * i by show _ = 6 + 6 * i; omega, List.take_length_add_append]
theorem cel_zero (k : Nat) : cel (List.replicate k 0) = List.replicate (6 * k) (.int .u64 0) := by
  induction k with
  | zero => rfl
  | succ k ih =>
    rw [List.replicate_succ]
    show cells6 0 ++ cel (List.replicate k 0) = _
    rw [ih, cells_zero, show 6 * (k + 1) = 6 + 6 * k by omega, ← List.replicate_append_replicate]
    rfl
theorem ex_loadN {ρ : Operand → Value} {o : Oper} {x : Operand} {g i v : Nat} {ns : List Nat} {w : World} {l : List (Nat × List Value)} (h : Mm w l) (q : Nat) (hk : l[q]? = some (g, cel ns)) (ho : o.op = .load 24 x) (hx : ρ x = PT g (6 * i)) (hc : ns[i]? = some v) :
    (execOp ρ o).run Tryd.prog w = .ok (.value (N v)) w := by
  refine ex_load6 h q hk ho hx ?_
  rw [cel_drop, show 6 = 6 * 1 from rfl, cel_take]
  obtain ⟨hlt, e⟩ := List.getElem?_eq_some_iff.1 hc
  rw [List.drop_eq_getElem_cons hlt, e]
  rfl
end Rg
end Go.Proofs.YtfnmahjdkmgdkaaDoor
end
section
namespace Go.Proofs.YtfnmahjdkmgdkaaDoor
namespace NT
/-- A prime. -/
def Prm (p : Nat) : Prop := 1 < p ∧ ∀ d, d ∣ p → d = 1 ∨ d = p
theorem Prm.cop {p : Nat} (h : Prm p) {a : Nat} (ha : ¬ p ∣ a) : Nat.Coprime p a := by
  rcases h.2 (Nat.gcd p a) (Nat.gcd_dvd_left p a) with h1 | h1
  · exact h1
  · exact absurd (h1 ▸ Nat.gcd_dvd_right p a) ha
theorem Prm.mul {p a b : Nat} (h : Prm p) (hd : p ∣ a * b) : p ∣ a ∨ p ∣ b := by
  by_cases ha : p ∣ a
  · exact Or.inl ha
  · exact Or.inr ((h.cop ha).dvd_of_dvd_mul_left hd)
theorem Prm.pos {p : Nat} (h : Prm p) : 0 < p := by have := h.1; omega
/-- Each number above 1 has a prime that divides it. -/
theorem prm_dvd (n : Nat) (h : 1 < n) : ∃ q, Prm q ∧ q ∣ n := by
  induction n using Nat.strongRecOn with
  | ind n ih =>
    by_cases hp : ∃ d, d ∣ n ∧ d ≠ 1 ∧ d ≠ n
    · obtain ⟨d, hd, h1, h2⟩ := hp
      have hle := Nat.le_of_dvd (by omega) hd
      have h0 : d ≠ 0 := by
        intro e; rw [e] at hd; have := Nat.eq_zero_of_zero_dvd hd; omega
      obtain ⟨q, hq, hqd⟩ := ih d (by omega) (by omega)
      exact ⟨q, hq, Nat.dvd_trans hqd hd⟩
    · refine ⟨n, ⟨h, ?_⟩, Nat.dvd_refl n⟩
      intro d hd
      by_cases h1 : d = 1
      · exact Or.inl h1
      · by_cases h2 : d = n
        · exact Or.inr h2
        · exact absurd ⟨d, hd, h1, h2⟩ hp
/-! Binomials. -/
def ch : Nat → Nat → Nat
  | _, 0 => 1
  | 0, _ + 1 => 0
  | n + 1, k + 1 => ch n k + ch n (k + 1)
theorem ch_zero (n : Nat) : ch n 0 = 1 := by cases n <;> rfl
theorem ch_big (n : Nat) : ∀ k, n < k → ch n k = 0 := by
  induction n with
  | zero => intro k hk; cases k with
    | zero => omega
    | succ k => rfl
  | succ n ih => intro k hk; cases k with
    | zero => omega
    | succ k => show ch n k + ch n (k + 1) = 0; rw [ih k (by omega), ih (k + 1) (by omega)]
theorem ch_self (n : Nat) : ch n n = 1 := by
  induction n with
  | zero => rfl
  | succ n ih => show ch n n + ch n (n + 1) = 1; rw [ih, ch_big n (n + 1) (by omega)]
theorem ch_absorb (n : Nat) : ∀ k, (k + 1) * ch (n + 1) (k + 1) = (n + 1) * ch n k := by
  induction n with
  | zero =>
    intro k
    cases k with
    | zero => rfl
    | succ k =>
      rw [ch_big 1 (k + 1 + 1) (by omega), ch_big 0 (k + 1) (by omega)]; omega
  | succ n ih =>
    intro k
    cases k with
    | zero =>
      have h := ih 0
      show (0 + 1) * (ch (n + 1) 0 + ch (n + 1) (0 + 1)) = _
      rw [Nat.mul_add, h, ch_zero, ch_zero]; omega
    | succ k =>
      have h1 := ih k
      have h2 := ih (k + 1)
      show (k + 1 + 1) * (ch (n + 1) (k + 1) + ch (n + 1) (k + 1 + 1)) = (n + 1 + 1) * (ch (n + 1) (k + 1))
      rw [Nat.mul_add, h2]
      have e : ch (n + 1) (k + 1) = ch n k + ch n (k + 1) := rfl
      rw [Nat.add_mul (k + 1) 1, h1, Nat.add_mul (n + 1) 1 (ch (n + 1) (k + 1))]
      have e' : (n + 1) * ch (n + 1) (k + 1) = (n + 1) * ch n k + (n + 1) * ch n (k + 1) := by rw [e, Nat.mul_add]
      omega
theorem ch_dvd {p : Nat} (hp : Prm p) (k : Nat) (h0 : 0 < k) (hk : k < p) : p ∣ ch p k := by
  obtain ⟨k, rfl⟩ : ∃ j, k = j + 1 := ⟨k - 1, by omega⟩
  obtain ⟨n, rfl⟩ : ∃ j, p = j + 1 := ⟨p - 1, by omega⟩
  have h : n + 1 ∣ (k + 1) * ch (n + 1) (k + 1) := ⟨ch n k, ch_absorb n k⟩
  rcases hp.mul h with h1 | h1
  · have := Nat.le_of_dvd (by omega) h1; omega
  · exact h1
def sm (f : Nat → Nat) : Nat → Nat
  | 0 => 0
  | n + 1 => sm f n + f n
theorem sm_first (f : Nat → Nat) (n : Nat) : sm f (n + 1) = f 0 + sm (fun k => f (k + 1)) n := by
  induction n with
  | zero => simp [sm]
  | succ n ih => rw [sm, ih]; simp only [sm]; omega
theorem sm_add (f g : Nat → Nat) (n : Nat) : sm (fun k => f k + g k) n = sm f n + sm g n := by
  induction n with
  | zero => rfl
  | succ n ih => simp only [sm]; rw [ih]; omega
theorem sm_mul (f : Nat → Nat) (c n : Nat) : sm (fun k => c * f k) n = c * sm f n := by
  induction n with
  | zero => rfl
  | succ n ih => simp only [sm]; rw [ih, Nat.mul_add]
theorem sm_congr (f g : Nat → Nat) (n : Nat) (h : ∀ k, k < n → f k = g k) : sm f n = sm g n := by
  induction n with
  | zero => rfl
  | succ n ih => simp only [sm]; rw [ih (fun k hk => h k (by omega)), h n (by omega)]
theorem sm_dvd (f : Nat → Nat) (p n : Nat) (h : ∀ k, k < n → p ∣ f k) : p ∣ sm f n := by
  induction n with
  | zero => exact Nat.dvd_zero p
  | succ n ih => exact Nat.dvd_add (ih (fun k hk => h k (by omega))) (h n (by omega))
theorem binom (a n : Nat) : (a + 1) ^ n = sm (fun k => ch n k * a ^ k) (n + 1) := by
  induction n with
  | zero => simp [sm, ch]
  | succ n ih =>
    rw [Nat.pow_succ, ih, Nat.mul_add, Nat.mul_one]
    rw [sm_first (fun k => ch (n + 1) k * a ^ k) (n + 1)]
    have e : ∀ k, ch (n + 1) (k + 1) * a ^ (k + 1) = a * (ch n k * a ^ k) + ch n (k + 1) * a ^ (k + 1) := by
      intro k
      show (ch n k + ch n (k + 1)) * a ^ (k + 1) = _
      rw [Nat.add_mul, Nat.pow_succ]
      congr 1
      rw [Nat.mul_comm (a ^ k) a, Nat.mul_left_comm]
    have e1 : sm (fun k => ch (n + 1) (k + 1) * a ^ (k + 1)) (n + 1)
        = a * sm (fun k => ch n k * a ^ k) (n + 1) + sm (fun k => ch n (k + 1) * a ^ (k + 1)) (n + 1) := by
      rw [← sm_mul, ← sm_add]
      exact sm_congr _ _ _ (fun k _ => e k)
    rw [e1]
    have e2 : sm (fun k => ch n k * a ^ k) (n + 1) = 1 + sm (fun k => ch n (k + 1) * a ^ (k + 1)) (n + 1) := by
      rw [sm_first (fun k => ch n k * a ^ k) n]
      have : sm (fun k => ch n (k + 1) * a ^ (k + 1)) (n + 1) = sm (fun k => ch n (k + 1) * a ^ (k + 1)) n + ch n (n + 1) * a ^ (n + 1) := rfl
      rw [this, ch_big n (n + 1) (by omega), ch_zero]
      simp
    rw [ch_zero, Nat.pow_zero, Nat.mul_comm _ a]
    omega
theorem dream {p : Nat} (hp : Prm p) (a : Nat) : (a + 1) ^ p % p = (a ^ p + 1) % p := by
  obtain ⟨n, rfl⟩ : ∃ j, p = j + 1 := ⟨p - 1, by have := hp.1; omega⟩
  rw [binom, sm, sm_first]
  obtain ⟨c, hc⟩ := sm_dvd (fun k => ch (n + 1) (k + 1) * a ^ (k + 1)) (n + 1) n
    (fun k hk => Nat.dvd_trans (ch_dvd hp (k + 1) (by omega) (by omega)) (Nat.dvd_mul_right _ _))
  rw [hc, ch_self, ch_zero, Nat.pow_zero]
  have : 1 * 1 + (n + 1) * c + 1 * a ^ (n + 1) = (a ^ (n + 1) + 1) + (n + 1) * c := by omega
  rw [this, Nat.add_mul_mod_self_left]
theorem fermat {p : Nat} (hp : Prm p) (a : Nat) : a ^ p % p = a % p := by
  induction a with
  | zero => rw [Nat.zero_pow hp.pos]
  | succ a ih => rw [dream hp, Nat.add_mod, ih, ← Nat.add_mod]
theorem fermat1 {p : Nat} (hp : Prm p) (a : Nat) (ha : ¬ p ∣ a) : a ^ (p - 1) % p = 1 := by
  have h := fermat hp a
  obtain ⟨n, rfl⟩ : ∃ j, p = j + 1 := ⟨p - 1, by have := hp.1; omega⟩
  rw [Nat.add_sub_cancel]
  rw [Nat.pow_succ] at h
  have hn : 0 < n := by have := hp.1; omega
  have h1 : 1 ≤ a ^ n := Nat.one_le_iff_ne_zero.mpr (fun e => by
    rcases Nat.pow_eq_zero.mp e with ⟨e1, -⟩
    rw [e1] at ha; exact ha (Nat.dvd_zero _))
  have h2 : n + 1 ∣ (a ^ n - 1) * a := by
    rw [Nat.sub_mul, Nat.one_mul]
    exact Nat.dvd_of_mod_eq_zero (Nat.sub_mod_eq_zero_of_mod_eq h)
  rcases hp.mul h2 with h3 | h3
  · obtain ⟨c, hc⟩ := h3
    have : a ^ n = 1 + (n + 1) * c := by omega
    rw [this, Nat.add_mul_mod_self_left, Nat.mod_eq_of_lt hp.1]
  · exact absurd h3 ha
/-! Orders. -/
theorem least (P : Nat → Prop) (n : Nat) (h : P n) : ∃ m, P m ∧ ∀ k, k < m → ¬ P k := by
  induction n using Nat.strongRecOn with
  | ind n ih =>
    by_cases hk : ∃ k, k < n ∧ P k
    · obtain ⟨k, h1, h2⟩ := hk
      exact ih k h1 h2
    · exact ⟨n, h, fun k h1 h2 => hk ⟨k, h1, h2⟩⟩
theorem order {d : Nat} (hd : Prm d) (a : Nat) (ha : ¬ d ∣ a) :
    ∃ e, e ∣ d - 1 ∧ a ^ e % d = 1 ∧ ∀ m, a ^ m % d = 1 → e ∣ m := by
  obtain ⟨e, ⟨h0, h1⟩, h2⟩ := least (fun e => 0 < e ∧ a ^ e % d = 1) (d - 1) ⟨by have := hd.1; omega, fermat1 hd a ha⟩
  have h3 : ∀ m, a ^ m % d = 1 → e ∣ m := by
    intro m hm
    by_cases hr : m % e = 0
    · exact Nat.dvd_of_mod_eq_zero hr
    · exfalso
      refine h2 (m % e) (Nat.mod_lt _ h0) ⟨by omega, ?_⟩
      have e1 : a ^ m = (a ^ e) ^ (m / e) * a ^ (m % e) := by
        rw [← Nat.pow_mul, ← Nat.pow_add, Nat.div_add_mod]
      rw [e1, Nat.mul_mod, Nat.pow_mod, h1, Nat.one_pow, Nat.mod_eq_of_lt hd.1, Nat.one_mul, Nat.mod_mod] at hm
      exact hm
  exact ⟨e, h3 _ (fermat1 hd a ha), h1, h3⟩
/-- Pocklington: each prime that divides N leaves 1 by F. -/
theorem pock {N M F a d : Nat} (qs : List Nat) (hM : N = M + 1) (hF : F ∣ M) (hd : Prm d) (hdN : d ∣ N) (h1 : a ^ M % N = 1)
    (hc : ∀ t, (∀ q, q ∈ qs → Nat.Coprime q t) → Nat.Coprime F t)
    (hq : ∀ q, q ∈ qs → Prm q ∧ q ∣ M ∧ Nat.Coprime (a ^ (M / q) % N + M) N) : F ∣ d - 1 := by
  have hmod : ∀ x, x % N % d = x % d := fun x => Nat.mod_mod_of_dvd x hdN
  have h1d : a ^ M % d = 1 := by rw [← hmod, h1, Nat.mod_eq_of_lt hd.1]
  have hM0 : M ≠ 0 := by
    intro e; rw [e] at hM; rw [hM] at hdN; have := Nat.dvd_one.mp hdN; have := hd.1; omega
  have ha : ¬ d ∣ a := by
    intro h
    have h2 : d ∣ a ^ M := Nat.dvd_trans h (by
      obtain ⟨k, hk⟩ : ∃ k, M = k + 1 := ⟨M - 1, by omega⟩
      rw [hk, Nat.pow_succ]; exact Nat.dvd_mul_left _ _)
    have := Nat.mod_eq_zero_of_dvd h2
    omega
  obtain ⟨e, h2, h3, h4⟩ := order hd a ha
  obtain ⟨t, ht⟩ := h4 M h1d
  have hcop : Nat.Coprime F t := by
    refine hc t (fun q hqm => ?_)
    obtain ⟨g1, g2, g3⟩ := hq q hqm
    refine g1.cop (fun hqt => ?_)
    obtain ⟨s, hs⟩ := hqt
    have g4 : M / q = e * s := by
      rw [ht, hs, Nat.mul_left_comm, Nat.mul_div_cancel_left _ g1.pos]
    have g5 : a ^ (M / q) % d = 1 := by
      rw [g4, Nat.pow_mul, Nat.pow_mod, h3, Nat.one_pow, Nat.mod_eq_of_lt hd.1]
    have g6 : d ∣ a ^ (M / q) % N + M := by
      refine Nat.dvd_of_mod_eq_zero ?_
      rw [Nat.add_mod, hmod, g5, ← Nat.mod_eq_of_lt hd.1, ← Nat.add_mod, Nat.add_comm 1 M, ← hM]
      exact Nat.mod_eq_zero_of_dvd hdN
    have g7 := Nat.dvd_gcd g6 hdN
    rw [g3] at g7
    have := Nat.dvd_one.mp g7; have := hd.1; omega
  have h5 : F ∣ e := hcop.dvd_of_dvd_mul_right (ht ▸ hF)
  exact Nat.dvd_trans h5 h2
/-- A number whose prime divisors all leave 1 by F, F F above it, is prime. -/
theorem prm_of {N F : Nat} (hN : 1 < N) (hF : N < F * F) (h : ∀ d, Prm d → d ∣ N → F ∣ d - 1) : Prm N := by
  obtain ⟨d, hd, hdN⟩ := prm_dvd N hN
  by_cases e : d = N
  · exact e ▸ hd
  · exfalso
    obtain ⟨c, hc⟩ := hdN
    have hc1 : 1 < c := by
      rcases c with _ | _ | c
      · omega
      · omega
      · omega
    obtain ⟨d', hd', hdc⟩ := prm_dvd c hc1
    have g1 : F ≤ d - 1 := Nat.le_of_dvd (by have := hd.1; omega) (h d hd ⟨c, hc⟩)
    have g2 : F ≤ d' - 1 := Nat.le_of_dvd (by have := hd'.1; omega) (h d' hd' (Nat.dvd_trans hdc ⟨d, by rw [hc, Nat.mul_comm]⟩))
    have g3 := Nat.le_of_dvd (by omega) hdc
    have g4 : F * F ≤ d * c := Nat.mul_le_mul (by omega) (by omega)
    omega
/-! Powers by squaring, for the kernel. -/
def pm (N : Nat) : Nat → Nat → Nat → Nat → Nat
  | 0, _, _, acc => acc
  | f + 1, b, e, acc => pm N f (b * b % N) (e / 2) (if e % 2 = 1 then acc * b % N else acc)
theorem pm_spec (N : Nat) (f : Nat) : ∀ b e acc, e < 2 ^ f → pm N f b e acc % N = acc * b ^ e % N := by
  induction f with
  | zero =>
    intro b e acc h
    have : e = 0 := by simpa using h
    rw [this, Nat.pow_zero, Nat.mul_one]; rfl
  | succ f ih =>
    intro b e acc h
    show pm N f (b * b % N) (e / 2) (if e % 2 = 1 then acc * b % N else acc) % N = _
    rw [ih _ _ _ (by rw [Nat.pow_succ] at h; omega)]
    have h1 : (b * b % N) ^ (e / 2) % N = b ^ (2 * (e / 2)) % N := by
      rw [← Nat.pow_mod, Nat.pow_mul, Nat.pow_two]
    rw [Nat.mul_mod, h1, ← Nat.mul_mod]
    by_cases he : e % 2 = 1
    · rw [if_pos he, Nat.mul_mod, Nat.mod_mod, ← Nat.mul_mod, Nat.mul_assoc, ← Nat.pow_add_one']
      have : 2 * (e / 2) + 1 = e := by omega
      rw [this]
    · rw [if_neg he]
      have : 2 * (e / 2) = e := by omega
      rw [this]
theorem pm_spec2 (N g h b e acc : Nat) (hh : e < 2 ^ g * 2 ^ h) : pm N (g + h) b e acc % N = acc * b ^ e % N :=
  pm_spec N (g + h) b e acc (by rw [Nat.pow_add]; exact hh)
theorem pm_eq {N a e c : Nat} (h : e < 2 ^ 256 * 2 ^ 256 ∧ pm N 512 a e 1 % N = c) : a ^ e % N = c := by
  have := pm_spec2 N 256 256 a e 1 h.1
  rw [Nat.one_mul] at this
  rw [← this]; exact h.2
theorem cop_pm {N a e M : Nat} (h : e < 2 ^ 256 * 2 ^ 256 ∧ Nat.gcd (pm N 512 a e 1 % N + M) N = 1) : Nat.Coprime (a ^ e % N + M) N := by
  have := pm_eq (N := N) (a := a) (e := e) ⟨h.1, rfl⟩
  rw [this]; exact h.2
/-! Trial division. -/
def tr (n : Nat) : Nat → Nat → Bool
  | 0, _ => true
  | f + 1, d => if n % d = 0 then false else tr n f (d + 1)
theorem tr_spec (n : Nat) (f : Nat) : ∀ d, tr n f d = true → ∀ c, d ≤ c → c < d + f → ¬ c ∣ n := by
  induction f with
  | zero => intro d _ c h1 h2; omega
  | succ f ih =>
    intro d h c h1 h2 hc
    unfold tr at h
    by_cases h0 : n % d = 0
    · rw [if_pos h0] at h; exact absurd h (by decide)
    · rw [if_neg h0] at h
      by_cases e : c = d
      · rw [e] at hc; exact h0 (Nat.mod_eq_zero_of_dvd hc)
      · exact ih (d + 1) h c (by omega) (by omega) hc
theorem prm_trial (n f : Nat) (h1 : 1 < n) (h2 : n < (f + 2) * (f + 2)) (h : n < 4 ∨ tr n f 2 = true) : Prm n := by
  refine ⟨h1, fun d hd => ?_⟩
  obtain ⟨c, hc⟩ := hd
  rcases h with h | h
  · have hd2 : d = 1 ∨ d = n := by
      have hle := Nat.le_of_dvd (by omega) (⟨c, hc⟩ : d ∣ n)
      have h0 : d ≠ 0 := by
        intro e; rw [e, Nat.zero_mul] at hc; omega
      rcases d with _ | _ | _ | d
      · exact absurd rfl h0
      · left; rfl
      · right
        have : n = 2 ∨ n = 3 := by omega
        rcases this with e | e
        · omega
        · omega
      · right; omega
    exact hd2
  · have key : ∀ x y, n = x * y → x ≤ y → x = 1 ∨ x = 0 := by
      intro x y e hle
      rcases Nat.lt_or_ge x 2 with g | g
      · omega
      · exfalso
        refine tr_spec n f 2 h x g ?_ ⟨y, e⟩
        rcases Nat.lt_or_ge x (2 + f) with g2 | g2
        · exact g2
        · exfalso
          have : (f + 2) * (f + 2) ≤ x * y := Nat.mul_le_mul (by omega) (by omega)
          omega
    rcases Nat.le_total d c with hle | hle
    · rcases key d c hc hle with e | e
      · exact Or.inl e
      · rw [e, Nat.zero_mul] at hc; omega
    · rcases key c d (by rw [hc, Nat.mul_comm]) hle with e | e
      · right; rw [hc, e, Nat.mul_one]
      · rw [e, Nat.mul_zero] at hc; omega
theorem pockp {N M F a d : Nat} (qs : List Nat) (hM : N = M + 1) (hF : F ∣ M) (hd : Prm d) (hdN : d ∣ N) (h1 : M < 2 ^ 256 * 2 ^ 256 ∧ pm N 512 a M 1 % N = 1)
    (hc : ∀ t, (∀ q, q ∈ qs → Nat.Coprime q t) → Nat.Coprime F t)
    (hq : ∀ q, q ∈ qs → Prm q ∧ q ∣ M ∧ M / q < 2 ^ 256 * 2 ^ 256 ∧ Nat.gcd (pm N 512 a (M / q) 1 % N + M) N = 1) : F ∣ d - 1 :=
  pock qs hM hF hd hdN (pm_eq h1) hc (fun q h => ⟨(hq q h).1, (hq q h).2.1, cop_pm (hq q h).2.2⟩)
theorem prm_2 : Prm 2 := prm_trial 2 2 (by decide) (by decide) (by decide +kernel)
theorem prm_52437899 : Prm 52437899 := prm_trial 52437899 7242 (by decide) (by decide) (by decide +kernel)
theorem prm_906349 : Prm 906349 := prm_trial 906349 953 (by decide) (by decide) (by decide +kernel)
theorem prm_254760293 : Prm 254760293 := prm_trial 254760293 15962 (by decide) (by decide) (by decide +kernel)
theorem fac_r : ∀ d, Prm d → d ∣ 52435875175126190479447740508185965837690552500527637822603658699938581184513 → 12007692098914813156957407318437874572875268096 ∣ d - 1 := by
  intro d hd hdN
  refine pockp (N := 52435875175126190479447740508185965837690552500527637822603658699938581184513) (M := 52435875175126190479447740508185965837690552500527637822603658699938581184512) (F := 12007692098914813156957407318437874572875268096) (a := 5) [2, 906349, 52437899, 254760293] (by decide) (by decide +kernel) hd hdN (by decide +kernel) ?_ ?_
  · intro t h
    have e : 12007692098914813156957407318437874572875268096 = (2 ^ 32 * (906349 ^ 2 * (52437899 * 254760293 ^ 2))) := by decide
    rw [e]
    exact Nat.Coprime.mul_left (Nat.Coprime.pow_left 32 (h 2 (by decide))) (Nat.Coprime.mul_left (Nat.Coprime.pow_left 2 (h 906349 (by decide))) (Nat.Coprime.mul_left ((h 52437899 (by decide))) (Nat.Coprime.pow_left 2 (h 254760293 (by decide)))))
  · intro q hq
    simp only [List.mem_cons, List.not_mem_nil, or_false] at hq
    rcases hq with rfl | rfl | rfl | rfl
    · exact ⟨prm_2, by decide +kernel, by decide +kernel⟩
    · exact ⟨prm_906349, by decide +kernel, by decide +kernel⟩
    · exact ⟨prm_52437899, by decide +kernel, by decide +kernel⟩
    · exact ⟨prm_254760293, by decide +kernel, by decide +kernel⟩
theorem prm_r : Prm 52435875175126190479447740508185965837690552500527637822603658699938581184513 := prm_of (by decide) (by decide) fac_r
end NT
end Go.Proofs.YtfnmahjdkmgdkaaDoor
end
section
namespace Go.Proofs.YtfnmahjdkmgdkaaDoor
open Go.RowKit
namespace Rg
def rB : Nat := 52435875175126190479447740508185965837690552500527637822603658699938581184513
theorem rB_0 : wd rB 0 = 18446744069414584321 := by decide +kernel
theorem rB_1 : wd rB 1 = 6034159408538082302 := by decide +kernel
theorem rB_2 : wd rB 2 = 3691218898639771653 := by decide +kernel
theorem rB_3 : wd rB 3 = 8353516859464449352 := by decide +kernel
theorem rB_4 : wd rB 4 = 0 := by decide +kernel
theorem rB_5 : wd rB 5 = 0 := by decide +kernel
theorem rB_lt : rB < big := by
  have h : 4 * rB < big := by decide +kernel
  omega
theorem rB_ok : Ok rB := ⟨by decide +kernel, by decide +kernel, by decide +kernel⟩
theorem ex_build_rB {ρ : Operand → Value} {o : Oper} {w : World} (ho : o.op = .build 24 #[(0, .const (.int .u64 18446744069414584321)), (1, .const (.int .u64 6034159408538082302)), (2, .const (.int .u64 3691218898639771653)), (3, .const (.int .u64 8353516859464449352))]) (h0 : ρ (.const (.int .u64 18446744069414584321)) = .int .u64 18446744069414584321) (h1 : ρ (.const (.int .u64 6034159408538082302)) = .int .u64 6034159408538082302) (h2 : ρ (.const (.int .u64 3691218898639771653)) = .int .u64 3691218898639771653) (h3 : ρ (.const (.int .u64 8353516859464449352)) = .int .u64 8353516859464449352) : (execOp ρ o).run Tryd.prog w = .ok (.value (N rB)) w := by
  have e : N rB = .agg #[.int .u64 18446744069414584321, .int .u64 6034159408538082302, .int .u64 3691218898639771653, .int .u64 8353516859464449352, .int .u64 0, .int .u64 0] := by simp only [N, rB_0, rB_1, rB_2, rB_3, rB_4, rB_5]
  rw [e]
  clear e
  simp only [execOp, ho]
  go_simp
set_option maxRecDepth 100000 in
theorem base_rB (w : World) :
    Calls Tryd.prog 52 #[] w fun e w' => e = .returned (N rB) ∧ Below w.heap.size w w' := by
  have H0 : Hid (_ ∧ _) := ⟨Mm.nil w, Below.refl w.heap.size w⟩
  go_enter Tryd.func52, Tryd.ntmps52
  refine wp_seq ?_
  refine walk_seqA 1 [.made zero6 24] (sB H0) ?ho1 ?he1
  case ho1 => exact ak (fun γ => ⟨rfl, fun w' => exec_made6 rfl⟩) trivial
  intro γ w1 l hM hl
  have H1 : Hid (Mm w1 [(γ 0, zero6)] ∧ _) := growB H0 hM (Nat.le_refl _) hl [0] rfl (by decide)
  have o1_0 := ownB H0 hM (Nat.le_refl _) hl (i := 0) rfl
  clear hM hl l
  generalize γ 0 = γ1_0 at H1 o1_0 ⊢
  clear γ
  refine rest0 rfl (then_normal (wp_seq ?_))
  refine walk_seqB 1 [.quiet (N rB)] H1 ?ho2 ?he2
  case ho2 => exact ak (fun γ => ⟨rfl, fun w' _ => ex_build_rB rfl rfl rfl rfl rfl ⟩) trivial
  intro _ w2 H2
  clear H1
  refine rest_at (l := [1]) rfl ?_
  refine rest_store rfl rfl rfl (ex_store6 H2.out.1 0 rfl rfl rfl rfl (Nat.le_of_ble_eq_true rfl)) ?_
  have H3 : Hid (Mm (w2.setCells γ1_0 0 (cells6 rB)) [(γ1_0, cells6 rB)] ∧ Below w.heap.size w (w2.setCells γ1_0 0 (cells6 rB))) := ⟨H2.out.1.put 0 (off := 0) (vs := cells6 rB) rfl (Nat.le_of_ble_eq_true rfl), below_setCells _ o1_0.out _ _ _ H2.out.2⟩
  clear H2
  generalize hgw : World.setCells _ _ _ _ = w3 at H3 ⊢
  clear hgw
  refine rest_nil (then_normal (wp_ret ?_))
  repeat (first | refine then_ret ?_ | refine block_ret ?_)
  have c0 := H3.out.1.get 0 rfl 0 rfl
  have c1 := H3.out.1.get 0 rfl 1 rfl
  have c2 := H3.out.1.get 0 rfl 2 rfl
  have c3 := H3.out.1.get 0 rfl 3 rfl
  have c4 := H3.out.1.get 0 rfl 4 rfl
  have c5 := H3.out.1.get 0 rfl 5 rfl
  refine bodyPost_ret (v := N rB) (by simp [results, Tryd.results52, go_sem, *]) rfl ?_
  exact ⟨rfl, H3.out.2⟩
end Rg
end Go.Proofs.YtfnmahjdkmgdkaaDoor
end
section
namespace Go.Proofs.YtfnmahjdkmgdkaaDoor
open Go.RowKit
namespace Rg
set_option maxRecDepth 100000
theorem len_zero : zero6.length = (cells6 0).length := by simp only [List.length_cons]
theorem rounds_in {P : Program} {c : Code} {Q : Exit → Act → World → Prop} {n : Nat} {a : Act} {w : World} (h : c.wp P (Exit.then (Code.rounds P c Q n) Q) a w) : Code.rounds P c Q (n + 1) a w := h
section
variable {ρ : Operand → Value} {o : Oper} {x y z u : Operand} {a b c d : Nat} {w : World}
theorem ex_bsN1 (ho : o.op = .buildSlice 38 1 #[(0, x)]) (hx : ρ x = N a) : (execOp ρ o).run Tryd.prog w = .ok (.value (.slice (some ⟨w.heap.size, 0, none⟩) 1 1)) (w.alloc (.cells (cel [a] : List Value).toArray 24)) := by
  simp only [execOp, ho, List.map_toArray, List.map_cons, List.map_nil, hx]
  kernel_rfl
theorem ex_bsN2 (ho : o.op = .buildSlice 38 2 #[(0, x), (1, y)]) (hx : ρ x = N a) (hy : ρ y = N b) : (execOp ρ o).run Tryd.prog w = .ok (.value (.slice (some ⟨w.heap.size, 0, none⟩) 2 2)) (w.alloc (.cells (cel [a, b] : List Value).toArray 24)) := by
  simp only [execOp, ho, List.map_toArray, List.map_cons, List.map_nil, hx, hy]
  kernel_rfl
end
set_option maxRecDepth 100000 in
theorem order_great (r : Nat)
    (c0 : ∀ w, Calls Tryd.prog 52 #[] w fun e w' => e = .returned (N r) ∧ Below w.heap.size w w') (w : World) :
    Calls Tryd.prog 25 #[.int .i64 0] w fun e w' => e = .returned (.tuple #[N r, .int .i64 0]) ∧ Below w.heap.size w w' := by
  have H0 : Hid (_ ∧ _) := ⟨Mm.nil w, Below.refl w.heap.size w⟩
  have C0 : Hid _ := c0
  clear c0
  go_enter Tryd.func25, Tryd.ntmps25
  refine wp_seq ?_
  refine walk_seqA 2 [.made zero6 24, .quiet (.int .i64 0)] (sB H0) ?ho1 ?he1
  case ho1 => exact ak (fun γ => ⟨rfl, fun w' => exec_made6 rfl⟩) (ak (fun _ => ⟨rfl, fun _ _ => rfl⟩) trivial)
  intro γ w1 l hM hl
  have H1 : Hid (Mm w1 [(γ 0, zero6)] ∧ _) := growB H0 hM (Nat.le_refl _) hl [0] rfl (by decide)
  have o1_0 := ownB H0 hM (Nat.le_refl _) hl (i := 0) rfl
  clear hM hl l
  generalize γ 0 = γ1_0 at H1 o1_0 ⊢
  clear γ
  refine rest0 rfl (then_normal (wp_seq ?_))
  refine walk_seqB 1 [.quiet (.int .i64 0)] H1 ?ho2 ?he2
  case ho2 => exact ak (fun _ => ⟨rfl, fun _ _ => rfl⟩) trivial
  intro _ w2 H2
  clear H1
  refine rest0 rfl (then_normal (wp_block (wp_seq ?_)))
  refine walk_seqB 2 [.quiet (.bool true), .quiet (.bool true)] H2 ?ho3 ?he3
  case ho3 => exact ak (by refine fun γ => ⟨rfl, fun w' h => ?_⟩; clear h; go_simp) (ak (fun _ => ⟨rfl, fun _ _ => rfl⟩) trivial)
  intro _ w3 H3
  clear H2
  refine rest0 rfl (then_normal (wp_cond_true rfl (wp_seq ?_)))
  refine walk_seqB 1 [.call (N r)] H3 ?ho4 ?he4
  case ho4 => exact ak (fun γ => ⟨rfl, fun w' h => ⟨52, #[], exec_call rfl call52 rfl (mpn rfl), C0.out w'⟩⟩) trivial
  intro _ w4 H4
  clear H3
  refine rest_at (l := [1, 2]) rfl ?_
  refine rest_store rfl rfl rfl (ex_store6 H4.out.1 0 rfl rfl rfl rfl (Nat.le_of_ble_eq_true rfl)) ?_
  have H5 : Hid (Mm (w4.setCells γ1_0 0 (cells6 r)) [(γ1_0, cells6 r)] ∧ Below w.heap.size w (w4.setCells γ1_0 0 (cells6 r))) := ⟨H4.out.1.put 0 (off := 0) (vs := cells6 r) rfl (Nat.le_of_ble_eq_true rfl), below_setCells _ o1_0.out _ _ _ H4.out.2⟩
  clear H4
  generalize hgw : World.setCells _ _ _ _ = w5 at H5 ⊢
  clear hgw
  refine rest_set (d := 3) rfl rfl rfl rfl ?_
  simp only [Act.put, sa, sz, ss]
  refine rest_nil (then_normal (wp_ret ?_))
  repeat (first | refine then_ret ?_ | refine block_ret ?_)
  have c0 := H5.out.1.get 0 rfl 0 rfl
  have c1 := H5.out.1.get 0 rfl 1 rfl
  have c2 := H5.out.1.get 0 rfl 2 rfl
  have c3 := H5.out.1.get 0 rfl 3 rfl
  have c4 := H5.out.1.get 0 rfl 4 rfl
  have c5 := H5.out.1.get 0 rfl 5 rfl
  refine bodyPost_ret (v := .tuple #[N r, .int .i64 0]) (by simp [results, Tryd.results25, go_sem, *]) rfl ?_
  exact ⟨rfl, H5.out.2⟩
set_option maxRecDepth 100000 in
theorem order_little (s er : Int) (q r : Nat) (hs : s ≠ 0)
    (c0 : ∀ w, Calls Tryd.prog 53 #[.int .i64 s] w fun e w' => e = .returned (.tuple #[.int .u64 (q : Int), .int .i64 er]) ∧ Below w.heap.size w w')
    (c1 : ∀ w, Calls Tryd.prog 23 #[.int .u64 (q : Int)] w fun e w' => e = .returned (N r) ∧ Below w.heap.size w w') (w : World) :
    Calls Tryd.prog 25 #[.int .i64 s] w fun e w' => e = .returned (.tuple #[N r, .int .i64 er]) ∧ Below w.heap.size w w' := by
  have H0 : Hid (_ ∧ _) := ⟨Mm.nil w, Below.refl w.heap.size w⟩
  have C0 : Hid _ := c0
  have C1 : Hid _ := c1
  clear c0 c1
  go_enter Tryd.func25, Tryd.ntmps25
  refine wp_seq ?_
  refine walk_seqA 2 [.made zero6 24, .quiet (.int .i64 0)] (sB H0) ?ho1 ?he1
  case ho1 => exact ak (fun γ => ⟨rfl, fun w' => exec_made6 rfl⟩) (ak (fun _ => ⟨rfl, fun _ _ => rfl⟩) trivial)
  intro γ w1 l hM hl
  have H1 : Hid (Mm w1 [(γ 0, zero6)] ∧ _) := growB H0 hM (Nat.le_refl _) hl [0] rfl (by decide)
  have o1_0 := ownB H0 hM (Nat.le_refl _) hl (i := 0) rfl
  clear hM hl l
  generalize γ 0 = γ1_0 at H1 o1_0 ⊢
  clear γ
  refine rest0 rfl (then_normal (wp_seq ?_))
  refine walk_seqB 1 [.quiet (.int .i64 s)] H1 ?ho2 ?he2
  case ho2 => exact ak (fun _ => ⟨rfl, fun _ _ => rfl⟩) trivial
  intro _ w2 H2
  clear H1
  refine rest0 rfl (then_normal (wp_block (wp_seq ?_)))
  refine walk_seqB 2 [.quiet (.bool false), .quiet (.bool false)] H2 ?ho3 ?he3
  case ho3 => exact ak (by refine fun γ => ⟨rfl, fun w' h => ?_⟩; clear h; go_simp) (ak (fun _ => ⟨rfl, fun _ _ => rfl⟩) trivial)
  intro _ w3 H3
  clear H2
  refine rest0 rfl (then_normal (wp_cond_false rfl (wp_seq ?_)))
  refine walk_seqB 7 [.quiet (.int .i64 s), .call (.tuple #[.int .u64 (q : Int), .int .i64 er]), .quiet (.tuple #[.int .u64 (q : Int), .int .i64 er]), .quiet (.int .u64 (q : Int)), .quiet (.int .i64 er), .quiet (.int .u64 (q : Int)), .quiet (.int .i64 er)] H3 ?ho4 ?he4
  case ho4 => exact ak (fun _ => ⟨rfl, fun _ _ => rfl⟩) (ak (fun γ => ⟨rfl, fun w' h => ⟨53, #[.int .i64 s], exec_call rfl call53 rfl (mpn rfl), C0.out w'⟩⟩) (ak (fun _ => ⟨rfl, fun _ _ => rfl⟩) (ak (by refine fun γ => ⟨rfl, fun w' h => ?_⟩; clear h; go_simp) (ak (by refine fun γ => ⟨rfl, fun w' h => ?_⟩; clear h; go_simp) (ak (fun _ => ⟨rfl, fun _ _ => rfl⟩) (ak (fun _ => ⟨rfl, fun _ _ => rfl⟩) trivial))))))
  intro _ w4 H4
  clear H3
  refine rest0 rfl (then_normal (wp_seq ?_))
  refine walk_seqB 3 [.quiet (.int .u64 (q : Int)), .call (N r), .quiet (.int .i64 er)] H4 ?ho5 ?he5
  case ho5 => exact ak (fun _ => ⟨rfl, fun _ _ => rfl⟩) (ak (fun γ => ⟨rfl, fun w' h => ⟨23, #[.int .u64 (q : Int)], exec_call rfl call23 rfl (mpn rfl), C1.out w'⟩⟩) (ak (fun _ => ⟨rfl, fun _ _ => rfl⟩) trivial))
  intro _ w5 H5
  clear H4
  refine rest_at (l := [3, 4]) rfl ?_
  refine rest_store rfl rfl rfl (ex_store6 H5.out.1 0 rfl rfl rfl rfl (Nat.le_of_ble_eq_true rfl)) ?_
  have H6 : Hid (Mm (w5.setCells γ1_0 0 (cells6 r)) [(γ1_0, cells6 r)] ∧ Below w.heap.size w (w5.setCells γ1_0 0 (cells6 r))) := ⟨H5.out.1.put 0 (off := 0) (vs := cells6 r) rfl (Nat.le_of_ble_eq_true rfl), below_setCells _ o1_0.out _ _ _ H5.out.2⟩
  clear H5
  generalize hgw : World.setCells _ _ _ _ = w6 at H6 ⊢
  clear hgw
  refine rest_set (d := 3) rfl rfl rfl rfl ?_
  simp only [Act.put, sa, sz, ss]
  refine rest_nil (then_normal (wp_ret ?_))
  repeat (first | refine then_ret ?_ | refine block_ret ?_)
  have c0 := H6.out.1.get 0 rfl 0 rfl
  have c1 := H6.out.1.get 0 rfl 1 rfl
  have c2 := H6.out.1.get 0 rfl 2 rfl
  have c3 := H6.out.1.get 0 rfl 3 rfl
  have c4 := H6.out.1.get 0 rfl 4 rfl
  have c5 := H6.out.1.get 0 rfl 5 rfl
  refine bodyPost_ret (v := .tuple #[N r, .int .i64 er]) (by simp [results, Tryd.results25, go_sem, *]) rfl ?_
  exact ⟨rfl, H6.out.2⟩
/-- A suite: its order is told, and is a modulus. -/
structure Su (s : Int) (r : Nat) : Prop where
  ord : ∀ w, Calls Tryd.prog 25 #[.int .i64 s] w fun e w' => e = .returned (.tuple #[N r, .int .i64 0]) ∧ Below w.heap.size w w'
  ok : Ok r
/-- No suite. -/
def Sn (s : Int) : Prop := ∀ w, Calls Tryd.prog 25 #[.int .i64 s] w fun e w' => e = .returned (.tuple #[N 0, .int .i64 2]) ∧ Below w.heap.size w w'
theorem cmpv_ge {a n : Nat} (h : ¬ a < n) : 0 ≤ cmpv a n := by have := cmp_ge h; omega
theorem cmp_raw {a r : Nat} (ha : a < big) (ok : Ok r) (w : World) : Calls Tryd.prog 41 #[N a, N r] w fun e w' => e = .returned (.int .i64 (cmpv a r)) ∧ Below w.heap.size w w' := compare_any a r ha ok.big w
theorem cmp_below {a r : Nat} (h : a < r) (ok : Ok r) (w : World) : Calls Tryd.prog 41 #[N a, N r] w fun e w' => e = .returned (.int .i64 (-1)) ∧ Below w.heap.size w w' := by
  have e := compare_any a r (Nat.lt_trans h ok.big) ok.big w
  rw [cmp_lt h] at e
  exact e
set_option maxHeartbeats 1000000 in
set_option maxRecDepth 100000 in
theorem above1_ok {s : Int} {r : Nat} (hS : Su s r) (g a : Nat) (ha : a < r) (w : World) (hm : Mm w [(g, cel [a])]) :
    Calls Tryd.prog 81 #[.int .i64 s, .slice (some ⟨g, 0, none⟩) 1 1] w fun e w' => e = .returned (.tuple #[N r, .int .i64 0]) ∧ Below w.heap.size w w' := by
  have H0 : Hid (_ ∧ _) := ⟨hm, Below.refl w.heap.size w⟩
  clear hm
  go_enter Tryd.func81, Tryd.ntmps81
  refine wp_seq ?_
  refine walk_seqA 2 [.made zero6 24, .quiet (.int .i64 0)] (sB H0) ?ho1 ?he1
  case ho1 => exact ak (fun γ => ⟨rfl, fun w' => exec_made6 rfl⟩) (ak (fun _ => ⟨rfl, fun _ _ => rfl⟩) trivial)
  intro γ w1 l hM hl
  have H1 : Hid (Mm w1 [(γ 0, zero6), (g, cel [a])] ∧ _) := growB H0 hM (Nat.le_refl _) hl [0] rfl (by decide)
  have o1_0 := ownB H0 hM (Nat.le_refl _) hl (i := 0) rfl
  clear hM hl l
  generalize γ 0 = γ1_0 at H1 o1_0 ⊢
  clear γ
  refine rest0 rfl (then_normal (wp_seq ?_))
  refine walk_seqA 8 [.quiet (.int .i64 s), .call (.tuple #[N r, .int .i64 0]), .quiet (.tuple #[N r, .int .i64 0]), .quiet (N r), .quiet (.int .i64 0), .made zero6 24, .laid 5 zero6 (cells6 r), .quiet (.int .i64 0)] (sB H1) ?ho2 ?he2 (hL := ?hL2)
  case hL2 => exact ⟨⟨_, rfl⟩, trivial⟩
  case ho2 => exact ak (fun _ => ⟨rfl, fun _ _ => rfl⟩) (ak (fun γ => ⟨rfl, fun w' h => ⟨25, #[.int .i64 s], exec_call rfl call25 rfl (mpn rfl), hS.ord w'⟩⟩) (ak (fun _ => ⟨rfl, fun _ _ => rfl⟩) (ak (by refine fun γ => ⟨rfl, fun w' h => ?_⟩; clear h; go_simp) (ak (by refine fun γ => ⟨rfl, fun w' h => ?_⟩; clear h; go_simp) (ak (fun γ => ⟨rfl, fun w' => exec_made6 rfl⟩) (ak (fun γ => ⟨rfl, rfl, rfl, fun w' h => exec_laid6 h rfl rfl rfl⟩) (ak (fun _ => ⟨rfl, fun _ _ => rfl⟩) trivial)))))))
  intro γ w2 l hM hl
  have H2 : Hid (Mm w2 [(γ 5, cells6 r), (γ1_0, zero6), (g, cel [a])] ∧ _) := growB H1 hM (Nat.le_refl _) hl [5] rfl (by decide)
  have o2_5 := ownB H1 hM (Nat.le_refl _) hl (i := 5) rfl
  clear hM hl l H1
  generalize γ 5 = γ2_5 at H2 o2_5 ⊢
  clear γ
  refine rest0 rfl (then_normal (wp_seq (wp_seq ?_)))
  refine walk_seqB 2 [.quiet (.int .i64 0), .quiet (.bool false)] H2 ?ho3 ?he3
  case ho3 => exact ak (fun _ => ⟨rfl, fun _ _ => rfl⟩) (ak (by refine fun γ => ⟨rfl, fun w' h => ?_⟩; clear h; go_simp) trivial)
  intro _ w3 H3
  clear H2
  refine rest0 rfl (then_normal (wp_cond_false rfl ?_))
  refine wp_skip (then_normal ?_)
  refine wp_seq (wp_seq ?_)
  refine walk_seqB 3 [.quiet (.slice (some ⟨g, 0, none⟩) 1 1), .quiet (.int .i64 1), .quiet (.int .i64 0)] H3 ?ho4 ?he4
  case ho4 => exact ak (fun _ => ⟨rfl, fun _ _ => rfl⟩) (ak (by refine fun γ => ⟨rfl, fun w' h => ?_⟩; clear h; go_simp) (ak (fun _ => ⟨rfl, fun _ _ => rfl⟩) trivial))
  intro _ w4 H4
  clear H3
  refine rest0 rfl (then_normal (wp_block ?_))
  refine wp_loop_rounds 2 ?_
  refine rounds_in (n := 1) ?_
  refine wp_seq ?_
  refine walk_seqB 1 [.quiet (.bool true)] H4 ?ho5 ?he5
  case ho5 => exact ak (by refine fun γ => ⟨rfl, fun w' h => ?_⟩; clear h; go_simp) trivial
  intro _ w5 H5
  clear H4
  refine rest0 rfl (then_normal (wp_seq ?_))
  refine wp_cond_true rfl (wp_skip ?_)
  refine then_normal (wp_seq ?_)
  refine wp_block (wp_seq ?_)
  refine walk_seqA 4 [.quiet (PT g 0), .quiet (N a), .made zero6 24, .laid 2 zero6 (cells6 a)] (sB H5) ?ho6 ?he6 (hL := ?hL6)
  case hL6 => exact ⟨⟨_, rfl⟩, trivial⟩
  case ho6 => exact ak (by refine fun γ => ⟨rfl, fun w' h => ?_⟩; clear h; go_simp) (ak (fun γ => ⟨rfl, fun w' h => ex_loadN (i := 0) h 2 rfl rfl rfl rfl⟩) (ak (fun γ => ⟨rfl, fun w' => exec_made6 rfl⟩) (ak (fun γ => ⟨rfl, rfl, rfl, fun w' h => exec_laid6 h rfl rfl rfl⟩) trivial)))
  intro γ w6 l hM hl
  have H6 : Hid (Mm w6 [(γ 2, cells6 a), (γ2_5, cells6 r), (γ1_0, zero6), (g, cel [a])] ∧ _) := growB H5 hM (Nat.le_refl _) hl [2] rfl (by decide)
  have o6_2 := ownB H5 hM (Nat.le_refl _) hl (i := 2) rfl
  clear hM hl l H5
  generalize γ 2 = γ6_2 at H6 o6_2 ⊢
  clear γ
  refine rest0 rfl (then_normal (wp_seq ?_))
  refine walk_seqB 4 [.quiet (N a), .quiet (N r), .call (.int .i64 (-1)), .quiet (.bool false)] H6 ?ho7 ?he7
  case ho7 => exact ak (fun γ => ⟨rfl, fun w' h => ex_load6 h 0 rfl rfl rfl rfl⟩) (ak (fun γ => ⟨rfl, fun w' h => ex_load6 h 1 rfl rfl rfl rfl⟩) (ak (fun γ => ⟨rfl, fun w' h => ⟨41, #[N a, N r], exec_call rfl call41 rfl (mpn rfl), cmp_below ha hS.ok w'⟩⟩) (ak (by refine fun γ => ⟨rfl, fun w' h => ?_⟩; clear h; go_simp) trivial)))
  intro _ w7 H7
  clear H6
  refine rest0 rfl (then_normal (wp_cond_false rfl ?_))
  refine wp_skip (block_normal (then_normal ?_))
  refine walk_seqB 1 [.quiet (.int .i64 1)] H7 ?ho8 ?he8
  case ho8 => exact ak (fun γ => ⟨rfl, fun w' _ => by kernel_rfl⟩) trivial
  intro _ w8 H8
  clear H7
  refine rest_at (l := [1]) rfl ?_
  refine rest_set (d := 21) rfl rfl rfl rfl ?_
  simp only [Act.put, sa, sz, ss]
  refine rest_nil (then_normal ?_)
  refine rounds_in (n := 0) ?_
  refine wp_seq ?_
  refine walk_seqB 1 [.quiet (.bool false)] H8 ?ho9 ?he9
  case ho9 => exact ak (by refine fun γ => ⟨rfl, fun w' h => ?_⟩; clear h; go_simp) trivial
  intro _ w9 H9
  clear H8
  refine rest0 rfl (then_normal (wp_seq (wp_cond_false rfl ?_)))
  refine wp_exit ?_
  repeat refine then_exit ?_
  refine block_exit ?_
  refine then_normal (wp_seq ?_)
  refine walk_seqB 1 [.quiet (N r)] H9 ?ho10 ?he10
  case ho10 => exact ak (fun γ => ⟨rfl, fun w' h => ex_load6 h 1 rfl rfl rfl rfl⟩) trivial
  intro _ w10 H10
  clear H9
  refine rest_at (l := [1, 2]) rfl ?_
  refine rest_store rfl rfl rfl (ex_store6 H10.out.1 2 rfl rfl rfl rfl (Nat.le_of_ble_eq_true rfl)) ?_
  have H11 : Hid (Mm (w10.setCells γ1_0 0 (cells6 r)) [(γ6_2, cells6 a), (γ2_5, cells6 r), (γ1_0, cells6 r), (g, cel [a])] ∧ Below w.heap.size w (w10.setCells γ1_0 0 (cells6 r))) := ⟨H10.out.1.put 2 (off := 0) (vs := cells6 r) rfl (Nat.le_of_ble_eq_true rfl), below_setCells _ o1_0.out _ _ _ H10.out.2⟩
  clear H10
  generalize hgw : World.setCells _ _ _ _ = w11 at H11 ⊢
  clear hgw
  refine rest_set (d := 5) rfl rfl rfl rfl ?_
  simp only [Act.put, sa, sz, ss]
  refine rest_nil (then_normal (wp_ret ?_))
  repeat (first | refine then_ret ?_ | refine block_ret ?_)
  have c0 := H11.out.1.get 2 rfl 0 rfl
  have c1 := H11.out.1.get 2 rfl 1 rfl
  have c2 := H11.out.1.get 2 rfl 2 rfl
  have c3 := H11.out.1.get 2 rfl 3 rfl
  have c4 := H11.out.1.get 2 rfl 4 rfl
  have c5 := H11.out.1.get 2 rfl 5 rfl
  refine bodyPost_ret (v := .tuple #[N r, .int .i64 0]) (by simp [results, Tryd.results81, go_sem, *]) rfl ?_
  exact ⟨rfl, H11.out.2⟩
set_option maxHeartbeats 1000000 in
set_option maxRecDepth 100000 in
theorem above1_no {s : Int} {r : Nat} (hS : Su s r) (g a : Nat) (hba : a < big) (ha : ¬ a < r) (w : World) (hm : Mm w [(g, cel [a])]) :
    Calls Tryd.prog 81 #[.int .i64 s, .slice (some ⟨g, 0, none⟩) 1 1] w fun e w' => e = .returned (.tuple #[N 0, .int .i64 2]) ∧ Below w.heap.size w w' := by
  have H0 : Hid (_ ∧ _) := ⟨hm, Below.refl w.heap.size w⟩
  clear hm
  go_enter Tryd.func81, Tryd.ntmps81
  refine wp_seq ?_
  refine walk_seqA 2 [.made zero6 24, .quiet (.int .i64 0)] (sB H0) ?ho1 ?he1
  case ho1 => exact ak (fun γ => ⟨rfl, fun w' => exec_made6 rfl⟩) (ak (fun _ => ⟨rfl, fun _ _ => rfl⟩) trivial)
  intro γ w1 l hM hl
  have H1 : Hid (Mm w1 [(γ 0, zero6), (g, cel [a])] ∧ _) := growB H0 hM (Nat.le_refl _) hl [0] rfl (by decide)
  have o1_0 := ownB H0 hM (Nat.le_refl _) hl (i := 0) rfl
  clear hM hl l
  generalize γ 0 = γ1_0 at H1 o1_0 ⊢
  clear γ
  refine rest0 rfl (then_normal (wp_seq ?_))
  refine walk_seqA 8 [.quiet (.int .i64 s), .call (.tuple #[N r, .int .i64 0]), .quiet (.tuple #[N r, .int .i64 0]), .quiet (N r), .quiet (.int .i64 0), .made zero6 24, .laid 5 zero6 (cells6 r), .quiet (.int .i64 0)] (sB H1) ?ho2 ?he2 (hL := ?hL2)
  case hL2 => exact ⟨⟨_, rfl⟩, trivial⟩
  case ho2 => exact ak (fun _ => ⟨rfl, fun _ _ => rfl⟩) (ak (fun γ => ⟨rfl, fun w' h => ⟨25, #[.int .i64 s], exec_call rfl call25 rfl (mpn rfl), hS.ord w'⟩⟩) (ak (fun _ => ⟨rfl, fun _ _ => rfl⟩) (ak (by refine fun γ => ⟨rfl, fun w' h => ?_⟩; clear h; go_simp) (ak (by refine fun γ => ⟨rfl, fun w' h => ?_⟩; clear h; go_simp) (ak (fun γ => ⟨rfl, fun w' => exec_made6 rfl⟩) (ak (fun γ => ⟨rfl, rfl, rfl, fun w' h => exec_laid6 h rfl rfl rfl⟩) (ak (fun _ => ⟨rfl, fun _ _ => rfl⟩) trivial)))))))
  intro γ w2 l hM hl
  have H2 : Hid (Mm w2 [(γ 5, cells6 r), (γ1_0, zero6), (g, cel [a])] ∧ _) := growB H1 hM (Nat.le_refl _) hl [5] rfl (by decide)
  have o2_5 := ownB H1 hM (Nat.le_refl _) hl (i := 5) rfl
  clear hM hl l H1
  generalize γ 5 = γ2_5 at H2 o2_5 ⊢
  clear γ
  refine rest0 rfl (then_normal (wp_seq (wp_seq ?_)))
  refine walk_seqB 2 [.quiet (.int .i64 0), .quiet (.bool false)] H2 ?ho3 ?he3
  case ho3 => exact ak (fun _ => ⟨rfl, fun _ _ => rfl⟩) (ak (by refine fun γ => ⟨rfl, fun w' h => ?_⟩; clear h; go_simp) trivial)
  intro _ w3 H3
  clear H2
  refine rest0 rfl (then_normal (wp_cond_false rfl ?_))
  refine wp_skip (then_normal ?_)
  refine wp_seq (wp_seq ?_)
  refine walk_seqB 3 [.quiet (.slice (some ⟨g, 0, none⟩) 1 1), .quiet (.int .i64 1), .quiet (.int .i64 0)] H3 ?ho4 ?he4
  case ho4 => exact ak (fun _ => ⟨rfl, fun _ _ => rfl⟩) (ak (by refine fun γ => ⟨rfl, fun w' h => ?_⟩; clear h; go_simp) (ak (fun _ => ⟨rfl, fun _ _ => rfl⟩) trivial))
  intro _ w4 H4
  clear H3
  refine rest0 rfl (then_normal (wp_block ?_))
  refine wp_loop_rounds 2 ?_
  refine rounds_in (n := 1) ?_
  refine wp_seq ?_
  refine walk_seqB 1 [.quiet (.bool true)] H4 ?ho5 ?he5
  case ho5 => exact ak (by refine fun γ => ⟨rfl, fun w' h => ?_⟩; clear h; go_simp) trivial
  intro _ w5 H5
  clear H4
  refine rest0 rfl (then_normal (wp_seq ?_))
  refine wp_cond_true rfl (wp_skip ?_)
  refine then_normal (wp_seq ?_)
  refine wp_block (wp_seq ?_)
  refine walk_seqA 4 [.quiet (PT g 0), .quiet (N a), .made zero6 24, .laid 2 zero6 (cells6 a)] (sB H5) ?ho6 ?he6 (hL := ?hL6)
  case hL6 => exact ⟨⟨_, rfl⟩, trivial⟩
  case ho6 => exact ak (by refine fun γ => ⟨rfl, fun w' h => ?_⟩; clear h; go_simp) (ak (fun γ => ⟨rfl, fun w' h => ex_loadN (i := 0) h 2 rfl rfl rfl rfl⟩) (ak (fun γ => ⟨rfl, fun w' => exec_made6 rfl⟩) (ak (fun γ => ⟨rfl, rfl, rfl, fun w' h => exec_laid6 h rfl rfl rfl⟩) trivial)))
  intro γ w6 l hM hl
  have H6 : Hid (Mm w6 [(γ 2, cells6 a), (γ2_5, cells6 r), (γ1_0, zero6), (g, cel [a])] ∧ _) := growB H5 hM (Nat.le_refl _) hl [2] rfl (by decide)
  have o6_2 := ownB H5 hM (Nat.le_refl _) hl (i := 2) rfl
  clear hM hl l H5
  generalize γ 2 = γ6_2 at H6 o6_2 ⊢
  clear γ
  refine rest0 rfl (then_normal (wp_seq ?_))
  refine walk_seqB 4 [.quiet (N a), .quiet (N r), .call (.int .i64 (cmpv a r)), .quiet (.bool true)] H6 ?ho7 ?he7
  case ho7 => exact ak (fun γ => ⟨rfl, fun w' h => ex_load6 h 0 rfl rfl rfl rfl⟩) (ak (fun γ => ⟨rfl, fun w' h => ex_load6 h 1 rfl rfl rfl rfl⟩) (ak (fun γ => ⟨rfl, fun w' h => ⟨41, #[N a, N r], exec_call rfl call41 rfl (mpn rfl), cmp_raw hba hS.ok w'⟩⟩) (ak (by refine fun γ => ⟨rfl, fun w' h => ?_⟩; clear h; have := cmpv_ge ha; go_simp) trivial)))
  intro _ w7 H7
  clear H6
  refine rest0 rfl (then_normal (wp_cond_true rfl (wp_seq ?_)))
  refine walk_seqB 1 [.quiet (N 0)] H7 ?ho8 ?he8
  case ho8 => exact ak (by refine fun γ => ⟨rfl, fun w' h => ?_⟩; clear h; exact ex_zero6 rfl) trivial
  intro _ w8 H8
  clear H7
  refine rest_at (l := [1, 2]) rfl ?_
  refine rest_store rfl rfl rfl (ex_store6 H8.out.1 2 rfl rfl rfl rfl (Nat.le_of_ble_eq_true rfl)) ?_
  have H9 : Hid (Mm (w8.setCells γ1_0 0 (cells6 0)) [(γ6_2, cells6 a), (γ2_5, cells6 r), (γ1_0, cells6 0), (g, cel [a])] ∧ Below w.heap.size w (w8.setCells γ1_0 0 (cells6 0))) := ⟨H8.out.1.put 2 (off := 0) (vs := cells6 0) rfl (Nat.le_of_ble_eq_true rfl), below_setCells _ o1_0.out _ _ _ H8.out.2⟩
  clear H8
  generalize hgw : World.setCells _ _ _ _ = w9 at H9 ⊢
  clear hgw
  refine rest_set (d := 5) rfl rfl rfl rfl ?_
  simp only [Act.put, sa, sz, ss]
  refine rest_nil (then_normal (wp_ret ?_))
  repeat (first | refine then_ret ?_ | refine block_ret ?_)
  have c0 := H9.out.1.get 2 rfl 0 rfl
  have c1 := H9.out.1.get 2 rfl 1 rfl
  have c2 := H9.out.1.get 2 rfl 2 rfl
  have c3 := H9.out.1.get 2 rfl 3 rfl
  have c4 := H9.out.1.get 2 rfl 4 rfl
  have c5 := H9.out.1.get 2 rfl 5 rfl
  refine bodyPost_ret (v := .tuple #[N 0, .int .i64 2]) (by simp [results, Tryd.results81, go_sem, *]) rfl ?_
  exact ⟨rfl, H9.out.2⟩
set_option maxHeartbeats 1000000 in
set_option maxRecDepth 100000 in
theorem above2_ok {s : Int} {r : Nat} (hS : Su s r) (g a b : Nat) (ha : a < r) (hb : b < r) (w : World) (hm : Mm w [(g, cel [a, b])]) :
    Calls Tryd.prog 81 #[.int .i64 s, .slice (some ⟨g, 0, none⟩) 2 2] w fun e w' => e = .returned (.tuple #[N r, .int .i64 0]) ∧ Below w.heap.size w w' := by
  have H0 : Hid (_ ∧ _) := ⟨hm, Below.refl w.heap.size w⟩
  clear hm
  go_enter Tryd.func81, Tryd.ntmps81
  refine wp_seq ?_
  refine walk_seqA 2 [.made zero6 24, .quiet (.int .i64 0)] (sB H0) ?ho1 ?he1
  case ho1 => exact ak (fun γ => ⟨rfl, fun w' => exec_made6 rfl⟩) (ak (fun _ => ⟨rfl, fun _ _ => rfl⟩) trivial)
  intro γ w1 l hM hl
  have H1 : Hid (Mm w1 [(γ 0, zero6), (g, cel [a, b])] ∧ _) := growB H0 hM (Nat.le_refl _) hl [0] rfl (by decide)
  have o1_0 := ownB H0 hM (Nat.le_refl _) hl (i := 0) rfl
  clear hM hl l
  generalize γ 0 = γ1_0 at H1 o1_0 ⊢
  clear γ
  refine rest0 rfl (then_normal (wp_seq ?_))
  refine walk_seqA 8 [.quiet (.int .i64 s), .call (.tuple #[N r, .int .i64 0]), .quiet (.tuple #[N r, .int .i64 0]), .quiet (N r), .quiet (.int .i64 0), .made zero6 24, .laid 5 zero6 (cells6 r), .quiet (.int .i64 0)] (sB H1) ?ho2 ?he2 (hL := ?hL2)
  case hL2 => exact ⟨⟨_, rfl⟩, trivial⟩
  case ho2 => exact ak (fun _ => ⟨rfl, fun _ _ => rfl⟩) (ak (fun γ => ⟨rfl, fun w' h => ⟨25, #[.int .i64 s], exec_call rfl call25 rfl (mpn rfl), hS.ord w'⟩⟩) (ak (fun _ => ⟨rfl, fun _ _ => rfl⟩) (ak (by refine fun γ => ⟨rfl, fun w' h => ?_⟩; clear h; go_simp) (ak (by refine fun γ => ⟨rfl, fun w' h => ?_⟩; clear h; go_simp) (ak (fun γ => ⟨rfl, fun w' => exec_made6 rfl⟩) (ak (fun γ => ⟨rfl, rfl, rfl, fun w' h => exec_laid6 h rfl rfl rfl⟩) (ak (fun _ => ⟨rfl, fun _ _ => rfl⟩) trivial)))))))
  intro γ w2 l hM hl
  have H2 : Hid (Mm w2 [(γ 5, cells6 r), (γ1_0, zero6), (g, cel [a, b])] ∧ _) := growB H1 hM (Nat.le_refl _) hl [5] rfl (by decide)
  have o2_5 := ownB H1 hM (Nat.le_refl _) hl (i := 5) rfl
  clear hM hl l H1
  generalize γ 5 = γ2_5 at H2 o2_5 ⊢
  clear γ
  refine rest0 rfl (then_normal (wp_seq (wp_seq ?_)))
  refine walk_seqB 2 [.quiet (.int .i64 0), .quiet (.bool false)] H2 ?ho3 ?he3
  case ho3 => exact ak (fun _ => ⟨rfl, fun _ _ => rfl⟩) (ak (by refine fun γ => ⟨rfl, fun w' h => ?_⟩; clear h; go_simp) trivial)
  intro _ w3 H3
  clear H2
  refine rest0 rfl (then_normal (wp_cond_false rfl ?_))
  refine wp_skip (then_normal ?_)
  refine wp_seq (wp_seq ?_)
  refine walk_seqB 3 [.quiet (.slice (some ⟨g, 0, none⟩) 2 2), .quiet (.int .i64 2), .quiet (.int .i64 0)] H3 ?ho4 ?he4
  case ho4 => exact ak (fun _ => ⟨rfl, fun _ _ => rfl⟩) (ak (by refine fun γ => ⟨rfl, fun w' h => ?_⟩; clear h; go_simp) (ak (fun _ => ⟨rfl, fun _ _ => rfl⟩) trivial))
  intro _ w4 H4
  clear H3
  refine rest0 rfl (then_normal (wp_block ?_))
  refine wp_loop_rounds 3 ?_
  refine rounds_in (n := 2) ?_
  refine wp_seq ?_
  refine walk_seqB 1 [.quiet (.bool true)] H4 ?ho5 ?he5
  case ho5 => exact ak (by refine fun γ => ⟨rfl, fun w' h => ?_⟩; clear h; go_simp) trivial
  intro _ w5 H5
  clear H4
  refine rest0 rfl (then_normal (wp_seq ?_))
  refine wp_cond_true rfl (wp_skip ?_)
  refine then_normal (wp_seq ?_)
  refine wp_block (wp_seq ?_)
  refine walk_seqA 4 [.quiet (PT g 0), .quiet (N a), .made zero6 24, .laid 2 zero6 (cells6 a)] (sB H5) ?ho6 ?he6 (hL := ?hL6)
  case hL6 => exact ⟨⟨_, rfl⟩, trivial⟩
  case ho6 => exact ak (by refine fun γ => ⟨rfl, fun w' h => ?_⟩; clear h; go_simp) (ak (fun γ => ⟨rfl, fun w' h => ex_loadN (i := 0) h 2 rfl rfl rfl rfl⟩) (ak (fun γ => ⟨rfl, fun w' => exec_made6 rfl⟩) (ak (fun γ => ⟨rfl, rfl, rfl, fun w' h => exec_laid6 h rfl rfl rfl⟩) trivial)))
  intro γ w6 l hM hl
  have H6 : Hid (Mm w6 [(γ 2, cells6 a), (γ2_5, cells6 r), (γ1_0, zero6), (g, cel [a, b])] ∧ _) := growB H5 hM (Nat.le_refl _) hl [2] rfl (by decide)
  have o6_2 := ownB H5 hM (Nat.le_refl _) hl (i := 2) rfl
  clear hM hl l H5
  generalize γ 2 = γ6_2 at H6 o6_2 ⊢
  clear γ
  refine rest0 rfl (then_normal (wp_seq ?_))
  refine walk_seqB 4 [.quiet (N a), .quiet (N r), .call (.int .i64 (-1)), .quiet (.bool false)] H6 ?ho7 ?he7
  case ho7 => exact ak (fun γ => ⟨rfl, fun w' h => ex_load6 h 0 rfl rfl rfl rfl⟩) (ak (fun γ => ⟨rfl, fun w' h => ex_load6 h 1 rfl rfl rfl rfl⟩) (ak (fun γ => ⟨rfl, fun w' h => ⟨41, #[N a, N r], exec_call rfl call41 rfl (mpn rfl), cmp_below ha hS.ok w'⟩⟩) (ak (by refine fun γ => ⟨rfl, fun w' h => ?_⟩; clear h; go_simp) trivial)))
  intro _ w7 H7
  clear H6
  refine rest0 rfl (then_normal (wp_cond_false rfl ?_))
  refine wp_skip (block_normal (then_normal ?_))
  refine walk_seqB 1 [.quiet (.int .i64 1)] H7 ?ho8 ?he8
  case ho8 => exact ak (fun γ => ⟨rfl, fun w' _ => by kernel_rfl⟩) trivial
  intro _ w8 H8
  clear H7
  refine rest_at (l := [1]) rfl ?_
  refine rest_set (d := 21) rfl rfl rfl rfl ?_
  simp only [Act.put, sa, sz, ss]
  refine rest_nil (then_normal ?_)
  refine rounds_in (n := 1) ?_
  refine wp_seq ?_
  refine walk_seqB 1 [.quiet (.bool true)] H8 ?ho9 ?he9
  case ho9 => exact ak (by refine fun γ => ⟨rfl, fun w' h => ?_⟩; clear h; go_simp) trivial
  intro _ w9 H9
  clear H8
  refine rest0 rfl (then_normal (wp_seq ?_))
  refine wp_cond_true rfl (wp_skip ?_)
  refine then_normal (wp_seq ?_)
  refine wp_block (wp_seq ?_)
  refine walk_seqA 4 [.quiet (PT g 6), .quiet (N b), .made zero6 24, .laid 2 zero6 (cells6 b)] (sB H9) ?ho10 ?he10 (hL := ?hL10)
  case hL10 => exact ⟨⟨_, rfl⟩, trivial⟩
  case ho10 => exact ak (by refine fun γ => ⟨rfl, fun w' h => ?_⟩; clear h; go_simp) (ak (fun γ => ⟨rfl, fun w' h => ex_loadN (i := 1) h 3 rfl rfl rfl rfl⟩) (ak (fun γ => ⟨rfl, fun w' => exec_made6 rfl⟩) (ak (fun γ => ⟨rfl, rfl, rfl, fun w' h => exec_laid6 h rfl rfl rfl⟩) trivial)))
  intro γ w10 l hM hl
  have H10 : Hid (Mm w10 [(γ 2, cells6 b), (γ6_2, cells6 a), (γ2_5, cells6 r), (γ1_0, zero6), (g, cel [a, b])] ∧ _) := growB H9 hM (Nat.le_refl _) hl [2] rfl (by decide)
  have o10_2 := ownB H9 hM (Nat.le_refl _) hl (i := 2) rfl
  clear hM hl l H9
  generalize γ 2 = γ10_2 at H10 o10_2 ⊢
  clear γ
  refine rest0 rfl (then_normal (wp_seq ?_))
  refine walk_seqB 4 [.quiet (N b), .quiet (N r), .call (.int .i64 (-1)), .quiet (.bool false)] H10 ?ho11 ?he11
  case ho11 => exact ak (fun γ => ⟨rfl, fun w' h => ex_load6 h 0 rfl rfl rfl rfl⟩) (ak (fun γ => ⟨rfl, fun w' h => ex_load6 h 2 rfl rfl rfl rfl⟩) (ak (fun γ => ⟨rfl, fun w' h => ⟨41, #[N b, N r], exec_call rfl call41 rfl (mpn rfl), cmp_below hb hS.ok w'⟩⟩) (ak (by refine fun γ => ⟨rfl, fun w' h => ?_⟩; clear h; go_simp) trivial)))
  intro _ w11 H11
  clear H10
  refine rest0 rfl (then_normal (wp_cond_false rfl ?_))
  refine wp_skip (block_normal (then_normal ?_))
  refine walk_seqB 1 [.quiet (.int .i64 2)] H11 ?ho12 ?he12
  case ho12 => exact ak (fun γ => ⟨rfl, fun w' _ => by kernel_rfl⟩) trivial
  intro _ w12 H12
  clear H11
  refine rest_at (l := [1]) rfl ?_
  refine rest_set (d := 21) rfl rfl rfl rfl ?_
  simp only [Act.put, sa, sz, ss]
  refine rest_nil (then_normal ?_)
  refine rounds_in (n := 0) ?_
  refine wp_seq ?_
  refine walk_seqB 1 [.quiet (.bool false)] H12 ?ho13 ?he13
  case ho13 => exact ak (by refine fun γ => ⟨rfl, fun w' h => ?_⟩; clear h; go_simp) trivial
  intro _ w13 H13
  clear H12
  refine rest0 rfl (then_normal (wp_seq (wp_cond_false rfl ?_)))
  refine wp_exit ?_
  repeat refine then_exit ?_
  refine block_exit ?_
  refine then_normal (wp_seq ?_)
  refine walk_seqB 1 [.quiet (N r)] H13 ?ho14 ?he14
  case ho14 => exact ak (fun γ => ⟨rfl, fun w' h => ex_load6 h 2 rfl rfl rfl rfl⟩) trivial
  intro _ w14 H14
  clear H13
  refine rest_at (l := [1, 2]) rfl ?_
  refine rest_store rfl rfl rfl (ex_store6 H14.out.1 3 rfl rfl rfl rfl (Nat.le_of_ble_eq_true rfl)) ?_
  have H15 : Hid (Mm (w14.setCells γ1_0 0 (cells6 r)) [(γ10_2, cells6 b), (γ6_2, cells6 a), (γ2_5, cells6 r), (γ1_0, cells6 r), (g, cel [a, b])] ∧ Below w.heap.size w (w14.setCells γ1_0 0 (cells6 r))) := ⟨H14.out.1.put 3 (off := 0) (vs := cells6 r) rfl (Nat.le_of_ble_eq_true rfl), below_setCells _ o1_0.out _ _ _ H14.out.2⟩
  clear H14
  generalize hgw : World.setCells _ _ _ _ = w15 at H15 ⊢
  clear hgw
  refine rest_set (d := 5) rfl rfl rfl rfl ?_
  simp only [Act.put, sa, sz, ss]
  refine rest_nil (then_normal (wp_ret ?_))
  repeat (first | refine then_ret ?_ | refine block_ret ?_)
  have c0 := H15.out.1.get 3 rfl 0 rfl
  have c1 := H15.out.1.get 3 rfl 1 rfl
  have c2 := H15.out.1.get 3 rfl 2 rfl
  have c3 := H15.out.1.get 3 rfl 3 rfl
  have c4 := H15.out.1.get 3 rfl 4 rfl
  have c5 := H15.out.1.get 3 rfl 5 rfl
  refine bodyPost_ret (v := .tuple #[N r, .int .i64 0]) (by simp [results, Tryd.results81, go_sem, *]) rfl ?_
  exact ⟨rfl, H15.out.2⟩
set_option maxHeartbeats 1000000 in
set_option maxRecDepth 100000 in
theorem above2_no1 {s : Int} {r : Nat} (hS : Su s r) (g a b : Nat) (hba : a < big) (ha : ¬ a < r) (w : World) (hm : Mm w [(g, cel [a, b])]) :
    Calls Tryd.prog 81 #[.int .i64 s, .slice (some ⟨g, 0, none⟩) 2 2] w fun e w' => e = .returned (.tuple #[N 0, .int .i64 2]) ∧ Below w.heap.size w w' := by
  have H0 : Hid (_ ∧ _) := ⟨hm, Below.refl w.heap.size w⟩
  clear hm
  go_enter Tryd.func81, Tryd.ntmps81
  refine wp_seq ?_
  refine walk_seqA 2 [.made zero6 24, .quiet (.int .i64 0)] (sB H0) ?ho1 ?he1
  case ho1 => exact ak (fun γ => ⟨rfl, fun w' => exec_made6 rfl⟩) (ak (fun _ => ⟨rfl, fun _ _ => rfl⟩) trivial)
  intro γ w1 l hM hl
  have H1 : Hid (Mm w1 [(γ 0, zero6), (g, cel [a, b])] ∧ _) := growB H0 hM (Nat.le_refl _) hl [0] rfl (by decide)
  have o1_0 := ownB H0 hM (Nat.le_refl _) hl (i := 0) rfl
  clear hM hl l
  generalize γ 0 = γ1_0 at H1 o1_0 ⊢
  clear γ
  refine rest0 rfl (then_normal (wp_seq ?_))
  refine walk_seqA 8 [.quiet (.int .i64 s), .call (.tuple #[N r, .int .i64 0]), .quiet (.tuple #[N r, .int .i64 0]), .quiet (N r), .quiet (.int .i64 0), .made zero6 24, .laid 5 zero6 (cells6 r), .quiet (.int .i64 0)] (sB H1) ?ho2 ?he2 (hL := ?hL2)
  case hL2 => exact ⟨⟨_, rfl⟩, trivial⟩
  case ho2 => exact ak (fun _ => ⟨rfl, fun _ _ => rfl⟩) (ak (fun γ => ⟨rfl, fun w' h => ⟨25, #[.int .i64 s], exec_call rfl call25 rfl (mpn rfl), hS.ord w'⟩⟩) (ak (fun _ => ⟨rfl, fun _ _ => rfl⟩) (ak (by refine fun γ => ⟨rfl, fun w' h => ?_⟩; clear h; go_simp) (ak (by refine fun γ => ⟨rfl, fun w' h => ?_⟩; clear h; go_simp) (ak (fun γ => ⟨rfl, fun w' => exec_made6 rfl⟩) (ak (fun γ => ⟨rfl, rfl, rfl, fun w' h => exec_laid6 h rfl rfl rfl⟩) (ak (fun _ => ⟨rfl, fun _ _ => rfl⟩) trivial)))))))
  intro γ w2 l hM hl
  have H2 : Hid (Mm w2 [(γ 5, cells6 r), (γ1_0, zero6), (g, cel [a, b])] ∧ _) := growB H1 hM (Nat.le_refl _) hl [5] rfl (by decide)
  have o2_5 := ownB H1 hM (Nat.le_refl _) hl (i := 5) rfl
  clear hM hl l H1
  generalize γ 5 = γ2_5 at H2 o2_5 ⊢
  clear γ
  refine rest0 rfl (then_normal (wp_seq (wp_seq ?_)))
  refine walk_seqB 2 [.quiet (.int .i64 0), .quiet (.bool false)] H2 ?ho3 ?he3
  case ho3 => exact ak (fun _ => ⟨rfl, fun _ _ => rfl⟩) (ak (by refine fun γ => ⟨rfl, fun w' h => ?_⟩; clear h; go_simp) trivial)
  intro _ w3 H3
  clear H2
  refine rest0 rfl (then_normal (wp_cond_false rfl ?_))
  refine wp_skip (then_normal ?_)
  refine wp_seq (wp_seq ?_)
  refine walk_seqB 3 [.quiet (.slice (some ⟨g, 0, none⟩) 2 2), .quiet (.int .i64 2), .quiet (.int .i64 0)] H3 ?ho4 ?he4
  case ho4 => exact ak (fun _ => ⟨rfl, fun _ _ => rfl⟩) (ak (by refine fun γ => ⟨rfl, fun w' h => ?_⟩; clear h; go_simp) (ak (fun _ => ⟨rfl, fun _ _ => rfl⟩) trivial))
  intro _ w4 H4
  clear H3
  refine rest0 rfl (then_normal (wp_block ?_))
  refine wp_loop_rounds 3 ?_
  refine rounds_in (n := 2) ?_
  refine wp_seq ?_
  refine walk_seqB 1 [.quiet (.bool true)] H4 ?ho5 ?he5
  case ho5 => exact ak (by refine fun γ => ⟨rfl, fun w' h => ?_⟩; clear h; go_simp) trivial
  intro _ w5 H5
  clear H4
  refine rest0 rfl (then_normal (wp_seq ?_))
  refine wp_cond_true rfl (wp_skip ?_)
  refine then_normal (wp_seq ?_)
  refine wp_block (wp_seq ?_)
  refine walk_seqA 4 [.quiet (PT g 0), .quiet (N a), .made zero6 24, .laid 2 zero6 (cells6 a)] (sB H5) ?ho6 ?he6 (hL := ?hL6)
  case hL6 => exact ⟨⟨_, rfl⟩, trivial⟩
  case ho6 => exact ak (by refine fun γ => ⟨rfl, fun w' h => ?_⟩; clear h; go_simp) (ak (fun γ => ⟨rfl, fun w' h => ex_loadN (i := 0) h 2 rfl rfl rfl rfl⟩) (ak (fun γ => ⟨rfl, fun w' => exec_made6 rfl⟩) (ak (fun γ => ⟨rfl, rfl, rfl, fun w' h => exec_laid6 h rfl rfl rfl⟩) trivial)))
  intro γ w6 l hM hl
  have H6 : Hid (Mm w6 [(γ 2, cells6 a), (γ2_5, cells6 r), (γ1_0, zero6), (g, cel [a, b])] ∧ _) := growB H5 hM (Nat.le_refl _) hl [2] rfl (by decide)
  have o6_2 := ownB H5 hM (Nat.le_refl _) hl (i := 2) rfl
  clear hM hl l H5
  generalize γ 2 = γ6_2 at H6 o6_2 ⊢
  clear γ
  refine rest0 rfl (then_normal (wp_seq ?_))
  refine walk_seqB 4 [.quiet (N a), .quiet (N r), .call (.int .i64 (cmpv a r)), .quiet (.bool true)] H6 ?ho7 ?he7
  case ho7 => exact ak (fun γ => ⟨rfl, fun w' h => ex_load6 h 0 rfl rfl rfl rfl⟩) (ak (fun γ => ⟨rfl, fun w' h => ex_load6 h 1 rfl rfl rfl rfl⟩) (ak (fun γ => ⟨rfl, fun w' h => ⟨41, #[N a, N r], exec_call rfl call41 rfl (mpn rfl), cmp_raw hba hS.ok w'⟩⟩) (ak (by refine fun γ => ⟨rfl, fun w' h => ?_⟩; clear h; have := cmpv_ge ha; go_simp) trivial)))
  intro _ w7 H7
  clear H6
  refine rest0 rfl (then_normal (wp_cond_true rfl (wp_seq ?_)))
  refine walk_seqB 1 [.quiet (N 0)] H7 ?ho8 ?he8
  case ho8 => exact ak (by refine fun γ => ⟨rfl, fun w' h => ?_⟩; clear h; exact ex_zero6 rfl) trivial
  intro _ w8 H8
  clear H7
  refine rest_at (l := [1, 2]) rfl ?_
  refine rest_store rfl rfl rfl (ex_store6 H8.out.1 2 rfl rfl rfl rfl (Nat.le_of_ble_eq_true rfl)) ?_
  have H9 : Hid (Mm (w8.setCells γ1_0 0 (cells6 0)) [(γ6_2, cells6 a), (γ2_5, cells6 r), (γ1_0, cells6 0), (g, cel [a, b])] ∧ Below w.heap.size w (w8.setCells γ1_0 0 (cells6 0))) := ⟨H8.out.1.put 2 (off := 0) (vs := cells6 0) rfl (Nat.le_of_ble_eq_true rfl), below_setCells _ o1_0.out _ _ _ H8.out.2⟩
  clear H8
  generalize hgw : World.setCells _ _ _ _ = w9 at H9 ⊢
  clear hgw
  refine rest_set (d := 5) rfl rfl rfl rfl ?_
  simp only [Act.put, sa, sz, ss]
  refine rest_nil (then_normal (wp_ret ?_))
  repeat (first | refine then_ret ?_ | refine block_ret ?_)
  have c0 := H9.out.1.get 2 rfl 0 rfl
  have c1 := H9.out.1.get 2 rfl 1 rfl
  have c2 := H9.out.1.get 2 rfl 2 rfl
  have c3 := H9.out.1.get 2 rfl 3 rfl
  have c4 := H9.out.1.get 2 rfl 4 rfl
  have c5 := H9.out.1.get 2 rfl 5 rfl
  refine bodyPost_ret (v := .tuple #[N 0, .int .i64 2]) (by simp [results, Tryd.results81, go_sem, *]) rfl ?_
  exact ⟨rfl, H9.out.2⟩
set_option maxHeartbeats 1000000 in
set_option maxRecDepth 100000 in
theorem above2_no2 {s : Int} {r : Nat} (hS : Su s r) (g a b : Nat) (ha : a < r) (hbb : b < big) (hb : ¬ b < r) (w : World) (hm : Mm w [(g, cel [a, b])]) :
    Calls Tryd.prog 81 #[.int .i64 s, .slice (some ⟨g, 0, none⟩) 2 2] w fun e w' => e = .returned (.tuple #[N 0, .int .i64 2]) ∧ Below w.heap.size w w' := by
  have H0 : Hid (_ ∧ _) := ⟨hm, Below.refl w.heap.size w⟩
  clear hm
  go_enter Tryd.func81, Tryd.ntmps81
  refine wp_seq ?_
  refine walk_seqA 2 [.made zero6 24, .quiet (.int .i64 0)] (sB H0) ?ho1 ?he1
  case ho1 => exact ak (fun γ => ⟨rfl, fun w' => exec_made6 rfl⟩) (ak (fun _ => ⟨rfl, fun _ _ => rfl⟩) trivial)
  intro γ w1 l hM hl
  have H1 : Hid (Mm w1 [(γ 0, zero6), (g, cel [a, b])] ∧ _) := growB H0 hM (Nat.le_refl _) hl [0] rfl (by decide)
  have o1_0 := ownB H0 hM (Nat.le_refl _) hl (i := 0) rfl
  clear hM hl l
  generalize γ 0 = γ1_0 at H1 o1_0 ⊢
  clear γ
  refine rest0 rfl (then_normal (wp_seq ?_))
  refine walk_seqA 8 [.quiet (.int .i64 s), .call (.tuple #[N r, .int .i64 0]), .quiet (.tuple #[N r, .int .i64 0]), .quiet (N r), .quiet (.int .i64 0), .made zero6 24, .laid 5 zero6 (cells6 r), .quiet (.int .i64 0)] (sB H1) ?ho2 ?he2 (hL := ?hL2)
  case hL2 => exact ⟨⟨_, rfl⟩, trivial⟩
  case ho2 => exact ak (fun _ => ⟨rfl, fun _ _ => rfl⟩) (ak (fun γ => ⟨rfl, fun w' h => ⟨25, #[.int .i64 s], exec_call rfl call25 rfl (mpn rfl), hS.ord w'⟩⟩) (ak (fun _ => ⟨rfl, fun _ _ => rfl⟩) (ak (by refine fun γ => ⟨rfl, fun w' h => ?_⟩; clear h; go_simp) (ak (by refine fun γ => ⟨rfl, fun w' h => ?_⟩; clear h; go_simp) (ak (fun γ => ⟨rfl, fun w' => exec_made6 rfl⟩) (ak (fun γ => ⟨rfl, rfl, rfl, fun w' h => exec_laid6 h rfl rfl rfl⟩) (ak (fun _ => ⟨rfl, fun _ _ => rfl⟩) trivial)))))))
  intro γ w2 l hM hl
  have H2 : Hid (Mm w2 [(γ 5, cells6 r), (γ1_0, zero6), (g, cel [a, b])] ∧ _) := growB H1 hM (Nat.le_refl _) hl [5] rfl (by decide)
  have o2_5 := ownB H1 hM (Nat.le_refl _) hl (i := 5) rfl
  clear hM hl l H1
  generalize γ 5 = γ2_5 at H2 o2_5 ⊢
  clear γ
  refine rest0 rfl (then_normal (wp_seq (wp_seq ?_)))
  refine walk_seqB 2 [.quiet (.int .i64 0), .quiet (.bool false)] H2 ?ho3 ?he3
  case ho3 => exact ak (fun _ => ⟨rfl, fun _ _ => rfl⟩) (ak (by refine fun γ => ⟨rfl, fun w' h => ?_⟩; clear h; go_simp) trivial)
  intro _ w3 H3
  clear H2
  refine rest0 rfl (then_normal (wp_cond_false rfl ?_))
  refine wp_skip (then_normal ?_)
  refine wp_seq (wp_seq ?_)
  refine walk_seqB 3 [.quiet (.slice (some ⟨g, 0, none⟩) 2 2), .quiet (.int .i64 2), .quiet (.int .i64 0)] H3 ?ho4 ?he4
  case ho4 => exact ak (fun _ => ⟨rfl, fun _ _ => rfl⟩) (ak (by refine fun γ => ⟨rfl, fun w' h => ?_⟩; clear h; go_simp) (ak (fun _ => ⟨rfl, fun _ _ => rfl⟩) trivial))
  intro _ w4 H4
  clear H3
  refine rest0 rfl (then_normal (wp_block ?_))
  refine wp_loop_rounds 3 ?_
  refine rounds_in (n := 2) ?_
  refine wp_seq ?_
  refine walk_seqB 1 [.quiet (.bool true)] H4 ?ho5 ?he5
  case ho5 => exact ak (by refine fun γ => ⟨rfl, fun w' h => ?_⟩; clear h; go_simp) trivial
  intro _ w5 H5
  clear H4
  refine rest0 rfl (then_normal (wp_seq ?_))
  refine wp_cond_true rfl (wp_skip ?_)
  refine then_normal (wp_seq ?_)
  refine wp_block (wp_seq ?_)
  refine walk_seqA 4 [.quiet (PT g 0), .quiet (N a), .made zero6 24, .laid 2 zero6 (cells6 a)] (sB H5) ?ho6 ?he6 (hL := ?hL6)
  case hL6 => exact ⟨⟨_, rfl⟩, trivial⟩
  case ho6 => exact ak (by refine fun γ => ⟨rfl, fun w' h => ?_⟩; clear h; go_simp) (ak (fun γ => ⟨rfl, fun w' h => ex_loadN (i := 0) h 2 rfl rfl rfl rfl⟩) (ak (fun γ => ⟨rfl, fun w' => exec_made6 rfl⟩) (ak (fun γ => ⟨rfl, rfl, rfl, fun w' h => exec_laid6 h rfl rfl rfl⟩) trivial)))
  intro γ w6 l hM hl
  have H6 : Hid (Mm w6 [(γ 2, cells6 a), (γ2_5, cells6 r), (γ1_0, zero6), (g, cel [a, b])] ∧ _) := growB H5 hM (Nat.le_refl _) hl [2] rfl (by decide)
  have o6_2 := ownB H5 hM (Nat.le_refl _) hl (i := 2) rfl
  clear hM hl l H5
  generalize γ 2 = γ6_2 at H6 o6_2 ⊢
  clear γ
  refine rest0 rfl (then_normal (wp_seq ?_))
  refine walk_seqB 4 [.quiet (N a), .quiet (N r), .call (.int .i64 (-1)), .quiet (.bool false)] H6 ?ho7 ?he7
  case ho7 => exact ak (fun γ => ⟨rfl, fun w' h => ex_load6 h 0 rfl rfl rfl rfl⟩) (ak (fun γ => ⟨rfl, fun w' h => ex_load6 h 1 rfl rfl rfl rfl⟩) (ak (fun γ => ⟨rfl, fun w' h => ⟨41, #[N a, N r], exec_call rfl call41 rfl (mpn rfl), cmp_below ha hS.ok w'⟩⟩) (ak (by refine fun γ => ⟨rfl, fun w' h => ?_⟩; clear h; go_simp) trivial)))
  intro _ w7 H7
  clear H6
  refine rest0 rfl (then_normal (wp_cond_false rfl ?_))
  refine wp_skip (block_normal (then_normal ?_))
  refine walk_seqB 1 [.quiet (.int .i64 1)] H7 ?ho8 ?he8
  case ho8 => exact ak (fun γ => ⟨rfl, fun w' _ => by kernel_rfl⟩) trivial
  intro _ w8 H8
  clear H7
  refine rest_at (l := [1]) rfl ?_
  refine rest_set (d := 21) rfl rfl rfl rfl ?_
  simp only [Act.put, sa, sz, ss]
  refine rest_nil (then_normal ?_)
  refine rounds_in (n := 1) ?_
  refine wp_seq ?_
  refine walk_seqB 1 [.quiet (.bool true)] H8 ?ho9 ?he9
  case ho9 => exact ak (by refine fun γ => ⟨rfl, fun w' h => ?_⟩; clear h; go_simp) trivial
  intro _ w9 H9
  clear H8
  refine rest0 rfl (then_normal (wp_seq ?_))
  refine wp_cond_true rfl (wp_skip ?_)
  refine then_normal (wp_seq ?_)
  refine wp_block (wp_seq ?_)
  refine walk_seqA 4 [.quiet (PT g 6), .quiet (N b), .made zero6 24, .laid 2 zero6 (cells6 b)] (sB H9) ?ho10 ?he10 (hL := ?hL10)
  case hL10 => exact ⟨⟨_, rfl⟩, trivial⟩
  case ho10 => exact ak (by refine fun γ => ⟨rfl, fun w' h => ?_⟩; clear h; go_simp) (ak (fun γ => ⟨rfl, fun w' h => ex_loadN (i := 1) h 3 rfl rfl rfl rfl⟩) (ak (fun γ => ⟨rfl, fun w' => exec_made6 rfl⟩) (ak (fun γ => ⟨rfl, rfl, rfl, fun w' h => exec_laid6 h rfl rfl rfl⟩) trivial)))
  intro γ w10 l hM hl
  have H10 : Hid (Mm w10 [(γ 2, cells6 b), (γ6_2, cells6 a), (γ2_5, cells6 r), (γ1_0, zero6), (g, cel [a, b])] ∧ _) := growB H9 hM (Nat.le_refl _) hl [2] rfl (by decide)
  have o10_2 := ownB H9 hM (Nat.le_refl _) hl (i := 2) rfl
  clear hM hl l H9
  generalize γ 2 = γ10_2 at H10 o10_2 ⊢
  clear γ
  refine rest0 rfl (then_normal (wp_seq ?_))
  refine walk_seqB 4 [.quiet (N b), .quiet (N r), .call (.int .i64 (cmpv b r)), .quiet (.bool true)] H10 ?ho11 ?he11
  case ho11 => exact ak (fun γ => ⟨rfl, fun w' h => ex_load6 h 0 rfl rfl rfl rfl⟩) (ak (fun γ => ⟨rfl, fun w' h => ex_load6 h 2 rfl rfl rfl rfl⟩) (ak (fun γ => ⟨rfl, fun w' h => ⟨41, #[N b, N r], exec_call rfl call41 rfl (mpn rfl), cmp_raw hbb hS.ok w'⟩⟩) (ak (by refine fun γ => ⟨rfl, fun w' h => ?_⟩; clear h; have := cmpv_ge hb; go_simp) trivial)))
  intro _ w11 H11
  clear H10
  refine rest0 rfl (then_normal (wp_cond_true rfl (wp_seq ?_)))
  refine walk_seqB 1 [.quiet (N 0)] H11 ?ho12 ?he12
  case ho12 => exact ak (by refine fun γ => ⟨rfl, fun w' h => ?_⟩; clear h; exact ex_zero6 rfl) trivial
  intro _ w12 H12
  clear H11
  refine rest_at (l := [1, 2]) rfl ?_
  refine rest_store rfl rfl rfl (ex_store6 H12.out.1 3 rfl rfl rfl rfl (Nat.le_of_ble_eq_true rfl)) ?_
  have H13 : Hid (Mm (w12.setCells γ1_0 0 (cells6 0)) [(γ10_2, cells6 b), (γ6_2, cells6 a), (γ2_5, cells6 r), (γ1_0, cells6 0), (g, cel [a, b])] ∧ Below w.heap.size w (w12.setCells γ1_0 0 (cells6 0))) := ⟨H12.out.1.put 3 (off := 0) (vs := cells6 0) rfl (Nat.le_of_ble_eq_true rfl), below_setCells _ o1_0.out _ _ _ H12.out.2⟩
  clear H12
  generalize hgw : World.setCells _ _ _ _ = w13 at H13 ⊢
  clear hgw
  refine rest_set (d := 5) rfl rfl rfl rfl ?_
  simp only [Act.put, sa, sz, ss]
  refine rest_nil (then_normal (wp_ret ?_))
  repeat (first | refine then_ret ?_ | refine block_ret ?_)
  have c0 := H13.out.1.get 3 rfl 0 rfl
  have c1 := H13.out.1.get 3 rfl 1 rfl
  have c2 := H13.out.1.get 3 rfl 2 rfl
  have c3 := H13.out.1.get 3 rfl 3 rfl
  have c4 := H13.out.1.get 3 rfl 4 rfl
  have c5 := H13.out.1.get 3 rfl 5 rfl
  refine bodyPost_ret (v := .tuple #[N 0, .int .i64 2]) (by simp [results, Tryd.results81, go_sem, *]) rfl ?_
  exact ⟨rfl, H13.out.2⟩
set_option maxRecDepth 100000 in
theorem above_none {s : Int} (hS : Sn s) (v : Value) (w : World) :
    Calls Tryd.prog 81 #[.int .i64 s, v] w fun e w' => e = .returned (.tuple #[N 0, .int .i64 2]) ∧ Below w.heap.size w w' := by
  have H0 : Hid (_ ∧ _) := ⟨Mm.nil w, Below.refl w.heap.size w⟩
  go_enter Tryd.func81, Tryd.ntmps81
  refine wp_seq ?_
  refine walk_seqA 2 [.made zero6 24, .quiet (.int .i64 0)] (sB H0) ?ho1 ?he1
  case ho1 => exact ak (fun γ => ⟨rfl, fun w' => exec_made6 rfl⟩) (ak (fun _ => ⟨rfl, fun _ _ => rfl⟩) trivial)
  intro γ w1 l hM hl
  have H1 : Hid (Mm w1 [(γ 0, zero6)] ∧ _) := growB H0 hM (Nat.le_refl _) hl [0] rfl (by decide)
  have o1_0 := ownB H0 hM (Nat.le_refl _) hl (i := 0) rfl
  clear hM hl l
  generalize γ 0 = γ1_0 at H1 o1_0 ⊢
  clear γ
  refine rest0 rfl (then_normal (wp_seq ?_))
  refine walk_seqA 8 [.quiet (.int .i64 s), .call (.tuple #[N 0, .int .i64 2]), .quiet (.tuple #[N 0, .int .i64 2]), .quiet (N 0), .quiet (.int .i64 2), .made zero6 24, .laid 5 zero6 (cells6 0), .quiet (.int .i64 2)] (sB H1) ?ho2 ?he2 (hL := ?hL2)
  case hL2 => exact ⟨⟨_, rfl⟩, trivial⟩
  case ho2 => exact ak (fun _ => ⟨rfl, fun _ _ => rfl⟩) (ak (fun γ => ⟨rfl, fun w' h => ⟨25, #[.int .i64 s], exec_call rfl call25 rfl (mpn rfl), hS w'⟩⟩) (ak (fun _ => ⟨rfl, fun _ _ => rfl⟩) (ak (by refine fun γ => ⟨rfl, fun w' h => ?_⟩; clear h; go_simp) (ak (by refine fun γ => ⟨rfl, fun w' h => ?_⟩; clear h; go_simp) (ak (fun γ => ⟨rfl, fun w' => exec_made6 rfl⟩) (ak (fun γ => ⟨rfl, rfl, len_zero, fun w' h => exec_laid6 (v := 0) h rfl rfl rfl⟩) (ak (fun _ => ⟨rfl, fun _ _ => rfl⟩) trivial)))))))
  intro γ w2 l hM hl
  have H2 : Hid (Mm w2 [(γ 5, cells6 0), (γ1_0, zero6)] ∧ _) := growB H1 hM (Nat.le_refl _) hl [5] rfl (by decide)
  have o2_5 := ownB H1 hM (Nat.le_refl _) hl (i := 5) rfl
  clear hM hl l H1
  generalize γ 5 = γ2_5 at H2 o2_5 ⊢
  clear γ
  refine rest0 rfl (then_normal (wp_seq (wp_seq ?_)))
  refine walk_seqB 2 [.quiet (.int .i64 2), .quiet (.bool true)] H2 ?ho3 ?he3
  case ho3 => exact ak (fun _ => ⟨rfl, fun _ _ => rfl⟩) (ak (by refine fun γ => ⟨rfl, fun w' h => ?_⟩; clear h; go_simp) trivial)
  intro _ w3 H3
  clear H2
  refine rest0 rfl (then_normal (wp_cond_true rfl (wp_seq ?_)))
  refine walk_seqB 2 [.quiet (N 0), .quiet (.int .i64 2)] H3 ?ho4 ?he4
  case ho4 => exact ak (by refine fun γ => ⟨rfl, fun w' h => ?_⟩; clear h; exact ex_zero6 rfl) (ak (fun _ => ⟨rfl, fun _ _ => rfl⟩) trivial)
  intro _ w4 H4
  clear H3
  refine rest_at (l := [2, 3]) rfl ?_
  refine rest_store rfl rfl rfl (ex_store6 H4.out.1 1 rfl rfl rfl rfl (Nat.le_of_ble_eq_true rfl)) ?_
  have H5 : Hid (Mm (w4.setCells γ1_0 0 (cells6 0)) [(γ2_5, cells6 0), (γ1_0, cells6 0)] ∧ Below w.heap.size w (w4.setCells γ1_0 0 (cells6 0))) := ⟨H4.out.1.put 1 (off := 0) (vs := cells6 0) rfl (Nat.le_of_ble_eq_true rfl), below_setCells _ o1_0.out _ _ _ H4.out.2⟩
  clear H4
  generalize hgw : World.setCells _ _ _ _ = w5 at H5 ⊢
  clear hgw
  refine rest_set (d := 5) rfl rfl rfl rfl ?_
  simp only [Act.put, sa, sz, ss]
  refine rest_nil (then_normal (wp_ret ?_))
  repeat (first | refine then_ret ?_ | refine block_ret ?_)
  have c0 := H5.out.1.get 1 rfl 0 rfl
  have c1 := H5.out.1.get 1 rfl 1 rfl
  have c2 := H5.out.1.get 1 rfl 2 rfl
  have c3 := H5.out.1.get 1 rfl 3 rfl
  have c4 := H5.out.1.get 1 rfl 4 rfl
  have c5 := H5.out.1.get 1 rfl 5 rfl
  refine bodyPost_ret (v := .tuple #[N 0, .int .i64 2]) (by simp [results, Tryd.results81, go_sem, *]) rfl ?_
  exact ⟨rfl, H5.out.2⟩
end Rg
end Go.Proofs.YtfnmahjdkmgdkaaDoor
end
section
namespace Go.Proofs.YtfnmahjdkmgdkaaDoor
open Go.RowKit
namespace Rg
set_option maxRecDepth 100000
set_option maxRecDepth 100000 in
theorem add_nil (a b : Nat) (w : World) :
    Calls Tryd.prog 11 #[.pointer none, N a, N b] w fun e w' => e = .returned (N 0) ∧ Below w.heap.size w w' := by
  have H0 : Hid (_ ∧ _) := ⟨Mm.nil w, Below.refl w.heap.size w⟩
  go_enter Tryd.func11, Tryd.ntmps11
  refine wp_seq ?_
  refine walk_seqA 3 [.made (cells6 a) 24, .made (cells6 b) 24, .made zero6 24] (sB H0) ?ho1 ?he1
  case ho1 => exact ak (fun γ => ⟨rfl, fun w' => ex_box6 rfl rfl⟩) (ak (fun γ => ⟨rfl, fun w' => ex_box6 rfl rfl⟩) (ak (fun γ => ⟨rfl, fun w' => exec_made6 rfl⟩) trivial))
  intro γ w1 l hM hl
  have H1 : Hid (Mm w1 [(γ 0, cells6 a), (γ 1, cells6 b), (γ 2, zero6)] ∧ _) := growB H0 hM (Nat.le_refl _) hl [0, 1, 2] rfl (by decide)
  have o1_0 := ownB H0 hM (Nat.le_refl _) hl (i := 0) rfl
  have o1_1 := ownB H0 hM (Nat.le_refl _) hl (i := 1) rfl
  have o1_2 := ownB H0 hM (Nat.le_refl _) hl (i := 2) rfl
  clear hM hl l
  generalize γ 0 = γ1_0 at H1 o1_0 ⊢
  generalize γ 1 = γ1_1 at H1 o1_1 ⊢
  generalize γ 2 = γ1_2 at H1 o1_2 ⊢
  clear γ
  refine rest0 rfl (then_normal (wp_seq (wp_seq ?_)))
  refine walk_seqB 3 [.quiet (.pointer none), .call (.bool false), .quiet (.bool true)] H1 ?ho2 ?he2
  case ho2 => exact ak (fun _ => ⟨rfl, fun _ _ => rfl⟩) (ak (fun γ => ⟨rfl, fun w' h => ⟨35, #[.pointer none], exec_call rfl call35 rfl (mpn rfl), made_nil w'⟩⟩) (ak (by refine fun γ => ⟨rfl, fun w' h => ?_⟩; clear h; go_simp) trivial))
  intro _ w2 H2
  clear H1
  refine rest0 rfl (then_normal (wp_cond_true rfl (wp_seq ?_)))
  refine walk_seqB 1 [.quiet (N 0)] H2 ?ho3 ?he3
  case ho3 => exact ak (by refine fun γ => ⟨rfl, fun w' h => ?_⟩; clear h; exact ex_zero6 rfl) trivial
  intro _ w3 H3
  clear H2
  refine rest_at (l := [1]) rfl ?_
  refine rest_store rfl rfl rfl (ex_store6 H3.out.1 2 rfl rfl rfl rfl (Nat.le_of_ble_eq_true rfl)) ?_
  have H4 : Hid (Mm (w3.setCells γ1_2 0 (cells6 0)) [(γ1_0, cells6 a), (γ1_1, cells6 b), (γ1_2, cells6 0)] ∧ Below w.heap.size w (w3.setCells γ1_2 0 (cells6 0))) := ⟨H3.out.1.put 2 (off := 0) (vs := cells6 0) rfl (Nat.le_of_ble_eq_true rfl), below_setCells _ o1_2.out _ _ _ H3.out.2⟩
  clear H3
  generalize hgw : World.setCells _ _ _ _ = w4 at H4 ⊢
  clear hgw
  refine rest_nil (then_normal (wp_ret ?_))
  repeat (first | refine then_ret ?_ | refine block_ret ?_)
  have c0 := H4.out.1.get 2 rfl 0 rfl
  have c1 := H4.out.1.get 2 rfl 1 rfl
  have c2 := H4.out.1.get 2 rfl 2 rfl
  have c3 := H4.out.1.get 2 rfl 3 rfl
  have c4 := H4.out.1.get 2 rfl 4 rfl
  have c5 := H4.out.1.get 2 rfl 5 rfl
  refine bodyPost_ret (v := N 0) (by simp [results, Tryd.results11, go_sem, *]) rfl ?_
  exact ⟨rfl, H4.out.2⟩
set_option maxRecDepth 100000 in
theorem sub_nil (a b : Nat) (w : World) :
    Calls Tryd.prog 12 #[.pointer none, N a, N b] w fun e w' => e = .returned (N 0) ∧ Below w.heap.size w w' := by
  have H0 : Hid (_ ∧ _) := ⟨Mm.nil w, Below.refl w.heap.size w⟩
  go_enter Tryd.func12, Tryd.ntmps12
  refine wp_seq ?_
  refine walk_seqA 3 [.made (cells6 a) 24, .made (cells6 b) 24, .made zero6 24] (sB H0) ?ho1 ?he1
  case ho1 => exact ak (fun γ => ⟨rfl, fun w' => ex_box6 rfl rfl⟩) (ak (fun γ => ⟨rfl, fun w' => ex_box6 rfl rfl⟩) (ak (fun γ => ⟨rfl, fun w' => exec_made6 rfl⟩) trivial))
  intro γ w1 l hM hl
  have H1 : Hid (Mm w1 [(γ 0, cells6 a), (γ 1, cells6 b), (γ 2, zero6)] ∧ _) := growB H0 hM (Nat.le_refl _) hl [0, 1, 2] rfl (by decide)
  have o1_0 := ownB H0 hM (Nat.le_refl _) hl (i := 0) rfl
  have o1_1 := ownB H0 hM (Nat.le_refl _) hl (i := 1) rfl
  have o1_2 := ownB H0 hM (Nat.le_refl _) hl (i := 2) rfl
  clear hM hl l
  generalize γ 0 = γ1_0 at H1 o1_0 ⊢
  generalize γ 1 = γ1_1 at H1 o1_1 ⊢
  generalize γ 2 = γ1_2 at H1 o1_2 ⊢
  clear γ
  refine rest0 rfl (then_normal (wp_seq (wp_seq ?_)))
  refine walk_seqB 3 [.quiet (.pointer none), .call (.bool false), .quiet (.bool true)] H1 ?ho2 ?he2
  case ho2 => exact ak (fun _ => ⟨rfl, fun _ _ => rfl⟩) (ak (fun γ => ⟨rfl, fun w' h => ⟨35, #[.pointer none], exec_call rfl call35 rfl (mpn rfl), made_nil w'⟩⟩) (ak (by refine fun γ => ⟨rfl, fun w' h => ?_⟩; clear h; go_simp) trivial))
  intro _ w2 H2
  clear H1
  refine rest0 rfl (then_normal (wp_cond_true rfl (wp_seq ?_)))
  refine walk_seqB 1 [.quiet (N 0)] H2 ?ho3 ?he3
  case ho3 => exact ak (by refine fun γ => ⟨rfl, fun w' h => ?_⟩; clear h; exact ex_zero6 rfl) trivial
  intro _ w3 H3
  clear H2
  refine rest_at (l := [1]) rfl ?_
  refine rest_store rfl rfl rfl (ex_store6 H3.out.1 2 rfl rfl rfl rfl (Nat.le_of_ble_eq_true rfl)) ?_
  have H4 : Hid (Mm (w3.setCells γ1_2 0 (cells6 0)) [(γ1_0, cells6 a), (γ1_1, cells6 b), (γ1_2, cells6 0)] ∧ Below w.heap.size w (w3.setCells γ1_2 0 (cells6 0))) := ⟨H3.out.1.put 2 (off := 0) (vs := cells6 0) rfl (Nat.le_of_ble_eq_true rfl), below_setCells _ o1_2.out _ _ _ H3.out.2⟩
  clear H3
  generalize hgw : World.setCells _ _ _ _ = w4 at H4 ⊢
  clear hgw
  refine rest_nil (then_normal (wp_ret ?_))
  repeat (first | refine then_ret ?_ | refine block_ret ?_)
  have c0 := H4.out.1.get 2 rfl 0 rfl
  have c1 := H4.out.1.get 2 rfl 1 rfl
  have c2 := H4.out.1.get 2 rfl 2 rfl
  have c3 := H4.out.1.get 2 rfl 3 rfl
  have c4 := H4.out.1.get 2 rfl 4 rfl
  have c5 := H4.out.1.get 2 rfl 5 rfl
  refine bodyPost_ret (v := N 0) (by simp [results, Tryd.results12, go_sem, *]) rfl ?_
  exact ⟨rfl, H4.out.2⟩
set_option maxRecDepth 100000 in
theorem mul_nil (a b : Nat) (w : World) :
    Calls Tryd.prog 14 #[.pointer none, N a, N b] w fun e w' => e = .returned (N 0) ∧ Below w.heap.size w w' := by
  have H0 : Hid (_ ∧ _) := ⟨Mm.nil w, Below.refl w.heap.size w⟩
  go_enter Tryd.func14, Tryd.ntmps14
  refine wp_seq ?_
  refine walk_seqA 3 [.made (cells6 a) 24, .made (cells6 b) 24, .made zero6 24] (sB H0) ?ho1 ?he1
  case ho1 => exact ak (fun γ => ⟨rfl, fun w' => ex_box6 rfl rfl⟩) (ak (fun γ => ⟨rfl, fun w' => ex_box6 rfl rfl⟩) (ak (fun γ => ⟨rfl, fun w' => exec_made6 rfl⟩) trivial))
  intro γ w1 l hM hl
  have H1 : Hid (Mm w1 [(γ 0, cells6 a), (γ 1, cells6 b), (γ 2, zero6)] ∧ _) := growB H0 hM (Nat.le_refl _) hl [0, 1, 2] rfl (by decide)
  have o1_0 := ownB H0 hM (Nat.le_refl _) hl (i := 0) rfl
  have o1_1 := ownB H0 hM (Nat.le_refl _) hl (i := 1) rfl
  have o1_2 := ownB H0 hM (Nat.le_refl _) hl (i := 2) rfl
  clear hM hl l
  generalize γ 0 = γ1_0 at H1 o1_0 ⊢
  generalize γ 1 = γ1_1 at H1 o1_1 ⊢
  generalize γ 2 = γ1_2 at H1 o1_2 ⊢
  clear γ
  refine rest0 rfl (then_normal (wp_seq (wp_seq ?_)))
  refine walk_seqB 3 [.quiet (.pointer none), .call (.bool false), .quiet (.bool true)] H1 ?ho2 ?he2
  case ho2 => exact ak (fun _ => ⟨rfl, fun _ _ => rfl⟩) (ak (fun γ => ⟨rfl, fun w' h => ⟨35, #[.pointer none], exec_call rfl call35 rfl (mpn rfl), made_nil w'⟩⟩) (ak (by refine fun γ => ⟨rfl, fun w' h => ?_⟩; clear h; go_simp) trivial))
  intro _ w2 H2
  clear H1
  refine rest0 rfl (then_normal (wp_cond_true rfl (wp_seq ?_)))
  refine walk_seqB 1 [.quiet (N 0)] H2 ?ho3 ?he3
  case ho3 => exact ak (by refine fun γ => ⟨rfl, fun w' h => ?_⟩; clear h; exact ex_zero6 rfl) trivial
  intro _ w3 H3
  clear H2
  refine rest_at (l := [1]) rfl ?_
  refine rest_store rfl rfl rfl (ex_store6 H3.out.1 2 rfl rfl rfl rfl (Nat.le_of_ble_eq_true rfl)) ?_
  have H4 : Hid (Mm (w3.setCells γ1_2 0 (cells6 0)) [(γ1_0, cells6 a), (γ1_1, cells6 b), (γ1_2, cells6 0)] ∧ Below w.heap.size w (w3.setCells γ1_2 0 (cells6 0))) := ⟨H3.out.1.put 2 (off := 0) (vs := cells6 0) rfl (Nat.le_of_ble_eq_true rfl), below_setCells _ o1_2.out _ _ _ H3.out.2⟩
  clear H3
  generalize hgw : World.setCells _ _ _ _ = w4 at H4 ⊢
  clear hgw
  refine rest_nil (then_normal (wp_ret ?_))
  repeat (first | refine then_ret ?_ | refine block_ret ?_)
  have c0 := H4.out.1.get 2 rfl 0 rfl
  have c1 := H4.out.1.get 2 rfl 1 rfl
  have c2 := H4.out.1.get 2 rfl 2 rfl
  have c3 := H4.out.1.get 2 rfl 3 rfl
  have c4 := H4.out.1.get 2 rfl 4 rfl
  have c5 := H4.out.1.get 2 rfl 5 rfl
  refine bodyPost_ret (v := N 0) (by simp [results, Tryd.results14, go_sem, *]) rfl ?_
  exact ⟨rfl, H4.out.2⟩
set_option maxRecDepth 100000 in
theorem neg_nil (a : Nat) (w : World) :
    Calls Tryd.prog 13 #[.pointer none, N a] w fun e w' => e = .returned (N 0) ∧ Below w.heap.size w w' := by
  have H0 : Hid (_ ∧ _) := ⟨Mm.nil w, Below.refl w.heap.size w⟩
  go_enter Tryd.func13, Tryd.ntmps13
  refine wp_seq ?_
  refine walk_seqA 2 [.made (cells6 a) 24, .made zero6 24] (sB H0) ?ho1 ?he1
  case ho1 => exact ak (fun γ => ⟨rfl, fun w' => ex_box6 rfl rfl⟩) (ak (fun γ => ⟨rfl, fun w' => exec_made6 rfl⟩) trivial)
  intro γ w1 l hM hl
  have H1 : Hid (Mm w1 [(γ 0, cells6 a), (γ 1, zero6)] ∧ _) := growB H0 hM (Nat.le_refl _) hl [0, 1] rfl (by decide)
  have o1_0 := ownB H0 hM (Nat.le_refl _) hl (i := 0) rfl
  have o1_1 := ownB H0 hM (Nat.le_refl _) hl (i := 1) rfl
  clear hM hl l
  generalize γ 0 = γ1_0 at H1 o1_0 ⊢
  generalize γ 1 = γ1_1 at H1 o1_1 ⊢
  clear γ
  refine rest0 rfl (then_normal (wp_seq ?_))
  refine walk_seqB 4 [.quiet (.pointer none), .quiet (N 0), .quiet (N a), .call (N 0)] H1 ?ho2 ?he2
  case ho2 => exact ak (fun _ => ⟨rfl, fun _ _ => rfl⟩) (ak (by refine fun γ => ⟨rfl, fun w' h => ?_⟩; clear h; exact ex_zero6 rfl) (ak (fun γ => ⟨rfl, fun w' h => ex_load6 h 0 rfl rfl rfl rfl⟩) (ak (fun γ => ⟨rfl, fun w' h => ⟨12, #[.pointer none, N 0, N a], exec_call rfl call12 rfl (mpn rfl), sub_nil 0 a w'⟩⟩) trivial)))
  intro _ w2 H2
  clear H1
  refine rest_at (l := [4]) rfl ?_
  refine rest_store rfl rfl rfl (ex_store6 H2.out.1 1 rfl rfl rfl rfl (Nat.le_of_ble_eq_true rfl)) ?_
  have H3 : Hid (Mm (w2.setCells γ1_1 0 (cells6 0)) [(γ1_0, cells6 a), (γ1_1, cells6 0)] ∧ Below w.heap.size w (w2.setCells γ1_1 0 (cells6 0))) := ⟨H2.out.1.put 1 (off := 0) (vs := cells6 0) rfl (Nat.le_of_ble_eq_true rfl), below_setCells _ o1_1.out _ _ _ H2.out.2⟩
  clear H2
  generalize hgw : World.setCells _ _ _ _ = w3 at H3 ⊢
  clear hgw
  refine rest_nil (then_normal (wp_ret ?_))
  repeat (first | refine then_ret ?_ | refine block_ret ?_)
  have c0 := H3.out.1.get 1 rfl 0 rfl
  have c1 := H3.out.1.get 1 rfl 1 rfl
  have c2 := H3.out.1.get 1 rfl 2 rfl
  have c3 := H3.out.1.get 1 rfl 3 rfl
  have c4 := H3.out.1.get 1 rfl 4 rfl
  have c5 := H3.out.1.get 1 rfl 5 rfl
  refine bodyPost_ret (v := N 0) (by simp [results, Tryd.results13, go_sem, *]) rfl ?_
  exact ⟨rfl, H3.out.2⟩
end Rg
end Go.Proofs.YtfnmahjdkmgdkaaDoor
end
