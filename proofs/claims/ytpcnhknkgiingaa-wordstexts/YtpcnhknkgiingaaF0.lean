/- The document's own Read. -/
import Derived.Test.YtpcnhknkgiingaaE0
import Derived.Test.YtpcnhknkgiingaaDJ
namespace Go.Proofs.Ytpcnhknkgiingaa
open Go.RowKit

/-- The upper part of a number. -/
def tpv (R p : Nat) : Nat := R / 2 ^ p * 2 ^ p
theorem tpv_or (R p s : Nat) : tpv R p = (R / 2 ^ p % 2 ^ s) <<< p ||| tpv R (p + s) := by
  unfold tpv
  have e : R / 2 ^ p = R / 2 ^ (p + s) * 2 ^ s + R / 2 ^ p % 2 ^ s := by
    rw [Nat.pow_add, ← Nat.div_div_eq_div_mul, Nat.mul_comm]
    exact (Nat.div_add_mod _ _).symm
  have h := Nat.shiftLeft_add_eq_or_of_lt (b := (R / 2 ^ p % 2 ^ s) <<< p) (i := p + s) (by
    rw [Nat.shiftLeft_eq, Nat.pow_add, Nat.mul_comm (2 ^ p)]
    exact Nat.mul_lt_mul_of_pos_right (Nat.mod_lt _ (Nat.two_pow_pos _)) (Nat.two_pow_pos _)) (R / 2 ^ (p + s))
  rw [Nat.or_comm, ← Nat.shiftLeft_eq (R / 2 ^ (p + s)), ← h, Nat.shiftLeft_eq, Nat.shiftLeft_eq]
  generalize R / 2 ^ p % 2 ^ s = d at e ⊢
  rw [e, Nat.add_mul, Nat.pow_add, Nat.mul_assoc, Nat.mul_comm (2 ^ s)]
theorem or_other' (V d p s j : Nat) (hd : d < 2 ^ s) (hp : p % 64 + s ≤ 64) (hj : j ≠ p / 64) : wd (d <<< p ||| V) j = wd V j := by
  rw [wd_shr, wd_shr]
  congr 1
  apply Nat.eq_of_testBit_eq
  intro i
  simp only [Nat.testBit_or, Nat.testBit_mod_two_pow, Nat.testBit_shiftLeft, Nat.testBit_shiftRight]
  by_cases hi : i < 64
  · by_cases hk : p ≤ 64 * j + i
    · have : d.testBit (64 * j + i - p) = false := Nat.testBit_lt_two_pow (Nat.lt_of_lt_of_le hd (Nat.pow_le_pow_right (by decide) (by omega)))
      simp [this]
    · simp [hk]
  · simp [hi]
theorem or_word' (V d p : Nat) : bits .or .u64 (wd V (p / 64)) (IntKind.u64.wrap ((d : Int) * 2 ^ (p % 64))) = wd (d <<< p ||| V) (p / 64) := by
  rw [wrap_shl, wd_shr, wd_shr, ← part_bits]
  exact bits_or_u64_nat _ _ (Nat.mod_lt _ (by decide)) (Nat.mod_lt _ (by decide))
theorem tpv_step (R p s : Nat) (hp : p % 64 + s ≤ 64) (j : Nat) : upd (wd (tpv R (p + s))) (p / 64) (bits .or .u64 (wd (tpv R (p + s)) (p / 64)) (IntKind.u64.wrap (((R / 2 ^ p % 2 ^ s : Nat) : Int) * 2 ^ (p % 64)))) j = wd (tpv R p) j := by
  rw [or_word', tpv_or R p s]
  unfold upd
  by_cases h : j = p / 64
  · rw [if_pos h, h]
  · rw [if_neg h, or_other' _ _ _ s _ (Nat.mod_lt _ (Nat.two_pow_pos _)) hp h]
theorem rdv_dig (f : Nat → Int) (n : Nat) (hf : ∀ j, j < n → 0 ≤ f j ∧ f j < 256) : ∀ k m, k ≤ n → m < k → ((rdv f n k / 2 ^ (8 * m) % 2 ^ 8 : Nat) : Int) = f (n - 1 - m)
  | 0, _, _, h => by omega
  | k + 1, m, hk, h => by
    have hd := hf (n - 1 - k) (by omega)
    have hlt := rdv_lt f n hf k (by omega)
    show (((rdv f n k + (f (n - 1 - k)).toNat * 2 ^ (8 * k)) / 2 ^ (8 * m) % 2 ^ 8 : Nat) : Int) = _
    by_cases e : m = k
    · subst e
      rw [Nat.add_mul_div_right _ _ (Nat.two_pow_pos _), Nat.div_eq_of_lt hlt]
      omega
    · have e2 : (f (n - 1 - k)).toNat * 2 ^ (8 * k) = ((f (n - 1 - k)).toNat * 2 ^ (8 * (k - m - 1)) * 2 ^ 8) * 2 ^ (8 * m) := by
        rw [show 8 * k = 8 * (k - m - 1) + 8 + 8 * m by omega, Nat.pow_add, Nat.pow_add]
        simp only [Nat.mul_assoc]
      rw [e2, Nat.add_mul_div_right _ _ (Nat.two_pow_pos _), Nat.add_mul_mod_self_right]
      exact rdv_dig f n hf k m (by omega) (by omega)
/-- What Read tells of any bytes. -/
def rdn (xs : List Int) : Nat × Int := if 48 < xs.length then (0, 3) else (rdv (fun j => xs.getD j 0) xs.length xs.length, 0)
set_option maxHeartbeats 1000000 in
set_option maxRecDepth 100000 in
theorem read_ref (xs : List Int) (c : Nat) (v : Value) (hx : ∀ x ∈ xs, 0 ≤ x ∧ x < 256) (hl : xs.length ≤ 1048576) (w : World) (h : BSl w xs c v) :
    Calls Try.prog 30 #[v] w fun e w' => e = .returned (.tuple #[N (rdn xs).1, .int .i64 (rdn xs).2]) ∧ Below w.heap.size w w' := by
  have hf : ∀ j, j < xs.length → 0 ≤ xs.getD j 0 ∧ xs.getD j 0 < 256 := fun j hj => by
    have : xs.getD j 0 = xs[j] := by simp [hj]
    rw [this]
    exact hx _ (List.getElem_mem _)
  obtain ⟨n, hn⟩ : ∃ n, n = xs.length := ⟨_, rfl⟩
  obtain ⟨p, hv, hc⟩ : ∃ p, v = .slice p n c ∧ (∀ i, i < n → ∃ g o, p = some ⟨g, o, none⟩ ∧ g < w.heap.size ∧ w.cell? ⟨g, o + i, none⟩ = some (.int .u8 (xs.getD i 0))) := by
    cases h using BSl.each with
    | full g o hg hc hcell => rw [← hn]; exact ⟨_, rfl, fun i hi => ⟨g, o, rfl, hg, hcell i (by omega)⟩⟩
    | void p hx => subst hx; simp at hn; subst hn; exact ⟨p, rfl, fun i hi => by omega⟩
  subst hv
  unfold rdn
  rw [← hn]
  by_cases h48 : 48 < n
  · rw [if_pos h48]
    have d0 : decide ((48 : Int) < n) = true := decide_eq_true (by omega)
    clear hc hf hx h
    go_enter Try.func30, Try.ntmps30
    go_wp2
    refine bodyPost_ret (v := .tuple #[N 0, .int .i64 3]) ?_ rfl ⟨rfl, ?_⟩
    · simp [results, Try.results30, go_sem, wd_zero]
    · exact ((Below.refl _ _).alloc (Nat.le_refl _) _).alloc (by simp) _
  · rw [if_neg h48]
    have d0 : decide ((48 : Int) < n) = false := decide_eq_false (by omega)
    have hdig := fun m hm => rdv_dig (fun j => xs.getD j 0) n (by rw [hn]; exact hf) n m (Nat.le_refl _) hm
    have hlt := rdv_lt (fun j => xs.getD j 0) n (by rw [hn]; exact hf) n (Nat.le_refl _)
    generalize rdv (fun j => xs.getD j 0) n n = R at hdig hlt ⊢
    have HC : Hid _ := hc
    have HD : Hid _ := hdig
    have HL : Hid _ := hlt
    clear hc hdig hf hx h hlt hl
    have hn48 : n ≤ 48 := by omega
    clear hn h48
    go_enter Try.func30, Try.ntmps30
    go_wp2
    clear d0
    go_loopw [5] (fun i wr => ∃ k : Nat, k ≤ n ∧ i = .int .i64 k ∧ Row wr w.heap.size 6 (fun _ => 0) ∧ Row wr (w.heap.size + 1) 6 (wd (tpv R (8 * (n - k)))) ∧ Below w.heap.size w wr) (fun i _ => n - (intOf i).toNat)
    case atStart =>
      refine ⟨0, by omega, rfl, ?_, ?_, ?_⟩
      · exact (Row.new w _ 24 rfl (six_lt (f := fun _ => 0) rfl)).alloc (by simp) _
      · refine (Row.new _ _ 24 (by simp) (six_lt (f := fun _ => 0) rfl)).congr (fun j _ => ?_)
        unfold tpv
        rw [Nat.sub_zero, Nat.div_eq_of_lt HL.out, Nat.zero_mul, wd_zero]
      · exact ((Below.refl _ _).alloc (Nat.le_refl _) _).alloc (by simp) _
    case round =>
      obtain ⟨k, hk, rfl, hZ, hS, hw⟩ := hrel
      by_cases hlt : k < n
      · obtain ⟨g, o, rfl, hg, hcell⟩ := HC.out k hlt
        have hcell2 : wr.cell? ⟨g, o + k, none⟩ = some (.int .u8 (xs.getD k 0)) := by rw [hw.cell (p := ⟨g, o + k, none⟩) hg]; exact hcell
        obtain ⟨q, hq⟩ : ∃ q, q = n - 1 - k := ⟨_, rfl⟩
        have hdq := HD.out q (by omega)
        rw [show n - 1 - q = k by omega] at hdq
        rw [← hdq] at hcell2
        have ew1 : IntKind.i64.wrap ((n : Int) - 1) = (n : Int) - 1 := by rw [IntKind.wrap_i64]; omega
        have ew2 : IntKind.i64.wrap ((n : Int) - 1 - k) = (q : Int) := by rw [IntKind.wrap_i64]; omega
        have e1 : 8 * (n - k) = 8 * q + 8 := by omega
        rw [e1] at hS
        obtain ⟨k1, k2⟩ := hS (q / 8) (by omega)
        obtain ⟨D, hD⟩ : ∃ D : Nat, D = R / 2 ^ (8 * q) % 2 ^ 8 := ⟨_, rfl⟩
        rw [← hD] at hcell2
        have hDb : D < 256 := by rw [hD]; exact Nat.mod_lt _ (by decide)
        have hst := fun j => tpv_step R (8 * q) 8 (by omega) j
        rw [← hD, show 8 * q / 64 = q / 8 by omega, show 8 * q % 64 = 8 * (q % 8) by omega] at hst
        have HM : Hid (_ ∧ _ ∧ _ ∧ _) := ⟨hZ, hS, hw, hst⟩
        have hqn : q < 48 := by omega
        have HQ : Hid (8 * (n - (k + 1)) = 8 * q) := (by omega : 8 * (n - (k + 1)) = 8 * q)
        clear hZ hS hw hst hcell hdq hD e1 hq HC HD HL
        go_wp2
        go_region
        go_wp2
        go_roundw
        case rel =>
          obtain ⟨hZ, hS, hw, hst⟩ := HM.out
          refine ⟨k + 1, by omega, by go_num, (hZ.set_other _ (by simp <;> omega)).drew, ?_, (hw.setCell (by simp <;> omega) _).drew⟩
          rw [HQ.out]
          exact ((hS.set _).congr (fun j _ => hst j)).drew
        case measure => simp [intOf] <;> omega
      · have hks : k = n := by omega
        subst hks
        have e0 : tpv R (8 * (k - k)) = R := by unfold tpv; simp
        rw [e0] at hS
        obtain ⟨s0, s1, s2, s3, s4, s5⟩ := hS.reads
        obtain ⟨z0, z1, z2, z3, z4, z5⟩ := hZ.writes
        obtain ⟨y0, y1, y2, y3, y4, y5⟩ := hZ.reads
        have HW : Hid _ := hw
        clear hZ hS hw HC HD HL e0
        go_wp2
        refine bodyPost_ret (v := .tuple #[N R, .int .i64 0]) ?_ rfl ⟨rfl, ?_⟩
        · simp [results, Try.results30, go_sem, *]
        · exact below6 HW.out (by omega) _ _ _ _ _ _
end Go.Proofs.Ytpcnhknkgiingaa
