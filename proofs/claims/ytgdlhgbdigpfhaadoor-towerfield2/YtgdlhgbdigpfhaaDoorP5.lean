/- Texts of the proof, joined. -/
import Derived.Test.YtgdlhgbdigpfhaaDoorP4
import Derived.WalkKit
section
namespace Go.Proofs.YtgdlhgbdigpfhaaDoor
open Go.RowKit
namespace Rg
theorem unq {u B k m : Int} (hB : 0 < B) (e : u = B * k + m) (h0 : 0 ≤ m) (h1 : m < B) : u / B = k ∧ u % B = m :=
  (Int.ediv_emod_unique hB).2 ⟨by omega, h0, h1⟩
/-- What is left less d times the divisor. -/
def zst (r b d : Nat) : Int := (r : Int) - (d : Int) * (b : Int)
def zl (r b d : Nat) : Nat := (zst r b d % (big : Int)).toNat
def za (r b d : Nat) : Int := zst r b d / (big : Int) % 18446744073709551616
theorem bigI : (0 : Int) < (big : Int) := by have := big_pos2; omega
theorem zl_cast (r b d : Nat) : ((zl r b d : Nat) : Int) = zst r b d % (big : Int) := Int.toNat_of_nonneg (Int.emod_nonneg _ (by have := bigI; omega))
theorem zl_lt (r b d : Nat) : zl r b d < big := by
  have h := zl_cast r b d
  have h2 := Int.emod_lt_of_pos (zst r b d) bigI
  omega
theorem zst_succ (r b d : Nat) : zst r b d = zst r b (d + 1) + b := by
  unfold zst
  rw [Int.natCast_add, Int.add_mul]
  omega
theorem z_step (r b d : Nat) (hb : b < big) : (if big ≤ zl r b (d + 1) + b then zst r b (d + 1) / (big : Int) + 1 else zst r b (d + 1) / (big : Int)) = zst r b d / (big : Int) ∧ (zl r b (d + 1) + b) % big = zl r b d := by
  have h1 := zl_cast r b (d + 1)
  have h2 := zl_cast r b d
  have h3 := zl_lt r b (d + 1)
  have hm := Int.mul_ediv_add_emod (zst r b (d + 1)) (big : Int)
  rw [← h1] at hm
  have e := zst_succ r b d
  by_cases hc : big ≤ zl r b (d + 1) + b
  · rw [if_pos hc]
    obtain ⟨u1, u2⟩ := unq (u := zst r b d) (k := zst r b (d + 1) / (big : Int) + 1) (m := (zl r b (d + 1) : Int) + b - big) bigI (by rw [e, Int.mul_add, Int.mul_one]; omega) (by omega) (by omega)
    refine ⟨u1.symm, ?_⟩
    rw [u2] at h2
    rw [Nat.mod_eq_sub_mod hc, Nat.mod_eq_of_lt (by omega)]
    omega
  · rw [if_neg hc]
    obtain ⟨u1, u2⟩ := unq (u := zst r b d) (k := zst r b (d + 1) / (big : Int)) (m := (zl r b (d + 1) : Int) + b) bigI (by rw [e]; omega) (by omega) (by omega)
    refine ⟨u1.symm, ?_⟩
    rw [u2] at h2
    rw [Nat.mod_eq_of_lt (by omega)]
    omega
theorem za_zero (r b : Nat) (hr : r < big) : za r b 0 = 0 := by
  unfold za zst
  rw [Int.natCast_zero, Int.zero_mul, Int.sub_zero, Int.ediv_eq_zero_of_lt (by omega) (by omega)]; rfl
theorem zl_zero (r b : Nat) (hr : r < big) : zl r b 0 = r := by
  have h := zl_cast r b 0
  unfold zst at h
  rw [Int.natCast_zero, Int.zero_mul, Int.sub_zero, Int.emod_eq_of_lt (by omega) (by omega)] at h
  omega
theorem za_ne (r b d : Nat) (hr : r < b) (hb : b < big) (hd : d < 18446744073709551616) (h0 : 0 < d) : ¬ za r b d = 0 := by
  unfold za
  have h1 : zst r b d < 0 := by
    unfold zst
    have : (b : Int) ≤ (d : Int) * (b : Int) := by
      have := Nat.mul_le_mul (show 1 ≤ d from h0) (Nat.le_refl b)
      rw [← Int.natCast_mul]; omega
    omega
  have h2 : -(18446744073709551615 * (big : Int)) ≤ zst r b d := by
    unfold zst
    have h3 : d * b ≤ 18446744073709551615 * big := Nat.mul_le_mul (by omega) (by omega)
    rw [← Int.natCast_mul]; omega
  have h3 : zst r b d / (big : Int) < 0 := Int.ediv_neg_of_neg_of_pos h1 bigI
  have h4 : -18446744073709551615 ≤ zst r b d / (big : Int) := by
    rw [Int.le_ediv_iff_mul_le bigI]; omega
  omega
theorem guess_ge (X b : Nat) (hb : b < big) (hX : X < 18446744073709551616 * b) : X / b ≤ gs (X / big) (wn (X % big) 5) (wn b 5) := by
  have hb0 : 0 < b := by
    rcases Nat.eq_zero_or_pos b with h | h
    · rw [h, Nat.mul_zero] at hX; omega
    · exact h
  unfold gs
  by_cases c : wn b 5 ≤ X / big
  · rw [if_pos c]
    have : X / b < 18446744073709551616 := by rw [Nat.div_lt_iff_lt_mul hb0]; exact hX
    omega
  · rw [if_neg c]
    obtain ⟨j, hj⟩ : ∃ j, j = 5 := ⟨5, rfl⟩
    have hbj := big_j j hj
    rw [← hj] at c ⊢
    have e1 : wn b j = b / 2 ^ (64 * j) := by
      have := wd_last b j (by rw [← hbj]; exact hb)
      rw [wd_wn] at this; omega
    have e2 : X / big * 18446744073709551616 + wn (X % big) j = X / 2 ^ (64 * j) := by
      have h1 : wn (X % big) j = X % big / 2 ^ (64 * j) := by
        have := wd_last (X % big) j (by rw [← hbj]; exact Nat.mod_lt _ big_pos2)
        rw [wd_wn] at this; omega
      rw [h1]
      have h2 := Nat.div_add_mod X big
      generalize X % big = m at h2 ⊢
      generalize X / big = k at h2 ⊢
      rw [← h2, hbj, pow_step, Nat.mul_assoc, Nat.mul_add_div (pow_pos' j), Nat.mul_comm k]
    rw [e2, e1]
    have hq : 0 < b / 2 ^ (64 * j) := by rw [← e1]; omega
    rw [Nat.le_div_iff_mul_le hq, Nat.le_div_iff_mul_le (pow_pos' j)]
    have h3 : b / 2 ^ (64 * j) * 2 ^ (64 * j) ≤ b := Nat.div_mul_le_self _ _
    have h4 : X / b * b ≤ X := Nat.div_mul_le_self _ _
    rw [Nat.mul_assoc]
    exact Nat.le_trans (Nat.mul_le_mul (Nat.le_refl _) h3) h4
theorem take_z (X b t : Nat) (ht : X / b ≤ t) : zst (X % b) b (t - X / b) / (big : Int) = ((X / big : Nat) : Int) - ((tkT (X % big) t b : Nat) : Int) ∧ zl (X % b) b (t - X / b) = (X % big + big - t * b % big) % big := by
  have h1 : zst (X % b) b (t - X / b) = (X : Int) - (t : Int) * (b : Int) := by
    unfold zst
    have e := Nat.div_add_mod X b
    have e2 : ((t - X / b : Nat) : Int) = (t : Int) - ((X / b : Nat) : Int) := by omega
    rw [e2, Int.sub_mul]
    have e3 : ((X / b : Nat) : Int) * (b : Int) = ((b * (X / b) : Nat) : Int) := by rw [Int.natCast_mul, Int.mul_comm]
    rw [e3]; omega
  have e4 := Nat.div_add_mod X big
  have e5 := Nat.div_add_mod (t * b) big
  have l1 := Nat.mod_lt X big_pos2
  have l2 := Nat.mod_lt (t * b) big_pos2
  have hzl := zl_cast (X % b) b (t - X / b)
  rw [← Int.natCast_mul] at h1
  unfold tkT
  generalize X % big = m at *
  generalize t * b % big = u at *
  generalize hP : t * b = P at *
  by_cases hc : m < u
  · rw [if_pos hc]
    obtain ⟨u1, u2⟩ := unq (u := zst (X % b) b (t - X / b)) (k := ((X / big : Nat) : Int) - ((P / big + 1 : Nat) : Int)) (m := (m : Int) + big - u) bigI (by
      rw [h1, Int.mul_sub, ← Int.natCast_mul, ← Int.natCast_mul, Nat.mul_add, Nat.mul_one]; omega) (by omega) (by omega)
    refine ⟨u1, ?_⟩
    rw [u2] at hzl
    rw [Nat.mod_eq_of_lt (show m + big - u < big by omega)]; omega
  · rw [if_neg hc]
    obtain ⟨u1, u2⟩ := unq (u := zst (X % b) b (t - X / b)) (k := ((X / big : Nat) : Int) - ((P / big + 0 : Nat) : Int)) (m := (m : Int) - u) bigI (by
      rw [h1, Int.mul_sub, ← Int.natCast_mul, ← Int.natCast_mul, Nat.add_zero]; omega) (by omega) (by omega)
    refine ⟨u1, ?_⟩
    rw [u2] at hzl
    rw [Nat.mod_eq_sub_mod (show big ≤ m + big - u by omega), Nat.mod_eq_of_lt (show m + big - u - big < big by omega)]; omega
theorem stepL_any (g b L i : Nat) (hi : i ≤ 64) (hb : b < big) (hL : L < b) (w : World) (hm : Mm w [(g, lec b (wd L))]) :
    Calls Tryd.prog 94 #[PT g 0, .int .i64 ((i : Nat) : Int)] w fun e w' => e = .returned (.tuple #[]) ∧ Mm w' [(g, lec b (wd (L * 2 ^ i % b)))] ∧ Kp g w w' := by
  have hLb : L < big := by omega
  have hb0 : 0 < b := by omega
  have hX : L * 2 ^ i < 18446744073709551616 * b := by
    have h1 : 2 ^ i ≤ 18446744073709551616 := by
      have := Nat.pow_le_pow_right (show 0 < 2 by decide) hi
      exact this
    have h2 : L * 2 ^ i ≤ L * 18446744073709551616 := Nat.mul_le_mul (Nat.le_refl _) h1
    omega
  have cs := fun w hm => shiftL_any g b L i hi hLb w hm
  generalize L * 2 ^ i = X at cs hX ⊢
  have hge := guess_ge X b hb hX
  have hlt := gs_bd (X / big) (wn (X % big) 5) (wn b 5) (wn_lt _ _)
  have cg := fun w => guessM_any (X / big) (wn (X % big) 5) (wn b 5) (wn_lt _ _) (wn_lt _ _) w
  generalize gs (X / big) (wn (X % big) 5) (wn b 5) = t at hge hlt cg
  have ct := fun w hm => takeL_any g b (X % big) t (Nat.mod_lt _ big_pos2) hb hlt w hm
  obtain ⟨z1, z2⟩ := take_z X b t hge
  have hr := Nat.mod_lt X hb0
  rw [← z2] at ct
  have h := step_gen g b L (X % big) (X / big) t (tkT (X % big) t b) (t - X / b) ((i : Nat) : Int) (zl (X % b) b) (za (X % b) b) (fun x => decide (big ≤ zl (X % b) b (x + 1) + b))
    (za_zero _ _ (by omega)) (fun x hx => za_ne _ _ _ hr hb (by have := Nat.sub_le t (X / b); omega) (by omega)) (by rw [IntKind.wrap_u64, ← z1]; rfl)
    (fun x hx => by
      have hz := (z_step (X % b) b x hb).1
      rw [if_pos (of_decide_eq_true hx)] at hz
      unfold za
      rw [IntKind.wrap_u64, ← hz]; omega)
    (fun x hx => by
      have hz := (z_step (X % b) b x hb).1
      rw [if_neg (of_decide_eq_false hx)] at hz
      unfold za
      rw [hz])
    cs cg ct (fun x w => by
      have h := add_any (zl (X % b) b (x + 1)) b (zl_lt _ _ _) hb w
      rw [(z_step (X % b) b x hb).2] at h
      exact h) w hm
  rw [zl_zero _ _ (by omega)] at h
  exact h
theorem doubleL_any (g b L n : Nat) (hn : n ≤ 384) (hb : b < big) (hL : L < b) (w : World) (hm : Mm w [(g, lec b (wd L))]) :
    Calls Tryd.prog 83 #[PT g 0, .int .i64 ((n : Nat) : Int)] w fun e w' => e = .returned (.tuple #[]) ∧ Mm w' [(g, lec b (wd (L * 2 ^ n % b)))] ∧ Kp g w w' := by
  obtain ⟨K, j, hK, hj, hKj, e⟩ : ∃ K j, K < 1000 ∧ j ≤ 64 ∧ (0 < K → 0 < j) ∧ n = 64 * (K - 0) + j := by
    by_cases h0 : n = 0
    · exact ⟨0, 0, by omega, by omega, by omega, by omega⟩
    · exact ⟨(n - 1) / 64, n - 64 * ((n - 1) / 64), by omega, by omega, by omega, by omega⟩
  have hb0 : 0 < b := by omega
  have ef : ∀ k m, L * 2 ^ (64 * k) % b * 2 ^ m % b = L * 2 ^ (64 * k + m) % b := fun k m => by
    rw [Nat.mul_mod, Nat.mod_mod, ← Nat.mul_mod, Nat.mul_assoc, ← Nat.pow_add]
  have cf : ∀ k w, Mm w [(g, lec b (wd (L * 2 ^ (64 * k) % b)))] → Calls Tryd.prog 94 #[PT g 0, .int .i64 64] w fun e w' => e = .returned (.tuple #[]) ∧ Mm w' [(g, lec b (wd (L * 2 ^ (64 * (k + 1)) % b)))] ∧ Kp g w w' := fun k w hm => by
    have h := stepL_any g b (L * 2 ^ (64 * k) % b) 64 (Nat.le_refl _) hb (Nat.mod_lt _ hb0) w hm
    rw [ef k 64, show 64 * k + 64 = 64 * (k + 1) by omega] at h
    exact h
  have cl : ∀ w, Mm w [(g, lec b (wd (L * 2 ^ (64 * K) % b)))] → Calls Tryd.prog 94 #[PT g 0, .int .i64 ((64 * (K - K) + j : Nat) : Int)] w fun e w' => e = .returned (.tuple #[]) ∧ Mm w' [(g, lec b (wd (L * 2 ^ n % b)))] ∧ Kp g w w' := fun w hm => by
    have h := stepL_any g b (L * 2 ^ (64 * K) % b) j hj hb (Nat.mod_lt _ hb0) w hm
    rw [ef K j, show 64 * K + j = n by omega] at h
    rw [show 64 * (K - K) + j = j by omega]
    exact h
  have h0 : L * 2 ^ (64 * 0) % b = L := by rw [Nat.mul_zero, Nat.pow_zero, Nat.mul_one, Nat.mod_eq_of_lt hL]
  have h := double_gen g b (L * 2 ^ n % b) K j (fun k => L * 2 ^ (64 * k) % b) hK hj hKj cf cl w (by rw [h0]; exact hm)
  rw [← e] at h
  exact h
end Rg
end Go.Proofs.YtgdlhgbdigpfhaaDoor
end
section
namespace Go.Proofs.YtgdlhgbdigpfhaaDoor
open Go.RowKit
namespace Rg
section
variable {P : Program} {ops : Array Oper} {ks : List Kind} {a₀ : Act} {w₀ : World} {Q : Exit → Act → World → Prop}
/-- An operation that the store need not wait for: it tells its value behind it. -/
def LateAt (P : Program) (ops : Array Oper) (ks : List Kind) (a : Act) (w : World) : List Nat → Prop
  | [] => True
  | i :: r => (∃ o v, ops[i]? = some o ∧ ks[i]? = some (.quiet v) ∧ Region.wanted o (yielded ops a.tmps) = true ∧ (execOp a.eval o).run P w = .ok (.value v) w) ∧ LateAt P ops ks a w r
theorem LateAt.at {a : Act} {w : World} : ∀ {late : List Nat}, LateAt P ops ks a w late → ∀ {i : Nat}, i ∈ late → ∃ o v, ops[i]? = some o ∧ ks[i]? = some (.quiet v) ∧ Region.wanted o (yielded ops a.tmps) = true ∧ (execOp a.eval o).run P w = .ok (.value v) w
  | [], _, _, h => by cases h
  | j :: r, hl, i, h => by
    rcases List.mem_cons.1 h with e | h
    · subst e; exact hl.1
    · exact hl.2.at h
def isQuiet : Option Kind → Bool
  | some ((Sum.inl _)) => true
  | _ => false
theorem isQuiet_spec {k : Option Kind} (h : isQuiet k = true) : ∃ v, k = some (.quiet v) := by
  cases k with
  | none => cases h
  | some k => cases k using Kind.each <;> first | exact ⟨_, rfl⟩ | cases h
theorem mem_late2 {γ : Nat → Nat} {w : World} : ∀ {late : List Nat} {l : Array Bool}, (late.all fun i => isQuiet ks[i]?) = true → Mem ks w₀ l γ w → ∃ l', Mem ks w₀ l' γ w ∧ l'.size = l.size ∧ (∀ i, l.getD i false = true → l'.getD i false = true) ∧ ∀ i ∈ late, i < l.size → l'.getD i false = true
  | [], l, _, h => ⟨l, h, rfl, fun _ h => h, fun _ h => by cases h⟩
  | j :: r, l, hl, h => by
    simp only [List.all_cons, Bool.and_eq_true] at hl
    obtain ⟨v, hk⟩ := isQuiet_spec hl.1
    obtain ⟨l', h1, h2, h3, h4⟩ := mem_late2 (late := r) hl.2 (h.still (Below.refl _ _) hk rfl (fun _ _ _ h => by cases h))
    refine ⟨l', h1, by rw [h2]; simp, fun i hi => h3 i (getD_true hi), fun i hi hlt => ?_⟩
    rcases List.mem_cons.1 hi with e | hi
    · subst e
      exact h3 i (by simp [hlt])
    · exact h4 i hi (by simpa using hlt)
theorem after_put2 {full : Array Oper} {n p : Nat} (hO : Orderly ops ks n) (hn : n = a₀.tmps.size) (hp : ops.size = p) (hpf : p + 1 ≤ full.size) (hfull : ∀ i, i < p → full[i]? = ops[i]?) (hgd : ∀ {i : Nat} {o : Oper} {g : Nat} {b : Bool}, ops[i]? = some o → o.guard = some (g, b) → g < p)
    (hup : ∀ {i : Nat} {o : Oper}, full[i]? = some o → ∀ e ∈ o.after, Region.binds .any e = true → e.on < i)
    (hwt : ∀ {i : Nat} {o : Oper}, full[i]? = some o → p + 1 ≤ i → ∀ j, j < i → waitsT full 4 o j = true)
    {late : List Nat} {γ : Nat → Nat} {w : World} (hlate : LateAt P ops ks (fill γ 0 ops.toList ks a₀) w late) (hQ : wpOps P full Q (List.range' (p + 1) (full.size - (p + 1))) (fill γ 0 ops.toList ks a₀) w) :
    ∀ (fuel : Nat) (l : Array Bool) (a : Act), l.size = full.size → l.toList.count false ≤ fuel → Closed full l → (∀ i, i ≤ p → l.getD i true = false → i ∈ late) → (∀ i, p + 1 ≤ i → i < full.size → l.getD i true = false) → Agree ops ks a₀ l γ a → wpAny P .any full Q fuel l a w := by
  intro fuel
  induction fuel with
  | zero =>
    intro l a hsz hc hcl hu ht hA
    have hall : ∀ i, i < full.size → l.getD i false = true := fun i hi => by
      cases hb : l.getD i true with
      | false => have := count_set hb; omega
      | true =>
        have hi' : i < l.size := by omega
        simpa [hi'] using hb
    rw [hA.whole (fun i hi => hall i (by omega))]
    have h0 := tail_count full.size (full.size - (p + 1)) l hsz (by omega) (fun i hi1 hi2 => ht i (by omega) hi2)
    exact rest_anyT (p + 1) hup hwt (full.size - (p + 1)) 0 (p + 1) l _ w (by omega) (Nat.le_refl _) hsz (by omega) hcl (fun i hi => hall i (by omega)) ht hQ
  | succ fuel ih =>
    intro l a hsz hc hcl hu ht hA
    by_cases hall : ∀ i, i < p + 1 → l.getD i false = true
    · rw [hA.whole (fun i hi => hall i (by omega))]
      have h0 := tail_count full.size (full.size - (p + 1)) l hsz (by omega) (fun i hi1 hi2 => ht i (by omega) hi2)
      exact rest_anyT (p + 1) hup hwt (full.size - (p + 1)) (fuel + 1) (p + 1) l _ w (by omega) (Nat.le_refl _) hsz (by omega) hcl hall ht hQ
    · have hex : ∃ x, x < p + 1 ∧ l.getD x false = false := by
        apply Classical.byContradiction
        intro hno
        apply hall
        intro i hi
        cases hb : l.getD i false with
        | true => rfl
        | false => exact absurd ⟨i, hi, hb⟩ hno
      obtain ⟨x, hx, hxf⟩ := hex
      refine ⟨fun hr => ?_, fun i hi => ?_⟩
      · have := ready_all hup hsz hr x (by omega)
        rw [hxf] at this
        cases this
      · obtain ⟨hun, o, ho, hedge⟩ := mem_ready.1 hi
        have hilt : i < full.size := (Array.getElem?_eq_some_iff.1 ho).1
        have hip1 : i < p + 1 := by
          rcases Nat.lt_or_ge i (p + 1) with h' | h'
          · exact h'
          · have := waitsT_spec hcl 4 o (hwt ho h' x (by omega)) hedge
            rw [hxf] at this
            cases this
        obtain ⟨o', v, ho', hk, hxq⟩ := hlate.at (hu i (by omega) hun)
        have hip : i < p := by rw [← hp]; exact (Array.getElem?_eq_some_iff.1 ho').1
        have hof := ho
        rw [hfull i hip, ho'] at ho
        injection ho with ho
        subst ho
        obtain ⟨he, hw0⟩ := hA.sees hO ho' hedge
        have hy : ∀ ts, Region.wanted o' (yielded full ts) = Region.wanted o' (yielded ops ts) := fun ts => by
          unfold Region.wanted
          cases hg : o'.guard with
          | none => rfl
          | some gw =>
            obtain ⟨g, want⟩ := gw
            have : yielded full ts g = yielded ops ts g := by unfold yielded; rw [hfull g (hgd ho' hg)]
            simp only [this]
        have hc' := count_set hun
        refine wpOp_step hof (fun K' hK => ?_)
        rw [hy, hw0, if_pos hxq.1]
        unfold Oper.wp
        rw [he, hxq.2]
        refine hK _ _ (ih _ _ (by simp [hsz]) (by omega) (hcl.step hof hedge) (fun j hj hj2 => ?_) (fun j hj hj2 => ?_) (hA.step hO hn ho' hk (fun _ _ => rfl)))
        · by_cases e : i = j
          · subst e
            have hi' : i < l.size := by omega
            simp [hi'] at hj2
          · rw [getD_set_ne true e] at hj2
            exact hu j hj hj2
        · rw [getD_set_ne true (by omega)]
          exact ht j hj hj2
theorem first_put2 {full : Array Oper} {n p : Nat} {op : Oper} (hO : Orderly ops ks n) (hn : n = a₀.tmps.size) (hL : LaidOk ks ks) {S : World → Prop} (hS : ∀ w, Below w₀.heap.size w₀ w → S w)
    (hp : ops.size = p) (hpf : p + 1 ≤ full.size) (hfull : ∀ i, i < p → full[i]? = ops[i]?) (hgd : ∀ {i : Nat} {o : Oper} {g : Nat} {b : Bool}, ops[i]? = some o → o.guard = some (g, b) → g < p)
    (hup : ∀ {i : Nat} {o : Oper}, full[i]? = some o → ∀ e ∈ o.after, Region.binds .any e = true → e.on < i)
    (hop : full[p]? = some op) (hdst : op.dst = none) (hgu : op.guard = none) (hsel : ∀ cs b, op.op ≠ .select cs b)
    {late : List Nat} (hwp : ∀ j, j < p → waitsT full 4 op j = true ∨ j ∈ late) (hlook : ∀ d ∈ op.looksAt full, ∀ j oj, ops[j]? = some oj → oj.dst = some d → waitsT full 4 op j = true)
    (hwt : ∀ {i : Nat} {o : Oper}, full[i]? = some o → p + 1 ≤ i → ∀ j, j < i → waitsT full 4 o j = true)
    (hlate : (late.all fun i => isQuiet ks[i]?) = true)
    (hops : AllOk P ops S (fun γ => fill γ 0 ops.toList ks a₀) ops.toList ks)
    (hend : ∀ γ w l, Mem ks w₀ l γ w → (∀ i, i < p → l.getD i false = true) → ∃ w', (execOp (fill γ 0 ops.toList ks a₀).eval op).run P w = .ok .skip w' ∧ LateAt P ops ks (fill γ 0 ops.toList ks a₀) w' late ∧ wpOps P full Q (List.range' (p + 1) (full.size - (p + 1))) (fill γ 0 ops.toList ks a₀) w') :
    ∀ (fuel : Nat) (l : Array Bool) (γ : Nat → Nat) (a : Act) (w : World), l.size = full.size → l.toList.count false ≤ fuel → Closed full l → (∀ i, p ≤ i → i < full.size → l.getD i true = false) → Agree ops ks a₀ l γ a → Mem ks w₀ l γ w → wpAny P .any full Q fuel l a w := by
  intro fuel
  induction fuel with
  | zero =>
    intro l γ a w hsz hc hcl ht hA hM
    have := count_set (ht p (Nat.le_refl _) (by omega))
    omega
  | succ fuel ih =>
    intro l γ a w hsz hc hcl ht hA hM
    have hpu := ht p (Nat.le_refl _) (by omega)
    refine ⟨fun hr => ?_, fun i hi => ?_⟩
    · have := ready_all hup hsz hr p (by omega)
      rw [(getD_same hpu).1] at this
      cases this
    · obtain ⟨hun, o, ho, hedge⟩ := mem_ready.1 hi
      have hilt : i < full.size := (Array.getElem?_eq_some_iff.1 ho).1
      have hc' := count_set hun
      have hip1 : i < p + 1 := by
        rcases Nat.lt_or_ge i (p + 1) with h' | h'
        · exact h'
        · have := waitsT_spec hcl 4 o (hwt ho h' p (by omega)) hedge
          rw [(getD_same hpu).1] at this
          cases this
      by_cases hip : i = p
      · subst hip
        have ho2 := ho
        rw [hop] at ho
        injection ho with ho
        subst ho
        have hbefore : ∀ j, j < i → j ∉ late → l.getD j false = true := fun j hj hnl => by
          rcases hwp j hj with h | h
          · exact waitsT_spec hcl 4 _ h hedge
          · exact absurd h hnl
        obtain ⟨l', hM', hs', hl1, hl2⟩ := mem_late2 hlate hM
        have hfin : ∀ j, j < i → l'.getD j false = true := fun j hj => by
          by_cases h : j ∈ late
          · exact hl2 j h (by omega)
          · exact hl1 j (hbefore j hj h)
        obtain ⟨w', hx, hla, hQ⟩ := hend γ w l' hM' hfin
        have he := see_all (full := full) hA hsel (fun d hd j oj hj hdj => waitsT_spec hcl 4 _ (hlook d hd j oj hj hdj) hedge)
        refine wpOp_step hop (fun K' hK => ?_)
        have hwn : Region.wanted op (yielded full a.tmps) = true := by unfold Region.wanted; rw [hgu]
        rw [if_pos hwn]
        unfold Oper.wp
        rw [he, hx]
        have hA' : Agree ops ks a₀ (l.setIfInBounds i true) γ (a.put op.dst undef) := by
          rw [hdst]
          refine ⟨hA.defers, hA.size, fun d hd => hA.slots d (fun j oj hj hdj => ?_)⟩
          have h1 := hd j oj hj hdj
          have hj' : j < i := by rw [← hp]; exact (Array.getElem?_eq_some_iff.1 hj).1
          rwa [getD_set_ne false (by omega)] at h1
        refine hK _ _ (after_put2 hO hn hp hpf hfull hgd hup hwt hla hQ fuel _ _ (by simp [hsz]) (by omega) (hcl.step ho2 hedge) (fun j hj hj2 => ?_) (fun j hj hj2 => ?_) hA')
        · by_cases e : i = j
          · subst e
            have hi' : i < l.size := by omega
            simp [hi'] at hj2
          · rw [getD_set_ne true e] at hj2
            apply Classical.byContradiction
            intro hnl
            have := hbefore j (by omega) hnl
            rw [(getD_same hj2).1] at this
            cases this
        · rw [getD_set_ne true (by omega)]
          exact ht j (by omega) hj2
      · have hlt : i < p := by omega
        have ho' : ops[i]? = some o := by rw [← hfull i hlt]; exact ho
        refine kind_step hO hn hL hS hfull hgd hops hA hM hlt ho' hun hedge (fun γ' a' w' hA' hM' => ?_)
        exact ih _ γ' a' w' (by simp [hsz]) (by omega) (hcl.step ho hedge) (fun j hj hj2 => by rw [getD_set_ne true (by omega)]; exact ht j hj hj2) hA' hM'
/-- **The law of such a region.** -/
theorem walk_put2 {full : Array Oper} {a : Act} {w : World} {id : Nat} (hm : P.follows .mixedOrders = true) (p : Nat) (late : List Nat) (ks : List Kind) (S : World → Prop) (pre : List Oper) (F : (Nat → Nat) → Act) (op : Oper) (hpre : full.toList.take p = pre)
    (hF : ∀ γ, fill γ 0 pre ks a = F γ) (hor : (orderly pre.toArray ks a.tmps.size && guarded pre.toArray p && putly full p late) = true) (hop : full[p]? = some op) (hL : LaidOk ks ks) (hS : ∀ w', Below w.heap.size w w' → S w')
    (hops : AllOk P pre.toArray S F pre ks) (hlate : (late.all fun i => isQuiet ks[i]?) = true)
    (hend : ∀ γ w' l, Mem ks w l γ w' → (∀ i, i < p → l.getD i false = true) → ∃ w'', (execOp (F γ).eval op).run P w' = .ok .skip w'' ∧ LateAt P pre.toArray ks (F γ) w'' late ∧ wpOps P full Q (List.range' (p + 1) (full.size - (p + 1))) (F γ) w'') :
    (Code.region id full true).wp P Q a w := by
  subst hpre
  obtain rfl : (fun γ => fill γ 0 (full.toList.take p) ks a) = F := funext hF
  simp only [Bool.and_eq_true] at hor
  obtain ⟨⟨h1, h2⟩, h3⟩ := hor
  unfold putly at h3
  rw [hop] at h3
  simp only [Bool.and_eq_true, decide_eq_true_eq, Option.isNone_iff_eq_none] at h3
  obtain ⟨⟨⟨⟨h5, h6⟩, h7⟩, ⟨⟨h8, h9⟩, h10⟩, h11⟩, h12⟩ := h3
  have hsz : (full.toList.take p).toArray.size = p := by simp; omega
  have hfu : ∀ i, i < p → full[i]? = (full.toList.take p).toArray[i]? := fun i hi => by rw [← take_arr]; exact first_full hi
  refine wp_region_any hm (first_put2 (ops := (full.toList.take p).toArray) (Orderly.of h1) rfl hL hS hsz h6 hfu (fun ho hg => guarded_spec h2 ho hg) (fun ho e he hb => ?_) hop h8 h9 (fun cs b => Region.noSelect_spec h7 p op cs b hop) (late := late) (fun j hj => ?_) (fun d hd j oj hj hdj => ?_) (fun ho hi j hj => ?_) hlate hops hend full.size _ (fun _ => 0) a w.drew (by simp) (by simp) (Closed.none _ _) (fun i _ hi => none_listed' hi) (start_agree _ _) (start_mem _ _ (Below.refl _ _).drew))
  · have := Array.all_eq_true_iff_forall_mem.1 (eachOp_spec h5 ho) e he
    simpa [hb] using this
  · have := List.all_eq_true.1 h10 j (List.mem_range.2 hj)
    simpa using this
  · have hj' : j < p := by rw [← hsz]; exact (Array.getElem?_eq_some_iff.1 hj).1
    have := eachOp_spec (List.all_eq_true.1 h11 d hd) (by rw [hfu j hj']; exact hj)
    simp only [hdj, bne_self_eq_false, Bool.false_or, Bool.or_eq_true, decide_eq_true_eq] at this
    rcases this with h | h
    · exact h
    · omega
  · have := eachOp_spec h12 ho
    simp only [Bool.or_eq_true, decide_eq_true_eq] at this
    rcases this with h | h
    · omega
    · exact List.all_eq_true.1 h j (List.mem_range.2 hj)
end
end Rg
end Go.Proofs.YtgdlhgbdigpfhaaDoor
end
section
namespace Go.Proofs.YtgdlhgbdigpfhaaDoor
open Go.RowKit
namespace Rg
abbrev zero12 : List Value := [.int .u64 0, .int .u64 0, .int .u64 0, .int .u64 0, .int .u64 0, .int .u64 0, .int .u64 0, .int .u64 0, .int .u64 0, .int .u64 0, .int .u64 0, .int .u64 0]
abbrev lev (b L : Nat) : Value := .agg (lec b (wd L)).toArray
theorem ex_madeL {ρ : Operand → Value} {o : Oper} {w : World} (ho : o.op = .alloc 98) :
    (execOp ρ o).run Tryd.prog w = .ok (.value (.pointer (some ⟨w.heap.size, 0, none⟩))) (w.alloc (.cells zero12.toArray 98)) := by
  simp only [execOp, ho]
  go_simp
theorem ex_buildL {ρ : Operand → Value} {o : Oper} {x : Operand} {b z : Nat} {w : World} (hz : z = 0) (ho : o.op = .build 98 #[(0, x)]) (hx : ρ x = N b) : (execOp ρ o).run Tryd.prog w = .ok (.value (lev b z)) w := by
  subst hz
  simp only [execOp, ho]
  go_simp
  simp [wd_zero]
theorem ex_laidL {ρ : Operand → Value} {o : Oper} {x y : Operand} {g b L : Nat} {w : World} (hb : Blk w g zero12) (ho : o.op = .store 98 x y) (hx : ρ x = .pointer (some ⟨g, 0, none⟩)) (hy : ρ y = lev b L) :
    (execOp ρ o).run Tryd.prog w = .ok .skip (w.setCells g 0 (lec b (wd L))) := ex_laidT hb rfl rfl Tryd.sizeOf98 ho hx hy
set_option maxHeartbeats 2000000 in
set_option maxRecDepth 100000 in
theorem powersOf_gen (n l s B z L0 L1 L2 o q : Nat) (cB : Bool) (hz : z = 0) (hl : l ≤ 384) (hs : s = 384 - l)
    (cl : ∀ w, Calls Tryd.prog 36 #[N n] w fun e w' => e = .returned (.int .i64 ((l : Nat) : Int)) ∧ Below w.heap.size w w')
    (cb : ∀ w, Calls Tryd.prog 78 #[N n, .int .i64 ((s : Nat) : Int)] w fun e w' => e = .returned (N B) ∧ Below w.heap.size w w')
    (cs : ∀ w, Calls Tryd.prog 44 #[N 0, N B] w fun e w' => e = .returned (.tuple #[N L0, .bool cB]) ∧ Below w.heap.size w w')
    (d1 : ∀ g w, Mm w [(g, lec B (wd L0))] → Calls Tryd.prog 83 #[PT g 0, .int .i64 ((s : Nat) : Int)] w fun e w' => e = .returned (.tuple #[]) ∧ Mm w' [(g, lec B (wd L1))] ∧ Kp g w w')
    (co : ∀ w, Calls Tryd.prog 78 #[N L1, .int .i64 (-((s : Nat) : Int))] w fun e w' => e = .returned (N o) ∧ Below w.heap.size w w')
    (d2 : ∀ g w, Mm w [(g, lec B (wd L1))] → Calls Tryd.prog 83 #[PT g 0, .int .i64 384] w fun e w' => e = .returned (.tuple #[]) ∧ Mm w' [(g, lec B (wd L2))] ∧ Kp g w w')
    (cq : ∀ w, Calls Tryd.prog 78 #[N L2, .int .i64 (-((s : Nat) : Int))] w fun e w' => e = .returned (N q) ∧ Below w.heap.size w w') (w : World) :
    Calls Tryd.prog 63 #[N n] w fun e w' => e = .returned (.tuple #[N o, N q]) ∧ Below w.heap.size w w' := by
  have H0 : Hid (_ ∧ _) := ⟨Mm.nil w, Below.refl w.heap.size w⟩
  have CL : Hid _ := cl
  have CB : Hid _ := cb
  have CS : Hid _ := cs
  have CD1 : Hid _ := d1
  have CO : Hid _ := co
  have CD2 : Hid _ := d2
  have CQ : Hid _ := cq
  have HZ : Hid _ := hz
  clear cl cb cs d1 co d2 cq hz
  go_enter Tryd.func63, Tryd.ntmps63
  refine wp_seq ?_
  refine walk_seqA 3 [.made (cells6 n) 24, .made zero6 24, .made zero6 24] (sB H0) ?ho1 ?he1
  case ho1 => exact ak (fun γ => ⟨rfl, fun w' => ex_box6 rfl rfl⟩) (ak (fun γ => ⟨rfl, fun w' => exec_made6 rfl⟩) (ak (fun γ => ⟨rfl, fun w' => exec_made6 rfl⟩) trivial))
  intro γ w1 l hM hl
  have H1 : Hid (Mm w1 [(γ 0, cells6 n), (γ 1, zero6), (γ 2, zero6)] ∧ _) := growB H0 hM (Nat.le_refl _) hl [0, 1, 2] rfl (by decide)
  have o1_0 := ownB H0 hM (Nat.le_refl _) hl (i := 0) rfl
  have o1_1 := ownB H0 hM (Nat.le_refl _) hl (i := 1) rfl
  have o1_2 := ownB H0 hM (Nat.le_refl _) hl (i := 2) rfl
  clear hM hl l
  generalize γ 0 = γ1_0 at H1 o1_0 ⊢
  generalize γ 1 = γ1_1 at H1 o1_1 ⊢
  generalize γ 2 = γ1_2 at H1 o1_2 ⊢
  clear γ
  refine rest0 rfl (then_normal (wp_seq ?_))
  refine walk_seqB 4 [.quiet (N n), .call (.int .i64 ((l : Nat) : Int)), .quiet (.int .i64 ((s : Nat) : Int)), .quiet (.int .i64 ((s : Nat) : Int))] H1 ?ho2 ?he2
  case ho2 => exact ak (fun γ => ⟨rfl, fun w' h => ex_load6 h 0 rfl rfl rfl rfl⟩) (ak (fun γ => ⟨rfl, fun w' h => ⟨36, #[N n], exec_call rfl call36 rfl (mpn rfl), CL.out w'⟩⟩) (ak (by refine fun γ => ⟨rfl, fun w' h => ?_⟩; clear h; go_simp; rw [IntKind.wrap_i64]; omega) (ak (fun _ => ⟨rfl, fun _ _ => rfl⟩) trivial)))
  intro _ w2 H2
  clear H1
  refine rest0 rfl (then_normal (wp_seq ?_))
  refine walk_seqA 6 [.quiet (N n), .quiet (.int .i64 ((s : Nat) : Int)), .call (N B), .quiet (lev B z), .made zero12 98, .laid 4 zero12 (lec B (wd z))] (sB H2) ?ho3 ?he3 (hL := ?hL3)
  case hL3 => exact ⟨⟨_, rfl⟩, trivial⟩
  case ho3 => exact ak (fun γ => ⟨rfl, fun w' h => ex_load6 h 0 rfl rfl rfl rfl⟩) (ak (fun _ => ⟨rfl, fun _ _ => rfl⟩) (ak (fun γ => ⟨rfl, fun w' h => ⟨78, #[N n, .int .i64 ((s : Nat) : Int)], exec_call rfl call78 rfl (mpn rfl), CB.out w'⟩⟩) (ak (fun γ => ⟨rfl, fun w' _ => ex_buildL HZ.out rfl rfl⟩) (ak (fun γ => ⟨rfl, fun w' => ex_madeL rfl⟩) (ak (fun γ => ⟨rfl, rfl, rfl, fun w' h => ex_laidL h rfl rfl rfl⟩) trivial)))))
  intro γ w3 l hM hl
  have H3 : Hid (Mm w3 [(γ 4, lec B (wd z)), (γ1_0, cells6 n), (γ1_1, zero6), (γ1_2, zero6)] ∧ _) := growB H2 hM (Nat.le_refl _) hl [4] rfl (by decide)
  have o3_4 := ownB H2 hM (Nat.le_refl _) hl (i := 4) rfl
  clear hM hl l H2
  generalize γ 4 = γ3_4 at H3 o3_4 ⊢
  clear γ
  refine rest0 rfl (then_normal (wp_seq ?_))
  refine walk_seqB 8 [.quiet (N 0), .quiet (PT γ3_4 0), .quiet (N B), .call (.tuple #[N L0, .bool cB]), .quiet (.tuple #[N L0, .bool cB]), .quiet (N L0), .quiet (.bool cB), .quiet (PT γ3_4 6)] H3 ?ho4 ?he4
  case ho4 => exact ak (by refine fun γ => ⟨rfl, fun w' h => ?_⟩; clear h; exact ex_zero6 rfl) (ak (by refine fun γ => ⟨rfl, fun w' h => ?_⟩; clear h; go_simp) (ak (fun γ => ⟨rfl, fun w' h => ex_load6 h 0 rfl rfl rfl rfl⟩) (ak (fun γ => ⟨rfl, fun w' h => ⟨44, #[N 0, N B], exec_call rfl call44 rfl (mpn rfl), CS.out w'⟩⟩) (ak (fun _ => ⟨rfl, fun _ _ => rfl⟩) (ak (by refine fun γ => ⟨rfl, fun w' h => ?_⟩; clear h; go_simp) (ak (by refine fun γ => ⟨rfl, fun w' h => ?_⟩; clear h; go_simp) (ak (by refine fun γ => ⟨rfl, fun w' h => ?_⟩; clear h; go_simp) trivial)))))))
  intro _ w4 H4
  clear H3
  refine rest_at (l := [8]) rfl ?_
  refine rest_store rfl rfl rfl (ex_store6 H4.out.1 0 rfl rfl rfl rfl (Nat.le_of_ble_eq_true rfl)) ?_
  have H5 : Hid (Mm (w4.setCells γ3_4 6 (cells6 L0)) [(γ3_4, lec B (wd L0)), (γ1_0, cells6 n), (γ1_1, zero6), (γ1_2, zero6)] ∧ Below w.heap.size w (w4.setCells γ3_4 6 (cells6 L0))) := ⟨H4.out.1.put 0 (off := 6) (vs := cells6 L0) rfl (Nat.le_of_ble_eq_true rfl), below_setCells _ o3_4.out _ _ _ H4.out.2⟩
  clear H4
  generalize hgw : World.setCells _ _ _ _ = w5 at H5 ⊢
  clear hgw
  refine rest_nil (then_normal (wp_seq ?_))
  refine walk_seqB 1 [.quiet (.int .i64 ((s : Nat) : Int))] H5 ?ho5 ?he5
  case ho5 => exact ak (fun _ => ⟨rfl, fun _ _ => rfl⟩) trivial
  intro _ w6 H6
  clear H5
  refine rest_at (l := [1]) rfl ?_
  refine rest_enter (d := 22) (R := fun vv w' => vv = .tuple #[] ∧ Mm w' [(γ3_4, lec B (wd L1))] ∧ Kp γ3_4 w6 w') rfl rfl rfl (exec_call (args := #[PT γ3_4 0, .int .i64 ((s : Nat) : Int)]) rfl call83 rfl (mpn rfl)) (Calls.mono (CD1.out γ3_4 w6 (H6.out.1.one 0 rfl)) (fun e w2 hh => ⟨_, hh.1, rfl, hh.2⟩)) ?_
  rintro _ w7 ⟨rfl, hn, hp⟩
  have H7 : Hid (Mm w7 [(γ3_4, lec B (wd L1)), (γ1_0, cells6 n), (γ1_1, zero6), (γ1_2, zero6)] ∧ Below w.heap.size w w7) := ⟨H6.out.1.change 0 rfl hp hn, Below.kp H6.out.2 hp o3_4.out H6.out.2.size⟩
  clear hn hp H6
  simp only [Act.put, sa, sz, ss]
  refine rest_nil (then_normal (wp_seq ?_))
  refine walk_seqB 5 [.quiet (PT γ3_4 6), .quiet (N L1), .quiet (.int .i64 ((s : Nat) : Int)), .quiet (.int .i64 (-((s : Nat) : Int))), .call (N o)] H7 ?ho6 ?he6
  case ho6 => exact ak (by refine fun γ => ⟨rfl, fun w' h => ?_⟩; clear h; go_simp) (ak (fun γ => ⟨rfl, fun w' h => ex_load6 h 0 rfl rfl rfl rfl⟩) (ak (fun _ => ⟨rfl, fun _ _ => rfl⟩) (ak (by refine fun γ => ⟨rfl, fun w' h => ?_⟩; clear h; go_simp; rw [IntKind.wrap_i64]; omega) (ak (fun γ => ⟨rfl, fun w' h => ⟨78, #[N L1, .int .i64 (-((s : Nat) : Int))], exec_call rfl call78 rfl (mpn rfl), CO.out w'⟩⟩) trivial))))
  intro _ w8 H8
  clear H7
  refine rest_at (l := [5]) rfl ?_
  refine rest_store rfl rfl rfl (ex_store6 H8.out.1 2 rfl rfl rfl rfl (Nat.le_of_ble_eq_true rfl)) ?_
  have H9 : Hid (Mm (w8.setCells γ1_1 0 (cells6 o)) [(γ3_4, lec B (wd L1)), (γ1_0, cells6 n), (γ1_1, cells6 o), (γ1_2, zero6)] ∧ Below w.heap.size w (w8.setCells γ1_1 0 (cells6 o))) := ⟨H8.out.1.put 2 (off := 0) (vs := cells6 o) rfl (Nat.le_of_ble_eq_true rfl), below_setCells _ o1_1.out _ _ _ H8.out.2⟩
  clear H8
  generalize hgw : World.setCells _ _ _ _ = w9 at H9 ⊢
  clear hgw
  refine rest_nil (then_normal (wp_seq ?_))
  refine walk_seqB 0 [] H9 ?ho7 ?he7
  case ho7 => exact trivial
  intro _ w10 H10
  clear H9
  refine rest_at (l := [0]) rfl ?_
  refine rest_enter (d := 28) (R := fun vv w' => vv = .tuple #[] ∧ Mm w' [(γ3_4, lec B (wd L2))] ∧ Kp γ3_4 w10 w') rfl rfl rfl (exec_call (args := #[PT γ3_4 0, .int .i64 384]) rfl call83 rfl (mpn rfl)) (Calls.mono (CD2.out γ3_4 w10 (H10.out.1.one 0 rfl)) (fun e w2 hh => ⟨_, hh.1, rfl, hh.2⟩)) ?_
  rintro _ w11 ⟨rfl, hn, hp⟩
  have H11 : Hid (Mm w11 [(γ3_4, lec B (wd L2)), (γ1_0, cells6 n), (γ1_1, cells6 o), (γ1_2, zero6)] ∧ Below w.heap.size w w11) := ⟨H10.out.1.change 0 rfl hp hn, Below.kp H10.out.2 hp o3_4.out H10.out.2.size⟩
  clear hn hp H10
  simp only [Act.put, sa, sz, ss]
  refine rest_nil (then_normal (wp_seq ?_))
  refine walk_seqB 5 [.quiet (PT γ3_4 6), .quiet (N L2), .quiet (.int .i64 ((s : Nat) : Int)), .quiet (.int .i64 (-((s : Nat) : Int))), .call (N q)] H11 ?ho8 ?he8
  case ho8 => exact ak (by refine fun γ => ⟨rfl, fun w' h => ?_⟩; clear h; go_simp) (ak (fun γ => ⟨rfl, fun w' h => ex_load6 h 0 rfl rfl rfl rfl⟩) (ak (fun _ => ⟨rfl, fun _ _ => rfl⟩) (ak (by refine fun γ => ⟨rfl, fun w' h => ?_⟩; clear h; go_simp; rw [IntKind.wrap_i64]; omega) (ak (fun γ => ⟨rfl, fun w' h => ⟨78, #[N L2, .int .i64 (-((s : Nat) : Int))], exec_call rfl call78 rfl (mpn rfl), CQ.out w'⟩⟩) trivial))))
  intro _ w12 H12
  clear H11
  refine rest_at (l := [5]) rfl ?_
  refine rest_store rfl rfl rfl (ex_store6 H12.out.1 3 rfl rfl rfl rfl (Nat.le_of_ble_eq_true rfl)) ?_
  have H13 : Hid (Mm (w12.setCells γ1_2 0 (cells6 q)) [(γ3_4, lec B (wd L2)), (γ1_0, cells6 n), (γ1_1, cells6 o), (γ1_2, cells6 q)] ∧ Below w.heap.size w (w12.setCells γ1_2 0 (cells6 q))) := ⟨H12.out.1.put 3 (off := 0) (vs := cells6 q) rfl (Nat.le_of_ble_eq_true rfl), below_setCells _ o1_2.out _ _ _ H12.out.2⟩
  clear H12
  generalize hgw : World.setCells _ _ _ _ = w13 at H13 ⊢
  clear hgw
  refine rest_nil (then_normal (wp_seq ?_))
  refine walk_put2 (by kernel_rfl) 2 [1] [.quiet (N o), .quiet (N q)] _ ?pre9 ?F9 _ ?hpre9 (fun γ => ?hF9) (by kernel_rfl) rfl trivial (sB H13) ?ho9 ?hla9 ?he9
  case hpre9 => simp only [tk, tz]; rfl
  case hF9 => simp only [fill, Kind.val, Act.put, sa, sz, ss]; rfl
  case ho9 =>
    refine ak (fun γ => ⟨rfl, fun w' h => ex_load6 h 2 rfl rfl rfl rfl⟩) ?_
    refine ak (fun γ => ⟨rfl, fun w' h => ex_load6 h 3 rfl rfl rfl rfl⟩) ?_
    exact trivial
  case hla9 => exact rfl
  intro γ w14 l hM hl
  have H14 := keepB H13 hM.below
  clear hM hl l H13 γ
  have H15 : Hid (Mm (w14.setCells γ1_1 0 (cells6 o)) [(γ3_4, lec B (wd L2)), (γ1_0, cells6 n), (γ1_1, cells6 o), (γ1_2, cells6 q)] ∧ Below w.heap.size w (w14.setCells γ1_1 0 (cells6 o))) := ⟨H14.out.1.put 2 (off := 0) (vs := cells6 o) rfl (Nat.le_of_ble_eq_true rfl), below_setCells _ o1_1.out _ _ _ H14.out.2⟩
  refine ⟨_, ex_store6 H14.out.1 2 rfl rfl rfl rfl (Nat.le_of_ble_eq_true rfl), ⟨⟨_, _, rfl, rfl, rfl, ex_load6 H15.out.1 3 rfl rfl rfl rfl⟩, trivial⟩, ?_⟩
  clear H14
  generalize hgw : World.setCells _ _ _ _ = w15 at H15 ⊢
  clear hgw
  refine rest_at (l := [3]) rfl ?_
  refine rest_store rfl rfl rfl (ex_store6 H15.out.1 3 rfl rfl rfl rfl (Nat.le_of_ble_eq_true rfl)) ?_
  have H16 : Hid (Mm (w15.setCells γ1_2 0 (cells6 q)) [(γ3_4, lec B (wd L2)), (γ1_0, cells6 n), (γ1_1, cells6 o), (γ1_2, cells6 q)] ∧ Below w.heap.size w (w15.setCells γ1_2 0 (cells6 q))) := ⟨H15.out.1.put 3 (off := 0) (vs := cells6 q) rfl (Nat.le_of_ble_eq_true rfl), below_setCells _ o1_2.out _ _ _ H15.out.2⟩
  clear H15
  generalize hgw : World.setCells _ _ _ _ = w16 at H16 ⊢
  clear hgw
  refine rest_nil (then_normal (wp_ret ?_))
  repeat (first | refine then_ret ?_ | refine block_ret ?_)
  have c0 := H16.out.1.get 2 rfl 0 rfl
  have c1 := H16.out.1.get 2 rfl 1 rfl
  have c2 := H16.out.1.get 2 rfl 2 rfl
  have c3 := H16.out.1.get 2 rfl 3 rfl
  have c4 := H16.out.1.get 2 rfl 4 rfl
  have c5 := H16.out.1.get 2 rfl 5 rfl
  have c1_0 := H16.out.1.get 3 rfl 0 rfl
  have c1_1 := H16.out.1.get 3 rfl 1 rfl
  have c1_2 := H16.out.1.get 3 rfl 2 rfl
  have c1_3 := H16.out.1.get 3 rfl 3 rfl
  have c1_4 := H16.out.1.get 3 rfl 4 rfl
  have c1_5 := H16.out.1.get 3 rfl 5 rfl
  refine bodyPost_ret (v := .tuple #[N o, N q]) (by simp [results, Tryd.results63, go_sem, *]) rfl ?_
  exact ⟨rfl, H16.out.2⟩
end Rg
end Go.Proofs.YtgdlhgbdigpfhaaDoor
end
section
namespace Go.Proofs.YtgdlhgbdigpfhaaDoor
open Go.RowKit
namespace Rg
theorem lead_facts {n : Nat} (ok : Ok n) : ∃ l s, l = bl n ∧ l ≤ 384 ∧ s = 384 - l ∧ s < 384 ∧ n * 2 ^ s < big ∧ big < n * 2 ^ s + n * 2 ^ s := by
  have h0 : n ≠ 0 := by have := ok.three; omega
  have h1 := bl_lt n
  have h2 := bl_le n h0
  have h3 := bl_pos n h0
  have h4 := len_ok ok
  have hl : bl n ≤ 382 := by omega
  refine ⟨bl n, 384 - bl n, rfl, by omega, rfl, by omega, ?_, ?_⟩
  · obtain ⟨m, hm, e⟩ := big_pow
    have hs : 64 * m = bl n + (384 - bl n) := by omega
    rw [e, hs, Nat.pow_add]
    exact Nat.mul_lt_mul_of_pos_right h1 (Nat.two_pow_pos _)
  · obtain ⟨m, hm, e⟩ := big_pow
    have hs : 64 * m = (bl n - 1) + 1 + (384 - bl n) := by omega
    have hne : 2 ^ (bl n - 1) ≠ n := by
      intro h
      rcases Nat.lt_or_ge (bl n - 1) 1 with g | g
      · have : bl n - 1 = 0 := by omega
        rw [this, Nat.pow_zero] at h
        have := ok.three; omega
      · obtain ⟨k, hk⟩ : ∃ k, bl n - 1 = k + 1 := ⟨bl n - 1 - 1, by omega⟩
        rw [hk, Nat.pow_succ] at h
        have := ok.odd; omega
    have hlt : 2 ^ (bl n - 1) < n := by omega
    have h5 := Nat.mul_lt_mul_of_pos_right hlt (Nat.two_pow_pos (384 - bl n))
    rw [e, hs, Nat.pow_add, Nat.pow_succ, Nat.mul_right_comm]
    omega
theorem powersOf_any {n : Nat} (ok : Ok n) (w : World) : Calls Tryd.prog 63 #[N n] w fun e w' => e = .returned (.tuple #[N (big % n), N (big * big % n)]) ∧ Below w.heap.size w w' := by
  obtain ⟨l, s, hl, hl2, hs, hs2, hB, hB2⟩ := lead_facts ok
  have cb := fun w => shift_up n s hs2 w
  rw [Nat.mod_eq_of_lt hB] at cb
  have hBp : 0 < n * 2 ^ s := by omega
  have cl := fun w => len_any n ok.big w
  rw [← hl] at cl
  obtain ⟨B, hBe⟩ : ∃ B, B = n * 2 ^ s := ⟨_, rfl⟩
  rw [← hBe] at cb hB hB2 hBp
  have cs := fun w => sub_any 0 B big_pos2 hB w
  rw [Nat.zero_add, Nat.mod_eq_of_lt (show big - B < big by omega)] at cs
  have hL0 : big - B < B := by omega
  have hmod : big % B = big - B := by
    rw [Nat.mod_eq_sub_mod (by omega), Nat.mod_eq_of_lt hL0]
  have d1 := fun g w hm => doubleL_any g B (big - B) s (by omega) hB hL0 w hm
  have e1 : (big - B) * 2 ^ s % B = big % n * 2 ^ s := by
    rw [← hmod, Nat.mul_mod, Nat.mod_mod, ← Nat.mul_mod, hBe, Nat.mul_mod_mul_right]
  rw [e1] at d1
  have hp := Nat.two_pow_pos s
  have hL1 : big % n * 2 ^ s < B := by
    rw [hBe]; exact Nat.mul_lt_mul_of_pos_right (Nat.mod_lt _ ok.pos) hp
  obtain ⟨k, hk⟩ : ∃ k : Nat, k = 384 := ⟨_, rfl⟩
  have d2 := fun g w hm => doubleL_any g B (big % n * 2 ^ s) k (by omega) hB hL1 w hm
  have e2 : big % n * 2 ^ s * 2 ^ k % B = big * big % n * 2 ^ s := by
    rw [pow_is k (by omega), Nat.mul_right_comm, hBe, Nat.mul_mod_mul_right, Nat.mul_mod, Nat.mod_mod, ← Nat.mul_mod]
  rw [e2] at d2
  have hL2 : big * big % n * 2 ^ s < B := by
    rw [hBe]; exact Nat.mul_lt_mul_of_pos_right (Nat.mod_lt _ ok.pos) hp
  have ek : ((k : Nat) : Int) = 384 := by omega
  rw [ek] at d2
  have co := fun w => shift_neg' (big % n * 2 ^ s) s (by omega) hs2 w
  have cq := fun w => shift_neg' (big * big % n * 2 ^ s) s (by omega) hs2 w
  rw [Nat.mul_div_cancel _ hp] at co cq
  exact powersOf_gen n l s B 0 (big - B) _ _ _ _ _ rfl hl2 hs cl cb cs d1 co d2 cq w
set_option maxRecDepth 100000 in
theorem new_4 (n o s : Nat) (L : Int) (hr : (wd n 0).tmod 2 = 1)
    (e1 : ∀ w, (Op.equalIn 10000 24 (N n) (N 1)).run Tryd.prog w = .ok false w) (hL : ¬ (382 : Int) < L)
    (c29 : ∀ w, Calls Tryd.prog 20 #[.int .u64 1] w fun e w' => e = .returned (N 1) ∧ Below w.heap.size w w')
    (c33 : ∀ w, Calls Tryd.prog 36 #[N n] w fun e w' => e = .returned (.int .i64 L) ∧ Below w.heap.size w w')
    (c34 : ∀ w, Calls Tryd.prog 62 #[.int .u64 (wd n 0)] w fun e w' => e = .returned (.int .u64 (wrapZ (wd n 0))) ∧ Below w.heap.size w w')
    (c35 : ∀ w, Calls Tryd.prog 63 #[N n] w fun e w' => e = .returned (.tuple #[N o, N s]) ∧ Below w.heap.size w w') (w : World) :
    Calls Tryd.prog 38 #[N n] w fun e w' => Below w.heap.size w w' ∧ ∃ g, e = .returned (.tuple #[PT g 0, .int .i64 0]) ∧ w.heap.size ≤ g ∧ g < w'.heap.size ∧ Blk w' g (modx n o s) := by
  have H0 : Hid (_ ∧ _) := ⟨Mm.nil w, Below.refl w.heap.size w⟩
  have C29 : Hid _ := c29
  have C33 : Hid _ := c33
  have C34 : Hid _ := c34
  have C35 : Hid _ := c35
  clear c29 c33 c34 c35
  go_enter Tryd.func38, Tryd.ntmps38
  refine wp_seq ?_
  refine walk_seqA 3 [.made (cells6 n) 24, .quiet (.pointer none), .quiet (.int .i64 0)] (sB H0) ?ho1 ?he1
  case ho1 => exact ak (fun γ => ⟨rfl, fun w' => ex_box6 rfl rfl⟩) (ak (fun _ => ⟨rfl, fun _ _ => rfl⟩) (ak (fun _ => ⟨rfl, fun _ _ => rfl⟩) trivial))
  intro γ w1 l hM hl
  have H1 : Hid (Mm w1 [(γ 0, cells6 n)] ∧ _) := growB H0 hM (Nat.le_refl _) hl [0] rfl (by decide)
  have o1_0 := ownB H0 hM (Nat.le_refl _) hl (i := 0) rfl
  clear hM hl l
  generalize γ 0 = γ1_0 at H1 o1_0 ⊢
  clear γ
  refine rest0 rfl (then_normal (wp_seq (wp_seq ?_)))
  refine walk_anyB 14 [.quiet (PT γ1_0 0), .quiet (.int .u64 (wd n 0)), .quiet (.int .u64 1), .quiet (.bool false), .quiet (.bool false), .quiet (N n), .call (N 1), .quiet (.bool false), .quiet (.bool false), .quiet (.bool false), .quiet (N n), .call (.int .i64 L), .quiet (.bool false), .quiet (.bool false)] H1 ?ho2 ?he2
  case ho2 => exact ak (by refine fun γ => ⟨rfl, fun w' h => ?_⟩; clear h; go_simp) (ak (fun γ => ⟨rfl, fun w' h => ex_load1 h 0 rfl rfl rfl rfl⟩) (ak (by refine fun γ => ⟨rfl, fun w' h => ?_⟩; clear h; go_simp) (ak (by refine fun γ => ⟨rfl, fun w' h => ?_⟩; clear h; go_simp) (ak (fun _ => ⟨rfl, fun _ _ => rfl⟩) (ak (fun γ => ⟨rfl, fun w' h => ex_load6 h 0 rfl rfl rfl rfl⟩) (ak (fun γ => ⟨rfl, fun w' h => ⟨20, #[.int .u64 1], exec_call rfl call20 rfl (mpn rfl), C29.out w'⟩⟩) (ak (fun γ => ⟨rfl, fun w' _ => exec_eq6 e1 rfl rfl rfl⟩) (ak (by refine fun γ => ⟨rfl, fun w' h => ?_⟩; clear h; go_simp) (ak (fun _ => ⟨rfl, fun _ _ => rfl⟩) (ak (fun γ => ⟨rfl, fun w' h => ex_load6 h 0 rfl rfl rfl rfl⟩) (ak (fun γ => ⟨rfl, fun w' h => ⟨36, #[N n], exec_call rfl call36 rfl (mpn rfl), C33.out w'⟩⟩) (ak (by refine fun γ => ⟨rfl, fun w' h => ?_⟩; clear h; go_simp) (ak (by refine fun γ => ⟨rfl, fun w' h => ?_⟩; clear h; go_simp) trivial)))))))))))))
  intro _ w2 H2
  clear H1
  refine rest0 rfl (then_normal (wp_cond_false rfl ?_))
  refine wp_skip (then_normal (wp_seq ?_))
  refine walk_anyA 6 [.quiet (N n), .quiet (PT γ1_0 0), .quiet (.int .u64 (wd n 0)), .call (.int .u64 (wrapZ (wd n 0))), .quiet (modv n 0 0), .made (modx n 0 0) 84] (sB H2) ?ho3 ?he3
  case ho3 => exact ak (fun γ => ⟨rfl, fun w' h => ex_load6 h 0 rfl rfl rfl rfl⟩) (ak (by refine fun γ => ⟨rfl, fun w' h => ?_⟩; clear h; go_simp) (ak (fun γ => ⟨rfl, fun w' h => ex_load1 h 0 rfl rfl rfl rfl⟩) (ak (fun γ => ⟨rfl, fun w' h => ⟨62, #[.int .u64 (wd n 0)], exec_call rfl call62 rfl (mpn rfl), C34.out w'⟩⟩) (ak (fun γ => ⟨rfl, fun w' _ => ex_build39 rfl rfl rfl⟩) (ak (fun γ => ⟨rfl, fun w' => ex_box39 rfl rfl⟩) trivial)))))
  intro γ w3 l hM hl
  have H3 : Hid (Mm w3 [(γ 5, modx n 0 0), (γ1_0, cells6 n)] ∧ _) := growB H2 hM (Nat.le_refl _) hl [5] rfl (by decide)
  have o3_5 := ownB H2 hM (Nat.le_refl _) hl (i := 5) rfl
  clear hM hl l H2
  generalize γ 5 = γ3_5 at H3 o3_5 ⊢
  clear γ
  refine rest_at (l := [6]) rfl ?_
  refine rest_set (d := 4) rfl rfl rfl rfl ?_
  simp only [Act.put, sa, sz, ss]
  refine rest_nil (then_normal (wp_seq ?_))
  refine walk_seqB 9 [.quiet (PT γ3_5 0), .quiet (PT γ3_5 0), .quiet (N n), .call (.tuple #[N o, N s]), .quiet (.tuple #[N o, N s]), .quiet (N o), .quiet (N s), .quiet (PT γ3_5 0), .quiet (PT γ3_5 7)] H3 ?ho4 ?he4
  case ho4 => exact ak (fun _ => ⟨rfl, fun _ _ => rfl⟩) (ak (fun _ => ⟨rfl, fun _ _ => rfl⟩) (ak (fun γ => ⟨rfl, fun w' h => ex_load6 h 1 rfl rfl rfl rfl⟩) (ak (fun γ => ⟨rfl, fun w' h => ⟨63, #[N n], exec_call rfl call63 rfl (mpn rfl), C35.out w'⟩⟩) (ak (fun _ => ⟨rfl, fun _ _ => rfl⟩) (ak (by refine fun γ => ⟨rfl, fun w' h => ?_⟩; clear h; go_simp) (ak (by refine fun γ => ⟨rfl, fun w' h => ?_⟩; clear h; go_simp) (ak (by refine fun γ => ⟨rfl, fun w' h => ?_⟩; clear h; go_simp) (ak (by refine fun γ => ⟨rfl, fun w' h => ?_⟩; clear h; go_simp) trivial))))))))
  intro _ w4 H4
  clear H3
  refine rest_at (l := [9, 10, 11, 12]) rfl ?_
  refine rest_store rfl rfl rfl (ex_store6 H4.out.1 0 rfl rfl rfl rfl (Nat.le_of_ble_eq_true rfl)) ?_
  have H5 : Hid (Mm (w4.setCells γ3_5 7 (cells6 o)) [(γ3_5, modx n o 0), (γ1_0, cells6 n)] ∧ Below w.heap.size w (w4.setCells γ3_5 7 (cells6 o))) := ⟨H4.out.1.put 0 (off := 7) (vs := cells6 o) rfl (Nat.le_of_ble_eq_true rfl), below_setCells _ o3_5.out _ _ _ H4.out.2⟩
  clear H4
  generalize hgw : World.setCells _ _ _ _ = w5 at H5 ⊢
  clear hgw
  refine rest_set (d := 34) (v := PT γ3_5 0) (w' := w5) rfl rfl rfl (by go_simp) ?_
  simp only [Act.put, sa, sz, ss]
  refine rest_set (d := 35) (v := PT γ3_5 13) (w' := w5) rfl rfl rfl (by go_simp) ?_
  simp only [Act.put, sa, sz, ss]
  refine rest_store rfl rfl rfl (ex_store6 H5.out.1 0 rfl rfl rfl rfl (Nat.le_of_ble_eq_true rfl)) ?_
  have H6 : Hid (Mm (w5.setCells γ3_5 13 (cells6 s)) [(γ3_5, modx n o s), (γ1_0, cells6 n)] ∧ Below w.heap.size w (w5.setCells γ3_5 13 (cells6 s))) := ⟨H5.out.1.put 0 (off := 13) (vs := cells6 s) rfl (Nat.le_of_ble_eq_true rfl), below_setCells _ o3_5.out _ _ _ H5.out.2⟩
  clear H5
  generalize hgw : World.setCells _ _ _ _ = w6 at H6 ⊢
  clear hgw
  refine rest_nil (then_normal (wp_seq ?_))
  refine walk_seqB 3 [.quiet (PT γ3_5 0), .quiet (PT γ3_5 0), .quiet (.int .i64 0)] H6 ?ho5 ?he5
  case ho5 => exact ak (fun _ => ⟨rfl, fun _ _ => rfl⟩) (ak (fun _ => ⟨rfl, fun _ _ => rfl⟩) (ak (fun _ => ⟨rfl, fun _ _ => rfl⟩) trivial))
  intro _ w7 H7
  clear H6
  refine rest0 rfl (then_normal (wp_ret ?_))
  repeat (first | refine then_ret ?_ | refine block_ret ?_)
  refine bodyPost_ret (v := .tuple #[PT γ3_5 0, .int .i64 0]) (by simp [results, Tryd.results38, go_sem, *]) rfl ?_
  exact ⟨H7.out.2, γ3_5, rfl, o3_5.out, H7.out.1.lt (List.mem_of_getElem? (i := 0) rfl), (H7.out.1.blk _ (List.mem_of_getElem? (i := 0) rfl)).2⟩
theorem new_ok {n : Nat} (ok : Ok n) (w : World) : Calls Tryd.prog 38 #[N n] w fun e w' => Below w.heap.size w w' ∧ ∃ g, e = .returned (.tuple #[PT g 0, .int .i64 0]) ∧ w.heap.size ≤ g ∧ g < w'.heap.size ∧ Blk w' g (modc n) := by
  have hw := word_mod n
  rw [ok.odd] at hw
  have e1 := fun w => run_eqN n 1 ok.big (small_big 1 (by decide)) w
  rw [decide_eq_false (by have := ok.three; omega)] at e1
  exact new_4 n (big % n) (big * big % n) _ hw e1 (len_ok ok) (fun w => of_any 1 (by decide) w) (fun w => len_any n ok.big w) (fun w => (wrapOf_any (wd n 0) w).mono fun e w' ⟨h1, h2⟩ => ⟨h1, h2 ▸ Below.refl _ _⟩) (fun w => powersOf_any ok w) w
end Rg
end Go.Proofs.YtgdlhgbdigpfhaaDoor
end
section
namespace Go.Proofs.YtgdlhgbdigpfhaaDoor
open Go.RowKit
namespace Rg
/-- The rounds of down. -/
def drun (n wr a : Nat) : Nat → Nat
  | 0 => a
  | k + 1 => (drun n wr a k + mt (drun n wr a k) wr * n) / 18446744073709551616
theorem drun_bd (n wr a : Nat) : ∀ k, drun n wr a k ≤ a / 2 ^ (64 * k) + n
  | 0 => by rw [Nat.mul_zero, Nat.pow_zero, Nat.div_one]; exact Nat.le_add_right _ _
  | k + 1 => by
    have ih := drun_bd n wr a k
    have ht := mt_lt (drun n wr a k) wr
    show (drun n wr a k + mt (drun n wr a k) wr * n) / 18446744073709551616 ≤ _
    rw [pow_step, ← Nat.div_div_eq_div_mul]
    have h1 : mt (drun n wr a k) wr * n ≤ 18446744073709551615 * n := Nat.mul_le_mul (by omega) (Nat.le_refl n)
    generalize mt (drun n wr a k) wr * n = p at h1
    omega
theorem drun_lt (n wr a : Nat) (ha : a < big) (hn : n < big) : ∀ k, drun n wr a k < big
  | 0 => ha
  | k + 1 => by
    have ih := drun_lt n wr a ha hn k
    have ht := mt_lt (drun n wr a k) wr
    show (drun n wr a k + mt (drun n wr a k) wr * n) / 18446744073709551616 < _
    rw [Nat.div_lt_iff_lt_mul (by decide)]
    have h1 : mt (drun n wr a k) wr * n ≤ 18446744073709551615 * n := Nat.mul_le_mul (by omega) (Nat.le_refl n)
    omega
theorem drun_cg (n wr a : Nat) (h : wr * n % 18446744073709551616 = 18446744073709551615) : ∀ k, Cg n (drun n wr a k * 2 ^ (64 * k)) a
  | 0 => by rw [Nat.mul_zero, Nat.pow_zero, Nat.mul_one]; exact Cg.refl _ _
  | k + 1 => by
    have ih := drun_cg n wr a h k
    have he := mt_even n wr (drun n wr a k) h
    have e : drun n wr a (k + 1) * 18446744073709551616 = drun n wr a k + mt (drun n wr a k) wr * n := by
      show (drun n wr a k + mt (drun n wr a k) wr * n) / 18446744073709551616 * 18446744073709551616 = _
      omega
    rw [pow_step, ← Nat.mul_assoc, Nat.mul_right_comm, e, Nat.add_mul]
    refine Cg.trans (b := drun n wr a k * 2 ^ (64 * k) + 0) (Cg.addL _ ?_) (by rw [Nat.add_zero]; exact ih)
    rw [Nat.mul_right_comm]
    exact Cg.zero n _
theorem drun_top (n S t : Nat) (hS : S < big) (hn : n < big) : cc S t n 6 = wn ((S + t * n) / 18446744073709551616) 5 ∨ ¬ (S + t * n) / 18446744073709551616 < big := by
  by_cases hr : (S + t * n) / 18446744073709551616 < big
  · left
    obtain ⟨j, hj⟩ : ∃ j, j = 5 := ⟨5, rfl⟩
    have hb := big_j j hj
    have e6 : cc S t n 6 = cc S t n (j + 1) := by rw [hj]
    rw [← hj, e6]
    have h := wd_last ((S + t * n) / 18446744073709551616) j (by rw [← hb]; exact hr)
    rw [wd_wn] at h
    have h' : wn ((S + t * n) / 18446744073709551616) j = (S + t * n) / 18446744073709551616 / 2 ^ (64 * j) := by omega
    rw [h', Nat.div_div_eq_div_mul, Nat.mul_comm 18446744073709551616, ← pow_step]
    unfold cc
    rw [← hb, Nat.mod_eq_of_lt hS, Nat.mod_eq_of_lt hn]
  · exact Or.inr hr
theorem d_word (Y k : Nat) : wd (Y / 18446744073709551616) k = wd Y (k + 1) := by
  unfold wd
  rw [Nat.div_div_eq_div_mul, Nat.mul_comm 18446744073709551616, ← pow_step]
set_option maxHeartbeats 2000000 in
set_option maxRecDepth 100000 in
theorem down_any (g n o s a : Nat) (ok : Ok n) (ha : a < big) (w : World) (hm : Mm w [(g, modx n o s)]) :
    Calls Tryd.prog 95 #[PT g 0, N a] w fun e w' => e = .returned (N (drun n (wrapN n) a 6)) ∧ Below w.heap.size w w' := by
  have H0 : Hid (_ ∧ _) := ⟨hm, Below.refl w.heap.size w⟩
  clear hm
  have HA : Hid _ := ha
  clear ha
  go_enter Tryd.func95, Tryd.ntmps95
  refine wp_seq ?_
  refine walk_seqA 2 [.made (cells6 a) 24, .made zero6 24] (sB H0) ?ho1 ?he1
  case ho1 => exact ak (fun γ => ⟨rfl, fun w' => ex_box6 rfl rfl⟩) (ak (fun γ => ⟨rfl, fun w' => exec_made6 rfl⟩) trivial)
  intro γ w1 l hM hl
  have H1 : Hid (Mm w1 [(γ 0, cells6 a), (γ 1, zero6), (g, modx n o s)] ∧ _) := growB H0 hM (Nat.le_refl _) hl [0, 1] rfl (by decide)
  have o1_0 := ownB H0 hM (Nat.le_refl _) hl (i := 0) rfl
  have o1_1 := ownB H0 hM (Nat.le_refl _) hl (i := 1) rfl
  clear hM hl l
  generalize γ 0 = γ1_0 at H1 o1_0 ⊢
  generalize γ 1 = γ1_1 at H1 o1_1 ⊢
  clear γ
  refine rest0 rfl (then_normal (wp_seq (wp_seq ?_)))
  refine walk_seqB 1 [.quiet (.int .i64 0)] H1 ?ho2 ?he2
  case ho2 => exact ak (fun _ => ⟨rfl, fun _ _ => rfl⟩) trivial
  intro _ w2 H2
  clear H1
  refine rest0 rfl (then_normal (wp_block ?_))
  refine loop_ghost (α := Nat) (fun i a' w' => ∃ s0 : Nat → Value, a' = ⟨#[PT g 0, N a, undef, PT γ1_0 0, PT γ1_1 0, s0 5, s0 6, s0 7, s0 8, .int .i64 ((i : Nat) : Int), s0 10, s0 11, s0 12, s0 13, s0 14, s0 15, s0 16, s0 17, s0 18, s0 19, s0 20, s0 21, s0 22, s0 23, s0 24, s0 25, s0 26, s0 27, s0 28, s0 29, s0 30, s0 31, s0 32, s0 33, s0 34, s0 35, s0 36, s0 37, s0 38, s0 39, s0 40, s0 41, s0 42, s0 43, s0 44, s0 45, s0 46, s0 47, s0 48, s0 49, s0 50, s0 51, s0 52, s0 53, s0 54, undef], []⟩ ∧ (Mm w' [(γ1_0, cells6 (drun n (wrapN n) a i)), (γ1_1, zero6), (g, modx n o s)] ∧ Below w.heap.size w w') ∧ i ≤ 6) (fun i => 6 - i) 0 ?st0 ?rd0
  case st0 => exact ⟨(slotfn [undef, undef, undef, undef, undef, undef, undef, undef, undef, undef, undef, undef, undef, undef, undef, undef, undef, undef, undef, undef, undef, undef, undef, undef, undef, undef, undef, undef, undef, undef, undef, undef, undef, undef, undef, undef, undef, undef, undef, undef, undef, undef, undef, undef, undef, undef, undef, undef, undef, undef, undef, undef, undef, undef, undef]), rfl, ⟨H2.out.1.at0 rfl, H2.out.2⟩, by omega⟩
  intro i a' w3 hI
  obtain ⟨s0, rfl, hMB, hk0⟩ := hI
  have H3 : Hid (_ ∧ _) := hMB
  clear hMB H2
  by_cases hlt : i < 6
  · have hrd : True := trivial
    clear hrd
    have hS2 := drun_lt n (wrapN n) a HA.out ok.big i
    have hZ2 := drun_lt n (wrapN n) a HA.out ok.big (i + 1)
    obtain ⟨S, hS⟩ : ∃ S, S = drun n (wrapN n) a i := ⟨_, rfl⟩
    obtain ⟨t, ht⟩ : ∃ t, t = mt S (wrapN n) := ⟨_, rfl⟩
    obtain ⟨Y, hY⟩ : ∃ Y, Y = S + t * n := ⟨_, rfl⟩
    obtain ⟨Z, hZ⟩ : ∃ Z, Z = drun n (wrapN n) a (i + 1) := ⟨_, rfl⟩
    have hZ1 : Z = Y / 18446744073709551616 := by rw [hZ, hY, ht, hS]; rfl
    have htl : t < 18446744073709551616 := by rw [ht]; exact mt_lt _ _
    rw [← hS] at hS2
    rw [← hZ] at hZ2
    have e3 : IntKind.u64.wrap (wd S 0 * wrapZ (wd n 0)) = (t : Nat) := by
      rw [IntKind.wrap_u64, ← wrapN_cast, ht, wd_wn]
      unfold mt wn
      rw [Nat.mul_zero, Nat.pow_zero, Nat.div_one, ← Int.natCast_mul]; rfl
    have e5 : ((cc S t n 6 : Nat) : Int) = wd Z 5 := by
      rcases drun_top n S t hS2 ok.big with h | h
      · rw [← hY, ← hZ1] at h
        rw [wd_wn, ← h]
      · rw [← hY, ← hZ1] at h
        exact absurd hZ2 h
    have e6 : ∀ k, k < 5 → wd Z k = wd Y (k + 1) := fun k _ => by rw [hZ1, d_word]
    have cB : ∀ m, ∀ w, Calls Tryd.prog 89 #[.int .u64 ((t : Nat) : Int), .int .u64 (wd n m), .int .u64 (wd S m), .int .u64 ((cc S t n m : Nat) : Int)] w fun e w' => e = .returned (.tuple #[.int .u64 (wd Y m), .int .u64 ((cc S t n (m + 1) : Nat) : Int)]) ∧ Below w.heap.size w w' := fun m w => by
      have h := mulAddM_any ((t : Nat) : Int) (wd n m) (wd S m) ((cc S t n m : Nat) : Int) (Int.natCast_nonneg _) (by omega) (wd_bd _ _).1 (wd_bd _ _).2 (wd_bd _ _).1 (wd_bd _ _).2 (Int.natCast_nonneg _) (by have := cc_lt S t n m htl; omega) w
      rw [cc_lo, cc_hi, ← hY] at h
      exact h.mono fun e w2 ⟨h1, h2⟩ => ⟨h1, h2 ▸ Below.refl _ _⟩
    have cB0 := cB 0
    rw [cc_zero, Int.natCast_zero] at cB0
    have CB : Hid _ := cB
    have CB0 : Hid _ := cB0
    have E6 : Hid _ := e6
    have E5 : Hid _ := e5
    have HZ : Hid _ := hZ
    rw [← hS] at H3
    clear cB cB0 e6 e5 hZ hZ1 hZ2 hS hS2 ht hY htl
    refine wp_seq ?_
    refine walk_seqB 1 [.quiet (.bool true)] H3 ?ho3 ?he3
    case ho3 => exact ak (by refine fun γ => ⟨rfl, fun w' h => ?_⟩; clear h; go_simp <;> omega) trivial
    intro _ w4 H4
    clear H3
    refine rest0 rfl (then_normal (wp_seq ?_))
    refine wp_cond_true rfl (wp_skip ?_)
    refine then_normal (wp_seq ?_)
    refine wp_block (wp_seq ?_)
    refine walk_anyB 8 [.quiet (PT γ1_0 0), .quiet (.int .u64 (wd S 0)), .quiet (PT g 0), .quiet (PT g 0), .quiet (PT g 6), .quiet (.int .u64 (wrapZ (wd n 0))), .quiet (.int .u64 ((t : Nat) : Int)), .quiet (.int .u64 ((t : Nat) : Int))] H4 ?ho4 ?he4
    case ho4 => exact ak (by refine fun γ => ⟨rfl, fun w' h => ?_⟩; clear h; go_simp) (ak (fun γ => ⟨rfl, fun w' h => ex_load1 h 0 rfl rfl rfl rfl⟩) (ak (fun _ => ⟨rfl, fun _ _ => rfl⟩) (ak (by refine fun γ => ⟨rfl, fun w' h => ?_⟩; clear h; go_simp) (ak (by refine fun γ => ⟨rfl, fun w' h => ?_⟩; clear h; go_simp) (ak (fun γ => ⟨rfl, fun w' h => ex_load1 h 2 rfl rfl rfl rfl⟩) (ak (by refine fun γ => ⟨rfl, fun w' h => ?_⟩; clear h; go_simp) (ak (fun _ => ⟨rfl, fun _ _ => rfl⟩) trivial)))))))
    intro _ w5 H5
    clear H4
    refine rest0 rfl (then_normal (wp_seq ?_))
    refine walk_anyB 14 [.quiet (.int .u64 ((t : Nat) : Int)), .quiet (PT g 0), .quiet (PT g 0), .quiet (PT g 0), .quiet (PT g 0), .quiet (.int .u64 (wd n 0)), .quiet (PT γ1_0 0), .quiet (.int .u64 (wd S 0)), .call (.tuple #[.int .u64 (wd Y 0), .int .u64 ((cc S t n (0 + 1) : Nat) : Int)]), .quiet (.tuple #[.int .u64 (wd Y 0), .int .u64 ((cc S t n (0 + 1) : Nat) : Int)]), .quiet (.int .u64 (wd Y 0)), .quiet (.int .u64 ((cc S t n (0 + 1) : Nat) : Int)), .quiet (.int .u64 (wd Y 0)), .quiet (.int .u64 ((cc S t n (0 + 1) : Nat) : Int))] H5 ?ho5 ?he5
    case ho5 => exact ak (fun _ => ⟨rfl, fun _ _ => rfl⟩) (ak (fun _ => ⟨rfl, fun _ _ => rfl⟩) (ak (by refine fun γ => ⟨rfl, fun w' h => ?_⟩; clear h; go_simp) (ak (by refine fun γ => ⟨rfl, fun w' h => ?_⟩; clear h; go_simp) (ak (by refine fun γ => ⟨rfl, fun w' h => ?_⟩; clear h; go_simp) (ak (fun γ => ⟨rfl, fun w' h => ex_load1 h 2 rfl rfl rfl rfl⟩) (ak (by refine fun γ => ⟨rfl, fun w' h => ?_⟩; clear h; go_simp) (ak (fun γ => ⟨rfl, fun w' h => ex_load1 h 0 rfl rfl rfl rfl⟩) (ak (fun γ => ⟨rfl, fun w' h => ⟨89, #[.int .u64 ((t : Nat) : Int), .int .u64 (wd n 0), .int .u64 (wd S 0), .int .u64 0], exec_call rfl call89 rfl (mpn rfl), CB0.out w'⟩⟩) (ak (fun _ => ⟨rfl, fun _ _ => rfl⟩) (ak (by refine fun γ => ⟨rfl, fun w' h => ?_⟩; clear h; go_simp) (ak (by refine fun γ => ⟨rfl, fun w' h => ?_⟩; clear h; go_simp) (ak (fun _ => ⟨rfl, fun _ _ => rfl⟩) (ak (fun _ => ⟨rfl, fun _ _ => rfl⟩) trivial)))))))))))))
    intro _ w6 H6
    clear H5
    refine rest0 rfl (then_normal (wp_seq (wp_seq ?_)))
    refine walk_seqB 1 [.quiet (.int .i64 1)] H6 ?ho6 ?he6
    case ho6 => exact ak (fun _ => ⟨rfl, fun _ _ => rfl⟩) trivial
    intro _ w7 H7
    clear H6
    refine rest0 rfl (then_normal (wp_block ?_))
    refine loop_ghost (α := Nat) (fun m a' w' => ∃ s2 : Nat → Value, a' = ⟨#[PT g 0, N a, undef, PT γ1_0 0, PT γ1_1 0, .int .u64 ((t : Nat) : Int), .int .u64 (wd Y 0), .int .u64 ((cc S t n (m + 1) : Nat) : Int), .int .i64 ((m + 1 : Nat) : Int), .int .i64 ((i : Nat) : Int), .bool true, PT γ1_0 0, .int .u64 (wd S 0), PT g 0, PT g 0, PT g 6, .int .u64 (wrapZ (wd n 0)), .int .u64 ((t : Nat) : Int), .tuple #[.int .u64 (wd Y 0), .int .u64 ((cc S t n (0 + 1) : Nat) : Int)], .int .u64 ((t : Nat) : Int), PT g 0, PT g 0, PT g 0, PT g 0, .int .u64 (wd n 0), PT γ1_0 0, .int .u64 (wd S 0), .tuple #[.int .u64 (wd Y 0), .int .u64 ((cc S t n (0 + 1) : Nat) : Int)], .int .u64 (wd Y 0), .int .u64 ((cc S t n (0 + 1) : Nat) : Int), s2 30, s2 31, s2 32, s2 33, s2 34, s2 35, s2 36, s2 37, s2 38, s2 39, s2 40, s2 41, s2 42, s2 43, s2 44, s2 45, s2 46, s2 47, s2 48, s2 49, s2 50, s2 51, s0 52, s0 53, s0 54, undef], []⟩ ∧ (Mm w' [(γ1_0, rowc (inn S Y (m + 1))), (γ1_1, zero6), (g, modx n o s)] ∧ Below w.heap.size w w') ∧ m ≤ 5) (fun m => 5 - m) 0 ?st2 ?rd2
    case st2 => exact ⟨(slotfn [undef, undef, undef, undef, undef, undef, undef, undef, undef, undef, undef, undef, undef, undef, undef, undef, undef, undef, undef, undef, undef, undef, undef, undef, undef, undef, undef, undef, undef, undef, s0 30, s0 31, s0 32, s0 33, s0 34, s0 35, s0 36, s0 37, s0 38, s0 39, s0 40, s0 41, s0 42, s0 43, s0 44, s0 45, s0 46, s0 47, s0 48, s0 49, s0 50, s0 51]), rfl, ⟨H7.out.1, H7.out.2⟩, by omega⟩
    intro m a' w8 hI
    obtain ⟨s2, rfl, hMB, hk2⟩ := hI
    have H8 : Hid (_ ∧ _) := hMB
    clear hMB H7
    by_cases hlt2 : m < 5
    · have hrd : True := trivial
      clear hrd
      have hm6 : m + 1 < 6 := by omega
      refine wp_seq (wp_seq ?_)
      refine walk_seqB 2 [.quiet (.int .i64 ((m + 1 : Nat) : Int)), .quiet (.bool true)] H8 ?ho7 ?he7
      case ho7 => exact ak (fun _ => ⟨rfl, fun _ _ => rfl⟩) (ak (by refine fun γ => ⟨rfl, fun w' h => ?_⟩; clear h; go_simp <;> omega) trivial)
      intro _ w9 H9
      clear H8
      refine rest0 rfl (then_normal (wp_cond_true rfl ?_))
      refine wp_skip (then_normal ?_)
      refine wp_seq (wp_block ?_)
      refine walk_put (by kernel_rfl) 18 [16] [.quiet (.int .i64 ((m + 1 : Nat) : Int)), .quiet (.int .i64 ((m : Nat) : Int)), .quiet (.int .u64 ((t : Nat) : Int)), .quiet (PT g 0), .quiet (.int .i64 ((m + 1 : Nat) : Int)), .quiet (PT g 0), .quiet (PT g 0), .quiet (PT g (0 + (m + 1))), .quiet (.int .u64 (wd n (m + 1))), .quiet (.int .i64 ((m + 1 : Nat) : Int)), .quiet (PT γ1_0 (0 + (m + 1))), .quiet (.int .u64 (wd S (m + 1))), .quiet (.int .u64 ((cc S t n (m + 1) : Nat) : Int)), .call (.tuple #[.int .u64 (wd Y (m + 1)), .int .u64 ((cc S t n (m + 1 + 1) : Nat) : Int)]), .quiet (.tuple #[.int .u64 (wd Y (m + 1)), .int .u64 ((cc S t n (m + 1 + 1) : Nat) : Int)]), .quiet (.int .u64 (wd Y (m + 1))), .quiet (.int .u64 ((cc S t n (m + 1 + 1) : Nat) : Int)), .quiet (PT γ1_0 (0 + m))] _ ?pre8 ?F8 _ ?hpre8 (fun γ => ?hF8) (by kernel_rfl) rfl trivial (sB H9) ?ho8 ?hla8 ?he8
      case hpre8 => simp only [tk, tz]; rfl
      case hF8 => simp only [fill, Kind.val, Act.put, sa, sz, ss]; rfl
      case ho8 =>
        refine ak (fun _ => ⟨rfl, fun _ _ => rfl⟩) ?_
        refine ak (by refine fun γ => ⟨rfl, fun w' h => ?_⟩; clear h; go_simp; rw [IntKind.wrap_i64]; omega) ?_
        refine ak (fun _ => ⟨rfl, fun _ _ => rfl⟩) ?_
        refine ak (fun _ => ⟨rfl, fun _ _ => rfl⟩) ?_
        refine ak (fun _ => ⟨rfl, fun _ _ => rfl⟩) ?_
        refine ak (by refine fun γ => ⟨rfl, fun w' h => ?_⟩; clear h; go_simp) ?_
        refine ak (by refine fun γ => ⟨rfl, fun w' h => ?_⟩; clear h; go_simp) ?_
        refine ak (fun γ => ⟨rfl, fun w' _ => ex_indexAddr6 rfl rfl rfl hm6⟩) ?_
        refine ak (fun γ => ⟨rfl, fun w' h => ex_load1 h 2 rfl rfl rfl (modn_at hm6)⟩) ?_
        refine ak (fun _ => ⟨rfl, fun _ _ => rfl⟩) ?_
        refine ak (fun γ => ⟨rfl, fun w' _ => ex_indexAddr6 rfl rfl rfl hm6⟩) ?_
        refine ak (fun γ => ⟨rfl, fun w' h => ex_load1 h 0 rfl rfl rfl (inn_at hm6)⟩) ?_
        refine ak (fun _ => ⟨rfl, fun _ _ => rfl⟩) ?_
        refine ak (fun γ => ⟨rfl, fun w' h => ⟨89, #[.int .u64 ((t : Nat) : Int), .int .u64 (wd n (m + 1)), .int .u64 (wd S (m + 1)), .int .u64 ((cc S t n (m + 1) : Nat) : Int)], exec_call rfl call89 rfl (mpn rfl), CB.out (m + 1) w'⟩⟩) ?_
        refine ak (fun _ => ⟨rfl, fun _ _ => rfl⟩) ?_
        refine ak (by refine fun γ => ⟨rfl, fun w' h => ?_⟩; clear h; go_simp) ?_
        refine ak (by refine fun γ => ⟨rfl, fun w' h => ?_⟩; clear h; go_simp) ?_
        refine ak (fun γ => ⟨rfl, fun w' _ => ex_indexAddr6 rfl rfl rfl (Nat.lt_of_succ_lt hm6)⟩) ?_
        exact trivial
      case hla8 => exact ⟨⟨_, _, rfl, rfl, fun γ => ⟨rfl, fun w' => by first | rfl | go_simp⟩⟩, trivial⟩
      intro γ w10 l hM hl
      have H10 := keepB H9 hM.below
      clear hM hl l H9 γ
      refine ⟨_, ex_storeI H10.out.1 0 rfl rfl Tryd.sizeOf22 rfl rfl (row_bd (Nat.lt_of_succ_lt hm6)), ?_⟩
      have H11 : Hid (Mm (w10.setCells γ1_0 (0 + m) [.int .u64 (wd Y (m + 1))]) [(γ1_0, rowc (inn S Y (m + 1 + 1))), (γ1_1, zero6), (g, modx n o s)] ∧ Below w.heap.size w (w10.setCells γ1_0 (0 + m) [.int .u64 (wd Y (m + 1))])) := ⟨by
        have h := H10.out.1.put 0 (off := (0 + m)) (vs := [.int .u64 (wd Y (m + 1))]) rfl (row_bd (Nat.lt_of_succ_lt hm6))
        rw [patch_row (Nat.lt_of_succ_lt hm6), inn_step rfl] at h
        exact h, below_setCells _ o1_0.out _ _ _ H10.out.2⟩
      clear H10
      generalize hgw : World.setCells _ _ _ _ = w11 at H11 ⊢
      clear hgw
      refine rest_at (l := [19]) rfl ?_
      refine rest_set (d := 7) rfl rfl rfl rfl ?_
      simp only [Act.put, sa, sz, ss]
      refine rest_nil (block_normal (then_normal ?_))
      refine walk_seqB 2 [.quiet (.int .i64 ((m + 1 : Nat) : Int)), .quiet (.int .i64 ((m + 1 + 1 : Nat) : Int))] H11 ?ho9 ?he9
      case ho9 => exact ak (fun _ => ⟨rfl, fun _ _ => rfl⟩) (ak (by refine fun γ => ⟨rfl, fun w' h => ?_⟩; clear h; go_simp; rw [IntKind.wrap_i64]; omega) trivial)
      intro _ w12 H12
      clear H11
      refine rest_at (l := [2]) rfl ?_
      refine rest_set (d := 8) rfl rfl rfl rfl ?_
      simp only [Act.put, sa, sz, ss]
      refine rest_nil (then_normal ?_)
      exact ⟨m + 1, ⟨(slotfn [undef, undef, undef, undef, undef, undef, undef, undef, undef, undef, undef, undef, undef, undef, undef, undef, undef, undef, undef, undef, undef, undef, undef, undef, undef, undef, undef, undef, undef, undef, .int .i64 ((m + 1 : Nat) : Int), .bool true, .int .i64 ((m + 1 : Nat) : Int), .int .i64 ((m + 1 + 1 : Nat) : Int), .tuple #[.int .u64 (wd Y (m + 1)), .int .u64 ((cc S t n (m + 1 + 1) : Nat) : Int)], .int .i64 ((m + 1 : Nat) : Int), .int .i64 ((m : Nat) : Int), .int .u64 ((t : Nat) : Int), PT g 0, .int .i64 ((m + 1 : Nat) : Int), PT g 0, PT g 0, PT g (0 + (m + 1)), .int .u64 (wd n (m + 1)), .int .i64 ((m + 1 : Nat) : Int), PT γ1_0 (0 + (m + 1)), .int .u64 (wd S (m + 1)), .int .u64 ((cc S t n (m + 1) : Nat) : Int), .tuple #[.int .u64 (wd Y (m + 1)), .int .u64 ((cc S t n (m + 1 + 1) : Nat) : Int)], .int .u64 (wd Y (m + 1)), .int .u64 ((cc S t n (m + 1 + 1) : Nat) : Int), PT γ1_0 (0 + m)]), rfl, ⟨H12.out.1, H12.out.2⟩, by omega⟩, by omega⟩
    have hm5 : m = 5 := by omega
    subst hm5
    refine wp_seq (wp_seq ?_)
    refine walk_seqB 2 [.quiet (.int .i64 ((5 + 1 : Nat) : Int)), .quiet (.bool false)] H8 ?ho10 ?he10
    case ho10 => exact ak (fun _ => ⟨rfl, fun _ _ => rfl⟩) (ak (by refine fun γ => ⟨rfl, fun w' h => ?_⟩; clear h; go_simp <;> omega) trivial)
    intro _ w13 H13
    clear H8
    refine rest0 rfl (then_normal (wp_cond_false rfl ?_))
    refine wp_exit ?_
    repeat refine then_exit ?_
    refine block_exit ?_
    refine then_normal ?_
    refine walk_seqB 2 [.quiet (.int .u64 ((cc S t n (5 + 1) : Nat) : Int)), .quiet (PT γ1_0 5)] H13 ?ho11 ?he11
    case ho11 => exact ak (fun _ => ⟨rfl, fun _ _ => rfl⟩) (ak (by refine fun γ => ⟨rfl, fun w' h => ?_⟩; clear h; go_simp) trivial)
    intro _ w14 H14
    clear H13
    refine rest_at (l := [2]) rfl ?_
    refine rest_store rfl rfl rfl (ex_storeI H14.out.1 0 rfl rfl Tryd.sizeOf22 rfl rfl (Nat.le_of_ble_eq_true rfl)) ?_
    have H15 : Hid (Mm (w14.setCells γ1_0 5 [.int .u64 ((cc S t n (5 + 1) : Nat) : Int)]) [(γ1_0, cells6 Z), (γ1_1, zero6), (g, modx n o s)] ∧ Below w.heap.size w (w14.setCells γ1_0 5 [.int .u64 ((cc S t n (5 + 1) : Nat) : Int)])) := ⟨by
      have h := H14.out.1.put 0 (off := 5) (vs := [.int .u64 ((cc S t n (5 + 1) : Nat) : Int)]) rfl (Nat.le_of_ble_eq_true rfl)
      rw [patch_row5, inn_end E5.out E6.out] at h
      exact h, below_setCells _ o1_0.out _ _ _ H14.out.2⟩
    clear H14
    generalize hgw : World.setCells _ _ _ _ = w15 at H15 ⊢
    clear hgw
    refine rest_nil (block_normal (then_normal ?_))
    refine walk_seqB 1 [.quiet (.int .i64 ((i + 1 : Nat) : Int))] H15 ?ho12 ?he12
    case ho12 => exact ak (by refine fun γ => ⟨rfl, fun w' h => ?_⟩; clear h; go_simp; rw [IntKind.wrap_i64]; omega) trivial
    intro _ w16 H16
    clear H15
    refine rest_at (l := [1]) rfl ?_
    refine rest_set (d := 9) rfl rfl rfl rfl ?_
    simp only [Act.put, sa, sz, ss]
    refine rest_nil (then_normal ?_)
    exact ⟨i + 1, ⟨(slotfn [undef, undef, undef, undef, undef, .int .u64 ((t : Nat) : Int), .int .u64 (wd Y 0), .int .u64 ((cc S t n (5 + 1) : Nat) : Int), .int .i64 ((5 + 1 : Nat) : Int), undef, .bool true, PT γ1_0 0, .int .u64 (wd S 0), PT g 0, PT g 0, PT g 6, .int .u64 (wrapZ (wd n 0)), .int .u64 ((t : Nat) : Int), .tuple #[.int .u64 (wd Y 0), .int .u64 ((cc S t n (0 + 1) : Nat) : Int)], .int .u64 ((t : Nat) : Int), PT g 0, PT g 0, PT g 0, PT g 0, .int .u64 (wd n 0), PT γ1_0 0, .int .u64 (wd S 0), .tuple #[.int .u64 (wd Y 0), .int .u64 ((cc S t n (0 + 1) : Nat) : Int)], .int .u64 (wd Y 0), .int .u64 ((cc S t n (0 + 1) : Nat) : Int), .int .i64 ((5 + 1 : Nat) : Int), .bool false, s2 32, s2 33, s2 34, s2 35, s2 36, s2 37, s2 38, s2 39, s2 40, s2 41, s2 42, s2 43, s2 44, s2 45, s2 46, s2 47, s2 48, s2 49, s2 50, s2 51, .int .u64 ((cc S t n (5 + 1) : Nat) : Int), PT γ1_0 5, .int .i64 ((i + 1 : Nat) : Int)]), rfl, by rw [← HZ.out]; exact H16.out, by omega⟩, by omega⟩
  have hi6 : i = 6 := by omega
  subst hi6
  refine wp_seq ?_
  refine walk_seqB 1 [.quiet (.bool false)] H3 ?ho13 ?he13
  case ho13 => exact ak (by refine fun γ => ⟨rfl, fun w' h => ?_⟩; clear h; go_simp <;> omega) trivial
  intro _ w17 H17
  clear H3
  refine rest0 rfl (then_normal (wp_seq (wp_cond_false rfl ?_)))
  refine wp_exit ?_
  repeat refine then_exit ?_
  refine block_exit ?_
  refine then_normal (wp_seq ?_)
  refine walk_seqB 1 [.quiet (N (drun n (wrapN n) a 6))] H17 ?ho14 ?he14
  case ho14 => exact ak (fun γ => ⟨rfl, fun w' h => ex_load6 h 0 rfl rfl rfl rfl⟩) trivial
  intro _ w18 H18
  clear H17
  refine rest_at (l := [1]) rfl ?_
  refine rest_store rfl rfl rfl (ex_store6 H18.out.1 1 rfl rfl rfl rfl (Nat.le_of_ble_eq_true rfl)) ?_
  have H19 : Hid (Mm (w18.setCells γ1_1 0 (cells6 (drun n (wrapN n) a 6))) [(γ1_0, cells6 (drun n (wrapN n) a 6)), (γ1_1, cells6 (drun n (wrapN n) a 6)), (g, modx n o s)] ∧ Below w.heap.size w (w18.setCells γ1_1 0 (cells6 (drun n (wrapN n) a 6)))) := ⟨H18.out.1.put 1 (off := 0) (vs := cells6 (drun n (wrapN n) a 6)) rfl (Nat.le_of_ble_eq_true rfl), below_setCells _ o1_1.out _ _ _ H18.out.2⟩
  clear H18
  generalize hgw : World.setCells _ _ _ _ = w19 at H19 ⊢
  clear hgw
  refine rest_nil (then_normal (wp_ret ?_))
  repeat (first | refine then_ret ?_ | refine block_ret ?_)
  have c0 := H19.out.1.get 1 rfl 0 rfl
  have c1 := H19.out.1.get 1 rfl 1 rfl
  have c2 := H19.out.1.get 1 rfl 2 rfl
  have c3 := H19.out.1.get 1 rfl 3 rfl
  have c4 := H19.out.1.get 1 rfl 4 rfl
  have c5 := H19.out.1.get 1 rfl 5 rfl
  refine bodyPost_ret (v := N (drun n (wrapN n) a 6)) (by simp [results, Tryd.results95, go_sem, *]) rfl ?_
  exact ⟨rfl, H19.out.2⟩
set_option maxHeartbeats 1000000 in
set_option maxRecDepth 100000 in
theorem wide_1 (g n o s a b d u r : Nat)
    (c0 : ∀ w, Mm w [(g, modx n o s)] → Calls Tryd.prog 69 #[PT g 0] w fun e w' => e = .returned (.bool true) ∧ Below w.heap.size w w')
    (c1 : ∀ w, Mm w [(g, modx n o s)] → Calls Tryd.prog 95 #[PT g 0, N a] w fun e w' => e = .returned (N d) ∧ Below w.heap.size w w')
    (c2 : ∀ w, Calls Tryd.prog 45 #[N b, N d] w fun e w' => e = .returned (.tuple #[N u, .bool false]) ∧ Below w.heap.size w w')
    (c3 : ∀ w, Mm w [(g, modx n o s)] → Calls Tryd.prog 76 #[PT g 0, N u, N s] w fun e w' => e = .returned (N r) ∧ Below w.heap.size w w') (w : World) (hm : Mm w [(g, modx n o s)]) :
    Calls Tryd.prog 84 #[PT g 0, N a, N b] w fun e w' => e = .returned (N r) ∧ Below w.heap.size w w' := by
  have H0 : Hid (_ ∧ _) := ⟨hm, Below.refl w.heap.size w⟩
  clear hm
  have C0 : Hid _ := c0
  have C1 : Hid _ := c1
  have C2 : Hid _ := c2
  have C3 : Hid _ := c3
  clear c0 c1 c2 c3
  go_enter Tryd.func84, Tryd.ntmps84
  refine wp_seq ?_
  refine walk_seqA 3 [.made (cells6 a) 24, .made (cells6 b) 24, .made zero6 24] (sB H0) ?ho1 ?he1
  case ho1 => exact ak (fun γ => ⟨rfl, fun w' => ex_box6 rfl rfl⟩) (ak (fun γ => ⟨rfl, fun w' => ex_box6 rfl rfl⟩) (ak (fun γ => ⟨rfl, fun w' => exec_made6 rfl⟩) trivial))
  intro γ w1 l hM hl
  have H1 : Hid (Mm w1 [(γ 0, cells6 a), (γ 1, cells6 b), (γ 2, zero6), (g, modx n o s)] ∧ _) := growB H0 hM (Nat.le_refl _) hl [0, 1, 2] rfl (by decide)
  have o1_0 := ownB H0 hM (Nat.le_refl _) hl (i := 0) rfl
  have o1_1 := ownB H0 hM (Nat.le_refl _) hl (i := 1) rfl
  have o1_2 := ownB H0 hM (Nat.le_refl _) hl (i := 2) rfl
  clear hM hl l
  generalize γ 0 = γ1_0 at H1 o1_0 ⊢
  generalize γ 1 = γ1_1 at H1 o1_1 ⊢
  generalize γ 2 = γ1_2 at H1 o1_2 ⊢
  clear γ
  refine rest0 rfl (then_normal (wp_seq (wp_seq ?_)))
  refine walk_seqB 3 [.quiet (PT g 0), .call (.bool true), .quiet (.bool false)] H1 ?ho2 ?he2
  case ho2 => exact ak (fun _ => ⟨rfl, fun _ _ => rfl⟩) (ak (fun γ => ⟨rfl, fun w' h => ⟨69, #[PT g 0], exec_call rfl call69 rfl (mpn rfl), C0.out w' (h.one 3 rfl)⟩⟩) (ak (by refine fun γ => ⟨rfl, fun w' h => ?_⟩; clear h; go_simp) trivial))
  intro _ w2 H2
  clear H1
  refine rest0 rfl (then_normal (wp_cond_false rfl ?_))
  refine wp_skip (then_normal (wp_seq ?_))
  refine walk_anyA 11 [.quiet (N b), .quiet (PT g 0), .quiet (N a), .call (N d), .call (.tuple #[N u, .bool false]), .quiet (.tuple #[N u, .bool false]), .quiet (N u), .quiet (.bool false), .made zero6 24, .laid 8 zero6 (cells6 u), .quiet (.bool false)] (sB H2) ?ho3 ?he3 (hL := ?hL3)
  case hL3 => exact ⟨⟨_, rfl⟩, trivial⟩
  case ho3 => exact ak (fun γ => ⟨rfl, fun w' h => ex_load6 h 1 rfl rfl rfl rfl⟩) (ak (fun _ => ⟨rfl, fun _ _ => rfl⟩) (ak (fun γ => ⟨rfl, fun w' h => ex_load6 h 0 rfl rfl rfl rfl⟩) (ak (fun γ => ⟨rfl, fun w' h => ⟨95, #[PT g 0, N a], exec_call rfl call95 rfl (mpn rfl), C1.out w' (h.one 3 rfl)⟩⟩) (ak (fun γ => ⟨rfl, fun w' h => ⟨45, #[N b, N d], exec_call rfl call45 rfl (mpn rfl), C2.out w'⟩⟩) (ak (fun _ => ⟨rfl, fun _ _ => rfl⟩) (ak (by refine fun γ => ⟨rfl, fun w' h => ?_⟩; clear h; go_simp) (ak (by refine fun γ => ⟨rfl, fun w' h => ?_⟩; clear h; go_simp) (ak (fun γ => ⟨rfl, fun w' => exec_made6 rfl⟩) (ak (fun γ => ⟨rfl, rfl, rfl, fun w' h => exec_laid6 h rfl rfl rfl⟩) (ak (fun _ => ⟨rfl, fun _ _ => rfl⟩) trivial))))))))))
  intro γ w3 l hM hl
  have H3 : Hid (Mm w3 [(γ 8, cells6 u), (γ1_0, cells6 a), (γ1_1, cells6 b), (γ1_2, zero6), (g, modx n o s)] ∧ _) := growB H2 hM (Nat.le_refl _) hl [8] rfl (by decide)
  have o3_8 := ownB H2 hM (Nat.le_refl _) hl (i := 8) rfl
  clear hM hl l H2
  generalize γ 8 = γ3_8 at H3 o3_8 ⊢
  clear γ
  refine rest0 rfl (then_normal (wp_seq (wp_seq ?_)))
  refine walk_seqB 1 [.quiet (.bool false)] H3 ?ho4 ?he4
  case ho4 => exact ak (fun _ => ⟨rfl, fun _ _ => rfl⟩) trivial
  intro _ w4 H4
  clear H3
  refine rest0 rfl (then_normal (wp_cond_false rfl ?_))
  refine wp_skip (then_normal (wp_seq ?_))
  refine walk_anyB 7 [.quiet (PT g 0), .quiet (N u), .quiet (PT g 0), .quiet (PT g 0), .quiet (PT g 13), .quiet (N s), .call (N r)] H4 ?ho5 ?he5
  case ho5 => exact ak (fun _ => ⟨rfl, fun _ _ => rfl⟩) (ak (fun γ => ⟨rfl, fun w' h => ex_load6 h 0 rfl rfl rfl rfl⟩) (ak (fun _ => ⟨rfl, fun _ _ => rfl⟩) (ak (by refine fun γ => ⟨rfl, fun w' h => ?_⟩; clear h; go_simp) (ak (by refine fun γ => ⟨rfl, fun w' h => ?_⟩; clear h; go_simp) (ak (fun γ => ⟨rfl, fun w' h => ex_load6 h 4 rfl rfl rfl rfl⟩) (ak (fun γ => ⟨rfl, fun w' h => ⟨76, #[PT g 0, N u, N s], exec_call rfl call76 rfl (mpn rfl), C3.out w' (h.one 4 rfl)⟩⟩) trivial))))))
  intro _ w5 H5
  clear H4
  refine rest_at (l := [7]) rfl ?_
  refine rest_store rfl rfl rfl (ex_store6 H5.out.1 3 rfl rfl rfl rfl (Nat.le_of_ble_eq_true rfl)) ?_
  have H6 : Hid (Mm (w5.setCells γ1_2 0 (cells6 r)) [(γ3_8, cells6 u), (γ1_0, cells6 a), (γ1_1, cells6 b), (γ1_2, cells6 r), (g, modx n o s)] ∧ Below w.heap.size w (w5.setCells γ1_2 0 (cells6 r))) := ⟨H5.out.1.put 3 (off := 0) (vs := cells6 r) rfl (Nat.le_of_ble_eq_true rfl), below_setCells _ o1_2.out _ _ _ H5.out.2⟩
  clear H5
  generalize hgw : World.setCells _ _ _ _ = w6 at H6 ⊢
  clear hgw
  refine rest_nil (then_normal (wp_ret ?_))
  repeat (first | refine then_ret ?_ | refine block_ret ?_)
  have c0 := H6.out.1.get 3 rfl 0 rfl
  have c1 := H6.out.1.get 3 rfl 1 rfl
  have c2 := H6.out.1.get 3 rfl 2 rfl
  have c3 := H6.out.1.get 3 rfl 3 rfl
  have c4 := H6.out.1.get 3 rfl 4 rfl
  have c5 := H6.out.1.get 3 rfl 5 rfl
  refine bodyPost_ret (v := N r) (by simp [results, Tryd.results84, go_sem, *]) rfl ?_
  exact ⟨rfl, H6.out.2⟩
set_option maxHeartbeats 1000000 in
set_option maxRecDepth 100000 in
theorem wide_2 (g n o s a b d u r x : Nat) (cx : Bool)
    (c0 : ∀ w, Mm w [(g, modx n o s)] → Calls Tryd.prog 69 #[PT g 0] w fun e w' => e = .returned (.bool true) ∧ Below w.heap.size w w')
    (c1 : ∀ w, Mm w [(g, modx n o s)] → Calls Tryd.prog 95 #[PT g 0, N a] w fun e w' => e = .returned (N d) ∧ Below w.heap.size w w')
    (c2 : ∀ w, Calls Tryd.prog 45 #[N b, N d] w fun e w' => e = .returned (.tuple #[N u, .bool true]) ∧ Below w.heap.size w w')
    (c3 : ∀ w, Calls Tryd.prog 44 #[N u, N n] w fun e w' => e = .returned (.tuple #[N x, .bool cx]) ∧ Below w.heap.size w w')
    (c4 : ∀ w, Mm w [(g, modx n o s)] → Calls Tryd.prog 76 #[PT g 0, N x, N s] w fun e w' => e = .returned (N r) ∧ Below w.heap.size w w') (w : World) (hm : Mm w [(g, modx n o s)]) :
    Calls Tryd.prog 84 #[PT g 0, N a, N b] w fun e w' => e = .returned (N r) ∧ Below w.heap.size w w' := by
  have H0 : Hid (_ ∧ _) := ⟨hm, Below.refl w.heap.size w⟩
  clear hm
  have C0 : Hid _ := c0
  have C1 : Hid _ := c1
  have C2 : Hid _ := c2
  have C3 : Hid _ := c3
  have C4 : Hid _ := c4
  clear c0 c1 c2 c3 c4
  go_enter Tryd.func84, Tryd.ntmps84
  refine wp_seq ?_
  refine walk_seqA 3 [.made (cells6 a) 24, .made (cells6 b) 24, .made zero6 24] (sB H0) ?ho1 ?he1
  case ho1 => exact ak (fun γ => ⟨rfl, fun w' => ex_box6 rfl rfl⟩) (ak (fun γ => ⟨rfl, fun w' => ex_box6 rfl rfl⟩) (ak (fun γ => ⟨rfl, fun w' => exec_made6 rfl⟩) trivial))
  intro γ w1 l hM hl
  have H1 : Hid (Mm w1 [(γ 0, cells6 a), (γ 1, cells6 b), (γ 2, zero6), (g, modx n o s)] ∧ _) := growB H0 hM (Nat.le_refl _) hl [0, 1, 2] rfl (by decide)
  have o1_0 := ownB H0 hM (Nat.le_refl _) hl (i := 0) rfl
  have o1_1 := ownB H0 hM (Nat.le_refl _) hl (i := 1) rfl
  have o1_2 := ownB H0 hM (Nat.le_refl _) hl (i := 2) rfl
  clear hM hl l
  generalize γ 0 = γ1_0 at H1 o1_0 ⊢
  generalize γ 1 = γ1_1 at H1 o1_1 ⊢
  generalize γ 2 = γ1_2 at H1 o1_2 ⊢
  clear γ
  refine rest0 rfl (then_normal (wp_seq (wp_seq ?_)))
  refine walk_seqB 3 [.quiet (PT g 0), .call (.bool true), .quiet (.bool false)] H1 ?ho2 ?he2
  case ho2 => exact ak (fun _ => ⟨rfl, fun _ _ => rfl⟩) (ak (fun γ => ⟨rfl, fun w' h => ⟨69, #[PT g 0], exec_call rfl call69 rfl (mpn rfl), C0.out w' (h.one 3 rfl)⟩⟩) (ak (by refine fun γ => ⟨rfl, fun w' h => ?_⟩; clear h; go_simp) trivial))
  intro _ w2 H2
  clear H1
  refine rest0 rfl (then_normal (wp_cond_false rfl ?_))
  refine wp_skip (then_normal (wp_seq ?_))
  refine walk_anyA 11 [.quiet (N b), .quiet (PT g 0), .quiet (N a), .call (N d), .call (.tuple #[N u, .bool true]), .quiet (.tuple #[N u, .bool true]), .quiet (N u), .quiet (.bool true), .made zero6 24, .laid 8 zero6 (cells6 u), .quiet (.bool true)] (sB H2) ?ho3 ?he3 (hL := ?hL3)
  case hL3 => exact ⟨⟨_, rfl⟩, trivial⟩
  case ho3 => exact ak (fun γ => ⟨rfl, fun w' h => ex_load6 h 1 rfl rfl rfl rfl⟩) (ak (fun _ => ⟨rfl, fun _ _ => rfl⟩) (ak (fun γ => ⟨rfl, fun w' h => ex_load6 h 0 rfl rfl rfl rfl⟩) (ak (fun γ => ⟨rfl, fun w' h => ⟨95, #[PT g 0, N a], exec_call rfl call95 rfl (mpn rfl), C1.out w' (h.one 3 rfl)⟩⟩) (ak (fun γ => ⟨rfl, fun w' h => ⟨45, #[N b, N d], exec_call rfl call45 rfl (mpn rfl), C2.out w'⟩⟩) (ak (fun _ => ⟨rfl, fun _ _ => rfl⟩) (ak (by refine fun γ => ⟨rfl, fun w' h => ?_⟩; clear h; go_simp) (ak (by refine fun γ => ⟨rfl, fun w' h => ?_⟩; clear h; go_simp) (ak (fun γ => ⟨rfl, fun w' => exec_made6 rfl⟩) (ak (fun γ => ⟨rfl, rfl, rfl, fun w' h => exec_laid6 h rfl rfl rfl⟩) (ak (fun _ => ⟨rfl, fun _ _ => rfl⟩) trivial))))))))))
  intro γ w3 l hM hl
  have H3 : Hid (Mm w3 [(γ 8, cells6 u), (γ1_0, cells6 a), (γ1_1, cells6 b), (γ1_2, zero6), (g, modx n o s)] ∧ _) := growB H2 hM (Nat.le_refl _) hl [8] rfl (by decide)
  have o3_8 := ownB H2 hM (Nat.le_refl _) hl (i := 8) rfl
  clear hM hl l H2
  generalize γ 8 = γ3_8 at H3 o3_8 ⊢
  clear γ
  refine rest0 rfl (then_normal (wp_seq (wp_seq ?_)))
  refine walk_seqB 1 [.quiet (.bool true)] H3 ?ho4 ?he4
  case ho4 => exact ak (fun _ => ⟨rfl, fun _ _ => rfl⟩) trivial
  intro _ w4 H4
  clear H3
  refine rest0 rfl (then_normal (wp_cond_true rfl ?_))
  refine walk_put (by kernel_rfl) 9 [8] [.quiet (N u), .quiet (PT g 0), .quiet (PT g 0), .quiet (PT g 0), .quiet (N n), .call (.tuple #[N x, .bool cx]), .quiet (.tuple #[N x, .bool cx]), .quiet (N x), .quiet (.bool cx)] _ ?pre5 ?F5 _ ?hpre5 (fun γ => ?hF5) (by kernel_rfl) rfl trivial (sB H4) ?ho5 ?hla5 ?he5
  case hpre5 => simp only [tk, tz]; rfl
  case hF5 => simp only [fill, Kind.val, Act.put, sa, sz, ss]; rfl
  case ho5 =>
    refine ak (fun γ => ⟨rfl, fun w' h => ex_load6 h 0 rfl rfl rfl rfl⟩) ?_
    refine ak (fun _ => ⟨rfl, fun _ _ => rfl⟩) ?_
    refine ak (by refine fun γ => ⟨rfl, fun w' h => ?_⟩; clear h; go_simp) ?_
    refine ak (by refine fun γ => ⟨rfl, fun w' h => ?_⟩; clear h; go_simp) ?_
    refine ak (fun γ => ⟨rfl, fun w' h => ex_load6 h 4 rfl rfl rfl rfl⟩) ?_
    refine ak (fun γ => ⟨rfl, fun w' h => ⟨44, #[N u, N n], exec_call rfl call44 rfl (mpn rfl), C3.out w'⟩⟩) ?_
    refine ak (fun _ => ⟨rfl, fun _ _ => rfl⟩) ?_
    refine ak (by refine fun γ => ⟨rfl, fun w' h => ?_⟩; clear h; go_simp) ?_
    refine ak (by refine fun γ => ⟨rfl, fun w' h => ?_⟩; clear h; go_simp) ?_
    exact trivial
  case hla5 => exact ⟨⟨_, _, rfl, rfl, fun γ => ⟨rfl, fun w' => by first | rfl | go_simp⟩⟩, trivial⟩
  intro γ w5 l hM hl
  have H5 := keepB H4 hM.below
  clear hM hl l H4 γ
  refine ⟨_, ex_store6 H5.out.1 0 rfl rfl rfl rfl (Nat.le_of_ble_eq_true rfl), ?_⟩
  have H6 : Hid (Mm (w5.setCells γ3_8 0 (cells6 x)) [(γ3_8, cells6 x), (γ1_0, cells6 a), (γ1_1, cells6 b), (γ1_2, zero6), (g, modx n o s)] ∧ Below w.heap.size w (w5.setCells γ3_8 0 (cells6 x))) := ⟨H5.out.1.put 0 (off := 0) (vs := cells6 x) rfl (Nat.le_of_ble_eq_true rfl), below_setCells _ o3_8.out _ _ _ H5.out.2⟩
  clear H5
  generalize hgw : World.setCells _ _ _ _ = w6 at H6 ⊢
  clear hgw
  refine rest0 rfl (then_normal (wp_seq ?_))
  refine walk_anyB 7 [.quiet (PT g 0), .quiet (N x), .quiet (PT g 0), .quiet (PT g 0), .quiet (PT g 13), .quiet (N s), .call (N r)] H6 ?ho6 ?he6
  case ho6 => exact ak (fun _ => ⟨rfl, fun _ _ => rfl⟩) (ak (fun γ => ⟨rfl, fun w' h => ex_load6 h 0 rfl rfl rfl rfl⟩) (ak (fun _ => ⟨rfl, fun _ _ => rfl⟩) (ak (by refine fun γ => ⟨rfl, fun w' h => ?_⟩; clear h; go_simp) (ak (by refine fun γ => ⟨rfl, fun w' h => ?_⟩; clear h; go_simp) (ak (fun γ => ⟨rfl, fun w' h => ex_load6 h 4 rfl rfl rfl rfl⟩) (ak (fun γ => ⟨rfl, fun w' h => ⟨76, #[PT g 0, N x, N s], exec_call rfl call76 rfl (mpn rfl), C4.out w' (h.one 4 rfl)⟩⟩) trivial))))))
  intro _ w7 H7
  clear H6
  refine rest_at (l := [7]) rfl ?_
  refine rest_store rfl rfl rfl (ex_store6 H7.out.1 3 rfl rfl rfl rfl (Nat.le_of_ble_eq_true rfl)) ?_
  have H8 : Hid (Mm (w7.setCells γ1_2 0 (cells6 r)) [(γ3_8, cells6 x), (γ1_0, cells6 a), (γ1_1, cells6 b), (γ1_2, cells6 r), (g, modx n o s)] ∧ Below w.heap.size w (w7.setCells γ1_2 0 (cells6 r))) := ⟨H7.out.1.put 3 (off := 0) (vs := cells6 r) rfl (Nat.le_of_ble_eq_true rfl), below_setCells _ o1_2.out _ _ _ H7.out.2⟩
  clear H7
  generalize hgw : World.setCells _ _ _ _ = w8 at H8 ⊢
  clear hgw
  refine rest_nil (then_normal (wp_ret ?_))
  repeat (first | refine then_ret ?_ | refine block_ret ?_)
  have c0 := H8.out.1.get 3 rfl 0 rfl
  have c1 := H8.out.1.get 3 rfl 1 rfl
  have c2 := H8.out.1.get 3 rfl 2 rfl
  have c3 := H8.out.1.get 3 rfl 3 rfl
  have c4 := H8.out.1.get 3 rfl 4 rfl
  have c5 := H8.out.1.get 3 rfl 5 rfl
  refine bodyPost_ret (v := N r) (by simp [results, Tryd.results84, go_sem, *]) rfl ?_
  exact ⟨rfl, H8.out.2⟩
theorem wideM {n : Nat} (ok : Ok n) {a b x : Nat} (hx : Cg n x (b + drun n (wrapN n) a 6)) : mont n x (big * big % n) = (a + b * big) % n := by
  rw [mont_big ok]
  have h1 := drun_cg n (wrapN n) a (wrapN_spec n ok.odd) 6
  rw [← big_eq] at h1
  have h2 := hx.mulR big
  refine h2.trans ?_
  rw [Nat.add_mul, Nat.add_comm]
  exact h1.addR _
theorem wide_any {g n : Nat} (ok : Ok n) {a b : Nat} (ha : a < big) (hb : b < big) (w : World) (hm : Mm w [(g, modc n)]) : Calls Tryd.prog 84 #[PT g 0, N a, N b] w fun e w' => e = .returned (N ((a + b * big) % n)) ∧ Below w.heap.size w w' := by
  have hd := drun_bd n (wrapN n) a 6
  rw [← big_eq, Nat.div_eq_of_lt ha, Nat.zero_add] at hd
  have cd := fun w hm => down_any g n (big % n) (big * big % n) a ok ha w hm
  have hM := fun x hx => wideM (x := x) (a := a) (b := b) ok hx
  have hdl : drun n (wrapN n) a 6 < big := by have := ok.big; omega
  generalize drun n (wrapN n) a 6 = d at hd cd hM hdl
  have c := fun w => add_any b d hb hdl w
  have hsq : big * big % n < n := Nat.mod_lt _ ok.pos
  have h3 := ok.top
  by_cases h : big ≤ b + d
  · rw [decide_eq_true h, Nat.mod_eq_sub_mod h, Nat.mod_eq_of_lt (show b + d - big < big by omega)] at c
    have cs := fun w => sub_any (b + d - big) n (by omega) ok.big w
    have e : (b + d - big + big - n) % big = b + d - n := by
      rw [show b + d - big + big - n = b + d - n by omega, Nat.mod_eq_of_lt (by omega)]
    rw [e] at cs
    have cp := fun w hm => product_any g n (big % n) (big * big % n) (b + d - n) (big * big % n) ok (by omega) hsq w hm
    rw [hM (b + d - n) (by
      have : b + d = b + d - n + 1 * n := by omega
      rw [this]
      unfold Cg
      rw [Nat.add_mul_mod_self_right, show b + d - n + 1 * n - n = b + d - n by omega])] at cp
    exact wide_2 g n _ _ a b d _ _ _ _ (fun w hm => madeC ok w hm) cd c cs cp w hm
  · rw [decide_eq_false h, Nat.mod_eq_of_lt (show b + d < big by omega)] at c
    have cp := fun w hm => product_any g n (big % n) (big * big % n) (b + d) (big * big % n) ok (by omega) hsq w hm
    rw [hM (b + d) (Cg.refl _ _)] at cp
    exact wide_1 g n _ _ a b d _ _ (fun w hm => madeC ok w hm) cd c cp w hm
end Rg
end Go.Proofs.YtgdlhgbdigpfhaaDoor
end
section
namespace Go.Proofs.YtgdlhgbdigpfhaaDoor
open Go.RowKit
namespace Rg
set_option maxHeartbeats 1000000 in
set_option maxRecDepth 100000 in
theorem root_1 (g n o s a : Nat) (hr : (wd n 0).tmod 4 = 1)
    (c0 : ∀ w, Mm w [(g, modx n o s)] → Calls Tryd.prog 69 #[PT g 0] w fun e w' => e = .returned (.bool true) ∧ Below w.heap.size w w') (w : World) (hm : Mm w [(g, modx n o s)]) :
    Calls Tryd.prog 50 #[PT g 0, N a] w fun e w' => e = .returned (.tuple #[N 0, .int .i64 2]) ∧ Below w.heap.size w w' := by
  have H0 : Hid (_ ∧ _) := ⟨hm, Below.refl w.heap.size w⟩
  clear hm
  have C0 : Hid _ := c0
  clear c0
  go_enter Tryd.func50, Tryd.ntmps50
  refine wp_seq ?_
  refine walk_seqA 3 [.made (cells6 a) 24, .made zero6 24, .quiet (.int .i64 0)] (sB H0) ?ho1 ?he1
  case ho1 => exact ak (fun γ => ⟨rfl, fun w' => ex_box6 rfl rfl⟩) (ak (fun γ => ⟨rfl, fun w' => exec_made6 rfl⟩) (ak (fun _ => ⟨rfl, fun _ _ => rfl⟩) trivial))
  intro γ w1 l hM hl
  have H1 : Hid (Mm w1 [(γ 0, cells6 a), (γ 1, zero6), (g, modx n o s)] ∧ _) := growB H0 hM (Nat.le_refl _) hl [0, 1] rfl (by decide)
  have o1_0 := ownB H0 hM (Nat.le_refl _) hl (i := 0) rfl
  have o1_1 := ownB H0 hM (Nat.le_refl _) hl (i := 1) rfl
  clear hM hl l
  generalize γ 0 = γ1_0 at H1 o1_0 ⊢
  generalize γ 1 = γ1_1 at H1 o1_1 ⊢
  clear γ
  refine rest0 rfl (then_normal (wp_seq (wp_seq ?_)))
  refine walk_seqB 3 [.quiet (PT g 0), .call (.bool true), .quiet (.bool false)] H1 ?ho2 ?he2
  case ho2 => exact ak (fun _ => ⟨rfl, fun _ _ => rfl⟩) (ak (fun γ => ⟨rfl, fun w' h => ⟨69, #[PT g 0], exec_call rfl call69 rfl (mpn rfl), C0.out w' (h.one 2 rfl)⟩⟩) (ak (by refine fun γ => ⟨rfl, fun w' h => ?_⟩; clear h; go_simp) trivial))
  intro _ w2 H2
  clear H1
  refine rest0 rfl (then_normal (wp_cond_false rfl ?_))
  refine wp_skip (then_normal ?_)
  refine wp_seq (wp_seq ?_)
  refine walk_seqB 7 [.quiet (PT g 0), .quiet (PT g 0), .quiet (PT g 0), .quiet (PT g 0), .quiet (.int .u64 (wd n 0)), .quiet (.int .u64 1), .quiet (.bool true)] H2 ?ho3 ?he3
  case ho3 => exact ak (fun _ => ⟨rfl, fun _ _ => rfl⟩) (ak (by refine fun γ => ⟨rfl, fun w' h => ?_⟩; clear h; go_simp) (ak (by refine fun γ => ⟨rfl, fun w' h => ?_⟩; clear h; go_simp) (ak (by refine fun γ => ⟨rfl, fun w' h => ?_⟩; clear h; go_simp) (ak (fun γ => ⟨rfl, fun w' h => ex_load1 h 2 rfl rfl rfl rfl⟩) (ak (by refine fun γ => ⟨rfl, fun w' h => ?_⟩; clear h; go_simp) (ak (by refine fun γ => ⟨rfl, fun w' h => ?_⟩; clear h; go_simp) trivial))))))
  intro _ w3 H3
  clear H2
  refine rest0 rfl (then_normal (wp_cond_true rfl (wp_seq ?_)))
  refine walk_seqB 1 [.quiet (N 0)] H3 ?ho4 ?he4
  case ho4 => exact ak (by refine fun γ => ⟨rfl, fun w' h => ?_⟩; clear h; exact ex_zero6 rfl) trivial
  intro _ w4 H4
  clear H3
  refine rest_at (l := [1, 2]) rfl ?_
  refine rest_store rfl rfl rfl (ex_store6 H4.out.1 1 rfl rfl rfl rfl (Nat.le_of_ble_eq_true rfl)) ?_
  have H5 : Hid (Mm (w4.setCells γ1_1 0 (cells6 0)) [(γ1_0, cells6 a), (γ1_1, cells6 0), (g, modx n o s)] ∧ Below w.heap.size w (w4.setCells γ1_1 0 (cells6 0))) := ⟨H4.out.1.put 1 (off := 0) (vs := cells6 0) rfl (Nat.le_of_ble_eq_true rfl), below_setCells _ o1_1.out _ _ _ H4.out.2⟩
  clear H4
  generalize hgw : World.setCells _ _ _ _ = w5 at H5 ⊢
  clear hgw
  refine rest_set (d := 5) rfl rfl rfl rfl ?_
  simp only [Act.put, sa, sz, ss]
  refine rest_nil (then_normal (wp_ret ?_))
  repeat (first | refine then_ret ?_ | refine block_ret ?_)
  have c0 := H5.out.1.get 1 rfl 0 rfl
  have c1 := H5.out.1.get 1 rfl 1 rfl
  have c2 := H5.out.1.get 1 rfl 2 rfl
  have c3 := H5.out.1.get 1 rfl 3 rfl
  have c4 := H5.out.1.get 1 rfl 4 rfl
  have c5 := H5.out.1.get 1 rfl 5 rfl
  refine bodyPost_ret (v := .tuple #[N 0, .int .i64 2]) (by simp [results, Tryd.results50, go_sem, *]) rfl ?_
  exact ⟨rfl, H5.out.2⟩
set_option maxHeartbeats 1000000 in
set_option maxRecDepth 100000 in
theorem root_2 (g n o s a x ee c q r : Nat) (hr : (wd n 0).tmod 4 = 3) (cx : Bool) (e1 : ∀ w, (Op.equalIn 10000 24 (N q) (N r)).run Tryd.prog w = .ok false w)
    (c0 : ∀ w, Mm w [(g, modx n o s)] → Calls Tryd.prog 69 #[PT g 0] w fun e w' => e = .returned (.bool true) ∧ Below w.heap.size w w')
    (c1 : ∀ w, Calls Tryd.prog 20 #[.int .u64 1] w fun e w' => e = .returned (N 1) ∧ Below w.heap.size w w')
    (c2 : ∀ w, Calls Tryd.prog 45 #[N n, N 1] w fun e w' => e = .returned (.tuple #[N x, .bool cx]) ∧ Below w.heap.size w w')
    (c3 : ∀ w, Calls Tryd.prog 78 #[N x, .int .i64 (-2)] w fun e w' => e = .returned (N ee) ∧ Below w.heap.size w w')
    (c4 : ∀ w, Mm w [(g, modx n o s)] → Calls Tryd.prog 77 #[PT g 0, N a, N ee] w fun e w' => e = .returned (N c) ∧ Below w.heap.size w w')
    (c5 : ∀ w, Mm w [(g, modx n o s)] → Calls Tryd.prog 48 #[PT g 0, N c, N c] w fun e w' => e = .returned (N q) ∧ Below w.heap.size w w')
    (c6 : ∀ w, Mm w [(g, modx n o s)] → Calls Tryd.prog 70 #[PT g 0, N a] w fun e w' => e = .returned (N r) ∧ Below w.heap.size w w') (w : World) (hm : Mm w [(g, modx n o s)]) :
    Calls Tryd.prog 50 #[PT g 0, N a] w fun e w' => e = .returned (.tuple #[N 0, .int .i64 6]) ∧ Below w.heap.size w w' := by
  have H0 : Hid (_ ∧ _) := ⟨hm, Below.refl w.heap.size w⟩
  clear hm
  have C0 : Hid _ := c0
  have C1 : Hid _ := c1
  have C2 : Hid _ := c2
  have C3 : Hid _ := c3
  have C4 : Hid _ := c4
  have C5 : Hid _ := c5
  have C6 : Hid _ := c6
  clear c0 c1 c2 c3 c4 c5 c6
  go_enter Tryd.func50, Tryd.ntmps50
  refine wp_seq ?_
  refine walk_seqA 3 [.made (cells6 a) 24, .made zero6 24, .quiet (.int .i64 0)] (sB H0) ?ho1 ?he1
  case ho1 => exact ak (fun γ => ⟨rfl, fun w' => ex_box6 rfl rfl⟩) (ak (fun γ => ⟨rfl, fun w' => exec_made6 rfl⟩) (ak (fun _ => ⟨rfl, fun _ _ => rfl⟩) trivial))
  intro γ w1 l hM hl
  have H1 : Hid (Mm w1 [(γ 0, cells6 a), (γ 1, zero6), (g, modx n o s)] ∧ _) := growB H0 hM (Nat.le_refl _) hl [0, 1] rfl (by decide)
  have o1_0 := ownB H0 hM (Nat.le_refl _) hl (i := 0) rfl
  have o1_1 := ownB H0 hM (Nat.le_refl _) hl (i := 1) rfl
  clear hM hl l
  generalize γ 0 = γ1_0 at H1 o1_0 ⊢
  generalize γ 1 = γ1_1 at H1 o1_1 ⊢
  clear γ
  refine rest0 rfl (then_normal (wp_seq (wp_seq ?_)))
  refine walk_seqB 3 [.quiet (PT g 0), .call (.bool true), .quiet (.bool false)] H1 ?ho2 ?he2
  case ho2 => exact ak (fun _ => ⟨rfl, fun _ _ => rfl⟩) (ak (fun γ => ⟨rfl, fun w' h => ⟨69, #[PT g 0], exec_call rfl call69 rfl (mpn rfl), C0.out w' (h.one 2 rfl)⟩⟩) (ak (by refine fun γ => ⟨rfl, fun w' h => ?_⟩; clear h; go_simp) trivial))
  intro _ w2 H2
  clear H1
  refine rest0 rfl (then_normal (wp_cond_false rfl ?_))
  refine wp_skip (then_normal ?_)
  refine wp_seq (wp_seq ?_)
  refine walk_seqB 7 [.quiet (PT g 0), .quiet (PT g 0), .quiet (PT g 0), .quiet (PT g 0), .quiet (.int .u64 (wd n 0)), .quiet (.int .u64 3), .quiet (.bool false)] H2 ?ho3 ?he3
  case ho3 => exact ak (fun _ => ⟨rfl, fun _ _ => rfl⟩) (ak (by refine fun γ => ⟨rfl, fun w' h => ?_⟩; clear h; go_simp) (ak (by refine fun γ => ⟨rfl, fun w' h => ?_⟩; clear h; go_simp) (ak (by refine fun γ => ⟨rfl, fun w' h => ?_⟩; clear h; go_simp) (ak (fun γ => ⟨rfl, fun w' h => ex_load1 h 2 rfl rfl rfl rfl⟩) (ak (by refine fun γ => ⟨rfl, fun w' h => ?_⟩; clear h; go_simp) (ak (by refine fun γ => ⟨rfl, fun w' h => ?_⟩; clear h; go_simp) trivial))))))
  intro _ w3 H3
  clear H2
  refine rest0 rfl (then_normal (wp_cond_false rfl ?_))
  refine wp_skip (then_normal (wp_seq ?_))
  refine walk_anyA 12 [.quiet (PT g 0), .quiet (PT g 0), .quiet (PT g 0), .quiet (N n), .call (N 1), .call (.tuple #[N x, .bool cx]), .quiet (.tuple #[N x, .bool cx]), .quiet (N x), .quiet (.bool cx), .made zero6 24, .laid 9 zero6 (cells6 x), .quiet (.bool cx)] (sB H3) ?ho4 ?he4 (hL := ?hL4)
  case hL4 => exact ⟨⟨_, rfl⟩, trivial⟩
  case ho4 => exact ak (fun _ => ⟨rfl, fun _ _ => rfl⟩) (ak (by refine fun γ => ⟨rfl, fun w' h => ?_⟩; clear h; go_simp) (ak (by refine fun γ => ⟨rfl, fun w' h => ?_⟩; clear h; go_simp) (ak (fun γ => ⟨rfl, fun w' h => ex_load6 h 2 rfl rfl rfl rfl⟩) (ak (fun γ => ⟨rfl, fun w' h => ⟨20, #[.int .u64 1], exec_call rfl call20 rfl (mpn rfl), C1.out w'⟩⟩) (ak (fun γ => ⟨rfl, fun w' h => ⟨45, #[N n, N 1], exec_call rfl call45 rfl (mpn rfl), C2.out w'⟩⟩) (ak (fun _ => ⟨rfl, fun _ _ => rfl⟩) (ak (by refine fun γ => ⟨rfl, fun w' h => ?_⟩; clear h; go_simp) (ak (by refine fun γ => ⟨rfl, fun w' h => ?_⟩; clear h; go_simp) (ak (fun γ => ⟨rfl, fun w' => exec_made6 rfl⟩) (ak (fun γ => ⟨rfl, rfl, rfl, fun w' h => exec_laid6 h rfl rfl rfl⟩) (ak (fun _ => ⟨rfl, fun _ _ => rfl⟩) trivial)))))))))))
  intro γ w4 l hM hl
  have H4 : Hid (Mm w4 [(γ 9, cells6 x), (γ1_0, cells6 a), (γ1_1, zero6), (g, modx n o s)] ∧ _) := growB H3 hM (Nat.le_refl _) hl [9] rfl (by decide)
  have o4_9 := ownB H3 hM (Nat.le_refl _) hl (i := 9) rfl
  clear hM hl l H3
  generalize γ 9 = γ4_9 at H4 o4_9 ⊢
  clear γ
  refine rest0 rfl (then_normal (wp_seq ?_))
  refine walk_anyA 7 [.quiet (PT g 0), .quiet (N a), .quiet (N x), .call (N ee), .call (N c), .made zero6 24, .laid 5 zero6 (cells6 c)] (sB H4) ?ho5 ?he5 (hL := ?hL5)
  case hL5 => exact ⟨⟨_, rfl⟩, trivial⟩
  case ho5 => exact ak (fun _ => ⟨rfl, fun _ _ => rfl⟩) (ak (fun γ => ⟨rfl, fun w' h => ex_load6 h 1 rfl rfl rfl rfl⟩) (ak (fun γ => ⟨rfl, fun w' h => ex_load6 h 0 rfl rfl rfl rfl⟩) (ak (fun γ => ⟨rfl, fun w' h => ⟨78, #[N x, .int .i64 (-2)], exec_call rfl call78 rfl (mpn rfl), C3.out w'⟩⟩) (ak (fun γ => ⟨rfl, fun w' h => ⟨77, #[PT g 0, N a, N ee], exec_call rfl call77 rfl (mpn rfl), C4.out w' (h.one 3 rfl)⟩⟩) (ak (fun γ => ⟨rfl, fun w' => exec_made6 rfl⟩) (ak (fun γ => ⟨rfl, rfl, rfl, fun w' h => exec_laid6 h rfl rfl rfl⟩) trivial))))))
  intro γ w5 l hM hl
  have H5 : Hid (Mm w5 [(γ 5, cells6 c), (γ4_9, cells6 x), (γ1_0, cells6 a), (γ1_1, zero6), (g, modx n o s)] ∧ _) := growB H4 hM (Nat.le_refl _) hl [5] rfl (by decide)
  have o5_5 := ownB H4 hM (Nat.le_refl _) hl (i := 5) rfl
  clear hM hl l H4
  generalize γ 5 = γ5_5 at H5 o5_5 ⊢
  clear γ
  refine rest0 rfl (then_normal (wp_seq (wp_seq ?_)))
  refine walk_anyB 8 [.quiet (PT g 0), .quiet (N c), .quiet (N c), .call (N q), .quiet (PT g 0), .quiet (N a), .call (N r), .quiet (.bool true)] H5 ?ho6 ?he6
  case ho6 => exact ak (fun _ => ⟨rfl, fun _ _ => rfl⟩) (ak (fun γ => ⟨rfl, fun w' h => ex_load6 h 0 rfl rfl rfl rfl⟩) (ak (fun γ => ⟨rfl, fun w' h => ex_load6 h 0 rfl rfl rfl rfl⟩) (ak (fun γ => ⟨rfl, fun w' h => ⟨48, #[PT g 0, N c, N c], exec_call rfl call48 rfl (mpn rfl), C5.out w' (h.one 4 rfl)⟩⟩) (ak (fun _ => ⟨rfl, fun _ _ => rfl⟩) (ak (fun γ => ⟨rfl, fun w' h => ex_load6 h 2 rfl rfl rfl rfl⟩) (ak (fun γ => ⟨rfl, fun w' h => ⟨70, #[PT g 0, N a], exec_call rfl call70 rfl (mpn rfl), C6.out w' (h.one 4 rfl)⟩⟩) (ak (fun γ => ⟨rfl, fun w' _ => exec_neq6 e1 rfl rfl rfl⟩) trivial)))))))
  intro _ w6 H6
  clear H5
  refine rest0 rfl (then_normal (wp_cond_true rfl (wp_seq ?_)))
  refine walk_seqB 1 [.quiet (N 0)] H6 ?ho7 ?he7
  case ho7 => exact ak (by refine fun γ => ⟨rfl, fun w' h => ?_⟩; clear h; exact ex_zero6 rfl) trivial
  intro _ w7 H7
  clear H6
  refine rest_at (l := [1, 2]) rfl ?_
  refine rest_store rfl rfl rfl (ex_store6 H7.out.1 3 rfl rfl rfl rfl (Nat.le_of_ble_eq_true rfl)) ?_
  have H8 : Hid (Mm (w7.setCells γ1_1 0 (cells6 0)) [(γ5_5, cells6 c), (γ4_9, cells6 x), (γ1_0, cells6 a), (γ1_1, cells6 0), (g, modx n o s)] ∧ Below w.heap.size w (w7.setCells γ1_1 0 (cells6 0))) := ⟨H7.out.1.put 3 (off := 0) (vs := cells6 0) rfl (Nat.le_of_ble_eq_true rfl), below_setCells _ o1_1.out _ _ _ H7.out.2⟩
  clear H7
  generalize hgw : World.setCells _ _ _ _ = w8 at H8 ⊢
  clear hgw
  refine rest_set (d := 5) rfl rfl rfl rfl ?_
  simp only [Act.put, sa, sz, ss]
  refine rest_nil (then_normal (wp_ret ?_))
  repeat (first | refine then_ret ?_ | refine block_ret ?_)
  have c0 := H8.out.1.get 3 rfl 0 rfl
  have c1 := H8.out.1.get 3 rfl 1 rfl
  have c2 := H8.out.1.get 3 rfl 2 rfl
  have c3 := H8.out.1.get 3 rfl 3 rfl
  have c4 := H8.out.1.get 3 rfl 4 rfl
  have c5 := H8.out.1.get 3 rfl 5 rfl
  refine bodyPost_ret (v := .tuple #[N 0, .int .i64 6]) (by simp [results, Tryd.results50, go_sem, *]) rfl ?_
  exact ⟨rfl, H8.out.2⟩
set_option maxHeartbeats 1000000 in
set_option maxRecDepth 100000 in
theorem root_3 (g n o s a x ee c q r d : Nat) (hr : (wd n 0).tmod 4 = 3) (cx : Bool) (e1 : ∀ w, (Op.equalIn 10000 24 (N q) (N r)).run Tryd.prog w = .ok true w) (z : Int) (hz : z < 0)
    (c0 : ∀ w, Mm w [(g, modx n o s)] → Calls Tryd.prog 69 #[PT g 0] w fun e w' => e = .returned (.bool true) ∧ Below w.heap.size w w')
    (c1 : ∀ w, Calls Tryd.prog 20 #[.int .u64 1] w fun e w' => e = .returned (N 1) ∧ Below w.heap.size w w')
    (c2 : ∀ w, Calls Tryd.prog 45 #[N n, N 1] w fun e w' => e = .returned (.tuple #[N x, .bool cx]) ∧ Below w.heap.size w w')
    (c3 : ∀ w, Calls Tryd.prog 78 #[N x, .int .i64 (-2)] w fun e w' => e = .returned (N ee) ∧ Below w.heap.size w w')
    (c4 : ∀ w, Mm w [(g, modx n o s)] → Calls Tryd.prog 77 #[PT g 0, N a, N ee] w fun e w' => e = .returned (N c) ∧ Below w.heap.size w w')
    (c5 : ∀ w, Mm w [(g, modx n o s)] → Calls Tryd.prog 48 #[PT g 0, N c, N c] w fun e w' => e = .returned (N q) ∧ Below w.heap.size w w')
    (c6 : ∀ w, Mm w [(g, modx n o s)] → Calls Tryd.prog 70 #[PT g 0, N a] w fun e w' => e = .returned (N r) ∧ Below w.heap.size w w')
    (c7 : ∀ w, Mm w [(g, modx n o s)] → Calls Tryd.prog 73 #[PT g 0, N c] w fun e w' => e = .returned (N d) ∧ Below w.heap.size w w')
    (c8 : ∀ w, Calls Tryd.prog 53 #[N d, N c] w fun e w' => e = .returned (.int .i64 z) ∧ Below w.heap.size w w') (w : World) (hm : Mm w [(g, modx n o s)]) :
    Calls Tryd.prog 50 #[PT g 0, N a] w fun e w' => e = .returned (.tuple #[N d, .int .i64 0]) ∧ Below w.heap.size w w' := by
  have H0 : Hid (_ ∧ _) := ⟨hm, Below.refl w.heap.size w⟩
  clear hm
  have C0 : Hid _ := c0
  have C1 : Hid _ := c1
  have C2 : Hid _ := c2
  have C3 : Hid _ := c3
  have C4 : Hid _ := c4
  have C5 : Hid _ := c5
  have C6 : Hid _ := c6
  have C7 : Hid _ := c7
  have C8 : Hid _ := c8
  clear c0 c1 c2 c3 c4 c5 c6 c7 c8
  go_enter Tryd.func50, Tryd.ntmps50
  refine wp_seq ?_
  refine walk_seqA 3 [.made (cells6 a) 24, .made zero6 24, .quiet (.int .i64 0)] (sB H0) ?ho1 ?he1
  case ho1 => exact ak (fun γ => ⟨rfl, fun w' => ex_box6 rfl rfl⟩) (ak (fun γ => ⟨rfl, fun w' => exec_made6 rfl⟩) (ak (fun _ => ⟨rfl, fun _ _ => rfl⟩) trivial))
  intro γ w1 l hM hl
  have H1 : Hid (Mm w1 [(γ 0, cells6 a), (γ 1, zero6), (g, modx n o s)] ∧ _) := growB H0 hM (Nat.le_refl _) hl [0, 1] rfl (by decide)
  have o1_0 := ownB H0 hM (Nat.le_refl _) hl (i := 0) rfl
  have o1_1 := ownB H0 hM (Nat.le_refl _) hl (i := 1) rfl
  clear hM hl l
  generalize γ 0 = γ1_0 at H1 o1_0 ⊢
  generalize γ 1 = γ1_1 at H1 o1_1 ⊢
  clear γ
  refine rest0 rfl (then_normal (wp_seq (wp_seq ?_)))
  refine walk_seqB 3 [.quiet (PT g 0), .call (.bool true), .quiet (.bool false)] H1 ?ho2 ?he2
  case ho2 => exact ak (fun _ => ⟨rfl, fun _ _ => rfl⟩) (ak (fun γ => ⟨rfl, fun w' h => ⟨69, #[PT g 0], exec_call rfl call69 rfl (mpn rfl), C0.out w' (h.one 2 rfl)⟩⟩) (ak (by refine fun γ => ⟨rfl, fun w' h => ?_⟩; clear h; go_simp) trivial))
  intro _ w2 H2
  clear H1
  refine rest0 rfl (then_normal (wp_cond_false rfl ?_))
  refine wp_skip (then_normal ?_)
  refine wp_seq (wp_seq ?_)
  refine walk_seqB 7 [.quiet (PT g 0), .quiet (PT g 0), .quiet (PT g 0), .quiet (PT g 0), .quiet (.int .u64 (wd n 0)), .quiet (.int .u64 3), .quiet (.bool false)] H2 ?ho3 ?he3
  case ho3 => exact ak (fun _ => ⟨rfl, fun _ _ => rfl⟩) (ak (by refine fun γ => ⟨rfl, fun w' h => ?_⟩; clear h; go_simp) (ak (by refine fun γ => ⟨rfl, fun w' h => ?_⟩; clear h; go_simp) (ak (by refine fun γ => ⟨rfl, fun w' h => ?_⟩; clear h; go_simp) (ak (fun γ => ⟨rfl, fun w' h => ex_load1 h 2 rfl rfl rfl rfl⟩) (ak (by refine fun γ => ⟨rfl, fun w' h => ?_⟩; clear h; go_simp) (ak (by refine fun γ => ⟨rfl, fun w' h => ?_⟩; clear h; go_simp) trivial))))))
  intro _ w3 H3
  clear H2
  refine rest0 rfl (then_normal (wp_cond_false rfl ?_))
  refine wp_skip (then_normal (wp_seq ?_))
  refine walk_anyA 12 [.quiet (PT g 0), .quiet (PT g 0), .quiet (PT g 0), .quiet (N n), .call (N 1), .call (.tuple #[N x, .bool cx]), .quiet (.tuple #[N x, .bool cx]), .quiet (N x), .quiet (.bool cx), .made zero6 24, .laid 9 zero6 (cells6 x), .quiet (.bool cx)] (sB H3) ?ho4 ?he4 (hL := ?hL4)
  case hL4 => exact ⟨⟨_, rfl⟩, trivial⟩
  case ho4 => exact ak (fun _ => ⟨rfl, fun _ _ => rfl⟩) (ak (by refine fun γ => ⟨rfl, fun w' h => ?_⟩; clear h; go_simp) (ak (by refine fun γ => ⟨rfl, fun w' h => ?_⟩; clear h; go_simp) (ak (fun γ => ⟨rfl, fun w' h => ex_load6 h 2 rfl rfl rfl rfl⟩) (ak (fun γ => ⟨rfl, fun w' h => ⟨20, #[.int .u64 1], exec_call rfl call20 rfl (mpn rfl), C1.out w'⟩⟩) (ak (fun γ => ⟨rfl, fun w' h => ⟨45, #[N n, N 1], exec_call rfl call45 rfl (mpn rfl), C2.out w'⟩⟩) (ak (fun _ => ⟨rfl, fun _ _ => rfl⟩) (ak (by refine fun γ => ⟨rfl, fun w' h => ?_⟩; clear h; go_simp) (ak (by refine fun γ => ⟨rfl, fun w' h => ?_⟩; clear h; go_simp) (ak (fun γ => ⟨rfl, fun w' => exec_made6 rfl⟩) (ak (fun γ => ⟨rfl, rfl, rfl, fun w' h => exec_laid6 h rfl rfl rfl⟩) (ak (fun _ => ⟨rfl, fun _ _ => rfl⟩) trivial)))))))))))
  intro γ w4 l hM hl
  have H4 : Hid (Mm w4 [(γ 9, cells6 x), (γ1_0, cells6 a), (γ1_1, zero6), (g, modx n o s)] ∧ _) := growB H3 hM (Nat.le_refl _) hl [9] rfl (by decide)
  have o4_9 := ownB H3 hM (Nat.le_refl _) hl (i := 9) rfl
  clear hM hl l H3
  generalize γ 9 = γ4_9 at H4 o4_9 ⊢
  clear γ
  refine rest0 rfl (then_normal (wp_seq ?_))
  refine walk_anyA 7 [.quiet (PT g 0), .quiet (N a), .quiet (N x), .call (N ee), .call (N c), .made zero6 24, .laid 5 zero6 (cells6 c)] (sB H4) ?ho5 ?he5 (hL := ?hL5)
  case hL5 => exact ⟨⟨_, rfl⟩, trivial⟩
  case ho5 => exact ak (fun _ => ⟨rfl, fun _ _ => rfl⟩) (ak (fun γ => ⟨rfl, fun w' h => ex_load6 h 1 rfl rfl rfl rfl⟩) (ak (fun γ => ⟨rfl, fun w' h => ex_load6 h 0 rfl rfl rfl rfl⟩) (ak (fun γ => ⟨rfl, fun w' h => ⟨78, #[N x, .int .i64 (-2)], exec_call rfl call78 rfl (mpn rfl), C3.out w'⟩⟩) (ak (fun γ => ⟨rfl, fun w' h => ⟨77, #[PT g 0, N a, N ee], exec_call rfl call77 rfl (mpn rfl), C4.out w' (h.one 3 rfl)⟩⟩) (ak (fun γ => ⟨rfl, fun w' => exec_made6 rfl⟩) (ak (fun γ => ⟨rfl, rfl, rfl, fun w' h => exec_laid6 h rfl rfl rfl⟩) trivial))))))
  intro γ w5 l hM hl
  have H5 : Hid (Mm w5 [(γ 5, cells6 c), (γ4_9, cells6 x), (γ1_0, cells6 a), (γ1_1, zero6), (g, modx n o s)] ∧ _) := growB H4 hM (Nat.le_refl _) hl [5] rfl (by decide)
  have o5_5 := ownB H4 hM (Nat.le_refl _) hl (i := 5) rfl
  clear hM hl l H4
  generalize γ 5 = γ5_5 at H5 o5_5 ⊢
  clear γ
  refine rest0 rfl (then_normal (wp_seq (wp_seq ?_)))
  refine walk_anyB 8 [.quiet (PT g 0), .quiet (N c), .quiet (N c), .call (N q), .quiet (PT g 0), .quiet (N a), .call (N r), .quiet (.bool false)] H5 ?ho6 ?he6
  case ho6 => exact ak (fun _ => ⟨rfl, fun _ _ => rfl⟩) (ak (fun γ => ⟨rfl, fun w' h => ex_load6 h 0 rfl rfl rfl rfl⟩) (ak (fun γ => ⟨rfl, fun w' h => ex_load6 h 0 rfl rfl rfl rfl⟩) (ak (fun γ => ⟨rfl, fun w' h => ⟨48, #[PT g 0, N c, N c], exec_call rfl call48 rfl (mpn rfl), C5.out w' (h.one 4 rfl)⟩⟩) (ak (fun _ => ⟨rfl, fun _ _ => rfl⟩) (ak (fun γ => ⟨rfl, fun w' h => ex_load6 h 2 rfl rfl rfl rfl⟩) (ak (fun γ => ⟨rfl, fun w' h => ⟨70, #[PT g 0, N a], exec_call rfl call70 rfl (mpn rfl), C6.out w' (h.one 4 rfl)⟩⟩) (ak (fun γ => ⟨rfl, fun w' _ => exec_neq6 e1 rfl rfl rfl⟩) trivial)))))))
  intro _ w6 H6
  clear H5
  refine rest0 rfl (then_normal (wp_cond_false rfl ?_))
  refine wp_skip (then_normal (wp_seq ?_))
  refine walk_seqA 5 [.quiet (PT g 0), .quiet (N c), .call (N d), .made zero6 24, .laid 3 zero6 (cells6 d)] (sB H6) ?ho7 ?he7 (hL := ?hL7)
  case hL7 => exact ⟨⟨_, rfl⟩, trivial⟩
  case ho7 => exact ak (fun _ => ⟨rfl, fun _ _ => rfl⟩) (ak (fun γ => ⟨rfl, fun w' h => ex_load6 h 0 rfl rfl rfl rfl⟩) (ak (fun γ => ⟨rfl, fun w' h => ⟨73, #[PT g 0, N c], exec_call rfl call73 rfl (mpn rfl), C7.out w' (h.one 4 rfl)⟩⟩) (ak (fun γ => ⟨rfl, fun w' => exec_made6 rfl⟩) (ak (fun γ => ⟨rfl, rfl, rfl, fun w' h => exec_laid6 h rfl rfl rfl⟩) trivial))))
  intro γ w7 l hM hl
  have H7 : Hid (Mm w7 [(γ 3, cells6 d), (γ5_5, cells6 c), (γ4_9, cells6 x), (γ1_0, cells6 a), (γ1_1, zero6), (g, modx n o s)] ∧ _) := growB H6 hM (Nat.le_refl _) hl [3] rfl (by decide)
  have o7_3 := ownB H6 hM (Nat.le_refl _) hl (i := 3) rfl
  clear hM hl l H6
  generalize γ 3 = γ7_3 at H7 o7_3 ⊢
  clear γ
  refine rest0 rfl (then_normal (wp_seq (wp_seq ?_)))
  refine walk_seqB 4 [.quiet (N d), .quiet (N c), .call (.int .i64 z), .quiet (.bool true)] H7 ?ho8 ?he8
  case ho8 => exact ak (fun γ => ⟨rfl, fun w' h => ex_load6 h 0 rfl rfl rfl rfl⟩) (ak (fun γ => ⟨rfl, fun w' h => ex_load6 h 1 rfl rfl rfl rfl⟩) (ak (fun γ => ⟨rfl, fun w' h => ⟨53, #[N d, N c], exec_call rfl call53 rfl (mpn rfl), C8.out w'⟩⟩) (ak (by refine fun γ => ⟨rfl, fun w' h => ?_⟩; clear h; go_simp <;> omega) trivial)))
  intro _ w8 H8
  clear H7
  refine rest0 rfl (then_normal (wp_cond_true rfl (wp_seq ?_)))
  refine walk_seqB 1 [.quiet (N d)] H8 ?ho9 ?he9
  case ho9 => exact ak (fun γ => ⟨rfl, fun w' h => ex_load6 h 0 rfl rfl rfl rfl⟩) trivial
  intro _ w9 H9
  clear H8
  refine rest_at (l := [1, 2]) rfl ?_
  refine rest_store rfl rfl rfl (ex_store6 H9.out.1 4 rfl rfl rfl rfl (Nat.le_of_ble_eq_true rfl)) ?_
  have H10 : Hid (Mm (w9.setCells γ1_1 0 (cells6 d)) [(γ7_3, cells6 d), (γ5_5, cells6 c), (γ4_9, cells6 x), (γ1_0, cells6 a), (γ1_1, cells6 d), (g, modx n o s)] ∧ Below w.heap.size w (w9.setCells γ1_1 0 (cells6 d))) := ⟨H9.out.1.put 4 (off := 0) (vs := cells6 d) rfl (Nat.le_of_ble_eq_true rfl), below_setCells _ o1_1.out _ _ _ H9.out.2⟩
  clear H9
  generalize hgw : World.setCells _ _ _ _ = w10 at H10 ⊢
  clear hgw
  refine rest_set (d := 5) rfl rfl rfl rfl ?_
  simp only [Act.put, sa, sz, ss]
  refine rest_nil (then_normal (wp_ret ?_))
  repeat (first | refine then_ret ?_ | refine block_ret ?_)
  have c0 := H10.out.1.get 4 rfl 0 rfl
  have c1 := H10.out.1.get 4 rfl 1 rfl
  have c2 := H10.out.1.get 4 rfl 2 rfl
  have c3 := H10.out.1.get 4 rfl 3 rfl
  have c4 := H10.out.1.get 4 rfl 4 rfl
  have c5 := H10.out.1.get 4 rfl 5 rfl
  refine bodyPost_ret (v := .tuple #[N d, .int .i64 0]) (by simp [results, Tryd.results50, go_sem, *]) rfl ?_
  exact ⟨rfl, H10.out.2⟩
set_option maxHeartbeats 1000000 in
set_option maxRecDepth 100000 in
theorem root_4 (g n o s a x ee c q r d : Nat) (hr : (wd n 0).tmod 4 = 3) (cx : Bool) (e1 : ∀ w, (Op.equalIn 10000 24 (N q) (N r)).run Tryd.prog w = .ok true w) (z : Int) (hz : ¬ z < 0)
    (c0 : ∀ w, Mm w [(g, modx n o s)] → Calls Tryd.prog 69 #[PT g 0] w fun e w' => e = .returned (.bool true) ∧ Below w.heap.size w w')
    (c1 : ∀ w, Calls Tryd.prog 20 #[.int .u64 1] w fun e w' => e = .returned (N 1) ∧ Below w.heap.size w w')
    (c2 : ∀ w, Calls Tryd.prog 45 #[N n, N 1] w fun e w' => e = .returned (.tuple #[N x, .bool cx]) ∧ Below w.heap.size w w')
    (c3 : ∀ w, Calls Tryd.prog 78 #[N x, .int .i64 (-2)] w fun e w' => e = .returned (N ee) ∧ Below w.heap.size w w')
    (c4 : ∀ w, Mm w [(g, modx n o s)] → Calls Tryd.prog 77 #[PT g 0, N a, N ee] w fun e w' => e = .returned (N c) ∧ Below w.heap.size w w')
    (c5 : ∀ w, Mm w [(g, modx n o s)] → Calls Tryd.prog 48 #[PT g 0, N c, N c] w fun e w' => e = .returned (N q) ∧ Below w.heap.size w w')
    (c6 : ∀ w, Mm w [(g, modx n o s)] → Calls Tryd.prog 70 #[PT g 0, N a] w fun e w' => e = .returned (N r) ∧ Below w.heap.size w w')
    (c7 : ∀ w, Mm w [(g, modx n o s)] → Calls Tryd.prog 73 #[PT g 0, N c] w fun e w' => e = .returned (N d) ∧ Below w.heap.size w w')
    (c8 : ∀ w, Calls Tryd.prog 53 #[N d, N c] w fun e w' => e = .returned (.int .i64 z) ∧ Below w.heap.size w w') (w : World) (hm : Mm w [(g, modx n o s)]) :
    Calls Tryd.prog 50 #[PT g 0, N a] w fun e w' => e = .returned (.tuple #[N c, .int .i64 0]) ∧ Below w.heap.size w w' := by
  have H0 : Hid (_ ∧ _) := ⟨hm, Below.refl w.heap.size w⟩
  clear hm
  have C0 : Hid _ := c0
  have C1 : Hid _ := c1
  have C2 : Hid _ := c2
  have C3 : Hid _ := c3
  have C4 : Hid _ := c4
  have C5 : Hid _ := c5
  have C6 : Hid _ := c6
  have C7 : Hid _ := c7
  have C8 : Hid _ := c8
  clear c0 c1 c2 c3 c4 c5 c6 c7 c8
  go_enter Tryd.func50, Tryd.ntmps50
  refine wp_seq ?_
  refine walk_seqA 3 [.made (cells6 a) 24, .made zero6 24, .quiet (.int .i64 0)] (sB H0) ?ho1 ?he1
  case ho1 => exact ak (fun γ => ⟨rfl, fun w' => ex_box6 rfl rfl⟩) (ak (fun γ => ⟨rfl, fun w' => exec_made6 rfl⟩) (ak (fun _ => ⟨rfl, fun _ _ => rfl⟩) trivial))
  intro γ w1 l hM hl
  have H1 : Hid (Mm w1 [(γ 0, cells6 a), (γ 1, zero6), (g, modx n o s)] ∧ _) := growB H0 hM (Nat.le_refl _) hl [0, 1] rfl (by decide)
  have o1_0 := ownB H0 hM (Nat.le_refl _) hl (i := 0) rfl
  have o1_1 := ownB H0 hM (Nat.le_refl _) hl (i := 1) rfl
  clear hM hl l
  generalize γ 0 = γ1_0 at H1 o1_0 ⊢
  generalize γ 1 = γ1_1 at H1 o1_1 ⊢
  clear γ
  refine rest0 rfl (then_normal (wp_seq (wp_seq ?_)))
  refine walk_seqB 3 [.quiet (PT g 0), .call (.bool true), .quiet (.bool false)] H1 ?ho2 ?he2
  case ho2 => exact ak (fun _ => ⟨rfl, fun _ _ => rfl⟩) (ak (fun γ => ⟨rfl, fun w' h => ⟨69, #[PT g 0], exec_call rfl call69 rfl (mpn rfl), C0.out w' (h.one 2 rfl)⟩⟩) (ak (by refine fun γ => ⟨rfl, fun w' h => ?_⟩; clear h; go_simp) trivial))
  intro _ w2 H2
  clear H1
  refine rest0 rfl (then_normal (wp_cond_false rfl ?_))
  refine wp_skip (then_normal ?_)
  refine wp_seq (wp_seq ?_)
  refine walk_seqB 7 [.quiet (PT g 0), .quiet (PT g 0), .quiet (PT g 0), .quiet (PT g 0), .quiet (.int .u64 (wd n 0)), .quiet (.int .u64 3), .quiet (.bool false)] H2 ?ho3 ?he3
  case ho3 => exact ak (fun _ => ⟨rfl, fun _ _ => rfl⟩) (ak (by refine fun γ => ⟨rfl, fun w' h => ?_⟩; clear h; go_simp) (ak (by refine fun γ => ⟨rfl, fun w' h => ?_⟩; clear h; go_simp) (ak (by refine fun γ => ⟨rfl, fun w' h => ?_⟩; clear h; go_simp) (ak (fun γ => ⟨rfl, fun w' h => ex_load1 h 2 rfl rfl rfl rfl⟩) (ak (by refine fun γ => ⟨rfl, fun w' h => ?_⟩; clear h; go_simp) (ak (by refine fun γ => ⟨rfl, fun w' h => ?_⟩; clear h; go_simp) trivial))))))
  intro _ w3 H3
  clear H2
  refine rest0 rfl (then_normal (wp_cond_false rfl ?_))
  refine wp_skip (then_normal (wp_seq ?_))
  refine walk_anyA 12 [.quiet (PT g 0), .quiet (PT g 0), .quiet (PT g 0), .quiet (N n), .call (N 1), .call (.tuple #[N x, .bool cx]), .quiet (.tuple #[N x, .bool cx]), .quiet (N x), .quiet (.bool cx), .made zero6 24, .laid 9 zero6 (cells6 x), .quiet (.bool cx)] (sB H3) ?ho4 ?he4 (hL := ?hL4)
  case hL4 => exact ⟨⟨_, rfl⟩, trivial⟩
  case ho4 => exact ak (fun _ => ⟨rfl, fun _ _ => rfl⟩) (ak (by refine fun γ => ⟨rfl, fun w' h => ?_⟩; clear h; go_simp) (ak (by refine fun γ => ⟨rfl, fun w' h => ?_⟩; clear h; go_simp) (ak (fun γ => ⟨rfl, fun w' h => ex_load6 h 2 rfl rfl rfl rfl⟩) (ak (fun γ => ⟨rfl, fun w' h => ⟨20, #[.int .u64 1], exec_call rfl call20 rfl (mpn rfl), C1.out w'⟩⟩) (ak (fun γ => ⟨rfl, fun w' h => ⟨45, #[N n, N 1], exec_call rfl call45 rfl (mpn rfl), C2.out w'⟩⟩) (ak (fun _ => ⟨rfl, fun _ _ => rfl⟩) (ak (by refine fun γ => ⟨rfl, fun w' h => ?_⟩; clear h; go_simp) (ak (by refine fun γ => ⟨rfl, fun w' h => ?_⟩; clear h; go_simp) (ak (fun γ => ⟨rfl, fun w' => exec_made6 rfl⟩) (ak (fun γ => ⟨rfl, rfl, rfl, fun w' h => exec_laid6 h rfl rfl rfl⟩) (ak (fun _ => ⟨rfl, fun _ _ => rfl⟩) trivial)))))))))))
  intro γ w4 l hM hl
  have H4 : Hid (Mm w4 [(γ 9, cells6 x), (γ1_0, cells6 a), (γ1_1, zero6), (g, modx n o s)] ∧ _) := growB H3 hM (Nat.le_refl _) hl [9] rfl (by decide)
  have o4_9 := ownB H3 hM (Nat.le_refl _) hl (i := 9) rfl
  clear hM hl l H3
  generalize γ 9 = γ4_9 at H4 o4_9 ⊢
  clear γ
  refine rest0 rfl (then_normal (wp_seq ?_))
  refine walk_anyA 7 [.quiet (PT g 0), .quiet (N a), .quiet (N x), .call (N ee), .call (N c), .made zero6 24, .laid 5 zero6 (cells6 c)] (sB H4) ?ho5 ?he5 (hL := ?hL5)
  case hL5 => exact ⟨⟨_, rfl⟩, trivial⟩
  case ho5 => exact ak (fun _ => ⟨rfl, fun _ _ => rfl⟩) (ak (fun γ => ⟨rfl, fun w' h => ex_load6 h 1 rfl rfl rfl rfl⟩) (ak (fun γ => ⟨rfl, fun w' h => ex_load6 h 0 rfl rfl rfl rfl⟩) (ak (fun γ => ⟨rfl, fun w' h => ⟨78, #[N x, .int .i64 (-2)], exec_call rfl call78 rfl (mpn rfl), C3.out w'⟩⟩) (ak (fun γ => ⟨rfl, fun w' h => ⟨77, #[PT g 0, N a, N ee], exec_call rfl call77 rfl (mpn rfl), C4.out w' (h.one 3 rfl)⟩⟩) (ak (fun γ => ⟨rfl, fun w' => exec_made6 rfl⟩) (ak (fun γ => ⟨rfl, rfl, rfl, fun w' h => exec_laid6 h rfl rfl rfl⟩) trivial))))))
  intro γ w5 l hM hl
  have H5 : Hid (Mm w5 [(γ 5, cells6 c), (γ4_9, cells6 x), (γ1_0, cells6 a), (γ1_1, zero6), (g, modx n o s)] ∧ _) := growB H4 hM (Nat.le_refl _) hl [5] rfl (by decide)
  have o5_5 := ownB H4 hM (Nat.le_refl _) hl (i := 5) rfl
  clear hM hl l H4
  generalize γ 5 = γ5_5 at H5 o5_5 ⊢
  clear γ
  refine rest0 rfl (then_normal (wp_seq (wp_seq ?_)))
  refine walk_anyB 8 [.quiet (PT g 0), .quiet (N c), .quiet (N c), .call (N q), .quiet (PT g 0), .quiet (N a), .call (N r), .quiet (.bool false)] H5 ?ho6 ?he6
  case ho6 => exact ak (fun _ => ⟨rfl, fun _ _ => rfl⟩) (ak (fun γ => ⟨rfl, fun w' h => ex_load6 h 0 rfl rfl rfl rfl⟩) (ak (fun γ => ⟨rfl, fun w' h => ex_load6 h 0 rfl rfl rfl rfl⟩) (ak (fun γ => ⟨rfl, fun w' h => ⟨48, #[PT g 0, N c, N c], exec_call rfl call48 rfl (mpn rfl), C5.out w' (h.one 4 rfl)⟩⟩) (ak (fun _ => ⟨rfl, fun _ _ => rfl⟩) (ak (fun γ => ⟨rfl, fun w' h => ex_load6 h 2 rfl rfl rfl rfl⟩) (ak (fun γ => ⟨rfl, fun w' h => ⟨70, #[PT g 0, N a], exec_call rfl call70 rfl (mpn rfl), C6.out w' (h.one 4 rfl)⟩⟩) (ak (fun γ => ⟨rfl, fun w' _ => exec_neq6 e1 rfl rfl rfl⟩) trivial)))))))
  intro _ w6 H6
  clear H5
  refine rest0 rfl (then_normal (wp_cond_false rfl ?_))
  refine wp_skip (then_normal (wp_seq ?_))
  refine walk_seqA 5 [.quiet (PT g 0), .quiet (N c), .call (N d), .made zero6 24, .laid 3 zero6 (cells6 d)] (sB H6) ?ho7 ?he7 (hL := ?hL7)
  case hL7 => exact ⟨⟨_, rfl⟩, trivial⟩
  case ho7 => exact ak (fun _ => ⟨rfl, fun _ _ => rfl⟩) (ak (fun γ => ⟨rfl, fun w' h => ex_load6 h 0 rfl rfl rfl rfl⟩) (ak (fun γ => ⟨rfl, fun w' h => ⟨73, #[PT g 0, N c], exec_call rfl call73 rfl (mpn rfl), C7.out w' (h.one 4 rfl)⟩⟩) (ak (fun γ => ⟨rfl, fun w' => exec_made6 rfl⟩) (ak (fun γ => ⟨rfl, rfl, rfl, fun w' h => exec_laid6 h rfl rfl rfl⟩) trivial))))
  intro γ w7 l hM hl
  have H7 : Hid (Mm w7 [(γ 3, cells6 d), (γ5_5, cells6 c), (γ4_9, cells6 x), (γ1_0, cells6 a), (γ1_1, zero6), (g, modx n o s)] ∧ _) := growB H6 hM (Nat.le_refl _) hl [3] rfl (by decide)
  have o7_3 := ownB H6 hM (Nat.le_refl _) hl (i := 3) rfl
  clear hM hl l H6
  generalize γ 3 = γ7_3 at H7 o7_3 ⊢
  clear γ
  refine rest0 rfl (then_normal (wp_seq (wp_seq ?_)))
  refine walk_seqB 4 [.quiet (N d), .quiet (N c), .call (.int .i64 z), .quiet (.bool false)] H7 ?ho8 ?he8
  case ho8 => exact ak (fun γ => ⟨rfl, fun w' h => ex_load6 h 0 rfl rfl rfl rfl⟩) (ak (fun γ => ⟨rfl, fun w' h => ex_load6 h 1 rfl rfl rfl rfl⟩) (ak (fun γ => ⟨rfl, fun w' h => ⟨53, #[N d, N c], exec_call rfl call53 rfl (mpn rfl), C8.out w'⟩⟩) (ak (by refine fun γ => ⟨rfl, fun w' h => ?_⟩; clear h; go_simp <;> omega) trivial)))
  intro _ w8 H8
  clear H7
  refine rest0 rfl (then_normal (wp_cond_false rfl ?_))
  refine wp_skip (then_normal (wp_seq ?_))
  refine walk_seqB 1 [.quiet (N c)] H8 ?ho9 ?he9
  case ho9 => exact ak (fun γ => ⟨rfl, fun w' h => ex_load6 h 1 rfl rfl rfl rfl⟩) trivial
  intro _ w9 H9
  clear H8
  refine rest_at (l := [1, 2]) rfl ?_
  refine rest_store rfl rfl rfl (ex_store6 H9.out.1 4 rfl rfl rfl rfl (Nat.le_of_ble_eq_true rfl)) ?_
  have H10 : Hid (Mm (w9.setCells γ1_1 0 (cells6 c)) [(γ7_3, cells6 d), (γ5_5, cells6 c), (γ4_9, cells6 x), (γ1_0, cells6 a), (γ1_1, cells6 c), (g, modx n o s)] ∧ Below w.heap.size w (w9.setCells γ1_1 0 (cells6 c))) := ⟨H9.out.1.put 4 (off := 0) (vs := cells6 c) rfl (Nat.le_of_ble_eq_true rfl), below_setCells _ o1_1.out _ _ _ H9.out.2⟩
  clear H9
  generalize hgw : World.setCells _ _ _ _ = w10 at H10 ⊢
  clear hgw
  refine rest_set (d := 5) rfl rfl rfl rfl ?_
  simp only [Act.put, sa, sz, ss]
  refine rest_nil (then_normal (wp_ret ?_))
  repeat (first | refine then_ret ?_ | refine block_ret ?_)
  have c0 := H10.out.1.get 4 rfl 0 rfl
  have c1 := H10.out.1.get 4 rfl 1 rfl
  have c2 := H10.out.1.get 4 rfl 2 rfl
  have c3 := H10.out.1.get 4 rfl 3 rfl
  have c4 := H10.out.1.get 4 rfl 4 rfl
  have c5 := H10.out.1.get 4 rfl 5 rfl
  refine bodyPost_ret (v := .tuple #[N c, .int .i64 0]) (by simp [results, Tryd.results50, go_sem, *]) rfl ?_
  exact ⟨rfl, H10.out.2⟩
/-- What Root tells: the number and the error. -/
def rtc (n a : Nat) : Nat := a ^ ((n + 1) / 4) % n
def rtv (n a : Nat) : Nat := if n % 4 = 1 then 0 else if rtc n a * rtc n a % n = a % n then (if subm n 0 (rtc n a) < rtc n a then subm n 0 (rtc n a) else rtc n a) else 0
def rte (n a : Nat) : Int := if n % 4 = 1 then 2 else if rtc n a * rtc n a % n = a % n then 0 else 6
theorem word_mod4 (n : Nat) : (wd n 0).tmod 4 = ((n % 4 : Nat) : Int) := by
  have h0 : wd n 0 = ((n % 18446744073709551616 : Nat) : Int) := by unfold wd; rw [Nat.mul_zero, Nat.pow_zero, Nat.div_one]
  rw [h0]
  rw [Int.tmod_eq_emod_of_nonneg (by omega)]; omega
theorem root_any {g n : Nat} (ok : Ok n) {a : Nat} (ha : a < big) (w : World) (hm : Mm w [(g, modc n)]) : Calls Tryd.prog 50 #[PT g 0, N a] w fun e w' => e = .returned (.tuple #[N (rtv n a), .int .i64 (rte n a)]) ∧ Below w.heap.size w w' := by
  have hw := word_mod4 n
  have cm := fun w hm => madeC (g := g) ok w hm
  unfold rtv rte
  by_cases h : n % 4 = 1
  · rw [if_pos h, if_pos h]
    rw [h] at hw
    exact root_1 g n _ _ a hw cm w hm
  · rw [if_neg h, if_neg h]
    rw [show n % 4 = 3 by have := ok.odd; omega] at hw
    have ht := ok.top
    have ht3 := ok.three
    have ca := fun w => add_any n 1 ok.big (small_big 1 (by decide)) w
    rw [Nat.mod_eq_of_lt (show n + 1 < big by omega)] at ca
    have cs := fun w => shift_down (n + 1) (-2) (by omega) (by omega) (by omega) w
    have e4 : (n + 1) / 2 ^ (- (-2 : Int)).toNat = (n + 1) / 4 := rfl
    rw [e4] at cs
    have he : (n + 1) / 4 < big := by omega
    have cp := fun w hm => powm_any (g := g) ok ha he w hm
    have hc : rtc n a < n := Nat.mod_lt _ ok.pos
    have hcb : rtc n a < big := Nat.lt_trans hc ok.big
    have e5 : a ^ ((n + 1) / 4) % n = rtc n a := rfl
    rw [e5] at cp
    have cq := fun w hm => mulm_any (g := g) ok hcb hcb w hm
    have cr := fun w hm => reduce_any (g := g) ok ha w hm
    have cn := fun w hm => negm_any (g := g) ok hcb w hm
    have e1 := fun w => run_eqN (rtc n a * rtc n a % n) (a % n) (okLt ok _) (okLt ok _) w
    by_cases h2 : rtc n a * rtc n a % n = a % n
    · rw [if_pos h2, if_pos h2]
      rw [decide_eq_true h2] at e1
      have cc := fun w => compare_any (subm n 0 (rtc n a)) (rtc n a) (Nat.lt_trans (subm_lt_n ok.pos _ _) ok.big) hcb w
      by_cases h3 : subm n 0 (rtc n a) < rtc n a
      · rw [if_pos h3]
        rw [cmp_lt h3] at cc
        exact root_3 g n _ _ a _ _ _ _ _ _ hw _ e1 _ (by decide) cm (fun w => of_any 1 (by decide) w) ca cs cp cq cr cn cc w hm
      · rw [if_neg h3]
        exact root_4 g n _ _ a _ _ _ _ _ _ hw _ e1 _ (cmp_ge h3) cm (fun w => of_any 1 (by decide) w) ca cs cp cq cr cn cc w hm
    · rw [if_neg h2, if_neg h2]
      rw [decide_eq_false h2] at e1
      exact root_2 g n _ _ a _ _ _ _ _ hw _ e1 cm (fun w => of_any 1 (by decide) w) ca cs cp cq cr w hm
end Rg
end Go.Proofs.YtgdlhgbdigpfhaaDoor
end
section
namespace Go.Proofs.YtgdlhgbdigpfhaaDoor
open Go.RowKit
namespace Rg
/-! Numbers side by side. -/
def cel : List Nat → List Value
  | [] => []
  | a :: l => cells6 a ++ cel l
abbrev V (l : List Nat) : Value := .agg (cel l).toArray
theorem cel_len : ∀ l : List Nat, (cel l).length = 6 * l.length
  | [] => rfl
  | a :: l => by
    show (cells6 a ++ cel l).length = _
    rw [List.length_append, cel_len l]
    show 6 + 6 * l.length = 6 * (l.length + 1)
    omega
theorem cel_app : ∀ l m : List Nat, cel (l ++ m) = cel l ++ cel m
  | [], _ => rfl
  | a :: l, m => by
    show cells6 a ++ cel (l ++ m) = cells6 a ++ cel l ++ cel m
    rw [cel_app l m, List.append_assoc]
theorem cel_drop : ∀ (i : Nat) (l : List Nat), (cel l).drop (6 * i) = cel (l.drop i)
  | 0, _ => by rw [Nat.mul_zero, List.drop_zero, List.drop_zero]
  | i + 1, [] => by simp [cel]
  | i + 1, a :: l => by
    show (cells6 a ++ cel l).drop (6 * (i + 1)) = cel (l.drop i)
    rw [← cel_drop i l, show 6 * (i + 1) = (cells6 a).length + 6 * i by show _ = 6 + 6 * i; omega, List.drop_length_add_append]
theorem cel_take : ∀ (i : Nat) (l : List Nat), (cel l).take (6 * i) = cel (l.take i)
  | 0, _ => by rw [Nat.mul_zero, List.take_zero, List.take_zero]; rfl
  | i + 1, [] => by simp [cel]
  | i + 1, a :: l => by
    show (cells6 a ++ cel l).take (6 * (i + 1)) = cells6 a ++ cel (l.take i)
    rw [← cel_take i l, show 6 * (i + 1) = (cells6 a).length + 6 * i by show _ = 6 + 6 * i; omega, List.take_length_add_append]
theorem cel_one (l : List Nat) : (cel l).all Value.oneCell' = true := by
  induction l with
  | nil => rfl
  | cons a l ih =>
    show (cells6 a ++ cel l).all Value.oneCell' = true
    rw [List.all_append, ih, Bool.and_true]
    rfl
theorem cel_patch (l m : List Nat) (i : Nat) : patch (cel l) (6 * i) (cel m) = cel (l.take i ++ m ++ l.drop (i + m.length)) := by
  unfold patch
  rw [cel_app, cel_app, cel_take, cel_len, ← Nat.mul_add, cel_drop]
theorem cel_zero (k : Nat) : cel (List.replicate k 0) = List.replicate (6 * k) (.int .u64 0) := by
  induction k with
  | zero => rfl
  | succ k ih =>
    rw [List.replicate_succ]
    show cells6 0 ++ cel (List.replicate k 0) = _
    rw [ih, cells_zero, show 6 * (k + 1) = 6 + 6 * k by omega, ← List.replicate_append_replicate]
    rfl
theorem ex_loadA {ρ : Operand → Value} {o : Oper} {x : Operand} {g i k : Nat} {t : TypeId} {ns ms : List Nat} {w : World} {l : List (Nat × List Value)} (h : Mm w l) (q : Nat) (hk : l[q]? = some (g, cel ns)) (ho : o.op = .load t x) (hx : ρ x = PT g (6 * i)) (ha : ∀ w, (isAgg t).run Tryd.prog w = .ok true w) (hs : ∀ w, (sizeOf t).run Tryd.prog w = .ok (6 * k) w) (hc : (ns.drop i).take k = ms) (hl : ms.length = k) :
    (execOp ρ o).run Tryd.prog w = .ok (.value (V ms)) w := by
  have hm := List.mem_of_getElem? hk
  have hcell := run_loadCells_list (P := Tryd.prog) (w := w) ⟨g, 6 * i, none⟩ (cel ms) (fun j v hv => by
    have e : (cel ns)[6 * i + j]? = some v := by
      rw [← List.getElem?_drop, cel_drop]
      rw [← hc, ← cel_take, List.getElem?_take] at hv
      split at hv
      · exact hv
      · cases hv
    have e2 := h.cell hm e
    rw [show (⟨g, 6 * i, none⟩ : Addr).add j = ⟨g, 6 * i + j, none⟩ from by unfold Addr.add; split <;> simp_all]
    exact e2)
  rw [cel_len, hl] at hcell
  have hf : (loadCellsFrom ⟨g, 6 * i, none⟩ 0 (6 * k) #[]).run Tryd.prog w = .ok (cel ms).toArray w := hcell
  clear hcell hc hk hm h
  simp only [execOp, ho, hx]
  go_simp
theorem ex_boxA {ρ : Operand → Value} {o : Oper} {x : Operand} {t : TypeId} {ns : List Nat} {w : World} (ho : o.op = .box t x) (hx : ρ x = V ns) :
    (execOp ρ o).run Tryd.prog w = .ok (.value (.pointer (some ⟨w.heap.size, 0, none⟩))) (w.alloc (.cells (cel ns).toArray t)) := by
  simp only [execOp, ho, hx]
  go_simp
theorem ex_storeA {ρ : Operand → Value} {o : Oper} {x y : Operand} {g i : Nat} {t : TypeId} {ns ms : List Nat} {w : World} {l : List (Nat × List Value)} (h : Mm w l) (q : Nat) (hk : l[q]? = some (g, cel ns)) (ho : o.op = .store t x y) (hx : ρ x = PT g (6 * i)) (hy : ρ y = V ms) (hs : ∀ w, (sizeOf t).run Tryd.prog w = .ok (6 * ms.length) w) (hb : i + ms.length ≤ ns.length) :
    (execOp ρ o).run Tryd.prog w = .ok .skip (w.setCells g (6 * i) (cel ms)) := by
  have hm := List.mem_of_getElem? hk
  have hq : ∀ j, j < (cel ms).length → ∃ u, (cel ns)[6 * i + j]? = some u := fun j hj => by
    rw [cel_len] at hj
    exact ⟨_, List.getElem?_eq_getElem (by rw [cel_len]; omega)⟩
  have hst := run_storeCells_cells (P := Tryd.prog) g (6 * i) (cel ms) 0 w (fun j hj => by
    obtain ⟨u, hu⟩ := hq j hj
    rw [show 6 * i + 0 + j = 6 * i + j by omega, h.cell hm hu]; rfl) (fun j hj => by
    obtain ⟨u, hu⟩ := hq j hj
    rw [show 6 * i + 0 + j = 6 * i + j by omega]; exact h.free hm hu) (List.all_eq_true.1 (cel_one ms))
  have hl := cel_len ms
  clear h hm hq hb hk
  simp only [execOp, ho, hx, hy]
  go_simp
theorem ex_laidA {ρ : Operand → Value} {o : Oper} {x y : Operand} {g : Nat} {t : TypeId} {zs ms : List Nat} {w : World} (hb : Blk w g (cel zs)) (hz : zs.length = ms.length) (hs : ∀ w, (sizeOf t).run Tryd.prog w = .ok (6 * ms.length) w) (ho : o.op = .store t x y) (hx : ρ x = .pointer (some ⟨g, 0, none⟩)) (hy : ρ y = V ms) :
    (execOp ρ o).run Tryd.prog w = .ok .skip (w.setCells g 0 (cel ms)) :=
  ex_laidT hb (by rw [cel_len, cel_len, hz]) (cel_one ms) (by rw [cel_len]; exact hs) ho hx hy
theorem ex_loadN {ρ : Operand → Value} {o : Oper} {x : Operand} {g i v : Nat} {ns : List Nat} {w : World} {l : List (Nat × List Value)} (h : Mm w l) (q : Nat) (hk : l[q]? = some (g, cel ns)) (ho : o.op = .load 24 x) (hx : ρ x = PT g (6 * i)) (hc : ns[i]? = some v) :
    (execOp ρ o).run Tryd.prog w = .ok (.value (N v)) w := by
  refine ex_load6 h q hk ho hx ?_
  rw [cel_drop, show 6 = 6 * 1 from rfl, cel_take]
  obtain ⟨hlt, e⟩ := List.getElem?_eq_some_iff.1 hc
  rw [List.drop_eq_getElem_cons hlt, e]
  rfl
theorem ex_madeE2 {ρ : Operand → Value} {o : Oper} {w : World} (ho : o.op = .alloc 26) :
    (execOp ρ o).run Tryd.prog w = .ok (.value (.pointer (some ⟨w.heap.size, 0, none⟩))) (w.alloc (.cells (cel [0, 0]).toArray 26)) := by
  rw [show cel [0, 0] = [.int .u64 0, .int .u64 0, .int .u64 0, .int .u64 0, .int .u64 0, .int .u64 0, .int .u64 0, .int .u64 0, .int .u64 0, .int .u64 0, .int .u64 0, .int .u64 0] from cel_zero 2]
  simp only [execOp, ho]
  go_simp
theorem ex_madeE12 {ρ : Operand → Value} {o : Oper} {w : World} (ho : o.op = .alloc 37) :
    (execOp ρ o).run Tryd.prog w = .ok (.value (.pointer (some ⟨w.heap.size, 0, none⟩))) (w.alloc (.cells (cel [0, 0, 0, 0, 0, 0, 0, 0, 0, 0, 0, 0]).toArray 37)) := by
  rw [show cel [0, 0, 0, 0, 0, 0, 0, 0, 0, 0, 0, 0] = [.int .u64 0, .int .u64 0, .int .u64 0, .int .u64 0, .int .u64 0, .int .u64 0, .int .u64 0, .int .u64 0, .int .u64 0, .int .u64 0, .int .u64 0, .int .u64 0, .int .u64 0, .int .u64 0, .int .u64 0, .int .u64 0, .int .u64 0, .int .u64 0, .int .u64 0, .int .u64 0, .int .u64 0, .int .u64 0, .int .u64 0, .int .u64 0, .int .u64 0, .int .u64 0, .int .u64 0, .int .u64 0, .int .u64 0, .int .u64 0, .int .u64 0, .int .u64 0, .int .u64 0, .int .u64 0, .int .u64 0, .int .u64 0, .int .u64 0, .int .u64 0, .int .u64 0, .int .u64 0, .int .u64 0, .int .u64 0, .int .u64 0, .int .u64 0, .int .u64 0, .int .u64 0, .int .u64 0, .int .u64 0, .int .u64 0, .int .u64 0, .int .u64 0, .int .u64 0, .int .u64 0, .int .u64 0, .int .u64 0, .int .u64 0, .int .u64 0, .int .u64 0, .int .u64 0, .int .u64 0, .int .u64 0, .int .u64 0, .int .u64 0, .int .u64 0, .int .u64 0, .int .u64 0, .int .u64 0, .int .u64 0, .int .u64 0, .int .u64 0, .int .u64 0, .int .u64 0] from cel_zero 12]
  simp only [execOp, ho]
  go_simp
  kernel_rfl
theorem ex_madeWD {ρ : Operand → Value} {o : Oper} {w : World} (ho : o.op = .alloc 59) :
    (execOp ρ o).run Tryd.prog w = .ok (.value (.pointer (some ⟨w.heap.size, 0, none⟩))) (w.alloc (.cells (cel [0, 0]).toArray 59)) := by
  rw [show cel [0, 0] = [.int .u64 0, .int .u64 0, .int .u64 0, .int .u64 0, .int .u64 0, .int .u64 0, .int .u64 0, .int .u64 0, .int .u64 0, .int .u64 0, .int .u64 0, .int .u64 0] from cel_zero 2]
  simp only [execOp, ho]
  go_simp
theorem ex_madeW2 {ρ : Operand → Value} {o : Oper} {w : World} (ho : o.op = .alloc 61) :
    (execOp ρ o).run Tryd.prog w = .ok (.value (.pointer (some ⟨w.heap.size, 0, none⟩))) (w.alloc (.cells (cel [0, 0, 0, 0]).toArray 61)) := by
  rw [show cel [0, 0, 0, 0] = [.int .u64 0, .int .u64 0, .int .u64 0, .int .u64 0, .int .u64 0, .int .u64 0, .int .u64 0, .int .u64 0, .int .u64 0, .int .u64 0, .int .u64 0, .int .u64 0, .int .u64 0, .int .u64 0, .int .u64 0, .int .u64 0, .int .u64 0, .int .u64 0, .int .u64 0, .int .u64 0, .int .u64 0, .int .u64 0, .int .u64 0, .int .u64 0] from cel_zero 4]
  simp only [execOp, ho]
  go_simp
theorem ex_madeTH {ρ : Operand → Value} {o : Oper} {w : World} (ho : o.op = .alloc 73) :
    (execOp ρ o).run Tryd.prog w = .ok (.value (.pointer (some ⟨w.heap.size, 0, none⟩))) (w.alloc (.cells (cel [0, 0, 0, 0, 0, 0]).toArray 73)) := by
  rw [show cel [0, 0, 0, 0, 0, 0] = [.int .u64 0, .int .u64 0, .int .u64 0, .int .u64 0, .int .u64 0, .int .u64 0, .int .u64 0, .int .u64 0, .int .u64 0, .int .u64 0, .int .u64 0, .int .u64 0, .int .u64 0, .int .u64 0, .int .u64 0, .int .u64 0, .int .u64 0, .int .u64 0, .int .u64 0, .int .u64 0, .int .u64 0, .int .u64 0, .int .u64 0, .int .u64 0, .int .u64 0, .int .u64 0, .int .u64 0, .int .u64 0, .int .u64 0, .int .u64 0, .int .u64 0, .int .u64 0, .int .u64 0, .int .u64 0, .int .u64 0, .int .u64 0] from cel_zero 6]
  simp only [execOp, ho]
  go_simp
theorem ex_madeW3 {ρ : Operand → Value} {o : Oper} {w : World} (ho : o.op = .alloc 76) :
    (execOp ρ o).run Tryd.prog w = .ok (.value (.pointer (some ⟨w.heap.size, 0, none⟩))) (w.alloc (.cells (cel [0, 0, 0, 0, 0, 0, 0, 0, 0, 0, 0, 0]).toArray 76)) := by
  rw [show cel [0, 0, 0, 0, 0, 0, 0, 0, 0, 0, 0, 0] = [.int .u64 0, .int .u64 0, .int .u64 0, .int .u64 0, .int .u64 0, .int .u64 0, .int .u64 0, .int .u64 0, .int .u64 0, .int .u64 0, .int .u64 0, .int .u64 0, .int .u64 0, .int .u64 0, .int .u64 0, .int .u64 0, .int .u64 0, .int .u64 0, .int .u64 0, .int .u64 0, .int .u64 0, .int .u64 0, .int .u64 0, .int .u64 0, .int .u64 0, .int .u64 0, .int .u64 0, .int .u64 0, .int .u64 0, .int .u64 0, .int .u64 0, .int .u64 0, .int .u64 0, .int .u64 0, .int .u64 0, .int .u64 0, .int .u64 0, .int .u64 0, .int .u64 0, .int .u64 0, .int .u64 0, .int .u64 0, .int .u64 0, .int .u64 0, .int .u64 0, .int .u64 0, .int .u64 0, .int .u64 0, .int .u64 0, .int .u64 0, .int .u64 0, .int .u64 0, .int .u64 0, .int .u64 0, .int .u64 0, .int .u64 0, .int .u64 0, .int .u64 0, .int .u64 0, .int .u64 0, .int .u64 0, .int .u64 0, .int .u64 0, .int .u64 0, .int .u64 0, .int .u64 0, .int .u64 0, .int .u64 0, .int .u64 0, .int .u64 0, .int .u64 0, .int .u64 0] from cel_zero 12]
  simp only [execOp, ho]
  go_simp
  kernel_rfl
theorem ex_buildE2 {ρ : Operand → Value} {o : Oper} {x0 x1 : Operand} {a b : Nat} {w : World} (ho : o.op = .build 26 #[(0, x0), (1, x1)]) (h0 : ρ x0 = N a) (h1 : ρ x1 = N b) : (execOp ρ o).run Tryd.prog w = .ok (.value (V [a, b])) w := by
  simp only [execOp, ho, V, cel, List.cons_append, List.nil_append]
  go_simp
theorem ex_buildE2a {ρ : Operand → Value} {o : Oper} {x0 : Operand} {a : Nat} {w : World} (ho : o.op = .build 26 #[(0, x0)]) (h0 : ρ x0 = N a) : (execOp ρ o).run Tryd.prog w = .ok (.value (V [a, 0])) w := by
  simp only [execOp, ho, V, cel, List.cons_append, List.nil_append]
  go_simp
  simp [wd_zero]
theorem ex_buildE2z {ρ : Operand → Value} {o : Oper} {w : World} (ho : o.op = .build 26 #[])  : (execOp ρ o).run Tryd.prog w = .ok (.value (V [0, 0])) w := by
  simp only [execOp, ho, V, cel, List.cons_append, List.nil_append]
  go_simp
  simp [wd_zero]
theorem ex_buildWD {ρ : Operand → Value} {o : Oper} {x0 x1 : Operand} {a b : Nat} {w : World} (ho : o.op = .build 59 #[(0, x0), (1, x1)]) (h0 : ρ x0 = N a) (h1 : ρ x1 = N b) : (execOp ρ o).run Tryd.prog w = .ok (.value (V [a, b])) w := by
  simp only [execOp, ho, V, cel, List.cons_append, List.nil_append]
  go_simp
theorem ex_buildW2 {ρ : Operand → Value} {o : Oper} {x0 x1 : Operand} {a0 a1 b0 b1 : Nat} {w : World} (ho : o.op = .build 61 #[(0, x0), (1, x1)]) (h0 : ρ x0 = V [a0, a1]) (h1 : ρ x1 = V [b0, b1]) : (execOp ρ o).run Tryd.prog w = .ok (.value (V [a0, a1, b0, b1])) w := by
  simp only [V, cel, List.cons_append, List.nil_append] at h0
  simp only [V, cel, List.cons_append, List.nil_append] at h1
  simp only [execOp, ho, V, cel, List.cons_append, List.nil_append]
  go_simp
theorem cel_load {n g : Nat} {ns : List Nat} {w : World} {l : List (Nat × List Value)} (h : Mm w l) (q : Nat) (hk : l[q]? = some (g, cel ns)) (hn : 6 * ns.length = n) : (loadCellsFrom ⟨g, 0, none⟩ 0 n #[]).run Tryd.prog w = .ok (cel ns).toArray w := by
  have hm := List.mem_of_getElem? hk
  have hcell := run_loadCells_list (P := Tryd.prog) (w := w) ⟨g, 0, none⟩ (cel ns) (fun j v hv => by
    have e2 := h.cell hm hv
    rw [show (⟨g, 0, none⟩ : Addr).add j = ⟨g, j, none⟩ from by unfold Addr.add; split <;> simp_all]
    exact e2)
  rw [cel_len, hn] at hcell
  exact hcell
theorem cel_var {g k : Nat} {t : TypeId} {ns : List Nat} {w : World} {l : List (Nat × List Value)} (h : Mm w l) (q : Nat) (hk : l[q]? = some (g, cel ns)) (ha : ∀ w, (isAgg t).run Tryd.prog w = .ok true w) (hs : ∀ w, (sizeOf t).run Tryd.prog w = .ok (6 * k) w) (hn : ns.length = k) : (loadVar t ⟨g, 0, none⟩).run Tryd.prog w = .ok (V ns) w := by
  have hf := cel_load (n := 6 * k) h q hk (by rw [hn])
  clear h hk
  simp only [loadVar]
  go_simp
theorem ex_loadF {ρ : Operand → Value} {o : Oper} {x : Operand} {g h0 : Nat} {cs : List Value} {w : World} {l : List (Nat × List Value)} (h : Mm w l) (k : Nat) (hk : l[k]? = some (g, cs)) (ho : o.op = .load 47 x) (hx : ρ x = PT g 0) (hc : cs[0]? = some (PT h0 0)) :
    (execOp ρ o).run Tryd.prog w = .ok (.value (.agg #[PT h0 0])) w := by
  have c0 := h.cell (List.mem_of_getElem? hk) hc
  clear h hk hc
  simp only [execOp, ho, hx]
  go_simp
theorem ex_loadQ {ρ : Operand → Value} {o : Oper} {x : Operand} {g : Nat} {v : Value} {cs : List Value} {w : World} {l : List (Nat × List Value)} (h : Mm w l) (k : Nat) (hk : l[k]? = some (g, cs)) (ho : o.op = .load 45 x) (hx : ρ x = PT g 0) (hc : cs[0]? = some v) :
    (execOp ρ o).run Tryd.prog w = .ok (.value v) w := by
  have c0 := h.cell (List.mem_of_getElem? hk) hc
  clear h hk hc
  simp only [execOp, ho, hx]
  go_simp
theorem ex_boxF {ρ : Operand → Value} {o : Oper} {x : Operand} {g : Nat} {w : World} (ho : o.op = .box 47 x) (hx : ρ x = .agg #[PT g 0]) :
    (execOp ρ o).run Tryd.prog w = .ok (.value (.pointer (some ⟨w.heap.size, 0, none⟩))) (w.alloc (.cells [PT g 0].toArray 47)) := by
  simp only [execOp, ho, hx]
  go_simp
end Rg
end Go.Proofs.YtgdlhgbdigpfhaaDoor
end
section
namespace Go.Proofs.YtgdlhgbdigpfhaaDoor
namespace NT
/-- A prime. -/
def Prm (p : Nat) : Prop := 1 < p ∧ ∀ d, d ∣ p → d = 1 ∨ d = p
theorem Prm.cop {p : Nat} (h : Prm p) {a : Nat} (ha : ¬ p ∣ a) : Nat.Coprime p a := by
  rcases h.2 (Nat.gcd p a) (Nat.gcd_dvd_left p a) with h1 | h1
  · exact h1
  · exact absurd (h1 ▸ Nat.gcd_dvd_right p a) ha
theorem Prm.mul {p a b : Nat} (h : Prm p) (hd : p ∣ a * b) : p ∣ a ∨ p ∣ b := by
  by_cases ha : p ∣ a
  · exact Or.inl ha
  · exact Or.inr ((h.cop ha).dvd_of_dvd_mul_left hd)
theorem Prm.pos {p : Nat} (h : Prm p) : 0 < p := by have := h.1; omega
/-- Each number above 1 has a prime that divides it. -/
theorem prm_dvd (n : Nat) (h : 1 < n) : ∃ q, Prm q ∧ q ∣ n := by
  induction n using Nat.strongRecOn with
  | ind n ih =>
    by_cases hp : ∃ d, d ∣ n ∧ d ≠ 1 ∧ d ≠ n
    · obtain ⟨d, hd, h1, h2⟩ := hp
      have hle := Nat.le_of_dvd (by omega) hd
      have h0 : d ≠ 0 := by
        intro e; rw [e] at hd; have := Nat.eq_zero_of_zero_dvd hd; omega
      obtain ⟨q, hq, hqd⟩ := ih d (by omega) (by omega)
      exact ⟨q, hq, Nat.dvd_trans hqd hd⟩
    · refine ⟨n, ⟨h, ?_⟩, Nat.dvd_refl n⟩
      intro d hd
      by_cases h1 : d = 1
      · exact Or.inl h1
      · by_cases h2 : d = n
        · exact Or.inr h2
        · exact absurd ⟨d, hd, h1, h2⟩ hp
/-! Binomials. -/
def ch : Nat → Nat → Nat
  | _, 0 => 1
  | 0, _ + 1 => 0
  | n + 1, k + 1 => ch n k + ch n (k + 1)
theorem ch_zero (n : Nat) : ch n 0 = 1 := by cases n <;> rfl
theorem ch_big (n : Nat) : ∀ k, n < k → ch n k = 0 := by
  induction n with
  | zero => intro k hk; cases k with
    | zero => omega
    | succ k => rfl
  | succ n ih => intro k hk; cases k with
    | zero => omega
    | succ k => show ch n k + ch n (k + 1) = 0; rw [ih k (by omega), ih (k + 1) (by omega)]
theorem ch_self (n : Nat) : ch n n = 1 := by
  induction n with
  | zero => rfl
  | succ n ih => show ch n n + ch n (n + 1) = 1; rw [ih, ch_big n (n + 1) (by omega)]
theorem ch_absorb (n : Nat) : ∀ k, (k + 1) * ch (n + 1) (k + 1) = (n + 1) * ch n k := by
  induction n with
  | zero =>
    intro k
    cases k with
    | zero => rfl
    | succ k =>
      rw [ch_big 1 (k + 1 + 1) (by omega), ch_big 0 (k + 1) (by omega)]; omega
  | succ n ih =>
    intro k
    cases k with
    | zero =>
      have h := ih 0
      show (0 + 1) * (ch (n + 1) 0 + ch (n + 1) (0 + 1)) = _
      rw [Nat.mul_add, h, ch_zero, ch_zero]; omega
    | succ k =>
      have h1 := ih k
      have h2 := ih (k + 1)
      show (k + 1 + 1) * (ch (n + 1) (k + 1) + ch (n + 1) (k + 1 + 1)) = (n + 1 + 1) * (ch (n + 1) (k + 1))
      rw [Nat.mul_add, h2]
      have e : ch (n + 1) (k + 1) = ch n k + ch n (k + 1) := rfl
      rw [Nat.add_mul (k + 1) 1, h1, Nat.add_mul (n + 1) 1 (ch (n + 1) (k + 1))]
      have e' : (n + 1) * ch (n + 1) (k + 1) = (n + 1) * ch n k + (n + 1) * ch n (k + 1) := by rw [e, Nat.mul_add]
      omega
theorem ch_dvd {p : Nat} (hp : Prm p) (k : Nat) (h0 : 0 < k) (hk : k < p) : p ∣ ch p k := by
  obtain ⟨k, rfl⟩ : ∃ j, k = j + 1 := ⟨k - 1, by omega⟩
  obtain ⟨n, rfl⟩ : ∃ j, p = j + 1 := ⟨p - 1, by omega⟩
  have h : n + 1 ∣ (k + 1) * ch (n + 1) (k + 1) := ⟨ch n k, ch_absorb n k⟩
  rcases hp.mul h with h1 | h1
  · have := Nat.le_of_dvd (by omega) h1; omega
  · exact h1
def sm (f : Nat → Nat) : Nat → Nat
  | 0 => 0
  | n + 1 => sm f n + f n
theorem sm_first (f : Nat → Nat) (n : Nat) : sm f (n + 1) = f 0 + sm (fun k => f (k + 1)) n := by
  induction n with
  | zero => simp [sm]
  | succ n ih => rw [sm, ih]; simp only [sm]; omega
theorem sm_add (f g : Nat → Nat) (n : Nat) : sm (fun k => f k + g k) n = sm f n + sm g n := by
  induction n with
  | zero => rfl
  | succ n ih => simp only [sm]; rw [ih]; omega
theorem sm_mul (f : Nat → Nat) (c n : Nat) : sm (fun k => c * f k) n = c * sm f n := by
  induction n with
  | zero => rfl
  | succ n ih => simp only [sm]; rw [ih, Nat.mul_add]
theorem sm_congr (f g : Nat → Nat) (n : Nat) (h : ∀ k, k < n → f k = g k) : sm f n = sm g n := by
  induction n with
  | zero => rfl
  | succ n ih => simp only [sm]; rw [ih (fun k hk => h k (by omega)), h n (by omega)]
theorem sm_dvd (f : Nat → Nat) (p n : Nat) (h : ∀ k, k < n → p ∣ f k) : p ∣ sm f n := by
  induction n with
  | zero => exact Nat.dvd_zero p
  | succ n ih => exact Nat.dvd_add (ih (fun k hk => h k (by omega))) (h n (by omega))
theorem binom (a n : Nat) : (a + 1) ^ n = sm (fun k => ch n k * a ^ k) (n + 1) := by
  induction n with
  | zero => simp [sm, ch]
  | succ n ih =>
    rw [Nat.pow_succ, ih, Nat.mul_add, Nat.mul_one]
    rw [sm_first (fun k => ch (n + 1) k * a ^ k) (n + 1)]
    have e : ∀ k, ch (n + 1) (k + 1) * a ^ (k + 1) = a * (ch n k * a ^ k) + ch n (k + 1) * a ^ (k + 1) := by
      intro k
      show (ch n k + ch n (k + 1)) * a ^ (k + 1) = _
      rw [Nat.add_mul, Nat.pow_succ]
      congr 1
      rw [Nat.mul_comm (a ^ k) a, Nat.mul_left_comm]
    have e1 : sm (fun k => ch (n + 1) (k + 1) * a ^ (k + 1)) (n + 1)
        = a * sm (fun k => ch n k * a ^ k) (n + 1) + sm (fun k => ch n (k + 1) * a ^ (k + 1)) (n + 1) := by
      rw [← sm_mul, ← sm_add]
      exact sm_congr _ _ _ (fun k _ => e k)
    rw [e1]
    have e2 : sm (fun k => ch n k * a ^ k) (n + 1) = 1 + sm (fun k => ch n (k + 1) * a ^ (k + 1)) (n + 1) := by
      rw [sm_first (fun k => ch n k * a ^ k) n]
      have : sm (fun k => ch n (k + 1) * a ^ (k + 1)) (n + 1) = sm (fun k => ch n (k + 1) * a ^ (k + 1)) n + ch n (n + 1) * a ^ (n + 1) := rfl
      rw [this, ch_big n (n + 1) (by omega), ch_zero]
      simp
    rw [ch_zero, Nat.pow_zero, Nat.mul_comm _ a]
    omega
theorem dream {p : Nat} (hp : Prm p) (a : Nat) : (a + 1) ^ p % p = (a ^ p + 1) % p := by
  obtain ⟨n, rfl⟩ : ∃ j, p = j + 1 := ⟨p - 1, by have := hp.1; omega⟩
  rw [binom, sm, sm_first]
  obtain ⟨c, hc⟩ := sm_dvd (fun k => ch (n + 1) (k + 1) * a ^ (k + 1)) (n + 1) n
    (fun k hk => Nat.dvd_trans (ch_dvd hp (k + 1) (by omega) (by omega)) (Nat.dvd_mul_right _ _))
  rw [hc, ch_self, ch_zero, Nat.pow_zero]
  have : 1 * 1 + (n + 1) * c + 1 * a ^ (n + 1) = (a ^ (n + 1) + 1) + (n + 1) * c := by omega
  rw [this, Nat.add_mul_mod_self_left]
theorem fermat {p : Nat} (hp : Prm p) (a : Nat) : a ^ p % p = a % p := by
  induction a with
  | zero => rw [Nat.zero_pow hp.pos]
  | succ a ih => rw [dream hp, Nat.add_mod, ih, ← Nat.add_mod]
theorem fermat1 {p : Nat} (hp : Prm p) (a : Nat) (ha : ¬ p ∣ a) : a ^ (p - 1) % p = 1 := by
  have h := fermat hp a
  obtain ⟨n, rfl⟩ : ∃ j, p = j + 1 := ⟨p - 1, by have := hp.1; omega⟩
  rw [Nat.add_sub_cancel]
  rw [Nat.pow_succ] at h
  have hn : 0 < n := by have := hp.1; omega
  have h1 : 1 ≤ a ^ n := Nat.one_le_iff_ne_zero.mpr (fun e => by
    rcases Nat.pow_eq_zero.mp e with ⟨e1, -⟩
    rw [e1] at ha; exact ha (Nat.dvd_zero _))
  have h2 : n + 1 ∣ (a ^ n - 1) * a := by
    rw [Nat.sub_mul, Nat.one_mul]
    exact Nat.dvd_of_mod_eq_zero (Nat.sub_mod_eq_zero_of_mod_eq h)
  rcases hp.mul h2 with h3 | h3
  · obtain ⟨c, hc⟩ := h3
    have : a ^ n = 1 + (n + 1) * c := by omega
    rw [this, Nat.add_mul_mod_self_left, Nat.mod_eq_of_lt hp.1]
  · exact absurd h3 ha
/-! Orders. -/
theorem least (P : Nat → Prop) (n : Nat) (h : P n) : ∃ m, P m ∧ ∀ k, k < m → ¬ P k := by
  induction n using Nat.strongRecOn with
  | ind n ih =>
    by_cases hk : ∃ k, k < n ∧ P k
    · obtain ⟨k, h1, h2⟩ := hk
      exact ih k h1 h2
    · exact ⟨n, h, fun k h1 h2 => hk ⟨k, h1, h2⟩⟩
theorem order {d : Nat} (hd : Prm d) (a : Nat) (ha : ¬ d ∣ a) :
    ∃ e, e ∣ d - 1 ∧ a ^ e % d = 1 ∧ ∀ m, a ^ m % d = 1 → e ∣ m := by
  obtain ⟨e, ⟨h0, h1⟩, h2⟩ := least (fun e => 0 < e ∧ a ^ e % d = 1) (d - 1) ⟨by have := hd.1; omega, fermat1 hd a ha⟩
  have h3 : ∀ m, a ^ m % d = 1 → e ∣ m := by
    intro m hm
    by_cases hr : m % e = 0
    · exact Nat.dvd_of_mod_eq_zero hr
    · exfalso
      refine h2 (m % e) (Nat.mod_lt _ h0) ⟨by omega, ?_⟩
      have e1 : a ^ m = (a ^ e) ^ (m / e) * a ^ (m % e) := by
        rw [← Nat.pow_mul, ← Nat.pow_add, Nat.div_add_mod]
      rw [e1, Nat.mul_mod, Nat.pow_mod, h1, Nat.one_pow, Nat.mod_eq_of_lt hd.1, Nat.one_mul, Nat.mod_mod] at hm
      exact hm
  exact ⟨e, h3 _ (fermat1 hd a ha), h1, h3⟩
/-- Pocklington: each prime that divides N leaves 1 by F. -/
theorem pock {N M F a d : Nat} (qs : List Nat) (hM : N = M + 1) (hF : F ∣ M) (hd : Prm d) (hdN : d ∣ N) (h1 : a ^ M % N = 1)
    (hc : ∀ t, (∀ q, q ∈ qs → Nat.Coprime q t) → Nat.Coprime F t)
    (hq : ∀ q, q ∈ qs → Prm q ∧ q ∣ M ∧ Nat.Coprime (a ^ (M / q) % N + M) N) : F ∣ d - 1 := by
  have hmod : ∀ x, x % N % d = x % d := fun x => Nat.mod_mod_of_dvd x hdN
  have h1d : a ^ M % d = 1 := by rw [← hmod, h1, Nat.mod_eq_of_lt hd.1]
  have hM0 : M ≠ 0 := by
    intro e; rw [e] at hM; rw [hM] at hdN; have := Nat.dvd_one.mp hdN; have := hd.1; omega
  have ha : ¬ d ∣ a := by
    intro h
    have h2 : d ∣ a ^ M := Nat.dvd_trans h (by
      obtain ⟨k, hk⟩ : ∃ k, M = k + 1 := ⟨M - 1, by omega⟩
      rw [hk, Nat.pow_succ]; exact Nat.dvd_mul_left _ _)
    have := Nat.mod_eq_zero_of_dvd h2
    omega
  obtain ⟨e, h2, h3, h4⟩ := order hd a ha
  obtain ⟨t, ht⟩ := h4 M h1d
  have hcop : Nat.Coprime F t := by
    refine hc t (fun q hqm => ?_)
    obtain ⟨g1, g2, g3⟩ := hq q hqm
    refine g1.cop (fun hqt => ?_)
    obtain ⟨s, hs⟩ := hqt
    have g4 : M / q = e * s := by
      rw [ht, hs, Nat.mul_left_comm, Nat.mul_div_cancel_left _ g1.pos]
    have g5 : a ^ (M / q) % d = 1 := by
      rw [g4, Nat.pow_mul, Nat.pow_mod, h3, Nat.one_pow, Nat.mod_eq_of_lt hd.1]
    have g6 : d ∣ a ^ (M / q) % N + M := by
      refine Nat.dvd_of_mod_eq_zero ?_
      rw [Nat.add_mod, hmod, g5, ← Nat.mod_eq_of_lt hd.1, ← Nat.add_mod, Nat.add_comm 1 M, ← hM]
      exact Nat.mod_eq_zero_of_dvd hdN
    have g7 := Nat.dvd_gcd g6 hdN
    rw [g3] at g7
    have := Nat.dvd_one.mp g7; have := hd.1; omega
  have h5 : F ∣ e := hcop.dvd_of_dvd_mul_right (ht ▸ hF)
  exact Nat.dvd_trans h5 h2
/-- A number whose prime divisors all leave 1 by F, F F above it, is prime. -/
theorem prm_of {N F : Nat} (hN : 1 < N) (hF : N < F * F) (h : ∀ d, Prm d → d ∣ N → F ∣ d - 1) : Prm N := by
  obtain ⟨d, hd, hdN⟩ := prm_dvd N hN
  by_cases e : d = N
  · exact e ▸ hd
  · exfalso
    obtain ⟨c, hc⟩ := hdN
    have hc1 : 1 < c := by
      rcases c with _ | _ | c
      · omega
      · omega
      · omega
    obtain ⟨d', hd', hdc⟩ := prm_dvd c hc1
    have g1 : F ≤ d - 1 := Nat.le_of_dvd (by have := hd.1; omega) (h d hd ⟨c, hc⟩)
    have g2 : F ≤ d' - 1 := Nat.le_of_dvd (by have := hd'.1; omega) (h d' hd' (Nat.dvd_trans hdc ⟨d, by rw [hc, Nat.mul_comm]⟩))
    have g3 := Nat.le_of_dvd (by omega) hdc
    have g4 : F * F ≤ d * c := Nat.mul_le_mul (by omega) (by omega)
    omega
/-- All divisors leave 1 by F. -/
theorem all_one {N F : Nat} (h : ∀ d, Prm d → d ∣ N → F ∣ d - 1) : ∀ c, 0 < c → c ∣ N → F ∣ c - 1 := by
  intro c
  induction c using Nat.strongRecOn with
  | ind c ih =>
    intro h0 hc
    by_cases h1 : c = 1
    · rw [h1]; exact Nat.dvd_zero F
    · obtain ⟨d, hd, hdc⟩ := prm_dvd c (by omega)
      obtain ⟨b, hb⟩ := hdc
      have hb0 : 0 < b := by
        rcases b with _ | b
        · omega
        · omega
      have g1 := h d hd (Nat.dvd_trans ⟨b, hb⟩ hc)
      have hlt : b < c := by
        have := hd.1
        have : 2 * b ≤ d * b := Nat.mul_le_mul (by omega) (Nat.le_refl b)
        omega
      have g2 := ih b hlt hb0 (Nat.dvd_trans ⟨d, by rw [hb, Nat.mul_comm]⟩ hc)
      obtain ⟨x, hx⟩ := g1
      obtain ⟨y, hy⟩ := g2
      have ed : d = F * x + 1 := by have := hd.1; omega
      have eb : b = F * y + 1 := by omega
      refine ⟨F * x * y + x + y, ?_⟩
      have : (F * x + 1) * (F * y + 1) = F * (F * x * y + x + y) + 1 := by grind
      rw [hb, ed, eb, this, Nat.add_sub_cancel]
/-- Of a number below F F F: with c1, c2 its digits by F, and c1 c1 - 4 c2 no square, it is prime. -/
theorem prm_cube {N F c1 c2 s : Nat} (hN : 1 < N) (hF : 1 < F) (e : N = 1 + F * c1 + F * F * c2) (h1 : c1 < F) (h2 : c2 + 1 < F)
    (hs : s * s + 4 * c2 < c1 * c1) (hs2 : c1 * c1 < (s + 1) * (s + 1) + 4 * c2)
    (h : ∀ d, Prm d → d ∣ N → F ∣ d - 1) : Prm N := by
  have hall := all_one h
  refine ⟨hN, fun d hd => ?_⟩
  obtain ⟨c, hc⟩ := hd
  have hd0 : 0 < d := by
    rcases d with _ | d
    · rw [Nat.zero_mul] at hc; omega
    · omega
  have hc0 : 0 < c := by
    rcases c with _ | c
    · rw [Nat.mul_zero] at hc; omega
    · omega
  obtain ⟨x, hx⟩ := hall d hd0 ⟨c, hc⟩
  obtain ⟨y, hy⟩ := hall c hc0 ⟨d, by rw [hc, Nat.mul_comm]⟩
  have ed : d = F * x + 1 := by omega
  have ec : c = F * y + 1 := by omega
  by_cases hx0 : x = 0
  · left; rw [ed, hx0]; omega
  by_cases hy0 : y = 0
  · right; rw [hc, ec, hy0]; simp
  exfalso
  have e1 : 1 + F * c1 + F * F * c2 = 1 + F * (x + y) + F * F * (x * y) := by
    rw [← e, hc, ed, ec]
    grind
  have e2 : c1 + F * c2 = (x + y) + F * (x * y) := by
    have : F * (c1 + F * c2) = F * ((x + y) + F * (x * y)) := by
      grind
    exact Nat.eq_of_mul_eq_mul_left (by omega) this
  -- x y is at most c2 + something: bring both below F
  have hxy : x * y ≤ c2 := by
    rcases Nat.lt_or_ge c2 (x * y) with h5 | h5
    · exfalso
      have : F * (c2 + 1) ≤ F * (x * y) := Nat.mul_le_mul (Nat.le_refl F) h5
      have : F * (c2 + 1) = F * c2 + F := by rw [Nat.mul_add, Nat.mul_one]
      omega
    · exact h5
  have hsum : x + y ≤ x * y + 1 := by
    obtain ⟨x', rfl⟩ : ∃ k, x = k + 1 := ⟨x - 1, by omega⟩
    obtain ⟨y', rfl⟩ : ∃ k, y = k + 1 := ⟨y - 1, by omega⟩
    have : (x' + 1) * (y' + 1) = x' * y' + x' + y' + 1 := by grind
    omega
  have hxye : x * y = c2 := by
    rcases Nat.lt_or_ge (x * y) c2 with h5 | h5
    · exfalso
      have : F * (x * y + 1) ≤ F * c2 := Nat.mul_le_mul (Nat.le_refl F) h5
      have : F * (x * y + 1) = F * (x * y) + F := by rw [Nat.mul_add, Nat.mul_one]
      omega
    · omega
  have hs1 : x + y = c1 := by rw [hxye] at e2; omega
  -- (x - y)^2 = c1 c1 - 4 c2
  rcases Nat.le_total x y with hle | hle
  · obtain ⟨k, hk⟩ : ∃ k, y = x + k := ⟨y - x, by omega⟩
    have hsq : c1 * c1 = k * k + 4 * c2 := by rw [← hs1, ← hxye, hk]; grind
    have a1 : s * s < k * k := by omega
    have a2 : k * k < (s + 1) * (s + 1) := by omega
    have b1 : s < k := Nat.mul_self_lt_mul_self_iff.mp a1
    have b2 : k < s + 1 := Nat.mul_self_lt_mul_self_iff.mp a2
    omega
  · obtain ⟨k, hk⟩ : ∃ k, x = y + k := ⟨x - y, by omega⟩
    have hsq : c1 * c1 = k * k + 4 * c2 := by rw [← hs1, ← hxye, hk]; grind
    have a1 : s * s < k * k := by omega
    have a2 : k * k < (s + 1) * (s + 1) := by omega
    have b1 : s < k := Nat.mul_self_lt_mul_self_iff.mp a1
    have b2 : k < s + 1 := Nat.mul_self_lt_mul_self_iff.mp a2
    omega
/-! Powers by squaring, for the kernel. -/
def pm (N : Nat) : Nat → Nat → Nat → Nat → Nat
  | 0, _, _, acc => acc
  | f + 1, b, e, acc => pm N f (b * b % N) (e / 2) (if e % 2 = 1 then acc * b % N else acc)
theorem pm_spec (N : Nat) (f : Nat) : ∀ b e acc, e < 2 ^ f → pm N f b e acc % N = acc * b ^ e % N := by
  induction f with
  | zero =>
    intro b e acc h
    have : e = 0 := by simpa using h
    rw [this, Nat.pow_zero, Nat.mul_one]; rfl
  | succ f ih =>
    intro b e acc h
    show pm N f (b * b % N) (e / 2) (if e % 2 = 1 then acc * b % N else acc) % N = _
    rw [ih _ _ _ (by rw [Nat.pow_succ] at h; omega)]
    have h1 : (b * b % N) ^ (e / 2) % N = b ^ (2 * (e / 2)) % N := by
      rw [← Nat.pow_mod, Nat.pow_mul, Nat.pow_two]
    rw [Nat.mul_mod, h1, ← Nat.mul_mod]
    by_cases he : e % 2 = 1
    · rw [if_pos he, Nat.mul_mod, Nat.mod_mod, ← Nat.mul_mod, Nat.mul_assoc, ← Nat.pow_add_one']
      have : 2 * (e / 2) + 1 = e := by omega
      rw [this]
    · rw [if_neg he]
      have : 2 * (e / 2) = e := by omega
      rw [this]
theorem pm_spec2 (N g h b e acc : Nat) (hh : e < 2 ^ g * 2 ^ h) : pm N (g + h) b e acc % N = acc * b ^ e % N :=
  pm_spec N (g + h) b e acc (by rw [Nat.pow_add]; exact hh)
theorem pm_eq {N a e c : Nat} (h : e < 2 ^ 256 * 2 ^ 256 ∧ pm N 512 a e 1 % N = c) : a ^ e % N = c := by
  have := pm_spec2 N 256 256 a e 1 h.1
  rw [Nat.one_mul] at this
  rw [← this]; exact h.2
theorem cop_pm {N a e M : Nat} (h : e < 2 ^ 256 * 2 ^ 256 ∧ Nat.gcd (pm N 512 a e 1 % N + M) N = 1) : Nat.Coprime (a ^ e % N + M) N := by
  have := pm_eq (N := N) (a := a) (e := e) ⟨h.1, rfl⟩
  rw [this]; exact h.2
/-! Trial division. -/
def tr (n : Nat) : Nat → Nat → Bool
  | 0, _ => true
  | f + 1, d => if n % d = 0 then false else tr n f (d + 1)
theorem tr_spec (n : Nat) (f : Nat) : ∀ d, tr n f d = true → ∀ c, d ≤ c → c < d + f → ¬ c ∣ n := by
  induction f with
  | zero => intro d _ c h1 h2; omega
  | succ f ih =>
    intro d h c h1 h2 hc
    unfold tr at h
    by_cases h0 : n % d = 0
    · rw [if_pos h0] at h; exact absurd h (by decide)
    · rw [if_neg h0] at h
      by_cases e : c = d
      · rw [e] at hc; exact h0 (Nat.mod_eq_zero_of_dvd hc)
      · exact ih (d + 1) h c (by omega) (by omega) hc
theorem prm_trial (n f : Nat) (h1 : 1 < n) (h2 : n < (f + 2) * (f + 2)) (h : n < 4 ∨ tr n f 2 = true) : Prm n := by
  refine ⟨h1, fun d hd => ?_⟩
  obtain ⟨c, hc⟩ := hd
  rcases h with h | h
  · have hd2 : d = 1 ∨ d = n := by
      have hle := Nat.le_of_dvd (by omega) (⟨c, hc⟩ : d ∣ n)
      have h0 : d ≠ 0 := by
        intro e; rw [e, Nat.zero_mul] at hc; omega
      rcases d with _ | _ | _ | d
      · exact absurd rfl h0
      · left; rfl
      · right
        have : n = 2 ∨ n = 3 := by omega
        rcases this with e | e
        · omega
        · omega
      · right; omega
    exact hd2
  · have key : ∀ x y, n = x * y → x ≤ y → x = 1 ∨ x = 0 := by
      intro x y e hle
      rcases Nat.lt_or_ge x 2 with g | g
      · omega
      · exfalso
        refine tr_spec n f 2 h x g ?_ ⟨y, e⟩
        rcases Nat.lt_or_ge x (2 + f) with g2 | g2
        · exact g2
        · exfalso
          have : (f + 2) * (f + 2) ≤ x * y := Nat.mul_le_mul (by omega) (by omega)
          omega
    rcases Nat.le_total d c with hle | hle
    · rcases key d c hc hle with e | e
      · exact Or.inl e
      · rw [e, Nat.zero_mul] at hc; omega
    · rcases key c d (by rw [hc, Nat.mul_comm]) hle with e | e
      · right; rw [hc, e, Nat.mul_one]
      · rw [e, Nat.mul_zero] at hc; omega
theorem pockp {N M F a d : Nat} (qs : List Nat) (hM : N = M + 1) (hF : F ∣ M) (hd : Prm d) (hdN : d ∣ N) (h1 : M < 2 ^ 256 * 2 ^ 256 ∧ pm N 512 a M 1 % N = 1)
    (hc : ∀ t, (∀ q, q ∈ qs → Nat.Coprime q t) → Nat.Coprime F t)
    (hq : ∀ q, q ∈ qs → Prm q ∧ q ∣ M ∧ M / q < 2 ^ 256 * 2 ^ 256 ∧ Nat.gcd (pm N 512 a (M / q) 1 % N + M) N = 1) : F ∣ d - 1 :=
  pock qs hM hF hd hdN (pm_eq h1) hc (fun q h => ⟨(hq q h).1, (hq q h).2.1, cop_pm (hq q h).2.2⟩)
theorem prm_7577 : Prm 7577 := prm_trial 7577 88 (by decide) (by decide) (by decide +kernel)
theorem prm_582767 : Prm 582767 := prm_trial 582767 764 (by decide) (by decide) (by decide +kernel)
theorem fac_9272813673901 : ∀ d, Prm d → d ∣ 9272813673901 → 4415625559 ∣ d - 1 := by
  intro d hd hdN
  refine pockp (N := 9272813673901) (M := 9272813673900) (F := 4415625559) (a := 2) [7577, 582767] (by decide) (by decide +kernel) hd hdN (by decide +kernel) ?_ ?_
  · intro t h
    have e : 4415625559 = (7577 * 582767) := by decide
    rw [e]
    exact Nat.Coprime.mul_left ((h 7577 (by decide))) ((h 582767 (by decide)))
  · intro q hq
    simp only [List.mem_cons, List.not_mem_nil, or_false] at hq
    rcases hq with rfl | rfl
    · exact ⟨prm_7577, by decide +kernel, by decide +kernel⟩
    · exact ⟨prm_582767, by decide +kernel, by decide +kernel⟩
theorem prm_9272813673901 : Prm 9272813673901 := prm_of (by decide) (by decide) fac_9272813673901
theorem fac_1928745244171409 : ∀ d, Prm d → d ∣ 1928745244171409 → 9272813673901 ∣ d - 1 := by
  intro d hd hdN
  refine pockp (N := 1928745244171409) (M := 1928745244171408) (F := 9272813673901) (a := 2) [9272813673901] (by decide) (by decide +kernel) hd hdN (by decide +kernel) ?_ ?_
  · intro t h
    have e : 9272813673901 = 9272813673901 := by decide
    rw [e]
    exact (h 9272813673901 (by decide))
  · intro q hq
    simp only [List.mem_cons, List.not_mem_nil, or_false] at hq
    subst hq
    · exact ⟨prm_9272813673901, by decide +kernel, by decide +kernel⟩
theorem prm_1928745244171409 : Prm 1928745244171409 := prm_of (by decide) (by decide) fac_1928745244171409
theorem fac_7259797099061183477 : ∀ d, Prm d → d ∣ 7259797099061183477 → 1928745244171409 ∣ d - 1 := by
  intro d hd hdN
  refine pockp (N := 7259797099061183477) (M := 7259797099061183476) (F := 1928745244171409) (a := 2) [1928745244171409] (by decide) (by decide +kernel) hd hdN (by decide +kernel) ?_ ?_
  · intro t h
    have e : 1928745244171409 = 1928745244171409 := by decide
    rw [e]
    exact (h 1928745244171409 (by decide))
  · intro q hq
    simp only [List.mem_cons, List.not_mem_nil, or_false] at hq
    subst hq
    · exact ⟨prm_1928745244171409, by decide +kernel, by decide +kernel⟩
theorem prm_7259797099061183477 : Prm 7259797099061183477 := prm_of (by decide) (by decide) fac_7259797099061183477
theorem fac_2584487767265781317813 : ∀ d, Prm d → d ∣ 2584487767265781317813 → 7259797099061183477 ∣ d - 1 := by
  intro d hd hdN
  refine pockp (N := 2584487767265781317813) (M := 2584487767265781317812) (F := 7259797099061183477) (a := 2) [7259797099061183477] (by decide) (by decide +kernel) hd hdN (by decide +kernel) ?_ ?_
  · intro t h
    have e : 7259797099061183477 = 7259797099061183477 := by decide
    rw [e]
    exact (h 7259797099061183477 (by decide))
  · intro q hq
    simp only [List.mem_cons, List.not_mem_nil, or_false] at hq
    subst hq
    · exact ⟨prm_7259797099061183477, by decide +kernel, by decide +kernel⟩
theorem prm_2584487767265781317813 : Prm 2584487767265781317813 := prm_of (by decide) (by decide) fac_2584487767265781317813
theorem prm_2 : Prm 2 := prm_trial 2 2 (by decide) (by decide) (by decide +kernel)
theorem prm_3 : Prm 3 := prm_trial 3 2 (by decide) (by decide) (by decide +kernel)
theorem prm_11 : Prm 11 := prm_trial 11 4 (by decide) (by decide) (by decide +kernel)
theorem prm_23 : Prm 23 := prm_trial 23 5 (by decide) (by decide) (by decide +kernel)
theorem prm_47 : Prm 47 := prm_trial 47 7 (by decide) (by decide) (by decide +kernel)
theorem prm_10177 : Prm 10177 := prm_trial 10177 101 (by decide) (by decide) (by decide +kernel)
theorem prm_859267 : Prm 859267 := prm_trial 859267 927 (by decide) (by decide) (by decide +kernel)
theorem prm_52437899 : Prm 52437899 := prm_trial 52437899 7242 (by decide) (by decide) (by decide +kernel)
theorem fac_p : ∀ d, Prm d → d ∣ 4002409555221667393417789825735904156556882819939007885332058136124031650490837864442687629129015664037894272559787 → 253663835868735594330404923636534084567099854 ∣ d - 1 := by
  intro d hd hdN
  refine pockp (N := 4002409555221667393417789825735904156556882819939007885332058136124031650490837864442687629129015664037894272559787) (M := 4002409555221667393417789825735904156556882819939007885332058136124031650490837864442687629129015664037894272559786) (F := 253663835868735594330404923636534084567099854) (a := 2) [2, 3, 11, 23, 47, 10177, 859267, 52437899, 2584487767265781317813] (by decide) (by decide +kernel) hd hdN (by decide +kernel) ?_ ?_
  · intro t h
    have e : 253663835868735594330404923636534084567099854 = (2 * (3 ^ 2 * (11 * (23 * (47 * (10177 * (859267 * (52437899 * 2584487767265781317813)))))))) := by decide
    rw [e]
    exact Nat.Coprime.mul_left ((h 2 (by decide))) (Nat.Coprime.mul_left (Nat.Coprime.pow_left 2 (h 3 (by decide))) (Nat.Coprime.mul_left ((h 11 (by decide))) (Nat.Coprime.mul_left ((h 23 (by decide))) (Nat.Coprime.mul_left ((h 47 (by decide))) (Nat.Coprime.mul_left ((h 10177 (by decide))) (Nat.Coprime.mul_left ((h 859267 (by decide))) (Nat.Coprime.mul_left ((h 52437899 (by decide))) ((h 2584487767265781317813 (by decide))))))))))
  · intro q hq
    simp only [List.mem_cons, List.not_mem_nil, or_false] at hq
    rcases hq with rfl | rfl | rfl | rfl | rfl | rfl | rfl | rfl | rfl
    · exact ⟨prm_2, by decide +kernel, by decide +kernel⟩
    · exact ⟨prm_3, by decide +kernel, by decide +kernel⟩
    · exact ⟨prm_11, by decide +kernel, by decide +kernel⟩
    · exact ⟨prm_23, by decide +kernel, by decide +kernel⟩
    · exact ⟨prm_47, by decide +kernel, by decide +kernel⟩
    · exact ⟨prm_10177, by decide +kernel, by decide +kernel⟩
    · exact ⟨prm_859267, by decide +kernel, by decide +kernel⟩
    · exact ⟨prm_52437899, by decide +kernel, by decide +kernel⟩
    · exact ⟨prm_2584487767265781317813, by decide +kernel, by decide +kernel⟩
theorem prm_p : Prm 4002409555221667393417789825735904156556882819939007885332058136124031650490837864442687629129015664037894272559787 := prm_cube (F := 253663835868735594330404923636534084567099854) (c1 := 41045055325326579460269857981194636858402675) (c2 := 62202009562450627810769096) (s := 41045055325326579460269857981194636858402674) (by decide) (by decide) (by decide) (by decide) (by decide) (by decide) (by decide) fac_p
theorem sq_mod {p z : Nat} (hp : Prm p) (h : z * z % p = 1) : z % p = 1 ∨ (z + 1) % p = 0 := by
  have h1 : 1 ≤ z := by
    rcases Nat.eq_zero_or_pos z with e | e
    · rw [e, Nat.mul_zero, Nat.zero_mod] at h; cases h
    · exact e
  have h2 : p ∣ (z - 1) * (z + 1) := by
    have e : (z - 1) * (z + 1) = z * z - 1 := by
      obtain ⟨y, rfl⟩ : ∃ y, z = y + 1 := ⟨z - 1, by omega⟩
      rw [Nat.add_sub_cancel]
      have : (y + 1) * (y + 1) = y * (y + 1 + 1) + 1 := by grind
      omega
    rw [e]
    refine Nat.dvd_of_mod_eq_zero (Nat.sub_mod_eq_zero_of_mod_eq ?_)
    rw [h, Nat.mod_eq_of_lt hp.1]
  rcases hp.mul h2 with h3 | h3
  · left
    obtain ⟨c, hc⟩ := h3
    rw [show z = 1 + p * c by omega, Nat.add_mul_mod_self_left, Nat.mod_eq_of_lt hp.1]
  · right; exact Nat.mod_eq_zero_of_dvd h3
/-- By a prime that leaves 3 by 4 the power is the number or the negated one. -/
theorem half_pow {p a j : Nat} (hp : Prm p) (h4 : p + 1 = 4 * (j + 1)) (ha : ¬ p ∣ a) : a ^ (2 * j + 2) % p = a % p ∨ (a ^ (2 * j + 2) + a) % p = 0 := by
  have hz : a ^ (2 * j + 1) * a ^ (2 * j + 1) % p = 1 := by
    rw [← Nat.pow_add, show 2 * j + 1 + (2 * j + 1) = p - 1 by omega]
    exact fermat1 hp a ha
  have e : a ^ (2 * j + 2) = a ^ (2 * j + 1) * a := by rw [show 2 * j + 2 = 2 * j + 1 + 1 by omega, Nat.pow_succ]
  rw [e]
  rcases sq_mod hp hz with h | h
  · left
    rw [Nat.mul_mod, h, Nat.one_mul, Nat.mod_mod]
  · right
    rw [show a ^ (2 * j + 1) * a + a = (a ^ (2 * j + 1) + 1) * a by rw [Nat.add_mul, Nat.one_mul], Nat.mul_mod, h, Nat.zero_mul, Nat.zero_mod]
theorem even_pow {p a b : Nat} (h : (a + b) % p = 0) (k : Nat) : a ^ (2 * k) % p = b ^ (2 * k) % p := by
  rw [Nat.pow_mul, Nat.pow_mul, Nat.pow_mod, Nat.pow_mod (b ^ 2)]
  congr 2
  rw [Nat.pow_two, Nat.pow_two]
  have e : a * a + b * (a + b) = b * b + a * (a + b) := by grind
  have e1 : (a * a + b * (a + b)) % p = a * a % p := by rw [Nat.add_mod, Nat.mul_mod b, h, Nat.mul_zero, Nat.zero_mod, Nat.add_zero, Nat.mod_mod]
  have e2 : (b * b + a * (a + b)) % p = b * b % p := by rw [Nat.add_mod, Nat.mul_mod a, h, Nat.mul_zero, Nat.zero_mod, Nat.add_zero, Nat.mod_mod]
  rw [← e1, ← e2, e]
end NT
end Go.Proofs.YtgdlhgbdigpfhaaDoor
end
