/- Texts of the proof, joined. -/
import Derived.Test.YtjmbgchoioepjaaP4
import Derived.Laws.BytesArg
import Derived.Laws.IdiomCopy
import Derived.Deep.OwnRows
import Derived.Deep.RegionHeld3
import Derived.Laws.AppendOwn
section
namespace Go.Proofs.Ytjmbgchoioepjaa
open Go.RowKit
namespace Rg
open NT
section
variable {p : Nat} [NeZero p]
theorem ph_jU {t : T3} (ht : Lt3 p t) (X : Nat) : ph p (jU p t.1 t.2.2 X) = ph p X * (ph p t.2.2 * ph p t.2.2) - ph p t.1 := by
  unfold jU
  rw [ph_mi _ _ ht.x, ph_tm, ph_tm]
theorem ph_jS {t : T3} (ht : Lt3 p t) (Y : Nat) : ph p (jS p t.2.1 t.2.2 Y) = ph p Y * (ph p t.2.2 * (ph p t.2.2 * ph p t.2.2)) - ph p t.2.1 := by
  unfold jS
  rw [ph_mi _ _ ht.y, ph_tm, ph_tm, ph_tm]
theorem p3_eq {a b : P3} (h1 : a.1 = b.1) (h2 : a.2.1 = b.2.1) (h3 : a.2.2 = b.2.2) : a = b := by
  obtain ⟨x, y, z⟩ := a
  obtain ⟨x', y', z'⟩ := b
  simp only at h1 h2 h3
  rw [h1, h2, h3]
/-- A triple and a point. -/
theorem jn_rep (hp : Pr p) (hq : Prm p) {t : T3} {a b : P3} (h : Rep p t a) (ha : On p a) (hb : On p b) : Rep p (jnT p t b.1 b.2.1 b.2.2) (dA p a b) ∧ On p (dA p a b) := by
  have hl := jn_lt hp h.lt (Z := b.2.2) hb.lt.x hb.lt.y
  by_cases hy : b.2.2 = true
  · have e : dA p a b = a := by
      unfold dA
      by_cases hz : a.2.2 = true
      · rw [if_pos hz, hb.zr hy, ha.zr hz]
      · rw [if_neg hz, if_pos hy]
    rw [e, hy, jnT_z]
    exact ⟨h, ha⟩
  · have hy : b.2.2 = false := by simpa using hy
    by_cases hz : a.2.2 = true
    · have e : dA p a b = b := by unfold dA; rw [if_pos hz]
      rw [e, hy, jnT_0 (h.zr hz)]
      have := rep_tO hp hb
      unfold tO at this
      rw [if_neg (by rw [hy]; decide)] at this
      exact ⟨this, hb⟩
    · have hz : a.2.2 = false := by simpa using hz
      obtain ⟨h1, h2, h3⟩ := h.nz hz
      have hc := ha.cv hz
      have hd := hb.cv hy
      have hz0 : t.2.2 ≠ 0 := fun e => h1 ((ph_eq0 h.lt.z).2 e)
      have eU : ph p (jU p t.1 t.2.2 b.1) = (ph p b.1 - ph p a.1) * (ph p t.2.2 * ph p t.2.2) := by
        rw [ph_jU h.lt, h2]
        grind
      have eS : ph p (jS p t.2.1 t.2.2 b.2.1) = (ph p b.2.1 - ph p a.2.1) * (ph p t.2.2 * (ph p t.2.2 * ph p t.2.2)) := by
        rw [ph_jS h.lt, h3]
        grind
      have hzz := fp_ne hq h1 h1
      have hzzz := fp_ne hq h1 hzz
      have xx : ∀ {u v : Nat}, u < p → v < p → ph p u - ph p v = 0 → u = v := fun hu hv e => ph_inj hu hv (by grind)
      by_cases hs : jU p t.1 t.2.2 b.1 = 0 ∧ jS p t.2.1 t.2.2 b.2.1 = 0
      · have e1 : b.1 = a.1 := by
          refine xx hb.lt.x ha.lt.x ?_
          rw [hs.1, ph_zero] at eU
          exact (fp_mul hq eU.symm).resolve_right hzz
        have e2 : b.2.1 = a.2.1 := by
          refine xx hb.lt.y ha.lt.y ?_
          rw [hs.2, ph_zero] at eS
          exact (fp_mul hq eS.symm).resolve_right hzzz
        have e : b = a := p3_eq e1 e2 (by rw [hy, hz])
        rw [hy, jnT_s hz0 hs, e]
        exact tw_rep hp hq h ha
      · rw [hy, jnT_g hz0 hs]
        rw [hy, jnT_g hz0 hs] at hl
        have hne : ¬ a = b := fun e => hs ⟨(ph_eq0 (mi_lt hp)).1 (by
          show ph p (jU p t.1 t.2.2 b.1) = 0
          rw [eU, e]; grind), (ph_eq0 (mi_lt hp)).1 (by
          show ph p (jS p t.2.1 t.2.2 b.2.1) = 0
          rw [eS, e]; grind)⟩
        by_cases hn : a = (b.1, mi p 0 b.2.1, b.2.2)
        · rw [dA_neg hz hy hn]
          have e1 : a.1 = b.1 := by
            have e2 := congrArg (fun q : P3 => q.1) hn
            exact e2
          refine ⟨⟨hl, fun _ => (ph_eq0 hl.z).1 ?_, fun h' => (by cases h')⟩, on_zero' hp⟩
          rw [ph_tm, eU, e1]
          grind
        · rw [dA_else hz hy hn hne]
          have hx : ph p b.1 - ph p a.1 ≠ 0 := fun e => by
            have e1 := xx hb.lt.x ha.lt.x e
            have e2 : (ph p b.2.1 - ph p a.2.1) * (ph p b.2.1 + ph p a.2.1) = 0 := by
              rw [e1] at hd
              grind
            rcases fp_mul hq e2 with e3 | e3
            · exact hne (p3_eq e1.symm (xx hb.lt.y ha.lt.y e3).symm (by rw [hy, hz]))
            · refine hn (p3_eq e1.symm (ph_inj ha.lt.y (mi_lt hp) ?_) (by show a.2.2 = b.2.2; rw [hy, hz]))
              rw [ph_mi0 _ hb.lt.y]
              grind
          have hmi : ph p (mi p b.1 a.1) ≠ 0 := by rw [ph_mi _ _ ha.lt.x]; exact hx
          have hi := ph_inv hq (by have := hp.lo; omega) hmi
          rw [ph_mi _ _ ha.lt.x] at hi
          have em : ph p (sl2 p a.1 a.2.1 b.1 b.2.1) * (ph p b.1 - ph p a.1) = ph p b.2.1 - ph p a.2.1 := by
            unfold sl2
            rw [ph_tm, ph_mi _ _ ha.lt.y]
            generalize ph p (pw p (mi p b.1 a.1) (p - 2)) = i at hi ⊢
            grind
          have eX := ph_d3X (m := sl2 p a.1 a.2.1 b.1 b.2.1) ha.lt.x hb.lt.x
          have eY := ph_d3Y hp (m := sl2 p a.1 a.2.1 b.1 b.2.1) (x := a.1) (x' := b.1) ha.lt.y
          rw [eX] at eY
          generalize jU p t.1 t.2.2 b.1 = u at hl eU ⊢
          generalize jS p t.2.1 t.2.2 b.2.1 = s at hl eS ⊢
          have fX : ph p (jX p t.1 u s) = ph p s * ph p s - ph p u * ph p u * ph p u - (ph p t.1 * (ph p u * ph p u) + ph p t.1 * (ph p u * ph p u)) := by
            unfold jX
            rw [ph_mi _ _ (pl_lt hp), ph_mi _ (jC p u) (tm_lt hp), ph_tm, ph_pl]
            unfold jC jM
            rw [ph_tm, ph_tm, ph_tm, ph_tm]
          have fY : ph p (jY p t.1 t.2.1 u s) = ph p s * (ph p t.1 * (ph p u * ph p u) - ph p (jX p t.1 u s)) - ph p t.2.1 * (ph p u * ph p u * ph p u) := by
            unfold jY
            rw [ph_mi _ _ (tm_lt hp), ph_tm, ph_mi _ (jX p t.1 u s) (mi_lt hp), ph_tm]
            unfold jC jM
            rw [ph_tm, ph_tm, ph_tm, ph_tm]
          rw [fX] at fY
          refine ⟨⟨hl, fun h' => (by cases h'), fun _ => ⟨?_, ?_, ?_⟩⟩, ⟨⟨mi_lt hp, mi_lt hp⟩, fun h' => (by cases h'), fun _ => ?_⟩⟩
          · rw [ph_tm, eU]
            exact fp_ne hq h1 (fp_ne hq hx hzz)
          · simp only
            rw [fX, ph_tm, eX, eU, eS]
            generalize ph p (sl2 p a.1 a.2.1 b.1 b.2.1) = m at em ⊢
            generalize ph p t.1 = x at *
            generalize ph p t.2.1 = y at *
            generalize ph p t.2.2 = z at *
            generalize ph p a.1 = X at *
            generalize ph p a.2.1 = Y at *
            generalize ph p b.1 = X' at *
            generalize ph p b.2.1 = Y' at *
            clear hi h fX fY eX eY eU eS xx
            have e : Y' = Y + m * (X' - X) := by grind
            subst h2 h3 e
            grind
          · simp only
            rw [fY, ph_tm, eY, eU, eS]
            generalize ph p (sl2 p a.1 a.2.1 b.1 b.2.1) = m at em ⊢
            generalize ph p t.1 = x at *
            generalize ph p t.2.1 = y at *
            generalize ph p t.2.2 = z at *
            generalize ph p a.1 = X at *
            generalize ph p a.2.1 = Y at *
            generalize ph p b.1 = X' at *
            generalize ph p b.2.1 = Y' at *
            clear hi h fX fY eX eY eU eS xx
            have e : Y' = Y + m * (X' - X) := by grind
            subst h2 h3 e
            grind
          · simp only
            rw [eY, eX]
            exact sum_on _ _ _ _ _ _ hc em hd hx hq rfl
theorem mtf_rep (hp : Pr p) (hq : Prm p) {a : P3} (ha : On p a) : ∀ (f n : Nat), Rep p (mtf p a.1 a.2.1 a.2.2 f n) (dmf p a f n) ∧ On p (dmf p a f n)
  | 0, _ => ⟨⟨⟨zero_lt hp, zero_lt hp, zero_lt hp⟩, fun _ => rfl, fun h => (by cases h)⟩, on_zero' hp⟩
  | f + 1, n => by
    obtain ⟨h1, h2⟩ := mtf_rep hp hq ha f (n / 2)
    obtain ⟨h3, h4⟩ := tw_rep hp hq h1 h2
    rw [mtf, dmf]
    split
    · exact ⟨⟨⟨zero_lt hp, zero_lt hp, zero_lt hp⟩, fun _ => rfl, fun h => (by cases h)⟩, on_zero' hp⟩
    · split
      · exact jn_rep hp hq h3 h4 ha
      · exact ⟨h3, h4⟩
/-- A point multiplied is the document's. -/
theorem mt_is (hp : Pr p) (hq : Prm p) {X Y : Nat} {Z : Bool} (h : oc p X Y Z = true) (n : Nat) : (pX p (mt p X Y Z n), pY p (mt p X Y Z n), pZ (mt p X Y Z n)) = dM p (X, Y, Z) n := by
  obtain ⟨h1, h2⟩ := mtf_rep hp hq (on_of hp h) 64 n
  exact rep_pt hp hq h1 h2
theorem ig_is (hp : Pr p) (hq : Prm p) (r X Y : Nat) (Z : Bool) : ig p r X Y Z = di p r X Y Z := by
  unfold ig di
  cases h : oc p X Y Z
  · rfl
  · have e := mt_is hp hq h r
    rw [← e]
    rfl
end
end Rg
end Go.Proofs.Ytjmbgchoioepjaa
end
section
namespace Go.Proofs.Ytjmbgchoioepjaa
open Go.RowKit
namespace Rg
open NT
/-- A suite of which the document knows the same, and whose p is a prime. -/
structure Kq (s : Int) (p r c gx gy : Nat) : Prop where
  k : Kd s p r c gx gy
  prm : Prm p
  of : ∀ w, Calls Try.prog 10 #[.int .i64 s] w fun e w' => e = .returned (.tuple #[V (kd p r c gx gy), .bool true]) ∧ Below w.heap.size w w'
theorem kq_1 : Kq 1 786251 65521 12 9723 164643 := ⟨kd_1, prm_786251, Of_1⟩
theorem kq_2 : Kq 2 1152921504606846223 72057594037927889 16 613740293506734924 666621259561003659 := ⟨kd_2, prm_1152921504606846223, Of_2⟩
theorem Kq.ne {s : Int} {p r c gx gy : Nat} (k : Kq s p r c gx gy) : NeZero p := ⟨Nat.ne_of_gt (zero_lt k.k.pr)⟩
theorem call10 : ∀ args w, (callFunc 10 args).run Try.prog w = .ok (.enter 10 args) w := by intro args w; go_simp
theorem call23 : ∀ args w, (callFunc 23 args).run Try.prog w = .ok (.enter 23 args) w := by intro args w; go_simp
section
variable {s : Int} {p r c gx gy : Nat}
end
end Rg
end Go.Proofs.Ytjmbgchoioepjaa
end
section
namespace Go.Proofs.Ytjmbgchoioepjaa
open Go.RowKit
namespace Rg
open NT
section
variable {p : Nat} [NeZero p]
/-- What makes 1 with a number that is not 0. -/
def iv (x : Fin p) : Fin p := ph p (pw p x.val (p - 2))
theorem ph_self (x : Fin p) : ph p x.val = x := Fin.ext (Nat.mod_eq_of_lt x.isLt)
theorem iv_spec (hp : Pr p) (hq : Prm p) {x : Fin p} (h : x ≠ 0) : x * iv x = 1 := by
  have e := ph_inv (a := x.val) hq (by have := hp.lo; omega) (by rw [ph_self]; exact h)
  rw [ph_self] at e
  exact e
/-- A field in which -1 is no square. -/
structure Fd (p : Nat) [NeZero p] : Prop where
  pr : Pr p
  prm : Prm p
  three : p % 4 = 3
theorem Fd.two (F : Fd p) : (2 : Fin p) ≠ 0 := fun e => by
  have h := congrArg Fin.val e
  have h2 : (2 : Fin p).val = 2 % p := rfl
  have h3 := F.pr.lo
  rw [h2, Nat.mod_eq_of_lt (by omega), show (0 : Fin p).val = 0 from Nat.zero_mod p] at h
  omega
theorem Fd.nosq (F : Fd p) (z : Fin p) : z * z ≠ -1 := fun e => by
  have h3 := F.three
  have hlo := F.pr.lo
  obtain ⟨k, hk⟩ : ∃ k, p = 4 * k + 3 := ⟨p / 4, by omega⟩
  have hz : z ≠ 0 := fun h => by
    rw [h] at e
    have : (1 : Fin p) = 0 := by grind
    have := congrArg Fin.val this
    have h2 : (1 : Fin p).val = 1 % p := rfl
    rw [h2, Nat.mod_eq_of_lt (by omega), show (0 : Fin p).val = 0 from Nat.zero_mod p] at this
    omega
  have e1 : (z.val * z.val + 1) % p = 0 := by
    have : z * z + 1 = 0 := by grind
    have h := congrArg Fin.val this
    rw [Fin.val_add, Fin.val_mul, Nat.mod_add_mod] at h
    rw [show (0 : Fin p).val = 0 from Nat.zero_mod p, show (1 : Fin p).val = 1 % p from rfl, Nat.add_mod_mod] at h
    exact h
  have e2 := even_pow e1 k
  have e3 := fermat1 F.prm z.val (fun hd => hz (Fin.ext (Nat.eq_zero_of_dvd_of_lt hd z.isLt)))
  rw [Nat.one_pow, Nat.mod_eq_of_lt (by omega : 1 < p)] at e2
  have e4 : z.val ^ (p - 1) % p = z.val * z.val % p := by
    have : z.val ^ (p - 1) = (z.val * z.val) ^ (2 * k) * (z.val * z.val) := by
      rw [← Nat.pow_succ, ← Nat.pow_two, ← Nat.pow_mul]
      congr 1
      omega
    rw [this, Nat.mul_mod, e2, Nat.one_mul, Nat.mod_mod]
  rw [e4] at e3
  rw [Nat.add_mod, e3, Nat.mod_eq_of_lt (by omega : 1 < p), Nat.mod_eq_of_lt (by omega)] at e1
  omega
theorem Fd.sum0 (F : Fd p) {a b : Fin p} (h : a * a + b * b = 0) : b = 0 := by
  by_cases hb : b = 0
  · exact hb
  · have hi := iv_spec F.pr F.prm hb
    refine absurd ?_ (F.nosq (a * iv b))
    generalize iv b = i at hi ⊢
    have : b * i * (b * i) = 1 := by rw [hi]; grind
    grind
end
end Rg
end Go.Proofs.Ytjmbgchoioepjaa
end
section
namespace Go.Proofs.Ytjmbgchoioepjaa
open Go.RowKit
namespace Rg
open NT
section
variable {p : Nat} [NeZero p]
end
end Rg
end Go.Proofs.Ytjmbgchoioepjaa
end
section
namespace Go.Proofs.Ytjmbgchoioepjaa
open Go.RowKit
namespace Rg
open NT
section
variable {p : Nat} [NeZero p]
/-- Numbers that carry y y = x x x + x over. -/
structure Al (p : Nat) [NeZero p] (al ep : Fin p) : Prop where
  fd : Fd p
  one : ep * ep = 1
  two : al * al = 2 * ep
section
variable {al ep : Fin p}
theorem Al.ep0 (A : Al p al ep) : ep ≠ 0 := fun e => A.fd.two (by have := A.one; grind)
theorem Al.s0 (A : Al p al ep) (u : Fin p) : u * u + 1 ≠ 0 := fun e => A.fd.nosq u (by grind)
theorem Al.w0 (A : Al p al ep) {u v : Fin p} (h : v * v = u * u * u + u) : u + ep ≠ 0 := fun e => by
  have e1 : u = -ep := by grind
  have h1 := A.one
  have h2 := A.two
  have : v * v + al * al = 0 := by
    rw [h, h2, e1]
    grind
  have h0 := A.fd.sum0 this
  rw [h0] at h2
  exact A.ep0 ((fp_mul A.fd.prm (show (2 : Fin p) * ep = 0 by grind)).resolve_left A.fd.two)
end
end
end Rg
end Go.Proofs.Ytjmbgchoioepjaa
end
section
namespace Go.Proofs.Ytjmbgchoioepjaa
open Go.RowKit
namespace Rg
open NT
section
variable {p : Nat} [NeZero p] {al ep : Fin p}
/-! The group. -/
end
end Rg
end Go.Proofs.Ytjmbgchoioepjaa
end
section
namespace Go.Proofs.Ytjmbgchoioepjaa
open Go.RowKit
namespace Rg
open NT
/-- A suite whose points are a group. -/
structure Kf (s : Int) (p r c gx gy : Nat) : Prop where
  q : Kq s p r c gx gy
  three : p % 4 = 3
theorem kf_1 : Kf 1 786251 65521 12 9723 164643 := ⟨kq_1, by decide⟩
theorem kf_2 : Kf 2 1152921504606846223 72057594037927889 16 613740293506734924 666621259561003659 := ⟨kq_2, by decide⟩
section
variable {s : Int} {p r c gx gy : Nat}
theorem Kf.fd (k : Kf s p r c gx gy) [NeZero p] : Fd p := ⟨k.q.k.pr, k.q.prm, k.three⟩
end
end Rg
end Go.Proofs.Ytjmbgchoioepjaa
end
section
namespace Go.Proofs.Ytjmbgchoioepjaa
open Go.RowKit
namespace Rg
def by8 (f : Nat → Int) (n : Nat) : List Value := (List.range n).map fun j => .int .u8 (f j)
theorem by8_len (f : Nat → Int) (n : Nat) : (by8 f n).length = n := by simp [by8]
theorem by8_get (f : Nat → Int) {n j : Nat} (h : j < n) : (by8 f n)[j]? = some (.int .u8 (f j)) := by
  unfold by8
  rw [List.getElem?_map, List.getElem?_eq_getElem (by simpa using h), List.getElem_range]
  rfl
theorem by8_inv {f : Nat → Int} {n j : Nat} {v : Value} (h : (by8 f n)[j]? = some v) : j < n ∧ v = .int .u8 (f j) := by
  have hj : j < n := by
    have := (List.getElem?_eq_some_iff.1 h).1
    rwa [by8_len] at this
  rw [by8_get f hj] at h
  exact ⟨hj, (Option.some.inj h).symm⟩
theorem by8_congr {f f' : Nat → Int} {n : Nat} (h : ∀ j, j < n → f j = f' j) : by8 f n = by8 f' n := by
  unfold by8
  exact List.map_congr_left fun j hj => by rw [h j (by simpa using hj)]
/-- A number's bytes, the highest first. -/
theorem by8_patch (f : Nat → Int) {n : Nat} (j : Nat) (v : Int) (h : j < n) : patch (by8 f n) j [.int .u8 v] = by8 (upd f j v) n := by
  apply List.ext_getElem?
  intro k
  rw [patch_get _ _ _ (by rw [by8_len]; simp; omega)]
  by_cases hk : k < n
  · rw [by8_get _ hk, by8_get _ hk]
    unfold upd
    by_cases e : k = j
    · rw [if_pos (by simp; omega), if_pos e, e]
      simp
    · rw [if_neg (by simp; omega), if_neg e]
  · rw [if_neg (by simp; omega), List.getElem?_eq_none (by rw [by8_len]; omega), List.getElem?_eq_none (by rw [by8_len]; omega)]
theorem ex_idxS {ρ : Operand → Value} {o : Oper} {x y : Operand} {g off m c k : Nat} {w : World} (ho : o.op = .indexAddr 59 x y) (hx : ρ x = .slice (some ⟨g, off, none⟩) m c) (hy : ρ y = .int .i64 (k : Int)) (h : k < m) : (execOp ρ o).run Try.prog w = .ok (.value (PT g (off + k))) w := by
  simp only [execOp, ho, hx, hy]
  clear ho hx hy
  go_simp
theorem ex_cv8 {ρ : Operand → Value} {o : Oper} {x : Operand} {a : Nat} {w : World} (ho : o.op = .convert 23 5 x) (hx : ρ x = U a) : (execOp ρ o).run Try.prog w = .ok (.value (.int .u8 ((a % 256 : Nat) : Int))) w := by
  simp only [execOp, ho, hx]
  clear ho hx
  go_simp
  simp [IntKind.wrap, IntKind.bits, IntKind.signed]
theorem ex_mk8 {ρ : Operand → Value} {o : Oper} {x y : Operand} {w : World} (ho : o.op = .makeSlice 59 x y) (hx : ρ x = .int .i64 17) (hy : ρ y = .int .i64 17) :
    (execOp ρ o).run Try.prog w = .ok (.value (.slice (some ⟨w.heap.size, 0, none⟩) 17 17)) (w.alloc (.cells (by8 (fun _ => 0) 17).toArray 5)) := by
  simp only [execOp, ho, hx, hy]
  kernel_rfl
theorem call67 : ∀ args w, (callFunc 67 args).run Try.prog w = .ok (.enter 67 args) w := by intro args w; go_simp
/-- The bytes of a number, the highest first. -/
def byt (n k : Nat) : Int := ((n / 2 ^ (8 * (7 - k)) % 256 : Nat) : Int)
def pn (f : Nat → Int) (off n k : Nat) : Nat → Int := fun j => if off ≤ j ∧ j < off + k then byt n (j - off) else f j
theorem pn_zero (f : Nat → Int) (off n : Nat) : pn f off n 0 = f := by
  funext j
  unfold pn
  rw [if_neg (by omega)]
theorem pn_step (f : Nat → Int) (off n k : Nat) : upd (pn f off n k) (off + k) (byt n k) = pn f off n (k + 1) := by
  funext j
  unfold upd pn
  by_cases h : j = off + k
  · rw [if_pos h, if_pos (by omega), show j - off = k by omega]
  · rw [if_neg h]
    by_cases h2 : off ≤ j ∧ j < off + k
    · rw [if_pos h2, if_pos (by omega)]
    · rw [if_neg h2, if_neg (by omega)]
set_option maxHeartbeats 1000000 in
set_option maxRecDepth 100000 in
theorem put_any (g off m0 cp n : Nat) (f : Nat → Int) (ho : off + 8 ≤ 17) (hm8 : 8 ≤ m0) (w : World) (hm : Mm w [(g, by8 f 17)]) :
    Calls Try.prog 67 #[.slice (some ⟨g, off, none⟩) m0 cp, U n] w fun e w' => e = .returned (.tuple #[]) ∧ Mm w' [(g, by8 (pn f off n 8) 17)] ∧ Kp g w w' := by
  have H0 : Hid (_ ∧ _) := ⟨hm, Kp.refl g w⟩
  clear hm
  go_enter Try.func67, Try.ntmps67
  refine wp_seq ?_
  refine walk_seqA 1 [.quiet (.int .i64 0)] (sB H0) ?ho1 ?he1
  case ho1 => exact ak (fun _ => ⟨rfl, fun _ _ => rfl⟩) trivial
  intro γ w1 l hM hl
  have H1 := keepK H0 hM.below
  clear hM hl l γ
  refine rest0 rfl (then_normal (wp_block ?_))
  refine loop_ghost (α := Nat) (fun k a' w' => ∃ s0 : Nat → Value, a' = ⟨#[.slice (some ⟨g, off, none⟩) m0 cp, U n, undef, undef, s0 4, .int .i64 ((k : Nat) : Int), s0 6, s0 7, s0 8, s0 9, s0 10, s0 11, s0 12, s0 13, s0 14, s0 15, s0 16, s0 17], []⟩ ∧ (Mm w' [(g, by8 (pn f off n k) 17)] ∧ Kp g w w') ∧ k ≤ 8) (fun k => 8 - k) 0 ?st0 ?rd0
  case st0 => exact ⟨(slotfn [undef, undef, undef, undef, undef, undef, undef, undef, undef, undef, undef, undef, undef, undef, undef, undef, undef, undef]), rfl, ⟨by rw [pn_zero]; exact H1.out.1, H1.out.2⟩, by omega⟩
  intro k a' w2 hI
  obtain ⟨s0, rfl, hMB, hk0⟩ := hI
  have H2 : Hid (_ ∧ _) := hMB
  clear hMB H1
  by_cases hlt : k < 8
  · have hrd : True := trivial
    clear hrd
    refine wp_seq ?_
    refine walk_seqA 1 [.quiet (.bool true)] (sB H2) ?ho2 ?he2
    case ho2 => exact ak (by refine fun γ => ⟨rfl, fun w' h => ?_⟩; clear h; go_simp <;> omega) trivial
    intro γ w3 l hM hl
    have H3 := keepK H2 hM.below
    clear hM hl l H2 γ
    refine rest0 rfl (then_normal (wp_seq ?_))
    refine wp_cond_true rfl (wp_skip ?_)
    refine then_normal (wp_seq ?_)
    refine wp_block (wp_seq ?_)
    refine walk_seqA 2 [.quiet (.int .i64 ((k : Nat) : Int)), .quiet (.int .i64 ((k : Nat) : Int))] (sB H3) ?ho3 ?he3
    case ho3 => exact ak (fun _ => ⟨rfl, fun _ _ => rfl⟩) (ak (fun _ => ⟨rfl, fun _ _ => rfl⟩) trivial)
    intro γ w4 l hM hl
    have H4 := keepK H3 hM.below
    clear hM hl l H3 γ
    refine rest0 rfl (then_normal ?_)
    refine walk_seqA 9 [.quiet (.slice (some ⟨g, off, none⟩) m0 cp), .quiet (.int .i64 ((k : Nat) : Int)), .quiet (U n), .quiet (.int .i64 ((k : Nat) : Int)), .quiet (.int .i64 ((7 - k : Nat) : Int)), .quiet (.int .i64 ((8 * (7 - k) : Nat) : Int)), .quiet (U (n / 2 ^ (8 * (7 - k)))), .quiet (.int .u8 ((n / 2 ^ (8 * (7 - k)) % 256 : Nat) : Int)), .quiet (PT g (off + k))] (sB H4) ?ho4 ?he4
    case ho4 => exact ak (fun _ => ⟨rfl, fun _ _ => rfl⟩) (ak (fun _ => ⟨rfl, fun _ _ => rfl⟩) (ak (fun _ => ⟨rfl, fun _ _ => rfl⟩) (ak (fun _ => ⟨rfl, fun _ _ => rfl⟩) (ak (by refine fun γ => ⟨rfl, fun w' h => ?_⟩; clear h; go_simp; rw [IntKind.wrap_i64]; omega) (ak (by refine fun γ => ⟨rfl, fun w' h => ?_⟩; clear h; go_simp; rw [IntKind.wrap_i64]; omega) (ak (fun γ => ⟨rfl, fun w' _ => ex_shrU (by omega) rfl rfl rfl⟩) (ak (fun γ => ⟨rfl, fun w' _ => ex_cv8 rfl rfl⟩) (ak (fun γ => ⟨rfl, fun w' _ => ex_idxS rfl rfl rfl (by omega)⟩) trivial))))))))
    intro γ w5 l hM hl
    have H5 := keepK H4 hM.below
    clear hM hl l H4 γ
    refine rest_at (l := [9]) rfl ?_
    refine rest_store rfl rfl rfl (ex_storeI H5.out.1 0 rfl rfl Try.sizeOf5 rfl rfl (by rw [by8_len]; omega)) ?_
    have H6 : Hid (Mm (w5.setCells g (off + k) [.int .u8 ((n / 2 ^ (8 * (7 - k)) % 256 : Nat) : Int)]) [(g, by8 (upd (pn f off n k) (off + k) ((n / 2 ^ (8 * (7 - k)) % 256 : Nat) : Int)) 17)] ∧ Kp g w (w5.setCells g (off + k) [.int .u8 ((n / 2 ^ (8 * (7 - k)) % 256 : Nat) : Int)])) := ⟨by
      have h := H5.out.1.put 0 (off := (off + k)) (vs := [.int .u8 ((n / 2 ^ (8 * (7 - k)) % 256 : Nat) : Int)]) rfl (by rw [by8_len]; simp only [List.length_cons, List.length_nil]; omega)
      rw [by8_patch _ _ _ (by omega)] at h
      exact h, H5.out.2.put (Or.inl rfl)⟩
    clear H5
    generalize hgw : World.setCells _ _ _ _ = w6 at H6 ⊢
    clear hgw
    refine rest_nil (block_normal (then_normal ?_))
    refine walk_seqA 1 [.quiet (.int .i64 ((k + 1 : Nat) : Int))] (sB H6) ?ho5 ?he5
    case ho5 => exact ak (by refine fun γ => ⟨rfl, fun w' h => ?_⟩; clear h; go_simp; rw [IntKind.wrap_i64]; omega) trivial
    intro γ w7 l hM hl
    have H7 := keepK H6 hM.below
    clear hM hl l H6 γ
    refine rest_at (l := [1]) rfl ?_
    refine rest_set (d := 5) rfl rfl rfl rfl ?_
    simp only [Act.put, sa, sz, ss]
    refine rest_nil (then_normal ?_)
    exact ⟨k + 1, ⟨(slotfn [undef, undef, undef, undef, .int .i64 ((k : Nat) : Int), undef, .bool true, .int .i64 ((k : Nat) : Int), .slice (some ⟨g, off, none⟩) m0 cp, .int .i64 ((k : Nat) : Int), U n, .int .i64 ((k : Nat) : Int), .int .i64 ((7 - k : Nat) : Int), .int .i64 ((8 * (7 - k) : Nat) : Int), U (n / 2 ^ (8 * (7 - k))), .int .u8 ((n / 2 ^ (8 * (7 - k)) % 256 : Nat) : Int), PT g (off + k), .int .i64 ((k + 1 : Nat) : Int)]), rfl, ⟨by rw [← pn_step]; exact H7.out.1, H7.out.2⟩, by omega⟩, by omega⟩
  have hk8 : k = 8 := by omega
  subst hk8
  refine wp_seq ?_
  refine walk_seqA 1 [.quiet (.bool false)] (sB H2) ?ho6 ?he6
  case ho6 => exact ak (by refine fun γ => ⟨rfl, fun w' h => ?_⟩; clear h; go_simp <;> omega) trivial
  intro γ w8 l hM hl
  have H8 := keepK H2 hM.below
  clear hM hl l H2 γ
  refine rest0 rfl (then_normal (wp_seq (wp_cond_false rfl ?_)))
  refine wp_exit ?_
  repeat refine then_exit ?_
  refine block_exit ?_
  refine bodyPost_end (v := .tuple #[]) (by simp [results, Try.results67, go_sem]) rfl ?_
  exact ⟨rfl, H8.out.1, H8.out.2⟩
section
variable {s : Int} {p r c gx gy : Nat}
set_option maxHeartbeats 1000000 in
set_option maxRecDepth 100000 in
theorem bytes_f (k : Kd s p r c gx gy) (X Y : Nat) (h1 : oc p X Y false = true) (w : World) :
    Calls Try.prog 35 #[.int .i64 s, .agg (pt X Y false).toArray] w fun e w' => Below w.heap.size w w' ∧ ∃ g, e = .returned (.tuple #[.slice (some ⟨g, 0, none⟩) 17 17, .int .i64 0]) ∧ w.heap.size ≤ g ∧ g < w'.heap.size ∧ Blk w' g (by8 (pn (pn (fun _ => 0) 1 X 8) 9 Y 8) 17) := by
  have H0 : Hid (_ ∧ _) := ⟨Mm.nil w, Below.refl w.heap.size w⟩
  go_enter Try.func35, Try.ntmps35
  refine wp_seq ?_
  refine walk_seqA 3 [.made (pt X Y false) 25, .quiet (.slice none 0 0), .quiet (.int .i64 0)] (sB H0) ?ho1 ?he1
  case ho1 => exact ak (fun γ => ⟨rfl, fun w' => ex_boxT rfl rfl⟩) (ak (fun _ => ⟨rfl, fun _ _ => rfl⟩) (ak (fun _ => ⟨rfl, fun _ _ => rfl⟩) trivial))
  intro γ w1 l hM hl
  have H1 : Hid (Mm w1 [(γ 0, pt X Y false)] ∧ _) := growB H0 hM (Nat.le_refl _) hl [0] rfl (by decide)
  have o1_0 := ownB H0 hM (Nat.le_refl _) hl (i := 0) rfl
  clear hM hl l
  generalize γ 0 = γ1_0 at H1 o1_0 ⊢
  clear γ
  refine rest0 rfl (then_normal (wp_seq (wp_seq ?_)))
  refine walk_seqB 2 [.quiet (.int .i64 s), .quiet (.agg (pt X Y false).toArray)] H1 ?ho2 ?he2
  case ho2 => exact ak (fun _ => ⟨rfl, fun _ _ => rfl⟩) (ak (fun γ => ⟨rfl, fun w' h => ex_loadT h 0 rfl rfl rfl Try.isAgg25 Try.sizeOf25 rfl rfl⟩) trivial)
  intro _ w2 H2
  clear H1
  refine rest_at (l := [2, 3, 4, 5, 6, 7, 8, 9]) rfl ?_
  refine rest_set (d := 12) (v := .slice (some ⟨w2.heap.size, 0, none⟩) 1 1) (w' := w2.alloc (.cells (pt X Y false : List Value).toArray 25)) rfl rfl rfl (ex_bs1 rfl rfl) ?_
  simp only [Act.put, sa, sz, ss]
  have o_γs3 : Hid (w.heap.size ≤ w2.heap.size) := H2.out.2.size
  have H3 : Hid (Mm (w2.alloc (.cells (pt X Y false : List Value).toArray 25)) ((w2.heap.size, pt X Y false) :: [(γ1_0, pt X Y false)]) ∧ Below w.heap.size w (w2.alloc (.cells (pt X Y false : List Value).toArray 25))) := ⟨H2.out.1.alloc _ 25 rfl, H2.out.2.alloc H2.out.2.size _⟩
  clear H2
  generalize hgw : w2.alloc (.cells (pt X Y false : List Value).toArray 25) = w3 at H3 ⊢
  clear hgw
  generalize w2.heap.size = γs3 at o_γs3 H3 ⊢
  refine rest_enter (d := 13) (R := fun vv w' => vv = .tuple #[.agg (kd p r c gx gy).toArray, .int .i64 0] ∧ Below w3.heap.size w3 w') rfl rfl rfl (exec_call (args := #[.int .i64 s, .slice (some ⟨γs3, 0, none⟩) 1 1]) rfl call43 rfl (mpn rfl)) (Calls.mono (kw1_ok k X Y false h1 γs3 w3 (H3.out.1.one 0 rfl)) (fun e w2 hh => ⟨_, hh.1, rfl, hh.2⟩)) ?_
  rintro _ w4 ⟨rfl, hb⟩
  have H4 : Hid (_ ∧ _) := ⟨H3.out.1.below hb, H3.out.2.trans (hb.mono H3.out.2.size)⟩
  clear hb H3
  simp only [Act.put, sa, sz, ss]
  refine rest_set (d := 9) rfl rfl rfl rfl ?_
  simp only [Act.put, sa, sz, ss]
  refine rest_set (d := 14) (v := .agg (kd p r c gx gy).toArray) (w' := w4) rfl rfl rfl (by go_simp) ?_
  simp only [Act.put, sa, sz, ss]
  refine rest_set (d := 15) (v := .int .i64 0) (w' := w4) rfl rfl rfl (by go_simp) ?_
  simp only [Act.put, sa, sz, ss]
  refine rest_set (d := 6) (v := PT w4.heap.size 0) (w' := w4.alloc (.cells (kd 0 0 0 0 0 : List Value).toArray 72)) rfl rfl rfl (ex_made72 rfl) ?_
  simp only [Act.put, sa, sz, ss]
  have o_γs5 : Hid (w.heap.size ≤ w4.heap.size) := H4.out.2.size
  have H5 : Hid (Mm (w4.alloc (.cells (kd 0 0 0 0 0 : List Value).toArray 72)) ((w4.heap.size, kd 0 0 0 0 0) :: [(γs3, pt X Y false), (γ1_0, pt X Y false)]) ∧ Below w.heap.size w (w4.alloc (.cells (kd 0 0 0 0 0 : List Value).toArray 72))) := ⟨H4.out.1.alloc _ 72 rfl, H4.out.2.alloc H4.out.2.size _⟩
  clear H4
  generalize hgw : w4.alloc (.cells (kd 0 0 0 0 0 : List Value).toArray 72) = w5 at H5 ⊢
  clear hgw
  generalize w4.heap.size = γs5 at o_γs5 H5 ⊢
  refine rest_store rfl rfl rfl (ex_storeT (vs := kd p r c gx gy) H5.out.1 0 rfl rfl rfl rfl Try.sizeOf72 rfl (Nat.le_of_ble_eq_true rfl)) ?_
  have H6 : Hid (Mm (w5.setCells γs5 0 (kd p r c gx gy)) [(γs5, kd p r c gx gy), (γs3, pt X Y false), (γ1_0, pt X Y false)] ∧ Below w.heap.size w (w5.setCells γs5 0 (kd p r c gx gy))) := ⟨H5.out.1.put 0 (off := 0) (vs := kd p r c gx gy) rfl (Nat.le_of_ble_eq_true rfl), below_setCells _ o_γs5.out _ _ _ H5.out.2⟩
  clear H5
  generalize hgw : World.setCells _ _ _ _ = w6 at H6 ⊢
  clear hgw
  refine rest_set (d := 7) rfl rfl rfl rfl ?_
  simp only [Act.put, sa, sz, ss]
  refine rest_nil (then_normal (wp_seq ?_))
  refine walk_seqB 2 [.quiet (.int .i64 0), .quiet (.bool false)] H6 ?ho3 ?he3
  case ho3 => exact ak (fun _ => ⟨rfl, fun _ _ => rfl⟩) (ak (by refine fun γ => ⟨rfl, fun w' h => ?_⟩; clear h; go_simp) trivial)
  intro _ w7 H7
  clear H6
  refine rest0 rfl (then_normal (wp_cond_false rfl ?_))
  refine wp_skip (then_normal (wp_seq ?_))
  refine walk_seqB 0 [] H7 ?ho4 ?he4
  case ho4 => exact trivial
  intro _ w8 H8
  clear H7
  refine rest_at (l := [0, 1]) rfl ?_
  refine rest_set (d := 19) (v := .slice (some ⟨w8.heap.size, 0, none⟩) 17 17) (w' := w8.alloc (.cells (by8 (fun _ => 0) 17 : List Value).toArray 5)) rfl rfl rfl (ex_mk8 rfl rfl rfl) ?_
  simp only [Act.put, sa, sz, ss]
  have o_γs9 : Hid (w.heap.size ≤ w8.heap.size) := H8.out.2.size
  have H9 : Hid (Mm (w8.alloc (.cells (by8 (fun _ => 0) 17 : List Value).toArray 5)) ((w8.heap.size, by8 (fun _ => 0) 17) :: [(γs5, kd p r c gx gy), (γs3, pt X Y false), (γ1_0, pt X Y false)]) ∧ Below w.heap.size w (w8.alloc (.cells (by8 (fun _ => 0) 17 : List Value).toArray 5))) := ⟨H8.out.1.alloc _ 5 rfl, H8.out.2.alloc H8.out.2.size _⟩
  clear H8
  generalize hgw : w8.alloc (.cells (by8 (fun _ => 0) 17 : List Value).toArray 5) = w9 at H9 ⊢
  clear hgw
  generalize w8.heap.size = γs9 at o_γs9 H9 ⊢
  refine rest_set (d := 8) rfl rfl rfl rfl ?_
  simp only [Act.put, sa, sz, ss]
  refine rest_nil (then_normal ?_)
  refine wp_seq (wp_seq ?_)
  refine walk_seqB 2 [.quiet (PT γ1_0 2), .quiet (.bool false)] H9 ?ho5 ?he5
  case ho5 => exact ak (by refine fun γ => ⟨rfl, fun w' h => ?_⟩; clear h; go_simp) (ak (fun γ => ⟨rfl, fun w' h => ex_loadC h 3 rfl rfl rfl Try.isAgg4 rfl⟩) trivial)
  intro _ w10 H10
  clear H9
  refine rest0 rfl (then_normal (wp_cond_false rfl ?_))
  refine wp_skip (then_normal (wp_seq ?_))
  refine walk_anyB 4 [.quiet (.slice (some ⟨γs9, 0, none⟩) 17 17), .quiet (.slice (some ⟨γs9, 1, none⟩) 16 16), .quiet (PT γ1_0 0), .quiet (U X)] H10 ?ho6 ?he6
  case ho6 => exact ak (fun _ => ⟨rfl, fun _ _ => rfl⟩) (ak (by refine fun γ => ⟨rfl, fun w' h => ?_⟩; clear h; go_simp) (ak (by refine fun γ => ⟨rfl, fun w' h => ?_⟩; clear h; go_simp) (ak (fun γ => ⟨rfl, fun w' h => ex_loadC h 3 rfl rfl rfl Try.isAgg23 rfl⟩) trivial)))
  intro _ w11 H11
  clear H10
  refine rest_at (l := [4]) rfl ?_
  refine rest_enter (d := 28) (R := fun vv w' => vv = .tuple #[] ∧ Mm w' [(γs9, by8 (pn (fun _ => 0) 1 X 8) 17)] ∧ Kp γs9 w11 w') rfl rfl rfl (exec_call (args := #[.slice (some ⟨γs9, 1, none⟩) 16 16, U X]) rfl call67 rfl (mpn rfl)) (Calls.mono (put_any γs9 1 16 16 X (fun _ => 0) (by decide) (by decide) w11 (H11.out.1.one 0 rfl)) (fun e w2 hh => ⟨_, hh.1, rfl, hh.2⟩)) ?_
  rintro _ w12 ⟨rfl, hn, hp⟩
  have H12 : Hid (Mm w12 [(γs9, by8 (pn (fun _ => 0) 1 X 8) 17), (γs5, kd p r c gx gy), (γs3, pt X Y false), (γ1_0, pt X Y false)] ∧ Below w.heap.size w w12) := ⟨H11.out.1.change 0 rfl hp hn, Below.kp H11.out.2 hp o_γs9.out H11.out.2.size⟩
  clear hn hp H11
  simp only [Act.put, sa, sz, ss]
  refine rest_nil (then_normal (wp_seq ?_))
  refine walk_anyB 4 [.quiet (.slice (some ⟨γs9, 0, none⟩) 17 17), .quiet (.slice (some ⟨γs9, 9, none⟩) 8 8), .quiet (PT γ1_0 1), .quiet (U Y)] H12 ?ho7 ?he7
  case ho7 => exact ak (fun _ => ⟨rfl, fun _ _ => rfl⟩) (ak (by refine fun γ => ⟨rfl, fun w' h => ?_⟩; clear h; go_simp) (ak (by refine fun γ => ⟨rfl, fun w' h => ?_⟩; clear h; go_simp) (ak (fun γ => ⟨rfl, fun w' h => ex_loadC h 3 rfl rfl rfl Try.isAgg23 rfl⟩) trivial)))
  intro _ w13 H13
  clear H12
  refine rest_at (l := [4]) rfl ?_
  refine rest_enter (d := 33) (R := fun vv w' => vv = .tuple #[] ∧ Mm w' [(γs9, by8 (pn (pn (fun _ => 0) 1 X 8) 9 Y 8) 17)] ∧ Kp γs9 w13 w') rfl rfl rfl (exec_call (args := #[.slice (some ⟨γs9, 9, none⟩) 8 8, U Y]) rfl call67 rfl (mpn rfl)) (Calls.mono (put_any γs9 9 8 8 Y (pn (fun _ => 0) 1 X 8) (by decide) (by decide) w13 (H13.out.1.one 0 rfl)) (fun e w2 hh => ⟨_, hh.1, rfl, hh.2⟩)) ?_
  rintro _ w14 ⟨rfl, hn, hp⟩
  have H14 : Hid (Mm w14 [(γs9, by8 (pn (pn (fun _ => 0) 1 X 8) 9 Y 8) 17), (γs5, kd p r c gx gy), (γs3, pt X Y false), (γ1_0, pt X Y false)] ∧ Below w.heap.size w w14) := ⟨H13.out.1.change 0 rfl hp hn, Below.kp H13.out.2 hp o_γs9.out H13.out.2.size⟩
  clear hn hp H13
  simp only [Act.put, sa, sz, ss]
  refine rest_nil (then_normal (wp_seq ?_))
  refine walk_seqB 3 [.quiet (.slice (some ⟨γs9, 0, none⟩) 17 17), .quiet (.slice (some ⟨γs9, 0, none⟩) 17 17), .quiet (.int .i64 0)] H14 ?ho8 ?he8
  case ho8 => exact ak (fun _ => ⟨rfl, fun _ _ => rfl⟩) (ak (fun _ => ⟨rfl, fun _ _ => rfl⟩) (ak (fun _ => ⟨rfl, fun _ _ => rfl⟩) trivial))
  intro _ w15 H15
  clear H14
  refine rest0 rfl (then_normal (wp_ret ?_))
  repeat (first | refine then_ret ?_ | refine block_ret ?_)
  refine bodyPost_ret (v := .tuple #[.slice (some ⟨γs9, 0, none⟩) 17 17, .int .i64 0]) (by simp [results, Try.results35, go_sem, *]) rfl ?_
  exact ⟨H15.out.2, γs9, rfl, o_γs9.out, H15.out.1.blk _ (List.mem_of_getElem? (i := 0) rfl)⟩
set_option maxHeartbeats 1000000 in
set_option maxRecDepth 100000 in
theorem bytes_t (k : Kd s p r c gx gy) (X Y : Nat) (h1 : oc p X Y true = true) (w : World) :
    Calls Try.prog 35 #[.int .i64 s, .agg (pt X Y true).toArray] w fun e w' => Below w.heap.size w w' ∧ ∃ g, e = .returned (.tuple #[.slice (some ⟨g, 0, none⟩) 17 17, .int .i64 0]) ∧ w.heap.size ≤ g ∧ g < w'.heap.size ∧ Blk w' g (by8 (pn (pn (upd (fun _ => 0) 0 1) 1 X 8) 9 Y 8) 17) := by
  have H0 : Hid (_ ∧ _) := ⟨Mm.nil w, Below.refl w.heap.size w⟩
  go_enter Try.func35, Try.ntmps35
  refine wp_seq ?_
  refine walk_seqA 3 [.made (pt X Y true) 25, .quiet (.slice none 0 0), .quiet (.int .i64 0)] (sB H0) ?ho1 ?he1
  case ho1 => exact ak (fun γ => ⟨rfl, fun w' => ex_boxT rfl rfl⟩) (ak (fun _ => ⟨rfl, fun _ _ => rfl⟩) (ak (fun _ => ⟨rfl, fun _ _ => rfl⟩) trivial))
  intro γ w1 l hM hl
  have H1 : Hid (Mm w1 [(γ 0, pt X Y true)] ∧ _) := growB H0 hM (Nat.le_refl _) hl [0] rfl (by decide)
  have o1_0 := ownB H0 hM (Nat.le_refl _) hl (i := 0) rfl
  clear hM hl l
  generalize γ 0 = γ1_0 at H1 o1_0 ⊢
  clear γ
  refine rest0 rfl (then_normal (wp_seq (wp_seq ?_)))
  refine walk_seqB 2 [.quiet (.int .i64 s), .quiet (.agg (pt X Y true).toArray)] H1 ?ho2 ?he2
  case ho2 => exact ak (fun _ => ⟨rfl, fun _ _ => rfl⟩) (ak (fun γ => ⟨rfl, fun w' h => ex_loadT h 0 rfl rfl rfl Try.isAgg25 Try.sizeOf25 rfl rfl⟩) trivial)
  intro _ w2 H2
  clear H1
  refine rest_at (l := [2, 3, 4, 5, 6, 7, 8, 9]) rfl ?_
  refine rest_set (d := 12) (v := .slice (some ⟨w2.heap.size, 0, none⟩) 1 1) (w' := w2.alloc (.cells (pt X Y true : List Value).toArray 25)) rfl rfl rfl (ex_bs1 rfl rfl) ?_
  simp only [Act.put, sa, sz, ss]
  have o_γs3 : Hid (w.heap.size ≤ w2.heap.size) := H2.out.2.size
  have H3 : Hid (Mm (w2.alloc (.cells (pt X Y true : List Value).toArray 25)) ((w2.heap.size, pt X Y true) :: [(γ1_0, pt X Y true)]) ∧ Below w.heap.size w (w2.alloc (.cells (pt X Y true : List Value).toArray 25))) := ⟨H2.out.1.alloc _ 25 rfl, H2.out.2.alloc H2.out.2.size _⟩
  clear H2
  generalize hgw : w2.alloc (.cells (pt X Y true : List Value).toArray 25) = w3 at H3 ⊢
  clear hgw
  generalize w2.heap.size = γs3 at o_γs3 H3 ⊢
  refine rest_enter (d := 13) (R := fun vv w' => vv = .tuple #[.agg (kd p r c gx gy).toArray, .int .i64 0] ∧ Below w3.heap.size w3 w') rfl rfl rfl (exec_call (args := #[.int .i64 s, .slice (some ⟨γs3, 0, none⟩) 1 1]) rfl call43 rfl (mpn rfl)) (Calls.mono (kw1_ok k X Y true h1 γs3 w3 (H3.out.1.one 0 rfl)) (fun e w2 hh => ⟨_, hh.1, rfl, hh.2⟩)) ?_
  rintro _ w4 ⟨rfl, hb⟩
  have H4 : Hid (_ ∧ _) := ⟨H3.out.1.below hb, H3.out.2.trans (hb.mono H3.out.2.size)⟩
  clear hb H3
  simp only [Act.put, sa, sz, ss]
  refine rest_set (d := 9) rfl rfl rfl rfl ?_
  simp only [Act.put, sa, sz, ss]
  refine rest_set (d := 14) (v := .agg (kd p r c gx gy).toArray) (w' := w4) rfl rfl rfl (by go_simp) ?_
  simp only [Act.put, sa, sz, ss]
  refine rest_set (d := 15) (v := .int .i64 0) (w' := w4) rfl rfl rfl (by go_simp) ?_
  simp only [Act.put, sa, sz, ss]
  refine rest_set (d := 6) (v := PT w4.heap.size 0) (w' := w4.alloc (.cells (kd 0 0 0 0 0 : List Value).toArray 72)) rfl rfl rfl (ex_made72 rfl) ?_
  simp only [Act.put, sa, sz, ss]
  have o_γs5 : Hid (w.heap.size ≤ w4.heap.size) := H4.out.2.size
  have H5 : Hid (Mm (w4.alloc (.cells (kd 0 0 0 0 0 : List Value).toArray 72)) ((w4.heap.size, kd 0 0 0 0 0) :: [(γs3, pt X Y true), (γ1_0, pt X Y true)]) ∧ Below w.heap.size w (w4.alloc (.cells (kd 0 0 0 0 0 : List Value).toArray 72))) := ⟨H4.out.1.alloc _ 72 rfl, H4.out.2.alloc H4.out.2.size _⟩
  clear H4
  generalize hgw : w4.alloc (.cells (kd 0 0 0 0 0 : List Value).toArray 72) = w5 at H5 ⊢
  clear hgw
  generalize w4.heap.size = γs5 at o_γs5 H5 ⊢
  refine rest_store rfl rfl rfl (ex_storeT (vs := kd p r c gx gy) H5.out.1 0 rfl rfl rfl rfl Try.sizeOf72 rfl (Nat.le_of_ble_eq_true rfl)) ?_
  have H6 : Hid (Mm (w5.setCells γs5 0 (kd p r c gx gy)) [(γs5, kd p r c gx gy), (γs3, pt X Y true), (γ1_0, pt X Y true)] ∧ Below w.heap.size w (w5.setCells γs5 0 (kd p r c gx gy))) := ⟨H5.out.1.put 0 (off := 0) (vs := kd p r c gx gy) rfl (Nat.le_of_ble_eq_true rfl), below_setCells _ o_γs5.out _ _ _ H5.out.2⟩
  clear H5
  generalize hgw : World.setCells _ _ _ _ = w6 at H6 ⊢
  clear hgw
  refine rest_set (d := 7) rfl rfl rfl rfl ?_
  simp only [Act.put, sa, sz, ss]
  refine rest_nil (then_normal (wp_seq ?_))
  refine walk_seqB 2 [.quiet (.int .i64 0), .quiet (.bool false)] H6 ?ho3 ?he3
  case ho3 => exact ak (fun _ => ⟨rfl, fun _ _ => rfl⟩) (ak (by refine fun γ => ⟨rfl, fun w' h => ?_⟩; clear h; go_simp) trivial)
  intro _ w7 H7
  clear H6
  refine rest0 rfl (then_normal (wp_cond_false rfl ?_))
  refine wp_skip (then_normal (wp_seq ?_))
  refine walk_seqB 0 [] H7 ?ho4 ?he4
  case ho4 => exact trivial
  intro _ w8 H8
  clear H7
  refine rest_at (l := [0, 1]) rfl ?_
  refine rest_set (d := 19) (v := .slice (some ⟨w8.heap.size, 0, none⟩) 17 17) (w' := w8.alloc (.cells (by8 (fun _ => 0) 17 : List Value).toArray 5)) rfl rfl rfl (ex_mk8 rfl rfl rfl) ?_
  simp only [Act.put, sa, sz, ss]
  have o_γs9 : Hid (w.heap.size ≤ w8.heap.size) := H8.out.2.size
  have H9 : Hid (Mm (w8.alloc (.cells (by8 (fun _ => 0) 17 : List Value).toArray 5)) ((w8.heap.size, by8 (fun _ => 0) 17) :: [(γs5, kd p r c gx gy), (γs3, pt X Y true), (γ1_0, pt X Y true)]) ∧ Below w.heap.size w (w8.alloc (.cells (by8 (fun _ => 0) 17 : List Value).toArray 5))) := ⟨H8.out.1.alloc _ 5 rfl, H8.out.2.alloc H8.out.2.size _⟩
  clear H8
  generalize hgw : w8.alloc (.cells (by8 (fun _ => 0) 17 : List Value).toArray 5) = w9 at H9 ⊢
  clear hgw
  generalize w8.heap.size = γs9 at o_γs9 H9 ⊢
  refine rest_set (d := 8) rfl rfl rfl rfl ?_
  simp only [Act.put, sa, sz, ss]
  refine rest_nil (then_normal ?_)
  refine wp_seq (wp_seq ?_)
  refine walk_seqB 2 [.quiet (PT γ1_0 2), .quiet (.bool true)] H9 ?ho5 ?he5
  case ho5 => exact ak (by refine fun γ => ⟨rfl, fun w' h => ?_⟩; clear h; go_simp) (ak (fun γ => ⟨rfl, fun w' h => ex_loadC h 3 rfl rfl rfl Try.isAgg4 rfl⟩) trivial)
  intro _ w10 H10
  clear H9
  refine rest0 rfl (then_normal (wp_cond_true rfl ?_))
  refine walk_seqB 2 [.quiet (.slice (some ⟨γs9, 0, none⟩) 17 17), .quiet (PT γs9 0)] H10 ?ho6 ?he6
  case ho6 => exact ak (fun _ => ⟨rfl, fun _ _ => rfl⟩) (ak (by refine fun γ => ⟨rfl, fun w' h => ?_⟩; clear h; go_simp) trivial)
  intro _ w11 H11
  clear H10
  refine rest_at (l := [2]) rfl ?_
  refine rest_store rfl rfl rfl (ex_storeI H11.out.1 0 rfl rfl Try.sizeOf5 rfl rfl (by simp [by8_len])) ?_
  have H12 : Hid (Mm (w11.setCells γs9 0 [.int .u8 1]) [(γs9, by8 (upd (fun _ => 0) 0 1) 17), (γs5, kd p r c gx gy), (γs3, pt X Y true), (γ1_0, pt X Y true)] ∧ Below w.heap.size w (w11.setCells γs9 0 [.int .u8 1])) := ⟨by
    have h := H11.out.1.put 0 (off := 0) (vs := [.int .u8 1]) rfl (by simp [by8_len])
    rw [by8_patch _ _ _ (by decide)] at h
    exact h, below_setCells _ o_γs9.out _ _ _ H11.out.2⟩
  clear H11
  generalize hgw : World.setCells _ _ _ _ = w12 at H12 ⊢
  clear hgw
  refine rest_nil (then_normal (wp_seq ?_))
  refine walk_anyB 4 [.quiet (.slice (some ⟨γs9, 0, none⟩) 17 17), .quiet (.slice (some ⟨γs9, 1, none⟩) 16 16), .quiet (PT γ1_0 0), .quiet (U X)] H12 ?ho7 ?he7
  case ho7 => exact ak (fun _ => ⟨rfl, fun _ _ => rfl⟩) (ak (by refine fun γ => ⟨rfl, fun w' h => ?_⟩; clear h; go_simp) (ak (by refine fun γ => ⟨rfl, fun w' h => ?_⟩; clear h; go_simp) (ak (fun γ => ⟨rfl, fun w' h => ex_loadC h 3 rfl rfl rfl Try.isAgg23 rfl⟩) trivial)))
  intro _ w13 H13
  clear H12
  refine rest_at (l := [4]) rfl ?_
  refine rest_enter (d := 28) (R := fun vv w' => vv = .tuple #[] ∧ Mm w' [(γs9, by8 (pn (upd (fun _ => 0) 0 1) 1 X 8) 17)] ∧ Kp γs9 w13 w') rfl rfl rfl (exec_call (args := #[.slice (some ⟨γs9, 1, none⟩) 16 16, U X]) rfl call67 rfl (mpn rfl)) (Calls.mono (put_any γs9 1 16 16 X (upd (fun _ => 0) 0 1) (by decide) (by decide) w13 (H13.out.1.one 0 rfl)) (fun e w2 hh => ⟨_, hh.1, rfl, hh.2⟩)) ?_
  rintro _ w14 ⟨rfl, hn, hp⟩
  have H14 : Hid (Mm w14 [(γs9, by8 (pn (upd (fun _ => 0) 0 1) 1 X 8) 17), (γs5, kd p r c gx gy), (γs3, pt X Y true), (γ1_0, pt X Y true)] ∧ Below w.heap.size w w14) := ⟨H13.out.1.change 0 rfl hp hn, Below.kp H13.out.2 hp o_γs9.out H13.out.2.size⟩
  clear hn hp H13
  simp only [Act.put, sa, sz, ss]
  refine rest_nil (then_normal (wp_seq ?_))
  refine walk_anyB 4 [.quiet (.slice (some ⟨γs9, 0, none⟩) 17 17), .quiet (.slice (some ⟨γs9, 9, none⟩) 8 8), .quiet (PT γ1_0 1), .quiet (U Y)] H14 ?ho8 ?he8
  case ho8 => exact ak (fun _ => ⟨rfl, fun _ _ => rfl⟩) (ak (by refine fun γ => ⟨rfl, fun w' h => ?_⟩; clear h; go_simp) (ak (by refine fun γ => ⟨rfl, fun w' h => ?_⟩; clear h; go_simp) (ak (fun γ => ⟨rfl, fun w' h => ex_loadC h 3 rfl rfl rfl Try.isAgg23 rfl⟩) trivial)))
  intro _ w15 H15
  clear H14
  refine rest_at (l := [4]) rfl ?_
  refine rest_enter (d := 33) (R := fun vv w' => vv = .tuple #[] ∧ Mm w' [(γs9, by8 (pn (pn (upd (fun _ => 0) 0 1) 1 X 8) 9 Y 8) 17)] ∧ Kp γs9 w15 w') rfl rfl rfl (exec_call (args := #[.slice (some ⟨γs9, 9, none⟩) 8 8, U Y]) rfl call67 rfl (mpn rfl)) (Calls.mono (put_any γs9 9 8 8 Y (pn (upd (fun _ => 0) 0 1) 1 X 8) (by decide) (by decide) w15 (H15.out.1.one 0 rfl)) (fun e w2 hh => ⟨_, hh.1, rfl, hh.2⟩)) ?_
  rintro _ w16 ⟨rfl, hn, hp⟩
  have H16 : Hid (Mm w16 [(γs9, by8 (pn (pn (upd (fun _ => 0) 0 1) 1 X 8) 9 Y 8) 17), (γs5, kd p r c gx gy), (γs3, pt X Y true), (γ1_0, pt X Y true)] ∧ Below w.heap.size w w16) := ⟨H15.out.1.change 0 rfl hp hn, Below.kp H15.out.2 hp o_γs9.out H15.out.2.size⟩
  clear hn hp H15
  simp only [Act.put, sa, sz, ss]
  refine rest_nil (then_normal (wp_seq ?_))
  refine walk_seqB 3 [.quiet (.slice (some ⟨γs9, 0, none⟩) 17 17), .quiet (.slice (some ⟨γs9, 0, none⟩) 17 17), .quiet (.int .i64 0)] H16 ?ho9 ?he9
  case ho9 => exact ak (fun _ => ⟨rfl, fun _ _ => rfl⟩) (ak (fun _ => ⟨rfl, fun _ _ => rfl⟩) (ak (fun _ => ⟨rfl, fun _ _ => rfl⟩) trivial))
  intro _ w17 H17
  clear H16
  refine rest0 rfl (then_normal (wp_ret ?_))
  repeat (first | refine then_ret ?_ | refine block_ret ?_)
  refine bodyPost_ret (v := .tuple #[.slice (some ⟨γs9, 0, none⟩) 17 17, .int .i64 0]) (by simp [results, Try.results35, go_sem, *]) rfl ?_
  exact ⟨H17.out.2, γs9, rfl, o_γs9.out, H17.out.1.blk _ (List.mem_of_getElem? (i := 0) rfl)⟩
set_option maxHeartbeats 1000000 in
set_option maxRecDepth 100000 in
theorem bytes_pt (k : Kd s p r c gx gy) (X Y : Nat) (Z : Bool) (h1 : oc p X Y Z = false) (w : World) :
    Calls Try.prog 35 #[.int .i64 s, .agg (pt X Y Z).toArray] w fun e w' => e = .returned (.tuple #[.slice none 0 0, .int .i64 5]) ∧ Below w.heap.size w w' := by
  have H0 : Hid (_ ∧ _) := ⟨Mm.nil w, Below.refl w.heap.size w⟩
  go_enter Try.func35, Try.ntmps35
  refine wp_seq ?_
  refine walk_seqA 3 [.made (pt X Y Z) 25, .quiet (.slice none 0 0), .quiet (.int .i64 0)] (sB H0) ?ho1 ?he1
  case ho1 => exact ak (fun γ => ⟨rfl, fun w' => ex_boxT rfl rfl⟩) (ak (fun _ => ⟨rfl, fun _ _ => rfl⟩) (ak (fun _ => ⟨rfl, fun _ _ => rfl⟩) trivial))
  intro γ w1 l hM hl
  have H1 : Hid (Mm w1 [(γ 0, pt X Y Z)] ∧ _) := growB H0 hM (Nat.le_refl _) hl [0] rfl (by decide)
  have o1_0 := ownB H0 hM (Nat.le_refl _) hl (i := 0) rfl
  clear hM hl l
  generalize γ 0 = γ1_0 at H1 o1_0 ⊢
  clear γ
  refine rest0 rfl (then_normal (wp_seq (wp_seq ?_)))
  refine walk_seqB 2 [.quiet (.int .i64 s), .quiet (.agg (pt X Y Z).toArray)] H1 ?ho2 ?he2
  case ho2 => exact ak (fun _ => ⟨rfl, fun _ _ => rfl⟩) (ak (fun γ => ⟨rfl, fun w' h => ex_loadT h 0 rfl rfl rfl Try.isAgg25 Try.sizeOf25 rfl rfl⟩) trivial)
  intro _ w2 H2
  clear H1
  refine rest_at (l := [2, 3, 4, 5, 6, 7, 8, 9]) rfl ?_
  refine rest_set (d := 12) (v := .slice (some ⟨w2.heap.size, 0, none⟩) 1 1) (w' := w2.alloc (.cells (pt X Y Z : List Value).toArray 25)) rfl rfl rfl (ex_bs1 rfl rfl) ?_
  simp only [Act.put, sa, sz, ss]
  have o_γs3 : Hid (w.heap.size ≤ w2.heap.size) := H2.out.2.size
  have H3 : Hid (Mm (w2.alloc (.cells (pt X Y Z : List Value).toArray 25)) ((w2.heap.size, pt X Y Z) :: [(γ1_0, pt X Y Z)]) ∧ Below w.heap.size w (w2.alloc (.cells (pt X Y Z : List Value).toArray 25))) := ⟨H2.out.1.alloc _ 25 rfl, H2.out.2.alloc H2.out.2.size _⟩
  clear H2
  generalize hgw : w2.alloc (.cells (pt X Y Z : List Value).toArray 25) = w3 at H3 ⊢
  clear hgw
  generalize w2.heap.size = γs3 at o_γs3 H3 ⊢
  refine rest_enter (d := 13) (R := fun vv w' => vv = .tuple #[.agg (kd 0 0 0 0 0).toArray, .int .i64 5] ∧ Below w3.heap.size w3 w') rfl rfl rfl (exec_call (args := #[.int .i64 s, .slice (some ⟨γs3, 0, none⟩) 1 1]) rfl call43 rfl (mpn rfl)) (Calls.mono (kw1_no k X Y Z h1 γs3 w3 (H3.out.1.one 0 rfl)) (fun e w2 hh => ⟨_, hh.1, rfl, hh.2⟩)) ?_
  rintro _ w4 ⟨rfl, hb⟩
  have H4 : Hid (_ ∧ _) := ⟨H3.out.1.below hb, H3.out.2.trans (hb.mono H3.out.2.size)⟩
  clear hb H3
  simp only [Act.put, sa, sz, ss]
  refine rest_set (d := 9) rfl rfl rfl rfl ?_
  simp only [Act.put, sa, sz, ss]
  refine rest_set (d := 14) (v := .agg (kd 0 0 0 0 0).toArray) (w' := w4) rfl rfl rfl (by go_simp) ?_
  simp only [Act.put, sa, sz, ss]
  refine rest_set (d := 15) (v := .int .i64 5) (w' := w4) rfl rfl rfl (by go_simp) ?_
  simp only [Act.put, sa, sz, ss]
  refine rest_set (d := 6) (v := PT w4.heap.size 0) (w' := w4.alloc (.cells (kd 0 0 0 0 0 : List Value).toArray 72)) rfl rfl rfl (ex_made72 rfl) ?_
  simp only [Act.put, sa, sz, ss]
  have o_γs5 : Hid (w.heap.size ≤ w4.heap.size) := H4.out.2.size
  have H5 : Hid (Mm (w4.alloc (.cells (kd 0 0 0 0 0 : List Value).toArray 72)) ((w4.heap.size, kd 0 0 0 0 0) :: [(γs3, pt X Y Z), (γ1_0, pt X Y Z)]) ∧ Below w.heap.size w (w4.alloc (.cells (kd 0 0 0 0 0 : List Value).toArray 72))) := ⟨H4.out.1.alloc _ 72 rfl, H4.out.2.alloc H4.out.2.size _⟩
  clear H4
  generalize hgw : w4.alloc (.cells (kd 0 0 0 0 0 : List Value).toArray 72) = w5 at H5 ⊢
  clear hgw
  generalize w4.heap.size = γs5 at o_γs5 H5 ⊢
  refine rest_store rfl rfl rfl (ex_storeT (vs := kd 0 0 0 0 0) H5.out.1 0 rfl rfl rfl rfl Try.sizeOf72 rfl (Nat.le_of_ble_eq_true rfl)) ?_
  have H6 : Hid (Mm (w5.setCells γs5 0 (kd 0 0 0 0 0)) [(γs5, kd 0 0 0 0 0), (γs3, pt X Y Z), (γ1_0, pt X Y Z)] ∧ Below w.heap.size w (w5.setCells γs5 0 (kd 0 0 0 0 0))) := ⟨H5.out.1.put 0 (off := 0) (vs := kd 0 0 0 0 0) rfl (Nat.le_of_ble_eq_true rfl), below_setCells _ o_γs5.out _ _ _ H5.out.2⟩
  clear H5
  generalize hgw : World.setCells _ _ _ _ = w6 at H6 ⊢
  clear hgw
  refine rest_set (d := 7) rfl rfl rfl rfl ?_
  simp only [Act.put, sa, sz, ss]
  refine rest_nil (then_normal (wp_seq ?_))
  refine walk_seqB 2 [.quiet (.int .i64 5), .quiet (.bool true)] H6 ?ho3 ?he3
  case ho3 => exact ak (fun _ => ⟨rfl, fun _ _ => rfl⟩) (ak (by refine fun γ => ⟨rfl, fun w' h => ?_⟩; clear h; go_simp) trivial)
  intro _ w7 H7
  clear H6
  refine rest0 rfl (then_normal (wp_cond_true rfl (wp_seq ?_)))
  refine walk_seqB 3 [.quiet (.int .i64 5), .quiet (.slice none 0 0), .quiet (.int .i64 5)] H7 ?ho4 ?he4
  case ho4 => exact ak (fun _ => ⟨rfl, fun _ _ => rfl⟩) (ak (fun _ => ⟨rfl, fun _ _ => rfl⟩) (ak (fun _ => ⟨rfl, fun _ _ => rfl⟩) trivial))
  intro _ w8 H8
  clear H7
  refine rest0 rfl (then_normal (wp_ret ?_))
  repeat (first | refine then_ret ?_ | refine block_ret ?_)
  refine bodyPost_ret (v := .tuple #[.slice none 0 0, .int .i64 5]) (by simp [results, Try.results35, go_sem, *]) rfl ?_
  exact ⟨rfl, H8.out.2⟩
set_option maxHeartbeats 1000000 in
set_option maxRecDepth 100000 in
theorem bytes_no (s : Int) (h1 : s ≠ 1) (h2 : s ≠ 2) (X Y : Nat) (Z : Bool) (w : World) :
    Calls Try.prog 35 #[.int .i64 s, .agg (pt X Y Z).toArray] w fun e w' => e = .returned (.tuple #[.slice none 0 0, .int .i64 2]) ∧ Below w.heap.size w w' := by
  have H0 : Hid (_ ∧ _) := ⟨Mm.nil w, Below.refl w.heap.size w⟩
  go_enter Try.func35, Try.ntmps35
  refine wp_seq ?_
  refine walk_seqA 3 [.made (pt X Y Z) 25, .quiet (.slice none 0 0), .quiet (.int .i64 0)] (sB H0) ?ho1 ?he1
  case ho1 => exact ak (fun γ => ⟨rfl, fun w' => ex_boxT rfl rfl⟩) (ak (fun _ => ⟨rfl, fun _ _ => rfl⟩) (ak (fun _ => ⟨rfl, fun _ _ => rfl⟩) trivial))
  intro γ w1 l hM hl
  have H1 : Hid (Mm w1 [(γ 0, pt X Y Z)] ∧ _) := growB H0 hM (Nat.le_refl _) hl [0] rfl (by decide)
  have o1_0 := ownB H0 hM (Nat.le_refl _) hl (i := 0) rfl
  clear hM hl l
  generalize γ 0 = γ1_0 at H1 o1_0 ⊢
  clear γ
  refine rest0 rfl (then_normal (wp_seq (wp_seq ?_)))
  refine walk_seqB 2 [.quiet (.int .i64 s), .quiet (.agg (pt X Y Z).toArray)] H1 ?ho2 ?he2
  case ho2 => exact ak (fun _ => ⟨rfl, fun _ _ => rfl⟩) (ak (fun γ => ⟨rfl, fun w' h => ex_loadT h 0 rfl rfl rfl Try.isAgg25 Try.sizeOf25 rfl rfl⟩) trivial)
  intro _ w2 H2
  clear H1
  refine rest_at (l := [2, 3, 4, 5, 6, 7, 8, 9]) rfl ?_
  refine rest_set (d := 12) (v := .slice (some ⟨w2.heap.size, 0, none⟩) 1 1) (w' := w2.alloc (.cells (pt X Y Z : List Value).toArray 25)) rfl rfl rfl (ex_bs1 rfl rfl) ?_
  simp only [Act.put, sa, sz, ss]
  have o_γs3 : Hid (w.heap.size ≤ w2.heap.size) := H2.out.2.size
  have H3 : Hid (Mm (w2.alloc (.cells (pt X Y Z : List Value).toArray 25)) ((w2.heap.size, pt X Y Z) :: [(γ1_0, pt X Y Z)]) ∧ Below w.heap.size w (w2.alloc (.cells (pt X Y Z : List Value).toArray 25))) := ⟨H2.out.1.alloc _ 25 rfl, H2.out.2.alloc H2.out.2.size _⟩
  clear H2
  generalize hgw : w2.alloc (.cells (pt X Y Z : List Value).toArray 25) = w3 at H3 ⊢
  clear hgw
  generalize w2.heap.size = γs3 at o_γs3 H3 ⊢
  refine rest_enter (d := 13) (R := fun vv w' => vv = .tuple #[.agg (kd 0 0 0 0 0).toArray, .int .i64 2] ∧ Below w3.heap.size w3 w') rfl rfl rfl (exec_call (args := #[.int .i64 s, .slice (some ⟨γs3, 0, none⟩) 1 1]) rfl call43 rfl (mpn rfl)) (Calls.mono (kw_arg s h1 h2 _ w3) (fun e w2 hh => ⟨_, hh.1, rfl, hh.2⟩)) ?_
  rintro _ w4 ⟨rfl, hb⟩
  have H4 : Hid (_ ∧ _) := ⟨H3.out.1.below hb, H3.out.2.trans (hb.mono H3.out.2.size)⟩
  clear hb H3
  simp only [Act.put, sa, sz, ss]
  refine rest_set (d := 9) rfl rfl rfl rfl ?_
  simp only [Act.put, sa, sz, ss]
  refine rest_set (d := 14) (v := .agg (kd 0 0 0 0 0).toArray) (w' := w4) rfl rfl rfl (by go_simp) ?_
  simp only [Act.put, sa, sz, ss]
  refine rest_set (d := 15) (v := .int .i64 2) (w' := w4) rfl rfl rfl (by go_simp) ?_
  simp only [Act.put, sa, sz, ss]
  refine rest_set (d := 6) (v := PT w4.heap.size 0) (w' := w4.alloc (.cells (kd 0 0 0 0 0 : List Value).toArray 72)) rfl rfl rfl (ex_made72 rfl) ?_
  simp only [Act.put, sa, sz, ss]
  have o_γs5 : Hid (w.heap.size ≤ w4.heap.size) := H4.out.2.size
  have H5 : Hid (Mm (w4.alloc (.cells (kd 0 0 0 0 0 : List Value).toArray 72)) ((w4.heap.size, kd 0 0 0 0 0) :: [(γs3, pt X Y Z), (γ1_0, pt X Y Z)]) ∧ Below w.heap.size w (w4.alloc (.cells (kd 0 0 0 0 0 : List Value).toArray 72))) := ⟨H4.out.1.alloc _ 72 rfl, H4.out.2.alloc H4.out.2.size _⟩
  clear H4
  generalize hgw : w4.alloc (.cells (kd 0 0 0 0 0 : List Value).toArray 72) = w5 at H5 ⊢
  clear hgw
  generalize w4.heap.size = γs5 at o_γs5 H5 ⊢
  refine rest_store rfl rfl rfl (ex_storeT (vs := kd 0 0 0 0 0) H5.out.1 0 rfl rfl rfl rfl Try.sizeOf72 rfl (Nat.le_of_ble_eq_true rfl)) ?_
  have H6 : Hid (Mm (w5.setCells γs5 0 (kd 0 0 0 0 0)) [(γs5, kd 0 0 0 0 0), (γs3, pt X Y Z), (γ1_0, pt X Y Z)] ∧ Below w.heap.size w (w5.setCells γs5 0 (kd 0 0 0 0 0))) := ⟨H5.out.1.put 0 (off := 0) (vs := kd 0 0 0 0 0) rfl (Nat.le_of_ble_eq_true rfl), below_setCells _ o_γs5.out _ _ _ H5.out.2⟩
  clear H5
  generalize hgw : World.setCells _ _ _ _ = w6 at H6 ⊢
  clear hgw
  refine rest_set (d := 7) rfl rfl rfl rfl ?_
  simp only [Act.put, sa, sz, ss]
  refine rest_nil (then_normal (wp_seq ?_))
  refine walk_seqB 2 [.quiet (.int .i64 2), .quiet (.bool true)] H6 ?ho3 ?he3
  case ho3 => exact ak (fun _ => ⟨rfl, fun _ _ => rfl⟩) (ak (by refine fun γ => ⟨rfl, fun w' h => ?_⟩; clear h; go_simp) trivial)
  intro _ w7 H7
  clear H6
  refine rest0 rfl (then_normal (wp_cond_true rfl (wp_seq ?_)))
  refine walk_seqB 3 [.quiet (.int .i64 2), .quiet (.slice none 0 0), .quiet (.int .i64 2)] H7 ?ho4 ?he4
  case ho4 => exact ak (fun _ => ⟨rfl, fun _ _ => rfl⟩) (ak (fun _ => ⟨rfl, fun _ _ => rfl⟩) (ak (fun _ => ⟨rfl, fun _ _ => rfl⟩) trivial))
  intro _ w8 H8
  clear H7
  refine rest0 rfl (then_normal (wp_ret ?_))
  repeat (first | refine then_ret ?_ | refine block_ret ?_)
  refine bodyPost_ret (v := .tuple #[.slice none 0 0, .int .i64 2]) (by simp [results, Try.results35, go_sem, *]) rfl ?_
  exact ⟨rfl, H8.out.2⟩
/-- A point's bytes. -/
def pb (X Y : Nat) (Z : Bool) : Nat → Int := fun j => if j = 0 then (if Z = true then 1 else 0) else if j < 9 then byt X (j - 1) else byt Y (j - 9)
theorem pb_f (X Y j : Nat) (h : j < 17) : pn (pn (fun _ => 0) 1 X 8) 9 Y 8 j = pb X Y false j := by
  unfold pn pb
  by_cases h0 : j = 0
  · rw [if_neg (by omega), if_neg (by omega), if_pos h0, if_neg (by decide)]
  · rw [if_neg h0]
    by_cases h9 : j < 9
    · rw [if_neg (by omega), if_pos (by omega), if_pos h9]
    · rw [if_pos (by omega), if_neg h9]
theorem pb_t (X Y j : Nat) (h : j < 17) : pn (pn (upd (fun _ => 0) 0 1) 1 X 8) 9 Y 8 j = pb X Y true j := by
  unfold pn pb upd
  by_cases h0 : j = 0
  · rw [if_neg (by omega), if_neg (by omega), if_pos h0, if_pos h0, if_pos rfl]
  · simp only [if_neg h0]
    by_cases h9 : j < 9
    · rw [if_neg (by omega), if_pos (by omega), if_pos h9]
    · rw [if_pos (by omega), if_neg h9]
theorem Bytes_ok (k : Kd s p r c gx gy) (X Y : Nat) (Z : Bool) (h1 : oc p X Y Z = true) (w : World) : Calls Try.prog 35 #[.int .i64 s, V (pt X Y Z)] w fun e w' => Below w.heap.size w w' ∧ ∃ g, e = .returned (.tuple #[.slice (some ⟨g, 0, none⟩) 17 17, .int .i64 0]) ∧ w.heap.size ≤ g ∧ g < w'.heap.size ∧ Blk w' g (by8 (pb X Y Z) 17) := by
  cases Z
  · have h := bytes_f k X Y h1 w
    rw [by8_congr (fun j hj => pb_f X Y j hj)] at h
    exact h
  · have h := bytes_t k X Y h1 w
    rw [by8_congr (fun j hj => pb_t X Y j hj)] at h
    exact h
end
end Rg
end Go.Proofs.Ytjmbgchoioepjaa
end
section
namespace Go.Proofs.Ytjmbgchoioepjaa
open Go.RowKit
namespace Rg
/-- Bytes that can be read: n of them, from o on, in block g. -/
structure Rd (g o n : Nat) (f : Nat → Nat) (w : World) : Prop where
  lt : g < w.heap.size
  at_ : ∀ i, i < n → w.cell? ⟨g, o + i, none⟩ = some (.int .u8 ((f i : Nat) : Int))
theorem Rd.below {g o n : Nat} {f : Nat → Nat} {w w' : World} (h : Rd g o n f w) (hb : Below w.heap.size w w') : Rd g o n f w' :=
  ⟨Nat.lt_of_lt_of_le h.lt hb.size, fun i hi => by rw [hb.cell (p := ⟨g, o + i, none⟩) h.lt]; exact h.at_ i hi⟩
theorem Rd.sub {g o n : Nat} {f : Nat → Nat} {w : World} (h : Rd g o n f w) (a m : Nat) (hm : a + m ≤ n) : Rd g (o + a) m (fun i => f (a + i)) w :=
  ⟨h.lt, fun i hi => by rw [Nat.add_assoc]; exact h.at_ (a + i) (by omega)⟩
section
variable {ρ : Operand → Value} {o : Oper} {x y : Operand} {g off n c k a b : Nat} {f : Nat → Nat} {w : World}
theorem ex_ld8 (h : Rd g off n f w) (hk : k < n) (ho : o.op = .load 5 x) (hx : ρ x = PT g (off + k)) : (execOp ρ o).run Try.prog w = .ok (.value (.int .u8 ((f k : Nat) : Int))) w := by
  have c0 := h.at_ k hk
  have ha : ∀ w, (isAgg 5).run Try.prog w = .ok false w := Try.isAgg5
  clear h
  simp only [execOp, ho, hx]
  go_simp
theorem ex_slH {m h : Nat} (ho : o.op = .slice 59 x none (some y) none) (hx : ρ x = .slice (some ⟨g, off, none⟩) m c) (hy : ρ y = .int .i64 (h : Int)) (hh : h ≤ c) : (execOp ρ o).run Try.prog w = .ok (.value (.slice (some ⟨g, off, none⟩) h c)) w := by
  simp only [execOp, ho, hx, hy, Option.map_some, Option.map_none]
  clear ho hx hy
  go_simp
theorem ex_slL {m l : Nat} (ho : o.op = .slice 59 x (some y) none none) (hx : ρ x = .slice (some ⟨g, off, none⟩) m c) (hy : ρ y = .int .i64 (l : Int)) (hh : l < m) (hc : m ≤ c) : (execOp ρ o).run Try.prog w = .ok (.value (.slice (some ⟨g, off + l, none⟩) (m - l) (c - l))) w := by
  simp only [execOp, ho, hx, hy, Option.map_some, Option.map_none]
  clear ho hx hy
  go_simp
  rw [if_pos (by omega), if_neg (by omega)]
theorem ex_cv64 (h : a < 256) (ho : o.op = .convert 5 23 x) (hx : ρ x = .int .u8 (a : Int)) : (execOp ρ o).run Try.prog w = .ok (.value (U a)) w := by
  simp only [execOp, ho, hx]
  clear ho hx
  go_simp
  first | (rw [IntKind.wrap_u64]; omega) | omega
theorem ex_shl8 (h : a * 256 < 18446744073709551616) (ho : o.op = .binOp .shl 23 x y 91) (hx : ρ x = U a) (hy : ρ y = U 8) : (execOp ρ o).run Try.prog w = .ok (.value (U (a * 256))) w := by
  simp only [execOp, ho, hx, hy]
  clear ho hx hy
  go_simp
  rw [IntKind.wrap_u64]
  omega
theorem ex_or8 (h : a * 256 < 18446744073709551616) (hb : b < 256) (ho : o.op = .binOp .or 23 x y 23) (hx : ρ x = U (a * 256)) (hy : ρ y = U b) : (execOp ρ o).run Try.prog w = .ok (.value (U (a * 256 + b))) w := by
  simp only [execOp, ho, hx, hy]
  clear ho hx hy
  have e := bits_or_u64_nat (a * 256) b h (by omega)
  have e2 : a * 256 ||| b = a * 256 + b := by
    have := Nat.two_pow_add_eq_or_of_lt (i := 8) (b := b) (by omega) a
    rw [Nat.mul_comm a 256]
    exact this.symm
  rw [e2] at e
  go_simp
  exact e
end
/-- A number of bytes. -/
def tkn (f : Nat → Nat) : Nat → Nat
  | 0 => 0
  | k + 1 => tkn f k * 256 + f k
theorem tkn_lt {f : Nat → Nat} (hf : ∀ i, f i < 256) : ∀ k, tkn f k < 2 ^ (8 * k)
  | 0 => Nat.zero_lt_one
  | k + 1 => by
    have h1 := tkn_lt hf k
    have h2 := hf k
    rw [tkn, show 8 * (k + 1) = 8 * k + 8 by omega, Nat.pow_add]
    generalize 2 ^ (8 * k) = q at *
    omega
theorem tkn_small {f : Nat → Nat} (hf : ∀ i, f i < 256) {k : Nat} (hk : k < 8) : tkn f k * 256 < 18446744073709551616 := by
  have h1 := tkn_lt hf k
  have h2 : 2 ^ (8 * k) ≤ 2 ^ 56 := Nat.pow_le_pow_right (by decide) (by omega)
  have h3 : (2 : Nat) ^ 56 = 72057594037927936 := by decide
  omega
set_option maxHeartbeats 1000000 in
set_option maxRecDepth 100000 in
theorem take_any (g off m cp : Nat) (f : Nat → Nat) (hf : ∀ i, f i < 256) (hm : 8 ≤ cp) (w : World) (hr : Rd g off 8 f w) :
    Calls Try.prog 68 #[.slice (some ⟨g, off, none⟩) m cp] w fun e w' => e = .returned (U (tkn f 8)) ∧ Below w.heap.size w w' := by
  have H0 : Hid (_ ∧ _) := ⟨Mm.nil w, Below.refl w.heap.size w⟩
  go_enter Try.func68, Try.ntmps68
  refine wp_seq ?_
  refine walk_seqB 1 [.quiet (U 0)] H0 ?ho1 ?he1
  case ho1 => exact ak (fun _ => ⟨rfl, fun _ _ => rfl⟩) trivial
  intro _ w1 H1
  refine rest0 rfl (then_normal (wp_seq ?_))
  refine walk_seqB 1 [.quiet (U 0)] H1 ?ho2 ?he2
  case ho2 => exact ak (fun _ => ⟨rfl, fun _ _ => rfl⟩) trivial
  intro _ w2 H2
  clear H1
  refine rest0 rfl (then_normal (wp_seq (wp_seq ?_)))
  refine walk_seqB 4 [.quiet (.slice (some ⟨g, off, none⟩) m cp), .quiet (.slice (some ⟨g, off, none⟩) 8 cp), .quiet (.int .i64 8), .quiet (.int .i64 0)] H2 ?ho3 ?he3
  case ho3 => exact ak (fun _ => ⟨rfl, fun _ _ => rfl⟩) (ak (fun γ => ⟨rfl, fun w' _ => ex_slH rfl rfl rfl (by omega)⟩) (ak (by refine fun γ => ⟨rfl, fun w' h => ?_⟩; clear h; go_simp) (ak (fun _ => ⟨rfl, fun _ _ => rfl⟩) trivial)))
  intro _ w3 H3
  clear H2
  refine rest0 rfl (then_normal (wp_block ?_))
  refine loop_ghost (α := Nat) (fun k a' w' => ∃ s0 : Nat → Value, a' = ⟨#[.slice (some ⟨g, off, none⟩) m cp, undef, U 0, U (tkn f k), undef, s0 5, .slice (some ⟨g, off, none⟩) m cp, .slice (some ⟨g, off, none⟩) 8 cp, .int .i64 8, .int .i64 ((k : Nat) : Int), s0 10, s0 11, s0 12, s0 13, s0 14, s0 15, s0 16, s0 17, s0 18, undef], []⟩ ∧ (Mm w' [] ∧ Below w.heap.size w w') ∧ k ≤ 8) (fun k => 8 - k) 0 ?st0 ?rd0
  case st0 => exact ⟨(slotfn [undef, undef, undef, undef, undef, undef, undef, undef, undef, undef, undef, undef, undef, undef, undef, undef, undef, undef, undef]), rfl, ⟨H3.out.1, H3.out.2⟩, by omega⟩
  intro k a' w4 hI
  obtain ⟨s0, rfl, hMB, hk0⟩ := hI
  have H4 : Hid (_ ∧ _) := hMB
  clear hMB H3
  by_cases hlt : k < 8
  · have hrd : True := trivial
    clear hrd
    refine wp_seq ?_
    refine walk_seqB 1 [.quiet (.bool true)] H4 ?ho4 ?he4
    case ho4 => exact ak (by refine fun γ => ⟨rfl, fun w' h => ?_⟩; clear h; go_simp <;> omega) trivial
    intro _ w5 H5
    clear H4
    refine rest0 rfl (then_normal (wp_seq ?_))
    refine wp_cond_true rfl (wp_skip ?_)
    refine then_normal (wp_seq ?_)
    refine wp_block (wp_seq ?_)
    refine (walk_seq) 3 [.quiet (PT g (off + k)), .quiet (.int .u8 ((f k : Nat) : Int)), .quiet (.int .u8 ((f k : Nat) : Int))] (fun u' => Mm u' [] ∧ Rd g off 8 f u') ?pre5 ?F5 ?hpre5 (fun γ => ?hF5) (by kernel_rfl) ?hL5 ?hS5 ?ho5 ?he5
    case hpre5 => simp only [tk, tz]; rfl
    case hF5 => simp only [fill, Kind.val, Act.put, sa, sz, ss]; rfl
    case hL5 => exact trivial
    case hS5 => exact fun w' hb => ⟨H5.out.1.below hb, hr.below (H5.out.2.trans (hb.mono H5.out.2.size))⟩
    case ho5 =>
      refine ak (fun γ => ⟨rfl, fun w' _ => ex_idxS rfl rfl rfl (by omega)⟩) ?_
      refine ak (fun γ => ⟨rfl, fun w' hX => ex_ld8 (k := k) hX.2 (by omega) rfl rfl⟩) ?_
      refine ak (fun _ => ⟨rfl, fun _ _ => rfl⟩) ?_
      exact trivial
    intro γ w6 l hM hl
    have H6 := keepB H5 hM.below
    clear hM hl l H5 γ
    refine rest0 rfl (then_normal ?_)
    refine walk_seqB 5 [.quiet (U (tkn f k)), .quiet (U (tkn f k * 256)), .quiet (.int .u8 ((f k : Nat) : Int)), .quiet (U (f k)), .quiet (U (tkn f (k + 1)))] H6 ?ho6 ?he6
    case ho6 => exact ak (fun _ => ⟨rfl, fun _ _ => rfl⟩) (ak (fun γ => ⟨rfl, fun w' _ => ex_shl8 (tkn_small hf hlt) rfl rfl rfl⟩) (ak (fun _ => ⟨rfl, fun _ _ => rfl⟩) (ak (fun γ => ⟨rfl, fun w' _ => ex_cv64 (hf _) rfl rfl⟩) (ak (fun γ => ⟨rfl, fun w' _ => ex_or8 (tkn_small hf hlt) (hf k) rfl rfl rfl⟩) trivial))))
    intro _ w7 H7
    clear H6
    refine rest_at (l := [5]) rfl ?_
    refine rest_set (d := 3) rfl rfl rfl rfl ?_
    simp only [Act.put, sa, sz, ss]
    refine rest_nil (block_normal (then_normal ?_))
    refine walk_seqB 1 [.quiet (.int .i64 ((k + 1 : Nat) : Int))] H7 ?ho7 ?he7
    case ho7 => exact ak (by refine fun γ => ⟨rfl, fun w' h => ?_⟩; clear h; go_simp; rw [IntKind.wrap_i64]; omega) trivial
    intro _ w8 H8
    clear H7
    refine rest_at (l := [1]) rfl ?_
    refine rest_set (d := 9) rfl rfl rfl rfl ?_
    simp only [Act.put, sa, sz, ss]
    refine rest_nil (then_normal ?_)
    exact ⟨k + 1, ⟨(slotfn [undef, undef, undef, undef, undef, .int .u8 ((f k : Nat) : Int), undef, undef, undef, undef, .bool true, PT g (off + k), .int .u8 ((f k : Nat) : Int), U (tkn f k), U (tkn f k * 256), .int .u8 ((f k : Nat) : Int), U (f k), U (tkn f (k + 1)), .int .i64 ((k + 1 : Nat) : Int)]), rfl, ⟨H8.out.1, H8.out.2⟩, by omega⟩, by omega⟩
  have hk8 : k = 8 := by omega
  subst hk8
  refine wp_seq ?_
  refine walk_seqB 1 [.quiet (.bool false)] H4 ?ho8 ?he8
  case ho8 => exact ak (by refine fun γ => ⟨rfl, fun w' h => ?_⟩; clear h; go_simp <;> omega) trivial
  intro _ w9 H9
  clear H4
  refine rest0 rfl (then_normal (wp_seq (wp_cond_false rfl ?_)))
  refine wp_exit ?_
  repeat refine then_exit ?_
  refine block_exit ?_
  refine then_normal (wp_seq ?_)
  refine walk_seqB 2 [.quiet (U (tkn f 8)), .quiet (U (tkn f 8))] H9 ?ho9 ?he9
  case ho9 => exact ak (fun _ => ⟨rfl, fun _ _ => rfl⟩) (ak (fun _ => ⟨rfl, fun _ _ => rfl⟩) trivial)
  intro _ w10 H10
  clear H9
  refine rest0 rfl (then_normal (wp_ret ?_))
  repeat (first | refine then_ret ?_ | refine block_ret ?_)
  refine bodyPost_ret (v := U (tkn f 8)) (by simp [results, Try.results68, go_sem, *]) rfl ?_
  exact ⟨rfl, H10.out.2⟩
theorem call68 : ∀ args w, (callFunc 68 args).run Try.prog w = .ok (.enter 68 args) w := by intro args w; go_simp
theorem ex_gt8 {ρ : Operand → Value} {o : Oper} {x y : Operand} {a : Nat} {w : World} {t : Bool} (ho : o.op = .binOp .gtr 5 x y 5) (hx : ρ x = .int .u8 (a : Int)) (hy : ρ y = .int .u8 1) (h : decide (1 < a) = t) : (execOp ρ o).run Try.prog w = .ok (.value (.bool t)) w := by
  subst h
  simp only [execOp, ho, hx, hy]
  clear ho hx hy
  go_simp
  by_cases h : 1 < a <;> simp [h] <;> omega
theorem ex_e8 {ρ : Operand → Value} {o : Oper} {x y : Operand} {a : Nat} {w : World} (ho : o.op = .binOp .eql 5 x y 5) (hx : ρ x = .int .u8 (a : Int)) (hy : ρ y = .int .u8 1) : (execOp ρ o).run Try.prog w = .ok (.value (.bool (decide (a = 1)))) w := by
  simp only [execOp, ho, hx, hy]
  clear ho hx hy
  go_simp
  by_cases h : a = 1 <;> simp [h] <;> omega
section
variable {s : Int} {p r c gx gy : Nat}
set_option maxHeartbeats 1000000 in
set_option maxRecDepth 100000 in
theorem read_hi (k : Kd s p r c gx gy) (g o cp : Nat) (f : Nat → Nat) (_hf : ∀ i, f i < 256) (_hc : 17 ≤ cp) (h0 : 1 < f 0) (w : World) (hr : Rd g o 17 f w) :
    Calls Try.prog 36 #[.int .i64 s, .slice (some ⟨g, o, none⟩) 17 cp] w fun e w' => e = .returned (.tuple #[V (pt 0 0 false), .int .i64 4]) ∧ Below w.heap.size w w' := by
  have H0 : Hid (_ ∧ _) := ⟨Mm.nil w, Below.refl w.heap.size w⟩
  go_enter Try.func36, Try.ntmps36
  refine wp_seq ?_
  refine walk_seqA 2 [.made (pt 0 0 false) 25, .quiet (.int .i64 0)] (sB H0) ?ho1 ?he1
  case ho1 => exact ak (fun γ => ⟨rfl, fun w' => ex_made25 rfl⟩) (ak (fun _ => ⟨rfl, fun _ _ => rfl⟩) trivial)
  intro γ w1 l hM hl
  have H1 : Hid (Mm w1 [(γ 0, pt 0 0 false)] ∧ _) := growB H0 hM (Nat.le_refl _) hl [0] rfl (by decide)
  have o1_0 := ownB H0 hM (Nat.le_refl _) hl (i := 0) rfl
  clear hM hl l
  generalize γ 0 = γ1_0 at H1 o1_0 ⊢
  clear γ
  refine rest0 rfl (then_normal (wp_seq ?_))
  refine walk_seqA 8 [.quiet (.int .i64 s), .call (.tuple #[.agg (kd p r c gx gy).toArray, .int .i64 0]), .quiet (.tuple #[.agg (kd p r c gx gy).toArray, .int .i64 0]), .quiet (.agg (kd p r c gx gy).toArray), .quiet (.int .i64 0), .made (kd 0 0 0 0 0) 72, .laid 5 (kd 0 0 0 0 0) (kd p r c gx gy), .quiet (.int .i64 0)] (sB H1) ?ho2 ?he2 (hL := ?hL2)
  case hL2 => exact ⟨⟨_, rfl⟩, trivial⟩
  case ho2 => exact ak (fun _ => ⟨rfl, fun _ _ => rfl⟩) (ak (fun γ => ⟨rfl, fun w' h => ⟨42, #[.int .i64 s], exec_call rfl call42 rfl (mpn rfl), k.kind w'⟩⟩) (ak (fun _ => ⟨rfl, fun _ _ => rfl⟩) (ak (by refine fun γ => ⟨rfl, fun w' h => ?_⟩; clear h; go_simp) (ak (by refine fun γ => ⟨rfl, fun w' h => ?_⟩; clear h; go_simp) (ak (fun γ => ⟨rfl, fun w' => ex_made72 rfl⟩) (ak (fun γ => ⟨rfl, rfl, rfl, fun w' h => ex_laidT h rfl rfl Try.sizeOf72 rfl rfl rfl⟩) (ak (fun _ => ⟨rfl, fun _ _ => rfl⟩) trivial)))))))
  intro γ w2 l hM hl
  have H2 : Hid (Mm w2 [(γ 5, kd p r c gx gy), (γ1_0, pt 0 0 false)] ∧ _) := growB H1 hM (Nat.le_refl _) hl [5] rfl (by decide)
  have o2_5 := ownB H1 hM (Nat.le_refl _) hl (i := 5) rfl
  clear hM hl l H1
  generalize γ 5 = γ2_5 at H2 o2_5 ⊢
  clear γ
  refine rest0 rfl (then_normal (wp_seq (wp_seq ?_)))
  refine walk_seqB 2 [.quiet (.int .i64 0), .quiet (.bool false)] H2 ?ho3 ?he3
  case ho3 => exact ak (fun _ => ⟨rfl, fun _ _ => rfl⟩) (ak (by refine fun γ => ⟨rfl, fun w' h => ?_⟩; clear h; go_simp) trivial)
  intro _ w3 H3
  clear H2
  refine rest0 rfl (then_normal (wp_cond_false rfl ?_))
  refine wp_skip (then_normal ?_)
  refine wp_seq (wp_seq ?_)
  refine (walk_seq) 9 [.quiet (.slice (some ⟨g, o, none⟩) 17 cp), .quiet (.int .i64 17), .quiet (.bool false), .quiet (.bool false), .quiet (.slice (some ⟨g, o, none⟩) 17 cp), .quiet (PT g (o + 0)), .quiet (.int .u8 ((f 0 : Nat) : Int)), .quiet (.bool true), .quiet (.bool true)] (fun u' => Mm u' [(γ2_5, kd p r c gx gy), (γ1_0, pt 0 0 false)] ∧ Rd g o 17 f u') ?pre4 ?F4 ?hpre4 (fun γ => ?hF4) (by kernel_rfl) ?hL4 ?hS4 ?ho4 ?he4
  case hpre4 => simp only [tk, tz]; rfl
  case hF4 => simp only [fill, Kind.val, Act.put, sa, sz, ss]; rfl
  case hL4 => exact trivial
  case hS4 => exact fun w' hb => ⟨H3.out.1.below hb, hr.below (H3.out.2.trans (hb.mono H3.out.2.size))⟩
  case ho4 =>
    refine ak (fun _ => ⟨rfl, fun _ _ => rfl⟩) ?_
    refine ak (by refine fun γ => ⟨rfl, fun w' h => ?_⟩; clear h; go_simp) ?_
    refine ak (by refine fun γ => ⟨rfl, fun w' h => ?_⟩; clear h; go_simp) ?_
    refine ak (fun _ => ⟨rfl, fun _ _ => rfl⟩) ?_
    refine ak (fun _ => ⟨rfl, fun _ _ => rfl⟩) ?_
    refine ak (fun γ => ⟨rfl, fun w' _ => ex_idxS rfl rfl rfl (by omega)⟩) ?_
    refine ak (fun γ => ⟨rfl, fun w' hX => ex_ld8 (k := 0) hX.2 (by omega) rfl rfl⟩) ?_
    refine ak (fun γ => ⟨rfl, fun w' _ => ex_gt8 rfl rfl rfl (decide_eq_true h0)⟩) ?_
    refine ak (by refine fun γ => ⟨rfl, fun w' h => ?_⟩; clear h; go_simp) ?_
    exact trivial
  intro γ w4 l hM hl
  have H4 := keepB H3 hM.below
  clear hM hl l H3 γ
  refine rest0 rfl (then_normal (wp_cond_true rfl (wp_seq ?_)))
  refine walk_seqB 1 [.quiet (.agg (pt 0 0 false).toArray)] H4 ?ho5 ?he5
  case ho5 => exact ak (fun γ => ⟨rfl, fun w' _ => ex_build25_ rfl⟩) trivial
  intro _ w5 H5
  clear H4
  refine rest_at (l := [1, 2]) rfl ?_
  refine rest_store rfl rfl rfl (ex_storeT (vs := pt 0 0 false) H5.out.1 1 rfl rfl rfl rfl Try.sizeOf25 rfl (Nat.le_of_ble_eq_true rfl)) ?_
  have H6 : Hid (Mm (w5.setCells γ1_0 0 (pt 0 0 false)) [(γ2_5, kd p r c gx gy), (γ1_0, pt 0 0 false)] ∧ Below w.heap.size w (w5.setCells γ1_0 0 (pt 0 0 false))) := ⟨H5.out.1.put 1 (off := 0) (vs := pt 0 0 false) rfl (Nat.le_of_ble_eq_true rfl), below_setCells _ o1_0.out _ _ _ H5.out.2⟩
  clear H5
  generalize hgw : World.setCells _ _ _ _ = w6 at H6 ⊢
  clear hgw
  refine rest_set (d := 5) rfl rfl rfl rfl ?_
  simp only [Act.put, sa, sz, ss]
  refine rest_nil (then_normal (wp_ret ?_))
  repeat (first | refine then_ret ?_ | refine block_ret ?_)
  have hf0 := var_T H6.out.1 1 rfl Try.isAgg25 Try.sizeOf25 rfl
  refine bodyPost_ret (v := .tuple #[.agg (pt 0 0 false).toArray, .int .i64 4]) (by simp [results, Try.results36, asAddr, Act.eval, hf0]) rfl ?_
  exact ⟨rfl, H6.out.2⟩
set_option maxHeartbeats 1000000 in
set_option maxRecDepth 100000 in
theorem read_oc (k : Kd s p r c gx gy) (g o cp : Nat) (f : Nat → Nat) (hf : ∀ i, f i < 256) (hc : 17 ≤ cp) (h0 : ¬ 1 < f 0) (h1 : oc p (tkn (fun i => f (1 + i)) 8) (tkn (fun i => f (9 + i)) 8) (decide (f 0 = 1)) = false) (w : World) (hr : Rd g o 17 f w) :
    Calls Try.prog 36 #[.int .i64 s, .slice (some ⟨g, o, none⟩) 17 cp] w fun e w' => e = .returned (.tuple #[V (pt 0 0 false), .int .i64 4]) ∧ Below w.heap.size w w' := by
  have H0 : Hid (_ ∧ _) := ⟨Mm.nil w, Below.refl w.heap.size w⟩
  go_enter Try.func36, Try.ntmps36
  refine wp_seq ?_
  refine walk_seqA 2 [.made (pt 0 0 false) 25, .quiet (.int .i64 0)] (sB H0) ?ho1 ?he1
  case ho1 => exact ak (fun γ => ⟨rfl, fun w' => ex_made25 rfl⟩) (ak (fun _ => ⟨rfl, fun _ _ => rfl⟩) trivial)
  intro γ w1 l hM hl
  have H1 : Hid (Mm w1 [(γ 0, pt 0 0 false)] ∧ _) := growB H0 hM (Nat.le_refl _) hl [0] rfl (by decide)
  have o1_0 := ownB H0 hM (Nat.le_refl _) hl (i := 0) rfl
  clear hM hl l
  generalize γ 0 = γ1_0 at H1 o1_0 ⊢
  clear γ
  refine rest0 rfl (then_normal (wp_seq ?_))
  refine walk_seqA 8 [.quiet (.int .i64 s), .call (.tuple #[.agg (kd p r c gx gy).toArray, .int .i64 0]), .quiet (.tuple #[.agg (kd p r c gx gy).toArray, .int .i64 0]), .quiet (.agg (kd p r c gx gy).toArray), .quiet (.int .i64 0), .made (kd 0 0 0 0 0) 72, .laid 5 (kd 0 0 0 0 0) (kd p r c gx gy), .quiet (.int .i64 0)] (sB H1) ?ho2 ?he2 (hL := ?hL2)
  case hL2 => exact ⟨⟨_, rfl⟩, trivial⟩
  case ho2 => exact ak (fun _ => ⟨rfl, fun _ _ => rfl⟩) (ak (fun γ => ⟨rfl, fun w' h => ⟨42, #[.int .i64 s], exec_call rfl call42 rfl (mpn rfl), k.kind w'⟩⟩) (ak (fun _ => ⟨rfl, fun _ _ => rfl⟩) (ak (by refine fun γ => ⟨rfl, fun w' h => ?_⟩; clear h; go_simp) (ak (by refine fun γ => ⟨rfl, fun w' h => ?_⟩; clear h; go_simp) (ak (fun γ => ⟨rfl, fun w' => ex_made72 rfl⟩) (ak (fun γ => ⟨rfl, rfl, rfl, fun w' h => ex_laidT h rfl rfl Try.sizeOf72 rfl rfl rfl⟩) (ak (fun _ => ⟨rfl, fun _ _ => rfl⟩) trivial)))))))
  intro γ w2 l hM hl
  have H2 : Hid (Mm w2 [(γ 5, kd p r c gx gy), (γ1_0, pt 0 0 false)] ∧ _) := growB H1 hM (Nat.le_refl _) hl [5] rfl (by decide)
  have o2_5 := ownB H1 hM (Nat.le_refl _) hl (i := 5) rfl
  clear hM hl l H1
  generalize γ 5 = γ2_5 at H2 o2_5 ⊢
  clear γ
  refine rest0 rfl (then_normal (wp_seq (wp_seq ?_)))
  refine walk_seqB 2 [.quiet (.int .i64 0), .quiet (.bool false)] H2 ?ho3 ?he3
  case ho3 => exact ak (fun _ => ⟨rfl, fun _ _ => rfl⟩) (ak (by refine fun γ => ⟨rfl, fun w' h => ?_⟩; clear h; go_simp) trivial)
  intro _ w3 H3
  clear H2
  refine rest0 rfl (then_normal (wp_cond_false rfl ?_))
  refine wp_skip (then_normal ?_)
  refine wp_seq (wp_seq ?_)
  refine (walk_seq) 9 [.quiet (.slice (some ⟨g, o, none⟩) 17 cp), .quiet (.int .i64 17), .quiet (.bool false), .quiet (.bool false), .quiet (.slice (some ⟨g, o, none⟩) 17 cp), .quiet (PT g (o + 0)), .quiet (.int .u8 ((f 0 : Nat) : Int)), .quiet (.bool false), .quiet (.bool false)] (fun u' => Mm u' [(γ2_5, kd p r c gx gy), (γ1_0, pt 0 0 false)] ∧ Rd g o 17 f u') ?pre4 ?F4 ?hpre4 (fun γ => ?hF4) (by kernel_rfl) ?hL4 ?hS4 ?ho4 ?he4
  case hpre4 => simp only [tk, tz]; rfl
  case hF4 => simp only [fill, Kind.val, Act.put, sa, sz, ss]; rfl
  case hL4 => exact trivial
  case hS4 => exact fun w' hb => ⟨H3.out.1.below hb, hr.below (H3.out.2.trans (hb.mono H3.out.2.size))⟩
  case ho4 =>
    refine ak (fun _ => ⟨rfl, fun _ _ => rfl⟩) ?_
    refine ak (by refine fun γ => ⟨rfl, fun w' h => ?_⟩; clear h; go_simp) ?_
    refine ak (by refine fun γ => ⟨rfl, fun w' h => ?_⟩; clear h; go_simp) ?_
    refine ak (fun _ => ⟨rfl, fun _ _ => rfl⟩) ?_
    refine ak (fun _ => ⟨rfl, fun _ _ => rfl⟩) ?_
    refine ak (fun γ => ⟨rfl, fun w' _ => ex_idxS rfl rfl rfl (by omega)⟩) ?_
    refine ak (fun γ => ⟨rfl, fun w' hX => ex_ld8 (k := 0) hX.2 (by omega) rfl rfl⟩) ?_
    refine ak (fun γ => ⟨rfl, fun w' _ => ex_gt8 rfl rfl rfl (decide_eq_false h0)⟩) ?_
    refine ak (by refine fun γ => ⟨rfl, fun w' h => ?_⟩; clear h; go_simp) ?_
    exact trivial
  intro γ w4 l hM hl
  have H4 := keepB H3 hM.below
  clear hM hl l H3 γ
  refine rest0 rfl (then_normal (wp_cond_false rfl ?_))
  refine wp_skip (then_normal (wp_seq ?_))
  refine (walk_any) (by kernel_rfl) 13 [.quiet (.slice (some ⟨g, o, none⟩) 17 cp), .quiet (.slice (some ⟨g, (o + 1), none⟩) 16 (cp - 1)), .call (U (tkn (fun i => f (1 + i)) 8)), .quiet (.slice (some ⟨g, o, none⟩) 17 cp), .quiet (.slice (some ⟨g, (o + 9), none⟩) 8 (cp - 9)), .call (U (tkn (fun i => f (9 + i)) 8)), .quiet (.slice (some ⟨g, o, none⟩) 17 cp), .quiet (PT g (o + 0)), .quiet (.int .u8 ((f 0 : Nat) : Int)), .quiet (.bool (decide (f 0 = 1))), .quiet (.agg (pt (tkn (fun i => f (1 + i)) 8) (tkn (fun i => f (9 + i)) 8) (decide (f 0 = 1))).toArray), .made (pt 0 0 false) 25, .laid 11 (pt 0 0 false) (pt (tkn (fun i => f (1 + i)) 8) (tkn (fun i => f (9 + i)) 8) (decide (f 0 = 1)))] (fun u' => Mm u' [(γ2_5, kd p r c gx gy), (γ1_0, pt 0 0 false)] ∧ Rd g o 17 f u') ?pre5 ?F5 ?hpre5 (fun γ => ?hF5) (by kernel_rfl) ?hL5 ?hS5 ?ho5 ?he5
  case hpre5 => simp only [tk, tz]; rfl
  case hF5 => simp only [fill, Kind.val, Act.put, sa, sz, ss]; rfl
  case hL5 => exact ⟨⟨_, rfl⟩, trivial⟩
  case hS5 => exact fun w' hb => ⟨H4.out.1.below hb, hr.below (H4.out.2.trans (hb.mono H4.out.2.size))⟩
  case ho5 =>
    refine ak (fun _ => ⟨rfl, fun _ _ => rfl⟩) ?_
    refine ak (fun γ => ⟨rfl, fun w' _ => ex_slL (m := 17) (l := 1) rfl rfl rfl (by omega) (by omega)⟩) ?_
    refine ak (fun γ => ⟨rfl, fun w' hX => ⟨68, #[.slice (some ⟨g, (o + 1), none⟩) 16 (cp - 1)], exec_call rfl call68 rfl (mpn rfl), take_any g (o + 1) 16 ((cp - 1)) (fun i => f (1 + i)) (fun i => hf _) (by omega) w' (hX.2.sub 1 8 (by decide))⟩⟩) ?_
    refine ak (fun _ => ⟨rfl, fun _ _ => rfl⟩) ?_
    refine ak (fun γ => ⟨rfl, fun w' _ => ex_slL (m := 17) (l := 9) rfl rfl rfl (by omega) (by omega)⟩) ?_
    refine ak (fun γ => ⟨rfl, fun w' hX => ⟨68, #[.slice (some ⟨g, (o + 9), none⟩) 8 (cp - 9)], exec_call rfl call68 rfl (mpn rfl), take_any g (o + 9) 8 ((cp - 9)) (fun i => f (9 + i)) (fun i => hf _) (by omega) w' (hX.2.sub 9 8 (by decide))⟩⟩) ?_
    refine ak (fun _ => ⟨rfl, fun _ _ => rfl⟩) ?_
    refine ak (fun γ => ⟨rfl, fun w' _ => ex_idxS rfl rfl rfl (by omega)⟩) ?_
    refine ak (fun γ => ⟨rfl, fun w' hX => ex_ld8 (k := 0) hX.2 (by omega) rfl rfl⟩) ?_
    refine ak (fun γ => ⟨rfl, fun w' _ => ex_e8 rfl rfl rfl⟩) ?_
    refine ak (fun γ => ⟨rfl, fun w' _ => ex_build25_012 rfl rfl rfl rfl⟩) ?_
    refine ak (fun γ => ⟨rfl, fun w' => ex_made25 rfl⟩) ?_
    refine ak (fun γ => ⟨rfl, rfl, rfl, fun w' h => ex_laidT h rfl rfl Try.sizeOf25 rfl rfl rfl⟩) ?_
    exact trivial
  intro γ w5 l hM hl
  have H5 : Hid (Mm w5 [(γ 11, pt (tkn (fun i => f (1 + i)) 8) (tkn (fun i => f (9 + i)) 8) (decide (f 0 = 1))), (γ2_5, kd p r c gx gy), (γ1_0, pt 0 0 false)] ∧ _) := growB H4 hM (Nat.le_refl _) hl [11] rfl (by decide)
  have o5_11 := ownB H4 hM (Nat.le_refl _) hl (i := 11) rfl
  clear hM hl l H4
  generalize γ 11 = γ5_11 at H5 o5_11 ⊢
  clear γ
  refine rest0 rfl (then_normal (wp_seq (wp_seq ?_)))
  refine walk_seqB 4 [.quiet (.agg (kd p r c gx gy).toArray), .quiet (.agg (pt (tkn (fun i => f (1 + i)) 8) (tkn (fun i => f (9 + i)) 8) (decide (f 0 = 1))).toArray), .call (.bool false), .quiet (.bool true)] H5 ?ho6 ?he6
  case ho6 => exact ak (fun γ => ⟨rfl, fun w' h => ex_loadT h 1 rfl rfl rfl Try.isAgg72 Try.sizeOf72 rfl rfl⟩) (ak (fun γ => ⟨rfl, fun w' h => ex_loadT h 0 rfl rfl rfl Try.isAgg25 Try.sizeOf25 rfl rfl⟩) (ak (fun γ => ⟨rfl, fun w' h => ⟨50, #[.agg (kd p r c gx gy).toArray, .agg (pt (tkn (fun i => f (1 + i)) 8) (tkn (fun i => f (9 + i)) 8) (decide (f 0 = 1))).toArray], exec_call rfl call50 rfl (mpn rfl), on_is k.pr _ _ _ _ h1 w'⟩⟩) (ak (by refine fun γ => ⟨rfl, fun w' h => ?_⟩; clear h; go_simp) trivial)))
  intro _ w6 H6
  clear H5
  refine rest0 rfl (then_normal (wp_cond_true rfl (wp_seq ?_)))
  refine walk_seqB 1 [.quiet (.agg (pt 0 0 false).toArray)] H6 ?ho7 ?he7
  case ho7 => exact ak (fun γ => ⟨rfl, fun w' _ => ex_build25_ rfl⟩) trivial
  intro _ w7 H7
  clear H6
  refine rest_at (l := [1, 2]) rfl ?_
  refine rest_store rfl rfl rfl (ex_storeT (vs := pt 0 0 false) H7.out.1 2 rfl rfl rfl rfl Try.sizeOf25 rfl (Nat.le_of_ble_eq_true rfl)) ?_
  have H8 : Hid (Mm (w7.setCells γ1_0 0 (pt 0 0 false)) [(γ5_11, pt (tkn (fun i => f (1 + i)) 8) (tkn (fun i => f (9 + i)) 8) (decide (f 0 = 1))), (γ2_5, kd p r c gx gy), (γ1_0, pt 0 0 false)] ∧ Below w.heap.size w (w7.setCells γ1_0 0 (pt 0 0 false))) := ⟨H7.out.1.put 2 (off := 0) (vs := pt 0 0 false) rfl (Nat.le_of_ble_eq_true rfl), below_setCells _ o1_0.out _ _ _ H7.out.2⟩
  clear H7
  generalize hgw : World.setCells _ _ _ _ = w8 at H8 ⊢
  clear hgw
  refine rest_set (d := 5) rfl rfl rfl rfl ?_
  simp only [Act.put, sa, sz, ss]
  refine rest_nil (then_normal (wp_ret ?_))
  repeat (first | refine then_ret ?_ | refine block_ret ?_)
  have hf0 := var_T H8.out.1 2 rfl Try.isAgg25 Try.sizeOf25 rfl
  refine bodyPost_ret (v := .tuple #[.agg (pt 0 0 false).toArray, .int .i64 4]) (by simp [results, Try.results36, asAddr, Act.eval, hf0]) rfl ?_
  exact ⟨rfl, H8.out.2⟩
set_option maxHeartbeats 1000000 in
set_option maxRecDepth 100000 in
theorem read_ig (k : Kd s p r c gx gy) (g o cp : Nat) (f : Nat → Nat) (hf : ∀ i, f i < 256) (hc : 17 ≤ cp) (h0 : ¬ 1 < f 0) (h1 : oc p (tkn (fun i => f (1 + i)) 8) (tkn (fun i => f (9 + i)) 8) (decide (f 0 = 1)) = true) (h2 : ig p r (tkn (fun i => f (1 + i)) 8) (tkn (fun i => f (9 + i)) 8) (decide (f 0 = 1)) = false) (w : World) (hr : Rd g o 17 f w) :
    Calls Try.prog 36 #[.int .i64 s, .slice (some ⟨g, o, none⟩) 17 cp] w fun e w' => e = .returned (.tuple #[V (pt 0 0 false), .int .i64 5]) ∧ Below w.heap.size w w' := by
  have H0 : Hid (_ ∧ _) := ⟨Mm.nil w, Below.refl w.heap.size w⟩
  go_enter Try.func36, Try.ntmps36
  refine wp_seq ?_
  refine walk_seqA 2 [.made (pt 0 0 false) 25, .quiet (.int .i64 0)] (sB H0) ?ho1 ?he1
  case ho1 => exact ak (fun γ => ⟨rfl, fun w' => ex_made25 rfl⟩) (ak (fun _ => ⟨rfl, fun _ _ => rfl⟩) trivial)
  intro γ w1 l hM hl
  have H1 : Hid (Mm w1 [(γ 0, pt 0 0 false)] ∧ _) := growB H0 hM (Nat.le_refl _) hl [0] rfl (by decide)
  have o1_0 := ownB H0 hM (Nat.le_refl _) hl (i := 0) rfl
  clear hM hl l
  generalize γ 0 = γ1_0 at H1 o1_0 ⊢
  clear γ
  refine rest0 rfl (then_normal (wp_seq ?_))
  refine walk_seqA 8 [.quiet (.int .i64 s), .call (.tuple #[.agg (kd p r c gx gy).toArray, .int .i64 0]), .quiet (.tuple #[.agg (kd p r c gx gy).toArray, .int .i64 0]), .quiet (.agg (kd p r c gx gy).toArray), .quiet (.int .i64 0), .made (kd 0 0 0 0 0) 72, .laid 5 (kd 0 0 0 0 0) (kd p r c gx gy), .quiet (.int .i64 0)] (sB H1) ?ho2 ?he2 (hL := ?hL2)
  case hL2 => exact ⟨⟨_, rfl⟩, trivial⟩
  case ho2 => exact ak (fun _ => ⟨rfl, fun _ _ => rfl⟩) (ak (fun γ => ⟨rfl, fun w' h => ⟨42, #[.int .i64 s], exec_call rfl call42 rfl (mpn rfl), k.kind w'⟩⟩) (ak (fun _ => ⟨rfl, fun _ _ => rfl⟩) (ak (by refine fun γ => ⟨rfl, fun w' h => ?_⟩; clear h; go_simp) (ak (by refine fun γ => ⟨rfl, fun w' h => ?_⟩; clear h; go_simp) (ak (fun γ => ⟨rfl, fun w' => ex_made72 rfl⟩) (ak (fun γ => ⟨rfl, rfl, rfl, fun w' h => ex_laidT h rfl rfl Try.sizeOf72 rfl rfl rfl⟩) (ak (fun _ => ⟨rfl, fun _ _ => rfl⟩) trivial)))))))
  intro γ w2 l hM hl
  have H2 : Hid (Mm w2 [(γ 5, kd p r c gx gy), (γ1_0, pt 0 0 false)] ∧ _) := growB H1 hM (Nat.le_refl _) hl [5] rfl (by decide)
  have o2_5 := ownB H1 hM (Nat.le_refl _) hl (i := 5) rfl
  clear hM hl l H1
  generalize γ 5 = γ2_5 at H2 o2_5 ⊢
  clear γ
  refine rest0 rfl (then_normal (wp_seq (wp_seq ?_)))
  refine walk_seqB 2 [.quiet (.int .i64 0), .quiet (.bool false)] H2 ?ho3 ?he3
  case ho3 => exact ak (fun _ => ⟨rfl, fun _ _ => rfl⟩) (ak (by refine fun γ => ⟨rfl, fun w' h => ?_⟩; clear h; go_simp) trivial)
  intro _ w3 H3
  clear H2
  refine rest0 rfl (then_normal (wp_cond_false rfl ?_))
  refine wp_skip (then_normal ?_)
  refine wp_seq (wp_seq ?_)
  refine (walk_seq) 9 [.quiet (.slice (some ⟨g, o, none⟩) 17 cp), .quiet (.int .i64 17), .quiet (.bool false), .quiet (.bool false), .quiet (.slice (some ⟨g, o, none⟩) 17 cp), .quiet (PT g (o + 0)), .quiet (.int .u8 ((f 0 : Nat) : Int)), .quiet (.bool false), .quiet (.bool false)] (fun u' => Mm u' [(γ2_5, kd p r c gx gy), (γ1_0, pt 0 0 false)] ∧ Rd g o 17 f u') ?pre4 ?F4 ?hpre4 (fun γ => ?hF4) (by kernel_rfl) ?hL4 ?hS4 ?ho4 ?he4
  case hpre4 => simp only [tk, tz]; rfl
  case hF4 => simp only [fill, Kind.val, Act.put, sa, sz, ss]; rfl
  case hL4 => exact trivial
  case hS4 => exact fun w' hb => ⟨H3.out.1.below hb, hr.below (H3.out.2.trans (hb.mono H3.out.2.size))⟩
  case ho4 =>
    refine ak (fun _ => ⟨rfl, fun _ _ => rfl⟩) ?_
    refine ak (by refine fun γ => ⟨rfl, fun w' h => ?_⟩; clear h; go_simp) ?_
    refine ak (by refine fun γ => ⟨rfl, fun w' h => ?_⟩; clear h; go_simp) ?_
    refine ak (fun _ => ⟨rfl, fun _ _ => rfl⟩) ?_
    refine ak (fun _ => ⟨rfl, fun _ _ => rfl⟩) ?_
    refine ak (fun γ => ⟨rfl, fun w' _ => ex_idxS rfl rfl rfl (by omega)⟩) ?_
    refine ak (fun γ => ⟨rfl, fun w' hX => ex_ld8 (k := 0) hX.2 (by omega) rfl rfl⟩) ?_
    refine ak (fun γ => ⟨rfl, fun w' _ => ex_gt8 rfl rfl rfl (decide_eq_false h0)⟩) ?_
    refine ak (by refine fun γ => ⟨rfl, fun w' h => ?_⟩; clear h; go_simp) ?_
    exact trivial
  intro γ w4 l hM hl
  have H4 := keepB H3 hM.below
  clear hM hl l H3 γ
  refine rest0 rfl (then_normal (wp_cond_false rfl ?_))
  refine wp_skip (then_normal (wp_seq ?_))
  refine (walk_any) (by kernel_rfl) 13 [.quiet (.slice (some ⟨g, o, none⟩) 17 cp), .quiet (.slice (some ⟨g, (o + 1), none⟩) 16 (cp - 1)), .call (U (tkn (fun i => f (1 + i)) 8)), .quiet (.slice (some ⟨g, o, none⟩) 17 cp), .quiet (.slice (some ⟨g, (o + 9), none⟩) 8 (cp - 9)), .call (U (tkn (fun i => f (9 + i)) 8)), .quiet (.slice (some ⟨g, o, none⟩) 17 cp), .quiet (PT g (o + 0)), .quiet (.int .u8 ((f 0 : Nat) : Int)), .quiet (.bool (decide (f 0 = 1))), .quiet (.agg (pt (tkn (fun i => f (1 + i)) 8) (tkn (fun i => f (9 + i)) 8) (decide (f 0 = 1))).toArray), .made (pt 0 0 false) 25, .laid 11 (pt 0 0 false) (pt (tkn (fun i => f (1 + i)) 8) (tkn (fun i => f (9 + i)) 8) (decide (f 0 = 1)))] (fun u' => Mm u' [(γ2_5, kd p r c gx gy), (γ1_0, pt 0 0 false)] ∧ Rd g o 17 f u') ?pre5 ?F5 ?hpre5 (fun γ => ?hF5) (by kernel_rfl) ?hL5 ?hS5 ?ho5 ?he5
  case hpre5 => simp only [tk, tz]; rfl
  case hF5 => simp only [fill, Kind.val, Act.put, sa, sz, ss]; rfl
  case hL5 => exact ⟨⟨_, rfl⟩, trivial⟩
  case hS5 => exact fun w' hb => ⟨H4.out.1.below hb, hr.below (H4.out.2.trans (hb.mono H4.out.2.size))⟩
  case ho5 =>
    refine ak (fun _ => ⟨rfl, fun _ _ => rfl⟩) ?_
    refine ak (fun γ => ⟨rfl, fun w' _ => ex_slL (m := 17) (l := 1) rfl rfl rfl (by omega) (by omega)⟩) ?_
    refine ak (fun γ => ⟨rfl, fun w' hX => ⟨68, #[.slice (some ⟨g, (o + 1), none⟩) 16 (cp - 1)], exec_call rfl call68 rfl (mpn rfl), take_any g (o + 1) 16 ((cp - 1)) (fun i => f (1 + i)) (fun i => hf _) (by omega) w' (hX.2.sub 1 8 (by decide))⟩⟩) ?_
    refine ak (fun _ => ⟨rfl, fun _ _ => rfl⟩) ?_
    refine ak (fun γ => ⟨rfl, fun w' _ => ex_slL (m := 17) (l := 9) rfl rfl rfl (by omega) (by omega)⟩) ?_
    refine ak (fun γ => ⟨rfl, fun w' hX => ⟨68, #[.slice (some ⟨g, (o + 9), none⟩) 8 (cp - 9)], exec_call rfl call68 rfl (mpn rfl), take_any g (o + 9) 8 ((cp - 9)) (fun i => f (9 + i)) (fun i => hf _) (by omega) w' (hX.2.sub 9 8 (by decide))⟩⟩) ?_
    refine ak (fun _ => ⟨rfl, fun _ _ => rfl⟩) ?_
    refine ak (fun γ => ⟨rfl, fun w' _ => ex_idxS rfl rfl rfl (by omega)⟩) ?_
    refine ak (fun γ => ⟨rfl, fun w' hX => ex_ld8 (k := 0) hX.2 (by omega) rfl rfl⟩) ?_
    refine ak (fun γ => ⟨rfl, fun w' _ => ex_e8 rfl rfl rfl⟩) ?_
    refine ak (fun γ => ⟨rfl, fun w' _ => ex_build25_012 rfl rfl rfl rfl⟩) ?_
    refine ak (fun γ => ⟨rfl, fun w' => ex_made25 rfl⟩) ?_
    refine ak (fun γ => ⟨rfl, rfl, rfl, fun w' h => ex_laidT h rfl rfl Try.sizeOf25 rfl rfl rfl⟩) ?_
    exact trivial
  intro γ w5 l hM hl
  have H5 : Hid (Mm w5 [(γ 11, pt (tkn (fun i => f (1 + i)) 8) (tkn (fun i => f (9 + i)) 8) (decide (f 0 = 1))), (γ2_5, kd p r c gx gy), (γ1_0, pt 0 0 false)] ∧ _) := growB H4 hM (Nat.le_refl _) hl [11] rfl (by decide)
  have o5_11 := ownB H4 hM (Nat.le_refl _) hl (i := 11) rfl
  clear hM hl l H4
  generalize γ 11 = γ5_11 at H5 o5_11 ⊢
  clear γ
  refine rest0 rfl (then_normal (wp_seq (wp_seq ?_)))
  refine walk_seqB 4 [.quiet (.agg (kd p r c gx gy).toArray), .quiet (.agg (pt (tkn (fun i => f (1 + i)) 8) (tkn (fun i => f (9 + i)) 8) (decide (f 0 = 1))).toArray), .call (.bool true), .quiet (.bool false)] H5 ?ho6 ?he6
  case ho6 => exact ak (fun γ => ⟨rfl, fun w' h => ex_loadT h 1 rfl rfl rfl Try.isAgg72 Try.sizeOf72 rfl rfl⟩) (ak (fun γ => ⟨rfl, fun w' h => ex_loadT h 0 rfl rfl rfl Try.isAgg25 Try.sizeOf25 rfl rfl⟩) (ak (fun γ => ⟨rfl, fun w' h => ⟨50, #[.agg (kd p r c gx gy).toArray, .agg (pt (tkn (fun i => f (1 + i)) 8) (tkn (fun i => f (9 + i)) 8) (decide (f 0 = 1))).toArray], exec_call rfl call50 rfl (mpn rfl), on_is k.pr _ _ _ _ h1 w'⟩⟩) (ak (by refine fun γ => ⟨rfl, fun w' h => ?_⟩; clear h; go_simp) trivial)))
  intro _ w6 H6
  clear H5
  refine rest0 rfl (then_normal (wp_cond_false rfl ?_))
  refine wp_skip (then_normal ?_)
  refine wp_seq (wp_seq ?_)
  refine walk_seqB 4 [.quiet (.agg (kd p r c gx gy).toArray), .quiet (.agg (pt (tkn (fun i => f (1 + i)) 8) (tkn (fun i => f (9 + i)) 8) (decide (f 0 = 1))).toArray), .call (.bool false), .quiet (.bool true)] H6 ?ho7 ?he7
  case ho7 => exact ak (fun γ => ⟨rfl, fun w' h => ex_loadT h 1 rfl rfl rfl Try.isAgg72 Try.sizeOf72 rfl rfl⟩) (ak (fun γ => ⟨rfl, fun w' h => ex_loadT h 0 rfl rfl rfl Try.isAgg25 Try.sizeOf25 rfl rfl⟩) (ak (fun γ => ⟨rfl, fun w' h => ⟨51, #[.agg (kd p r c gx gy).toArray, .agg (pt (tkn (fun i => f (1 + i)) 8) (tkn (fun i => f (9 + i)) 8) (decide (f 0 = 1))).toArray], exec_call rfl call51 rfl (mpn rfl), ig_in k.pr k.rb _ _ _ _ h2 w'⟩⟩) (ak (by refine fun γ => ⟨rfl, fun w' h => ?_⟩; clear h; go_simp) trivial)))
  intro _ w7 H7
  clear H6
  refine rest0 rfl (then_normal (wp_cond_true rfl (wp_seq ?_)))
  refine walk_seqB 1 [.quiet (.agg (pt 0 0 false).toArray)] H7 ?ho8 ?he8
  case ho8 => exact ak (fun γ => ⟨rfl, fun w' _ => ex_build25_ rfl⟩) trivial
  intro _ w8 H8
  clear H7
  refine rest_at (l := [1, 2]) rfl ?_
  refine rest_store rfl rfl rfl (ex_storeT (vs := pt 0 0 false) H8.out.1 2 rfl rfl rfl rfl Try.sizeOf25 rfl (Nat.le_of_ble_eq_true rfl)) ?_
  have H9 : Hid (Mm (w8.setCells γ1_0 0 (pt 0 0 false)) [(γ5_11, pt (tkn (fun i => f (1 + i)) 8) (tkn (fun i => f (9 + i)) 8) (decide (f 0 = 1))), (γ2_5, kd p r c gx gy), (γ1_0, pt 0 0 false)] ∧ Below w.heap.size w (w8.setCells γ1_0 0 (pt 0 0 false))) := ⟨H8.out.1.put 2 (off := 0) (vs := pt 0 0 false) rfl (Nat.le_of_ble_eq_true rfl), below_setCells _ o1_0.out _ _ _ H8.out.2⟩
  clear H8
  generalize hgw : World.setCells _ _ _ _ = w9 at H9 ⊢
  clear hgw
  refine rest_set (d := 5) rfl rfl rfl rfl ?_
  simp only [Act.put, sa, sz, ss]
  refine rest_nil (then_normal (wp_ret ?_))
  repeat (first | refine then_ret ?_ | refine block_ret ?_)
  have hf0 := var_T H9.out.1 2 rfl Try.isAgg25 Try.sizeOf25 rfl
  refine bodyPost_ret (v := .tuple #[.agg (pt 0 0 false).toArray, .int .i64 5]) (by simp [results, Try.results36, asAddr, Act.eval, hf0]) rfl ?_
  exact ⟨rfl, H9.out.2⟩
set_option maxHeartbeats 1000000 in
set_option maxRecDepth 100000 in
theorem read_ok (k : Kd s p r c gx gy) (g o cp : Nat) (f : Nat → Nat) (hf : ∀ i, f i < 256) (hc : 17 ≤ cp) (h0 : ¬ 1 < f 0) (h1 : oc p (tkn (fun i => f (1 + i)) 8) (tkn (fun i => f (9 + i)) 8) (decide (f 0 = 1)) = true) (h2 : ig p r (tkn (fun i => f (1 + i)) 8) (tkn (fun i => f (9 + i)) 8) (decide (f 0 = 1)) = true) (w : World) (hr : Rd g o 17 f w) :
    Calls Try.prog 36 #[.int .i64 s, .slice (some ⟨g, o, none⟩) 17 cp] w fun e w' => e = .returned (.tuple #[V (pt (tkn (fun i => f (1 + i)) 8) (tkn (fun i => f (9 + i)) 8) (decide (f 0 = 1))), .int .i64 0]) ∧ Below w.heap.size w w' := by
  have H0 : Hid (_ ∧ _) := ⟨Mm.nil w, Below.refl w.heap.size w⟩
  go_enter Try.func36, Try.ntmps36
  refine wp_seq ?_
  refine walk_seqA 2 [.made (pt 0 0 false) 25, .quiet (.int .i64 0)] (sB H0) ?ho1 ?he1
  case ho1 => exact ak (fun γ => ⟨rfl, fun w' => ex_made25 rfl⟩) (ak (fun _ => ⟨rfl, fun _ _ => rfl⟩) trivial)
  intro γ w1 l hM hl
  have H1 : Hid (Mm w1 [(γ 0, pt 0 0 false)] ∧ _) := growB H0 hM (Nat.le_refl _) hl [0] rfl (by decide)
  have o1_0 := ownB H0 hM (Nat.le_refl _) hl (i := 0) rfl
  clear hM hl l
  generalize γ 0 = γ1_0 at H1 o1_0 ⊢
  clear γ
  refine rest0 rfl (then_normal (wp_seq ?_))
  refine walk_seqA 8 [.quiet (.int .i64 s), .call (.tuple #[.agg (kd p r c gx gy).toArray, .int .i64 0]), .quiet (.tuple #[.agg (kd p r c gx gy).toArray, .int .i64 0]), .quiet (.agg (kd p r c gx gy).toArray), .quiet (.int .i64 0), .made (kd 0 0 0 0 0) 72, .laid 5 (kd 0 0 0 0 0) (kd p r c gx gy), .quiet (.int .i64 0)] (sB H1) ?ho2 ?he2 (hL := ?hL2)
  case hL2 => exact ⟨⟨_, rfl⟩, trivial⟩
  case ho2 => exact ak (fun _ => ⟨rfl, fun _ _ => rfl⟩) (ak (fun γ => ⟨rfl, fun w' h => ⟨42, #[.int .i64 s], exec_call rfl call42 rfl (mpn rfl), k.kind w'⟩⟩) (ak (fun _ => ⟨rfl, fun _ _ => rfl⟩) (ak (by refine fun γ => ⟨rfl, fun w' h => ?_⟩; clear h; go_simp) (ak (by refine fun γ => ⟨rfl, fun w' h => ?_⟩; clear h; go_simp) (ak (fun γ => ⟨rfl, fun w' => ex_made72 rfl⟩) (ak (fun γ => ⟨rfl, rfl, rfl, fun w' h => ex_laidT h rfl rfl Try.sizeOf72 rfl rfl rfl⟩) (ak (fun _ => ⟨rfl, fun _ _ => rfl⟩) trivial)))))))
  intro γ w2 l hM hl
  have H2 : Hid (Mm w2 [(γ 5, kd p r c gx gy), (γ1_0, pt 0 0 false)] ∧ _) := growB H1 hM (Nat.le_refl _) hl [5] rfl (by decide)
  have o2_5 := ownB H1 hM (Nat.le_refl _) hl (i := 5) rfl
  clear hM hl l H1
  generalize γ 5 = γ2_5 at H2 o2_5 ⊢
  clear γ
  refine rest0 rfl (then_normal (wp_seq (wp_seq ?_)))
  refine walk_seqB 2 [.quiet (.int .i64 0), .quiet (.bool false)] H2 ?ho3 ?he3
  case ho3 => exact ak (fun _ => ⟨rfl, fun _ _ => rfl⟩) (ak (by refine fun γ => ⟨rfl, fun w' h => ?_⟩; clear h; go_simp) trivial)
  intro _ w3 H3
  clear H2
  refine rest0 rfl (then_normal (wp_cond_false rfl ?_))
  refine wp_skip (then_normal ?_)
  refine wp_seq (wp_seq ?_)
  refine (walk_seq) 9 [.quiet (.slice (some ⟨g, o, none⟩) 17 cp), .quiet (.int .i64 17), .quiet (.bool false), .quiet (.bool false), .quiet (.slice (some ⟨g, o, none⟩) 17 cp), .quiet (PT g (o + 0)), .quiet (.int .u8 ((f 0 : Nat) : Int)), .quiet (.bool false), .quiet (.bool false)] (fun u' => Mm u' [(γ2_5, kd p r c gx gy), (γ1_0, pt 0 0 false)] ∧ Rd g o 17 f u') ?pre4 ?F4 ?hpre4 (fun γ => ?hF4) (by kernel_rfl) ?hL4 ?hS4 ?ho4 ?he4
  case hpre4 => simp only [tk, tz]; rfl
  case hF4 => simp only [fill, Kind.val, Act.put, sa, sz, ss]; rfl
  case hL4 => exact trivial
  case hS4 => exact fun w' hb => ⟨H3.out.1.below hb, hr.below (H3.out.2.trans (hb.mono H3.out.2.size))⟩
  case ho4 =>
    refine ak (fun _ => ⟨rfl, fun _ _ => rfl⟩) ?_
    refine ak (by refine fun γ => ⟨rfl, fun w' h => ?_⟩; clear h; go_simp) ?_
    refine ak (by refine fun γ => ⟨rfl, fun w' h => ?_⟩; clear h; go_simp) ?_
    refine ak (fun _ => ⟨rfl, fun _ _ => rfl⟩) ?_
    refine ak (fun _ => ⟨rfl, fun _ _ => rfl⟩) ?_
    refine ak (fun γ => ⟨rfl, fun w' _ => ex_idxS rfl rfl rfl (by omega)⟩) ?_
    refine ak (fun γ => ⟨rfl, fun w' hX => ex_ld8 (k := 0) hX.2 (by omega) rfl rfl⟩) ?_
    refine ak (fun γ => ⟨rfl, fun w' _ => ex_gt8 rfl rfl rfl (decide_eq_false h0)⟩) ?_
    refine ak (by refine fun γ => ⟨rfl, fun w' h => ?_⟩; clear h; go_simp) ?_
    exact trivial
  intro γ w4 l hM hl
  have H4 := keepB H3 hM.below
  clear hM hl l H3 γ
  refine rest0 rfl (then_normal (wp_cond_false rfl ?_))
  refine wp_skip (then_normal (wp_seq ?_))
  refine (walk_any) (by kernel_rfl) 13 [.quiet (.slice (some ⟨g, o, none⟩) 17 cp), .quiet (.slice (some ⟨g, (o + 1), none⟩) 16 (cp - 1)), .call (U (tkn (fun i => f (1 + i)) 8)), .quiet (.slice (some ⟨g, o, none⟩) 17 cp), .quiet (.slice (some ⟨g, (o + 9), none⟩) 8 (cp - 9)), .call (U (tkn (fun i => f (9 + i)) 8)), .quiet (.slice (some ⟨g, o, none⟩) 17 cp), .quiet (PT g (o + 0)), .quiet (.int .u8 ((f 0 : Nat) : Int)), .quiet (.bool (decide (f 0 = 1))), .quiet (.agg (pt (tkn (fun i => f (1 + i)) 8) (tkn (fun i => f (9 + i)) 8) (decide (f 0 = 1))).toArray), .made (pt 0 0 false) 25, .laid 11 (pt 0 0 false) (pt (tkn (fun i => f (1 + i)) 8) (tkn (fun i => f (9 + i)) 8) (decide (f 0 = 1)))] (fun u' => Mm u' [(γ2_5, kd p r c gx gy), (γ1_0, pt 0 0 false)] ∧ Rd g o 17 f u') ?pre5 ?F5 ?hpre5 (fun γ => ?hF5) (by kernel_rfl) ?hL5 ?hS5 ?ho5 ?he5
  case hpre5 => simp only [tk, tz]; rfl
  case hF5 => simp only [fill, Kind.val, Act.put, sa, sz, ss]; rfl
  case hL5 => exact ⟨⟨_, rfl⟩, trivial⟩
  case hS5 => exact fun w' hb => ⟨H4.out.1.below hb, hr.below (H4.out.2.trans (hb.mono H4.out.2.size))⟩
  case ho5 =>
    refine ak (fun _ => ⟨rfl, fun _ _ => rfl⟩) ?_
    refine ak (fun γ => ⟨rfl, fun w' _ => ex_slL (m := 17) (l := 1) rfl rfl rfl (by omega) (by omega)⟩) ?_
    refine ak (fun γ => ⟨rfl, fun w' hX => ⟨68, #[.slice (some ⟨g, (o + 1), none⟩) 16 (cp - 1)], exec_call rfl call68 rfl (mpn rfl), take_any g (o + 1) 16 ((cp - 1)) (fun i => f (1 + i)) (fun i => hf _) (by omega) w' (hX.2.sub 1 8 (by decide))⟩⟩) ?_
    refine ak (fun _ => ⟨rfl, fun _ _ => rfl⟩) ?_
    refine ak (fun γ => ⟨rfl, fun w' _ => ex_slL (m := 17) (l := 9) rfl rfl rfl (by omega) (by omega)⟩) ?_
    refine ak (fun γ => ⟨rfl, fun w' hX => ⟨68, #[.slice (some ⟨g, (o + 9), none⟩) 8 (cp - 9)], exec_call rfl call68 rfl (mpn rfl), take_any g (o + 9) 8 ((cp - 9)) (fun i => f (9 + i)) (fun i => hf _) (by omega) w' (hX.2.sub 9 8 (by decide))⟩⟩) ?_
    refine ak (fun _ => ⟨rfl, fun _ _ => rfl⟩) ?_
    refine ak (fun γ => ⟨rfl, fun w' _ => ex_idxS rfl rfl rfl (by omega)⟩) ?_
    refine ak (fun γ => ⟨rfl, fun w' hX => ex_ld8 (k := 0) hX.2 (by omega) rfl rfl⟩) ?_
    refine ak (fun γ => ⟨rfl, fun w' _ => ex_e8 rfl rfl rfl⟩) ?_
    refine ak (fun γ => ⟨rfl, fun w' _ => ex_build25_012 rfl rfl rfl rfl⟩) ?_
    refine ak (fun γ => ⟨rfl, fun w' => ex_made25 rfl⟩) ?_
    refine ak (fun γ => ⟨rfl, rfl, rfl, fun w' h => ex_laidT h rfl rfl Try.sizeOf25 rfl rfl rfl⟩) ?_
    exact trivial
  intro γ w5 l hM hl
  have H5 : Hid (Mm w5 [(γ 11, pt (tkn (fun i => f (1 + i)) 8) (tkn (fun i => f (9 + i)) 8) (decide (f 0 = 1))), (γ2_5, kd p r c gx gy), (γ1_0, pt 0 0 false)] ∧ _) := growB H4 hM (Nat.le_refl _) hl [11] rfl (by decide)
  have o5_11 := ownB H4 hM (Nat.le_refl _) hl (i := 11) rfl
  clear hM hl l H4
  generalize γ 11 = γ5_11 at H5 o5_11 ⊢
  clear γ
  refine rest0 rfl (then_normal (wp_seq (wp_seq ?_)))
  refine walk_seqB 4 [.quiet (.agg (kd p r c gx gy).toArray), .quiet (.agg (pt (tkn (fun i => f (1 + i)) 8) (tkn (fun i => f (9 + i)) 8) (decide (f 0 = 1))).toArray), .call (.bool true), .quiet (.bool false)] H5 ?ho6 ?he6
  case ho6 => exact ak (fun γ => ⟨rfl, fun w' h => ex_loadT h 1 rfl rfl rfl Try.isAgg72 Try.sizeOf72 rfl rfl⟩) (ak (fun γ => ⟨rfl, fun w' h => ex_loadT h 0 rfl rfl rfl Try.isAgg25 Try.sizeOf25 rfl rfl⟩) (ak (fun γ => ⟨rfl, fun w' h => ⟨50, #[.agg (kd p r c gx gy).toArray, .agg (pt (tkn (fun i => f (1 + i)) 8) (tkn (fun i => f (9 + i)) 8) (decide (f 0 = 1))).toArray], exec_call rfl call50 rfl (mpn rfl), on_is k.pr _ _ _ _ h1 w'⟩⟩) (ak (by refine fun γ => ⟨rfl, fun w' h => ?_⟩; clear h; go_simp) trivial)))
  intro _ w6 H6
  clear H5
  refine rest0 rfl (then_normal (wp_cond_false rfl ?_))
  refine wp_skip (then_normal ?_)
  refine wp_seq (wp_seq ?_)
  refine walk_seqB 4 [.quiet (.agg (kd p r c gx gy).toArray), .quiet (.agg (pt (tkn (fun i => f (1 + i)) 8) (tkn (fun i => f (9 + i)) 8) (decide (f 0 = 1))).toArray), .call (.bool true), .quiet (.bool false)] H6 ?ho7 ?he7
  case ho7 => exact ak (fun γ => ⟨rfl, fun w' h => ex_loadT h 1 rfl rfl rfl Try.isAgg72 Try.sizeOf72 rfl rfl⟩) (ak (fun γ => ⟨rfl, fun w' h => ex_loadT h 0 rfl rfl rfl Try.isAgg25 Try.sizeOf25 rfl rfl⟩) (ak (fun γ => ⟨rfl, fun w' h => ⟨51, #[.agg (kd p r c gx gy).toArray, .agg (pt (tkn (fun i => f (1 + i)) 8) (tkn (fun i => f (9 + i)) 8) (decide (f 0 = 1))).toArray], exec_call rfl call51 rfl (mpn rfl), ig_in k.pr k.rb _ _ _ _ h2 w'⟩⟩) (ak (by refine fun γ => ⟨rfl, fun w' h => ?_⟩; clear h; go_simp) trivial)))
  intro _ w7 H7
  clear H6
  refine rest0 rfl (then_normal (wp_cond_false rfl ?_))
  refine wp_skip (then_normal (wp_seq ?_))
  refine walk_seqB 1 [.quiet (.agg (pt (tkn (fun i => f (1 + i)) 8) (tkn (fun i => f (9 + i)) 8) (decide (f 0 = 1))).toArray)] H7 ?ho8 ?he8
  case ho8 => exact ak (fun γ => ⟨rfl, fun w' h => ex_loadT h 0 rfl rfl rfl Try.isAgg25 Try.sizeOf25 rfl rfl⟩) trivial
  intro _ w8 H8
  clear H7
  refine rest_at (l := [1, 2]) rfl ?_
  refine rest_store rfl rfl rfl (ex_storeT (vs := pt (tkn (fun i => f (1 + i)) 8) (tkn (fun i => f (9 + i)) 8) (decide (f 0 = 1))) H8.out.1 2 rfl rfl rfl rfl Try.sizeOf25 rfl (Nat.le_of_ble_eq_true rfl)) ?_
  have H9 : Hid (Mm (w8.setCells γ1_0 0 (pt (tkn (fun i => f (1 + i)) 8) (tkn (fun i => f (9 + i)) 8) (decide (f 0 = 1)))) [(γ5_11, pt (tkn (fun i => f (1 + i)) 8) (tkn (fun i => f (9 + i)) 8) (decide (f 0 = 1))), (γ2_5, kd p r c gx gy), (γ1_0, pt (tkn (fun i => f (1 + i)) 8) (tkn (fun i => f (9 + i)) 8) (decide (f 0 = 1)))] ∧ Below w.heap.size w (w8.setCells γ1_0 0 (pt (tkn (fun i => f (1 + i)) 8) (tkn (fun i => f (9 + i)) 8) (decide (f 0 = 1))))) := ⟨H8.out.1.put 2 (off := 0) (vs := pt (tkn (fun i => f (1 + i)) 8) (tkn (fun i => f (9 + i)) 8) (decide (f 0 = 1))) rfl (Nat.le_of_ble_eq_true rfl), below_setCells _ o1_0.out _ _ _ H8.out.2⟩
  clear H8
  generalize hgw : World.setCells _ _ _ _ = w9 at H9 ⊢
  clear hgw
  refine rest_set (d := 5) rfl rfl rfl rfl ?_
  simp only [Act.put, sa, sz, ss]
  refine rest_nil (then_normal (wp_ret ?_))
  repeat (first | refine then_ret ?_ | refine block_ret ?_)
  have hf0 := var_T H9.out.1 2 rfl Try.isAgg25 Try.sizeOf25 rfl
  refine bodyPost_ret (v := .tuple #[.agg (pt (tkn (fun i => f (1 + i)) 8) (tkn (fun i => f (9 + i)) 8) (decide (f 0 = 1))).toArray, .int .i64 0]) (by simp [results, Try.results36, asAddr, Act.eval, hf0]) rfl ?_
  exact ⟨rfl, H9.out.2⟩
set_option maxHeartbeats 1000000 in
set_option maxRecDepth 100000 in
theorem read_len (k : Kd s p r c gx gy) (q : Option Addr) (n cp : Nat) (h0 : n ≠ 17) (w : World) :
    Calls Try.prog 36 #[.int .i64 s, .slice q n cp] w fun e w' => e = .returned (.tuple #[V (pt 0 0 false), .int .i64 4]) ∧ Below w.heap.size w w' := by
  have H0 : Hid (_ ∧ _) := ⟨Mm.nil w, Below.refl w.heap.size w⟩
  go_enter Try.func36, Try.ntmps36
  refine wp_seq ?_
  refine walk_seqA 2 [.made (pt 0 0 false) 25, .quiet (.int .i64 0)] (sB H0) ?ho1 ?he1
  case ho1 => exact ak (fun γ => ⟨rfl, fun w' => ex_made25 rfl⟩) (ak (fun _ => ⟨rfl, fun _ _ => rfl⟩) trivial)
  intro γ w1 l hM hl
  have H1 : Hid (Mm w1 [(γ 0, pt 0 0 false)] ∧ _) := growB H0 hM (Nat.le_refl _) hl [0] rfl (by decide)
  have o1_0 := ownB H0 hM (Nat.le_refl _) hl (i := 0) rfl
  clear hM hl l
  generalize γ 0 = γ1_0 at H1 o1_0 ⊢
  clear γ
  refine rest0 rfl (then_normal (wp_seq ?_))
  refine walk_seqA 8 [.quiet (.int .i64 s), .call (.tuple #[.agg (kd p r c gx gy).toArray, .int .i64 0]), .quiet (.tuple #[.agg (kd p r c gx gy).toArray, .int .i64 0]), .quiet (.agg (kd p r c gx gy).toArray), .quiet (.int .i64 0), .made (kd 0 0 0 0 0) 72, .laid 5 (kd 0 0 0 0 0) (kd p r c gx gy), .quiet (.int .i64 0)] (sB H1) ?ho2 ?he2 (hL := ?hL2)
  case hL2 => exact ⟨⟨_, rfl⟩, trivial⟩
  case ho2 => exact ak (fun _ => ⟨rfl, fun _ _ => rfl⟩) (ak (fun γ => ⟨rfl, fun w' h => ⟨42, #[.int .i64 s], exec_call rfl call42 rfl (mpn rfl), k.kind w'⟩⟩) (ak (fun _ => ⟨rfl, fun _ _ => rfl⟩) (ak (by refine fun γ => ⟨rfl, fun w' h => ?_⟩; clear h; go_simp) (ak (by refine fun γ => ⟨rfl, fun w' h => ?_⟩; clear h; go_simp) (ak (fun γ => ⟨rfl, fun w' => ex_made72 rfl⟩) (ak (fun γ => ⟨rfl, rfl, rfl, fun w' h => ex_laidT h rfl rfl Try.sizeOf72 rfl rfl rfl⟩) (ak (fun _ => ⟨rfl, fun _ _ => rfl⟩) trivial)))))))
  intro γ w2 l hM hl
  have H2 : Hid (Mm w2 [(γ 5, kd p r c gx gy), (γ1_0, pt 0 0 false)] ∧ _) := growB H1 hM (Nat.le_refl _) hl [5] rfl (by decide)
  have o2_5 := ownB H1 hM (Nat.le_refl _) hl (i := 5) rfl
  clear hM hl l H1
  generalize γ 5 = γ2_5 at H2 o2_5 ⊢
  clear γ
  refine rest0 rfl (then_normal (wp_seq (wp_seq ?_)))
  refine walk_seqB 2 [.quiet (.int .i64 0), .quiet (.bool false)] H2 ?ho3 ?he3
  case ho3 => exact ak (fun _ => ⟨rfl, fun _ _ => rfl⟩) (ak (by refine fun γ => ⟨rfl, fun w' h => ?_⟩; clear h; go_simp) trivial)
  intro _ w3 H3
  clear H2
  refine rest0 rfl (then_normal (wp_cond_false rfl ?_))
  refine wp_skip (then_normal ?_)
  refine wp_seq (wp_seq ?_)
  refine walk_seqB 9 [.quiet (.slice q n cp), .quiet (.int .i64 ((n : Nat) : Int)), .quiet (.bool true), .quiet (.bool true), .gone, .gone, .gone, .gone, .quiet (.bool true)] H3 ?ho4 ?he4
  case ho4 => exact ak (fun _ => ⟨rfl, fun _ _ => rfl⟩) (ak (by refine fun γ => ⟨rfl, fun w' h => ?_⟩; clear h; go_simp) (ak (by refine fun γ => ⟨rfl, fun w' h => ?_⟩; clear h; go_simp <;> omega) (ak (fun _ => ⟨rfl, fun _ _ => rfl⟩) (ak (fun γ => rfl) (ak (fun γ => rfl) (ak (fun γ => rfl) (ak (fun γ => rfl) (ak (by refine fun γ => ⟨rfl, fun w' h => ?_⟩; clear h; go_simp) trivial))))))))
  intro _ w4 H4
  clear H3
  refine rest0 rfl (then_normal (wp_cond_true rfl (wp_seq ?_)))
  refine walk_seqB 1 [.quiet (.agg (pt 0 0 false).toArray)] H4 ?ho5 ?he5
  case ho5 => exact ak (fun γ => ⟨rfl, fun w' _ => ex_build25_ rfl⟩) trivial
  intro _ w5 H5
  clear H4
  refine rest_at (l := [1, 2]) rfl ?_
  refine rest_store rfl rfl rfl (ex_storeT (vs := pt 0 0 false) H5.out.1 1 rfl rfl rfl rfl Try.sizeOf25 rfl (Nat.le_of_ble_eq_true rfl)) ?_
  have H6 : Hid (Mm (w5.setCells γ1_0 0 (pt 0 0 false)) [(γ2_5, kd p r c gx gy), (γ1_0, pt 0 0 false)] ∧ Below w.heap.size w (w5.setCells γ1_0 0 (pt 0 0 false))) := ⟨H5.out.1.put 1 (off := 0) (vs := pt 0 0 false) rfl (Nat.le_of_ble_eq_true rfl), below_setCells _ o1_0.out _ _ _ H5.out.2⟩
  clear H5
  generalize hgw : World.setCells _ _ _ _ = w6 at H6 ⊢
  clear hgw
  refine rest_set (d := 5) rfl rfl rfl rfl ?_
  simp only [Act.put, sa, sz, ss]
  refine rest_nil (then_normal (wp_ret ?_))
  repeat (first | refine then_ret ?_ | refine block_ret ?_)
  have hf0 := var_T H6.out.1 1 rfl Try.isAgg25 Try.sizeOf25 rfl
  refine bodyPost_ret (v := .tuple #[.agg (pt 0 0 false).toArray, .int .i64 4]) (by simp [results, Try.results36, asAddr, Act.eval, hf0]) rfl ?_
  exact ⟨rfl, H6.out.2⟩
set_option maxHeartbeats 1000000 in
set_option maxRecDepth 100000 in
theorem read_no (s : Int) (h1 : s ≠ 1) (h2 : s ≠ 2) (v : Value) (w : World) :
    Calls Try.prog 36 #[.int .i64 s, v] w fun e w' => e = .returned (.tuple #[V (pt 0 0 false), .int .i64 2]) ∧ Below w.heap.size w w' := by
  have H0 : Hid (_ ∧ _) := ⟨Mm.nil w, Below.refl w.heap.size w⟩
  go_enter Try.func36, Try.ntmps36
  refine wp_seq ?_
  refine walk_seqA 2 [.made (pt 0 0 false) 25, .quiet (.int .i64 0)] (sB H0) ?ho1 ?he1
  case ho1 => exact ak (fun γ => ⟨rfl, fun w' => ex_made25 rfl⟩) (ak (fun _ => ⟨rfl, fun _ _ => rfl⟩) trivial)
  intro γ w1 l hM hl
  have H1 : Hid (Mm w1 [(γ 0, pt 0 0 false)] ∧ _) := growB H0 hM (Nat.le_refl _) hl [0] rfl (by decide)
  have o1_0 := ownB H0 hM (Nat.le_refl _) hl (i := 0) rfl
  clear hM hl l
  generalize γ 0 = γ1_0 at H1 o1_0 ⊢
  clear γ
  refine rest0 rfl (then_normal (wp_seq ?_))
  refine walk_seqA 8 [.quiet (.int .i64 s), .call (.tuple #[.agg (kd 0 0 0 0 0).toArray, .int .i64 2]), .quiet (.tuple #[.agg (kd 0 0 0 0 0).toArray, .int .i64 2]), .quiet (.agg (kd 0 0 0 0 0).toArray), .quiet (.int .i64 2), .made (kd 0 0 0 0 0) 72, .laid 5 (kd 0 0 0 0 0) (kd 0 0 0 0 0), .quiet (.int .i64 2)] (sB H1) ?ho2 ?he2 (hL := ?hL2)
  case hL2 => exact ⟨⟨_, rfl⟩, trivial⟩
  case ho2 => exact ak (fun _ => ⟨rfl, fun _ _ => rfl⟩) (ak (fun γ => ⟨rfl, fun w' h => ⟨42, #[.int .i64 s], exec_call rfl call42 rfl (mpn rfl), kindOf_no s h1 h2 w'⟩⟩) (ak (fun _ => ⟨rfl, fun _ _ => rfl⟩) (ak (by refine fun γ => ⟨rfl, fun w' h => ?_⟩; clear h; go_simp) (ak (by refine fun γ => ⟨rfl, fun w' h => ?_⟩; clear h; go_simp) (ak (fun γ => ⟨rfl, fun w' => ex_made72 rfl⟩) (ak (fun γ => ⟨rfl, rfl, rfl, fun w' h => ex_laidT h rfl rfl Try.sizeOf72 rfl rfl rfl⟩) (ak (fun _ => ⟨rfl, fun _ _ => rfl⟩) trivial)))))))
  intro γ w2 l hM hl
  have H2 : Hid (Mm w2 [(γ 5, kd 0 0 0 0 0), (γ1_0, pt 0 0 false)] ∧ _) := growB H1 hM (Nat.le_refl _) hl [5] rfl (by decide)
  have o2_5 := ownB H1 hM (Nat.le_refl _) hl (i := 5) rfl
  clear hM hl l H1
  generalize γ 5 = γ2_5 at H2 o2_5 ⊢
  clear γ
  refine rest0 rfl (then_normal (wp_seq (wp_seq ?_)))
  refine walk_seqB 2 [.quiet (.int .i64 2), .quiet (.bool true)] H2 ?ho3 ?he3
  case ho3 => exact ak (fun _ => ⟨rfl, fun _ _ => rfl⟩) (ak (by refine fun γ => ⟨rfl, fun w' h => ?_⟩; clear h; go_simp) trivial)
  intro _ w3 H3
  clear H2
  refine rest0 rfl (then_normal (wp_cond_true rfl (wp_seq ?_)))
  refine walk_seqB 2 [.quiet (.agg (pt 0 0 false).toArray), .quiet (.int .i64 2)] H3 ?ho4 ?he4
  case ho4 => exact ak (fun γ => ⟨rfl, fun w' _ => ex_build25_ rfl⟩) (ak (fun _ => ⟨rfl, fun _ _ => rfl⟩) trivial)
  intro _ w4 H4
  clear H3
  refine rest_at (l := [2, 3]) rfl ?_
  refine rest_store rfl rfl rfl (ex_storeT (vs := pt 0 0 false) H4.out.1 1 rfl rfl rfl rfl Try.sizeOf25 rfl (Nat.le_of_ble_eq_true rfl)) ?_
  have H5 : Hid (Mm (w4.setCells γ1_0 0 (pt 0 0 false)) [(γ2_5, kd 0 0 0 0 0), (γ1_0, pt 0 0 false)] ∧ Below w.heap.size w (w4.setCells γ1_0 0 (pt 0 0 false))) := ⟨H4.out.1.put 1 (off := 0) (vs := pt 0 0 false) rfl (Nat.le_of_ble_eq_true rfl), below_setCells _ o1_0.out _ _ _ H4.out.2⟩
  clear H4
  generalize hgw : World.setCells _ _ _ _ = w5 at H5 ⊢
  clear hgw
  refine rest_set (d := 5) rfl rfl rfl rfl ?_
  simp only [Act.put, sa, sz, ss]
  refine rest_nil (then_normal (wp_ret ?_))
  repeat (first | refine then_ret ?_ | refine block_ret ?_)
  have hf0 := var_T H5.out.1 1 rfl Try.isAgg25 Try.sizeOf25 rfl
  refine bodyPost_ret (v := .tuple #[.agg (pt 0 0 false).toArray, .int .i64 2]) (by simp [results, Try.results36, asAddr, Act.eval, hf0]) rfl ?_
  exact ⟨rfl, H5.out.2⟩
end
end Rg
end Go.Proofs.Ytjmbgchoioepjaa
end
section
namespace Go.Proofs.Ytjmbgchoioepjaa
open Go.RowKit
namespace Rg
end Rg
/-- v is a slice whose bytes are xs, with room for c. -/
structure BSl (w : World) (xs : List Int) (c : Nat) (v : Value) : Prop where
  or : (∃ g o, v = .slice (some ⟨g, o, none⟩) xs.length c ∧ g < w.heap.size ∧ xs.length ≤ c ∧ ∀ i, i < xs.length → w.cell? ⟨g, o + i, none⟩ = some (.int .u8 (xs.getD i 0))) ∨ ∃ p, v = .slice p 0 c ∧ xs = []
theorem BSl.full {w : World} {xs : List Int} {c : Nat} (g o : Nat) (hg : g < w.heap.size) (hc : xs.length ≤ c) (h : ∀ i, i < xs.length → w.cell? ⟨g, o + i, none⟩ = some (.int .u8 (xs.getD i 0))) : BSl w xs c (.slice (some ⟨g, o, none⟩) xs.length c) := ⟨.inl ⟨g, o, rfl, hg, hc, h⟩⟩
theorem BSl.void {w : World} {xs : List Int} {c : Nat} (p : Option Addr) (hx : xs = []) : BSl w xs c (.slice p 0 c) := ⟨.inr ⟨p, rfl, hx⟩⟩
theorem BSl.each {w : World} {xs : List Int} {c : Nat} {M : (v : Value) → BSl w xs c v → Prop} (full : ∀ (g o : Nat) (hg : g < w.heap.size) (hc : xs.length ≤ c) (h : ∀ i, i < xs.length → w.cell? ⟨g, o + i, none⟩ = some (.int .u8 (xs.getD i 0))), M (.slice (some ⟨g, o, none⟩) xs.length c) (BSl.full g o hg hc h)) (void : ∀ (p : Option Addr) (hx : xs = []), M (.slice p 0 c) (BSl.void p hx)) {v : Value} (h : BSl w xs c v) : M v h := by
  rcases h with ⟨⟨g, o, rfl, hg, hc, h⟩ | ⟨p, rfl, hx⟩⟩
  · exact full g o hg hc h
  · exact void p hx
theorem BSl.below {w w' : World} {xs : List Int} {c : Nat} {v : Value} (h : BSl w xs c v) (hb : Below w.heap.size w w') : BSl w' xs c v := by
  cases h using BSl.each with
  | full g o hg hc h => exact .full g o (Nat.lt_of_lt_of_le hg hb.size) hc (fun i hi => by rw [hb.cell (p := ⟨g, o + i, none⟩) hg]; exact h i hi)
  | void p hx => exact .void p hx
theorem BSl.drew {w : World} {xs : List Int} {c : Nat} {v : Value} (h : BSl w xs c v) : BSl w.drew xs c v := h.below ((Below.refl _ _).drew)
theorem BSl.alloc {w : World} {xs : List Int} {c : Nat} {v : Value} (h : BSl w xs c v) (o : Obj) : BSl (w.alloc o) xs c v := h.below ((Below.refl _ _).alloc (Nat.le_refl _) _)
theorem BSl.text {w : World} {xs : List Int} {c : Nat} {v : Value} (h : BSl w xs c v) : (convert 59 9 v).run Try.prog w = .ok (.string (strOfNums xs)) w := by
  cases h using BSl.each with
  | full g o hg hc h => exact run_convert_bytes_arg (P := Try.prog) w 59 5 (by kernel_rfl) (by kernel_rfl) g o xs.length c xs rfl h 9 (by kernel_rfl)
  | void p hx =>
    subst hx
    cases p with
    | none => exact run_convert_bytes_nil (P := Try.prog) w 59 5 (by kernel_rfl) (by kernel_rfl) 0 c 9 (by kernel_rfl)
    | some a =>
      have hl : (loadCells a 0).run Try.prog w = .ok (([] : List Int).map (Value.int .u8)).toArray w := by simpa using run_loadCells_list (P := Try.prog) w a [] (by simp)
      rw [run_convert_bytes_string w 59 9 5 _ 0 c (by kernel_rfl) (by kernel_rfl) (by kernel_rfl), run_bytesToString w _ 0 c [] hl, foldl_push_bytes]
      rfl
set_option maxHeartbeats 400000 in
theorem same_any {xs : List Int} {c c' : Nat} {v v' : Value} (w : World) (h : BSl w xs c v) (h' : BSl w xs c' v') :
    Calls Try.prog 39 #[v, v'] w fun e w' => e = .returned (.bool true) ∧ w' = w := by
  have h1 := h.text
  have h2 := h'.text
  clear h h'
  go_enter Try.func39, Try.ntmps39
  go_wp2
  go_ret
  exact ⟨rfl, rfl⟩
namespace Rg
theorem Rd.bsl {g o n c : Nat} {f : Nat → Nat} {w : World} (h : Rd g o n f w) (hc : n ≤ c) : BSl w ((List.range n).map fun i => ((f i : Nat) : Int)) c (.slice (some ⟨g, o, none⟩) n c) := by
  have hl : ((List.range n).map fun i => ((f i : Nat) : Int)).length = n := by simp
  have hb := BSl.full (w := w) (xs := (List.range n).map fun i => ((f i : Nat) : Int)) (c := c) g o h.lt (by rw [hl]; exact hc) (fun i hi => by
    rw [hl] at hi
    rw [h.at_ i hi]
    simp [List.getD, hi])
  rw [hl] at hb
  exact hb
theorem same_rd {g o c g' o' c' : Nat} {f f' : Nat → Nat} (w : World) (h : Rd g o 17 f w) (h' : Rd g' o' 17 f' w) (hc : 17 ≤ c) (hc' : 17 ≤ c') (he : ∀ i, i < 17 → f i = f' i) :
    Calls Try.prog 39 #[.slice (some ⟨g, o, none⟩) 17 c, .slice (some ⟨g', o', none⟩) 17 c'] w fun e w' => e = .returned (.bool true) ∧ Below w.heap.size w w' := by
  have hx : ((List.range 17).map fun i => ((f i : Nat) : Int)) = (List.range 17).map fun i => ((f' i : Nat) : Int) := List.map_congr_left fun i hi => by rw [he i (List.mem_range.1 hi)]
  have h1 := h.bsl hc
  rw [hx] at h1
  exact Calls.mono (same_any w h1 (h'.bsl hc')) (fun e w' hh => ⟨hh.1, by rw [hh.2]; exact Below.refl _ _⟩)
/-! Bytes lead back. -/
def fb (X Y : Nat) (Z : Bool) (i : Nat) : Nat := if i = 0 then (if Z = true then 1 else 0) else if i < 9 then X / 2 ^ (8 * (7 - (i - 1))) % 256 else Y / 2 ^ (8 * (7 - (i - 9))) % 256
theorem fb_pb (X Y : Nat) (Z : Bool) (i : Nat) : pb X Y Z i = ((fb X Y Z i : Nat) : Int) := by
  unfold pb fb byt
  split
  · split <;> rfl
  · split <;> rfl
theorem Blk.rd {w : World} {g X Y : Nat} {Z : Bool} (hg : g < w.heap.size) (h : Blk w g (by8 (pb X Y Z) 17)) : Rd g 0 17 (fb X Y Z) w :=
  ⟨hg, fun i hi => by rw [Nat.zero_add, (h i _ (by8_get _ hi)).1, fb_pb]⟩
end Rg
end Go.Proofs.Ytjmbgchoioepjaa
end
section
namespace Go.Proofs.Ytjmbgchoioepjaa
open Go.RowKit
namespace Rg
open NT
section
variable {p : Nat} [NeZero p]
/-! The points of the curve. -/
end
end Rg
end Go.Proofs.Ytjmbgchoioepjaa
end
section
namespace Go.Proofs.Ytjmbgchoioepjaa
open Go.RowKit
namespace Rg
open NT
theorem call35 : ∀ args w, (callFunc 35 args).run Try.prog w = .ok (.enter 35 args) w := by intro args w; go_simp
theorem call36 : ∀ args w, (callFunc 36 args).run Try.prog w = .ok (.enter 36 args) w := by intro args w; go_simp
theorem call39 : ∀ args w, (callFunc 39 args).run Try.prog w = .ok (.enter 39 args) w := by intro args w; go_simp
section
variable {s : Int} {p r c gx gy : Nat}
/-- A suite in which p + 1 is c times r. -/
structure Kc (s : Int) (p r c gx gy : Nat) : Prop where
  f : Kf s p r c gx gy
  cr : c * r = p + 1
end
end Rg
end Go.Proofs.Ytjmbgchoioepjaa
end
section
namespace Go.Proofs.Ytjmbgchoioepjaa
open Go.RowKit
def Row8 (w : World) (g n : Nat) (f : Nat → Int) : Prop := ∀ j, j < n → w.cell? ⟨g, j, none⟩ = some (.int .u8 (f j)) ∧ w.frozen? ⟨g, j, none⟩ = false
theorem Row8.congr {w : World} {g n : Nat} {f f' : Nat → Int} (h : Row8 w g n f) (e : ∀ j, j < n → f j = f' j) : Row8 w g n f' := fun j hj => by rw [← e j hj]; exact h j hj
theorem Row8.set {w : World} {g n : Nat} {f : Nat → Int} (h : Row8 w g n f) {k : Nat} (v : Int) : Row8 (w.setCell ⟨g, k, none⟩ (.int .u8 v)) g n (upd f k v) := by
  intro j hj
  obtain ⟨h1, h2⟩ := h j hj
  refine ⟨?_, by rw [World.frozen?_setCell]; exact h2⟩
  unfold upd
  by_cases e : j = k
  · subst e; rw [if_pos rfl]; exact World.cell?_setCell_same _ _ _ h1
  · rw [if_neg e, World.cell?_setCell_other _ _ _ _ (by intro h; injection h with h1 h2; exact e h2.symm)]; exact h1
theorem Row8.made (w : World) (m t : Nat) : Row8 (w.alloc (.cells (madeCells #[.int .u8 0] m) t)) w.heap.size m (fun _ => 0) := by
  intro j hj
  refine ⟨?_, World.frozen?_alloc_at _ _ _ _ rfl⟩
  rw [World.cell?_alloc_at _ _ _ _ rfl]
  simp [madeCells, hj, Nat.mod_one]
theorem Row8.below {wr w1 : World} {g n : Nat} {f : Nat → Int} (h : Row8 wr g n f) {B : Nat} (hb : Below B wr w1) (hg : g < B) : Row8 w1 g n f :=
  fun j hj => ⟨by rw [hb.cell (p := ⟨g, j, none⟩) hg]; exact (h j hj).1, by rw [hb.frozen (p := ⟨g, j, none⟩) hg]; exact (h j hj).2⟩
theorem Row8.alloc {wr : World} {g n : Nat} {f : Nat → Int} (h : Row8 wr g n f) (hg : g < wr.heap.size) (o : Obj) : Row8 (wr.alloc o) g n f :=
  h.below ((Below.refl _ _).alloc (Nat.le_refl _) o) hg
theorem Row8.drew {wr : World} {g n : Nat} {f : Nat → Int} (h : Row8 wr g n f) : Row8 wr.drew g n f := h
/-- The bytes of a list that is lent, and the marks behind it. -/
def lent (xs : List Int) (j : Nat) : Int := if j < xs.length then xs.getD j 0 else 160 + (j : Int) % 90
def lentk (xs : List Int) (k j : Nat) : Int := if j < k then lent xs j else 0
theorem lentk_step (xs : List Int) (k j : Nat) : upd (lentk xs k) k (lent xs k) j = lentk xs (k + 1) j := by
  unfold upd lentk
  by_cases h : j = k
  · subst h; rw [if_pos rfl, if_pos (by omega)]
  · rw [if_neg h]
    by_cases h2 : j < k
    · rw [if_pos h2, if_pos (by omega)]
    · rw [if_neg h2, if_neg (by omega)]
set_option maxHeartbeats 2000000 in
set_option maxRecDepth 100000 in
/-- From behind the copy on. -/
theorem lent_any (xs : List Int) (c : Nat) (v : Value) (hn : xs.length ≤ 1048576) (w : World) (h : BSl w xs c v) :
    Calls Try.prog 34 #[v] w fun e w' => e = .returned (.slice (some ⟨w.heap.size, 0, none⟩) xs.length (xs.length + 3)) ∧ w.heap.size < w'.heap.size ∧ Row8 w' w.heap.size (xs.length + 3) (lent xs) ∧ Below w.heap.size w w' := by
  obtain ⟨n, hnx⟩ : ∃ n, n = xs.length := ⟨_, rfl⟩
  have hmk := run_make_row' (P := Try.prog) 59 5 (.int .u8 0) 1 (by kernel_rfl) (by kernel_rfl) rfl .i64 .i64 (n + 3) (by omega) (by omega)
  have e3 : ((n + 3 : Nat) : Int) = (n : Int) + 3 := by omega
  rw [e3] at hmk
  have ew : IntKind.i64.wrap ((n : Int) + 3) = (n : Int) + 3 := by rw [IntKind.wrap_i64]; omega
  have hsz : (Try.prog.info? 5).map (·.size) = some 1 := by kernel_rfl
  -- the world behind the copy
  have hcp : ∃ w2, (∀ ty, (Builtin.copy_ #[59, 59] ty #[.slice (some ⟨w.heap.size, 0, none⟩) (n + 3) (n + 3), v]).run Try.prog (w.alloc (.cells (madeCells #[.int .u8 0] (n + 3)) 5)) = .ok (goInt n) w2) ∧ Row8 w2 w.heap.size (n + 3) (lentk xs n) ∧ w.heap.size < w2.heap.size ∧ Below w.heap.size w w2 := by
    have hmade := Row8.made w (n + 3) 5
    have hbel : Below w.heap.size w (w.alloc (.cells (madeCells #[.int .u8 0] (n + 3)) 5)) := (Below.refl _ _).alloc (Nat.le_refl _) _
    cases h using BSl.each with
    | full g o hg hc hcell =>
      rw [← hnx]
      refine ⟨(w.alloc (.cells (madeCells #[.int .u8 0] (n + 3)) 5)).setCells w.heap.size 0 (xs.map fun x => .int .u8 x), fun ty => ?_, ?_, ?_, ?_⟩
      · have := run_copy_cells (P := Try.prog) (w.alloc (.cells (madeCells #[.int .u8 0] (n + 3)) 5)) 59 59 ty 5 w.heap.size 0 (n + 3) (n + 3) ⟨g, o, none⟩ n c (xs.map fun x => .int .u8 x) (by kernel_rfl) hsz (by simp [hnx])
          (fun j u hj => by
            have hjn : j < xs.length := by
              rcases Nat.lt_or_ge j xs.length with h | h
              · exact h
              · simp [h] at hj
            have e : (⟨g, o, none⟩ : Addr).add j = ⟨g, o + j, none⟩ := by unfold Addr.add; split <;> simp_all
            rw [e, World.cell?_alloc_past _ _ _ hg, hcell j hjn]
            simp [hjn] at hj
            rw [← hj]
            simp [hjn])
          (fun j hj => by
            rw [Nat.zero_add, (hmade j (by simp at hj; omega)).1]; rfl)
          (fun j hj => by
            rw [Nat.zero_add]; exact (hmade j (by simp at hj; omega)).2)
          (fun u hu => by
            obtain ⟨x, _, rfl⟩ := List.mem_map.1 hu
            rfl)
        simp only [List.length_map, ← hnx] at this
        exact this
      · intro j hj
        refine ⟨?_, by rw [World.frozen?_setCells]; exact (hmade j hj).2⟩
        unfold lentk lent
        by_cases hjn : j < n
        · have := World.cell?_setCells_in w.heap.size (xs.map fun x => Value.int .u8 x) 0 (w.alloc (.cells (madeCells #[.int .u8 0] (n + 3)) 5)) (fun i hi => by
            rw [Nat.zero_add, (hmade i (by simp at hi; omega)).1]; rfl) j (by simp; omega)
          rw [Nat.zero_add] at this
          rw [this, if_pos hjn, if_pos (by omega)]
          simp [show j < xs.length by omega]
        · rw [if_neg hjn, World.cell?_setCells_out _ _ _ _ _ (fun _ _ => Or.inr (by simp; omega))]
          exact (hmade j hj).1
      · rw [size_setCells]; simp
      · exact below_setCells _ (Nat.le_refl _) _ _ _ hbel
    | void p hx =>
      subst hx
      simp at hnx
      subst hnx
      refine ⟨_, fun ty => run_copy_none (P := Try.prog) _ 59 59 ty 5 _ _ _ _ _ _ (by kernel_rfl) hsz (by simp), hmade.congr (fun j _ => by unfold lentk; rw [if_neg (by omega)]), by simp, hbel⟩
  obtain ⟨w2, hcopy, hR2, hs2, hb2⟩ := hcp
  have HM2 : Hid (_ ∧ _ ∧ _) := ⟨hR2, hs2, hb2⟩
  obtain ⟨p, hv⟩ : ∃ p, v = .slice p n c := by
    cases h using BSl.each with
    | full g o hg hc hcell => rw [← hnx]; exact ⟨_, rfl⟩
    | void p hx => subst hx; simp at hnx; subst hnx; exact ⟨p, rfl⟩
  subst hv
  clear h hR2 hs2 hb2 hsz e3
  rw [← hnx]
  have HX : Hid (n = xs.length ∧ n ≤ 1048576) := ⟨hnx, by omega⟩
  have b1 : (0 : Int) ≤ (n : Int) + 3 := by omega
  clear hnx hn
  go_enter Try.func34, Try.ntmps34
  go_wp2
  clear hcopy hmk
  go_loopw [4] (fun i wr => ∃ k : Nat, n ≤ k ∧ k ≤ n + 3 ∧ i = .int .i64 k ∧ Row8 wr w.heap.size (n + 3) (lentk xs k) ∧ w.heap.size < wr.heap.size ∧ Below w.heap.size w wr) (fun i _ => n + 3 - (RowKit.intOf i).toNat)
  case atStart => exact ⟨n, by omega, by omega, rfl, HM2.out⟩
  case round =>
    clear HM2
    obtain ⟨k, hk0, hk, rfl, hR, hs, hw⟩ := hrel
    have hXn := HX.out
    by_cases hlt : k < n + 3
    · have hd : decide ((k : Int) < (n : Int) + 3) = true := decide_eq_true (by omega)
      obtain ⟨r1, r2⟩ := hR k hlt
      have em : IntKind.i64.wrap (160 + (k : Int) % 90) = 160 + (k : Int) % 90 := by rw [IntKind.wrap_i64]; omega
      have eb : IntKind.u8.wrap (160 + (k : Int) % 90) = 160 + (k : Int) % 90 := by simp [IntKind.wrap, IntKind.signed, IntKind.bits]; omega
      have HL : Hid (160 + (k : Int) % 90 = lent xs k) := by
        show _ = _
        unfold lent
        rw [if_neg (by omega)]
      have HM : Hid (_ ∧ _ ∧ _) := ⟨hR, hs, hw⟩
      have hkb : k < 9000000 := by omega
      clear hR hs hw hXn
      go_wp2
      go_roundw
      case rel =>
        obtain ⟨hR, hs, hw⟩ := HM.out
        refine ⟨k + 1, by omega, by omega, by go_num, ?_, by simpa using hs, hw.setCell (by simp) _⟩
        rw [HL.out]
        exact (hR.set _).congr (fun j _ => lentk_step xs k j)
      case measure => simp [RowKit.intOf] <;> omega
    · have hk3 : k = n + 3 := by omega
      subst hk3
      have hd : decide (((n + 3 : Nat) : Int) < (n : Int) + 3) = false := decide_eq_false (by omega)
      have HM : Hid (_ ∧ _ ∧ _) := ⟨hR, hs, hw⟩
      clear hR hs hw hXn
      go_wp2
      go_ret
      exact ⟨rfl, HM.out.2.1, HM.out.1.congr (fun j hj => by unfold lentk; rw [if_pos hj]), HM.out.2.2⟩
def lentl (xs : List Int) : List Int := (List.range (xs.length + 3)).map (lent xs)
theorem BSl.row {w : World} {g n : Nat} {f : Nat → Int} (hg : g < w.heap.size) (hr : ∀ j, j < n → w.cell? ⟨g, j, none⟩ = some (.int .u8 (f j))) (c : Nat) (hc : n ≤ c) : BSl w ((List.range n).map f) c (.slice (some ⟨g, 0, none⟩) n c) := by
  have h : BSl w ((List.range n).map f) c (.slice (some ⟨g, 0, none⟩) ((List.range n).map f).length c) := .full g 0 hg (by simpa using hc) (fun i hi => by
    have hi' : i < n := by simpa using hi
    rw [Nat.zero_add, hr i hi']
    simp [hi'])
  simpa using h
set_option maxHeartbeats 1000000 in
set_option maxRecDepth 100000 in
theorem kept_any (xs : List Int) (g c : Nat) (v : Value) (hn : xs.length ≤ 1048576) (w : World) (hg : g < w.heap.size) (hr : Row8 w g (xs.length + 3) (lent xs)) (h : BSl w xs c v) :
    Calls Try.prog 37 #[.slice (some ⟨g, 0, none⟩) xs.length (xs.length + 3), v] w fun e w' => e = .returned (.bool true) ∧ Below w.heap.size w w' := by
  have CL : Hid _ := lent_any xs c v hn w.drew h.drew
  obtain ⟨n, hnx⟩ : ∃ n, n = xs.length := ⟨_, rfl⟩
  have hS1 : BSl w (lentl xs) (n + 3) (.slice (some ⟨g, 0, none⟩) (n + 3) (n + 3)) := by rw [hnx]; exact BSl.row hg (fun j hj => (hr j hj).1) _ (Nat.le_refl _)
  have HS1 : Hid _ := hS1
  obtain ⟨p, hv⟩ : ∃ p, v = .slice p n c := by
    cases h using BSl.each with
    | full g o hg hc hcell => rw [← hnx]; exact ⟨_, rfl⟩
    | void p hx => subst hx; simp at hnx; subst hnx; exact ⟨p, rfl⟩
  subst hv
  have CL2 : Hid (Calls Try.prog 34 #[.slice p n c] w.drew fun e w' => e = .returned (.slice (some ⟨w.heap.size, 0, none⟩) n (n + 3)) ∧ BSl w' (lentl xs) (n + 3) (.slice (some ⟨w.heap.size, 0, none⟩) (n + 3) (n + 3)) ∧ Below w.heap.size w.drew w') := by
    refine Calls.mono CL.out ?_
    rintro e w' ⟨he, h1, h2, h3⟩
    rw [← hnx] at he
    refine ⟨he, ?_, h3⟩
    rw [hnx]
    exact BSl.row h1 (fun j hj => (h2 j hj).1) _ (Nat.le_refl _)
  have ew : IntKind.i64.wrap ((n : Int) + 3) = (n : Int) + 3 := by rw [IntKind.wrap_i64]; omega
  have b1 : (0 : Int) ≤ (n : Int) + 3 := by omega
  have b2 : ((n : Int) + 3).toNat = n + 3 := by omega
  rw [← hnx]
  clear CL hS1 h hr hnx hn
  go_enter Try.func37, Try.ntmps37
  go_wp2
  go_region_held3 (fun _ => True) (trivial)
    (first
      | (go_at_call 34; refine CL2.out.mono ?_; rintro e w1 ⟨rfl, hB1, hb1⟩)
      | (go_at_call 39; refine (same_any _ (HS1.out.drew.below hb1) hB1).mono ?_; rintro e w2 ⟨rfl, rfl⟩))
  go_wp2
  go_ret
  exact ⟨rfl, ((Below.refl _ _).drew).trans hb1⟩
end Go.Proofs.Ytjmbgchoioepjaa
end
section
namespace Go.Proofs.Ytjmbgchoioepjaa
open Go.RowKit
namespace Rg
theorem info_byte : ∃ i, Try.prog.info? 5 = some i ∧ i.zero = some (.int .u8 0) ∧ i.size = 1 ∧ i.bytes = 1 := by
  have h : (Try.prog.info? 5).map (fun i => (i.zero, i.size, i.bytes)) = some (some (.int .u8 0), 1, 1) := by kernel_rfl
  cases hi : Try.prog.info? 5 with
  | none => rw [hi] at h; simp at h
  | some i =>
    rw [hi] at h
    simp at h
    exact ⟨i, rfl, h.1, h.2.1, h.2.2⟩
theorem by8_snoc (f : Nat → Int) (n : Nat) : by8 f n ++ [.int .u8 (f n)] = by8 f (n + 1) := by
  unfold by8
  rw [List.range_succ, List.map_append, List.map_cons, List.map_nil]
theorem pb_X (X Y : Nat) (Z : Bool) {i n : Nat} (h : i ≤ 7) (hn : n = 9 - (i + 1)) : pb X Y Z n = ((X / 2 ^ (8 * i) % 256 : Nat) : Int) := by
  unfold pb byt
  rw [if_neg (by omega), if_pos (by omega), show 7 - (n - 1) = i by omega]
theorem pb_Y (X Y : Nat) (Z : Bool) {i n : Nat} (h : i ≤ 7) (hn : n = 17 - (i + 1)) : pb X Y Z n = ((Y / 2 ^ (8 * i) % 256 : Nat) : Int) := by
  unfold pb byt
  rw [if_neg (by omega), if_neg (by omega), show 7 - (n - 9) = i by omega]
/-- The point that is handed in, in its cells. -/
structure BX (g X Y : Nat) (w : World) : Prop where
  lt : g < w.heap.size
  c0 : w.cell? ⟨g, 0, none⟩ = some (U X)
  c1 : w.cell? ⟨g, 1, none⟩ = some (U Y)
theorem BX.below {g X Y : Nat} {w w' : World} (h : BX g X Y w) (hb : Below (g + 1) w w') : BX g X Y w' :=
  ⟨Nat.lt_of_lt_of_le h.lt hb.size, by rw [hb.cell (p := ⟨g, 0, none⟩) (Nat.lt_succ_self g)]; exact h.c0, by rw [hb.cell (p := ⟨g, 1, none⟩) (Nat.lt_succ_self g)]; exact h.c1⟩
set_option maxHeartbeats 1000000 in
set_option maxRecDepth 100000 in
theorem bytesD_t (X Y : Nat) (w : World) :
    Calls Try.prog 40 #[V (pt X Y true)] w fun e w' => Below w.heap.size w w' ∧ ∃ g x, ∃ _ : Nat, e = .returned (.slice (some ⟨g, 0, none⟩) 17 (17 + x)) ∧ w.heap.size ≤ g ∧ g < w'.heap.size ∧ Blk w' g (by8 (pb X Y true) 17) := by
  obtain ⟨i0, hi, hz0, hz1, hz2⟩ := info_byte
  obtain ⟨Z, hZ⟩ : ∃ Z, Z = true := ⟨_, rfl⟩
  have HZ : Hid (Z = true) := hZ
  have hP : pb X Y true = pb X Y Z := by rw [hZ]
  clear hZ
  rw [hP]
  clear hP
  go_enter Try.func40, Try.ntmps40
  go_wp2
  go_loopw [3, 4] (fun v i wr => ∃ k : Nat, k ≤ 8 ∧ i = .int .i64 ((k : Int) - 1) ∧ wr.ownsRow (w.heap.size + 1) 5 1 v (9 - k) (by8 (pb X Y Z) (9 - k)) ∧ BX w.heap.size X Y wr ∧ Below w.heap.size w wr) (fun _ i _ => (RowKit.intOf i + 1).toNat)
  case atStart =>
    refine ⟨8, by omega, rfl, ⟨by simp [by8], .inr ⟨w.heap.size + 1, 1, #[.int .u8 1], rfl, Nat.le_refl _, ?_, Nat.le_refl _, by decide, rfl, by rw [HZ.out]; rfl⟩⟩, ⟨?_, ?_, ?_⟩, ?_⟩
    · rw [show w.heap.size + 1 = (w.alloc (Obj.cells (pt X Y true).toArray 25)).heap.size by simp]; exact heap_alloc_new _ _
    · simp; omega
    · rw [World.cell?_alloc_past _ _ _ (by simp), World.cell?_alloc_at _ _ _ _ rfl]; rfl
    · rw [World.cell?_alloc_past _ _ _ (by simp), World.cell?_alloc_at _ _ _ _ rfl]; rfl
    · exact ((Below.refl _ _).alloc (Nat.le_refl _) _).alloc (by simp) _
  case round =>
    skip
    obtain ⟨k, hk, rfl, hown, hR, hw⟩ := hrel
    by_cases h0 : 1 ≤ k
    · obtain ⟨i, rfl⟩ : ∃ i, k = i + 1 := ⟨k - 1, by omega⟩
      rw [show (((i + 1 : Nat) : Int) - 1) = (i : Int) by omega]
      have hi7 : i ≤ 7 := by omega
      have r1 := hR.c0
      have hs := hR.lt
      obtain ⟨n, hn⟩ : ∃ n, n = 9 - (i + 1) := ⟨_, rfl⟩
      rw [← hn] at hown
      have hsn := by8_snoc (pb X Y Z) n
      rw [show pb X Y Z n = ((X / 2 ^ (8 * i) % 256 : Nat) : Int) from pb_X X Y Z hi7 (by omega)] at hsn
      have HSN : Hid _ := hsn
      have HN : Hid (n + 1 = 9 - i ∧ n ≤ 17) := ⟨by omega, by omega⟩
      have HM : Hid (_ ∧ _) := ⟨hR, hw⟩
      have HOW : Hid _ := hown
      have e8 : IntKind.i64.wrap (8 * (i : Int)) = ((8 * i : Nat) : Int) := by rw [IntKind.wrap_i64]; omega
      clear hsn hR hw hn hown
      go_wp2_with (at_builtin; go_loud (refine wpList_append_own _ rfl _ _ 59 rfl (w.heap.size + 1) 5 i0 (.int .u8 0) 1 1 Try.underlying59 hi hz0 hz1 hz2 rfl (by decide) _ _ _ rfl (World.ownsRow.alloc HOW.out _) ⟨wr.heap.size, 0, none⟩ 1 1 [.int .u8 ((X / 2 ^ (8 * i) % 256 : Nat) : Int)] rfl rfl ?c1 ?c2 ?c3 ?c4 ?c5 ?_))
      case c1 =>
        intro j u hj
        match j, hj with
        | 0, hj => simp at hj; subst hj; simp [Addr.add]
      case c2 => intro u hu; simp at hu; subst hu; rfl
      case c3 => have := HN.out; unfold maxLen; omega
      case c4 => have := HN.out; omega
      case c5 => simp; omega
      intro v' w2 hown' hgrow' _
      have hb2 : Below (w.heap.size + 1) wr w2 := ((Below.refl _ _).alloc (by omega) _).grown hgrow' (by simp; omega) (fun k hk => (World.ownsRow.lt HOW.out k hk).1)
      have HOW2 : Hid _ := hown'
      clear hown' hgrow' HOW
      go_wp2
      go_roundw
      case rel =>
        obtain ⟨hR, hw⟩ := HM.out
        refine ⟨i, by omega, by go_num, ?_, hR.below hb2, hw.trans (hb2.mono (by omega))⟩
        rw [← HN.out.1, ← HSN.out]
        exact HOW2.out
      case measure => simp [RowKit.intOf] <;> omega
    · have hk0 : k = 0 := by omega
      subst hk0
      rw [show (((0 : Nat) : Int) - 1) = -1 from rfl]
      have HS : Hid (_ ∧ _ ∧ _) := ⟨hown, hR, hw⟩
      clear hown hw hR
      go_wp2
      go_loopw [3, 5] (fun v i wr => ∃ k : Nat, k ≤ 8 ∧ i = .int .i64 ((k : Int) - 1) ∧ wr.ownsRow (w.heap.size + 1) 5 1 v (17 - k) (by8 (pb X Y Z) (17 - k)) ∧ BX w.heap.size X Y wr ∧ Below w.heap.size w wr) (fun _ i _ => (RowKit.intOf i + 1).toNat)
      case atStart => exact ⟨8, by omega, rfl, HS.out⟩
      case round =>
        clear HS
        obtain ⟨k, hk, rfl, hown, hR, hw⟩ := hrel
        by_cases h0 : 1 ≤ k
        · obtain ⟨i, rfl⟩ : ∃ i, k = i + 1 := ⟨k - 1, by omega⟩
          rw [show (((i + 1 : Nat) : Int) - 1) = (i : Int) by omega]
          have hi7 : i ≤ 7 := by omega
          have r1 := hR.c1
          have hs := hR.lt
          obtain ⟨n, hn⟩ : ∃ n, n = 17 - (i + 1) := ⟨_, rfl⟩
          rw [← hn] at hown
          have hsn := by8_snoc (pb X Y Z) n
          rw [show pb X Y Z n = ((Y / 2 ^ (8 * i) % 256 : Nat) : Int) from pb_Y X Y Z hi7 (by omega)] at hsn
          have HSN : Hid _ := hsn
          have HN : Hid (n + 1 = 17 - i ∧ n ≤ 17) := ⟨by omega, by omega⟩
          have HM : Hid (_ ∧ _) := ⟨hR, hw⟩
          have HOW : Hid _ := hown
          have e8 : IntKind.i64.wrap (8 * (i : Int)) = ((8 * i : Nat) : Int) := by rw [IntKind.wrap_i64]; omega
          clear hsn hR hw hn hown
          go_wp2_with (at_builtin; go_loud (refine wpList_append_own _ rfl _ _ 59 rfl (w.heap.size + 1) 5 i0 (.int .u8 0) 1 1 Try.underlying59 hi hz0 hz1 hz2 rfl (by decide) _ _ _ rfl (World.ownsRow.alloc HOW.out _) ⟨wr.heap.size, 0, none⟩ 1 1 [.int .u8 ((Y / 2 ^ (8 * i) % 256 : Nat) : Int)] rfl rfl ?c1 ?c2 ?c3 ?c4 ?c5 ?_))
          case c1 =>
            intro j u hj
            match j, hj with
            | 0, hj => simp at hj; subst hj; simp [Addr.add]
          case c2 => intro u hu; simp at hu; subst hu; rfl
          case c3 => have := HN.out; unfold maxLen; omega
          case c4 => have := HN.out; omega
          case c5 => simp; omega
          intro v' w2 hown' hgrow' _
          have hb2 : Below (w.heap.size + 1) wr w2 := ((Below.refl _ _).alloc (by omega) _).grown hgrow' (by simp; omega) (fun k hk => (World.ownsRow.lt HOW.out k hk).1)
          have HOW2 : Hid _ := hown'
          clear hown' hgrow' HOW
          go_wp2
          go_roundw
          case rel =>
            obtain ⟨hR, hw⟩ := HM.out
            refine ⟨i, by omega, by go_num, ?_, hR.below hb2, hw.trans (hb2.mono (by omega))⟩
            rw [← HN.out.1, ← HSN.out]
            exact HOW2.out
          case measure => simp [RowKit.intOf] <;> omega
        · have hk0 : k = 0 := by omega
          subst hk0
          rw [show (((0 : Nat) : Int) - 1) = -1 from rfl]
          have HS : Hid (_ ∧ _ ∧ _) := ⟨hown, hR, hw⟩
          clear hown hw hR
          go_wp2
          go_ret
          obtain ⟨hown, hR, hw⟩ := HS.out
          rcases hown.2 with ⟨_, h⟩ | ⟨g, cap, cur, hv, hb, hg, hn, _, _, _⟩
          · exact absurd h (by decide)
          · have hc := World.ownsRow.cells hown (g := g) (by rw [hv]; rfl)
            have hlt := (Array.getElem?_eq_some_iff.1 hg).1
            subst hv
            refine ⟨hw, g, cap - 17, 0, ?_, by omega, hlt, fun j v hj => ?_⟩
            · rw [show 17 + (cap - 17) = cap by omega]; rfl
            · obtain ⟨hj1, hj2⟩ := by8_inv hj
              have := hc j v hj
              rw [show (⟨g, 0, none⟩ : Addr).add j = ⟨g, j, none⟩ by unfold Addr.add; split <;> simp_all] at this
              refine ⟨this, ?_⟩
              unfold World.frozen?
              rw [hg]
              simp
set_option maxHeartbeats 1000000 in
set_option maxRecDepth 100000 in
theorem bytesD_f (X Y : Nat) (w : World) :
    Calls Try.prog 40 #[V (pt X Y false)] w fun e w' => Below w.heap.size w w' ∧ ∃ g x, ∃ _ : Nat, e = .returned (.slice (some ⟨g, 0, none⟩) 17 (17 + x)) ∧ w.heap.size ≤ g ∧ g < w'.heap.size ∧ Blk w' g (by8 (pb X Y false) 17) := by
  obtain ⟨i0, hi, hz0, hz1, hz2⟩ := info_byte
  obtain ⟨Z, hZ⟩ : ∃ Z, Z = false := ⟨_, rfl⟩
  have HZ : Hid (Z = false) := hZ
  have hP : pb X Y false = pb X Y Z := by rw [hZ]
  clear hZ
  rw [hP]
  clear hP
  go_enter Try.func40, Try.ntmps40
  go_wp2
  go_loopw [3, 4] (fun v i wr => ∃ k : Nat, k ≤ 8 ∧ i = .int .i64 ((k : Int) - 1) ∧ wr.ownsRow (w.heap.size + 1) 5 1 v (9 - k) (by8 (pb X Y Z) (9 - k)) ∧ BX w.heap.size X Y wr ∧ Below w.heap.size w wr) (fun _ i _ => (RowKit.intOf i + 1).toNat)
  case atStart =>
    refine ⟨8, by omega, rfl, ⟨by simp [by8], .inr ⟨w.heap.size + 1, 1, #[.int .u8 0], rfl, Nat.le_refl _, ?_, Nat.le_refl _, by decide, rfl, by rw [HZ.out]; rfl⟩⟩, ⟨?_, ?_, ?_⟩, ?_⟩
    · rw [show w.heap.size + 1 = (w.alloc (Obj.cells (pt X Y false).toArray 25)).heap.size by simp]; exact heap_alloc_new _ _
    · simp; omega
    · rw [World.cell?_alloc_past _ _ _ (by simp), World.cell?_alloc_at _ _ _ _ rfl]; rfl
    · rw [World.cell?_alloc_past _ _ _ (by simp), World.cell?_alloc_at _ _ _ _ rfl]; rfl
    · exact ((Below.refl _ _).alloc (Nat.le_refl _) _).alloc (by simp) _
  case round =>
    skip
    obtain ⟨k, hk, rfl, hown, hR, hw⟩ := hrel
    by_cases h0 : 1 ≤ k
    · obtain ⟨i, rfl⟩ : ∃ i, k = i + 1 := ⟨k - 1, by omega⟩
      rw [show (((i + 1 : Nat) : Int) - 1) = (i : Int) by omega]
      have hi7 : i ≤ 7 := by omega
      have r1 := hR.c0
      have hs := hR.lt
      obtain ⟨n, hn⟩ : ∃ n, n = 9 - (i + 1) := ⟨_, rfl⟩
      rw [← hn] at hown
      have hsn := by8_snoc (pb X Y Z) n
      rw [show pb X Y Z n = ((X / 2 ^ (8 * i) % 256 : Nat) : Int) from pb_X X Y Z hi7 (by omega)] at hsn
      have HSN : Hid _ := hsn
      have HN : Hid (n + 1 = 9 - i ∧ n ≤ 17) := ⟨by omega, by omega⟩
      have HM : Hid (_ ∧ _) := ⟨hR, hw⟩
      have HOW : Hid _ := hown
      have e8 : IntKind.i64.wrap (8 * (i : Int)) = ((8 * i : Nat) : Int) := by rw [IntKind.wrap_i64]; omega
      clear hsn hR hw hn hown
      go_wp2_with (at_builtin; go_loud (refine wpList_append_own _ rfl _ _ 59 rfl (w.heap.size + 1) 5 i0 (.int .u8 0) 1 1 Try.underlying59 hi hz0 hz1 hz2 rfl (by decide) _ _ _ rfl (World.ownsRow.alloc HOW.out _) ⟨wr.heap.size, 0, none⟩ 1 1 [.int .u8 ((X / 2 ^ (8 * i) % 256 : Nat) : Int)] rfl rfl ?c1 ?c2 ?c3 ?c4 ?c5 ?_))
      case c1 =>
        intro j u hj
        match j, hj with
        | 0, hj => simp at hj; subst hj; simp [Addr.add]
      case c2 => intro u hu; simp at hu; subst hu; rfl
      case c3 => have := HN.out; unfold maxLen; omega
      case c4 => have := HN.out; omega
      case c5 => simp; omega
      intro v' w2 hown' hgrow' _
      have hb2 : Below (w.heap.size + 1) wr w2 := ((Below.refl _ _).alloc (by omega) _).grown hgrow' (by simp; omega) (fun k hk => (World.ownsRow.lt HOW.out k hk).1)
      have HOW2 : Hid _ := hown'
      clear hown' hgrow' HOW
      go_wp2
      go_roundw
      case rel =>
        obtain ⟨hR, hw⟩ := HM.out
        refine ⟨i, by omega, by go_num, ?_, hR.below hb2, hw.trans (hb2.mono (by omega))⟩
        rw [← HN.out.1, ← HSN.out]
        exact HOW2.out
      case measure => simp [RowKit.intOf] <;> omega
    · have hk0 : k = 0 := by omega
      subst hk0
      rw [show (((0 : Nat) : Int) - 1) = -1 from rfl]
      have HS : Hid (_ ∧ _ ∧ _) := ⟨hown, hR, hw⟩
      clear hown hw hR
      go_wp2
      go_loopw [3, 5] (fun v i wr => ∃ k : Nat, k ≤ 8 ∧ i = .int .i64 ((k : Int) - 1) ∧ wr.ownsRow (w.heap.size + 1) 5 1 v (17 - k) (by8 (pb X Y Z) (17 - k)) ∧ BX w.heap.size X Y wr ∧ Below w.heap.size w wr) (fun _ i _ => (RowKit.intOf i + 1).toNat)
      case atStart => exact ⟨8, by omega, rfl, HS.out⟩
      case round =>
        clear HS
        obtain ⟨k, hk, rfl, hown, hR, hw⟩ := hrel
        by_cases h0 : 1 ≤ k
        · obtain ⟨i, rfl⟩ : ∃ i, k = i + 1 := ⟨k - 1, by omega⟩
          rw [show (((i + 1 : Nat) : Int) - 1) = (i : Int) by omega]
          have hi7 : i ≤ 7 := by omega
          have r1 := hR.c1
          have hs := hR.lt
          obtain ⟨n, hn⟩ : ∃ n, n = 17 - (i + 1) := ⟨_, rfl⟩
          rw [← hn] at hown
          have hsn := by8_snoc (pb X Y Z) n
          rw [show pb X Y Z n = ((Y / 2 ^ (8 * i) % 256 : Nat) : Int) from pb_Y X Y Z hi7 (by omega)] at hsn
          have HSN : Hid _ := hsn
          have HN : Hid (n + 1 = 17 - i ∧ n ≤ 17) := ⟨by omega, by omega⟩
          have HM : Hid (_ ∧ _) := ⟨hR, hw⟩
          have HOW : Hid _ := hown
          have e8 : IntKind.i64.wrap (8 * (i : Int)) = ((8 * i : Nat) : Int) := by rw [IntKind.wrap_i64]; omega
          clear hsn hR hw hn hown
          go_wp2_with (at_builtin; go_loud (refine wpList_append_own _ rfl _ _ 59 rfl (w.heap.size + 1) 5 i0 (.int .u8 0) 1 1 Try.underlying59 hi hz0 hz1 hz2 rfl (by decide) _ _ _ rfl (World.ownsRow.alloc HOW.out _) ⟨wr.heap.size, 0, none⟩ 1 1 [.int .u8 ((Y / 2 ^ (8 * i) % 256 : Nat) : Int)] rfl rfl ?c1 ?c2 ?c3 ?c4 ?c5 ?_))
          case c1 =>
            intro j u hj
            match j, hj with
            | 0, hj => simp at hj; subst hj; simp [Addr.add]
          case c2 => intro u hu; simp at hu; subst hu; rfl
          case c3 => have := HN.out; unfold maxLen; omega
          case c4 => have := HN.out; omega
          case c5 => simp; omega
          intro v' w2 hown' hgrow' _
          have hb2 : Below (w.heap.size + 1) wr w2 := ((Below.refl _ _).alloc (by omega) _).grown hgrow' (by simp; omega) (fun k hk => (World.ownsRow.lt HOW.out k hk).1)
          have HOW2 : Hid _ := hown'
          clear hown' hgrow' HOW
          go_wp2
          go_roundw
          case rel =>
            obtain ⟨hR, hw⟩ := HM.out
            refine ⟨i, by omega, by go_num, ?_, hR.below hb2, hw.trans (hb2.mono (by omega))⟩
            rw [← HN.out.1, ← HSN.out]
            exact HOW2.out
          case measure => simp [RowKit.intOf] <;> omega
        · have hk0 : k = 0 := by omega
          subst hk0
          rw [show (((0 : Nat) : Int) - 1) = -1 from rfl]
          have HS : Hid (_ ∧ _ ∧ _) := ⟨hown, hR, hw⟩
          clear hown hw hR
          go_wp2
          go_ret
          obtain ⟨hown, hR, hw⟩ := HS.out
          rcases hown.2 with ⟨_, h⟩ | ⟨g, cap, cur, hv, hb, hg, hn, _, _, _⟩
          · exact absurd h (by decide)
          · have hc := World.ownsRow.cells hown (g := g) (by rw [hv]; rfl)
            have hlt := (Array.getElem?_eq_some_iff.1 hg).1
            subst hv
            refine ⟨hw, g, cap - 17, 0, ?_, by omega, hlt, fun j v hj => ?_⟩
            · rw [show 17 + (cap - 17) = cap by omega]; rfl
            · obtain ⟨hj1, hj2⟩ := by8_inv hj
              have := hc j v hj
              rw [show (⟨g, 0, none⟩ : Addr).add j = ⟨g, j, none⟩ by unfold Addr.add; split <;> simp_all] at this
              refine ⟨this, ?_⟩
              unfold World.frozen?
              rw [hg]
              simp
theorem Bytes_doc (X Y : Nat) (Z : Bool) (w : World) :
    Calls Try.prog 40 #[V (pt X Y Z)] w fun e w' => Below w.heap.size w w' ∧ ∃ g x, ∃ _ : Nat, e = .returned (.slice (some ⟨g, 0, none⟩) 17 (17 + x)) ∧ w.heap.size ≤ g ∧ g < w'.heap.size ∧ Blk w' g (by8 (pb X Y Z) 17) := by
  cases Z
  · exact bytesD_f X Y w
  · exact bytesD_t X Y w
end Rg
end Go.Proofs.Ytjmbgchoioepjaa
end
