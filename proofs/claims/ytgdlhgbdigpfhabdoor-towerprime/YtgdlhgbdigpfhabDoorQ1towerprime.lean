/- Texts of the proof, joined. -/
import Derived.Test.YtgdlhgbdigpfhabDoorP9
section
namespace Go.Proofs.YtgdlhgbdigpfhabDoor
open Go.RowKit
namespace Rg
open NT
/-! Sums of integers. -/
def smI (f : Nat → Int) : Nat → Int
 | 0 => 0
 | n + 1 => smI f n + f n
theorem smI_first (f : Nat → Int) : ∀ n, smI f (n + 1) = f 0 + smI (fun k => f (k + 1)) n
 | 0 => by show 0 + f 0 = f 0 + 0; omega
 | n + 1 => by
  show smI f (n + 1) + f (n + 1) = f 0 + (smI (fun k => f (k + 1)) n + f (n + 1))
  rw [smI_first f n]
  omega
theorem smI_add (f g : Nat → Int) : ∀ n, smI (fun k => f k + g k) n = smI f n + smI g n
 | 0 => rfl
 | n + 1 => by
  show smI (fun k => f k + g k) n + (f n + g n) = smI f n + f n + (smI g n + g n)
  rw [smI_add f g n]
  omega
theorem smI_congr {f g : Nat → Int} : ∀ n, (∀ k, k < n → f k = g k) → smI f n = smI g n
 | 0, _ => rfl
 | n + 1, h => by
  show smI f n + f n = smI g n + g n
  rw [smI_congr n (fun k hk => h k (by omega)), h n (by omega)]
theorem smI_dv {f : Nat → Int} : ∀ n, (∀ k, k < n → Dv (f k)) → Dv (smI f n)
 | 0, _ => dv_zero
 | n + 1, h => (smI_dv n (fun k hk => h k (by omega))).add (h n (by omega))
theorem zr12 (b : Nat → Int) : mul12 (fun _ => 0) b = fun _ => 0 := funext fun j => by
 match j with
 | 0 => simp only [mul12, m0, m1, Int.zero_mul, Int.add_zero, Int.sub_zero]
 | 1 => simp only [mul12, m0, m1, Int.zero_mul, Int.add_zero, Int.sub_zero]
 | 2 => simp only [mul12, m0, m1, Int.zero_mul, Int.add_zero, Int.sub_zero]
 | 3 => simp only [mul12, m0, m1, Int.zero_mul, Int.add_zero, Int.sub_zero]
 | 4 => simp only [mul12, m0, m1, Int.zero_mul, Int.add_zero, Int.sub_zero]
 | 5 => simp only [mul12, m0, m1, Int.zero_mul, Int.add_zero, Int.sub_zero]
 | 6 => simp only [mul12, m0, m1, Int.zero_mul, Int.add_zero, Int.sub_zero]
 | 7 => simp only [mul12, m0, m1, Int.zero_mul, Int.add_zero, Int.sub_zero]
 | 8 => simp only [mul12, m0, m1, Int.zero_mul, Int.add_zero, Int.sub_zero]
 | 9 => simp only [mul12, m0, m1, Int.zero_mul, Int.add_zero, Int.sub_zero]
 | 10 => simp only [mul12, m0, Int.zero_mul, Int.add_zero, Int.sub_zero]
 | 11 => simp only [mul12, m1, Int.zero_mul, Int.add_zero]
 | _ + 12 => rfl
theorem sc_mul (x : Int) (a b : Nat → Int) : mul12 (fun j => x * a j) b = fun j => x * mul12 a b j := by
 have h := lin12 (fun _ => 0) a b x
 rw [zr12] at h
 simp only [Int.zero_add] at h
 exact h
theorem sm_mul (c : Nat → Int) (T : Nat → Nat → Int) (x : Nat → Int) : ∀ n, mul12 (fun j => smI (fun k => c k * T k j) n) x = fun j => smI (fun k => c k * mul12 (T k) x j) n
 | 0 => zr12 x
 | n + 1 => by
  have h := lin12 (fun j => smI (fun k => c k * T k j) n) (T n) x (c n)
  rw [sm_mul c T x n] at h
  exact h
/-- The binomial law. -/
def TT (a b : Nat → Int) (k l : Nat) : Nat → Int := mul12 (pw12 a k) (pw12 b l)
theorem TT_a (a b : Nat → Int) (k l : Nat) : mul12 (TT a b k l) a = TT a b (k + 1) l := by
 show mul12 (mul12 (pw12 a k) (pw12 b l)) a = mul12 (mul12 (pw12 a k) a) (pw12 b l)
 rw [assoc12, comm12 (pw12 b l) a, ← assoc12]
theorem TT_b (a b : Nat → Int) (k l : Nat) : mul12 (TT a b k l) b = TT a b k (l + 1) := by
 show mul12 (mul12 (pw12 a k) (pw12 b l)) b = mul12 (pw12 a k) (mul12 (pw12 b l) b)
 rw [assoc12]
theorem binom12 (a b : Nat → Int) : ∀ n, pw12 (fun j => a j + b j) n = fun j => smI (fun k => (NT.ch n k : Int) * TT a b k (n - k) j) (n + 1)
 | 0 => funext fun j => by
  show one12 j = 0 + ((NT.ch 0 0 : Nat) : Int) * mul12 one12 one12 j
  rw [mul_one12 one12 fin_one, ch_zero]
  omega
 | n + 1 => by
  show mul12 (pw12 (fun j => a j + b j) n) (fun j => a j + b j) = _
  rw [binom12 a b n, comm12, add12, comm12 a, comm12 b, sm_mul, sm_mul]
  funext j
  dsimp only
  simp only [TT_a, TT_b]
  have e1 : smI (fun k => (NT.ch n k : Int) * TT a b k (n - k + 1) j) (n + 1) = smI (fun k => (NT.ch n k : Int) * TT a b k (n + 1 - k) j) (n + 1) := smI_congr _ fun k hk => by
   rw [show n - k + 1 = n + 1 - k by omega]
  have e2 : smI (fun k => (NT.ch n k : Int) * TT a b (k + 1) (n - k) j) (n + 1) = smI (fun k => (NT.ch n k : Int) * TT a b (k + 1) (n + 1 - (k + 1)) j) (n + 1) := smI_congr _ fun k _ => by
   rw [show n + 1 - (k + 1) = n - k by omega]
  have e3 := smI_first (fun k => (NT.ch (n + 1) k : Int) * TT a b k (n + 1 - k) j) (n + 1)
  have e4 : smI (fun k => (NT.ch (n + 1) (k + 1) : Int) * TT a b (k + 1) (n + 1 - (k + 1)) j) (n + 1) = smI (fun k => (NT.ch n k : Int) * TT a b (k + 1) (n + 1 - (k + 1)) j) (n + 1) + smI (fun k => (NT.ch n (k + 1) : Int) * TT a b (k + 1) (n + 1 - (k + 1)) j) (n + 1) := by
   rw [← smI_add]
   refine smI_congr _ fun k _ => ?_
   show ((NT.ch n k + NT.ch n (k + 1) : Nat) : Int) * _ = _
   rw [Int.natCast_add, Int.add_mul]
  have e5 := smI_first (fun k => (NT.ch n k : Int) * TT a b k (n + 1 - k) j) n
  have e6 : smI (fun k => (NT.ch n (k + 1) : Int) * TT a b (k + 1) (n + 1 - (k + 1)) j) (n + 1) = smI (fun k => (NT.ch n (k + 1) : Int) * TT a b (k + 1) (n + 1 - (k + 1)) j) n := by
   show _ + ((NT.ch n (n + 1) : Nat) : Int) * _ = _
   rw [ch_big n (n + 1) (by omega)]
   simp only [Int.natCast_zero, Int.zero_mul, Int.add_zero]
  simp only [ch_zero] at e3 e5
  rw [e1, e2]
  omega
theorem smI_succ (f : Nat → Int) (n : Nat) : smI f (n + 1) = smI f n + f n := rfl
theorem TT_r0 (a b : Nat → Int) (k : Nat) : TT a b k 0 = pw12 a k := mul_one12 _ (fin_pw a k)
/-- By p, the power p goes over sums. -/
theorem dream12 (a b : Nat → Int) : O12 fun j => pw12 (fun j => a j + b j) pB j - (pw12 a pB j + pw12 b pB j) := fun j => by
 obtain ⟨q, hq⟩ : ∃ q, pB = q + 1 := ⟨pB - 1, by have := pB_ok.pos; omega⟩
 have h := congrFun (binom12 a b pB) j
 show Dv (pw12 (fun j => a j + b j) pB j - (pw12 a pB j + pw12 b pB j))
 rw [h]
 have e1 : smI (fun k => (NT.ch pB k : Int) * TT a b k (pB - k) j) (pB + 1) = smI (fun k => (NT.ch pB k : Int) * TT a b k (pB - k) j) pB + pw12 a pB j := by
  rw [smI_succ, ch_self, Nat.sub_self, TT_r0, show ((1 : Nat) : Int) = 1 from rfl, Int.one_mul]
 have e2 : smI (fun k => (NT.ch pB k : Int) * TT a b k (pB - k) j) pB = pw12 b pB j + smI (fun k => (NT.ch pB (k + 1) : Int) * TT a b (k + 1) (pB - (k + 1)) j) q := by
  conv => lhs; arg 2; rw [hq]
  rw [smI_first, ch_zero, Nat.sub_zero]
  show ((1 : Nat) : Int) * mul12 one12 (pw12 b pB) j + _ = _
  rw [comm12, mul_one12 _ (fin_pw b pB)]
  omega
 have e3 : Dv (smI (fun k => (NT.ch pB (k + 1) : Int) * TT a b (k + 1) (pB - (k + 1)) j) q) := smI_dv q fun k hk => by
  have hd := ch_dvd pB_prm (k + 1) (by omega) (by omega)
  have hd2 : Dv ((NT.ch pB (k + 1) : Nat) : Int) := Int.ofNat_dvd.2 hd
  exact hd2.mulr _
 exact e3.of (by rw [e1, e2]; omega)
theorem pw_succ (a : Nat → Int) (n : Nat) : pw12 a (n + 1) = mul12 (pw12 a n) a := rfl
theorem pw_sc (x : Int) (a : Nat → Int) : ∀ n, pw12 (fun j => x * a j) n = fun j => x ^ n * pw12 a n j
 | 0 => funext fun j => by
  show one12 j = x ^ 0 * one12 j
  rw [Int.pow_zero, Int.one_mul]
 | n + 1 => by
  show mul12 (pw12 (fun j => x * a j) n) (fun j => x * a j) = fun j => x ^ (n + 1) * mul12 (pw12 a n) a j
  rw [pw_sc x a n, sc_mul, comm12, sc_mul, comm12 a]
  funext j
  rw [Int.pow_succ, Int.mul_assoc]
theorem powI_pz (x : Int) : ∀ n : Nat, pz (x ^ n) = pz x ^ n % pB
 | 0 => by
  rw [Int.pow_zero, Nat.pow_zero, pz_one]
  decide +kernel
 | n + 1 => by
  rw [Int.pow_succ, pz_mulN, powI_pz x n, Nat.mod_mul_mod, Nat.pow_succ]
theorem fermatI (x : Int) : Dv (x ^ pB - x) := by
 rw [← pz_iff, powI_pz, fermat pB_prm, Nat.mod_eq_of_lt (pz_lt x)]
theorem pw_pow (a : Nat → Int) (m : Nat) : ∀ n, pw12 a (m * n) = pw12 (pw12 a m) n
 | 0 => rfl
 | n + 1 => by
  rw [Nat.mul_succ, pw_add, pw_pow a m n]
  rfl
theorem mulc {a b c d : Nat → Int} (h : O12 fun j => a j - b j) (k : O12 fun j => c j - d j) : O12 fun j => mul12 a c j - mul12 b d j := fun j => by
 have h1 := h.mul c j
 rw [sub12] at h1
 have h2 := k.mul b j
 rw [sub12, comm12 c b, comm12 d b] at h2
 exact (h1.add h2).of (by dsimp only; omega)
theorem pw_cong {a b : Nat → Int} (h : O12 fun j => a j - b j) : ∀ n, O12 fun j => pw12 a n j - pw12 b n j
 | 0 => o12r _
 | n + 1 => mulc (pw_cong h n) h
theorem nvm (x y : Z2) : mul12 (nv x) (nv y) = nv (cm x y) := funext fun j => by
 match j with
 | 0 => simp only [mul12, m0, m1, nv, cm, Nat.reduceMul, Nat.reduceAdd]; grind
 | 1 => simp only [mul12, m0, m1, nv, cm, Nat.reduceMul, Nat.reduceAdd]; grind
 | 2 => simp only [mul12, m0, m1, nv, Nat.reduceMul, Nat.reduceAdd]; grind
 | 3 => simp only [mul12, m0, m1, nv, Nat.reduceMul, Nat.reduceAdd]; grind
 | 4 => simp only [mul12, m0, m1, nv, Nat.reduceMul, Nat.reduceAdd]; grind
 | 5 => simp only [mul12, m0, m1, nv, Nat.reduceMul, Nat.reduceAdd]; grind
 | 6 => simp only [mul12, m0, m1, nv, Nat.reduceMul, Nat.reduceAdd]; grind
 | 7 => simp only [mul12, m0, m1, nv, Nat.reduceMul, Nat.reduceAdd]; grind
 | 8 => simp only [mul12, m0, m1, nv, Nat.reduceMul, Nat.reduceAdd]; grind
 | 9 => simp only [mul12, m0, m1, nv, Nat.reduceMul, Nat.reduceAdd]; grind
 | 10 => simp only [mul12, m0, nv, Nat.reduceMul, Nat.reduceAdd]; grind
 | 11 => simp only [mul12, m1, nv, Nat.reduceMul, Nat.reduceAdd]; grind
 | _ + 12 => rfl
theorem nv_one : nv (1, 0) = one12 := funext fun j => by
 match j with
 | 0 => rfl
 | 1 => rfl
 | _ + 2 => rfl
theorem pw_nv (z : Z2) : ∀ n, pw12 (nv z) n = nv (zpw z n)
 | 0 => nv_one.symm
 | n + 1 => by
  show mul12 (pw12 (nv z) n) (nv z) = nv (cm (zpw z n) z)
  rw [pw_nv z n, nvm]
/-! A pair's power by p, quickly. -/
def qm (x y : Nat × Nat) : Nat × Nat := ((x.1 * y.1 + (pB - x.2) * y.2) % pB, (x.1 * y.2 + x.2 * y.1) % pB)
def qp : Nat → Nat × Nat → Nat → Nat × Nat → Nat × Nat
 | 0, _, _, acc => acc
 | f + 1, b, e, acc => qp f (qm b b) (e / 2) (if e % 2 = 1 then qm acc b else acc)
def Rep (x : Nat × Nat) (z : Z2) : Prop := x.2 ≤ pB ∧ Dv ((x.1 : Int) - z.1) ∧ Dv ((x.2 : Int) - z.2)
theorem dv_mod (n : Nat) : Dv (((n % pB : Nat) : Int) - (n : Int)) := by
 rw [Int.natCast_emod, Int.emod_def]
 exact ⟨-((n : Int) / (pB : Int)), by rw [Int.mul_neg]; omega⟩
theorem Rep.mul {x y : Nat × Nat} {z t : Z2} (h : Rep x z) (k : Rep y t) : Rep (qm x y) (cm z t) := by
 obtain ⟨h0, h1, h2⟩ := h
 obtain ⟨k0, k1, k2⟩ := k
 have hp : Dv (pB : Int) := ⟨1, by omega⟩
 refine ⟨Nat.le_of_lt (Nat.mod_lt _ pB_ok.pos), ?_, ?_⟩
 ·refine ((dv_mod (x.1 * y.1 + (pB - x.2) * y.2)).add (((h1.mulr y.1).add (k1.mul z.1)).sub (((h2.mulr y.2).add (k2.mul z.2)).sub (hp.mulr y.2)))).of ?_
  have e : (((pB - x.2 : Nat)) : Int) = (pB : Int) - (x.2 : Int) := Int.ofNat_sub h0
  unfold cm qm
  dsimp only
  rw [Int.natCast_add, Int.natCast_mul, Int.natCast_mul, e]
  grind
 ·refine ((dv_mod (x.1 * y.2 + x.2 * y.1)).add (((h1.mulr y.2).add (k2.mul z.1)).add ((h2.mulr y.1).add (k1.mul z.2)))).of ?_
  unfold cm qm
  dsimp only
  rw [Int.natCast_add, Int.natCast_mul, Int.natCast_mul]
  grind
theorem zpw_sq (z : Z2) (n : Nat) : zpw (cm z z) n = zpw z (2 * n) := by
 rw [zpw_mul, ← zpw_add, Nat.two_mul]
theorem qp_spec : ∀ (f : Nat) (b : Nat × Nat) (e : Nat) (acc : Nat × Nat) (z t : Z2), e < 2 ^ f → Rep b z → Rep acc t → Rep (qp f b e acc) (cm t (zpw z e))
 | 0, b, e, acc, z, t, he, _, ha => by
  have e0 : e = 0 := by simpa using he
  subst e0
  show Rep acc (cm t (1, 0))
  rw [cm_one]
  exact ha
 | f + 1, b, e, acc, z, t, he, hb, ha => by
  have hlt : e / 2 < 2 ^ f := by rw [Nat.pow_succ] at he; omega
  show Rep (qp f (qm b b) (e / 2) (if e % 2 = 1 then qm acc b else acc)) (cm t (zpw z e))
  by_cases h : e % 2 = 1
  ·rw [if_pos h]
   have hs := qp_spec f (qm b b) (e / 2) (qm acc b) (cm z z) (cm t z) hlt (hb.mul hb) (ha.mul hb)
   rw [zpw_sq, cm_asc] at hs
   have e1 : cm z (zpw z (2 * (e / 2))) = zpw z e := by
    have h1 := zpw_add z 1 (2 * (e / 2))
    rw [show 1 + 2 * (e / 2) = e by omega] at h1
    rw [h1]
    congr 1
    show z = cm (1, 0) z
    unfold cm
    exact Prod.ext (by dsimp only; omega) (by dsimp only; omega)
   rw [e1] at hs
   exact hs
  ·rw [if_neg h]
   have hs := qp_spec f (qm b b) (e / 2) acc (cm z z) t hlt (hb.mul hb) ha
   rw [zpw_sq, show 2 * (e / 2) = e by omega] at hs
   exact hs
def e6 : Nat := 667068259203611232236298304289317359426147136656501314222009689354005275081806310740447938188169277339649045426631
theorem qp_spec2 (g h : Nat) (b : Nat × Nat) (e : Nat) (acc : Nat × Nat) (z t : Z2) (he : e < 2 ^ g * 2 ^ h) (hb : Rep b z) (ha : Rep acc t) : Rep (qp (g + h) b e acc) (cm t (zpw z e)) := qp_spec (g + h) b e acc z t (by rw [Nat.pow_add]; exact he) hb ha
theorem e6_lt : e6 < 2 ^ 256 * 2 ^ 256 := by decide +kernel
theorem xi_pow : qp (256 + 256) (1, 1) e6 (1, 0) = (y1, y2) := by decide +kernel
theorem xi_yy : Dv ((zpw xi e6).1 - yy.1) ∧ Dv ((zpw xi e6).2 - yy.2) := by
 have h := qp_spec2 256 256 (1, 1) e6 (1, 0) xi (1, 0) e6_lt ⟨by decide +kernel, dv_zero, dv_zero⟩ ⟨Nat.zero_le _, dv_zero, dv_zero⟩
 rw [xi_pow] at h
 obtain ⟨_, h1, h2⟩ := h
 have e : cm (1, 0) (zpw xi e6) = zpw xi e6 := by
  unfold cm
  exact Prod.ext (by dsimp only; omega) (by dsimp only; omega)
 rw [e] at h1 h2
 exact ⟨(h1.mul (-1)).of (by show -1 * ((y1 : Int) - (zpw xi e6).1) = (zpw xi e6).1 - (y1 : Int); omega), (h2.mul (-1)).of (by show -1 * ((y2 : Int) - (zpw xi e6).2) = (zpw xi e6).2 - (y2 : Int); omega)⟩
theorem pB_six : pB = 6 * e6 + 1 := by decide +kernel
theorem un6_nv : un6 = nv xi := funext fun j => by
 match j with
 | 0 => rfl
 | 1 => rfl
 | _ + 2 => rfl
theorem nv_cong (z t : Z2) (h1 : Dv (z.1 - t.1)) (h2 : Dv (z.2 - t.2)) : O12 fun j => nv z j - nv t j := fun j => by
 match j with
 | 0 => exact h1
 | 1 => exact h2
 | _ + 2 => exact dv_zero.of (by show 0 = (0 : Int) - 0; rfl)
/-- w to the power p. -/
theorem w_pow : O12 fun j => pw12 un1 pB j - mul12 (nv yy) un1 j := by
 rw [pB_six, pw_succ, pw_pow, un_six, un6_nv, pw_nv]
 exact mulc (nv_cong _ _ xi_yy.1 xi_yy.2) (o12r un1)
def dl (m : Nat) : Nat → Int := fun j => if j = m then 1 else 0
/-- The first m numbers. -/
def fst12 (a : Nat → Int) (m : Nat) : Nat → Int := fun j => if j < m then a j else 0
theorem fst_succ (a : Nat → Int) (m : Nat) : fst12 a (m + 1) = fun j => fst12 a m j + a m * dl m j := funext fun j => by
 unfold fst12 dl
 by_cases h : j = m
 ·subst h
  rw [if_pos (by omega), if_neg (by omega), if_pos rfl]
  omega
 ·by_cases h2 : j < m
  ·rw [if_pos (by omega), if_pos h2, if_neg h]
   omega
  ·rw [if_neg (by omega), if_neg h2, if_neg h]
   omega
theorem Sn_zero : Sn (fun _ => 0) = fun _ => 0 := funext fun j => by
 match j with
 | 0 => show (0 : Int) * _ - -(0 : Int) * _ = 0; simp only [Int.neg_zero, Int.zero_mul]; rfl
 | 1 => show (0 : Int) * _ + -(0 : Int) * _ = 0; simp only [Int.neg_zero, Int.zero_mul]; rfl
 | 2 => show (0 : Int) * _ - -(0 : Int) * _ = 0; simp only [Int.neg_zero, Int.zero_mul]; rfl
 | 3 => show (0 : Int) * _ + -(0 : Int) * _ = 0; simp only [Int.neg_zero, Int.zero_mul]; rfl
 | 4 => show (0 : Int) * _ - -(0 : Int) * _ = 0; simp only [Int.neg_zero, Int.zero_mul]; rfl
 | 5 => show (0 : Int) * _ + -(0 : Int) * _ = 0; simp only [Int.neg_zero, Int.zero_mul]; rfl
 | 6 => show (0 : Int) * _ - -(0 : Int) * _ = 0; simp only [Int.neg_zero, Int.zero_mul]; rfl
 | 7 => show (0 : Int) * _ + -(0 : Int) * _ = 0; simp only [Int.neg_zero, Int.zero_mul]; rfl
 | 8 => show (0 : Int) * _ - -(0 : Int) * _ = 0; simp only [Int.neg_zero, Int.zero_mul]; rfl
 | 9 => show (0 : Int) * _ + -(0 : Int) * _ = 0; simp only [Int.neg_zero, Int.zero_mul]; rfl
 | 10 => show (0 : Int) * _ - -(0 : Int) * _ = 0; simp only [Int.neg_zero, Int.zero_mul]; rfl
 | 11 => show (0 : Int) * _ + -(0 : Int) * _ = 0; simp only [Int.neg_zero, Int.zero_mul]; rfl
 | _ + 12 => rfl
theorem zpowI : (0 : Int) ^ pB = 0 := by
 obtain ⟨q, hq⟩ : ∃ q, pB = q + 1 := ⟨pB - 1, by have := pB_ok.pos; omega⟩
 rw [hq, Int.pow_succ, Int.mul_zero]
/-- If it holds of the twelve units, it holds of all. -/
theorem sums12 (a : Nat → Int) (hu : ∀ m, m < 12 → O12 fun j => pw12 (dl m) pB j - Sn (dl m) j) : ∀ m, m ≤ 12 → O12 fun j => pw12 (fst12 a m) pB j - Sn (fst12 a m) j
 | 0, _ => fun j => by
  have e : fst12 a 0 = fun _ => 0 := funext fun j => if_neg (by omega)
  have e1 : (fun _ => 0 : Nat → Int) = fun j => 0 * dl 0 j := funext fun j => (Int.zero_mul _).symm
  have e2 := pw_sc 0 (dl 0) pB
  rw [← e1, zpowI] at e2
  rw [e, e2, Sn_zero]
  exact dv_zero.of (by dsimp only; omega)
 | m + 1, hm => by
  have ih := sums12 a hu m (by omega)
  have hd := dream12 (fst12 a m) (fun j => a m * dl m j)
  have hs := pw_sc (a m) (dl m) pB
  rw [hs] at hd
  rw [fst_succ, Sn_lin]
  intro j
  have k1 := hd j
  have k2 := ih j
  have k3 := hu m (by omega) j
  have k4 := fermatI (a m)
  dsimp only at k1 k2 k3 ⊢
  generalize pw12 (fun j => fst12 a m j + a m * dl m j) pB j = x1 at *
  generalize pw12 (fst12 a m) pB j = x2 at *
  generalize pw12 (dl m) pB j = x3 at *
  generalize (a m) ^ pB = x4 at *
  exact ((k1.add k2).add ((k4.mulr x3).add (k3.mul (a m)))).of (by grind)
theorem i_four (q : Nat) : zpw (0, 1) (4 * q + 3) = (0, -1) := by
 induction q with
 | zero => rfl
 | succ q ih =>
  rw [show 4 * (q + 1) + 3 = (4 * q + 3) + 4 by omega, zpw_add, ih]
  rfl
theorem pB_i : pB = 4 * eP + 3 := by decide +kernel
theorem i_pow : pw12 (nv (0, 1)) pB = nv (0, -1) := by rw [pw_nv, pB_i, i_four]
theorem dl_0 : dl 0 = one12 := funext fun j => by
 match j with
 | 0 => rfl
 | 1 => rfl
 | 2 => rfl
 | 3 => rfl
 | 4 => rfl
 | 5 => rfl
 | 6 => rfl
 | 7 => rfl
 | 8 => rfl
 | 9 => rfl
 | 10 => rfl
 | 11 => rfl
 | j + 12 => exact if_neg (by omega)
theorem dl_1 : dl 1 = mul12 (nv (0, 1)) (dl 0) := funext fun j => by
 match j with
 | 0 => rfl
 | 1 => rfl
 | 2 => rfl
 | 3 => rfl
 | 4 => rfl
 | 5 => rfl
 | 6 => rfl
 | 7 => rfl
 | 8 => rfl
 | 9 => rfl
 | 10 => rfl
 | 11 => rfl
 | j + 12 => exact if_neg (by omega)
theorem dl_2 : dl 2 = un1 := funext fun j => by
 match j with
 | 0 => rfl
 | 1 => rfl
 | 2 => rfl
 | 3 => rfl
 | 4 => rfl
 | 5 => rfl
 | 6 => rfl
 | 7 => rfl
 | 8 => rfl
 | 9 => rfl
 | 10 => rfl
 | 11 => rfl
 | j + 12 => exact if_neg (by omega)
theorem dl_3 : dl 3 = mul12 (nv (0, 1)) (dl 2) := funext fun j => by
 match j with
 | 0 => rfl
 | 1 => rfl
 | 2 => rfl
 | 3 => rfl
 | 4 => rfl
 | 5 => rfl
 | 6 => rfl
 | 7 => rfl
 | 8 => rfl
 | 9 => rfl
 | 10 => rfl
 | 11 => rfl
 | j + 12 => exact if_neg (by omega)
theorem dl_4 : dl 4 = un2 := funext fun j => by
 match j with
 | 0 => rfl
 | 1 => rfl
 | 2 => rfl
 | 3 => rfl
 | 4 => rfl
 | 5 => rfl
 | 6 => rfl
 | 7 => rfl
 | 8 => rfl
 | 9 => rfl
 | 10 => rfl
 | 11 => rfl
 | j + 12 => exact if_neg (by omega)
theorem dl_5 : dl 5 = mul12 (nv (0, 1)) (dl 4) := funext fun j => by
 match j with
 | 0 => rfl
 | 1 => rfl
 | 2 => rfl
 | 3 => rfl
 | 4 => rfl
 | 5 => rfl
 | 6 => rfl
 | 7 => rfl
 | 8 => rfl
 | 9 => rfl
 | 10 => rfl
 | 11 => rfl
 | j + 12 => exact if_neg (by omega)
theorem dl_6 : dl 6 = un3 := funext fun j => by
 match j with
 | 0 => rfl
 | 1 => rfl
 | 2 => rfl
 | 3 => rfl
 | 4 => rfl
 | 5 => rfl
 | 6 => rfl
 | 7 => rfl
 | 8 => rfl
 | 9 => rfl
 | 10 => rfl
 | 11 => rfl
 | j + 12 => exact if_neg (by omega)
theorem dl_7 : dl 7 = mul12 (nv (0, 1)) (dl 6) := funext fun j => by
 match j with
 | 0 => rfl
 | 1 => rfl
 | 2 => rfl
 | 3 => rfl
 | 4 => rfl
 | 5 => rfl
 | 6 => rfl
 | 7 => rfl
 | 8 => rfl
 | 9 => rfl
 | 10 => rfl
 | 11 => rfl
 | j + 12 => exact if_neg (by omega)
theorem dl_8 : dl 8 = un4 := funext fun j => by
 match j with
 | 0 => rfl
 | 1 => rfl
 | 2 => rfl
 | 3 => rfl
 | 4 => rfl
 | 5 => rfl
 | 6 => rfl
 | 7 => rfl
 | 8 => rfl
 | 9 => rfl
 | 10 => rfl
 | 11 => rfl
 | j + 12 => exact if_neg (by omega)
theorem dl_9 : dl 9 = mul12 (nv (0, 1)) (dl 8) := funext fun j => by
 match j with
 | 0 => rfl
 | 1 => rfl
 | 2 => rfl
 | 3 => rfl
 | 4 => rfl
 | 5 => rfl
 | 6 => rfl
 | 7 => rfl
 | 8 => rfl
 | 9 => rfl
 | 10 => rfl
 | 11 => rfl
 | j + 12 => exact if_neg (by omega)
theorem dl_10 : dl 10 = un5 := funext fun j => by
 match j with
 | 0 => rfl
 | 1 => rfl
 | 2 => rfl
 | 3 => rfl
 | 4 => rfl
 | 5 => rfl
 | 6 => rfl
 | 7 => rfl
 | 8 => rfl
 | 9 => rfl
 | 10 => rfl
 | 11 => rfl
 | j + 12 => exact if_neg (by omega)
theorem dl_11 : dl 11 = mul12 (nv (0, 1)) (dl 10) := funext fun j => by
 match j with
 | 0 => rfl
 | 1 => rfl
 | 2 => rfl
 | 3 => rfl
 | 4 => rfl
 | 5 => rfl
 | 6 => rfl
 | 7 => rfl
 | 8 => rfl
 | 9 => rfl
 | 10 => rfl
 | 11 => rfl
 | j + 12 => exact if_neg (by omega)
theorem un_pw : one12 = pw12 un1 0 ∧ un1 = pw12 un1 1 ∧ un2 = pw12 un1 2 ∧ un3 = pw12 un1 3 ∧ un4 = pw12 un1 4 ∧ un5 = pw12 un1 5 := by
 have e1 : un1 = pw12 un1 1 := un_1.symm
 have e2 : un2 = pw12 un1 2 := by rw [pw_succ, ← e1, un_2]
 have e3 : un3 = pw12 un1 3 := by rw [pw_succ, ← e2, un_3]
 have e4 : un4 = pw12 un1 4 := by rw [pw_succ, ← e3, un_4]
 have e5 : un5 = pw12 un1 5 := by rw [pw_succ, ← e4, un_5]
 exact ⟨rfl, e1, e2, e3, e4, e5⟩
theorem pw_swap (a : Nat → Int) (k n : Nat) : pw12 (pw12 a k) n = pw12 (pw12 a n) k := by rw [← pw_pow, ← pw_pow, Nat.mul_comm]
/-- A power of w, to the power p. -/
theorem unit_even (k : Nat) : O12 fun j => pw12 (pw12 un1 k) pB j - mul12 (nv (zpw yy k)) (pw12 un1 k) j := by
 rw [pw_swap]
 have h := pw_cong w_pow k
 rw [pw_mul, pw_nv] at h
 exact h
theorem Sn_0 : Sn (dl 0) = mul12 (nv (zpw yy 0)) (dl 0) := funext fun j => by
 match j with
 | 0 => show (1 : Int) * (zpw yy 0).1 - -(0 : Int) * (zpw yy 0).2 = _; simp only [mul12, m0, m1, nv, dl, Nat.reduceMul, Nat.reduceAdd, Nat.reduceEqDiff, if_true, if_false]; grind
 | 1 => show (1 : Int) * (zpw yy 0).2 + -(0 : Int) * (zpw yy 0).1 = _; simp only [mul12, m0, m1, nv, dl, Nat.reduceMul, Nat.reduceAdd, Nat.reduceEqDiff, if_true, if_false]; grind
 | 2 => show (0 : Int) * (zpw yy 1).1 - -(0 : Int) * (zpw yy 1).2 = _; simp only [mul12, m0, m1, nv, dl, Nat.reduceMul, Nat.reduceAdd, Nat.reduceEqDiff, if_true, if_false]; grind
 | 3 => show (0 : Int) * (zpw yy 1).2 + -(0 : Int) * (zpw yy 1).1 = _; simp only [mul12, m0, m1, nv, dl, Nat.reduceMul, Nat.reduceAdd, Nat.reduceEqDiff, if_true, if_false]; grind
 | 4 => show (0 : Int) * (zpw yy 2).1 - -(0 : Int) * (zpw yy 2).2 = _; simp only [mul12, m0, m1, nv, dl, Nat.reduceMul, Nat.reduceAdd, Nat.reduceEqDiff, if_true, if_false]; grind
 | 5 => show (0 : Int) * (zpw yy 2).2 + -(0 : Int) * (zpw yy 2).1 = _; simp only [mul12, m0, m1, nv, dl, Nat.reduceMul, Nat.reduceAdd, Nat.reduceEqDiff, if_true, if_false]; grind
 | 6 => show (0 : Int) * (zpw yy 3).1 - -(0 : Int) * (zpw yy 3).2 = _; simp only [mul12, m0, m1, nv, dl, Nat.reduceMul, Nat.reduceAdd, Nat.reduceEqDiff, if_true, if_false]; grind
 | 7 => show (0 : Int) * (zpw yy 3).2 + -(0 : Int) * (zpw yy 3).1 = _; simp only [mul12, m0, m1, nv, dl, Nat.reduceMul, Nat.reduceAdd, Nat.reduceEqDiff, if_true, if_false]; grind
 | 8 => show (0 : Int) * (zpw yy 4).1 - -(0 : Int) * (zpw yy 4).2 = _; simp only [mul12, m0, m1, nv, dl, Nat.reduceMul, Nat.reduceAdd, Nat.reduceEqDiff, if_true, if_false]; grind
 | 9 => show (0 : Int) * (zpw yy 4).2 + -(0 : Int) * (zpw yy 4).1 = _; simp only [mul12, m0, m1, nv, dl, Nat.reduceMul, Nat.reduceAdd, Nat.reduceEqDiff, if_true, if_false]; grind
 | 10 => show (0 : Int) * (zpw yy 5).1 - -(0 : Int) * (zpw yy 5).2 = _; simp only [mul12, m0, nv, dl, Nat.reduceMul, Nat.reduceAdd, Nat.reduceEqDiff, if_true, if_false]; grind
 | 11 => show (0 : Int) * (zpw yy 5).2 + -(0 : Int) * (zpw yy 5).1 = _; simp only [mul12, m1, nv, dl, Nat.reduceMul, Nat.reduceAdd, Nat.reduceEqDiff, if_true, if_false]; grind
 | _ + 12 => rfl
theorem Sn_1 : Sn (dl 1) = mul12 (nv (cm (0, -1) (zpw yy 0))) (dl 0) := funext fun j => by
 match j with
 | 0 => show (0 : Int) * (zpw yy 0).1 - -(1 : Int) * (zpw yy 0).2 = _; simp only [mul12, m0, m1, nv, cm, dl, Nat.reduceMul, Nat.reduceAdd, Nat.reduceEqDiff, if_true, if_false]; grind
 | 1 => show (0 : Int) * (zpw yy 0).2 + -(1 : Int) * (zpw yy 0).1 = _; simp only [mul12, m0, m1, nv, cm, dl, Nat.reduceMul, Nat.reduceAdd, Nat.reduceEqDiff, if_true, if_false]; grind
 | 2 => show (0 : Int) * (zpw yy 1).1 - -(0 : Int) * (zpw yy 1).2 = _; simp only [mul12, m0, m1, nv, cm, dl, Nat.reduceMul, Nat.reduceAdd, Nat.reduceEqDiff, if_true, if_false]; grind
 | 3 => show (0 : Int) * (zpw yy 1).2 + -(0 : Int) * (zpw yy 1).1 = _; simp only [mul12, m0, m1, nv, cm, dl, Nat.reduceMul, Nat.reduceAdd, Nat.reduceEqDiff, if_true, if_false]; grind
 | 4 => show (0 : Int) * (zpw yy 2).1 - -(0 : Int) * (zpw yy 2).2 = _; simp only [mul12, m0, m1, nv, cm, dl, Nat.reduceMul, Nat.reduceAdd, Nat.reduceEqDiff, if_true, if_false]; grind
 | 5 => show (0 : Int) * (zpw yy 2).2 + -(0 : Int) * (zpw yy 2).1 = _; simp only [mul12, m0, m1, nv, cm, dl, Nat.reduceMul, Nat.reduceAdd, Nat.reduceEqDiff, if_true, if_false]; grind
 | 6 => show (0 : Int) * (zpw yy 3).1 - -(0 : Int) * (zpw yy 3).2 = _; simp only [mul12, m0, m1, nv, cm, dl, Nat.reduceMul, Nat.reduceAdd, Nat.reduceEqDiff, if_true, if_false]; grind
 | 7 => show (0 : Int) * (zpw yy 3).2 + -(0 : Int) * (zpw yy 3).1 = _; simp only [mul12, m0, m1, nv, cm, dl, Nat.reduceMul, Nat.reduceAdd, Nat.reduceEqDiff, if_true, if_false]; grind
 | 8 => show (0 : Int) * (zpw yy 4).1 - -(0 : Int) * (zpw yy 4).2 = _; simp only [mul12, m0, m1, nv, cm, dl, Nat.reduceMul, Nat.reduceAdd, Nat.reduceEqDiff, if_true, if_false]; grind
 | 9 => show (0 : Int) * (zpw yy 4).2 + -(0 : Int) * (zpw yy 4).1 = _; simp only [mul12, m0, m1, nv, cm, dl, Nat.reduceMul, Nat.reduceAdd, Nat.reduceEqDiff, if_true, if_false]; grind
 | 10 => show (0 : Int) * (zpw yy 5).1 - -(0 : Int) * (zpw yy 5).2 = _; simp only [mul12, m0, nv, cm, dl, Nat.reduceMul, Nat.reduceAdd, Nat.reduceEqDiff, if_true, if_false]; grind
 | 11 => show (0 : Int) * (zpw yy 5).2 + -(0 : Int) * (zpw yy 5).1 = _; simp only [mul12, m1, nv, cm, dl, Nat.reduceMul, Nat.reduceAdd, Nat.reduceEqDiff, if_true, if_false]; grind
 | _ + 12 => rfl
theorem Sn_2 : Sn (dl 2) = mul12 (nv (zpw yy 1)) (dl 2) := funext fun j => by
 match j with
 | 0 => show (0 : Int) * (zpw yy 0).1 - -(0 : Int) * (zpw yy 0).2 = _; simp only [mul12, m0, m1, nv, dl, Nat.reduceMul, Nat.reduceAdd, Nat.reduceEqDiff, if_true, if_false]; grind
 | 1 => show (0 : Int) * (zpw yy 0).2 + -(0 : Int) * (zpw yy 0).1 = _; simp only [mul12, m0, m1, nv, dl, Nat.reduceMul, Nat.reduceAdd, Nat.reduceEqDiff, if_true, if_false]; grind
 | 2 => show (1 : Int) * (zpw yy 1).1 - -(0 : Int) * (zpw yy 1).2 = _; simp only [mul12, m0, m1, nv, dl, Nat.reduceMul, Nat.reduceAdd, Nat.reduceEqDiff, if_true, if_false]; grind
 | 3 => show (1 : Int) * (zpw yy 1).2 + -(0 : Int) * (zpw yy 1).1 = _; simp only [mul12, m0, m1, nv, dl, Nat.reduceMul, Nat.reduceAdd, Nat.reduceEqDiff, if_true, if_false]; grind
 | 4 => show (0 : Int) * (zpw yy 2).1 - -(0 : Int) * (zpw yy 2).2 = _; simp only [mul12, m0, m1, nv, dl, Nat.reduceMul, Nat.reduceAdd, Nat.reduceEqDiff, if_true, if_false]; grind
 | 5 => show (0 : Int) * (zpw yy 2).2 + -(0 : Int) * (zpw yy 2).1 = _; simp only [mul12, m0, m1, nv, dl, Nat.reduceMul, Nat.reduceAdd, Nat.reduceEqDiff, if_true, if_false]; grind
 | 6 => show (0 : Int) * (zpw yy 3).1 - -(0 : Int) * (zpw yy 3).2 = _; simp only [mul12, m0, m1, nv, dl, Nat.reduceMul, Nat.reduceAdd, Nat.reduceEqDiff, if_true, if_false]; grind
 | 7 => show (0 : Int) * (zpw yy 3).2 + -(0 : Int) * (zpw yy 3).1 = _; simp only [mul12, m0, m1, nv, dl, Nat.reduceMul, Nat.reduceAdd, Nat.reduceEqDiff, if_true, if_false]; grind
 | 8 => show (0 : Int) * (zpw yy 4).1 - -(0 : Int) * (zpw yy 4).2 = _; simp only [mul12, m0, m1, nv, dl, Nat.reduceMul, Nat.reduceAdd, Nat.reduceEqDiff, if_true, if_false]; grind
 | 9 => show (0 : Int) * (zpw yy 4).2 + -(0 : Int) * (zpw yy 4).1 = _; simp only [mul12, m0, m1, nv, dl, Nat.reduceMul, Nat.reduceAdd, Nat.reduceEqDiff, if_true, if_false]; grind
 | 10 => show (0 : Int) * (zpw yy 5).1 - -(0 : Int) * (zpw yy 5).2 = _; simp only [mul12, m0, nv, dl, Nat.reduceMul, Nat.reduceAdd, Nat.reduceEqDiff, if_true, if_false]; grind
 | 11 => show (0 : Int) * (zpw yy 5).2 + -(0 : Int) * (zpw yy 5).1 = _; simp only [mul12, m1, nv, dl, Nat.reduceMul, Nat.reduceAdd, Nat.reduceEqDiff, if_true, if_false]; grind
 | _ + 12 => rfl
theorem Sn_3 : Sn (dl 3) = mul12 (nv (cm (0, -1) (zpw yy 1))) (dl 2) := funext fun j => by
 match j with
 | 0 => show (0 : Int) * (zpw yy 0).1 - -(0 : Int) * (zpw yy 0).2 = _; simp only [mul12, m0, m1, nv, cm, dl, Nat.reduceMul, Nat.reduceAdd, Nat.reduceEqDiff, if_true, if_false]; grind
 | 1 => show (0 : Int) * (zpw yy 0).2 + -(0 : Int) * (zpw yy 0).1 = _; simp only [mul12, m0, m1, nv, cm, dl, Nat.reduceMul, Nat.reduceAdd, Nat.reduceEqDiff, if_true, if_false]; grind
 | 2 => show (0 : Int) * (zpw yy 1).1 - -(1 : Int) * (zpw yy 1).2 = _; simp only [mul12, m0, m1, nv, cm, dl, Nat.reduceMul, Nat.reduceAdd, Nat.reduceEqDiff, if_true, if_false]; grind
 | 3 => show (0 : Int) * (zpw yy 1).2 + -(1 : Int) * (zpw yy 1).1 = _; simp only [mul12, m0, m1, nv, cm, dl, Nat.reduceMul, Nat.reduceAdd, Nat.reduceEqDiff, if_true, if_false]; grind
 | 4 => show (0 : Int) * (zpw yy 2).1 - -(0 : Int) * (zpw yy 2).2 = _; simp only [mul12, m0, m1, nv, cm, dl, Nat.reduceMul, Nat.reduceAdd, Nat.reduceEqDiff, if_true, if_false]; grind
 | 5 => show (0 : Int) * (zpw yy 2).2 + -(0 : Int) * (zpw yy 2).1 = _; simp only [mul12, m0, m1, nv, cm, dl, Nat.reduceMul, Nat.reduceAdd, Nat.reduceEqDiff, if_true, if_false]; grind
 | 6 => show (0 : Int) * (zpw yy 3).1 - -(0 : Int) * (zpw yy 3).2 = _; simp only [mul12, m0, m1, nv, cm, dl, Nat.reduceMul, Nat.reduceAdd, Nat.reduceEqDiff, if_true, if_false]; grind
 | 7 => show (0 : Int) * (zpw yy 3).2 + -(0 : Int) * (zpw yy 3).1 = _; simp only [mul12, m0, m1, nv, cm, dl, Nat.reduceMul, Nat.reduceAdd, Nat.reduceEqDiff, if_true, if_false]; grind
 | 8 => show (0 : Int) * (zpw yy 4).1 - -(0 : Int) * (zpw yy 4).2 = _; simp only [mul12, m0, m1, nv, cm, dl, Nat.reduceMul, Nat.reduceAdd, Nat.reduceEqDiff, if_true, if_false]; grind
 | 9 => show (0 : Int) * (zpw yy 4).2 + -(0 : Int) * (zpw yy 4).1 = _; simp only [mul12, m0, m1, nv, cm, dl, Nat.reduceMul, Nat.reduceAdd, Nat.reduceEqDiff, if_true, if_false]; grind
 | 10 => show (0 : Int) * (zpw yy 5).1 - -(0 : Int) * (zpw yy 5).2 = _; simp only [mul12, m0, nv, cm, dl, Nat.reduceMul, Nat.reduceAdd, Nat.reduceEqDiff, if_true, if_false]; grind
 | 11 => show (0 : Int) * (zpw yy 5).2 + -(0 : Int) * (zpw yy 5).1 = _; simp only [mul12, m1, nv, cm, dl, Nat.reduceMul, Nat.reduceAdd, Nat.reduceEqDiff, if_true, if_false]; grind
 | _ + 12 => rfl
theorem Sn_4 : Sn (dl 4) = mul12 (nv (zpw yy 2)) (dl 4) := funext fun j => by
 match j with
 | 0 => show (0 : Int) * (zpw yy 0).1 - -(0 : Int) * (zpw yy 0).2 = _; simp only [mul12, m0, m1, nv, dl, Nat.reduceMul, Nat.reduceAdd, Nat.reduceEqDiff, if_true, if_false]; grind
 | 1 => show (0 : Int) * (zpw yy 0).2 + -(0 : Int) * (zpw yy 0).1 = _; simp only [mul12, m0, m1, nv, dl, Nat.reduceMul, Nat.reduceAdd, Nat.reduceEqDiff, if_true, if_false]; grind
 | 2 => show (0 : Int) * (zpw yy 1).1 - -(0 : Int) * (zpw yy 1).2 = _; simp only [mul12, m0, m1, nv, dl, Nat.reduceMul, Nat.reduceAdd, Nat.reduceEqDiff, if_true, if_false]; grind
 | 3 => show (0 : Int) * (zpw yy 1).2 + -(0 : Int) * (zpw yy 1).1 = _; simp only [mul12, m0, m1, nv, dl, Nat.reduceMul, Nat.reduceAdd, Nat.reduceEqDiff, if_true, if_false]; grind
 | 4 => show (1 : Int) * (zpw yy 2).1 - -(0 : Int) * (zpw yy 2).2 = _; simp only [mul12, m0, m1, nv, dl, Nat.reduceMul, Nat.reduceAdd, Nat.reduceEqDiff, if_true, if_false]; grind
 | 5 => show (1 : Int) * (zpw yy 2).2 + -(0 : Int) * (zpw yy 2).1 = _; simp only [mul12, m0, m1, nv, dl, Nat.reduceMul, Nat.reduceAdd, Nat.reduceEqDiff, if_true, if_false]; grind
 | 6 => show (0 : Int) * (zpw yy 3).1 - -(0 : Int) * (zpw yy 3).2 = _; simp only [mul12, m0, m1, nv, dl, Nat.reduceMul, Nat.reduceAdd, Nat.reduceEqDiff, if_true, if_false]; grind
 | 7 => show (0 : Int) * (zpw yy 3).2 + -(0 : Int) * (zpw yy 3).1 = _; simp only [mul12, m0, m1, nv, dl, Nat.reduceMul, Nat.reduceAdd, Nat.reduceEqDiff, if_true, if_false]; grind
 | 8 => show (0 : Int) * (zpw yy 4).1 - -(0 : Int) * (zpw yy 4).2 = _; simp only [mul12, m0, m1, nv, dl, Nat.reduceMul, Nat.reduceAdd, Nat.reduceEqDiff, if_true, if_false]; grind
 | 9 => show (0 : Int) * (zpw yy 4).2 + -(0 : Int) * (zpw yy 4).1 = _; simp only [mul12, m0, m1, nv, dl, Nat.reduceMul, Nat.reduceAdd, Nat.reduceEqDiff, if_true, if_false]; grind
 | 10 => show (0 : Int) * (zpw yy 5).1 - -(0 : Int) * (zpw yy 5).2 = _; simp only [mul12, m0, nv, dl, Nat.reduceMul, Nat.reduceAdd, Nat.reduceEqDiff, if_true, if_false]; grind
 | 11 => show (0 : Int) * (zpw yy 5).2 + -(0 : Int) * (zpw yy 5).1 = _; simp only [mul12, m1, nv, dl, Nat.reduceMul, Nat.reduceAdd, Nat.reduceEqDiff, if_true, if_false]; grind
 | _ + 12 => rfl
theorem Sn_5 : Sn (dl 5) = mul12 (nv (cm (0, -1) (zpw yy 2))) (dl 4) := funext fun j => by
 match j with
 | 0 => show (0 : Int) * (zpw yy 0).1 - -(0 : Int) * (zpw yy 0).2 = _; simp only [mul12, m0, m1, nv, cm, dl, Nat.reduceMul, Nat.reduceAdd, Nat.reduceEqDiff, if_true, if_false]; grind
 | 1 => show (0 : Int) * (zpw yy 0).2 + -(0 : Int) * (zpw yy 0).1 = _; simp only [mul12, m0, m1, nv, cm, dl, Nat.reduceMul, Nat.reduceAdd, Nat.reduceEqDiff, if_true, if_false]; grind
 | 2 => show (0 : Int) * (zpw yy 1).1 - -(0 : Int) * (zpw yy 1).2 = _; simp only [mul12, m0, m1, nv, cm, dl, Nat.reduceMul, Nat.reduceAdd, Nat.reduceEqDiff, if_true, if_false]; grind
 | 3 => show (0 : Int) * (zpw yy 1).2 + -(0 : Int) * (zpw yy 1).1 = _; simp only [mul12, m0, m1, nv, cm, dl, Nat.reduceMul, Nat.reduceAdd, Nat.reduceEqDiff, if_true, if_false]; grind
 | 4 => show (0 : Int) * (zpw yy 2).1 - -(1 : Int) * (zpw yy 2).2 = _; simp only [mul12, m0, m1, nv, cm, dl, Nat.reduceMul, Nat.reduceAdd, Nat.reduceEqDiff, if_true, if_false]; grind
 | 5 => show (0 : Int) * (zpw yy 2).2 + -(1 : Int) * (zpw yy 2).1 = _; simp only [mul12, m0, m1, nv, cm, dl, Nat.reduceMul, Nat.reduceAdd, Nat.reduceEqDiff, if_true, if_false]; grind
 | 6 => show (0 : Int) * (zpw yy 3).1 - -(0 : Int) * (zpw yy 3).2 = _; simp only [mul12, m0, m1, nv, cm, dl, Nat.reduceMul, Nat.reduceAdd, Nat.reduceEqDiff, if_true, if_false]; grind
 | 7 => show (0 : Int) * (zpw yy 3).2 + -(0 : Int) * (zpw yy 3).1 = _; simp only [mul12, m0, m1, nv, cm, dl, Nat.reduceMul, Nat.reduceAdd, Nat.reduceEqDiff, if_true, if_false]; grind
 | 8 => show (0 : Int) * (zpw yy 4).1 - -(0 : Int) * (zpw yy 4).2 = _; simp only [mul12, m0, m1, nv, cm, dl, Nat.reduceMul, Nat.reduceAdd, Nat.reduceEqDiff, if_true, if_false]; grind
 | 9 => show (0 : Int) * (zpw yy 4).2 + -(0 : Int) * (zpw yy 4).1 = _; simp only [mul12, m0, m1, nv, cm, dl, Nat.reduceMul, Nat.reduceAdd, Nat.reduceEqDiff, if_true, if_false]; grind
 | 10 => show (0 : Int) * (zpw yy 5).1 - -(0 : Int) * (zpw yy 5).2 = _; simp only [mul12, m0, nv, cm, dl, Nat.reduceMul, Nat.reduceAdd, Nat.reduceEqDiff, if_true, if_false]; grind
 | 11 => show (0 : Int) * (zpw yy 5).2 + -(0 : Int) * (zpw yy 5).1 = _; simp only [mul12, m1, nv, cm, dl, Nat.reduceMul, Nat.reduceAdd, Nat.reduceEqDiff, if_true, if_false]; grind
 | _ + 12 => rfl
theorem Sn_6 : Sn (dl 6) = mul12 (nv (zpw yy 3)) (dl 6) := funext fun j => by
 match j with
 | 0 => show (0 : Int) * (zpw yy 0).1 - -(0 : Int) * (zpw yy 0).2 = _; simp only [mul12, m0, m1, nv, dl, Nat.reduceMul, Nat.reduceAdd, Nat.reduceEqDiff, if_true, if_false]; grind
 | 1 => show (0 : Int) * (zpw yy 0).2 + -(0 : Int) * (zpw yy 0).1 = _; simp only [mul12, m0, m1, nv, dl, Nat.reduceMul, Nat.reduceAdd, Nat.reduceEqDiff, if_true, if_false]; grind
 | 2 => show (0 : Int) * (zpw yy 1).1 - -(0 : Int) * (zpw yy 1).2 = _; simp only [mul12, m0, m1, nv, dl, Nat.reduceMul, Nat.reduceAdd, Nat.reduceEqDiff, if_true, if_false]; grind
 | 3 => show (0 : Int) * (zpw yy 1).2 + -(0 : Int) * (zpw yy 1).1 = _; simp only [mul12, m0, m1, nv, dl, Nat.reduceMul, Nat.reduceAdd, Nat.reduceEqDiff, if_true, if_false]; grind
 | 4 => show (0 : Int) * (zpw yy 2).1 - -(0 : Int) * (zpw yy 2).2 = _; simp only [mul12, m0, m1, nv, dl, Nat.reduceMul, Nat.reduceAdd, Nat.reduceEqDiff, if_true, if_false]; grind
 | 5 => show (0 : Int) * (zpw yy 2).2 + -(0 : Int) * (zpw yy 2).1 = _; simp only [mul12, m0, m1, nv, dl, Nat.reduceMul, Nat.reduceAdd, Nat.reduceEqDiff, if_true, if_false]; grind
 | 6 => show (1 : Int) * (zpw yy 3).1 - -(0 : Int) * (zpw yy 3).2 = _; simp only [mul12, m0, m1, nv, dl, Nat.reduceMul, Nat.reduceAdd, Nat.reduceEqDiff, if_true, if_false]; grind
 | 7 => show (1 : Int) * (zpw yy 3).2 + -(0 : Int) * (zpw yy 3).1 = _; simp only [mul12, m0, m1, nv, dl, Nat.reduceMul, Nat.reduceAdd, Nat.reduceEqDiff, if_true, if_false]; grind
 | 8 => show (0 : Int) * (zpw yy 4).1 - -(0 : Int) * (zpw yy 4).2 = _; simp only [mul12, m0, m1, nv, dl, Nat.reduceMul, Nat.reduceAdd, Nat.reduceEqDiff, if_true, if_false]; grind
 | 9 => show (0 : Int) * (zpw yy 4).2 + -(0 : Int) * (zpw yy 4).1 = _; simp only [mul12, m0, m1, nv, dl, Nat.reduceMul, Nat.reduceAdd, Nat.reduceEqDiff, if_true, if_false]; grind
 | 10 => show (0 : Int) * (zpw yy 5).1 - -(0 : Int) * (zpw yy 5).2 = _; simp only [mul12, m0, nv, dl, Nat.reduceMul, Nat.reduceAdd, Nat.reduceEqDiff, if_true, if_false]; grind
 | 11 => show (0 : Int) * (zpw yy 5).2 + -(0 : Int) * (zpw yy 5).1 = _; simp only [mul12, m1, nv, dl, Nat.reduceMul, Nat.reduceAdd, Nat.reduceEqDiff, if_true, if_false]; grind
 | _ + 12 => rfl
theorem Sn_7 : Sn (dl 7) = mul12 (nv (cm (0, -1) (zpw yy 3))) (dl 6) := funext fun j => by
 match j with
 | 0 => show (0 : Int) * (zpw yy 0).1 - -(0 : Int) * (zpw yy 0).2 = _; simp only [mul12, m0, m1, nv, cm, dl, Nat.reduceMul, Nat.reduceAdd, Nat.reduceEqDiff, if_true, if_false]; grind
 | 1 => show (0 : Int) * (zpw yy 0).2 + -(0 : Int) * (zpw yy 0).1 = _; simp only [mul12, m0, m1, nv, cm, dl, Nat.reduceMul, Nat.reduceAdd, Nat.reduceEqDiff, if_true, if_false]; grind
 | 2 => show (0 : Int) * (zpw yy 1).1 - -(0 : Int) * (zpw yy 1).2 = _; simp only [mul12, m0, m1, nv, cm, dl, Nat.reduceMul, Nat.reduceAdd, Nat.reduceEqDiff, if_true, if_false]; grind
 | 3 => show (0 : Int) * (zpw yy 1).2 + -(0 : Int) * (zpw yy 1).1 = _; simp only [mul12, m0, m1, nv, cm, dl, Nat.reduceMul, Nat.reduceAdd, Nat.reduceEqDiff, if_true, if_false]; grind
 | 4 => show (0 : Int) * (zpw yy 2).1 - -(0 : Int) * (zpw yy 2).2 = _; simp only [mul12, m0, m1, nv, cm, dl, Nat.reduceMul, Nat.reduceAdd, Nat.reduceEqDiff, if_true, if_false]; grind
 | 5 => show (0 : Int) * (zpw yy 2).2 + -(0 : Int) * (zpw yy 2).1 = _; simp only [mul12, m0, m1, nv, cm, dl, Nat.reduceMul, Nat.reduceAdd, Nat.reduceEqDiff, if_true, if_false]; grind
 | 6 => show (0 : Int) * (zpw yy 3).1 - -(1 : Int) * (zpw yy 3).2 = _; simp only [mul12, m0, m1, nv, cm, dl, Nat.reduceMul, Nat.reduceAdd, Nat.reduceEqDiff, if_true, if_false]; grind
 | 7 => show (0 : Int) * (zpw yy 3).2 + -(1 : Int) * (zpw yy 3).1 = _; simp only [mul12, m0, m1, nv, cm, dl, Nat.reduceMul, Nat.reduceAdd, Nat.reduceEqDiff, if_true, if_false]; grind
 | 8 => show (0 : Int) * (zpw yy 4).1 - -(0 : Int) * (zpw yy 4).2 = _; simp only [mul12, m0, m1, nv, cm, dl, Nat.reduceMul, Nat.reduceAdd, Nat.reduceEqDiff, if_true, if_false]; grind
 | 9 => show (0 : Int) * (zpw yy 4).2 + -(0 : Int) * (zpw yy 4).1 = _; simp only [mul12, m0, m1, nv, cm, dl, Nat.reduceMul, Nat.reduceAdd, Nat.reduceEqDiff, if_true, if_false]; grind
 | 10 => show (0 : Int) * (zpw yy 5).1 - -(0 : Int) * (zpw yy 5).2 = _; simp only [mul12, m0, nv, cm, dl, Nat.reduceMul, Nat.reduceAdd, Nat.reduceEqDiff, if_true, if_false]; grind
 | 11 => show (0 : Int) * (zpw yy 5).2 + -(0 : Int) * (zpw yy 5).1 = _; simp only [mul12, m1, nv, cm, dl, Nat.reduceMul, Nat.reduceAdd, Nat.reduceEqDiff, if_true, if_false]; grind
 | _ + 12 => rfl
theorem Sn_8 : Sn (dl 8) = mul12 (nv (zpw yy 4)) (dl 8) := funext fun j => by
 match j with
 | 0 => show (0 : Int) * (zpw yy 0).1 - -(0 : Int) * (zpw yy 0).2 = _; simp only [mul12, m0, m1, nv, dl, Nat.reduceMul, Nat.reduceAdd, Nat.reduceEqDiff, if_true, if_false]; grind
 | 1 => show (0 : Int) * (zpw yy 0).2 + -(0 : Int) * (zpw yy 0).1 = _; simp only [mul12, m0, m1, nv, dl, Nat.reduceMul, Nat.reduceAdd, Nat.reduceEqDiff, if_true, if_false]; grind
 | 2 => show (0 : Int) * (zpw yy 1).1 - -(0 : Int) * (zpw yy 1).2 = _; simp only [mul12, m0, m1, nv, dl, Nat.reduceMul, Nat.reduceAdd, Nat.reduceEqDiff, if_true, if_false]; grind
 | 3 => show (0 : Int) * (zpw yy 1).2 + -(0 : Int) * (zpw yy 1).1 = _; simp only [mul12, m0, m1, nv, dl, Nat.reduceMul, Nat.reduceAdd, Nat.reduceEqDiff, if_true, if_false]; grind
 | 4 => show (0 : Int) * (zpw yy 2).1 - -(0 : Int) * (zpw yy 2).2 = _; simp only [mul12, m0, m1, nv, dl, Nat.reduceMul, Nat.reduceAdd, Nat.reduceEqDiff, if_true, if_false]; grind
 | 5 => show (0 : Int) * (zpw yy 2).2 + -(0 : Int) * (zpw yy 2).1 = _; simp only [mul12, m0, m1, nv, dl, Nat.reduceMul, Nat.reduceAdd, Nat.reduceEqDiff, if_true, if_false]; grind
 | 6 => show (0 : Int) * (zpw yy 3).1 - -(0 : Int) * (zpw yy 3).2 = _; simp only [mul12, m0, m1, nv, dl, Nat.reduceMul, Nat.reduceAdd, Nat.reduceEqDiff, if_true, if_false]; grind
 | 7 => show (0 : Int) * (zpw yy 3).2 + -(0 : Int) * (zpw yy 3).1 = _; simp only [mul12, m0, m1, nv, dl, Nat.reduceMul, Nat.reduceAdd, Nat.reduceEqDiff, if_true, if_false]; grind
 | 8 => show (1 : Int) * (zpw yy 4).1 - -(0 : Int) * (zpw yy 4).2 = _; simp only [mul12, m0, m1, nv, dl, Nat.reduceMul, Nat.reduceAdd, Nat.reduceEqDiff, if_true, if_false]; grind
 | 9 => show (1 : Int) * (zpw yy 4).2 + -(0 : Int) * (zpw yy 4).1 = _; simp only [mul12, m0, m1, nv, dl, Nat.reduceMul, Nat.reduceAdd, Nat.reduceEqDiff, if_true, if_false]; grind
 | 10 => show (0 : Int) * (zpw yy 5).1 - -(0 : Int) * (zpw yy 5).2 = _; simp only [mul12, m0, nv, dl, Nat.reduceMul, Nat.reduceAdd, Nat.reduceEqDiff, if_true, if_false]; grind
 | 11 => show (0 : Int) * (zpw yy 5).2 + -(0 : Int) * (zpw yy 5).1 = _; simp only [mul12, m1, nv, dl, Nat.reduceMul, Nat.reduceAdd, Nat.reduceEqDiff, if_true, if_false]; grind
 | _ + 12 => rfl
theorem Sn_9 : Sn (dl 9) = mul12 (nv (cm (0, -1) (zpw yy 4))) (dl 8) := funext fun j => by
 match j with
 | 0 => show (0 : Int) * (zpw yy 0).1 - -(0 : Int) * (zpw yy 0).2 = _; simp only [mul12, m0, m1, nv, cm, dl, Nat.reduceMul, Nat.reduceAdd, Nat.reduceEqDiff, if_true, if_false]; grind
 | 1 => show (0 : Int) * (zpw yy 0).2 + -(0 : Int) * (zpw yy 0).1 = _; simp only [mul12, m0, m1, nv, cm, dl, Nat.reduceMul, Nat.reduceAdd, Nat.reduceEqDiff, if_true, if_false]; grind
 | 2 => show (0 : Int) * (zpw yy 1).1 - -(0 : Int) * (zpw yy 1).2 = _; simp only [mul12, m0, m1, nv, cm, dl, Nat.reduceMul, Nat.reduceAdd, Nat.reduceEqDiff, if_true, if_false]; grind
 | 3 => show (0 : Int) * (zpw yy 1).2 + -(0 : Int) * (zpw yy 1).1 = _; simp only [mul12, m0, m1, nv, cm, dl, Nat.reduceMul, Nat.reduceAdd, Nat.reduceEqDiff, if_true, if_false]; grind
 | 4 => show (0 : Int) * (zpw yy 2).1 - -(0 : Int) * (zpw yy 2).2 = _; simp only [mul12, m0, m1, nv, cm, dl, Nat.reduceMul, Nat.reduceAdd, Nat.reduceEqDiff, if_true, if_false]; grind
 | 5 => show (0 : Int) * (zpw yy 2).2 + -(0 : Int) * (zpw yy 2).1 = _; simp only [mul12, m0, m1, nv, cm, dl, Nat.reduceMul, Nat.reduceAdd, Nat.reduceEqDiff, if_true, if_false]; grind
 | 6 => show (0 : Int) * (zpw yy 3).1 - -(0 : Int) * (zpw yy 3).2 = _; simp only [mul12, m0, m1, nv, cm, dl, Nat.reduceMul, Nat.reduceAdd, Nat.reduceEqDiff, if_true, if_false]; grind
 | 7 => show (0 : Int) * (zpw yy 3).2 + -(0 : Int) * (zpw yy 3).1 = _; simp only [mul12, m0, m1, nv, cm, dl, Nat.reduceMul, Nat.reduceAdd, Nat.reduceEqDiff, if_true, if_false]; grind
 | 8 => show (0 : Int) * (zpw yy 4).1 - -(1 : Int) * (zpw yy 4).2 = _; simp only [mul12, m0, m1, nv, cm, dl, Nat.reduceMul, Nat.reduceAdd, Nat.reduceEqDiff, if_true, if_false]; grind
 | 9 => show (0 : Int) * (zpw yy 4).2 + -(1 : Int) * (zpw yy 4).1 = _; simp only [mul12, m0, m1, nv, cm, dl, Nat.reduceMul, Nat.reduceAdd, Nat.reduceEqDiff, if_true, if_false]; grind
 | 10 => show (0 : Int) * (zpw yy 5).1 - -(0 : Int) * (zpw yy 5).2 = _; simp only [mul12, m0, nv, cm, dl, Nat.reduceMul, Nat.reduceAdd, Nat.reduceEqDiff, if_true, if_false]; grind
 | 11 => show (0 : Int) * (zpw yy 5).2 + -(0 : Int) * (zpw yy 5).1 = _; simp only [mul12, m1, nv, cm, dl, Nat.reduceMul, Nat.reduceAdd, Nat.reduceEqDiff, if_true, if_false]; grind
 | _ + 12 => rfl
theorem Sn_10 : Sn (dl 10) = mul12 (nv (zpw yy 5)) (dl 10) := funext fun j => by
 match j with
 | 0 => show (0 : Int) * (zpw yy 0).1 - -(0 : Int) * (zpw yy 0).2 = _; simp only [mul12, m0, m1, nv, dl, Nat.reduceMul, Nat.reduceAdd, Nat.reduceEqDiff, if_true, if_false]; grind
 | 1 => show (0 : Int) * (zpw yy 0).2 + -(0 : Int) * (zpw yy 0).1 = _; simp only [mul12, m0, m1, nv, dl, Nat.reduceMul, Nat.reduceAdd, Nat.reduceEqDiff, if_true, if_false]; grind
 | 2 => show (0 : Int) * (zpw yy 1).1 - -(0 : Int) * (zpw yy 1).2 = _; simp only [mul12, m0, m1, nv, dl, Nat.reduceMul, Nat.reduceAdd, Nat.reduceEqDiff, if_true, if_false]; grind
 | 3 => show (0 : Int) * (zpw yy 1).2 + -(0 : Int) * (zpw yy 1).1 = _; simp only [mul12, m0, m1, nv, dl, Nat.reduceMul, Nat.reduceAdd, Nat.reduceEqDiff, if_true, if_false]; grind
 | 4 => show (0 : Int) * (zpw yy 2).1 - -(0 : Int) * (zpw yy 2).2 = _; simp only [mul12, m0, m1, nv, dl, Nat.reduceMul, Nat.reduceAdd, Nat.reduceEqDiff, if_true, if_false]; grind
 | 5 => show (0 : Int) * (zpw yy 2).2 + -(0 : Int) * (zpw yy 2).1 = _; simp only [mul12, m0, m1, nv, dl, Nat.reduceMul, Nat.reduceAdd, Nat.reduceEqDiff, if_true, if_false]; grind
 | 6 => show (0 : Int) * (zpw yy 3).1 - -(0 : Int) * (zpw yy 3).2 = _; simp only [mul12, m0, m1, nv, dl, Nat.reduceMul, Nat.reduceAdd, Nat.reduceEqDiff, if_true, if_false]; grind
 | 7 => show (0 : Int) * (zpw yy 3).2 + -(0 : Int) * (zpw yy 3).1 = _; simp only [mul12, m0, m1, nv, dl, Nat.reduceMul, Nat.reduceAdd, Nat.reduceEqDiff, if_true, if_false]; grind
 | 8 => show (0 : Int) * (zpw yy 4).1 - -(0 : Int) * (zpw yy 4).2 = _; simp only [mul12, m0, m1, nv, dl, Nat.reduceMul, Nat.reduceAdd, Nat.reduceEqDiff, if_true, if_false]; grind
 | 9 => show (0 : Int) * (zpw yy 4).2 + -(0 : Int) * (zpw yy 4).1 = _; simp only [mul12, m0, m1, nv, dl, Nat.reduceMul, Nat.reduceAdd, Nat.reduceEqDiff, if_true, if_false]; grind
 | 10 => show (1 : Int) * (zpw yy 5).1 - -(0 : Int) * (zpw yy 5).2 = _; simp only [mul12, m0, nv, dl, Nat.reduceMul, Nat.reduceAdd, Nat.reduceEqDiff, if_true, if_false]; grind
 | 11 => show (1 : Int) * (zpw yy 5).2 + -(0 : Int) * (zpw yy 5).1 = _; simp only [mul12, m1, nv, dl, Nat.reduceMul, Nat.reduceAdd, Nat.reduceEqDiff, if_true, if_false]; grind
 | _ + 12 => rfl
theorem Sn_11 : Sn (dl 11) = mul12 (nv (cm (0, -1) (zpw yy 5))) (dl 10) := funext fun j => by
 match j with
 | 0 => show (0 : Int) * (zpw yy 0).1 - -(0 : Int) * (zpw yy 0).2 = _; simp only [mul12, m0, m1, nv, cm, dl, Nat.reduceMul, Nat.reduceAdd, Nat.reduceEqDiff, if_true, if_false]; grind
 | 1 => show (0 : Int) * (zpw yy 0).2 + -(0 : Int) * (zpw yy 0).1 = _; simp only [mul12, m0, m1, nv, cm, dl, Nat.reduceMul, Nat.reduceAdd, Nat.reduceEqDiff, if_true, if_false]; grind
 | 2 => show (0 : Int) * (zpw yy 1).1 - -(0 : Int) * (zpw yy 1).2 = _; simp only [mul12, m0, m1, nv, cm, dl, Nat.reduceMul, Nat.reduceAdd, Nat.reduceEqDiff, if_true, if_false]; grind
 | 3 => show (0 : Int) * (zpw yy 1).2 + -(0 : Int) * (zpw yy 1).1 = _; simp only [mul12, m0, m1, nv, cm, dl, Nat.reduceMul, Nat.reduceAdd, Nat.reduceEqDiff, if_true, if_false]; grind
 | 4 => show (0 : Int) * (zpw yy 2).1 - -(0 : Int) * (zpw yy 2).2 = _; simp only [mul12, m0, m1, nv, cm, dl, Nat.reduceMul, Nat.reduceAdd, Nat.reduceEqDiff, if_true, if_false]; grind
 | 5 => show (0 : Int) * (zpw yy 2).2 + -(0 : Int) * (zpw yy 2).1 = _; simp only [mul12, m0, m1, nv, cm, dl, Nat.reduceMul, Nat.reduceAdd, Nat.reduceEqDiff, if_true, if_false]; grind
 | 6 => show (0 : Int) * (zpw yy 3).1 - -(0 : Int) * (zpw yy 3).2 = _; simp only [mul12, m0, m1, nv, cm, dl, Nat.reduceMul, Nat.reduceAdd, Nat.reduceEqDiff, if_true, if_false]; grind
 | 7 => show (0 : Int) * (zpw yy 3).2 + -(0 : Int) * (zpw yy 3).1 = _; simp only [mul12, m0, m1, nv, cm, dl, Nat.reduceMul, Nat.reduceAdd, Nat.reduceEqDiff, if_true, if_false]; grind
 | 8 => show (0 : Int) * (zpw yy 4).1 - -(0 : Int) * (zpw yy 4).2 = _; simp only [mul12, m0, m1, nv, cm, dl, Nat.reduceMul, Nat.reduceAdd, Nat.reduceEqDiff, if_true, if_false]; grind
 | 9 => show (0 : Int) * (zpw yy 4).2 + -(0 : Int) * (zpw yy 4).1 = _; simp only [mul12, m0, m1, nv, cm, dl, Nat.reduceMul, Nat.reduceAdd, Nat.reduceEqDiff, if_true, if_false]; grind
 | 10 => show (0 : Int) * (zpw yy 5).1 - -(1 : Int) * (zpw yy 5).2 = _; simp only [mul12, m0, nv, cm, dl, Nat.reduceMul, Nat.reduceAdd, Nat.reduceEqDiff, if_true, if_false]; grind
 | 11 => show (0 : Int) * (zpw yy 5).2 + -(1 : Int) * (zpw yy 5).1 = _; simp only [mul12, m1, nv, cm, dl, Nat.reduceMul, Nat.reduceAdd, Nat.reduceEqDiff, if_true, if_false]; grind
 | _ + 12 => rfl
theorem units12 : ∀ m, m < 12 → O12 fun j => pw12 (dl m) pB j - Sn (dl m) j := fun m hm => by
 obtain ⟨u0, u1, u2, u3, u4, u5⟩ := un_pw
 have even : ∀ k, O12 fun j => pw12 (pw12 un1 k) pB j - mul12 (nv (zpw yy k)) (pw12 un1 k) j := unit_even
 have odd : ∀ k, O12 fun j => pw12 (mul12 (nv (0, 1)) (pw12 un1 k)) pB j - mul12 (nv (cm (0, -1) (zpw yy k))) (pw12 un1 k) j := fun k => by
  rw [pw_mul, i_pow, ← nvm, assoc12]
  exact mulc (o12r _) (even k)
 match m, hm with
 | 0, _ => rw [Sn_0, dl_0, u0]; exact even 0
 | 1, _ => rw [Sn_1, dl_1, dl_0, u0]; exact odd 0
 | 2, _ => rw [Sn_2, dl_2, u1]; exact even 1
 | 3, _ => rw [Sn_3, dl_3, dl_2, u1]; exact odd 1
 | 4, _ => rw [Sn_4, dl_4, u2]; exact even 2
 | 5, _ => rw [Sn_5, dl_5, dl_4, u2]; exact odd 2
 | 6, _ => rw [Sn_6, dl_6, u3]; exact even 3
 | 7, _ => rw [Sn_7, dl_7, dl_6, u3]; exact odd 3
 | 8, _ => rw [Sn_8, dl_8, u4]; exact even 4
 | 9, _ => rw [Sn_9, dl_9, dl_8, u4]; exact odd 4
 | 10, _ => rw [Sn_10, dl_10, u5]; exact even 5
 | 11, _ => rw [Sn_11, dl_11, dl_10, u5]; exact odd 5
/-- To be raised to the power p is to be turned once. -/
theorem pow_turn (a : Nat → Int) : O12 fun j => pw12 (fst12 a 12) pB j - Tn 1 (fst12 a 12) j := by
 rw [Tn_succ, Tn_zero, Sn_tq]
 exact sums12 a units12 12 (Nat.le_refl _)
end Rg
end Go.Proofs.YtgdlhgbdigpfhabDoor
end
section
namespace Go.Proofs.YtgdlhgbdigpfhabDoor
open Go.RowKit
namespace Rg
set_option maxHeartbeats 4000000 in
set_option maxRecDepth 100000 in
theorem prime_gen (a r : Nat → Nat) (pp : Nat)
  (e_r : ∀ w, (Op.equalIn 10000 28 (V (tl r)) (V (tl r))).run Tryd.prog w = .ok true w)
  (c0 : ∀ w, Mm w [(0, dtab)] → Calls Tryd.prog 5 #[] w (Rt w (.bool true)))
  (c1 : ∀ w, Calls Tryd.prog 7 #[] w (Rt w (N pp)))
  (c2 : ∀ w, Calls Tryd.prog 6 #[V (tl a), N pp] w (Rt w (V (tl r))))
  (c3 : ∀ w, Calls Tryd.prog 8 #[V (tl a), .int .i64 1] w (Rt w (V (tl r)))) (w : World) (hm : Mm w [(0, dtab)]) :
  Calls Tryd.prog 3 #[V (tl a)] w (Rt w (.bool true)) := by
 have H0 : Hid (_ ∧ _) := ⟨hm, Below.refl w.heap.size w⟩
 clear hm
 have C0 : Hid _ := c0
 have C1 : Hid _ := c1
 have C2 : Hid _ := c2
 have C3 : Hid _ := c3
 clear c0 c1 c2 c3
 go_enter Tryd.func3, Tryd.ntmps3
 refine wp_seq ?_
 refine walk_seqA 2 [.made (cel (tl a)) 28, .quiet (.bool false)] (sB H0) ?ho1 ?he1
 case ho1 => exact ak (fun γ => ⟨rfl, fun w' => ex_boxA rfl rfl⟩) (ak (fun _ => ⟨rfl, fun _ _ => rfl⟩) trivial)
 intro γ w1 l hM hl
 have H1 : Hid (Mm w1 [(γ 0, cel (tl a)), (0, dtab)] ∧ _) := growB H0 hM (Nat.le_refl _) hl [0] rfl (by decide)
 have o1_0 := ownB H0 hM (Nat.le_refl _) hl (i := 0) rfl
 clear hM hl l
 generalize γ 0 = γ1_0 at H1 o1_0 ⊢
 clear γ
 refine rest0 rfl (then_normal (wp_seq ?_))
 refine walk_anyB 10 [.call (.bool true), .quiet (.bool true), .quiet (V (tl a)), .call (N pp), .call (V (tl r)), .quiet (V (tl a)), .call (V (tl r)), .quiet (.bool true), .quiet (.bool true), .quiet (.bool true)] H1 ?ho2 ?he2
 case ho2 => exact ak (fun γ => ⟨rfl, fun w' h => ⟨5, #[], exec_call rfl call5 rfl (mpn rfl), C0.out w' (h.one 1 rfl)⟩⟩) (ak (fun _ => ⟨rfl, fun _ _ => rfl⟩) (ak (fun γ => ⟨rfl, fun w' h => ex_loadA (i := 0) (k := 12) h 0 rfl rfl rfl Tryd.isAgg28 Tryd.sizeOf28 rfl rfl⟩) (ak (fun γ => ⟨rfl, fun w' h => ⟨7, #[], exec_call rfl call7 rfl (mpn rfl), C1.out w'⟩⟩) (ak (fun γ => ⟨rfl, fun w' h => ⟨6, #[V (tl a), N pp], exec_call rfl call6 rfl (mpn rfl), C2.out w'⟩⟩) (ak (fun γ => ⟨rfl, fun w' h => ex_loadA (i := 0) (k := 12) h 0 rfl rfl rfl Tryd.isAgg28 Tryd.sizeOf28 rfl rfl⟩) (ak (fun γ => ⟨rfl, fun w' h => ⟨8, #[V (tl a), .int .i64 1], exec_call rfl call8 rfl (mpn rfl), C3.out w'⟩⟩) (ak (fun γ => ⟨rfl, fun w' _ => exec_eqE12 e_r rfl rfl rfl⟩) (ak (by refine fun γ => ⟨rfl, fun w' h => ?_⟩; clear h; go_simp) (ak (fun _ => ⟨rfl, fun _ _ => rfl⟩) trivial)))))))))
 intro _ w2 H2
 clear H1
 refine rest0 rfl (then_normal (wp_ret ?_))
 repeat (first | refine then_ret ?_ | refine block_ret ?_)
 refine bodyPost_ret (v := .bool true) (by simp [results, Tryd.results3, go_sem, *]) rfl ?_
 exact ⟨rfl, H2.out.2⟩
theorem mul_fst (x a : Nat → Int) : mul12 x (fst12 a 12) = mul12 x a := funext fun j => by
 match j with
 | 0 => rfl
 | 1 => rfl
 | 2 => rfl
 | 3 => rfl
 | 4 => rfl
 | 5 => rfl
 | 6 => rfl
 | 7 => rfl
 | 8 => rfl
 | 9 => rfl
 | 10 => rfl
 | 11 => rfl
 | _ + 12 => rfl
theorem pw_fst (a : Nat → Int) : ∀ n, pw12 (fst12 a 12) n = pw12 a n
 | 0 => rfl
 | n + 1 => by rw [pw_succ, pw_succ, pw_fst a n, mul_fst]
theorem prime_any (a : Nat → Nat) (ha : ∀ j, j < 12 → a j < big) (w : World) (hm : Mm w [(0, dtab)]) : Calls Tryd.prog 3 #[V (tl a)] w (Rt w (.bool true)) := by
 have c2 := fun w => powT_any a ha pB pB_lt w
 have h := pow_turn (zn a)
 rw [pw_fst, show fst12 (zn a) 12 = tq12 (zn a) from rfl, Tn_tq] at h
 rw [lz_dv fun j _ => h j] at c2
 have c3 := fun w => frob_any a ha 1 w
 rw [show em 1 = 1 from rfl] at c3
 exact prime_gen a (fun j => pz (Tn 1 (zn a) j)) pB (eq_reflE12 (Tn 1 (zn a))) awake_any base_pB c2 c3 w hm
end Rg
end Go.Proofs.YtgdlhgbdigpfhabDoor
end
