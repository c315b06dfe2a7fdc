/- Texts of the proof, joined. -/
import Derived.Test.YtdbejmgomajjmaaGreatDoorP8
section
namespace Go.Proofs.YtdbejmgomajjmaaGreatDoor
open Go.RowKit
namespace Rg
/-! To be turned, once and again. -/
def cjp (z : Z2) : Z2 := (z.1, -z.2)
theorem cm_four (a b c d : Z2) : cm (cm a b) (cm c d) = cm (cm a c) (cm b d) := by
  unfold cm
  exact Prod.ext (by dsimp only; grind) (by dsimp only; grind)
theorem cm_asc (a b c : Z2) : cm (cm a b) c = cm a (cm b c) := by
  unfold cm
  exact Prod.ext (by dsimp only; grind) (by dsimp only; grind)
theorem cm_one (a : Z2) : cm a (1, 0) = a := by
  unfold cm
  exact Prod.ext (by dsimp only; grind) (by dsimp only; grind)
theorem cjp_cm (a b : Z2) : cjp (cm a b) = cm (cjp a) (cjp b) := by
  unfold cjp cm
  exact Prod.ext (by dsimp only; grind) (by dsimp only; grind)
theorem zpw_mul (f g : Z2) : ∀ k, zpw (cm f g) k = cm (zpw f k) (zpw g k)
  | 0 => rfl
  | k + 1 => by
    show cm (zpw (cm f g) k) (cm f g) = cm (cm (zpw f k) f) (cm (zpw g k) g)
    rw [zpw_mul f g k, cm_four]
theorem zpw_add (f : Z2) (i : Nat) : ∀ j, zpw f (i + j) = cm (zpw f i) (zpw f j)
  | 0 => (cm_one _).symm
  | j + 1 => by
    show cm (zpw f (i + j)) f = cm (zpw f i) (cm (zpw f j) f)
    rw [zpw_add f i j, cm_asc]
theorem zpw_cj (f : Z2) : ∀ k, zpw (cjp f) k = cjp (zpw f k)
  | 0 => rfl
  | k + 1 => by
    show cm (zpw (cjp f) k) (cjp f) = cjp (cm (zpw f k) f)
    rw [zpw_cj f k, cjp_cm]
theorem zpw_1 : ∀ k, zpw (1, 0) k = (1, 0)
  | 0 => rfl
  | k + 1 => by
    show cm (zpw (1, 0) k) (1, 0) = (1, 0)
    rw [zpw_1 k]
    rfl
def cjz (a : Nat → Int) : Nat → Int := fun j => if j % 2 = 0 then a j else -a j
theorem cjz_cjz (a : Nat → Int) : cjz (cjz a) = a := funext fun j => by
  unfold cjz
  split <;> omega
def cjn : Nat → (Nat → Int) → Nat → Int
  | 0, a => a
  | n + 1, a => cjz (cjn n a)
def Tn (n : Nat) (a : Nat → Int) : Nat → Int := tw (fc n) (cjn n a)
def yy : Z2 := ((y1 : Int), (y2 : Int))
def Sn (a : Nat → Int) : Nat → Int := tw yy (cjz a)
theorem tw_cj (f : Z2) (a : Nat → Int) : cjz (tw f a) = tw (cjp f) (cjz a) := funext fun j => by
  match j with
  | 0 =>
    show a 0 * (zpw f 0).1 - a 1 * (zpw f 0).2 = a 0 * (zpw (cjp f) 0).1 - -a 1 * (zpw (cjp f) 0).2
    rw [zpw_cj]; unfold cjp; grind
  | 1 =>
    show -(a 0 * (zpw f 0).2 + a 1 * (zpw f 0).1) = a 0 * (zpw (cjp f) 0).2 + -a 1 * (zpw (cjp f) 0).1
    rw [zpw_cj]; unfold cjp; grind
  | 2 =>
    show a 2 * (zpw f 1).1 - a 3 * (zpw f 1).2 = a 2 * (zpw (cjp f) 1).1 - -a 3 * (zpw (cjp f) 1).2
    rw [zpw_cj]; unfold cjp; grind
  | 3 =>
    show -(a 2 * (zpw f 1).2 + a 3 * (zpw f 1).1) = a 2 * (zpw (cjp f) 1).2 + -a 3 * (zpw (cjp f) 1).1
    rw [zpw_cj]; unfold cjp; grind
  | 4 =>
    show a 4 * (zpw f 2).1 - a 5 * (zpw f 2).2 = a 4 * (zpw (cjp f) 2).1 - -a 5 * (zpw (cjp f) 2).2
    rw [zpw_cj]; unfold cjp; grind
  | 5 =>
    show -(a 4 * (zpw f 2).2 + a 5 * (zpw f 2).1) = a 4 * (zpw (cjp f) 2).2 + -a 5 * (zpw (cjp f) 2).1
    rw [zpw_cj]; unfold cjp; grind
  | 6 =>
    show a 6 * (zpw f 3).1 - a 7 * (zpw f 3).2 = a 6 * (zpw (cjp f) 3).1 - -a 7 * (zpw (cjp f) 3).2
    rw [zpw_cj]; unfold cjp; grind
  | 7 =>
    show -(a 6 * (zpw f 3).2 + a 7 * (zpw f 3).1) = a 6 * (zpw (cjp f) 3).2 + -a 7 * (zpw (cjp f) 3).1
    rw [zpw_cj]; unfold cjp; grind
  | 8 =>
    show a 8 * (zpw f 4).1 - a 9 * (zpw f 4).2 = a 8 * (zpw (cjp f) 4).1 - -a 9 * (zpw (cjp f) 4).2
    rw [zpw_cj]; unfold cjp; grind
  | 9 =>
    show -(a 8 * (zpw f 4).2 + a 9 * (zpw f 4).1) = a 8 * (zpw (cjp f) 4).2 + -a 9 * (zpw (cjp f) 4).1
    rw [zpw_cj]; unfold cjp; grind
  | 10 =>
    show a 10 * (zpw f 5).1 - a 11 * (zpw f 5).2 = a 10 * (zpw (cjp f) 5).1 - -a 11 * (zpw (cjp f) 5).2
    rw [zpw_cj]; unfold cjp; grind
  | 11 =>
    show -(a 10 * (zpw f 5).2 + a 11 * (zpw f 5).1) = a 10 * (zpw (cjp f) 5).2 + -a 11 * (zpw (cjp f) 5).1
    rw [zpw_cj]; unfold cjp; grind
  | j + 12 =>
    unfold cjz
    split
    · rfl
    · rfl
theorem tw_tw (f g : Z2) (a : Nat → Int) : tw g (tw f a) = tw (cm f g) a := funext fun j => by
  match j with
  | 0 =>
    show (a 0 * (zpw f 0).1 - a 1 * (zpw f 0).2) * (zpw g 0).1 - (a 0 * (zpw f 0).2 + a 1 * (zpw f 0).1) * (zpw g 0).2 = a 0 * (zpw (cm f g) 0).1 - a 1 * (zpw (cm f g) 0).2
    rw [zpw_mul]; unfold cm; grind
  | 1 =>
    show (a 0 * (zpw f 0).1 - a 1 * (zpw f 0).2) * (zpw g 0).2 + (a 0 * (zpw f 0).2 + a 1 * (zpw f 0).1) * (zpw g 0).1 = a 0 * (zpw (cm f g) 0).2 + a 1 * (zpw (cm f g) 0).1
    rw [zpw_mul]; unfold cm; grind
  | 2 =>
    show (a 2 * (zpw f 1).1 - a 3 * (zpw f 1).2) * (zpw g 1).1 - (a 2 * (zpw f 1).2 + a 3 * (zpw f 1).1) * (zpw g 1).2 = a 2 * (zpw (cm f g) 1).1 - a 3 * (zpw (cm f g) 1).2
    rw [zpw_mul]; unfold cm; grind
  | 3 =>
    show (a 2 * (zpw f 1).1 - a 3 * (zpw f 1).2) * (zpw g 1).2 + (a 2 * (zpw f 1).2 + a 3 * (zpw f 1).1) * (zpw g 1).1 = a 2 * (zpw (cm f g) 1).2 + a 3 * (zpw (cm f g) 1).1
    rw [zpw_mul]; unfold cm; grind
  | 4 =>
    show (a 4 * (zpw f 2).1 - a 5 * (zpw f 2).2) * (zpw g 2).1 - (a 4 * (zpw f 2).2 + a 5 * (zpw f 2).1) * (zpw g 2).2 = a 4 * (zpw (cm f g) 2).1 - a 5 * (zpw (cm f g) 2).2
    rw [zpw_mul]; unfold cm; grind
  | 5 =>
    show (a 4 * (zpw f 2).1 - a 5 * (zpw f 2).2) * (zpw g 2).2 + (a 4 * (zpw f 2).2 + a 5 * (zpw f 2).1) * (zpw g 2).1 = a 4 * (zpw (cm f g) 2).2 + a 5 * (zpw (cm f g) 2).1
    rw [zpw_mul]; unfold cm; grind
  | 6 =>
    show (a 6 * (zpw f 3).1 - a 7 * (zpw f 3).2) * (zpw g 3).1 - (a 6 * (zpw f 3).2 + a 7 * (zpw f 3).1) * (zpw g 3).2 = a 6 * (zpw (cm f g) 3).1 - a 7 * (zpw (cm f g) 3).2
    rw [zpw_mul]; unfold cm; grind
  | 7 =>
    show (a 6 * (zpw f 3).1 - a 7 * (zpw f 3).2) * (zpw g 3).2 + (a 6 * (zpw f 3).2 + a 7 * (zpw f 3).1) * (zpw g 3).1 = a 6 * (zpw (cm f g) 3).2 + a 7 * (zpw (cm f g) 3).1
    rw [zpw_mul]; unfold cm; grind
  | 8 =>
    show (a 8 * (zpw f 4).1 - a 9 * (zpw f 4).2) * (zpw g 4).1 - (a 8 * (zpw f 4).2 + a 9 * (zpw f 4).1) * (zpw g 4).2 = a 8 * (zpw (cm f g) 4).1 - a 9 * (zpw (cm f g) 4).2
    rw [zpw_mul]; unfold cm; grind
  | 9 =>
    show (a 8 * (zpw f 4).1 - a 9 * (zpw f 4).2) * (zpw g 4).2 + (a 8 * (zpw f 4).2 + a 9 * (zpw f 4).1) * (zpw g 4).1 = a 8 * (zpw (cm f g) 4).2 + a 9 * (zpw (cm f g) 4).1
    rw [zpw_mul]; unfold cm; grind
  | 10 =>
    show (a 10 * (zpw f 5).1 - a 11 * (zpw f 5).2) * (zpw g 5).1 - (a 10 * (zpw f 5).2 + a 11 * (zpw f 5).1) * (zpw g 5).2 = a 10 * (zpw (cm f g) 5).1 - a 11 * (zpw (cm f g) 5).2
    rw [zpw_mul]; unfold cm; grind
  | 11 =>
    show (a 10 * (zpw f 5).1 - a 11 * (zpw f 5).2) * (zpw g 5).2 + (a 10 * (zpw f 5).2 + a 11 * (zpw f 5).1) * (zpw g 5).1 = a 10 * (zpw (cm f g) 5).2 + a 11 * (zpw (cm f g) 5).1
    rw [zpw_mul]; unfold cm; grind
  | _ + 12 => rfl
theorem Tn_succ (n : Nat) (a : Nat → Int) : Tn (n + 1) a = Sn (Tn n a) := by
  unfold Sn Tn
  rw [tw_cj, tw_tw]
  rfl
def tq12 (a : Nat → Int) (j : Nat) : Int := if j < 12 then a j else 0
theorem Tn_zero (a : Nat → Int) : Tn 0 a = tq12 a := funext fun j => by
  match j with
  | 0 =>
    show a 0 * (zpw (1, 0) 0).1 - a 1 * (zpw (1, 0) 0).2 = a 0
    rw [zpw_1]; omega
  | 1 =>
    show a 0 * (zpw (1, 0) 0).2 + a 1 * (zpw (1, 0) 0).1 = a 1
    rw [zpw_1]; omega
  | 2 =>
    show a 2 * (zpw (1, 0) 1).1 - a 3 * (zpw (1, 0) 1).2 = a 2
    rw [zpw_1]; omega
  | 3 =>
    show a 2 * (zpw (1, 0) 1).2 + a 3 * (zpw (1, 0) 1).1 = a 3
    rw [zpw_1]; omega
  | 4 =>
    show a 4 * (zpw (1, 0) 2).1 - a 5 * (zpw (1, 0) 2).2 = a 4
    rw [zpw_1]; omega
  | 5 =>
    show a 4 * (zpw (1, 0) 2).2 + a 5 * (zpw (1, 0) 2).1 = a 5
    rw [zpw_1]; omega
  | 6 =>
    show a 6 * (zpw (1, 0) 3).1 - a 7 * (zpw (1, 0) 3).2 = a 6
    rw [zpw_1]; omega
  | 7 =>
    show a 6 * (zpw (1, 0) 3).2 + a 7 * (zpw (1, 0) 3).1 = a 7
    rw [zpw_1]; omega
  | 8 =>
    show a 8 * (zpw (1, 0) 4).1 - a 9 * (zpw (1, 0) 4).2 = a 8
    rw [zpw_1]; omega
  | 9 =>
    show a 8 * (zpw (1, 0) 4).2 + a 9 * (zpw (1, 0) 4).1 = a 9
    rw [zpw_1]; omega
  | 10 =>
    show a 10 * (zpw (1, 0) 5).1 - a 11 * (zpw (1, 0) 5).2 = a 10
    rw [zpw_1]; omega
  | 11 =>
    show a 10 * (zpw (1, 0) 5).2 + a 11 * (zpw (1, 0) 5).1 = a 11
    rw [zpw_1]; omega
  | _ + 12 => rfl
theorem tq_mul (a b : Nat → Int) : mul12 (tq12 a) (tq12 b) = mul12 a b := funext fun j => by
  match j with
  | 0 => rfl
  | 1 => rfl
  | 2 => rfl
  | 3 => rfl
  | 4 => rfl
  | 5 => rfl
  | 6 => rfl
  | 7 => rfl
  | 8 => rfl
  | 9 => rfl
  | 10 => rfl
  | 11 => rfl
  | _ + 12 => rfl
theorem tq_self (a b : Nat → Int) : tq12 (mul12 a b) = mul12 a b := funext fun j => by
  match j with
  | 0 => rfl
  | 1 => rfl
  | 2 => rfl
  | 3 => rfl
  | 4 => rfl
  | 5 => rfl
  | 6 => rfl
  | 7 => rfl
  | 8 => rfl
  | 9 => rfl
  | 10 => rfl
  | 11 => rfl
  | _ + 12 => rfl
/-- Sums and congruence. -/
theorem Sn_lin (a b : Nat → Int) (x : Int) : Sn (fun j => a j + x * b j) = fun j => Sn a j + x * Sn b j := funext fun j => by
  match j with
  | 0 =>
    show (a 0 + x * b 0) * (zpw yy 0).1 - -(a 1 + x * b 1) * (zpw yy 0).2 = (a 0 * (zpw yy 0).1 - -a 1 * (zpw yy 0).2) + x * (b 0 * (zpw yy 0).1 - -b 1 * (zpw yy 0).2)
    grind
  | 1 =>
    show (a 0 + x * b 0) * (zpw yy 0).2 + -(a 1 + x * b 1) * (zpw yy 0).1 = (a 0 * (zpw yy 0).2 + -a 1 * (zpw yy 0).1) + x * (b 0 * (zpw yy 0).2 + -b 1 * (zpw yy 0).1)
    grind
  | 2 =>
    show (a 2 + x * b 2) * (zpw yy 1).1 - -(a 3 + x * b 3) * (zpw yy 1).2 = (a 2 * (zpw yy 1).1 - -a 3 * (zpw yy 1).2) + x * (b 2 * (zpw yy 1).1 - -b 3 * (zpw yy 1).2)
    grind
  | 3 =>
    show (a 2 + x * b 2) * (zpw yy 1).2 + -(a 3 + x * b 3) * (zpw yy 1).1 = (a 2 * (zpw yy 1).2 + -a 3 * (zpw yy 1).1) + x * (b 2 * (zpw yy 1).2 + -b 3 * (zpw yy 1).1)
    grind
  | 4 =>
    show (a 4 + x * b 4) * (zpw yy 2).1 - -(a 5 + x * b 5) * (zpw yy 2).2 = (a 4 * (zpw yy 2).1 - -a 5 * (zpw yy 2).2) + x * (b 4 * (zpw yy 2).1 - -b 5 * (zpw yy 2).2)
    grind
  | 5 =>
    show (a 4 + x * b 4) * (zpw yy 2).2 + -(a 5 + x * b 5) * (zpw yy 2).1 = (a 4 * (zpw yy 2).2 + -a 5 * (zpw yy 2).1) + x * (b 4 * (zpw yy 2).2 + -b 5 * (zpw yy 2).1)
    grind
  | 6 =>
    show (a 6 + x * b 6) * (zpw yy 3).1 - -(a 7 + x * b 7) * (zpw yy 3).2 = (a 6 * (zpw yy 3).1 - -a 7 * (zpw yy 3).2) + x * (b 6 * (zpw yy 3).1 - -b 7 * (zpw yy 3).2)
    grind
  | 7 =>
    show (a 6 + x * b 6) * (zpw yy 3).2 + -(a 7 + x * b 7) * (zpw yy 3).1 = (a 6 * (zpw yy 3).2 + -a 7 * (zpw yy 3).1) + x * (b 6 * (zpw yy 3).2 + -b 7 * (zpw yy 3).1)
    grind
  | 8 =>
    show (a 8 + x * b 8) * (zpw yy 4).1 - -(a 9 + x * b 9) * (zpw yy 4).2 = (a 8 * (zpw yy 4).1 - -a 9 * (zpw yy 4).2) + x * (b 8 * (zpw yy 4).1 - -b 9 * (zpw yy 4).2)
    grind
  | 9 =>
    show (a 8 + x * b 8) * (zpw yy 4).2 + -(a 9 + x * b 9) * (zpw yy 4).1 = (a 8 * (zpw yy 4).2 + -a 9 * (zpw yy 4).1) + x * (b 8 * (zpw yy 4).2 + -b 9 * (zpw yy 4).1)
    grind
  | 10 =>
    show (a 10 + x * b 10) * (zpw yy 5).1 - -(a 11 + x * b 11) * (zpw yy 5).2 = (a 10 * (zpw yy 5).1 - -a 11 * (zpw yy 5).2) + x * (b 10 * (zpw yy 5).1 - -b 11 * (zpw yy 5).2)
    grind
  | 11 =>
    show (a 10 + x * b 10) * (zpw yy 5).2 + -(a 11 + x * b 11) * (zpw yy 5).1 = (a 10 * (zpw yy 5).2 + -a 11 * (zpw yy 5).1) + x * (b 10 * (zpw yy 5).2 + -b 11 * (zpw yy 5).1)
    grind
  | _ + 12 =>
    show (0 : Int) = 0 + x * 0
    rw [Int.mul_zero]
    rfl
theorem Sn_cong {a b : Nat → Int} (h : O12 fun j => a j - b j) : O12 fun j => Sn a j - Sn b j := fun j => by
  have e : a = fun j => b j + (pB : Int) * (fun j => (a j - b j) / (pB : Int)) j := funext fun j => by
    have := Int.mul_ediv_cancel' (h j)
    dsimp only at this ⊢
    omega
  dsimp only
  rw [e, Sn_lin]
  exact ⟨Sn (fun j => (a j - b j) / (pB : Int)) j, by dsimp only; omega⟩
theorem Tn_cong {a b : Nat → Int} (h : O12 fun j => a j - b j) : ∀ n, O12 fun j => Tn n a j - Tn n b j
  | 0 => fun j => by
    rw [Tn_zero, Tn_zero]
    unfold tq12
    dsimp only
    split
    · exact h j
    · exact dv_zero.of (by omega)
  | n + 1 => by
    rw [Tn_succ, Tn_succ]
    exact Sn_cong (Tn_cong h n)
theorem Tn_tq (a : Nat → Int) : ∀ n, Tn n (tq12 a) = Tn n a
  | 0 => by
    rw [Tn_zero, Tn_zero]
    funext j
    unfold tq12
    split <;> rfl
  | n + 1 => by rw [Tn_succ, Tn_succ, Tn_tq a n]
/-! To be turned once keeps products: by p, the factor to the power 6 makes 1 + i its conjugate. -/
theorem yy6 : Dv (zpw yy 6).1 ∧ Dv ((zpw yy 6).2 + 1) := by
  rw [← pz_zero_iff, ← pz_zero_iff]; decide +kernel
theorem mS0 (a b : Nat → Int) (i j : Nat) (z : Z2) (hi : i < 6) (hj : j < 6) (hz : cm (zpw yy i) (zpw yy j) = z) : m0 (Sn a) (Sn b) i j = m0 a b i j * z.1 + m1 a b i j * z.2 ∧ m1 (Sn a) (Sn b) i j = m0 a b i j * z.2 - m1 a b i j * z.1 := by
  have hs : ∀ (c : Nat → Int) (k : Nat), k < 6 → Sn c (2 * k) = c (2 * k) * (zpw yy k).1 - -c (2 * k + 1) * (zpw yy k).2 ∧ Sn c (2 * k + 1) = c (2 * k) * (zpw yy k).2 + -c (2 * k + 1) * (zpw yy k).1 := fun c k hk => by
    match k, hk with
    | 0, _ => exact ⟨rfl, rfl⟩
    | 1, _ => exact ⟨rfl, rfl⟩
    | 2, _ => exact ⟨rfl, rfl⟩
    | 3, _ => exact ⟨rfl, rfl⟩
    | 4, _ => exact ⟨rfl, rfl⟩
    | 5, _ => exact ⟨rfl, rfl⟩
  subst hz
  unfold m0 m1
  rw [(hs a i hi).1, (hs a i hi).2, (hs b j hj).1, (hs b j hj).2]
  unfold cm
  constructor
  · grind
  · grind
theorem Sn_mul (a b : Nat → Int) : O12 fun j => Sn (mul12 a b) j - mul12 (Sn a) (Sn b) j := fun j => by
  obtain ⟨k0, k1⟩ := yy6
  match j with
  | 0 =>
    have e00 := mS0 a b 0 0 (zpw yy 0) (by decide) (by decide) (zpw_add yy 0 0).symm
    have e15 := mS0 a b 1 5 (cm (zpw yy 0) (zpw yy 6)) (by decide) (by decide) (by rw [← zpw_add, ← zpw_add])
    have e24 := mS0 a b 2 4 (cm (zpw yy 0) (zpw yy 6)) (by decide) (by decide) (by rw [← zpw_add, ← zpw_add])
    have e33 := mS0 a b 3 3 (cm (zpw yy 0) (zpw yy 6)) (by decide) (by decide) (by rw [← zpw_add, ← zpw_add])
    have e42 := mS0 a b 4 2 (cm (zpw yy 0) (zpw yy 6)) (by decide) (by decide) (by rw [← zpw_add, ← zpw_add])
    have e51 := mS0 a b 5 1 (cm (zpw yy 0) (zpw yy 6)) (by decide) (by decide) (by rw [← zpw_add, ← zpw_add])
    refine (((k0.mul (((m0 a b 1 5 + m0 a b 2 4 + m0 a b 3 3 + m0 a b 4 2 + m0 a b 5 1) * (zpw yy 0).1 + (m1 a b 1 5 + m1 a b 2 4 + m1 a b 3 3 + m1 a b 4 2 + m1 a b 5 1) * (zpw yy 0).2) - ((m0 a b 1 5 + m0 a b 2 4 + m0 a b 3 3 + m0 a b 4 2 + m0 a b 5 1) * (zpw yy 0).2 - (m1 a b 1 5 + m1 a b 2 4 + m1 a b 3 3 + m1 a b 4 2 + m1 a b 5 1) * (zpw yy 0).1))).sub (k1.mul (((m0 a b 1 5 + m0 a b 2 4 + m0 a b 3 3 + m0 a b 4 2 + m0 a b 5 1) * (zpw yy 0).1 + (m1 a b 1 5 + m1 a b 2 4 + m1 a b 3 3 + m1 a b 4 2 + m1 a b 5 1) * (zpw yy 0).2) + ((m0 a b 1 5 + m0 a b 2 4 + m0 a b 3 3 + m0 a b 4 2 + m0 a b 5 1) * (zpw yy 0).2 - (m1 a b 1 5 + m1 a b 2 4 + m1 a b 3 3 + m1 a b 4 2 + m1 a b 5 1) * (zpw yy 0).1)))).mul (-1)).of ?_
    show _ = mul12 a b 0 * (zpw yy 0).1 - -mul12 a b 1 * (zpw yy 0).2 - mul12 (Sn a) (Sn b) 0
    simp only [mul12, e00, e15, e24, e33, e42, e51, cm]
    generalize zpw yy 0 = z
    generalize zpw yy 6 = y
    grind
  | 1 =>
    have e00 := mS0 a b 0 0 (zpw yy 0) (by decide) (by decide) (zpw_add yy 0 0).symm
    have e15 := mS0 a b 1 5 (cm (zpw yy 0) (zpw yy 6)) (by decide) (by decide) (by rw [← zpw_add, ← zpw_add])
    have e24 := mS0 a b 2 4 (cm (zpw yy 0) (zpw yy 6)) (by decide) (by decide) (by rw [← zpw_add, ← zpw_add])
    have e33 := mS0 a b 3 3 (cm (zpw yy 0) (zpw yy 6)) (by decide) (by decide) (by rw [← zpw_add, ← zpw_add])
    have e42 := mS0 a b 4 2 (cm (zpw yy 0) (zpw yy 6)) (by decide) (by decide) (by rw [← zpw_add, ← zpw_add])
    have e51 := mS0 a b 5 1 (cm (zpw yy 0) (zpw yy 6)) (by decide) (by decide) (by rw [← zpw_add, ← zpw_add])
    refine (((k0.mul (((m0 a b 1 5 + m0 a b 2 4 + m0 a b 3 3 + m0 a b 4 2 + m0 a b 5 1) * (zpw yy 0).1 + (m1 a b 1 5 + m1 a b 2 4 + m1 a b 3 3 + m1 a b 4 2 + m1 a b 5 1) * (zpw yy 0).2) + ((m0 a b 1 5 + m0 a b 2 4 + m0 a b 3 3 + m0 a b 4 2 + m0 a b 5 1) * (zpw yy 0).2 - (m1 a b 1 5 + m1 a b 2 4 + m1 a b 3 3 + m1 a b 4 2 + m1 a b 5 1) * (zpw yy 0).1))).add (k1.mul (((m0 a b 1 5 + m0 a b 2 4 + m0 a b 3 3 + m0 a b 4 2 + m0 a b 5 1) * (zpw yy 0).1 + (m1 a b 1 5 + m1 a b 2 4 + m1 a b 3 3 + m1 a b 4 2 + m1 a b 5 1) * (zpw yy 0).2) - ((m0 a b 1 5 + m0 a b 2 4 + m0 a b 3 3 + m0 a b 4 2 + m0 a b 5 1) * (zpw yy 0).2 - (m1 a b 1 5 + m1 a b 2 4 + m1 a b 3 3 + m1 a b 4 2 + m1 a b 5 1) * (zpw yy 0).1)))).mul (-1)).of ?_
    show _ = mul12 a b 0 * (zpw yy 0).2 + -mul12 a b 1 * (zpw yy 0).1 - mul12 (Sn a) (Sn b) 1
    simp only [mul12, e00, e15, e24, e33, e42, e51, cm]
    generalize zpw yy 0 = z
    generalize zpw yy 6 = y
    grind
  | 2 =>
    have e01 := mS0 a b 0 1 (zpw yy 1) (by decide) (by decide) (zpw_add yy 0 1).symm
    have e10 := mS0 a b 1 0 (zpw yy 1) (by decide) (by decide) (zpw_add yy 1 0).symm
    have e25 := mS0 a b 2 5 (cm (zpw yy 1) (zpw yy 6)) (by decide) (by decide) (by rw [← zpw_add, ← zpw_add])
    have e34 := mS0 a b 3 4 (cm (zpw yy 1) (zpw yy 6)) (by decide) (by decide) (by rw [← zpw_add, ← zpw_add])
    have e43 := mS0 a b 4 3 (cm (zpw yy 1) (zpw yy 6)) (by decide) (by decide) (by rw [← zpw_add, ← zpw_add])
    have e52 := mS0 a b 5 2 (cm (zpw yy 1) (zpw yy 6)) (by decide) (by decide) (by rw [← zpw_add, ← zpw_add])
    refine (((k0.mul (((m0 a b 2 5 + m0 a b 3 4 + m0 a b 4 3 + m0 a b 5 2) * (zpw yy 1).1 + (m1 a b 2 5 + m1 a b 3 4 + m1 a b 4 3 + m1 a b 5 2) * (zpw yy 1).2) - ((m0 a b 2 5 + m0 a b 3 4 + m0 a b 4 3 + m0 a b 5 2) * (zpw yy 1).2 - (m1 a b 2 5 + m1 a b 3 4 + m1 a b 4 3 + m1 a b 5 2) * (zpw yy 1).1))).sub (k1.mul (((m0 a b 2 5 + m0 a b 3 4 + m0 a b 4 3 + m0 a b 5 2) * (zpw yy 1).1 + (m1 a b 2 5 + m1 a b 3 4 + m1 a b 4 3 + m1 a b 5 2) * (zpw yy 1).2) + ((m0 a b 2 5 + m0 a b 3 4 + m0 a b 4 3 + m0 a b 5 2) * (zpw yy 1).2 - (m1 a b 2 5 + m1 a b 3 4 + m1 a b 4 3 + m1 a b 5 2) * (zpw yy 1).1)))).mul (-1)).of ?_
    show _ = mul12 a b 2 * (zpw yy 1).1 - -mul12 a b 3 * (zpw yy 1).2 - mul12 (Sn a) (Sn b) 2
    simp only [mul12, e01, e10, e25, e34, e43, e52, cm]
    generalize zpw yy 1 = z
    generalize zpw yy 6 = y
    grind
  | 3 =>
    have e01 := mS0 a b 0 1 (zpw yy 1) (by decide) (by decide) (zpw_add yy 0 1).symm
    have e10 := mS0 a b 1 0 (zpw yy 1) (by decide) (by decide) (zpw_add yy 1 0).symm
    have e25 := mS0 a b 2 5 (cm (zpw yy 1) (zpw yy 6)) (by decide) (by decide) (by rw [← zpw_add, ← zpw_add])
    have e34 := mS0 a b 3 4 (cm (zpw yy 1) (zpw yy 6)) (by decide) (by decide) (by rw [← zpw_add, ← zpw_add])
    have e43 := mS0 a b 4 3 (cm (zpw yy 1) (zpw yy 6)) (by decide) (by decide) (by rw [← zpw_add, ← zpw_add])
    have e52 := mS0 a b 5 2 (cm (zpw yy 1) (zpw yy 6)) (by decide) (by decide) (by rw [← zpw_add, ← zpw_add])
    refine (((k0.mul (((m0 a b 2 5 + m0 a b 3 4 + m0 a b 4 3 + m0 a b 5 2) * (zpw yy 1).1 + (m1 a b 2 5 + m1 a b 3 4 + m1 a b 4 3 + m1 a b 5 2) * (zpw yy 1).2) + ((m0 a b 2 5 + m0 a b 3 4 + m0 a b 4 3 + m0 a b 5 2) * (zpw yy 1).2 - (m1 a b 2 5 + m1 a b 3 4 + m1 a b 4 3 + m1 a b 5 2) * (zpw yy 1).1))).add (k1.mul (((m0 a b 2 5 + m0 a b 3 4 + m0 a b 4 3 + m0 a b 5 2) * (zpw yy 1).1 + (m1 a b 2 5 + m1 a b 3 4 + m1 a b 4 3 + m1 a b 5 2) * (zpw yy 1).2) - ((m0 a b 2 5 + m0 a b 3 4 + m0 a b 4 3 + m0 a b 5 2) * (zpw yy 1).2 - (m1 a b 2 5 + m1 a b 3 4 + m1 a b 4 3 + m1 a b 5 2) * (zpw yy 1).1)))).mul (-1)).of ?_
    show _ = mul12 a b 2 * (zpw yy 1).2 + -mul12 a b 3 * (zpw yy 1).1 - mul12 (Sn a) (Sn b) 3
    simp only [mul12, e01, e10, e25, e34, e43, e52, cm]
    generalize zpw yy 1 = z
    generalize zpw yy 6 = y
    grind
  | 4 =>
    have e02 := mS0 a b 0 2 (zpw yy 2) (by decide) (by decide) (zpw_add yy 0 2).symm
    have e11 := mS0 a b 1 1 (zpw yy 2) (by decide) (by decide) (zpw_add yy 1 1).symm
    have e20 := mS0 a b 2 0 (zpw yy 2) (by decide) (by decide) (zpw_add yy 2 0).symm
    have e35 := mS0 a b 3 5 (cm (zpw yy 2) (zpw yy 6)) (by decide) (by decide) (by rw [← zpw_add, ← zpw_add])
    have e44 := mS0 a b 4 4 (cm (zpw yy 2) (zpw yy 6)) (by decide) (by decide) (by rw [← zpw_add, ← zpw_add])
    have e53 := mS0 a b 5 3 (cm (zpw yy 2) (zpw yy 6)) (by decide) (by decide) (by rw [← zpw_add, ← zpw_add])
    refine (((k0.mul (((m0 a b 3 5 + m0 a b 4 4 + m0 a b 5 3) * (zpw yy 2).1 + (m1 a b 3 5 + m1 a b 4 4 + m1 a b 5 3) * (zpw yy 2).2) - ((m0 a b 3 5 + m0 a b 4 4 + m0 a b 5 3) * (zpw yy 2).2 - (m1 a b 3 5 + m1 a b 4 4 + m1 a b 5 3) * (zpw yy 2).1))).sub (k1.mul (((m0 a b 3 5 + m0 a b 4 4 + m0 a b 5 3) * (zpw yy 2).1 + (m1 a b 3 5 + m1 a b 4 4 + m1 a b 5 3) * (zpw yy 2).2) + ((m0 a b 3 5 + m0 a b 4 4 + m0 a b 5 3) * (zpw yy 2).2 - (m1 a b 3 5 + m1 a b 4 4 + m1 a b 5 3) * (zpw yy 2).1)))).mul (-1)).of ?_
    show _ = mul12 a b 4 * (zpw yy 2).1 - -mul12 a b 5 * (zpw yy 2).2 - mul12 (Sn a) (Sn b) 4
    simp only [mul12, e02, e11, e20, e35, e44, e53, cm]
    generalize zpw yy 2 = z
    generalize zpw yy 6 = y
    grind
  | 5 =>
    have e02 := mS0 a b 0 2 (zpw yy 2) (by decide) (by decide) (zpw_add yy 0 2).symm
    have e11 := mS0 a b 1 1 (zpw yy 2) (by decide) (by decide) (zpw_add yy 1 1).symm
    have e20 := mS0 a b 2 0 (zpw yy 2) (by decide) (by decide) (zpw_add yy 2 0).symm
    have e35 := mS0 a b 3 5 (cm (zpw yy 2) (zpw yy 6)) (by decide) (by decide) (by rw [← zpw_add, ← zpw_add])
    have e44 := mS0 a b 4 4 (cm (zpw yy 2) (zpw yy 6)) (by decide) (by decide) (by rw [← zpw_add, ← zpw_add])
    have e53 := mS0 a b 5 3 (cm (zpw yy 2) (zpw yy 6)) (by decide) (by decide) (by rw [← zpw_add, ← zpw_add])
    refine (((k0.mul (((m0 a b 3 5 + m0 a b 4 4 + m0 a b 5 3) * (zpw yy 2).1 + (m1 a b 3 5 + m1 a b 4 4 + m1 a b 5 3) * (zpw yy 2).2) + ((m0 a b 3 5 + m0 a b 4 4 + m0 a b 5 3) * (zpw yy 2).2 - (m1 a b 3 5 + m1 a b 4 4 + m1 a b 5 3) * (zpw yy 2).1))).add (k1.mul (((m0 a b 3 5 + m0 a b 4 4 + m0 a b 5 3) * (zpw yy 2).1 + (m1 a b 3 5 + m1 a b 4 4 + m1 a b 5 3) * (zpw yy 2).2) - ((m0 a b 3 5 + m0 a b 4 4 + m0 a b 5 3) * (zpw yy 2).2 - (m1 a b 3 5 + m1 a b 4 4 + m1 a b 5 3) * (zpw yy 2).1)))).mul (-1)).of ?_
    show _ = mul12 a b 4 * (zpw yy 2).2 + -mul12 a b 5 * (zpw yy 2).1 - mul12 (Sn a) (Sn b) 5
    simp only [mul12, e02, e11, e20, e35, e44, e53, cm]
    generalize zpw yy 2 = z
    generalize zpw yy 6 = y
    grind
  | 6 =>
    have e03 := mS0 a b 0 3 (zpw yy 3) (by decide) (by decide) (zpw_add yy 0 3).symm
    have e12 := mS0 a b 1 2 (zpw yy 3) (by decide) (by decide) (zpw_add yy 1 2).symm
    have e21 := mS0 a b 2 1 (zpw yy 3) (by decide) (by decide) (zpw_add yy 2 1).symm
    have e30 := mS0 a b 3 0 (zpw yy 3) (by decide) (by decide) (zpw_add yy 3 0).symm
    have e45 := mS0 a b 4 5 (cm (zpw yy 3) (zpw yy 6)) (by decide) (by decide) (by rw [← zpw_add, ← zpw_add])
    have e54 := mS0 a b 5 4 (cm (zpw yy 3) (zpw yy 6)) (by decide) (by decide) (by rw [← zpw_add, ← zpw_add])
    refine (((k0.mul (((m0 a b 4 5 + m0 a b 5 4) * (zpw yy 3).1 + (m1 a b 4 5 + m1 a b 5 4) * (zpw yy 3).2) - ((m0 a b 4 5 + m0 a b 5 4) * (zpw yy 3).2 - (m1 a b 4 5 + m1 a b 5 4) * (zpw yy 3).1))).sub (k1.mul (((m0 a b 4 5 + m0 a b 5 4) * (zpw yy 3).1 + (m1 a b 4 5 + m1 a b 5 4) * (zpw yy 3).2) + ((m0 a b 4 5 + m0 a b 5 4) * (zpw yy 3).2 - (m1 a b 4 5 + m1 a b 5 4) * (zpw yy 3).1)))).mul (-1)).of ?_
    show _ = mul12 a b 6 * (zpw yy 3).1 - -mul12 a b 7 * (zpw yy 3).2 - mul12 (Sn a) (Sn b) 6
    simp only [mul12, e03, e12, e21, e30, e45, e54, cm]
    generalize zpw yy 3 = z
    generalize zpw yy 6 = y
    grind
  | 7 =>
    have e03 := mS0 a b 0 3 (zpw yy 3) (by decide) (by decide) (zpw_add yy 0 3).symm
    have e12 := mS0 a b 1 2 (zpw yy 3) (by decide) (by decide) (zpw_add yy 1 2).symm
    have e21 := mS0 a b 2 1 (zpw yy 3) (by decide) (by decide) (zpw_add yy 2 1).symm
    have e30 := mS0 a b 3 0 (zpw yy 3) (by decide) (by decide) (zpw_add yy 3 0).symm
    have e45 := mS0 a b 4 5 (cm (zpw yy 3) (zpw yy 6)) (by decide) (by decide) (by rw [← zpw_add, ← zpw_add])
    have e54 := mS0 a b 5 4 (cm (zpw yy 3) (zpw yy 6)) (by decide) (by decide) (by rw [← zpw_add, ← zpw_add])
    refine (((k0.mul (((m0 a b 4 5 + m0 a b 5 4) * (zpw yy 3).1 + (m1 a b 4 5 + m1 a b 5 4) * (zpw yy 3).2) + ((m0 a b 4 5 + m0 a b 5 4) * (zpw yy 3).2 - (m1 a b 4 5 + m1 a b 5 4) * (zpw yy 3).1))).add (k1.mul (((m0 a b 4 5 + m0 a b 5 4) * (zpw yy 3).1 + (m1 a b 4 5 + m1 a b 5 4) * (zpw yy 3).2) - ((m0 a b 4 5 + m0 a b 5 4) * (zpw yy 3).2 - (m1 a b 4 5 + m1 a b 5 4) * (zpw yy 3).1)))).mul (-1)).of ?_
    show _ = mul12 a b 6 * (zpw yy 3).2 + -mul12 a b 7 * (zpw yy 3).1 - mul12 (Sn a) (Sn b) 7
    simp only [mul12, e03, e12, e21, e30, e45, e54, cm]
    generalize zpw yy 3 = z
    generalize zpw yy 6 = y
    grind
  | 8 =>
    have e04 := mS0 a b 0 4 (zpw yy 4) (by decide) (by decide) (zpw_add yy 0 4).symm
    have e13 := mS0 a b 1 3 (zpw yy 4) (by decide) (by decide) (zpw_add yy 1 3).symm
    have e22 := mS0 a b 2 2 (zpw yy 4) (by decide) (by decide) (zpw_add yy 2 2).symm
    have e31 := mS0 a b 3 1 (zpw yy 4) (by decide) (by decide) (zpw_add yy 3 1).symm
    have e40 := mS0 a b 4 0 (zpw yy 4) (by decide) (by decide) (zpw_add yy 4 0).symm
    have e55 := mS0 a b 5 5 (cm (zpw yy 4) (zpw yy 6)) (by decide) (by decide) (by rw [← zpw_add, ← zpw_add])
    refine (((k0.mul (((m0 a b 5 5) * (zpw yy 4).1 + (m1 a b 5 5) * (zpw yy 4).2) - ((m0 a b 5 5) * (zpw yy 4).2 - (m1 a b 5 5) * (zpw yy 4).1))).sub (k1.mul (((m0 a b 5 5) * (zpw yy 4).1 + (m1 a b 5 5) * (zpw yy 4).2) + ((m0 a b 5 5) * (zpw yy 4).2 - (m1 a b 5 5) * (zpw yy 4).1)))).mul (-1)).of ?_
    show _ = mul12 a b 8 * (zpw yy 4).1 - -mul12 a b 9 * (zpw yy 4).2 - mul12 (Sn a) (Sn b) 8
    simp only [mul12, e04, e13, e22, e31, e40, e55, cm]
    generalize zpw yy 4 = z
    generalize zpw yy 6 = y
    grind
  | 9 =>
    have e04 := mS0 a b 0 4 (zpw yy 4) (by decide) (by decide) (zpw_add yy 0 4).symm
    have e13 := mS0 a b 1 3 (zpw yy 4) (by decide) (by decide) (zpw_add yy 1 3).symm
    have e22 := mS0 a b 2 2 (zpw yy 4) (by decide) (by decide) (zpw_add yy 2 2).symm
    have e31 := mS0 a b 3 1 (zpw yy 4) (by decide) (by decide) (zpw_add yy 3 1).symm
    have e40 := mS0 a b 4 0 (zpw yy 4) (by decide) (by decide) (zpw_add yy 4 0).symm
    have e55 := mS0 a b 5 5 (cm (zpw yy 4) (zpw yy 6)) (by decide) (by decide) (by rw [← zpw_add, ← zpw_add])
    refine (((k0.mul (((m0 a b 5 5) * (zpw yy 4).1 + (m1 a b 5 5) * (zpw yy 4).2) + ((m0 a b 5 5) * (zpw yy 4).2 - (m1 a b 5 5) * (zpw yy 4).1))).add (k1.mul (((m0 a b 5 5) * (zpw yy 4).1 + (m1 a b 5 5) * (zpw yy 4).2) - ((m0 a b 5 5) * (zpw yy 4).2 - (m1 a b 5 5) * (zpw yy 4).1)))).mul (-1)).of ?_
    show _ = mul12 a b 8 * (zpw yy 4).2 + -mul12 a b 9 * (zpw yy 4).1 - mul12 (Sn a) (Sn b) 9
    simp only [mul12, e04, e13, e22, e31, e40, e55, cm]
    generalize zpw yy 4 = z
    generalize zpw yy 6 = y
    grind
  | 10 =>
    have e05 := mS0 a b 0 5 (zpw yy 5) (by decide) (by decide) (zpw_add yy 0 5).symm
    have e14 := mS0 a b 1 4 (zpw yy 5) (by decide) (by decide) (zpw_add yy 1 4).symm
    have e23 := mS0 a b 2 3 (zpw yy 5) (by decide) (by decide) (zpw_add yy 2 3).symm
    have e32 := mS0 a b 3 2 (zpw yy 5) (by decide) (by decide) (zpw_add yy 3 2).symm
    have e41 := mS0 a b 4 1 (zpw yy 5) (by decide) (by decide) (zpw_add yy 4 1).symm
    have e50 := mS0 a b 5 0 (zpw yy 5) (by decide) (by decide) (zpw_add yy 5 0).symm
    refine dv_zero.of ?_
    show _ = mul12 a b 10 * (zpw yy 5).1 - -mul12 a b 11 * (zpw yy 5).2 - mul12 (Sn a) (Sn b) 10
    simp only [mul12, e05, e14, e23, e32, e41, e50]
    generalize zpw yy 5 = z
    grind
  | 11 =>
    have e05 := mS0 a b 0 5 (zpw yy 5) (by decide) (by decide) (zpw_add yy 0 5).symm
    have e14 := mS0 a b 1 4 (zpw yy 5) (by decide) (by decide) (zpw_add yy 1 4).symm
    have e23 := mS0 a b 2 3 (zpw yy 5) (by decide) (by decide) (zpw_add yy 2 3).symm
    have e32 := mS0 a b 3 2 (zpw yy 5) (by decide) (by decide) (zpw_add yy 3 2).symm
    have e41 := mS0 a b 4 1 (zpw yy 5) (by decide) (by decide) (zpw_add yy 4 1).symm
    have e50 := mS0 a b 5 0 (zpw yy 5) (by decide) (by decide) (zpw_add yy 5 0).symm
    refine dv_zero.of ?_
    show _ = mul12 a b 10 * (zpw yy 5).2 + -mul12 a b 11 * (zpw yy 5).1 - mul12 (Sn a) (Sn b) 11
    simp only [mul12, e05, e14, e23, e32, e41, e50]
    generalize zpw yy 5 = z
    grind
  | _ + 12 => exact dv_zero.of (by show 0 = (0 : Int) - 0; rfl)
theorem o12r (a : Nat → Int) : O12 fun j => a j - a j := fun _ => dv_zero.of (by dsimp only; omega)
theorem o12t {a b c : Nat → Int} (h : O12 fun j => a j - b j) (k : O12 fun j => b j - c j) : O12 fun j => a j - c j := fun j => ((h j).add (k j)).of (by dsimp only; omega)
theorem Tn_mul (a b : Nat → Int) : ∀ n, O12 fun j => Tn n (mul12 a b) j - mul12 (Tn n a) (Tn n b) j
  | 0 => by
    rw [Tn_zero, Tn_zero, Tn_zero, tq_mul, tq_self]
    exact o12r _
  | n + 1 => by
    rw [Tn_succ, Tn_succ, Tn_succ]
    exact o12t (Sn_cong (Tn_mul a b n)) (Sn_mul _ _)
theorem fc6 : Dv ((zpw (fc 6) 0).1 - 1) ∧ Dv (zpw (fc 6) 0).2 ∧ Dv ((zpw (fc 6) 1).1 + 1) ∧ Dv (zpw (fc 6) 1).2 ∧ Dv ((zpw (fc 6) 2).1 - 1) ∧ Dv (zpw (fc 6) 2).2 ∧ Dv ((zpw (fc 6) 3).1 + 1) ∧ Dv (zpw (fc 6) 3).2 ∧ Dv ((zpw (fc 6) 4).1 - 1) ∧ Dv (zpw (fc 6) 4).2 ∧ Dv ((zpw (fc 6) 5).1 + 1) ∧ Dv (zpw (fc 6) 5).2 := by
  simp only [← pz_zero_iff]
  decide +kernel
theorem cjn_two (a : Nat → Int) : ∀ n, cjn (2 * n) a = a
  | 0 => rfl
  | n + 1 => by
    show cjz (cjz (cjn (2 * n) a)) = a
    rw [cjz_cjz, cjn_two a n]
theorem T6 (a : Nat → Int) : O12 fun j => Tn 6 a j - cj12 a j := fun j => by
  unfold Tn
  rw [show (6 : Nat) = 2 * 3 from rfl, cjn_two]
  obtain ⟨u0, v0, u1, v1, u2, v2, u3, v3, u4, v4, u5, v5⟩ := fc6
  match j with
  | 0 => exact ((u0.mul (a 0)).sub (v0.mul (a 1))).of (by show _ = a 0 * (zpw (fc 6) 0).1 - a 1 * (zpw (fc 6) 0).2 - a 0; rw [Int.mul_sub]; omega)
  | 1 => exact ((v0.mul (a 0)).add (u0.mul (a 1))).of (by show _ = a 0 * (zpw (fc 6) 0).2 + a 1 * (zpw (fc 6) 0).1 - a 1; rw [Int.mul_sub]; omega)
  | 2 => exact ((u1.mul (a 2)).sub (v1.mul (a 3))).of (by show _ = a 2 * (zpw (fc 6) 1).1 - a 3 * (zpw (fc 6) 1).2 - -a 2; rw [Int.mul_add]; omega)
  | 3 => exact ((v1.mul (a 2)).add (u1.mul (a 3))).of (by show _ = a 2 * (zpw (fc 6) 1).2 + a 3 * (zpw (fc 6) 1).1 - -a 3; rw [Int.mul_add]; omega)
  | 4 => exact ((u2.mul (a 4)).sub (v2.mul (a 5))).of (by show _ = a 4 * (zpw (fc 6) 2).1 - a 5 * (zpw (fc 6) 2).2 - a 4; rw [Int.mul_sub]; omega)
  | 5 => exact ((v2.mul (a 4)).add (u2.mul (a 5))).of (by show _ = a 4 * (zpw (fc 6) 2).2 + a 5 * (zpw (fc 6) 2).1 - a 5; rw [Int.mul_sub]; omega)
  | 6 => exact ((u3.mul (a 6)).sub (v3.mul (a 7))).of (by show _ = a 6 * (zpw (fc 6) 3).1 - a 7 * (zpw (fc 6) 3).2 - -a 6; rw [Int.mul_add]; omega)
  | 7 => exact ((v3.mul (a 6)).add (u3.mul (a 7))).of (by show _ = a 6 * (zpw (fc 6) 3).2 + a 7 * (zpw (fc 6) 3).1 - -a 7; rw [Int.mul_add]; omega)
  | 8 => exact ((u4.mul (a 8)).sub (v4.mul (a 9))).of (by show _ = a 8 * (zpw (fc 6) 4).1 - a 9 * (zpw (fc 6) 4).2 - a 8; rw [Int.mul_sub]; omega)
  | 9 => exact ((v4.mul (a 8)).add (u4.mul (a 9))).of (by show _ = a 8 * (zpw (fc 6) 4).2 + a 9 * (zpw (fc 6) 4).1 - a 9; rw [Int.mul_sub]; omega)
  | 10 => exact ((u5.mul (a 10)).sub (v5.mul (a 11))).of (by show _ = a 10 * (zpw (fc 6) 5).1 - a 11 * (zpw (fc 6) 5).2 - -a 10; rw [Int.mul_add]; omega)
  | 11 => exact ((v5.mul (a 10)).add (u5.mul (a 11))).of (by show _ = a 10 * (zpw (fc 6) 5).2 + a 11 * (zpw (fc 6) 5).1 - -a 11; rw [Int.mul_add]; omega)
  | _ + 12 => exact dv_zero.of (by show 0 = (0 : Int) - 0; rfl)
theorem turnO_any {g : Nat} (n : Nat) (hn : n < 12) (he : n % 2 = 1) (a : Nat → Int) (w : World) (hm : Mm w [(g, modc pB)]) : Calls Tryz.prog 89 #[.agg #[PT g 0], V (lz a), .int .i64 ((n : Nat) : Int)] w fun e w' => e = .returned (V (lz (tw (fc n) (cjz a)))) ∧ Below w.heap.size w w' := by
  refine turn_odd (fun j => pz (a j)) (fun j => pz (cjz a j)) (pw2 (fc n)) (fun j => pz (tw (fc n) (cjz a) j)) g pB (big % pB) (big * big % pB) n _ _ (tmod_odd n he) ⟨?_, ?_⟩ ?_ (fun w hm => factor_any n hn w hm) (fun k hk w hm => ?_) (fun k _ w hm => ?_) (fun k hk w => ?_) w hm
  · show pz (cjz a 0 * 1 - cjz a 1 * 0) = pz (cjz a 0)
    rw [Int.mul_one, Int.mul_zero, Int.sub_zero]
  · show pz (cjz a 0 * 0 + cjz a 1 * 1) = pz (cjz a 1)
    rw [Int.mul_one, Int.mul_zero, Int.zero_add]
  · rw [pw2_e, pw2_o]
    show [pz (fc n).1, pz (fc n).2] = [pz (1 * (fc n).1 - 0 * (fc n).2), pz (1 * (fc n).2 + 0 * (fc n).1)]
    rw [Int.one_mul, Int.zero_mul, Int.sub_zero, Int.one_mul, Int.zero_mul, Int.add_zero]
  · rw [pw2_e, pw2_o]
    have h := mulF_any (g := g) (cjz a (2 * k)) (cjz a (2 * k + 1)) (zpw (fc n) k).1 (zpw (fc n) k).2 w hm
    match k, hk with
    | 0, _ => exact h
    | 1, _ => exact h
    | 2, _ => exact h
    | 3, _ => exact h
    | 4, _ => exact h
    | 5, _ => exact h
  · rw [pw2_e, pw2_o, pw2_e, pw2_o]
    exact mulF_any (g := g) (zpw (fc n) k).1 (zpw (fc n) k).2 (fc n).1 (fc n).2 w hm
  · have h := conj2_any (pz (a (2 * k))) (pz (a (2 * k + 1))) (pz_big _) (pz_big _) w
    rw [pz_self, pz_neg] at h
    match k, hk with
    | 0, _ => exact h
    | 1, _ => exact h
    | 2, _ => exact h
    | 3, _ => exact h
    | 4, _ => exact h
    | 5, _ => exact h
theorem cjn_odd (a : Nat → Int) (n : Nat) : cjn (2 * n + 1) a = cjz a := by
  show cjz (cjn (2 * n) a) = cjz a
  rw [cjn_two]
theorem turnN_any {g : Nat} (n : Nat) (hn : n < 12) (a : Nat → Int) (w : World) (hm : Mm w [(g, modc pB)]) : Calls Tryz.prog 89 #[.agg #[PT g 0], V (lz a), .int .i64 ((n : Nat) : Int)] w fun e w' => e = .returned (V (lz (Tn n a))) ∧ Below w.heap.size w w' := by
  unfold Tn
  rcases Nat.mod_two_eq_zero_or_one n with h | h
  · have e : cjn n a = a := by rw [show n = 2 * (n / 2) by omega]; exact cjn_two a _
    rw [e]
    exact turnE_any n hn h a w hm
  · have e : cjn n a = cjz a := by rw [show n = 2 * (n / 2) + 1 by omega]; exact cjn_odd a _
    rw [e]
    exact turnO_any n hn h a w hm
set_option maxHeartbeats 4000000 in
set_option maxRecDepth 100000 in
theorem frob_gen (a q r : Nat → Nat) (nn m : Nat) (n t : Int) (h1 : n.tmod 12 = t) (h2 : -12 < t ∧ t < 12) (h3 : (t + 12).tmod 12 = ((m : Nat) : Int))
    (c0 : ∀ w, Calls Tryz.prog 61 #[] w fun e w' => Below w.heap.size w w' ∧ ∃ g, e = .returned (.agg #[PT g 0]) ∧ w.heap.size ≤ g ∧ g < w'.heap.size ∧ Blk w' g (modc nn))
    (c1 : ∀ w, Calls Tryz.prog 63 #[V (tl a)] w fun e w' => e = .returned (V (tl q)) ∧ Below w.heap.size w w')
    (c2 : ∀ g w, Mm w [(g, modc nn)] → Calls Tryz.prog 89 #[.agg #[PT g 0], V (tl q), .int .i64 ((m : Nat) : Int)] w fun e w' => e = .returned (V (tl r)) ∧ Below w.heap.size w w') (w : World) :
    Calls Tryz.prog 45 #[V (tl a), .int .i64 n] w fun e w' => e = .returned (V (tl r)) ∧ Below w.heap.size w w' := by
  have H0 : Hid (_ ∧ _) := ⟨Mm.nil w, Below.refl w.heap.size w⟩
  have HA : Hid _ := h1
  have HB : Hid _ := h2
  have HC : Hid _ := h3
  clear h1 h2 h3
  have C0 : Hid _ := c0
  have C1 : Hid _ := c1
  have C2 : Hid _ := c2
  clear c0 c1 c2
  go_enter Tryz.func45, Tryz.ntmps45
  refine wp_seq ?_
  refine walk_seqA 2 [.made (cel (tl a)) 32, .made (cel [0, 0, 0, 0, 0, 0, 0, 0, 0, 0, 0, 0]) 32] (sB H0) ?ho1 ?he1
  case ho1 => exact ak (fun γ => ⟨rfl, fun w' => ex_boxA rfl rfl⟩) (ak (fun γ => ⟨rfl, fun w' => ex_madeE12 rfl⟩) trivial)
  intro γ w1 l hM hl
  have H1 : Hid (Mm w1 [(γ 0, cel (tl a)), (γ 1, cel [0, 0, 0, 0, 0, 0, 0, 0, 0, 0, 0, 0])] ∧ _) := growB H0 hM (Nat.le_refl _) hl [0, 1] rfl (by decide)
  have o1_0 := ownB H0 hM (Nat.le_refl _) hl (i := 0) rfl
  have o1_1 := ownB H0 hM (Nat.le_refl _) hl (i := 1) rfl
  clear hM hl l
  generalize γ 0 = γ1_0 at H1 o1_0 ⊢
  generalize γ 1 = γ1_1 at H1 o1_1 ⊢
  clear γ
  refine rest0 rfl (then_normal (wp_seq ?_))
  refine walk_anyA 8 [.born (fun g => .agg #[PT g 0]) (modc nn), .quiet (V (tl a)), .call (V (tl q)), .quiet (.int .i64 n), .quiet (.int .i64 t), .quiet (.int .i64 (t + 12)), .quiet (.int .i64 ((m : Nat) : Int)), .over (V (tl r)) 0 (modc nn)] (sB H1) ?ho2 ?he2 (hL := ?hL2)
  case hL2 => exact ⟨⟨_, rfl⟩, trivial⟩
  case ho2 => exact ak (fun γ => ⟨rfl, fun w' h => ⟨61, #[], exec_call rfl call61 rfl (mpn rfl), C0.out w'⟩⟩) (ak (fun γ => ⟨rfl, fun w' h => ex_loadA (i := 0) (k := 12) h 0 rfl rfl rfl Tryz.isAgg32 Tryz.sizeOf32 rfl rfl⟩) (ak (fun γ => ⟨rfl, fun w' h => ⟨63, #[V (tl a)], exec_call rfl call63 rfl (mpn rfl), C1.out w'⟩⟩) (ak (fun _ => ⟨rfl, fun _ _ => rfl⟩) (ak (by refine fun γ => ⟨rfl, fun w' h => ?_⟩; clear h; go_simp; exact HA.out) (ak (by refine fun γ => ⟨rfl, fun w' h => ?_⟩; clear h; go_simp; rw [IntKind.wrap_i64]; have h2 := HB.out; omega) (ak (by refine fun γ => ⟨rfl, fun w' h => ?_⟩; clear h; go_simp; exact HC.out) (ak (fun γ => ⟨rfl, fun u w' h0 hge h1 hb hlt => by have h := Mm.over h0 hge h1 hb hlt; exact ⟨89, #[.agg #[PT (γ 0) 0], V (tl q), .int .i64 ((m : Nat) : Int)], exec_call rfl call89 rfl (mpn rfl), C2.out _ w' (h.one 0 rfl)⟩⟩) trivial)))))))
  intro γ w2 l hM hl
  have H2 : Hid (Mm w2 [(γ 0, modc nn), (γ1_0, cel (tl a)), (γ1_1, cel [0, 0, 0, 0, 0, 0, 0, 0, 0, 0, 0, 0])] ∧ _) := growB H1 hM (Nat.le_refl _) hl [0] rfl (by decide)
  have o2_0 := ownB H1 hM (Nat.le_refl _) hl (i := 0) rfl
  clear hM hl l H1
  generalize γ 0 = γ2_0 at H2 o2_0 ⊢
  clear γ
  refine rest_at (l := [8]) rfl ?_
  refine rest_store rfl rfl rfl (ex_storeA (i := 0) (ms := [r 0, r 1, r 2, r 3, r 4, r 5, r 6, r 7, r 8, r 9, r 10, r 11]) H2.out.1 2 rfl rfl rfl rfl Tryz.sizeOf32 (Nat.le_of_ble_eq_true rfl)) ?_
  have H3 : Hid (Mm (w2.setCells γ1_1 (6 * 0) (cel [r 0, r 1, r 2, r 3, r 4, r 5, r 6, r 7, r 8, r 9, r 10, r 11])) [(γ2_0, modc nn), (γ1_0, cel (tl a)), (γ1_1, cel (tl r))] ∧ Below w.heap.size w (w2.setCells γ1_1 (6 * 0) (cel [r 0, r 1, r 2, r 3, r 4, r 5, r 6, r 7, r 8, r 9, r 10, r 11]))) := ⟨by
    have h := H2.out.1.put 2 (off := 6 * 0) (vs := cel [r 0, r 1, r 2, r 3, r 4, r 5, r 6, r 7, r 8, r 9, r 10, r 11]) rfl (by simp only [cel_len]; exact Nat.le_of_ble_eq_true rfl)
    rw [cel_patch] at h
    exact h, below_setCells _ o1_1.out _ _ _ H2.out.2⟩
  clear H2
  generalize hgw : World.setCells _ _ _ _ = w3 at H3 ⊢
  clear hgw
  refine rest_nil (then_normal (wp_ret ?_))
  repeat (first | refine then_ret ?_ | refine block_ret ?_)
  have hf0 := cel_var (k := 12) H3.out.1 2 rfl Tryz.isAgg32 Tryz.sizeOf32 rfl
  refine bodyPost_ret (v := V (tl r)) (by simp [results, Tryz.results45, asAddr, hf0]) rfl ?_
  exact ⟨rfl, H3.out.2⟩
/-- How often it is turned, by twelve. -/
def em (n : Int) : Nat := (n % 12).toNat
theorem em_lt (n : Int) : em n < 12 := by
  unfold em
  have := Int.emod_nonneg n (show (12 : Int) ≠ 0 by decide)
  have := Int.emod_lt_of_pos n (show (0 : Int) < 12 by decide)
  omega
theorem em_tmod (n : Int) : (-12 < n.tmod 12 ∧ n.tmod 12 < 12) ∧ (n.tmod 12 + 12).tmod 12 = ((em n : Nat) : Int) := by
  unfold em
  have h0 := Int.emod_nonneg n (show (12 : Int) ≠ 0 by decide)
  have h1 := Int.emod_lt_of_pos n (show (0 : Int) < 12 by decide)
  have h2 : n.tmod 12 = n - 12 * n.tdiv 12 := by have := Int.mul_tdiv_add_tmod n 12; omega
  have h3 : -12 < n.tmod 12 ∧ n.tmod 12 < 12 := by
    have := Int.tmod_lt_of_pos n (show (0 : Int) < 12 by decide)
    have := Int.lt_tmod_of_pos n (show (0 : Int) < 12 by decide)
    omega
  refine ⟨h3, ?_⟩
  rw [Int.tmod_eq_emod_of_nonneg (by omega)]
  omega
theorem frob_any (a : Nat → Nat) (ha : ∀ j, j < 12 → a j < big) (n : Int) (w : World) : Calls Tryz.prog 45 #[V (tl a), .int .i64 n] w fun e w' => e = .returned (V (lz (Tn (em n) (zn a)))) ∧ Below w.heap.size w w' := by
  obtain ⟨h1, h2⟩ := em_tmod n
  exact frob_gen a (fun j => pz (zn a j)) (fun j => pz (Tn (em n) (zn a) j)) pB (em n) n _ rfl h1 h2 great_any (fun w => leftAll_any a ha w) (fun g w hm => turnN_any (em n) (em_lt n) (zn a) w hm) w
theorem frobP_any (a : Nat → Int) (n : Int) (w : World) : Calls Tryz.prog 45 #[V (lz a), .int .i64 n] w fun e w' => e = .returned (V (lz (Tn (em n) a))) ∧ Below w.heap.size w w' := by
  have h := frob_any (fun j => pz (a j)) (pz_12 _) n w
  have e : lz (Tn (em n) (zn fun j => pz (a j))) = lz (Tn (em n) a) := lz_dv fun j _ => Tn_cong (a := zn fun j => pz (a j)) (b := a) (fun j => dv_pz (a j)) (em n) j
  rw [e] at h
  exact h
end Rg
end Go.Proofs.YtdbejmgomajjmaaGreatDoor
end
section
namespace Go.Proofs.YtdbejmgomajjmaaGreatDoor
open Go.RowKit
namespace Rg
open NT
/-! Sums of integers. -/
def smI (f : Nat → Int) : Nat → Int
  | 0 => 0
  | n + 1 => smI f n + f n
theorem zr12 (b : Nat → Int) : mul12 (fun _ => 0) b = fun _ => 0 := funext fun j => by
  match j with
  | 0 => simp only [mul12, m0, m1, Int.zero_mul, Int.add_zero, Int.sub_zero]
  | 1 => simp only [mul12, m0, m1, Int.zero_mul, Int.add_zero, Int.sub_zero]
  | 2 => simp only [mul12, m0, m1, Int.zero_mul, Int.add_zero, Int.sub_zero]
  | 3 => simp only [mul12, m0, m1, Int.zero_mul, Int.add_zero, Int.sub_zero]
  | 4 => simp only [mul12, m0, m1, Int.zero_mul, Int.add_zero, Int.sub_zero]
  | 5 => simp only [mul12, m0, m1, Int.zero_mul, Int.add_zero, Int.sub_zero]
  | 6 => simp only [mul12, m0, m1, Int.zero_mul, Int.add_zero, Int.sub_zero]
  | 7 => simp only [mul12, m0, m1, Int.zero_mul, Int.add_zero, Int.sub_zero]
  | 8 => simp only [mul12, m0, m1, Int.zero_mul, Int.add_zero, Int.sub_zero]
  | 9 => simp only [mul12, m0, m1, Int.zero_mul, Int.add_zero, Int.sub_zero]
  | 10 => simp only [mul12, m0, Int.zero_mul, Int.add_zero, Int.sub_zero]
  | 11 => simp only [mul12, m1, Int.zero_mul, Int.add_zero]
  | _ + 12 => rfl
theorem sm_mul (c : Nat → Int) (T : Nat → Nat → Int) (x : Nat → Int) : ∀ n, mul12 (fun j => smI (fun k => c k * T k j) n) x = fun j => smI (fun k => c k * mul12 (T k) x j) n
  | 0 => zr12 x
  | n + 1 => by
    have h := lin12 (fun j => smI (fun k => c k * T k j) n) (T n) x (c n)
    rw [sm_mul c T x n] at h
    exact h
/-! A pair's power by p, quickly. -/
def qm (x y : Nat × Nat) : Nat × Nat := ((x.1 * y.1 + (pB - x.2) * y.2) % pB, (x.1 * y.2 + x.2 * y.1) % pB)
def Rep (x : Nat × Nat) (z : Z2) : Prop := x.2 ≤ pB ∧ Dv ((x.1 : Int) - z.1) ∧ Dv ((x.2 : Int) - z.2)
theorem dv_mod (n : Nat) : Dv (((n % pB : Nat) : Int) - (n : Int)) := by
  rw [Int.natCast_emod, Int.emod_def]
  exact ⟨-((n : Int) / (pB : Int)), by rw [Int.mul_neg]; omega⟩
theorem Rep.mul {x y : Nat × Nat} {z t : Z2} (h : Rep x z) (k : Rep y t) : Rep (qm x y) (cm z t) := by
  obtain ⟨h0, h1, h2⟩ := h
  obtain ⟨k0, k1, k2⟩ := k
  have hp : Dv (pB : Int) := ⟨1, by omega⟩
  refine ⟨Nat.le_of_lt (Nat.mod_lt _ pB_ok.pos), ?_, ?_⟩
  · refine ((dv_mod (x.1 * y.1 + (pB - x.2) * y.2)).add (((h1.mulr y.1).add (k1.mul z.1)).sub (((h2.mulr y.2).add (k2.mul z.2)).sub (hp.mulr y.2)))).of ?_
    have e : (((pB - x.2 : Nat)) : Int) = (pB : Int) - (x.2 : Int) := Int.ofNat_sub h0
    unfold cm qm
    dsimp only
    rw [Int.natCast_add, Int.natCast_mul, Int.natCast_mul, e]
    grind
  · refine ((dv_mod (x.1 * y.2 + x.2 * y.1)).add (((h1.mulr y.2).add (k2.mul z.1)).add ((h2.mulr y.1).add (k1.mul z.2)))).of ?_
    unfold cm qm
    dsimp only
    rw [Int.natCast_add, Int.natCast_mul, Int.natCast_mul]
    grind
def e6 : Nat := 667068259203611232236298304289317359426147136656501314222009689354005275081806310740447938188169277339649045426631
end Rg
end Go.Proofs.YtdbejmgomajjmaaGreatDoor
end
section
namespace Go.Proofs.YtdbejmgomajjmaaGreatDoor
open Go.RowKit
namespace Rg
/-- The same by p, in all twelve parts. -/
def Eq12 (a b : Nat → Int) : Prop := ∀ j, j < 12 → Dv (a j - b j)
theorem Eq12.refl (a : Nat → Int) : Eq12 a a := fun j _ => dv_zero.of (by omega)
theorem Eq12.symm {a b : Nat → Int} (h : Eq12 a b) : Eq12 b a := fun j hj => ((h j hj).mul (-1)).of (by omega)
theorem Eq12.trans {a b c : Nat → Int} (h : Eq12 a b) (k : Eq12 b c) : Eq12 a c := fun j hj => ((h j hj).add (k j hj)).of (by omega)
theorem Eq12.of {a b : Nat → Int} (h : O12 fun j => a j - b j) : Eq12 a b := fun j _ => h j
theorem Eq12.lz {a b : Nat → Int} (h : Eq12 a b) : lz a = lz b := lz_dv h
theorem eq_of_lz {a b : Nat → Int} (h : lz a = lz b) : Eq12 a b := by
  simp only [lz, List.cons.injEq, and_true] at h
  obtain ⟨h0, h1, h2, h3, h4, h5, h6, h7, h8, h9, h10, h11⟩ := h
  intro j hj
  rw [← pz_iff]
  match j, hj with
  | 0, _ => exact h0
  | 1, _ => exact h1
  | 2, _ => exact h2
  | 3, _ => exact h3
  | 4, _ => exact h4
  | 5, _ => exact h5
  | 6, _ => exact h6
  | 7, _ => exact h7
  | 8, _ => exact h8
  | 9, _ => exact h9
  | 10, _ => exact h10
  | 11, _ => exact h11
theorem tr_o {a b : Nat → Int} (h : Eq12 a b) : O12 fun j => tr12 a j - tr12 b j := fun j => by
  unfold tr12
  by_cases hj : j < 12
  · exact (h j hj).of (by dsimp only; rw [if_pos hj, if_pos hj])
  · exact dv_zero.of (by dsimp only; rw [if_neg hj, if_neg hj]; rfl)
theorem tr_mulr (a b : Nat → Int) : mul12 a (tr12 b) = mul12 a b := by rw [comm12, tr_mul, comm12]
theorem Eq12.mul {a b c d : Nat → Int} (h : Eq12 a b) (k : Eq12 c d) : Eq12 (mul12 a c) (mul12 b d) := by
  have := mul_cong (tr_o h) (tr_o k)
  rw [tr_mul, tr_mul, tr_mulr, tr_mulr] at this
  exact Eq12.of this
theorem mul_one' (a : Nat → Int) : Eq12 (mul12 a one12) a := eq_of_lz (lz_mul_one a)
theorem one_mul' (a : Nat → Int) : Eq12 (mul12 one12 a) a := by rw [comm12]; exact mul_one' a
/-- A map that keeps products, 1, and what is the same by p. -/
structure Hom (f : (Nat → Int) → Nat → Int) : Prop where
  cg : ∀ {a b : Nat → Int}, Eq12 a b → Eq12 (f a) (f b)
  mu : ∀ a b : Nat → Int, Eq12 (f (mul12 a b)) (mul12 (f a) (f b))
  on : Eq12 (f one12) one12
theorem Hom.comp {f g : (Nat → Int) → Nat → Int} (hf : Hom f) (hg : Hom g) : Hom (fun a => f (g a)) :=
  ⟨fun h => hf.cg (hg.cg h), fun a b => (hf.cg (hg.mu a b)).trans (hf.mu _ _), (hf.cg hg.on).trans hf.on⟩
theorem mul4 (a b c d : Nat → Int) : mul12 (mul12 a b) (mul12 c d) = mul12 (mul12 a c) (mul12 b d) := by
  rw [assoc12, assoc12, ← assoc12 b c d, comm12 b c, assoc12 c b d]
theorem Hom.times {f g : (Nat → Int) → Nat → Int} (hf : Hom f) (hg : Hom g) : Hom (fun a => mul12 (f a) (g a)) :=
  ⟨fun h => (hf.cg h).mul (hg.cg h), fun a b => by
    have h := (hf.mu a b).mul (hg.mu a b)
    rw [mul4] at h
    exact h, (hf.on.mul hg.on).trans (mul_one' _)⟩
theorem hom_id : Hom (fun a => a) := ⟨fun h => h, fun _ _ => Eq12.refl _, Eq12.refl _⟩
theorem pw_one : ∀ n, pw12 one12 n = one12
  | 0 => rfl
  | n + 1 => by
    show mul12 (pw12 one12 n) one12 = one12
    rw [pw_one n, mul_one12 _ fin_one]
theorem pw_cg {a b : Nat → Int} (h : Eq12 a b) : ∀ n, Eq12 (pw12 a n) (pw12 b n)
  | 0 => Eq12.refl _
  | n + 1 => (pw_cg h n).mul h
theorem hom_pw (n : Nat) : Hom (fun a => pw12 a n) :=
  ⟨fun h => pw_cg h n, fun a b => by rw [pw_mul]; exact Eq12.refl _, by rw [pw_one]; exact Eq12.refl _⟩
theorem Sn_one : O12 fun j => Sn one12 j - one12 j := fun j => by
  match j with
  | 0 => exact dv_zero.of (by rfl)
  | 1 => exact dv_zero.of (by rfl)
  | 2 => exact dv_zero.of (by show 0 = (0 : Int) * _ - -0 * _ - 0; rw [Int.neg_zero, Int.zero_mul, Int.zero_mul]; rfl)
  | 3 => exact dv_zero.of (by show 0 = (0 : Int) * _ + -0 * _ - 0; rw [Int.neg_zero, Int.zero_mul, Int.zero_mul]; rfl)
  | 4 => exact dv_zero.of (by show 0 = (0 : Int) * _ - -0 * _ - 0; rw [Int.neg_zero, Int.zero_mul, Int.zero_mul]; rfl)
  | 5 => exact dv_zero.of (by show 0 = (0 : Int) * _ + -0 * _ - 0; rw [Int.neg_zero, Int.zero_mul, Int.zero_mul]; rfl)
  | 6 => exact dv_zero.of (by show 0 = (0 : Int) * _ - -0 * _ - 0; rw [Int.neg_zero, Int.zero_mul, Int.zero_mul]; rfl)
  | 7 => exact dv_zero.of (by show 0 = (0 : Int) * _ + -0 * _ - 0; rw [Int.neg_zero, Int.zero_mul, Int.zero_mul]; rfl)
  | 8 => exact dv_zero.of (by show 0 = (0 : Int) * _ - -0 * _ - 0; rw [Int.neg_zero, Int.zero_mul, Int.zero_mul]; rfl)
  | 9 => exact dv_zero.of (by show 0 = (0 : Int) * _ + -0 * _ - 0; rw [Int.neg_zero, Int.zero_mul, Int.zero_mul]; rfl)
  | 10 => exact dv_zero.of (by show 0 = (0 : Int) * _ - -0 * _ - 0; rw [Int.neg_zero, Int.zero_mul, Int.zero_mul]; rfl)
  | 11 => exact dv_zero.of (by show 0 = (0 : Int) * _ + -0 * _ - 0; rw [Int.neg_zero, Int.zero_mul, Int.zero_mul]; rfl)
  | _ + 12 => exact dv_zero.of (by rfl)
theorem tq_one : tq12 one12 = one12 := funext fun j => by
  unfold tq12
  split
  · rfl
  · match j with
    | 0 => omega
    | _ + 1 => rfl
theorem Tn_one : ∀ n, O12 fun j => Tn n one12 j - one12 j
  | 0 => by rw [Tn_zero, tq_one]; exact o12r _
  | n + 1 => by rw [Tn_succ]; exact o12t (Sn_cong (Tn_one n)) Sn_one
theorem tq_o {a b : Nat → Int} (h : Eq12 a b) : O12 fun j => tq12 a j - tq12 b j := fun j => by
  unfold tq12
  by_cases hj : j < 12
  · exact (h j hj).of (by dsimp only; rw [if_pos hj, if_pos hj])
  · exact dv_zero.of (by dsimp only; rw [if_neg hj, if_neg hj]; rfl)
theorem hom_Tn (n : Nat) : Hom (Tn n) :=
  ⟨fun {a b} h => by
    have := Tn_cong (tq_o h) n
    rw [Tn_tq, Tn_tq] at this
    exact Eq12.of this, fun a b => Eq12.of (Tn_mul a b n), Eq12.of (Tn_one n)⟩
theorem cj_T6 (a : Nat → Int) : Eq12 (cj12 a) (Tn 6 a) := (Eq12.of (T6 a)).symm
theorem hom_cj : Hom cj12 :=
  ⟨fun {a b} h => (cj_T6 a).trans (((hom_Tn 6).cg h).trans (cj_T6 b).symm), fun a b => (cj_T6 _).trans (((hom_Tn 6).mu a b).trans ((cj_T6 a).symm.mul (cj_T6 b).symm)), (cj_T6 _).trans (hom_Tn 6).on⟩
/-! The last power's steps. -/
def kT : Nat := 5044125407647214251
def hCu (a : Nat → Int) : Nat → Int := mul12 a (mul12 a a)
def hTh (a : Nat → Int) : Nat → Int := pw12 a kT
def hSe (a : Nat → Int) : Nat → Int := mul12 (hCu (hTh a)) (cj12 a)
def hB (a : Nat → Int) : Nat → Int := hCu (hTh (hTh a))
def hC (b : Nat → Int) : Nat → Int := mul12 (Tn 1 b) (cj12 (hSe b))
def hD (c : Nat → Int) : Nat → Int := mul12 (hSe (hSe c)) (mul12 (Tn 2 c) (cj12 c))
def hE (a : Nat → Int) : Nat → Int := mul12 (Tn 2 a) a
def hL (a : Nat → Int) : Nat → Int := mul12 (hD (hC (hB (hE a)))) (hE a)
theorem hom_Cu : Hom hCu := hom_id.times (hom_id.times hom_id)
theorem hom_Th : Hom hTh := hom_pw kT
theorem hom_Se : Hom hSe := (hom_Cu.comp hom_Th).times hom_cj
theorem hom_B : Hom hB := hom_Cu.comp (hom_Th.comp hom_Th)
theorem hom_C : Hom hC := (hom_Tn 1).times (hom_cj.comp hom_Se)
theorem hom_D : Hom hD := (hom_Se.comp hom_Se).times ((hom_Tn 2).times hom_cj)
theorem hom_E : Hom hE := (hom_Tn 2).times hom_id
theorem hom_L : Hom hL := (hom_D.comp (hom_C.comp (hom_B.comp hom_E))).times hom_E
/-- 0 by p. -/
def Zr (a : Nat → Int) : Prop := ∀ j, j < 12 → Dv (a j)
theorem zr_iff (a : Nat → Int) : O2 (nE a) ↔ Zr a := ⟨fun h => twelve0 h, fun h => nE_zero h⟩
theorem Zr.eq {a b : Nat → Int} (h : Eq12 a b) (k : Zr a) : Zr b := fun j hj => ((k j hj).sub (h j hj)).of (by omega)
theorem Zr.mul {a : Nat → Int} (h : Zr a) (b : Nat → Int) : Zr (mul12 a b) := by
  have ht : O12 (tr12 a) := fun j => by
    unfold tr12
    split
    · exact h j (by assumption)
    · exact dv_zero
  have he := ht.mul b
  rw [tr_mul] at he
  exact fun j _ => he j
theorem inv_mul {a : Nat → Int} (h : ¬ Zr a) : Eq12 (mul12 (inv12 a) a) one12 := Eq12.of (inv12_mul a (fun k => h ((zr_iff a).1 k)))
theorem cancel12 {a b c : Nat → Int} (h : ¬ Zr a) (k : Eq12 (mul12 a b) (mul12 a c)) : Eq12 b c := by
  have h1 := (Eq12.refl (inv12 a)).mul k
  rw [← assoc12, ← assoc12] at h1
  exact ((one_mul' b).symm.trans (((inv_mul h).mul (Eq12.refl b)).symm.trans (h1.trans ((inv_mul h).mul (Eq12.refl c))))).trans (one_mul' c)
theorem zr_mul {a b : Nat → Int} (ha : ¬ Zr a) (h : Zr (mul12 a b)) : Zr b := by
  have h1 := (h.mul (inv12 a))
  rw [comm12, ← assoc12] at h1
  exact h1.eq (((inv_mul ha).mul (Eq12.refl b)).trans (one_mul' b))
theorem inv_cg {a b : Nat → Int} (ha : ¬ Zr a) (h : Eq12 a b) : Eq12 (inv12 a) (inv12 b) := by
  have hb : ¬ Zr b := fun k => ha (k.eq h.symm)
  refine cancel12 ha ?_
  rw [comm12 a (inv12 a), comm12 a (inv12 b)]
  exact (inv_mul ha).trans (((Eq12.refl (inv12 b)).mul h).trans (inv_mul hb)).symm
theorem inv_mu {a b : Nat → Int} (ha : ¬ Zr a) (hb : ¬ Zr b) : Eq12 (inv12 (mul12 a b)) (mul12 (inv12 a) (inv12 b)) := by
  have hab : ¬ Zr (mul12 a b) := fun k => hb (zr_mul ha k)
  refine cancel12 hab ?_
  rw [comm12 (mul12 a b) (inv12 _), mul4, comm12 a (inv12 a), comm12 b (inv12 b)]
  exact (inv_mul hab).trans (((inv_mul ha).mul (inv_mul hb)).trans (mul_one' _)).symm
/-- The last power. -/
def lastF (a : Nat → Int) : Nat → Int := hL (mul12 (cj12 a) (inv12 a))
theorem last_cg {a b : Nat → Int} (ha : ¬ Zr a) (h : Eq12 a b) : Eq12 (lastF a) (lastF b) := hom_L.cg ((hom_cj.cg h).mul (inv_cg ha h))
theorem last_mu {a b : Nat → Int} (ha : ¬ Zr a) (hb : ¬ Zr b) : Eq12 (lastF (mul12 a b)) (mul12 (lastF a) (lastF b)) := by
  have h := (hom_cj.mu a b).mul (inv_mu ha hb)
  rw [mul4] at h
  exact (hom_L.cg h).trans (hom_L.mu _ _)
theorem last_cj {a : Nat → Int} (ha : ¬ Zr a) (h : Eq12 (cj12 a) a) : Eq12 (lastF a) one12 := by
  refine (hom_L.cg ?_).trans hom_L.on
  have k := h.mul (Eq12.refl (inv12 a))
  rw [comm12 a] at k
  exact k.trans (inv_mul ha)
theorem one_nz : ¬ Zr one12 := fun h => by
  have h0 := h 0 (by decide)
  rw [← pz_zero_iff] at h0
  exact absurd (pz_one.symm.trans h0) (by decide)
theorem last_one : Eq12 (lastF one12) one12 := last_cj one_nz hom_cj.on
end Rg
end Go.Proofs.YtdbejmgomajjmaaGreatDoor
end
section
namespace Go.Proofs.YtdbejmgomajjmaaGreatDoor
open Go.RowKit
namespace Rg
theorem ex_loadT {ρ : Operand → Value} {o : Oper} {x : Operand} {g off n : Nat} {t : TypeId} {cs ms : List Value} {w : World} {l : List (Nat × List Value)} (h : Mm w l) (q : Nat) (hk : l[q]? = some (g, cs)) (ho : o.op = .load t x) (hx : ρ x = PT g off) (ha : ∀ w, (isAgg t).run Tryz.prog w = .ok true w) (hs : ∀ w, (sizeOf t).run Tryz.prog w = .ok n w) (hc : (cs.drop off).take n = ms) (hl : ms.length = n) :
    (execOp ρ o).run Tryz.prog w = .ok (.value (.agg ms.toArray)) w := by
  have hm := List.mem_of_getElem? hk
  have hcell := run_loadCells_list (P := Tryz.prog) (w := w) ⟨g, off, none⟩ ms (fun j v hv => by
    have e : cs[off + j]? = some v := by
      rw [← List.getElem?_drop]
      rw [← hc, List.getElem?_take] at hv
      split at hv
      · exact hv
      · cases hv
    have e2 := h.cell hm e
    rw [show (⟨g, off, none⟩ : Addr).add j = ⟨g, off + j, none⟩ from by unfold Addr.add; split <;> simp_all]
    exact e2)
  rw [hl] at hcell
  have hf : (loadCellsFrom ⟨g, off, none⟩ 0 n #[]).run Tryz.prog w = .ok ms.toArray w := hcell
  clear hcell hc hk hm h
  simp only [execOp, ho, hx]
  go_simp
theorem ex_loadC {ρ : Operand → Value} {o : Oper} {x : Operand} {g off : Nat} {t : TypeId} {v : Value} {cs : List Value} {w : World} {l : List (Nat × List Value)} (h : Mm w l) (k : Nat) (hk : l[k]? = some (g, cs)) (ho : o.op = .load t x) (hx : ρ x = PT g off) (ha : ∀ w, (isAgg t).run Tryz.prog w = .ok false w) (hc : cs[off]? = some v) :
    (execOp ρ o).run Tryz.prog w = .ok (.value v) w := by
  have c0 := h.cell (List.mem_of_getElem? hk) hc
  clear h hk hc
  simp only [execOp, ho, hx]
  go_simp
theorem ex_storeT {ρ : Operand → Value} {o : Oper} {x y : Operand} {g off : Nat} {t : TypeId} {cs vs : List Value} {w : World} {l : List (Nat × List Value)} (h : Mm w l) (q : Nat) (hk : l[q]? = some (g, cs)) (ho : o.op = .store t x y) (hx : ρ x = PT g off) (hy : ρ y = .agg vs.toArray) (hs : ∀ w, (sizeOf t).run Tryz.prog w = .ok vs.length w) (h1 : vs.all Value.oneCell' = true) (hb : off + vs.length ≤ cs.length) :
    (execOp ρ o).run Tryz.prog w = .ok .skip (w.setCells g off vs) := by
  have hm := List.mem_of_getElem? hk
  have hq : ∀ j, j < vs.length → ∃ u, cs[off + j]? = some u := fun j hj => ⟨_, List.getElem?_eq_getElem (by omega)⟩
  have hst := run_storeCells_cells (P := Tryz.prog) g off vs 0 w (fun j hj => by
    obtain ⟨u, hu⟩ := hq j hj
    rw [show off + 0 + j = off + j by omega, h.cell hm hu]; rfl) (fun j hj => by
    obtain ⟨u, hu⟩ := hq j hj
    rw [show off + 0 + j = off + j by omega]; exact h.free hm hu) (List.all_eq_true.1 h1)
  clear h hm hq hb hk
  simp only [execOp, ho, hx, hy]
  go_simp
/-! Equality. -/
end Rg
end Go.Proofs.YtdbejmgomajjmaaGreatDoor
end
section
namespace Go.Proofs.YtdbejmgomajjmaaGreatDoor
open Go.RowKit
namespace Rg
theorem rounds_in0 {P : Program} {c : Code} {Q : Exit → Act → World → Prop} {n : Nat} {a : Act} {w : World} (h : c.wp P (Exit.then (Code.rounds P c Q n) Q) a w) : Code.rounds P c Q (n + 1) a w := h
theorem ex_madeWK {ρ : Operand → Value} {o : Oper} {w : World} (ho : o.op = .alloc 171) :
    (execOp ρ o).run Tryz.prog w = .ok (.value (.pointer (some ⟨w.heap.size, 0, none⟩))) (w.alloc (.cells (cel [0, 0, 0, 0, 0, 0, 0, 0, 0, 0, 0, 0] ++ [Value.slice none 0 0]).toArray 171)) := by
  rw [show cel [0, 0, 0, 0, 0, 0, 0, 0, 0, 0, 0, 0] = [.int .u64 0, .int .u64 0, .int .u64 0, .int .u64 0, .int .u64 0, .int .u64 0, .int .u64 0, .int .u64 0, .int .u64 0, .int .u64 0, .int .u64 0, .int .u64 0, .int .u64 0, .int .u64 0, .int .u64 0, .int .u64 0, .int .u64 0, .int .u64 0, .int .u64 0, .int .u64 0, .int .u64 0, .int .u64 0, .int .u64 0, .int .u64 0, .int .u64 0, .int .u64 0, .int .u64 0, .int .u64 0, .int .u64 0, .int .u64 0, .int .u64 0, .int .u64 0, .int .u64 0, .int .u64 0, .int .u64 0, .int .u64 0, .int .u64 0, .int .u64 0, .int .u64 0, .int .u64 0, .int .u64 0, .int .u64 0, .int .u64 0, .int .u64 0, .int .u64 0, .int .u64 0, .int .u64 0, .int .u64 0, .int .u64 0, .int .u64 0, .int .u64 0, .int .u64 0, .int .u64 0, .int .u64 0, .int .u64 0, .int .u64 0, .int .u64 0, .int .u64 0, .int .u64 0, .int .u64 0, .int .u64 0, .int .u64 0, .int .u64 0, .int .u64 0, .int .u64 0, .int .u64 0, .int .u64 0, .int .u64 0, .int .u64 0, .int .u64 0, .int .u64 0, .int .u64 0] from cel_zero 12]
  simp only [List.cons_append, List.nil_append]
  simp only [execOp, ho]
  go_simp
  rfl
set_option maxRecDepth 100000 in
theorem ex_buildWK {ρ : Operand → Value} {o : Oper} {x : Operand} {a : Nat → Nat} {w : World} (ho : o.op = .build 171 #[(0, x)]) (hx : ρ x = V (tl a)) : (execOp ρ o).run Tryz.prog w = .ok (.value (.agg (cel (tl a) ++ [Value.slice none 0 0]).toArray)) w := by
  simp only [V, cel, List.cons_append, List.nil_append] at hx
  simp only [execOp, ho, cel, List.cons_append, List.nil_append]
  go_simp
  kernel_rfl
theorem ex_shlP {ρ : Operand → Value} {o : Oper} {x y : Operand} {a : Int} {w : World} (ho : o.op = .binOp .shl 22 x y 198) (hx : ρ x = .int .u64 a) (hy : ρ y = .int .u64 1) :
    (execOp ρ o).run Tryz.prog w = .ok (.value (.int .u64 (IntKind.u64.wrap (a * 2 ^ 1)))) w := by
  simp only [execOp, ho, hx, hy]
  clear ho hx hy
  go_simp
theorem ex_shrP {ρ : Operand → Value} {o : Oper} {x y : Operand} {a : Int} {w : World} (ho : o.op = .binOp .shr 22 x y 198) (hx : ρ x = .int .u64 a) (hy : ρ y = .int .u64 63) :
    (execOp ρ o).run Tryz.prog w = .ok (.value (.int .u64 (a / 2 ^ 63))) w := by
  simp only [execOp, ho, hx, hy]
  clear ho hx hy
  go_simp
theorem kT_0 : wd kT 0 = 5044125407647214251 := by decide +kernel
theorem kT_j : wd kT 1 = 0 ∧ wd kT 2 = 0 ∧ wd kT 3 = 0 ∧ wd kT 4 = 0 ∧ wd kT 5 = 0 := ⟨by decide +kernel, by decide +kernel, by decide +kernel, by decide +kernel, by decide +kernel⟩
theorem ex_buildkT {ρ : Operand → Value} {o : Oper} {w : World} (ho : o.op = .build 24 #[(0, .const (.int .u64 5044125407647214251))]) (hx : ρ (.const (.int .u64 5044125407647214251)) = .int .u64 5044125407647214251) : (execOp ρ o).run Tryz.prog w = .ok (.value (N kT)) w := by
  have e : N kT = .agg #[.int .u64 5044125407647214251, .int .u64 0, .int .u64 0, .int .u64 0, .int .u64 0, .int .u64 0] := by
    simp only [N, kT_0, kT_j.1, kT_j.2.1, kT_j.2.2.1, kT_j.2.2.2.1, kT_j.2.2.2.2]
  rw [e]
  clear e
  simp only [execOp, ho]
  go_simp
set_option maxHeartbeats 4000000 in
set_option maxRecDepth 100000 in
theorem cubed_gen (a q r : Nat → Nat)
    (c0 : ∀ w, Calls Tryz.prog 22 #[V (tl a), V (tl a)] w fun e w' => e = .returned (V (tl q)) ∧ Below w.heap.size w w')
    (c1 : ∀ w, Calls Tryz.prog 22 #[V (tl a), V (tl q)] w fun e w' => e = .returned (V (tl r)) ∧ Below w.heap.size w w') (w : World) :
    Calls Tryz.prog 46 #[V (tl a)] w fun e w' => e = .returned (V (tl r)) ∧ Below w.heap.size w w' := by
  have H0 : Hid (_ ∧ _) := ⟨Mm.nil w, Below.refl w.heap.size w⟩
  have C0 : Hid _ := c0
  have C1 : Hid _ := c1
  clear c0 c1
  go_enter Tryz.func46, Tryz.ntmps46
  refine wp_seq ?_
  refine walk_seqA 2 [.made (cel (tl a)) 32, .made (cel [0, 0, 0, 0, 0, 0, 0, 0, 0, 0, 0, 0]) 32] (sB H0) ?ho1 ?he1
  case ho1 => exact ak (fun γ => ⟨rfl, fun w' => ex_boxA rfl rfl⟩) (ak (fun γ => ⟨rfl, fun w' => ex_madeE12 rfl⟩) trivial)
  intro γ w1 l hM hl
  have H1 : Hid (Mm w1 [(γ 0, cel (tl a)), (γ 1, cel [0, 0, 0, 0, 0, 0, 0, 0, 0, 0, 0, 0])] ∧ _) := growB H0 hM (Nat.le_refl _) hl [0, 1] rfl (by decide)
  have o1_0 := ownB H0 hM (Nat.le_refl _) hl (i := 0) rfl
  have o1_1 := ownB H0 hM (Nat.le_refl _) hl (i := 1) rfl
  clear hM hl l
  generalize γ 0 = γ1_0 at H1 o1_0 ⊢
  generalize γ 1 = γ1_1 at H1 o1_1 ⊢
  clear γ
  refine rest0 rfl (then_normal (wp_seq ?_))
  refine walk_anyB 5 [.quiet (V (tl a)), .quiet (V (tl a)), .quiet (V (tl a)), .call (V (tl q)), .call (V (tl r))] H1 ?ho2 ?he2
  case ho2 => exact ak (fun γ => ⟨rfl, fun w' h => ex_loadA (i := 0) (k := 12) h 0 rfl rfl rfl Tryz.isAgg32 Tryz.sizeOf32 rfl rfl⟩) (ak (fun γ => ⟨rfl, fun w' h => ex_loadA (i := 0) (k := 12) h 0 rfl rfl rfl Tryz.isAgg32 Tryz.sizeOf32 rfl rfl⟩) (ak (fun γ => ⟨rfl, fun w' h => ex_loadA (i := 0) (k := 12) h 0 rfl rfl rfl Tryz.isAgg32 Tryz.sizeOf32 rfl rfl⟩) (ak (fun γ => ⟨rfl, fun w' h => ⟨22, #[V (tl a), V (tl a)], exec_call rfl call22 rfl (mpn rfl), C0.out w'⟩⟩) (ak (fun γ => ⟨rfl, fun w' h => ⟨22, #[V (tl a), V (tl q)], exec_call rfl call22 rfl (mpn rfl), C1.out w'⟩⟩) trivial))))
  intro _ w2 H2
  clear H1
  refine rest_at (l := [5]) rfl ?_
  refine rest_store rfl rfl rfl (ex_storeA (i := 0) (ms := [r 0, r 1, r 2, r 3, r 4, r 5, r 6, r 7, r 8, r 9, r 10, r 11]) H2.out.1 1 rfl rfl rfl rfl Tryz.sizeOf32 (Nat.le_of_ble_eq_true rfl)) ?_
  have H3 : Hid (Mm (w2.setCells γ1_1 (6 * 0) (cel [r 0, r 1, r 2, r 3, r 4, r 5, r 6, r 7, r 8, r 9, r 10, r 11])) [(γ1_0, cel (tl a)), (γ1_1, cel (tl r))] ∧ Below w.heap.size w (w2.setCells γ1_1 (6 * 0) (cel [r 0, r 1, r 2, r 3, r 4, r 5, r 6, r 7, r 8, r 9, r 10, r 11]))) := ⟨by
    have h := H2.out.1.put 1 (off := 6 * 0) (vs := cel [r 0, r 1, r 2, r 3, r 4, r 5, r 6, r 7, r 8, r 9, r 10, r 11]) rfl (by simp only [cel_len]; exact Nat.le_of_ble_eq_true rfl)
    rw [cel_patch] at h
    exact h, below_setCells _ o1_1.out _ _ _ H2.out.2⟩
  clear H2
  generalize hgw : World.setCells _ _ _ _ = w3 at H3 ⊢
  clear hgw
  refine rest_nil (then_normal (wp_ret ?_))
  repeat (first | refine then_ret ?_ | refine block_ret ?_)
  have hf0 := cel_var (k := 12) H3.out.1 1 rfl Tryz.isAgg32 Tryz.sizeOf32 rfl
  refine bodyPost_ret (v := V (tl r)) (by simp [results, Tryz.results46, asAddr, hf0]) rfl ?_
  exact ⟨rfl, H3.out.2⟩
set_option maxHeartbeats 4000000 in
set_option maxRecDepth 100000 in
theorem byThird_gen (a r : Nat → Nat)
    (c0 : ∀ w, Calls Tryz.prog 27 #[V (tl a), N kT] w fun e w' => e = .returned (V (tl r)) ∧ Below w.heap.size w w') (w : World) :
    Calls Tryz.prog 47 #[V (tl a)] w fun e w' => e = .returned (V (tl r)) ∧ Below w.heap.size w w' := by
  have H0 : Hid (_ ∧ _) := ⟨Mm.nil w, Below.refl w.heap.size w⟩
  have C0 : Hid _ := c0
  clear c0
  go_enter Tryz.func47, Tryz.ntmps47
  refine wp_seq ?_
  refine walk_seqA 2 [.made (cel (tl a)) 32, .made (cel [0, 0, 0, 0, 0, 0, 0, 0, 0, 0, 0, 0]) 32] (sB H0) ?ho1 ?he1
  case ho1 => exact ak (fun γ => ⟨rfl, fun w' => ex_boxA rfl rfl⟩) (ak (fun γ => ⟨rfl, fun w' => ex_madeE12 rfl⟩) trivial)
  intro γ w1 l hM hl
  have H1 : Hid (Mm w1 [(γ 0, cel (tl a)), (γ 1, cel [0, 0, 0, 0, 0, 0, 0, 0, 0, 0, 0, 0])] ∧ _) := growB H0 hM (Nat.le_refl _) hl [0, 1] rfl (by decide)
  have o1_0 := ownB H0 hM (Nat.le_refl _) hl (i := 0) rfl
  have o1_1 := ownB H0 hM (Nat.le_refl _) hl (i := 1) rfl
  clear hM hl l
  generalize γ 0 = γ1_0 at H1 o1_0 ⊢
  generalize γ 1 = γ1_1 at H1 o1_1 ⊢
  clear γ
  refine rest0 rfl (then_normal (wp_seq ?_))
  refine walk_seqB 3 [.quiet (V (tl a)), .quiet (N kT), .call (V (tl r))] H1 ?ho2 ?he2
  case ho2 => exact ak (fun γ => ⟨rfl, fun w' h => ex_loadA (i := 0) (k := 12) h 0 rfl rfl rfl Tryz.isAgg32 Tryz.sizeOf32 rfl rfl⟩) (ak (fun γ => ⟨rfl, fun w' _ => ex_buildkT rfl rfl⟩) (ak (fun γ => ⟨rfl, fun w' h => ⟨27, #[V (tl a), N kT], exec_call rfl call27 rfl (mpn rfl), C0.out w'⟩⟩) trivial))
  intro _ w2 H2
  clear H1
  refine rest_at (l := [3]) rfl ?_
  refine rest_store rfl rfl rfl (ex_storeA (i := 0) (ms := [r 0, r 1, r 2, r 3, r 4, r 5, r 6, r 7, r 8, r 9, r 10, r 11]) H2.out.1 1 rfl rfl rfl rfl Tryz.sizeOf32 (Nat.le_of_ble_eq_true rfl)) ?_
  have H3 : Hid (Mm (w2.setCells γ1_1 (6 * 0) (cel [r 0, r 1, r 2, r 3, r 4, r 5, r 6, r 7, r 8, r 9, r 10, r 11])) [(γ1_0, cel (tl a)), (γ1_1, cel (tl r))] ∧ Below w.heap.size w (w2.setCells γ1_1 (6 * 0) (cel [r 0, r 1, r 2, r 3, r 4, r 5, r 6, r 7, r 8, r 9, r 10, r 11]))) := ⟨by
    have h := H2.out.1.put 1 (off := 6 * 0) (vs := cel [r 0, r 1, r 2, r 3, r 4, r 5, r 6, r 7, r 8, r 9, r 10, r 11]) rfl (by simp only [cel_len]; exact Nat.le_of_ble_eq_true rfl)
    rw [cel_patch] at h
    exact h, below_setCells _ o1_1.out _ _ _ H2.out.2⟩
  clear H2
  generalize hgw : World.setCells _ _ _ _ = w3 at H3 ⊢
  clear hgw
  refine rest_nil (then_normal (wp_ret ?_))
  repeat (first | refine then_ret ?_ | refine block_ret ?_)
  have hf0 := cel_var (k := 12) H3.out.1 1 rfl Tryz.isAgg32 Tryz.sizeOf32 rfl
  refine bodyPost_ret (v := V (tl r)) (by simp [results, Tryz.results47, asAddr, hf0]) rfl ?_
  exact ⟨rfl, H3.out.2⟩
set_option maxHeartbeats 4000000 in
set_option maxRecDepth 100000 in
theorem bySeed_gen (a x y z r : Nat → Nat)
    (c0 : ∀ w, Calls Tryz.prog 47 #[V (tl a)] w fun e w' => e = .returned (V (tl x)) ∧ Below w.heap.size w w')
    (c1 : ∀ w, Calls Tryz.prog 46 #[V (tl x)] w fun e w' => e = .returned (V (tl y)) ∧ Below w.heap.size w w')
    (c2 : ∀ w, Calls Tryz.prog 44 #[V (tl a)] w fun e w' => e = .returned (V (tl z)) ∧ Below w.heap.size w w')
    (c3 : ∀ w, Calls Tryz.prog 22 #[V (tl y), V (tl z)] w fun e w' => e = .returned (V (tl r)) ∧ Below w.heap.size w w') (w : World) :
    Calls Tryz.prog 48 #[V (tl a)] w fun e w' => e = .returned (V (tl r)) ∧ Below w.heap.size w w' := by
  have H0 : Hid (_ ∧ _) := ⟨Mm.nil w, Below.refl w.heap.size w⟩
  have C0 : Hid _ := c0
  have C1 : Hid _ := c1
  have C2 : Hid _ := c2
  have C3 : Hid _ := c3
  clear c0 c1 c2 c3
  go_enter Tryz.func48, Tryz.ntmps48
  refine wp_seq ?_
  refine walk_seqA 2 [.made (cel (tl a)) 32, .made (cel [0, 0, 0, 0, 0, 0, 0, 0, 0, 0, 0, 0]) 32] (sB H0) ?ho1 ?he1
  case ho1 => exact ak (fun γ => ⟨rfl, fun w' => ex_boxA rfl rfl⟩) (ak (fun γ => ⟨rfl, fun w' => ex_madeE12 rfl⟩) trivial)
  intro γ w1 l hM hl
  have H1 : Hid (Mm w1 [(γ 0, cel (tl a)), (γ 1, cel [0, 0, 0, 0, 0, 0, 0, 0, 0, 0, 0, 0])] ∧ _) := growB H0 hM (Nat.le_refl _) hl [0, 1] rfl (by decide)
  have o1_0 := ownB H0 hM (Nat.le_refl _) hl (i := 0) rfl
  have o1_1 := ownB H0 hM (Nat.le_refl _) hl (i := 1) rfl
  clear hM hl l
  generalize γ 0 = γ1_0 at H1 o1_0 ⊢
  generalize γ 1 = γ1_1 at H1 o1_1 ⊢
  clear γ
  refine rest0 rfl (then_normal (wp_seq ?_))
  refine walk_anyB 6 [.quiet (V (tl a)), .call (V (tl x)), .call (V (tl y)), .quiet (V (tl a)), .call (V (tl z)), .call (V (tl r))] H1 ?ho2 ?he2
  case ho2 => exact ak (fun γ => ⟨rfl, fun w' h => ex_loadA (i := 0) (k := 12) h 0 rfl rfl rfl Tryz.isAgg32 Tryz.sizeOf32 rfl rfl⟩) (ak (fun γ => ⟨rfl, fun w' h => ⟨47, #[V (tl a)], exec_call rfl call47 rfl (mpn rfl), C0.out w'⟩⟩) (ak (fun γ => ⟨rfl, fun w' h => ⟨46, #[V (tl x)], exec_call rfl call46 rfl (mpn rfl), C1.out w'⟩⟩) (ak (fun γ => ⟨rfl, fun w' h => ex_loadA (i := 0) (k := 12) h 0 rfl rfl rfl Tryz.isAgg32 Tryz.sizeOf32 rfl rfl⟩) (ak (fun γ => ⟨rfl, fun w' h => ⟨44, #[V (tl a)], exec_call rfl call44 rfl (mpn rfl), C2.out w'⟩⟩) (ak (fun γ => ⟨rfl, fun w' h => ⟨22, #[V (tl y), V (tl z)], exec_call rfl call22 rfl (mpn rfl), C3.out w'⟩⟩) trivial)))))
  intro _ w2 H2
  clear H1
  refine rest_at (l := [6]) rfl ?_
  refine rest_store rfl rfl rfl (ex_storeA (i := 0) (ms := [r 0, r 1, r 2, r 3, r 4, r 5, r 6, r 7, r 8, r 9, r 10, r 11]) H2.out.1 1 rfl rfl rfl rfl Tryz.sizeOf32 (Nat.le_of_ble_eq_true rfl)) ?_
  have H3 : Hid (Mm (w2.setCells γ1_1 (6 * 0) (cel [r 0, r 1, r 2, r 3, r 4, r 5, r 6, r 7, r 8, r 9, r 10, r 11])) [(γ1_0, cel (tl a)), (γ1_1, cel (tl r))] ∧ Below w.heap.size w (w2.setCells γ1_1 (6 * 0) (cel [r 0, r 1, r 2, r 3, r 4, r 5, r 6, r 7, r 8, r 9, r 10, r 11]))) := ⟨by
    have h := H2.out.1.put 1 (off := 6 * 0) (vs := cel [r 0, r 1, r 2, r 3, r 4, r 5, r 6, r 7, r 8, r 9, r 10, r 11]) rfl (by simp only [cel_len]; exact Nat.le_of_ble_eq_true rfl)
    rw [cel_patch] at h
    exact h, below_setCells _ o1_1.out _ _ _ H2.out.2⟩
  clear H2
  generalize hgw : World.setCells _ _ _ _ = w3 at H3 ⊢
  clear hgw
  refine rest_nil (then_normal (wp_ret ?_))
  repeat (first | refine then_ret ?_ | refine block_ret ?_)
  have hf0 := cel_var (k := 12) H3.out.1 1 rfl Tryz.isAgg32 Tryz.sizeOf32 rfl
  refine bodyPost_ret (v := V (tl r)) (by simp [results, Tryz.results48, asAddr, hf0]) rfl ?_
  exact ⟨rfl, H3.out.2⟩
set_option maxHeartbeats 4000000 in
set_option maxRecDepth 100000 in
theorem last_ok (a ov u1 u2 u3 u4 u5 u6 u7 u8 u9 u10 u11 u12 u13 u14 u15 u16 u17 r : Nat → Nat)
    (c0 : ∀ w, Mm w [(0, dtab)] → Calls Tryz.prog 43 #[V (tl a)] w fun e w' => e = .returned (.tuple #[V (tl ov), .int .i64 0]) ∧ Below w.heap.size w w')
    (c1 : ∀ w, Calls Tryz.prog 44 #[V (tl a)] w fun e w' => e = .returned (V (tl u1)) ∧ Below w.heap.size w w')
    (c2 : ∀ w, Calls Tryz.prog 22 #[V (tl u1), V (tl ov)] w fun e w' => e = .returned (V (tl u2)) ∧ Below w.heap.size w w')
    (c3 : ∀ w, Calls Tryz.prog 45 #[V (tl u2), .int .i64 2] w fun e w' => e = .returned (V (tl u3)) ∧ Below w.heap.size w w')
    (c4 : ∀ w, Calls Tryz.prog 22 #[V (tl u3), V (tl u2)] w fun e w' => e = .returned (V (tl u4)) ∧ Below w.heap.size w w')
    (c5 : ∀ w, Calls Tryz.prog 47 #[V (tl u4)] w fun e w' => e = .returned (V (tl u5)) ∧ Below w.heap.size w w')
    (c6 : ∀ w, Calls Tryz.prog 47 #[V (tl u5)] w fun e w' => e = .returned (V (tl u6)) ∧ Below w.heap.size w w')
    (c7 : ∀ w, Calls Tryz.prog 46 #[V (tl u6)] w fun e w' => e = .returned (V (tl u7)) ∧ Below w.heap.size w w')
    (c8 : ∀ w, Calls Tryz.prog 45 #[V (tl u7), .int .i64 1] w fun e w' => e = .returned (V (tl u8)) ∧ Below w.heap.size w w')
    (c9 : ∀ w, Calls Tryz.prog 48 #[V (tl u7)] w fun e w' => e = .returned (V (tl u9)) ∧ Below w.heap.size w w')
    (c10 : ∀ w, Calls Tryz.prog 44 #[V (tl u9)] w fun e w' => e = .returned (V (tl u10)) ∧ Below w.heap.size w w')
    (c11 : ∀ w, Calls Tryz.prog 22 #[V (tl u8), V (tl u10)] w fun e w' => e = .returned (V (tl u11)) ∧ Below w.heap.size w w')
    (c12 : ∀ w, Calls Tryz.prog 48 #[V (tl u11)] w fun e w' => e = .returned (V (tl u12)) ∧ Below w.heap.size w w')
    (c13 : ∀ w, Calls Tryz.prog 48 #[V (tl u12)] w fun e w' => e = .returned (V (tl u13)) ∧ Below w.heap.size w w')
    (c14 : ∀ w, Calls Tryz.prog 45 #[V (tl u11), .int .i64 2] w fun e w' => e = .returned (V (tl u14)) ∧ Below w.heap.size w w')
    (c15 : ∀ w, Calls Tryz.prog 44 #[V (tl u11)] w fun e w' => e = .returned (V (tl u15)) ∧ Below w.heap.size w w')
    (c16 : ∀ w, Calls Tryz.prog 22 #[V (tl u14), V (tl u15)] w fun e w' => e = .returned (V (tl u16)) ∧ Below w.heap.size w w')
    (c17 : ∀ w, Calls Tryz.prog 22 #[V (tl u13), V (tl u16)] w fun e w' => e = .returned (V (tl u17)) ∧ Below w.heap.size w w')
    (c18 : ∀ w, Calls Tryz.prog 22 #[V (tl u17), V (tl u4)] w fun e w' => e = .returned (V (tl r)) ∧ Below w.heap.size w w') (w : World) (hm : Mm w [(0, dtab)]) :
    Calls Tryz.prog 13 #[V (tl a)] w fun e w' => e = .returned (.tuple #[V (tl r), .int .i64 0]) ∧ Below w.heap.size w w' := by
  have H0 : Hid (_ ∧ _) := ⟨hm, Below.refl w.heap.size w⟩
  clear hm
  have C0 : Hid _ := c0
  have C1 : Hid _ := c1
  have C2 : Hid _ := c2
  have C3 : Hid _ := c3
  have C4 : Hid _ := c4
  have C5 : Hid _ := c5
  have C6 : Hid _ := c6
  have C7 : Hid _ := c7
  have C8 : Hid _ := c8
  have C9 : Hid _ := c9
  have C10 : Hid _ := c10
  have C11 : Hid _ := c11
  have C12 : Hid _ := c12
  have C13 : Hid _ := c13
  have C14 : Hid _ := c14
  have C15 : Hid _ := c15
  have C16 : Hid _ := c16
  have C17 : Hid _ := c17
  have C18 : Hid _ := c18
  clear c0 c1 c2 c3 c4 c5 c6 c7 c8 c9 c10 c11 c12 c13 c14 c15 c16 c17 c18
  go_enter Tryz.func13, Tryz.ntmps13
  refine wp_seq ?_
  refine walk_seqA 3 [.made (cel (tl a)) 32, .made (cel [0, 0, 0, 0, 0, 0, 0, 0, 0, 0, 0, 0]) 32, .quiet (.int .i64 0)] (sB H0) ?ho1 ?he1
  case ho1 => exact ak (fun γ => ⟨rfl, fun w' => ex_boxA rfl rfl⟩) (ak (fun γ => ⟨rfl, fun w' => ex_madeE12 rfl⟩) (ak (fun _ => ⟨rfl, fun _ _ => rfl⟩) trivial))
  intro γ w1 l hM hl
  have H1 : Hid (Mm w1 [(γ 0, cel (tl a)), (γ 1, cel [0, 0, 0, 0, 0, 0, 0, 0, 0, 0, 0, 0]), (0, dtab)] ∧ _) := growB H0 hM (Nat.le_refl _) hl [0, 1] rfl (by decide)
  have o1_0 := ownB H0 hM (Nat.le_refl _) hl (i := 0) rfl
  have o1_1 := ownB H0 hM (Nat.le_refl _) hl (i := 1) rfl
  clear hM hl l
  generalize γ 0 = γ1_0 at H1 o1_0 ⊢
  generalize γ 1 = γ1_1 at H1 o1_1 ⊢
  clear γ
  refine rest0 rfl (then_normal (wp_seq ?_))
  refine walk_seqA 8 [.quiet (V (tl a)), .call (.tuple #[V (tl ov), .int .i64 0]), .quiet (.tuple #[V (tl ov), .int .i64 0]), .quiet (V (tl ov)), .quiet (.int .i64 0), .made (cel [0, 0, 0, 0, 0, 0, 0, 0, 0, 0, 0, 0]) 32, .laid 5 (cel [0, 0, 0, 0, 0, 0, 0, 0, 0, 0, 0, 0]) (cel (tl ov)), .quiet (.int .i64 0)] (sB H1) ?ho2 ?he2 (hL := ?hL2)
  case hL2 => exact ⟨⟨_, rfl⟩, trivial⟩
  case ho2 => exact ak (fun γ => ⟨rfl, fun w' h => ex_loadA (i := 0) (k := 12) h 0 rfl rfl rfl Tryz.isAgg32 Tryz.sizeOf32 rfl rfl⟩) (ak (fun γ => ⟨rfl, fun w' h => ⟨43, #[V (tl a)], exec_call rfl call43 rfl (mpn rfl), C0.out w' (h.one 2 rfl)⟩⟩) (ak (fun _ => ⟨rfl, fun _ _ => rfl⟩) (ak (by refine fun γ => ⟨rfl, fun w' h => ?_⟩; clear h; go_simp) (ak (by refine fun γ => ⟨rfl, fun w' h => ?_⟩; clear h; go_simp) (ak (fun γ => ⟨rfl, fun w' => ex_madeE12 rfl⟩) (ak (fun γ => ⟨rfl, rfl, rfl, fun w' h => ex_laidA h rfl Tryz.sizeOf32 rfl rfl rfl⟩) (ak (fun _ => ⟨rfl, fun _ _ => rfl⟩) trivial)))))))
  intro γ w2 l hM hl
  have H2 : Hid (Mm w2 [(γ 5, cel (tl ov)), (γ1_0, cel (tl a)), (γ1_1, cel [0, 0, 0, 0, 0, 0, 0, 0, 0, 0, 0, 0]), (0, dtab)] ∧ _) := growB H1 hM (Nat.le_refl _) hl [5] rfl (by decide)
  have o2_5 := ownB H1 hM (Nat.le_refl _) hl (i := 5) rfl
  clear hM hl l H1
  generalize γ 5 = γ2_5 at H2 o2_5 ⊢
  clear γ
  refine rest0 rfl (then_normal (wp_seq (wp_seq ?_)))
  refine walk_seqB 2 [.quiet (.int .i64 0), .quiet (.bool false)] H2 ?ho3 ?he3
  case ho3 => exact ak (fun _ => ⟨rfl, fun _ _ => rfl⟩) (ak (by refine fun γ => ⟨rfl, fun w' h => ?_⟩; clear h; go_simp) trivial)
  intro _ w3 H3
  clear H2
  refine rest0 rfl (then_normal (wp_cond_false rfl ?_))
  refine wp_skip (then_normal (wp_seq ?_))
  refine walk_anyB 4 [.quiet (V (tl a)), .call (V (tl u1)), .quiet (V (tl ov)), .call (V (tl u2))] H3 ?ho4 ?he4
  case ho4 => exact ak (fun γ => ⟨rfl, fun w' h => ex_loadA (i := 0) (k := 12) h 1 rfl rfl rfl Tryz.isAgg32 Tryz.sizeOf32 rfl rfl⟩) (ak (fun γ => ⟨rfl, fun w' h => ⟨44, #[V (tl a)], exec_call rfl call44 rfl (mpn rfl), C1.out w'⟩⟩) (ak (fun γ => ⟨rfl, fun w' h => ex_loadA (i := 0) (k := 12) h 0 rfl rfl rfl Tryz.isAgg32 Tryz.sizeOf32 rfl rfl⟩) (ak (fun γ => ⟨rfl, fun w' h => ⟨22, #[V (tl u1), V (tl ov)], exec_call rfl call22 rfl (mpn rfl), C2.out w'⟩⟩) trivial)))
  intro _ w4 H4
  clear H3
  refine rest_at (l := [4]) rfl ?_
  refine rest_store rfl rfl rfl (ex_storeA (i := 0) (ms := [u2 0, u2 1, u2 2, u2 3, u2 4, u2 5, u2 6, u2 7, u2 8, u2 9, u2 10, u2 11]) H4.out.1 1 rfl rfl rfl rfl Tryz.sizeOf32 (Nat.le_of_ble_eq_true rfl)) ?_
  have H5 : Hid (Mm (w4.setCells γ1_0 (6 * 0) (cel [u2 0, u2 1, u2 2, u2 3, u2 4, u2 5, u2 6, u2 7, u2 8, u2 9, u2 10, u2 11])) [(γ2_5, cel (tl ov)), (γ1_0, cel (tl u2)), (γ1_1, cel [0, 0, 0, 0, 0, 0, 0, 0, 0, 0, 0, 0]), (0, dtab)] ∧ Below w.heap.size w (w4.setCells γ1_0 (6 * 0) (cel [u2 0, u2 1, u2 2, u2 3, u2 4, u2 5, u2 6, u2 7, u2 8, u2 9, u2 10, u2 11]))) := ⟨by
    have h := H4.out.1.put 1 (off := 6 * 0) (vs := cel [u2 0, u2 1, u2 2, u2 3, u2 4, u2 5, u2 6, u2 7, u2 8, u2 9, u2 10, u2 11]) rfl (by simp only [cel_len]; exact Nat.le_of_ble_eq_true rfl)
    rw [cel_patch] at h
    exact h, below_setCells _ o1_0.out _ _ _ H4.out.2⟩
  clear H4
  generalize hgw : World.setCells _ _ _ _ = w5 at H5 ⊢
  clear hgw
  refine rest_nil (then_normal (wp_seq ?_))
  refine walk_anyB 4 [.quiet (V (tl u2)), .call (V (tl u3)), .quiet (V (tl u2)), .call (V (tl u4))] H5 ?ho5 ?he5
  case ho5 => exact ak (fun γ => ⟨rfl, fun w' h => ex_loadA (i := 0) (k := 12) h 1 rfl rfl rfl Tryz.isAgg32 Tryz.sizeOf32 rfl rfl⟩) (ak (fun γ => ⟨rfl, fun w' h => ⟨45, #[V (tl u2), .int .i64 2], exec_call rfl call45 rfl (mpn rfl), C3.out w'⟩⟩) (ak (fun γ => ⟨rfl, fun w' h => ex_loadA (i := 0) (k := 12) h 1 rfl rfl rfl Tryz.isAgg32 Tryz.sizeOf32 rfl rfl⟩) (ak (fun γ => ⟨rfl, fun w' h => ⟨22, #[V (tl u3), V (tl u2)], exec_call rfl call22 rfl (mpn rfl), C4.out w'⟩⟩) trivial)))
  intro _ w6 H6
  clear H5
  refine rest_at (l := [4]) rfl ?_
  refine rest_store rfl rfl rfl (ex_storeA (i := 0) (ms := [u4 0, u4 1, u4 2, u4 3, u4 4, u4 5, u4 6, u4 7, u4 8, u4 9, u4 10, u4 11]) H6.out.1 1 rfl rfl rfl rfl Tryz.sizeOf32 (Nat.le_of_ble_eq_true rfl)) ?_
  have H7 : Hid (Mm (w6.setCells γ1_0 (6 * 0) (cel [u4 0, u4 1, u4 2, u4 3, u4 4, u4 5, u4 6, u4 7, u4 8, u4 9, u4 10, u4 11])) [(γ2_5, cel (tl ov)), (γ1_0, cel (tl u4)), (γ1_1, cel [0, 0, 0, 0, 0, 0, 0, 0, 0, 0, 0, 0]), (0, dtab)] ∧ Below w.heap.size w (w6.setCells γ1_0 (6 * 0) (cel [u4 0, u4 1, u4 2, u4 3, u4 4, u4 5, u4 6, u4 7, u4 8, u4 9, u4 10, u4 11]))) := ⟨by
    have h := H6.out.1.put 1 (off := 6 * 0) (vs := cel [u4 0, u4 1, u4 2, u4 3, u4 4, u4 5, u4 6, u4 7, u4 8, u4 9, u4 10, u4 11]) rfl (by simp only [cel_len]; exact Nat.le_of_ble_eq_true rfl)
    rw [cel_patch] at h
    exact h, below_setCells _ o1_0.out _ _ _ H6.out.2⟩
  clear H6
  generalize hgw : World.setCells _ _ _ _ = w7 at H7 ⊢
  clear hgw
  refine rest_nil (then_normal (wp_seq ?_))
  refine walk_seqA 6 [.quiet (V (tl u4)), .call (V (tl u5)), .call (V (tl u6)), .call (V (tl u7)), .made (cel [0, 0, 0, 0, 0, 0, 0, 0, 0, 0, 0, 0]) 32, .laid 4 (cel [0, 0, 0, 0, 0, 0, 0, 0, 0, 0, 0, 0]) (cel (tl u7))] (sB H7) ?ho6 ?he6 (hL := ?hL6)
  case hL6 => exact ⟨⟨_, rfl⟩, trivial⟩
  case ho6 => exact ak (fun γ => ⟨rfl, fun w' h => ex_loadA (i := 0) (k := 12) h 1 rfl rfl rfl Tryz.isAgg32 Tryz.sizeOf32 rfl rfl⟩) (ak (fun γ => ⟨rfl, fun w' h => ⟨47, #[V (tl u4)], exec_call rfl call47 rfl (mpn rfl), C5.out w'⟩⟩) (ak (fun γ => ⟨rfl, fun w' h => ⟨47, #[V (tl u5)], exec_call rfl call47 rfl (mpn rfl), C6.out w'⟩⟩) (ak (fun γ => ⟨rfl, fun w' h => ⟨46, #[V (tl u6)], exec_call rfl call46 rfl (mpn rfl), C7.out w'⟩⟩) (ak (fun γ => ⟨rfl, fun w' => ex_madeE12 rfl⟩) (ak (fun γ => ⟨rfl, rfl, rfl, fun w' h => ex_laidA h rfl Tryz.sizeOf32 rfl rfl rfl⟩) trivial)))))
  intro γ w8 l hM hl
  have H8 : Hid (Mm w8 [(γ 4, cel (tl u7)), (γ2_5, cel (tl ov)), (γ1_0, cel (tl u4)), (γ1_1, cel [0, 0, 0, 0, 0, 0, 0, 0, 0, 0, 0, 0]), (0, dtab)] ∧ _) := growB H7 hM (Nat.le_refl _) hl [4] rfl (by decide)
  have o6_4 := ownB H7 hM (Nat.le_refl _) hl (i := 4) rfl
  clear hM hl l H7
  generalize γ 4 = γ6_4 at H8 o6_4 ⊢
  clear γ
  refine rest0 rfl (then_normal (wp_seq ?_))
  refine walk_anyA 8 [.quiet (V (tl u7)), .call (V (tl u8)), .quiet (V (tl u7)), .call (V (tl u9)), .call (V (tl u10)), .call (V (tl u11)), .made (cel [0, 0, 0, 0, 0, 0, 0, 0, 0, 0, 0, 0]) 32, .laid 6 (cel [0, 0, 0, 0, 0, 0, 0, 0, 0, 0, 0, 0]) (cel (tl u11))] (sB H8) ?ho7 ?he7 (hL := ?hL7)
  case hL7 => exact ⟨⟨_, rfl⟩, trivial⟩
  case ho7 => exact ak (fun γ => ⟨rfl, fun w' h => ex_loadA (i := 0) (k := 12) h 0 rfl rfl rfl Tryz.isAgg32 Tryz.sizeOf32 rfl rfl⟩) (ak (fun γ => ⟨rfl, fun w' h => ⟨45, #[V (tl u7), .int .i64 1], exec_call rfl call45 rfl (mpn rfl), C8.out w'⟩⟩) (ak (fun γ => ⟨rfl, fun w' h => ex_loadA (i := 0) (k := 12) h 0 rfl rfl rfl Tryz.isAgg32 Tryz.sizeOf32 rfl rfl⟩) (ak (fun γ => ⟨rfl, fun w' h => ⟨48, #[V (tl u7)], exec_call rfl call48 rfl (mpn rfl), C9.out w'⟩⟩) (ak (fun γ => ⟨rfl, fun w' h => ⟨44, #[V (tl u9)], exec_call rfl call44 rfl (mpn rfl), C10.out w'⟩⟩) (ak (fun γ => ⟨rfl, fun w' h => ⟨22, #[V (tl u8), V (tl u10)], exec_call rfl call22 rfl (mpn rfl), C11.out w'⟩⟩) (ak (fun γ => ⟨rfl, fun w' => ex_madeE12 rfl⟩) (ak (fun γ => ⟨rfl, rfl, rfl, fun w' h => ex_laidA h rfl Tryz.sizeOf32 rfl rfl rfl⟩) trivial)))))))
  intro γ w9 l hM hl
  have H9 : Hid (Mm w9 [(γ 6, cel (tl u11)), (γ6_4, cel (tl u7)), (γ2_5, cel (tl ov)), (γ1_0, cel (tl u4)), (γ1_1, cel [0, 0, 0, 0, 0, 0, 0, 0, 0, 0, 0, 0]), (0, dtab)] ∧ _) := growB H8 hM (Nat.le_refl _) hl [6] rfl (by decide)
  have o7_6 := ownB H8 hM (Nat.le_refl _) hl (i := 6) rfl
  clear hM hl l H8
  generalize γ 6 = γ7_6 at H9 o7_6 ⊢
  clear γ
  refine rest0 rfl (then_normal (wp_seq ?_))
  refine walk_anyA 11 [.quiet (V (tl u11)), .call (V (tl u12)), .call (V (tl u13)), .quiet (V (tl u11)), .call (V (tl u14)), .quiet (V (tl u11)), .call (V (tl u15)), .call (V (tl u16)), .call (V (tl u17)), .made (cel [0, 0, 0, 0, 0, 0, 0, 0, 0, 0, 0, 0]) 32, .laid 9 (cel [0, 0, 0, 0, 0, 0, 0, 0, 0, 0, 0, 0]) (cel (tl u17))] (sB H9) ?ho8 ?he8 (hL := ?hL8)
  case hL8 => exact ⟨⟨_, rfl⟩, trivial⟩
  case ho8 => exact ak (fun γ => ⟨rfl, fun w' h => ex_loadA (i := 0) (k := 12) h 0 rfl rfl rfl Tryz.isAgg32 Tryz.sizeOf32 rfl rfl⟩) (ak (fun γ => ⟨rfl, fun w' h => ⟨48, #[V (tl u11)], exec_call rfl call48 rfl (mpn rfl), C12.out w'⟩⟩) (ak (fun γ => ⟨rfl, fun w' h => ⟨48, #[V (tl u12)], exec_call rfl call48 rfl (mpn rfl), C13.out w'⟩⟩) (ak (fun γ => ⟨rfl, fun w' h => ex_loadA (i := 0) (k := 12) h 0 rfl rfl rfl Tryz.isAgg32 Tryz.sizeOf32 rfl rfl⟩) (ak (fun γ => ⟨rfl, fun w' h => ⟨45, #[V (tl u11), .int .i64 2], exec_call rfl call45 rfl (mpn rfl), C14.out w'⟩⟩) (ak (fun γ => ⟨rfl, fun w' h => ex_loadA (i := 0) (k := 12) h 0 rfl rfl rfl Tryz.isAgg32 Tryz.sizeOf32 rfl rfl⟩) (ak (fun γ => ⟨rfl, fun w' h => ⟨44, #[V (tl u11)], exec_call rfl call44 rfl (mpn rfl), C15.out w'⟩⟩) (ak (fun γ => ⟨rfl, fun w' h => ⟨22, #[V (tl u14), V (tl u15)], exec_call rfl call22 rfl (mpn rfl), C16.out w'⟩⟩) (ak (fun γ => ⟨rfl, fun w' h => ⟨22, #[V (tl u13), V (tl u16)], exec_call rfl call22 rfl (mpn rfl), C17.out w'⟩⟩) (ak (fun γ => ⟨rfl, fun w' => ex_madeE12 rfl⟩) (ak (fun γ => ⟨rfl, rfl, rfl, fun w' h => ex_laidA h rfl Tryz.sizeOf32 rfl rfl rfl⟩) trivial))))))))))
  intro γ w10 l hM hl
  have H10 : Hid (Mm w10 [(γ 9, cel (tl u17)), (γ7_6, cel (tl u11)), (γ6_4, cel (tl u7)), (γ2_5, cel (tl ov)), (γ1_0, cel (tl u4)), (γ1_1, cel [0, 0, 0, 0, 0, 0, 0, 0, 0, 0, 0, 0]), (0, dtab)] ∧ _) := growB H9 hM (Nat.le_refl _) hl [9] rfl (by decide)
  have o8_9 := ownB H9 hM (Nat.le_refl _) hl (i := 9) rfl
  clear hM hl l H9
  generalize γ 9 = γ8_9 at H10 o8_9 ⊢
  clear γ
  refine rest0 rfl (then_normal (wp_seq ?_))
  refine walk_seqB 3 [.quiet (V (tl u17)), .quiet (V (tl u4)), .call (V (tl r))] H10 ?ho9 ?he9
  case ho9 => exact ak (fun γ => ⟨rfl, fun w' h => ex_loadA (i := 0) (k := 12) h 0 rfl rfl rfl Tryz.isAgg32 Tryz.sizeOf32 rfl rfl⟩) (ak (fun γ => ⟨rfl, fun w' h => ex_loadA (i := 0) (k := 12) h 4 rfl rfl rfl Tryz.isAgg32 Tryz.sizeOf32 rfl rfl⟩) (ak (fun γ => ⟨rfl, fun w' h => ⟨22, #[V (tl u17), V (tl u4)], exec_call rfl call22 rfl (mpn rfl), C18.out w'⟩⟩) trivial))
  intro _ w11 H11
  clear H10
  refine rest_at (l := [3, 4]) rfl ?_
  refine rest_store rfl rfl rfl (ex_storeA (i := 0) (ms := [r 0, r 1, r 2, r 3, r 4, r 5, r 6, r 7, r 8, r 9, r 10, r 11]) H11.out.1 5 rfl rfl rfl rfl Tryz.sizeOf32 (Nat.le_of_ble_eq_true rfl)) ?_
  have H12 : Hid (Mm (w11.setCells γ1_1 (6 * 0) (cel [r 0, r 1, r 2, r 3, r 4, r 5, r 6, r 7, r 8, r 9, r 10, r 11])) [(γ8_9, cel (tl u17)), (γ7_6, cel (tl u11)), (γ6_4, cel (tl u7)), (γ2_5, cel (tl ov)), (γ1_0, cel (tl u4)), (γ1_1, cel (tl r)), (0, dtab)] ∧ Below w.heap.size w (w11.setCells γ1_1 (6 * 0) (cel [r 0, r 1, r 2, r 3, r 4, r 5, r 6, r 7, r 8, r 9, r 10, r 11]))) := ⟨by
    have h := H11.out.1.put 5 (off := 6 * 0) (vs := cel [r 0, r 1, r 2, r 3, r 4, r 5, r 6, r 7, r 8, r 9, r 10, r 11]) rfl (by simp only [cel_len]; exact Nat.le_of_ble_eq_true rfl)
    rw [cel_patch] at h
    exact h, below_setCells _ o1_1.out _ _ _ H11.out.2⟩
  clear H11
  generalize hgw : World.setCells _ _ _ _ = w12 at H12 ⊢
  clear hgw
  refine rest_set (d := 3) rfl rfl rfl rfl ?_
  simp only [Act.put, sa, sz, ss]
  refine rest_nil (then_normal (wp_ret ?_))
  repeat (first | refine then_ret ?_ | refine block_ret ?_)
  have hf0 := cel_var (k := 12) H12.out.1 5 rfl Tryz.isAgg32 Tryz.sizeOf32 rfl
  refine bodyPost_ret (v := .tuple #[V (tl r), .int .i64 0]) (by simp [results, Tryz.results13, asAddr, Act.eval, hf0]) rfl ?_
  exact ⟨rfl, H12.out.2⟩
set_option maxHeartbeats 4000000 in
set_option maxRecDepth 100000 in
theorem last_no (a : Nat → Nat)
    (c0 : ∀ w, Mm w [(0, dtab)] → Calls Tryz.prog 43 #[V (tl a)] w fun e w' => e = .returned (.tuple #[V [0, 0, 0, 0, 0, 0, 0, 0, 0, 0, 0, 0], .int .i64 6]) ∧ Below w.heap.size w w') (w : World) (hm : Mm w [(0, dtab)]) :
    Calls Tryz.prog 13 #[V (tl a)] w fun e w' => e = .returned (.tuple #[V [0, 0, 0, 0, 0, 0, 0, 0, 0, 0, 0, 0], .int .i64 6]) ∧ Below w.heap.size w w' := by
  have H0 : Hid (_ ∧ _) := ⟨hm, Below.refl w.heap.size w⟩
  clear hm
  have C0 : Hid _ := c0
  clear c0
  go_enter Tryz.func13, Tryz.ntmps13
  refine wp_seq ?_
  refine walk_seqA 3 [.made (cel (tl a)) 32, .made (cel [0, 0, 0, 0, 0, 0, 0, 0, 0, 0, 0, 0]) 32, .quiet (.int .i64 0)] (sB H0) ?ho1 ?he1
  case ho1 => exact ak (fun γ => ⟨rfl, fun w' => ex_boxA rfl rfl⟩) (ak (fun γ => ⟨rfl, fun w' => ex_madeE12 rfl⟩) (ak (fun _ => ⟨rfl, fun _ _ => rfl⟩) trivial))
  intro γ w1 l hM hl
  have H1 : Hid (Mm w1 [(γ 0, cel (tl a)), (γ 1, cel [0, 0, 0, 0, 0, 0, 0, 0, 0, 0, 0, 0]), (0, dtab)] ∧ _) := growB H0 hM (Nat.le_refl _) hl [0, 1] rfl (by decide)
  have o1_0 := ownB H0 hM (Nat.le_refl _) hl (i := 0) rfl
  have o1_1 := ownB H0 hM (Nat.le_refl _) hl (i := 1) rfl
  clear hM hl l
  generalize γ 0 = γ1_0 at H1 o1_0 ⊢
  generalize γ 1 = γ1_1 at H1 o1_1 ⊢
  clear γ
  refine rest0 rfl (then_normal (wp_seq ?_))
  refine walk_seqA 8 [.quiet (V (tl a)), .call (.tuple #[V [0, 0, 0, 0, 0, 0, 0, 0, 0, 0, 0, 0], .int .i64 6]), .quiet (.tuple #[V [0, 0, 0, 0, 0, 0, 0, 0, 0, 0, 0, 0], .int .i64 6]), .quiet (V [0, 0, 0, 0, 0, 0, 0, 0, 0, 0, 0, 0]), .quiet (.int .i64 6), .made (cel [0, 0, 0, 0, 0, 0, 0, 0, 0, 0, 0, 0]) 32, .laid 5 (cel [0, 0, 0, 0, 0, 0, 0, 0, 0, 0, 0, 0]) (cel [0, 0, 0, 0, 0, 0, 0, 0, 0, 0, 0, 0]), .quiet (.int .i64 6)] (sB H1) ?ho2 ?he2 (hL := ?hL2)
  case hL2 => exact ⟨⟨_, rfl⟩, trivial⟩
  case ho2 => exact ak (fun γ => ⟨rfl, fun w' h => ex_loadA (i := 0) (k := 12) h 0 rfl rfl rfl Tryz.isAgg32 Tryz.sizeOf32 rfl rfl⟩) (ak (fun γ => ⟨rfl, fun w' h => ⟨43, #[V (tl a)], exec_call rfl call43 rfl (mpn rfl), C0.out w' (h.one 2 rfl)⟩⟩) (ak (fun _ => ⟨rfl, fun _ _ => rfl⟩) (ak (by refine fun γ => ⟨rfl, fun w' h => ?_⟩; clear h; go_simp) (ak (by refine fun γ => ⟨rfl, fun w' h => ?_⟩; clear h; go_simp) (ak (fun γ => ⟨rfl, fun w' => ex_madeE12 rfl⟩) (ak (fun γ => ⟨rfl, rfl, rfl, fun w' h => ex_laidA h rfl Tryz.sizeOf32 rfl rfl rfl⟩) (ak (fun _ => ⟨rfl, fun _ _ => rfl⟩) trivial)))))))
  intro γ w2 l hM hl
  have H2 : Hid (Mm w2 [(γ 5, cel [0, 0, 0, 0, 0, 0, 0, 0, 0, 0, 0, 0]), (γ1_0, cel (tl a)), (γ1_1, cel [0, 0, 0, 0, 0, 0, 0, 0, 0, 0, 0, 0]), (0, dtab)] ∧ _) := growB H1 hM (Nat.le_refl _) hl [5] rfl (by decide)
  have o2_5 := ownB H1 hM (Nat.le_refl _) hl (i := 5) rfl
  clear hM hl l H1
  generalize γ 5 = γ2_5 at H2 o2_5 ⊢
  clear γ
  refine rest0 rfl (then_normal (wp_seq (wp_seq ?_)))
  refine walk_seqB 2 [.quiet (.int .i64 6), .quiet (.bool true)] H2 ?ho3 ?he3
  case ho3 => exact ak (fun _ => ⟨rfl, fun _ _ => rfl⟩) (ak (by refine fun γ => ⟨rfl, fun w' h => ?_⟩; clear h; go_simp) trivial)
  intro _ w3 H3
  clear H2
  refine rest0 rfl (then_normal (wp_cond_true rfl (wp_seq ?_)))
  refine walk_seqB 2 [.quiet (V [0, 0, 0, 0, 0, 0, 0, 0, 0, 0, 0, 0]), .quiet (.int .i64 6)] H3 ?ho4 ?he4
  case ho4 => exact ak (fun γ => ⟨rfl, fun w' _ => ex_buildE12z rfl⟩) (ak (fun _ => ⟨rfl, fun _ _ => rfl⟩) trivial)
  intro _ w4 H4
  clear H3
  refine rest_at (l := [2, 3]) rfl ?_
  refine rest_store rfl rfl rfl (ex_storeA (i := 0) (ms := [0, 0, 0, 0, 0, 0, 0, 0, 0, 0, 0, 0]) H4.out.1 2 rfl rfl rfl rfl Tryz.sizeOf32 (Nat.le_of_ble_eq_true rfl)) ?_
  have H5 : Hid (Mm (w4.setCells γ1_1 (6 * 0) (cel [0, 0, 0, 0, 0, 0, 0, 0, 0, 0, 0, 0])) [(γ2_5, cel [0, 0, 0, 0, 0, 0, 0, 0, 0, 0, 0, 0]), (γ1_0, cel (tl a)), (γ1_1, cel [0, 0, 0, 0, 0, 0, 0, 0, 0, 0, 0, 0]), (0, dtab)] ∧ Below w.heap.size w (w4.setCells γ1_1 (6 * 0) (cel [0, 0, 0, 0, 0, 0, 0, 0, 0, 0, 0, 0]))) := ⟨by
    have h := H4.out.1.put 2 (off := 6 * 0) (vs := cel [0, 0, 0, 0, 0, 0, 0, 0, 0, 0, 0, 0]) rfl (by simp only [cel_len]; exact Nat.le_of_ble_eq_true rfl)
    rw [cel_patch] at h
    exact h, below_setCells _ o1_1.out _ _ _ H4.out.2⟩
  clear H4
  generalize hgw : World.setCells _ _ _ _ = w5 at H5 ⊢
  clear hgw
  refine rest_set (d := 3) rfl rfl rfl rfl ?_
  simp only [Act.put, sa, sz, ss]
  refine rest_nil (then_normal (wp_ret ?_))
  repeat (first | refine then_ret ?_ | refine block_ret ?_)
  have hf0 := cel_var (k := 12) H5.out.1 2 rfl Tryz.isAgg32 Tryz.sizeOf32 rfl
  refine bodyPost_ret (v := .tuple #[V [0, 0, 0, 0, 0, 0, 0, 0, 0, 0, 0, 0], .int .i64 6]) (by simp [results, Tryz.results13, asAddr, Act.eval, hf0]) rfl ?_
  exact ⟨rfl, H5.out.2⟩
set_option maxHeartbeats 4000000 in
set_option maxRecDepth 100000 in
theorem doubleN_gen (o : Nat → Nat) (g : Nat)
    (c0 : ∀ w, Calls Tryz.prog 22 #[V (tl o), V (tl o)] w fun e w' => e = .returned (V (tl o)) ∧ Below w.heap.size w w') (w : World) (hm : Mm w [(g, cel (tl o) ++ [Value.slice none 0 0])]) :
    Calls Tryz.prog 198 #[PT g 0] w fun e w' => e = .returned (.tuple #[]) ∧ Mm w' [(g, cel (tl o) ++ [Value.slice none 0 0])] ∧ Kp g w w' := by
  have H0 : Hid (_ ∧ _) := ⟨hm, Kp.refl g w⟩
  clear hm
  have C0 : Hid _ := c0
  clear c0
  go_enter Tryz.func198, Tryz.ntmps198
  refine wp_seq ?_
  refine walk_anyA 12 [.quiet (PT g 0), .quiet (PT g 0), .quiet (PT g 0), .quiet (PT g 0), .quiet (V (tl o)), .quiet (PT g 0), .quiet (PT g 0), .quiet (PT g 0), .quiet (V (tl o)), .call (V (tl o)), .quiet (PT g 0), .quiet (PT g 0)] (sB H0) ?ho1 ?he1
  case ho1 => exact ak (fun _ => ⟨rfl, fun _ _ => rfl⟩) (ak (fun _ => ⟨rfl, fun _ _ => rfl⟩) (ak (by refine fun γ => ⟨rfl, fun w' h => ?_⟩; clear h; go_simp) (ak (by refine fun γ => ⟨rfl, fun w' h => ?_⟩; clear h; go_simp) (ak (fun γ => ⟨rfl, fun w' h => ex_loadT h 0 rfl rfl rfl Tryz.isAgg32 Tryz.sizeOf32 rfl rfl⟩) (ak (fun _ => ⟨rfl, fun _ _ => rfl⟩) (ak (by refine fun γ => ⟨rfl, fun w' h => ?_⟩; clear h; go_simp) (ak (by refine fun γ => ⟨rfl, fun w' h => ?_⟩; clear h; go_simp) (ak (fun γ => ⟨rfl, fun w' h => ex_loadT h 0 rfl rfl rfl Tryz.isAgg32 Tryz.sizeOf32 rfl rfl⟩) (ak (fun γ => ⟨rfl, fun w' h => ⟨22, #[V (tl o), V (tl o)], exec_call rfl call22 rfl (mpn rfl), C0.out w'⟩⟩) (ak (by refine fun γ => ⟨rfl, fun w' h => ?_⟩; clear h; go_simp) (ak (by refine fun γ => ⟨rfl, fun w' h => ?_⟩; clear h; go_simp) trivial)))))))))))
  intro γ w1 l hM hl
  have H1 := keepK H0 hM.below
  clear hM hl l γ
  refine rest_at (l := [12]) rfl ?_
  refine rest_store rfl rfl rfl (ex_storeT (vs := cel [o 0, o 1, o 2, o 3, o 4, o 5, o 6, o 7, o 8, o 9, o 10, o 11]) H1.out.1 0 rfl rfl rfl rfl Tryz.sizeOf32 rfl (Nat.le_of_ble_eq_true rfl)) ?_
  have H2 : Hid (Mm (w1.setCells g 0 (cel [o 0, o 1, o 2, o 3, o 4, o 5, o 6, o 7, o 8, o 9, o 10, o 11])) [(g, cel (tl o) ++ [Value.slice none 0 0])] ∧ Kp g w (w1.setCells g 0 (cel [o 0, o 1, o 2, o 3, o 4, o 5, o 6, o 7, o 8, o 9, o 10, o 11]))) := ⟨H1.out.1.put 0 (off := 0) (vs := cel [o 0, o 1, o 2, o 3, o 4, o 5, o 6, o 7, o 8, o 9, o 10, o 11]) rfl (Nat.le_of_ble_eq_true rfl), H1.out.2.put (Or.inl rfl)⟩
  clear H1
  generalize hgw : World.setCells _ _ _ _ = w2 at H2 ⊢
  clear hgw
  refine rest_nil (then_normal (wp_seq ?_))
  refine walk_seqA 6 [.quiet (PT g 0), .quiet (PT g 0), .quiet (PT g 72), .quiet (.slice none 0 0), .quiet (.int .i64 0), .quiet (.int .i64 0)] (sB H2) ?ho2 ?he2
  case ho2 => exact ak (fun _ => ⟨rfl, fun _ _ => rfl⟩) (ak (by refine fun γ => ⟨rfl, fun w' h => ?_⟩; clear h; go_simp) (ak (by refine fun γ => ⟨rfl, fun w' h => ?_⟩; clear h; go_simp) (ak (fun γ => ⟨rfl, fun w' h => ex_loadC h 0 rfl rfl rfl Tryz.isAgg169 rfl⟩) (ak (by refine fun γ => ⟨rfl, fun w' h => ?_⟩; clear h; go_simp) (ak (fun _ => ⟨rfl, fun _ _ => rfl⟩) trivial)))))
  intro γ w3 l hM hl
  have H3 := keepK H2 hM.below
  clear hM hl l H2 γ
  refine rest0 rfl (then_normal (wp_block ?_))
  refine wp_loop_rounds 1 ?_
  refine rounds_in0 (n := 0) ?_
  refine wp_seq ?_
  refine walk_seqA 1 [.quiet (.bool false)] (sB H3) ?ho3 ?he3
  case ho3 => exact ak (by refine fun γ => ⟨rfl, fun w' h => ?_⟩; clear h; go_simp) trivial
  intro γ w4 l hM hl
  have H4 := keepK H3 hM.below
  clear hM hl l H3 γ
  refine rest0 rfl (then_normal (wp_seq (wp_cond_false rfl ?_)))
  refine wp_exit ?_
  repeat refine then_exit ?_
  refine block_exit ?_
  refine bodyPost_end (v := .tuple #[]) (by simp [results, Tryz.results198, go_sem]) rfl ?_
  exact ⟨rfl, H4.out.1.one 0 rfl, H4.out.2⟩
set_option maxHeartbeats 4000000 in
set_option maxRecDepth 100000 in
theorem addN_gen (o : Nat → Nat) (g : Nat) (w : World) (hm : Mm w [(g, cel (tl o) ++ [Value.slice none 0 0])]) :
    Calls Tryz.prog 199 #[PT g 0] w fun e w' => e = .returned (.tuple #[]) ∧ Below w.heap.size w w' := by
  have H0 : Hid (_ ∧ _) := ⟨hm, Below.refl w.heap.size w⟩
  clear hm
  go_enter Tryz.func199, Tryz.ntmps199
  refine wp_seq ?_
  refine walk_seqB 6 [.quiet (PT g 0), .quiet (PT g 0), .quiet (PT g 72), .quiet (.slice none 0 0), .quiet (.int .i64 0), .quiet (.int .i64 0)] H0 ?ho1 ?he1
  case ho1 => exact ak (fun _ => ⟨rfl, fun _ _ => rfl⟩) (ak (by refine fun γ => ⟨rfl, fun w' h => ?_⟩; clear h; go_simp) (ak (by refine fun γ => ⟨rfl, fun w' h => ?_⟩; clear h; go_simp) (ak (fun γ => ⟨rfl, fun w' h => ex_loadC h 0 rfl rfl rfl Tryz.isAgg169 rfl⟩) (ak (by refine fun γ => ⟨rfl, fun w' h => ?_⟩; clear h; go_simp) (ak (fun _ => ⟨rfl, fun _ _ => rfl⟩) trivial)))))
  intro _ w1 H1
  refine rest0 rfl (then_normal (wp_block ?_))
  refine wp_loop_rounds 1 ?_
  refine rounds_in0 (n := 0) ?_
  refine wp_seq ?_
  refine walk_seqB 1 [.quiet (.bool false)] H1 ?ho2 ?he2
  case ho2 => exact ak (by refine fun γ => ⟨rfl, fun w' h => ?_⟩; clear h; go_simp) trivial
  intro _ w2 H2
  clear H1
  refine rest0 rfl (then_normal (wp_seq (wp_cond_false rfl ?_)))
  refine wp_exit ?_
  repeat refine then_exit ?_
  refine block_exit ?_
  refine bodyPost_end (v := .tuple #[]) (by simp [results, Tryz.results199, go_sem]) rfl ?_
  exact ⟨rfl, H2.out.2⟩
set_option maxHeartbeats 8000000 in
set_option maxRecDepth 100000 in
theorem goAllN_gen (o : Nat → Nat) (g : Nat) (wo : Nat → Int) (dg : Nat → Nat) (hs : wo 0 = 15132376222941642752)
    (cd : ∀ w, Mm w [(g, cel (tl o) ++ [Value.slice none 0 0])] → Calls Tryz.prog 198 #[PT g 0] w fun e w' => e = .returned (.tuple #[]) ∧ Mm w' [(g, cel (tl o) ++ [Value.slice none 0 0])] ∧ Kp g w w')
    (ca : ∀ w, Mm w [(g, cel (tl o) ++ [Value.slice none 0 0])] → Calls Tryz.prog 199 #[PT g 0] w fun e w' => e = .returned (.tuple #[]) ∧ Below w.heap.size w w')
    (hd : ∀ k, wo k / 2 ^ 63 = ((dg k : Nat) : Int)) (hw : ∀ k, IntKind.u64.wrap (wo k * 2 ^ 1) = wo (k + 1)) (w : World) (hm : Mm w [(g, cel (tl o) ++ [Value.slice none 0 0])]) :
    Calls Tryz.prog 141 #[PT g 0] w fun e w' => e = .returned (.tuple #[]) ∧ Mm w' [(g, cel (tl o) ++ [Value.slice none 0 0])] ∧ Kp g w w' := by
  have H0 : Hid (_ ∧ _) := ⟨hm, Kp.refl g w⟩
  clear hm
  have CD : Hid _ := cd
  have CA : Hid _ := ca
  have HD : Hid _ := hd
  have HW : Hid _ := hw
  have HS : Hid _ := hs
  clear cd ca hd hw hs
  go_enter Tryz.func141, Tryz.ntmps141
  refine wp_seq ?_
  refine walk_seqA 1 [.quiet (.int .u64 15132376222941642752)] (sB H0) ?ho1 ?he1
  case ho1 => exact ak (fun _ => ⟨rfl, fun _ _ => rfl⟩) trivial
  intro γ w1 l hM hl
  have H1 := keepK H0 hM.below
  clear hM hl l γ
  refine rest0 rfl (then_normal (wp_seq ?_))
  refine walk_seqA 1 [.quiet (.int .i64 0)] (sB H1) ?ho2 ?he2
  case ho2 => exact ak (fun _ => ⟨rfl, fun _ _ => rfl⟩) trivial
  intro γ w2 l hM hl
  have H2 := keepK H1 hM.below
  clear hM hl l H1 γ
  refine rest0 rfl (then_normal (wp_block ?_))
  refine loop_ghost (α := Nat) (fun k a' w' => ∃ s0 : Nat → Value, a' = ⟨#[PT g 0, undef, .int .u64 (wo k), .int .i64 ((k : Nat) : Int), s0 4, s0 5, s0 6, s0 7, s0 8, s0 9, s0 10, s0 11, s0 12, s0 13, s0 14], []⟩ ∧ (Mm w' [(g, cel (tl o) ++ [Value.slice none 0 0])] ∧ Kp g w w') ∧ k ≤ 63) (fun k => 63 - k) 0 ?st0 ?rd0
  case st0 => exact ⟨(slotfn [undef, undef, undef, undef, undef, undef, undef, undef, undef, undef, undef, undef, undef, undef, undef]), by rw [HS.out]; rfl, ⟨H2.out.1, H2.out.2⟩, by omega⟩
  intro k a' w3 hI
  obtain ⟨s0, rfl, hMB, hk0⟩ := hI
  have H3 : Hid (_ ∧ _) := hMB
  clear hMB H2
  by_cases hlt0 : k < 63
  · have hrd : True := trivial
    clear hrd
    by_cases hdz : dg (k + 1) = 1
    · have hrd : True := trivial
      clear hrd
      refine wp_seq ?_
      refine walk_seqA 1 [.quiet (.bool true)] (sB H3) ?ho3 ?he3
      case ho3 => exact ak (by refine fun γ => ⟨rfl, fun w' h => ?_⟩; clear h; go_simp <;> omega) trivial
      intro γ w4 l hM hl
      have H4 := keepK H3 hM.below
      clear hM hl l H3 γ
      refine rest0 rfl (then_normal (wp_seq ?_))
      refine wp_cond_true rfl (wp_skip ?_)
      refine then_normal (wp_seq ?_)
      refine wp_block (wp_seq ?_)
      refine walk_seqA 2 [.quiet (.int .u64 (wo k)), .quiet (.int .u64 (wo (k + 1)))] (sB H4) ?ho4 ?he4
      case ho4 => exact ak (fun _ => ⟨rfl, fun _ _ => rfl⟩) (ak (fun γ => ⟨rfl, fun w' _ => by rw [← HW.out k]; exact ex_shlP rfl rfl rfl⟩) trivial)
      intro γ w5 l hM hl
      have H5 := keepK H4 hM.below
      clear hM hl l H4 γ
      refine rest_at (l := [2]) rfl ?_
      refine rest_set (d := 2) rfl rfl rfl rfl ?_
      simp only [Act.put, sa, sz, ss]
      refine rest_nil (then_normal (wp_seq ?_))
      refine walk_seqA 1 [.quiet (PT g 0)] (sB H5) ?ho5 ?he5
      case ho5 => exact ak (fun _ => ⟨rfl, fun _ _ => rfl⟩) trivial
      intro γ w6 l hM hl
      have H6 := keepK H5 hM.below
      clear hM hl l H5 γ
      refine rest_at (l := [1]) rfl ?_
      refine rest_enter (d := 8) (R := fun vv w' => vv = .tuple #[] ∧ Mm w' [(g, cel (tl o) ++ [Value.slice none 0 0])] ∧ Kp g w6 w') rfl rfl rfl (exec_call (args := #[PT g 0]) rfl call198 rfl (mpn rfl)) (Calls.mono (CD.out w6 (H6.out.1.one 0 rfl)) (fun e w2 hh => ⟨_, hh.1, rfl, hh.2⟩)) ?_
      rintro _ w7 ⟨rfl, hn, hp⟩
      have H7 : Hid (Mm w7 [(g, cel (tl o) ++ [Value.slice none 0 0])] ∧ Kp g w w7) := ⟨H6.out.1.change 0 rfl hp hn, H6.out.2.join hp⟩
      clear hn hp H6
      simp only [Act.put, sa, sz, ss]
      refine rest_nil (then_normal (wp_seq ?_))
      refine walk_seqA 3 [.quiet (.int .u64 (wo (k + 1))), .quiet (.int .u64 ((dg (k + 1) : Nat) : Int)), .quiet (.bool true)] (sB H7) ?ho6 ?he6
      case ho6 => exact ak (fun _ => ⟨rfl, fun _ _ => rfl⟩) (ak (fun γ => ⟨rfl, fun w' _ => by rw [← HD.out (k + 1)]; exact ex_shrP rfl rfl rfl⟩) (ak (by refine fun γ => ⟨rfl, fun w' h => ?_⟩; clear h; go_simp <;> omega) trivial))
      intro γ w8 l hM hl
      have H8 := keepK H7 hM.below
      clear hM hl l H7 γ
      refine rest0 rfl (then_normal (wp_cond_true rfl ?_))
      refine walk_seqA 2 [.quiet (PT g 0), .call (.tuple #[])] (sB H8) ?ho7 ?he7
      case ho7 => exact ak (fun _ => ⟨rfl, fun _ _ => rfl⟩) (ak (fun γ => ⟨rfl, fun w' h => ⟨199, #[PT g 0], exec_call rfl call199 rfl (mpn rfl), CA.out w' (h.one 0 rfl)⟩⟩) trivial)
      intro γ w9 l hM hl
      have H9 := keepK H8 hM.below
      clear hM hl l H8 γ
      refine rest0 rfl ?_
      refine block_normal (then_normal ?_)
      refine walk_seqA 1 [.quiet (.int .i64 ((k + 1 : Nat) : Int))] (sB H9) ?ho8 ?he8
      case ho8 => exact ak (by refine fun γ => ⟨rfl, fun w' h => ?_⟩; clear h; go_simp; rw [IntKind.wrap_i64]; omega) trivial
      intro γ w10 l hM hl
      have H10 := keepK H9 hM.below
      clear hM hl l H9 γ
      refine rest_at (l := [1]) rfl ?_
      refine rest_set (d := 3) rfl rfl rfl rfl ?_
      simp only [Act.put, sa, sz, ss]
      refine rest_nil (then_normal ?_)
      exact ⟨k + 1, ⟨(slotfn [undef, undef, undef, undef, .bool true, .int .u64 (wo k), .int .u64 (wo (k + 1)), PT g 0, .tuple #[], .int .u64 (wo (k + 1)), .int .u64 ((dg (k + 1) : Nat) : Int), .bool true, PT g 0, .tuple #[], .int .i64 ((k + 1 : Nat) : Int)]), rfl, ⟨H10.out.1, H10.out.2⟩, by omega⟩, by omega⟩
    · have hrd : True := trivial
      clear hrd
      refine wp_seq ?_
      refine walk_seqA 1 [.quiet (.bool true)] (sB H3) ?ho9 ?he9
      case ho9 => exact ak (by refine fun γ => ⟨rfl, fun w' h => ?_⟩; clear h; go_simp <;> omega) trivial
      intro γ w11 l hM hl
      have H11 := keepK H3 hM.below
      clear hM hl l H3 γ
      refine rest0 rfl (then_normal (wp_seq ?_))
      refine wp_cond_true rfl (wp_skip ?_)
      refine then_normal (wp_seq ?_)
      refine wp_block (wp_seq ?_)
      refine walk_seqA 2 [.quiet (.int .u64 (wo k)), .quiet (.int .u64 (wo (k + 1)))] (sB H11) ?ho10 ?he10
      case ho10 => exact ak (fun _ => ⟨rfl, fun _ _ => rfl⟩) (ak (fun γ => ⟨rfl, fun w' _ => by rw [← HW.out k]; exact ex_shlP rfl rfl rfl⟩) trivial)
      intro γ w12 l hM hl
      have H12 := keepK H11 hM.below
      clear hM hl l H11 γ
      refine rest_at (l := [2]) rfl ?_
      refine rest_set (d := 2) rfl rfl rfl rfl ?_
      simp only [Act.put, sa, sz, ss]
      refine rest_nil (then_normal (wp_seq ?_))
      refine walk_seqA 1 [.quiet (PT g 0)] (sB H12) ?ho11 ?he11
      case ho11 => exact ak (fun _ => ⟨rfl, fun _ _ => rfl⟩) trivial
      intro γ w13 l hM hl
      have H13 := keepK H12 hM.below
      clear hM hl l H12 γ
      refine rest_at (l := [1]) rfl ?_
      refine rest_enter (d := 8) (R := fun vv w' => vv = .tuple #[] ∧ Mm w' [(g, cel (tl o) ++ [Value.slice none 0 0])] ∧ Kp g w13 w') rfl rfl rfl (exec_call (args := #[PT g 0]) rfl call198 rfl (mpn rfl)) (Calls.mono (CD.out w13 (H13.out.1.one 0 rfl)) (fun e w2 hh => ⟨_, hh.1, rfl, hh.2⟩)) ?_
      rintro _ w14 ⟨rfl, hn, hp⟩
      have H14 : Hid (Mm w14 [(g, cel (tl o) ++ [Value.slice none 0 0])] ∧ Kp g w w14) := ⟨H13.out.1.change 0 rfl hp hn, H13.out.2.join hp⟩
      clear hn hp H13
      simp only [Act.put, sa, sz, ss]
      refine rest_nil (then_normal (wp_seq ?_))
      refine walk_seqA 3 [.quiet (.int .u64 (wo (k + 1))), .quiet (.int .u64 ((dg (k + 1) : Nat) : Int)), .quiet (.bool false)] (sB H14) ?ho12 ?he12
      case ho12 => exact ak (fun _ => ⟨rfl, fun _ _ => rfl⟩) (ak (fun γ => ⟨rfl, fun w' _ => by rw [← HD.out (k + 1)]; exact ex_shrP rfl rfl rfl⟩) (ak (by refine fun γ => ⟨rfl, fun w' h => ?_⟩; clear h; go_simp <;> omega) trivial))
      intro γ w15 l hM hl
      have H15 := keepK H14 hM.below
      clear hM hl l H14 γ
      refine rest0 rfl (then_normal (wp_cond_false rfl ?_))
      refine wp_skip (block_normal (then_normal ?_))
      refine walk_seqA 1 [.quiet (.int .i64 ((k + 1 : Nat) : Int))] (sB H15) ?ho13 ?he13
      case ho13 => exact ak (by refine fun γ => ⟨rfl, fun w' h => ?_⟩; clear h; go_simp; rw [IntKind.wrap_i64]; omega) trivial
      intro γ w16 l hM hl
      have H16 := keepK H15 hM.below
      clear hM hl l H15 γ
      refine rest_at (l := [1]) rfl ?_
      refine rest_set (d := 3) rfl rfl rfl rfl ?_
      simp only [Act.put, sa, sz, ss]
      refine rest_nil (then_normal ?_)
      exact ⟨k + 1, ⟨(slotfn [undef, undef, undef, undef, .bool true, .int .u64 (wo k), .int .u64 (wo (k + 1)), PT g 0, .tuple #[], .int .u64 (wo (k + 1)), .int .u64 ((dg (k + 1) : Nat) : Int), .bool false, s0 12, s0 13, .int .i64 ((k + 1 : Nat) : Int)]), rfl, ⟨H16.out.1, H16.out.2⟩, by omega⟩, by omega⟩
  have hk63 : k = 63 := by omega
  subst hk63
  refine wp_seq ?_
  refine walk_seqA 1 [.quiet (.bool false)] (sB H3) ?ho14 ?he14
  case ho14 => exact ak (by refine fun γ => ⟨rfl, fun w' h => ?_⟩; clear h; go_simp <;> omega) trivial
  intro γ w17 l hM hl
  have H17 := keepK H3 hM.below
  clear hM hl l H3 γ
  refine rest0 rfl (then_normal (wp_seq (wp_cond_false rfl ?_)))
  refine wp_exit ?_
  repeat refine then_exit ?_
  refine block_exit ?_
  refine bodyPost_end (v := .tuple #[]) (by simp [results, Tryz.results141, go_sem]) rfl ?_
  exact ⟨rfl, H17.out.1.one 0 rfl, H17.out.2⟩
set_option maxHeartbeats 4000000 in
set_option maxRecDepth 100000 in
theorem walkedN_gen (o : Nat → Nat) (co : ∀ w, Calls Tryz.prog 32 #[] w fun e w' => e = .returned (V (tl o)) ∧ Below w.heap.size w w') (cj : ∀ w, Calls Tryz.prog 44 #[V (tl o)] w fun e w' => e = .returned (V (tl o)) ∧ Below w.heap.size w w') (cg : ∀ g w, Mm w [(g, cel (tl o) ++ [Value.slice none 0 0])] → Calls Tryz.prog 141 #[PT g 0] w fun e w' => e = .returned (.tuple #[]) ∧ Mm w' [(g, cel (tl o) ++ [Value.slice none 0 0])] ∧ Kp g w w') (w : World) :
    Calls Tryz.prog 72 #[.slice none 0 0, .slice none 0 0] w fun e w' => e = .returned (V (tl o)) ∧ Below w.heap.size w w' := by
  have H0 : Hid (_ ∧ _) := ⟨Mm.nil w, Below.refl w.heap.size w⟩
  have CO : Hid _ := co
  have CJ : Hid _ := cj
  have CG : Hid _ := cg
  clear co cj cg
  go_enter Tryz.func72, Tryz.ntmps72
  refine wp_seq ?_
  refine walk_seqA 1 [.made (cel [0, 0, 0, 0, 0, 0, 0, 0, 0, 0, 0, 0]) 32] (sB H0) ?ho1 ?he1
  case ho1 => exact ak (fun γ => ⟨rfl, fun w' => ex_madeE12 rfl⟩) trivial
  intro γ w1 l hM hl
  have H1 : Hid (Mm w1 [(γ 0, cel [0, 0, 0, 0, 0, 0, 0, 0, 0, 0, 0, 0])] ∧ _) := growB H0 hM (Nat.le_refl _) hl [0] rfl (by decide)
  have o1_0 := ownB H0 hM (Nat.le_refl _) hl (i := 0) rfl
  clear hM hl l
  generalize γ 0 = γ1_0 at H1 o1_0 ⊢
  clear γ
  refine rest0 rfl (then_normal (wp_seq ?_))
  refine walk_seqA 4 [.call (V (tl o)), .quiet (.agg (cel (tl o) ++ [Value.slice none 0 0]).toArray), .made (cel [0, 0, 0, 0, 0, 0, 0, 0, 0, 0, 0, 0] ++ [Value.slice none 0 0]) 171, .laid 2 (cel [0, 0, 0, 0, 0, 0, 0, 0, 0, 0, 0, 0] ++ [Value.slice none 0 0]) (cel (tl o) ++ [Value.slice none 0 0])] (sB H1) ?ho2 ?he2 (hL := ?hL2)
  case hL2 => exact ⟨⟨_, rfl⟩, trivial⟩
  case ho2 => exact ak (fun γ => ⟨rfl, fun w' h => ⟨32, #[], exec_call rfl call32 rfl (mpn rfl), CO.out w'⟩⟩) (ak (fun γ => ⟨rfl, fun w' _ => ex_buildWK rfl rfl⟩) (ak (fun γ => ⟨rfl, fun w' => ex_madeWK rfl⟩) (ak (fun γ => ⟨rfl, rfl, rfl, fun w' h => ex_laidT h rfl rfl Tryz.sizeOf171 rfl rfl rfl⟩) trivial)))
  intro γ w2 l hM hl
  have H2 : Hid (Mm w2 [(γ 2, cel (tl o) ++ [Value.slice none 0 0]), (γ1_0, cel [0, 0, 0, 0, 0, 0, 0, 0, 0, 0, 0, 0])] ∧ _) := growB H1 hM (Nat.le_refl _) hl [2] rfl (by decide)
  have o2_2 := ownB H1 hM (Nat.le_refl _) hl (i := 2) rfl
  clear hM hl l H1
  generalize γ 2 = γ2_2 at H2 o2_2 ⊢
  clear γ
  refine rest0 rfl (then_normal (wp_seq (wp_seq ?_)))
  refine walk_seqB 3 [.quiet (.slice none 0 0), .quiet (.int .i64 0), .quiet (.int .i64 0)] H2 ?ho3 ?he3
  case ho3 => exact ak (fun _ => ⟨rfl, fun _ _ => rfl⟩) (ak (by refine fun γ => ⟨rfl, fun w' h => ?_⟩; clear h; go_simp) (ak (fun _ => ⟨rfl, fun _ _ => rfl⟩) trivial))
  intro _ w3 H3
  clear H2
  refine rest0 rfl (then_normal (wp_block ?_))
  refine wp_loop_rounds 1 ?_
  refine rounds_in0 (n := 0) ?_
  refine wp_seq ?_
  refine walk_seqB 1 [.quiet (.bool false)] H3 ?ho4 ?he4
  case ho4 => exact ak (by refine fun γ => ⟨rfl, fun w' h => ?_⟩; clear h; go_simp) trivial
  intro _ w4 H4
  clear H3
  refine rest0 rfl (then_normal (wp_seq (wp_cond_false rfl ?_)))
  refine wp_exit ?_
  repeat refine then_exit ?_
  refine block_exit ?_
  refine then_normal (wp_seq ?_)
  refine walk_seqB 0 [] H4 ?ho5 ?he5
  case ho5 => exact trivial
  intro _ w5 H5
  clear H4
  refine rest_at (l := [0]) rfl ?_
  refine rest_enter (d := 43) (R := fun vv w' => vv = .tuple #[] ∧ Mm w' [(γ2_2, cel (tl o) ++ [Value.slice none 0 0])] ∧ Kp γ2_2 w5 w') rfl rfl rfl (exec_call (args := #[PT γ2_2 0]) rfl call141 rfl (mpn rfl)) (Calls.mono (CG.out _ w5 (H5.out.1.one 0 rfl)) (fun e w2 hh => ⟨_, hh.1, rfl, hh.2⟩)) ?_
  rintro _ w6 ⟨rfl, hn, hp⟩
  have H6 : Hid (Mm w6 [(γ2_2, cel (tl o) ++ [Value.slice none 0 0]), (γ1_0, cel [0, 0, 0, 0, 0, 0, 0, 0, 0, 0, 0, 0])] ∧ Below w.heap.size w w6) := ⟨H5.out.1.change 0 rfl hp hn, Below.kp H5.out.2 hp o2_2.out H5.out.2.size⟩
  clear hn hp H5
  simp only [Act.put, sa, sz, ss]
  refine rest_nil (then_normal (wp_seq ?_))
  refine walk_seqB 3 [.quiet (PT γ2_2 0), .quiet (V (tl o)), .call (V (tl o))] H6 ?ho6 ?he6
  case ho6 => exact ak (by refine fun γ => ⟨rfl, fun w' h => ?_⟩; clear h; go_simp) (ak (fun γ => ⟨rfl, fun w' h => ex_loadT h 0 rfl rfl rfl Tryz.isAgg32 Tryz.sizeOf32 rfl rfl⟩) (ak (fun γ => ⟨rfl, fun w' h => ⟨44, #[V (tl o)], exec_call rfl call44 rfl (mpn rfl), CJ.out w'⟩⟩) trivial))
  intro _ w7 H7
  clear H6
  refine rest_at (l := [3]) rfl ?_
  refine rest_store rfl rfl rfl (ex_storeA (i := 0) (ms := [o 0, o 1, o 2, o 3, o 4, o 5, o 6, o 7, o 8, o 9, o 10, o 11]) H7.out.1 1 rfl rfl rfl rfl Tryz.sizeOf32 (Nat.le_of_ble_eq_true rfl)) ?_
  have H8 : Hid (Mm (w7.setCells γ1_0 (6 * 0) (cel [o 0, o 1, o 2, o 3, o 4, o 5, o 6, o 7, o 8, o 9, o 10, o 11])) [(γ2_2, cel (tl o) ++ [Value.slice none 0 0]), (γ1_0, cel (tl o))] ∧ Below w.heap.size w (w7.setCells γ1_0 (6 * 0) (cel [o 0, o 1, o 2, o 3, o 4, o 5, o 6, o 7, o 8, o 9, o 10, o 11]))) := ⟨by
    have h := H7.out.1.put 1 (off := 6 * 0) (vs := cel [o 0, o 1, o 2, o 3, o 4, o 5, o 6, o 7, o 8, o 9, o 10, o 11]) rfl (by simp only [cel_len]; exact Nat.le_of_ble_eq_true rfl)
    rw [cel_patch] at h
    exact h, below_setCells _ o1_0.out _ _ _ H7.out.2⟩
  clear H7
  generalize hgw : World.setCells _ _ _ _ = w8 at H8 ⊢
  clear hgw
  refine rest_nil (then_normal (wp_ret ?_))
  repeat (first | refine then_ret ?_ | refine block_ret ?_)
  have hf0 := cel_var (k := 12) H8.out.1 1 rfl Tryz.isAgg32 Tryz.sizeOf32 rfl
  refine bodyPost_ret (v := V (tl o)) (by simp [results, Tryz.results72, asAddr, hf0]) rfl ?_
  exact ⟨rfl, H8.out.2⟩
set_option maxHeartbeats 4000000 in
set_option maxRecDepth 100000 in
theorem pairsN_gen (o : Nat → Nat)
    (c0 : ∀ w, Calls Tryz.prog 72 #[.slice none 0 0, .slice none 0 0] w fun e w' => e = .returned (V (tl o)) ∧ Below w.heap.size w w')
    (c1 : ∀ w, Mm w [(0, dtab)] → Calls Tryz.prog 13 #[V (tl o)] w fun e w' => e = .returned (.tuple #[V (tl o), .int .i64 0]) ∧ Below w.heap.size w w') (w : World) (hm : Mm w [(0, dtab)]) :
    Calls Tryz.prog 33 #[.slice none 0 0, .slice none 0 0] w fun e w' => e = .returned (.tuple #[V (tl o), .int .i64 0]) ∧ Below w.heap.size w w' := by
  have H0 : Hid (_ ∧ _) := ⟨hm, Below.refl w.heap.size w⟩
  clear hm
  have C0 : Hid _ := c0
  have C1 : Hid _ := c1
  clear c0 c1
  go_enter Tryz.func33, Tryz.ntmps33
  refine wp_seq ?_
  refine walk_seqA 2 [.made (cel [0, 0, 0, 0, 0, 0, 0, 0, 0, 0, 0, 0]) 32, .quiet (.int .i64 0)] (sB H0) ?ho1 ?he1
  case ho1 => exact ak (fun γ => ⟨rfl, fun w' => ex_madeE12 rfl⟩) (ak (fun _ => ⟨rfl, fun _ _ => rfl⟩) trivial)
  intro γ w1 l hM hl
  have H1 : Hid (Mm w1 [(γ 0, cel [0, 0, 0, 0, 0, 0, 0, 0, 0, 0, 0, 0]), (0, dtab)] ∧ _) := growB H0 hM (Nat.le_refl _) hl [0] rfl (by decide)
  have o1_0 := ownB H0 hM (Nat.le_refl _) hl (i := 0) rfl
  clear hM hl l
  generalize γ 0 = γ1_0 at H1 o1_0 ⊢
  clear γ
  refine rest0 rfl (then_normal (wp_seq (wp_seq ?_)))
  refine walk_seqB 5 [.quiet (.slice none 0 0), .quiet (.int .i64 0), .quiet (.slice none 0 0), .quiet (.int .i64 0), .quiet (.bool false)] H1 ?ho2 ?he2
  case ho2 => exact ak (fun _ => ⟨rfl, fun _ _ => rfl⟩) (ak (by refine fun γ => ⟨rfl, fun w' h => ?_⟩; clear h; go_simp) (ak (fun _ => ⟨rfl, fun _ _ => rfl⟩) (ak (by refine fun γ => ⟨rfl, fun w' h => ?_⟩; clear h; go_simp) (ak (by refine fun γ => ⟨rfl, fun w' h => ?_⟩; clear h; go_simp) trivial))))
  intro _ w2 H2
  clear H1
  refine rest0 rfl (then_normal (wp_cond_false rfl ?_))
  refine wp_skip (then_normal ?_)
  refine wp_seq (wp_seq ?_)
  refine walk_seqB 3 [.quiet (.slice none 0 0), .quiet (.int .i64 0), .quiet (.int .i64 0)] H2 ?ho3 ?he3
  case ho3 => exact ak (fun _ => ⟨rfl, fun _ _ => rfl⟩) (ak (by refine fun γ => ⟨rfl, fun w' h => ?_⟩; clear h; go_simp) (ak (fun _ => ⟨rfl, fun _ _ => rfl⟩) trivial))
  intro _ w3 H3
  clear H2
  refine rest0 rfl (then_normal (wp_block ?_))
  refine wp_loop_rounds 1 ?_
  refine rounds_in0 (n := 0) ?_
  refine wp_seq ?_
  refine walk_seqB 1 [.quiet (.bool false)] H3 ?ho4 ?he4
  case ho4 => exact ak (by refine fun γ => ⟨rfl, fun w' h => ?_⟩; clear h; go_simp) trivial
  intro _ w4 H4
  clear H3
  refine rest0 rfl (then_normal (wp_seq (wp_cond_false rfl ?_)))
  refine wp_exit ?_
  repeat refine then_exit ?_
  refine block_exit ?_
  refine then_normal (wp_seq ?_)
  refine walk_seqB 6 [.quiet (.slice none 0 0), .quiet (.slice none 0 0), .call (V (tl o)), .call (.tuple #[V (tl o), .int .i64 0]), .quiet (V (tl o)), .quiet (.int .i64 0)] H4 ?ho5 ?he5
  case ho5 => exact ak (fun _ => ⟨rfl, fun _ _ => rfl⟩) (ak (fun _ => ⟨rfl, fun _ _ => rfl⟩) (ak (fun γ => ⟨rfl, fun w' h => ⟨72, #[.slice none 0 0, .slice none 0 0], exec_call rfl call72 rfl (mpn rfl), C0.out w'⟩⟩) (ak (fun γ => ⟨rfl, fun w' h => ⟨13, #[V (tl o)], exec_call rfl call13 rfl (mpn rfl), C1.out w' (h.one 1 rfl)⟩⟩) (ak (by refine fun γ => ⟨rfl, fun w' h => ?_⟩; clear h; go_simp) (ak (by refine fun γ => ⟨rfl, fun w' h => ?_⟩; clear h; go_simp) trivial)))))
  intro _ w5 H5
  clear H4
  refine rest_at (l := [6, 7]) rfl ?_
  refine rest_store rfl rfl rfl (ex_storeA (i := 0) (ms := [o 0, o 1, o 2, o 3, o 4, o 5, o 6, o 7, o 8, o 9, o 10, o 11]) H5.out.1 0 rfl rfl rfl rfl Tryz.sizeOf32 (Nat.le_of_ble_eq_true rfl)) ?_
  have H6 : Hid (Mm (w5.setCells γ1_0 (6 * 0) (cel [o 0, o 1, o 2, o 3, o 4, o 5, o 6, o 7, o 8, o 9, o 10, o 11])) [(γ1_0, cel (tl o)), (0, dtab)] ∧ Below w.heap.size w (w5.setCells γ1_0 (6 * 0) (cel [o 0, o 1, o 2, o 3, o 4, o 5, o 6, o 7, o 8, o 9, o 10, o 11]))) := ⟨by
    have h := H5.out.1.put 0 (off := 6 * 0) (vs := cel [o 0, o 1, o 2, o 3, o 4, o 5, o 6, o 7, o 8, o 9, o 10, o 11]) rfl (by simp only [cel_len]; exact Nat.le_of_ble_eq_true rfl)
    rw [cel_patch] at h
    exact h, below_setCells _ o1_0.out _ _ _ H5.out.2⟩
  clear H5
  generalize hgw : World.setCells _ _ _ _ = w6 at H6 ⊢
  clear hgw
  refine rest_set (d := 5) rfl rfl rfl rfl ?_
  simp only [Act.put, sa, sz, ss]
  refine rest_nil (then_normal (wp_ret ?_))
  repeat (first | refine then_ret ?_ | refine block_ret ?_)
  have hf0 := cel_var (k := 12) H6.out.1 0 rfl Tryz.isAgg32 Tryz.sizeOf32 rfl
  refine bodyPost_ret (v := .tuple #[V (tl o), .int .i64 0]) (by simp [results, Tryz.results33, asAddr, Act.eval, hf0]) rfl ?_
  exact ⟨rfl, H6.out.2⟩
set_option maxHeartbeats 4000000 in
set_option maxRecDepth 100000 in
theorem awakeP_gen (o : Nat → Nat) (e0 : ∀ w, (Op.equalIn 10000 32 (V (tl o)) (V (tl o))).run Tryz.prog w = .ok true w)
    (c0 : ∀ w, Mm w [(0, dtab)] → Calls Tryz.prog 33 #[.slice none 0 0, .slice none 0 0] w fun e w' => e = .returned (.tuple #[V (tl o), .int .i64 0]) ∧ Below w.heap.size w w')
    (c1 : ∀ w, Mm w [(0, dtab)] → Calls Tryz.prog 13 #[V [0, 0, 0, 0, 0, 0, 0, 0, 0, 0, 0, 0]] w fun e w' => e = .returned (.tuple #[V [0, 0, 0, 0, 0, 0, 0, 0, 0, 0, 0, 0], .int .i64 6]) ∧ Below w.heap.size w w')
    (c2 : ∀ w, Calls Tryz.prog 32 #[] w fun e w' => e = .returned (V (tl o)) ∧ Below w.heap.size w w') (w : World) (hm : Mm w [(0, dtab)]) :
    Calls Tryz.prog 17 #[] w fun e w' => e = .returned (.bool true) ∧ Below w.heap.size w w' := by
  have H0 : Hid (_ ∧ _) := ⟨hm, Below.refl w.heap.size w⟩
  clear hm
  have C0 : Hid _ := c0
  have C1 : Hid _ := c1
  have C2 : Hid _ := c2
  clear c0 c1 c2
  go_enter Tryz.func17, Tryz.ntmps17
  refine wp_seq ?_
  refine walk_seqB 1 [.quiet (.bool false)] H0 ?ho1 ?he1
  case ho1 => exact ak (fun _ => ⟨rfl, fun _ _ => rfl⟩) trivial
  intro _ w1 H1
  refine rest0 rfl (then_normal (wp_seq ?_))
  refine walk_seqA 7 [.call (.tuple #[V (tl o), .int .i64 0]), .quiet (.tuple #[V (tl o), .int .i64 0]), .quiet (V (tl o)), .quiet (.int .i64 0), .made (cel [0, 0, 0, 0, 0, 0, 0, 0, 0, 0, 0, 0]) 32, .laid 4 (cel [0, 0, 0, 0, 0, 0, 0, 0, 0, 0, 0, 0]) (cel (tl o)), .quiet (.int .i64 0)] (sB H1) ?ho2 ?he2 (hL := ?hL2)
  case hL2 => exact ⟨⟨_, rfl⟩, trivial⟩
  case ho2 => exact ak (fun γ => ⟨rfl, fun w' h => ⟨33, #[.slice none 0 0, .slice none 0 0], exec_call rfl call33 rfl (mpn rfl), C0.out w' (h.one 0 rfl)⟩⟩) (ak (fun _ => ⟨rfl, fun _ _ => rfl⟩) (ak (by refine fun γ => ⟨rfl, fun w' h => ?_⟩; clear h; go_simp) (ak (by refine fun γ => ⟨rfl, fun w' h => ?_⟩; clear h; go_simp) (ak (fun γ => ⟨rfl, fun w' => ex_madeE12 rfl⟩) (ak (fun γ => ⟨rfl, rfl, rfl, fun w' h => ex_laidA h rfl Tryz.sizeOf32 rfl rfl rfl⟩) (ak (fun _ => ⟨rfl, fun _ _ => rfl⟩) trivial))))))
  intro γ w2 l hM hl
  have H2 : Hid (Mm w2 [(γ 4, cel (tl o)), (0, dtab)] ∧ _) := growB H1 hM (Nat.le_refl _) hl [4] rfl (by decide)
  have o2_4 := ownB H1 hM (Nat.le_refl _) hl (i := 4) rfl
  clear hM hl l H1
  generalize γ 4 = γ2_4 at H2 o2_4 ⊢
  clear γ
  refine rest0 rfl (then_normal (wp_seq ?_))
  refine walk_seqA 8 [.quiet (V [0, 0, 0, 0, 0, 0, 0, 0, 0, 0, 0, 0]), .call (.tuple #[V [0, 0, 0, 0, 0, 0, 0, 0, 0, 0, 0, 0], .int .i64 6]), .quiet (.tuple #[V [0, 0, 0, 0, 0, 0, 0, 0, 0, 0, 0, 0], .int .i64 6]), .quiet (V [0, 0, 0, 0, 0, 0, 0, 0, 0, 0, 0, 0]), .quiet (.int .i64 6), .made (cel [0, 0, 0, 0, 0, 0, 0, 0, 0, 0, 0, 0]) 32, .laid 5 (cel [0, 0, 0, 0, 0, 0, 0, 0, 0, 0, 0, 0]) (cel [0, 0, 0, 0, 0, 0, 0, 0, 0, 0, 0, 0]), .quiet (.int .i64 6)] (sB H2) ?ho3 ?he3 (hL := ?hL3)
  case hL3 => exact ⟨⟨_, rfl⟩, trivial⟩
  case ho3 => exact ak (fun γ => ⟨rfl, fun w' _ => ex_buildE12z rfl⟩) (ak (fun γ => ⟨rfl, fun w' h => ⟨13, #[V [0, 0, 0, 0, 0, 0, 0, 0, 0, 0, 0, 0]], exec_call rfl call13 rfl (mpn rfl), C1.out w' (h.one 1 rfl)⟩⟩) (ak (fun _ => ⟨rfl, fun _ _ => rfl⟩) (ak (by refine fun γ => ⟨rfl, fun w' h => ?_⟩; clear h; go_simp) (ak (by refine fun γ => ⟨rfl, fun w' h => ?_⟩; clear h; go_simp) (ak (fun γ => ⟨rfl, fun w' => ex_madeE12 rfl⟩) (ak (fun γ => ⟨rfl, rfl, rfl, fun w' h => ex_laidA h rfl Tryz.sizeOf32 rfl rfl rfl⟩) (ak (fun _ => ⟨rfl, fun _ _ => rfl⟩) trivial)))))))
  intro γ w3 l hM hl
  have H3 : Hid (Mm w3 [(γ 5, cel [0, 0, 0, 0, 0, 0, 0, 0, 0, 0, 0, 0]), (γ2_4, cel (tl o)), (0, dtab)] ∧ _) := growB H2 hM (Nat.le_refl _) hl [5] rfl (by decide)
  have o3_5 := ownB H2 hM (Nat.le_refl _) hl (i := 5) rfl
  clear hM hl l H2
  generalize γ 5 = γ3_5 at H3 o3_5 ⊢
  clear γ
  refine rest0 rfl (then_normal (wp_seq ?_))
  refine walk_anyB 12 [.quiet (V (tl o)), .call (V (tl o)), .quiet (.bool true), .quiet (.bool true), .quiet (.int .i64 0), .quiet (.bool true), .quiet (.bool true), .quiet (.bool true), .quiet (.int .i64 6), .quiet (.bool true), .quiet (.bool true), .quiet (.bool true)] H3 ?ho4 ?he4
  case ho4 => exact ak (fun γ => ⟨rfl, fun w' h => ex_loadA (i := 0) (k := 12) h 1 rfl rfl rfl Tryz.isAgg32 Tryz.sizeOf32 rfl rfl⟩) (ak (fun γ => ⟨rfl, fun w' h => ⟨32, #[], exec_call rfl call32 rfl (mpn rfl), C2.out w'⟩⟩) (ak (fun γ => ⟨rfl, fun w' _ => exec_eqE12 e0 rfl rfl rfl⟩) (ak (fun _ => ⟨rfl, fun _ _ => rfl⟩) (ak (fun _ => ⟨rfl, fun _ _ => rfl⟩) (ak (by refine fun γ => ⟨rfl, fun w' h => ?_⟩; clear h; go_simp) (ak (by refine fun γ => ⟨rfl, fun w' h => ?_⟩; clear h; go_simp) (ak (fun _ => ⟨rfl, fun _ _ => rfl⟩) (ak (fun _ => ⟨rfl, fun _ _ => rfl⟩) (ak (by refine fun γ => ⟨rfl, fun w' h => ?_⟩; clear h; go_simp) (ak (by refine fun γ => ⟨rfl, fun w' h => ?_⟩; clear h; go_simp) (ak (fun _ => ⟨rfl, fun _ _ => rfl⟩) trivial)))))))))))
  intro _ w4 H4
  clear H3
  refine rest0 rfl (then_normal (wp_ret ?_))
  repeat (first | refine then_ret ?_ | refine block_ret ?_)
  refine bodyPost_ret (v := .bool true) (by simp [results, Tryz.results17, go_sem, *]) rfl ?_
  exact ⟨rfl, H4.out.2⟩
end Rg
end Go.Proofs.YtdbejmgomajjmaaGreatDoor
end
section
namespace Go.Proofs.YtdbejmgomajjmaaGreatDoor
open Go.RowKit
namespace Rg
theorem eq_pz (a : Nat → Int) : Eq12 (zn fun j => pz (a j)) a := fun j _ => dv_pz (a j)
theorem mulP12_any (a b r : Nat → Int) (h : mul12 a b = r) (w : World) : Calls Tryz.prog 22 #[V (lz a), V (lz b)] w fun e w' => e = .returned (V (lz r)) ∧ Below w.heap.size w w' := by
  subst h
  have h := mulT12_any (fun j => pz (a j)) (fun j => pz (b j)) (pz_12 _) (pz_12 _) w
  rw [lz_congr (mul12_pz a b)] at h
  exact h
theorem powP12_any (a : Nat → Int) (n : Nat) (hn : n < big) (w : World) : Calls Tryz.prog 27 #[V (lz a), N n] w fun e w' => e = .returned (V (lz (pw12 a n))) ∧ Below w.heap.size w w' := by
  have h := powT_any (fun j => pz (a j)) (pz_12 _) n hn w
  rw [(pw_cg (eq_pz a) n).lz] at h
  exact h
theorem frobC_any (a : Nat → Int) (n : Int) (k : Nat) (hk : em n = k) (w : World) : Calls Tryz.prog 45 #[V (lz a), .int .i64 n] w fun e w' => e = .returned (V (lz (Tn k a))) ∧ Below w.heap.size w w' := by
  subst hk
  exact frobP_any a n w
theorem cubedP_any (a r : Nat → Int) (h : hCu a = r) (w : World) : Calls Tryz.prog 46 #[V (lz a)] w fun e w' => e = .returned (V (lz r)) ∧ Below w.heap.size w w' := by
  subst h
  exact cubed_gen (fun j => pz (a j)) (fun j => pz (mul12 a a j)) (fun j => pz (hCu a j)) (fun w => mulP12_any a a _ rfl w) (fun w => mulP12_any a (mul12 a a) _ rfl w) w
theorem kT_lt : kT < big := small_big kT (by decide)
theorem byThirdP_any (a r : Nat → Int) (h : hTh a = r) (w : World) : Calls Tryz.prog 47 #[V (lz a)] w fun e w' => e = .returned (V (lz r)) ∧ Below w.heap.size w w' := by
  subst h
  exact byThird_gen (fun j => pz (a j)) (fun j => pz (hTh a j)) (fun w => powP12_any a kT kT_lt w) w
theorem bySeedP_any (a r : Nat → Int) (h : hSe a = r) (w : World) : Calls Tryz.prog 48 #[V (lz a)] w fun e w' => e = .returned (V (lz r)) ∧ Below w.heap.size w w' := by
  subst h
  exact bySeed_gen (fun j => pz (a j)) (fun j => pz (hTh a j)) (fun j => pz (hCu (hTh a) j)) (fun j => pz (cj12 a j)) (fun j => pz (hSe a j)) (fun w => byThirdP_any a _ rfl w) (fun w => cubedP_any (hTh a) _ rfl w) (fun w => conjP12_any a w) (fun w => mulP12_any (hCu (hTh a)) (cj12 a) _ rfl w) w
theorem last_good (a : Nat → Nat) (ha : ∀ j, j < 12 → a j < big) (h : ¬ Zr (zn a)) (w : World) (hm : Mm w [(0, dtab)]) : Calls Tryz.prog 13 #[V (tl a)] w fun e w' => e = .returned (.tuple #[V (lz (lastF (zn a))), .int .i64 0]) ∧ Below w.heap.size w w' := by
  have hn : ¬ O2 (nE (zn a)) := fun k => h ((zr_iff _).1 k)
  have ci := fun w hm => inv12_good a ha hn w hm
  have cc := fun w => conjT12_any a ha w
  unfold lastF
  generalize inv12 (zn a) = q at ci ⊢
  generalize cj12 (zn a) = p at cc ⊢
  have ea := mulP12_any p q _ rfl
  generalize mul12 p q = m at ea ⊢
  have eb := mulP12_any (Tn 2 m) m (hE m) rfl
  unfold hL
  generalize hE m = u4 at eb ⊢
  have ec := cubedP_any (hTh (hTh u4)) (hB u4) rfl
  generalize hB u4 = u7 at ec ⊢
  have ed := mulP12_any (Tn 1 u7) (cj12 (hSe u7)) (hC u7) rfl
  generalize hC u7 = u11 at ed ⊢
  have ef := mulP12_any (hSe (hSe u11)) (mul12 (Tn 2 u11) (cj12 u11)) (hD u11) rfl
  generalize hD u11 = u17 at ef ⊢
  exact last_ok a (fun j => pz (q j)) (fun j => pz (p j)) (fun j => pz (m j)) (fun j => pz (Tn 2 m j)) (fun j => pz (u4 j)) (fun j => pz (hTh u4 j)) (fun j => pz (hTh (hTh u4) j)) (fun j => pz (u7 j)) (fun j => pz (Tn 1 u7 j)) (fun j => pz (hSe u7 j)) (fun j => pz (cj12 (hSe u7) j)) (fun j => pz (u11 j)) (fun j => pz (hSe u11 j)) (fun j => pz (hSe (hSe u11) j)) (fun j => pz (Tn 2 u11 j)) (fun j => pz (cj12 u11 j)) (fun j => pz (mul12 (Tn 2 u11) (cj12 u11) j)) (fun j => pz (u17 j)) (fun j => pz (mul12 u17 u4 j))
    ci cc ea (frobC_any m 2 2 rfl) eb (byThirdP_any u4 _ rfl) (byThirdP_any (hTh u4) _ rfl) ec (frobC_any u7 1 1 rfl) (bySeedP_any u7 _ rfl) (conjP12_any (hSe u7)) ed (bySeedP_any u11 _ rfl) (bySeedP_any (hSe u11) _ rfl) (frobC_any u11 2 2 rfl) (conjP12_any u11) (mulP12_any _ _ _ rfl) ef (mulP12_any u17 u4 _ rfl) w hm
theorem last_bad (a : Nat → Nat) (ha : ∀ j, j < 12 → a j < big) (h : Zr (zn a)) (w : World) (hm : Mm w [(0, dtab)]) : Calls Tryz.prog 13 #[V (tl a)] w fun e w' => e = .returned (.tuple #[V [0, 0, 0, 0, 0, 0, 0, 0, 0, 0, 0, 0], .int .i64 6]) ∧ Below w.heap.size w w' :=
  last_no a (fun w hm => inv12_bad a ha ((zr_iff _).2 h) w hm) w hm
theorem lastP_good (a : Nat → Int) (h : ¬ Zr a) (w : World) (hm : Mm w [(0, dtab)]) : Calls Tryz.prog 13 #[V (lz a)] w fun e w' => e = .returned (.tuple #[V (lz (lastF a)), .int .i64 0]) ∧ Below w.heap.size w w' := by
  have hz : ¬ Zr (zn fun j => pz (a j)) := fun k => h (k.eq (eq_pz a))
  have hh := last_good (fun j => pz (a j)) (pz_12 _) hz w hm
  rw [(last_cg hz (eq_pz a)).lz] at hh
  exact hh
theorem lastP_bad (a : Nat → Int) (h : Zr a) (w : World) (hm : Mm w [(0, dtab)]) : Calls Tryz.prog 13 #[V (lz a)] w fun e w' => e = .returned (.tuple #[V [0, 0, 0, 0, 0, 0, 0, 0, 0, 0, 0, 0], .int .i64 6]) ∧ Below w.heap.size w w' :=
  last_bad (fun j => pz (a j)) (pz_12 _) (h.eq (eq_pz a).symm) w hm
/-! The walk of no pairs. -/
def woP : Nat → Int
  | 0 => 15132376222941642752
  | k + 1 => IntKind.u64.wrap (woP k * 2 ^ 1)
theorem woP_nn : ∀ k, 0 ≤ woP k
  | 0 => by decide
  | k + 1 => by
    unfold woP
    rw [IntKind.wrap_u64]
    omega
def dgP (k : Nat) : Nat := (woP k / 2 ^ 63).toNat
theorem dgP_eq (k : Nat) : woP k / 2 ^ 63 = ((dgP k : Nat) : Int) := by
  have := woP_nn k
  unfold dgP
  omega
theorem one_lzN : lz one12 = tl oneN := by rw [← one_lz]; rfl
theorem mul_oneN (w : World) : Calls Tryz.prog 22 #[V (tl oneN), V (tl oneN)] w fun e w' => e = .returned (V (tl oneN)) ∧ Below w.heap.size w w' := by
  have h := mulP12_any one12 one12 one12 (mul_one12 _ fin_one) w
  rw [one_lzN] at h
  exact h
theorem conj_oneN (w : World) : Calls Tryz.prog 44 #[V (tl oneN)] w fun e w' => e = .returned (V (tl oneN)) ∧ Below w.heap.size w w' := by
  have h := conjP12_any one12 w
  rw [hom_cj.on.lz, one_lzN] at h
  exact h
theorem one_anyN (w : World) : Calls Tryz.prog 32 #[] w fun e w' => e = .returned (V (tl oneN)) ∧ Below w.heap.size w w' := one_any w
theorem last_oneN (w : World) (hm : Mm w [(0, dtab)]) : Calls Tryz.prog 13 #[V (tl oneN)] w fun e w' => e = .returned (.tuple #[V (tl oneN), .int .i64 0]) ∧ Below w.heap.size w w' := by
  have h := lastP_good one12 one_nz w hm
  rw [last_one.lz, one_lzN] at h
  exact h
theorem goAllN_any (g : Nat) (w : World) (hm : Mm w [(g, cel (tl oneN) ++ [Value.slice none 0 0])]) : Calls Tryz.prog 141 #[PT g 0] w fun e w' => e = .returned (.tuple #[]) ∧ Mm w' [(g, cel (tl oneN) ++ [Value.slice none 0 0])] ∧ Kp g w w' :=
  goAllN_gen oneN g woP dgP rfl (fun w hm => doubleN_gen oneN g mul_oneN w hm) (fun w hm => addN_gen oneN g w hm) dgP_eq (fun _ => rfl) w hm
theorem pairsN_any (w : World) (hm : Mm w [(0, dtab)]) : Calls Tryz.prog 33 #[.slice none 0 0, .slice none 0 0] w fun e w' => e = .returned (.tuple #[V (tl oneN), .int .i64 0]) ∧ Below w.heap.size w w' :=
  pairsN_gen oneN (fun w => walkedN_gen oneN one_anyN conj_oneN goAllN_any w) last_oneN w hm
theorem eq_oneN (w : World) : (Op.equalIn 10000 32 (V (tl oneN)) (V (tl oneN))).run Tryz.prog w = .ok true w := by
  have h := eq_reflE12 one12 w
  rw [one_lzN] at h
  exact h
theorem zf_zr : Zr (zn zf) := fun j _ => dv_zero.of (by rfl)
theorem awakeP_any (w : World) (hm : Mm w [(0, dtab)]) : Calls Tryz.prog 17 #[] w fun e w' => e = .returned (.bool true) ∧ Below w.heap.size w w' :=
  awakeP_gen oneN eq_oneN pairsN_any (fun w hm => last_bad zf (fun _ _ => big_pos) zf_zr w hm) one_anyN w hm
end Rg
end Go.Proofs.YtdbejmgomajjmaaGreatDoor
end
