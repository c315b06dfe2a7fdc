/- Texts of the proof, joined. -/
import Derived.Test.YtahgdighnlekdaaGreatDoorP4
import Derived.BigQuiet
import Derived.Deep.DeepCutAuto
import Derived.Deep.CutBlock
import Derived.WalkSmall
set_option maxRecDepth 100000
section
namespace Go.Proofs.YtahgdighnlekdaaGreatDoor
namespace EC
/-- A commutative ring, by its operations. -/
structure Rng (α : Type) where
 add : α → α → α
 mul : α → α → α
 zero : α
 one : α
 neg : α → α
 add_comm : ∀ a b, add a b = add b a
 add_assoc : ∀ a b c, add (add a b) c = add a (add b c)
 zero_add : ∀ a, add zero a = a
 neg_add : ∀ a, add (neg a) a = zero
 mul_comm : ∀ a b, mul a b = mul b a
 mul_assoc : ∀ a b c, mul (mul a b) c = mul a (mul b c)
 one_mul : ∀ a, mul one a = a
 mul_add : ∀ a b c, mul a (add b c) = add (mul a b) (mul a c)
section
variable {α : Type} (R : Rng α)
theorem Rng.add_zero (a : α) : R.add a R.zero = a := by rw [R.add_comm, R.zero_add]
theorem Rng.add_neg (a : α) : R.add a (R.neg a) = R.zero := by rw [R.add_comm, R.neg_add]
theorem Rng.left_comm (a b c : α) : R.add a (R.add b c) = R.add b (R.add a c) := by rw [← R.add_assoc, R.add_comm a b, R.add_assoc]
theorem Rng.cancel {a b c : α} (h : R.add a b = R.add a c) : b = c := by
 have h2 := congrArg (R.add (R.neg a)) h
 rw [← R.add_assoc, ← R.add_assoc, R.neg_add, R.zero_add, R.zero_add] at h2
 exact h2
theorem Rng.mul_zero (a : α) : R.mul a R.zero = R.zero := by
 refine R.cancel (a := R.mul a R.zero) ?_
 rw [← R.mul_add, R.zero_add, R.add_zero]
theorem Rng.zero_mul (a : α) : R.mul R.zero a = R.zero := by rw [R.mul_comm, R.mul_zero]
theorem Rng.add_mul (a b c : α) : R.mul (R.add a b) c = R.add (R.mul a c) (R.mul b c) := by
 rw [R.mul_comm, R.mul_add, R.mul_comm c, R.mul_comm c]
theorem Rng.neg_eq {a b : α} (h : R.add a b = R.zero) : b = R.neg a := by
 refine R.cancel (a := a) ?_
 rw [h, R.add_neg]
theorem Rng.mul_neg (a b : α) : R.mul a (R.neg b) = R.neg (R.mul a b) := by
 refine R.neg_eq ?_
 rw [← R.mul_add, R.add_neg, R.mul_zero]
theorem Rng.neg_zero : R.neg R.zero = R.zero := by
 have h := R.add_neg R.zero
 rw [R.zero_add] at h
 exact h
theorem Rng.neg_add_rev (a b : α) : R.neg (R.add a b) = R.add (R.neg a) (R.neg b) := by
 symm
 refine R.neg_eq ?_
 rw [R.add_assoc, R.left_comm b, ← R.add_assoc, R.add_neg, R.zero_add, R.add_neg]
theorem Rng.four (a b c d : α) : R.add (R.add a b) (R.add c d) = R.add (R.add a c) (R.add b d) := by
 rw [R.add_assoc, R.left_comm b, ← R.add_assoc]
theorem Rng.mul_left_comm (a b c : α) : R.mul a (R.mul b c) = R.mul b (R.mul a c) := by rw [← R.mul_assoc, R.mul_comm a b, R.mul_assoc]
end
/-- What is calculated with. -/
structure Ops (β : Type _) where
 add : β → β → β
 mul : β → β → β
 zero : β
 neg : β → β
 isz : β → Bool
structure Sound {α β : Type} (R : Rng α) (O : Ops β) (ev : β → α) : Prop where
 add : ∀ a b, ev (O.add a b) = R.add (ev a) (ev b)
 mul : ∀ a b, ev (O.mul a b) = R.mul (ev a) (ev b)
 zero : ev O.zero = R.zero
 neg : ∀ a, ev (O.neg a) = R.neg (ev a)
 isz : ∀ a, O.isz a = true → ev a = R.zero
/-! Lists of coefficients: the lowest first. -/
section
variable {α β : Type} (R : Rng α) (O : Ops β)
def ladd : List β → List β → List β
 | [], q => q
 | a :: p, [] => a :: p
 | a :: p, b :: q => O.add a b :: ladd p q
def lsc (c : β) (q : List β) : List β := q.map (O.mul c)
def lmul : List β → List β → List β
 | [], _ => []
 | a :: p, q => if O.isz a then O.zero :: lmul p q else ladd O (lsc O a q) (O.zero :: lmul p q)
def lops : Ops (List β) where
 add := ladd O
 mul := lmul O
 zero := []
 neg := fun p => p.map O.neg
 isz := fun p => p.all O.isz
def lev (ev : β → α) (x : α) : List β → α
 | [] => R.zero
 | a :: p => R.add (ev a) (R.mul x (lev ev x p))
variable {R O} {ev : β → α}
theorem lev_add (S : Sound R O ev) (x : α) : ∀ p q, lev R ev x (ladd O p q) = R.add (lev R ev x p) (lev R ev x q)
 | [], q => (R.zero_add _).symm
 | a :: p, [] => (R.add_zero _).symm
 | a :: p, b :: q => by
  show R.add (ev (O.add a b)) (R.mul x (lev R ev x (ladd O p q))) = R.add (R.add (ev a) (R.mul x (lev R ev x p))) (R.add (ev b) (R.mul x (lev R ev x q)))
  rw [lev_add S x p q, S.add, R.mul_add, R.four]
theorem lev_sc (S : Sound R O ev) (x : α) (c : β) : ∀ q, lev R ev x (lsc O c q) = R.mul (ev c) (lev R ev x q)
 | [] => (R.mul_zero _).symm
 | b :: q => by
  show R.add (ev (O.mul c b)) (R.mul x (lev R ev x (lsc O c q))) = R.mul (ev c) (R.add (ev b) (R.mul x (lev R ev x q)))
  rw [lev_sc S x c q, S.mul, R.mul_add, R.mul_left_comm x]
theorem lev_mul (S : Sound R O ev) (x : α) : ∀ p q, lev R ev x (lmul O p q) = R.mul (lev R ev x p) (lev R ev x q)
 | [], q => (R.zero_mul _).symm
 | a :: p, q => by
  have hz : lev R ev x (O.zero :: lmul O p q) = R.mul x (R.mul (lev R ev x p) (lev R ev x q)) := by
   show R.add (ev O.zero) (R.mul x (lev R ev x (lmul O p q))) = _
   rw [S.zero, R.zero_add, lev_mul S x p q]
  have hg : R.mul (lev R ev x (a :: p)) (lev R ev x q) = R.add (R.mul (ev a) (lev R ev x q)) (R.mul x (R.mul (lev R ev x p) (lev R ev x q))) := by
   show R.mul (R.add (ev a) (R.mul x (lev R ev x p))) (lev R ev x q) = _
   rw [R.add_mul, R.mul_assoc]
  rw [hg]
  unfold lmul
  split
  ·next h =>
   rw [S.isz a h, R.zero_mul, R.zero_add, hz]
  ·rw [lev_add S x, lev_sc S x, hz]
theorem lops_sound (S : Sound R O ev) (x : α) : Sound R (lops O) (lev R ev x) where
 add := lev_add S x
 mul := lev_mul S x
 zero := rfl
 neg := fun p => by
  show lev R ev x (p.map O.neg) = _
  induction p with
  | nil => exact R.neg_zero.symm
  | cons a p ih =>
   show R.add (ev (O.neg a)) (R.mul x (lev R ev x (p.map O.neg))) = R.neg (R.add (ev a) (R.mul x (lev R ev x p)))
   rw [ih, S.neg, R.mul_neg, R.neg_add_rev]
 isz := fun p h => by
  have h' : p.all O.isz = true := h
  clear h
  induction p with
  | nil => rfl
  | cons a p ih =>
   simp only [List.all_cons, Bool.and_eq_true] at h'
   show R.add (ev a) (R.mul x (lev R ev x p)) = R.zero
   rw [S.isz a h'.1, ih h'.2, R.mul_zero, R.zero_add]
end
/-! Roots: u + v y, y y being d. -/
section
variable {α β : Type} (R : Rng α) (O : Ops β)
def xops (d : β) : Ops (β × β) where
 add := fun a b => (O.add a.1 b.1, O.add a.2 b.2)
 mul := fun a b => (O.add (O.mul a.1 b.1) (O.mul d (O.mul a.2 b.2)), O.add (O.mul a.1 b.2) (O.mul a.2 b.1))
 zero := (O.zero, O.zero)
 neg := fun a => (O.neg a.1, O.neg a.2)
 isz := fun a => O.isz a.1 && O.isz a.2
def xev (ev : β → α) (y : α) (a : β × β) : α := R.add (ev a.1) (R.mul y (ev a.2))
theorem xops_sound {R} {O} {ev : β → α} (S : Sound R O ev) {d : β} {y : α} (hy : R.mul y y = ev d) : Sound R (xops O d) (xev R ev y) where
 add := fun a b => by
  show R.add (ev (O.add a.1 b.1)) (R.mul y (ev (O.add a.2 b.2))) = R.add (R.add (ev a.1) (R.mul y (ev a.2))) (R.add (ev b.1) (R.mul y (ev b.2)))
  rw [S.add, S.add, R.mul_add, R.four]
 mul := fun a b => by
  show R.add (ev (O.add (O.mul a.1 b.1) (O.mul d (O.mul a.2 b.2)))) (R.mul y (ev (O.add (O.mul a.1 b.2) (O.mul a.2 b.1)))) = R.mul (R.add (ev a.1) (R.mul y (ev a.2))) (R.add (ev b.1) (R.mul y (ev b.2)))
  rw [S.add, S.add, S.mul, S.mul, S.mul, S.mul, S.mul, ← hy]
  rw [R.add_mul, R.mul_add, R.mul_add, R.mul_add]
  have e1 : R.mul (R.mul y (ev a.2)) (R.mul y (ev b.2)) = R.mul (R.mul y y) (R.mul (ev a.2) (ev b.2)) := by
   rw [R.mul_assoc, R.mul_assoc, R.mul_left_comm (ev a.2)]
  have e2 : R.mul (R.mul y (ev a.2)) (ev b.1) = R.mul y (R.mul (ev a.2) (ev b.1)) := R.mul_assoc _ _ _
  have e3 : R.mul (ev a.1) (R.mul y (ev b.2)) = R.mul y (R.mul (ev a.1) (ev b.2)) := R.mul_left_comm _ _ _
  rw [e1, e2, e3]
  rw [R.add_comm (R.mul y (R.mul (ev a.2) (ev b.1))), R.four]
 zero := by
  show R.add (ev O.zero) (R.mul y (ev O.zero)) = R.zero
  rw [S.zero, R.mul_zero, R.zero_add]
 neg := fun a => by
  show R.add (ev (O.neg a.1)) (R.mul y (ev (O.neg a.2))) = R.neg (R.add (ev a.1) (R.mul y (ev a.2)))
  rw [S.neg, S.neg, R.mul_neg, R.neg_add_rev]
 isz := fun a h => by
  have h' : (O.isz a.1 && O.isz a.2) = true := h
  simp only [Bool.and_eq_true] at h'
  show R.add (ev a.1) (R.mul y (ev a.2)) = R.zero
  rw [S.isz _ h'.1, S.isz _ h'.2, R.mul_zero, R.zero_add]
end
/-! Integers. -/
section
variable {α : Type} (R : Rng α)
def nc : Nat → α
 | 0 => R.zero
 | n + 1 => R.add R.one (nc n)
def ic : Int → α
 | .ofNat n => nc R n
 | .negSucc n => R.neg (nc R (n + 1))
theorem nc_add (m : Nat) : ∀ n, nc R (n + m) = R.add (nc R n) (nc R m)
 | 0 => by rw [Nat.zero_add]; exact (R.zero_add _).symm
 | n + 1 => by
  rw [Nat.succ_add]
  show R.add R.one (nc R (n + m)) = R.add (R.add R.one (nc R n)) (nc R m)
  rw [nc_add m n, R.add_assoc]
theorem nc_mul (m : Nat) : ∀ n, nc R (n * m) = R.mul (nc R n) (nc R m)
 | 0 => by rw [Nat.zero_mul]; exact (R.zero_mul _).symm
 | n + 1 => by
  rw [Nat.succ_mul, nc_add, nc_mul m n]
  show _ = R.mul (R.add R.one (nc R n)) (nc R m)
  rw [R.add_mul, R.one_mul, R.add_comm]
theorem ic_sub (m n : Nat) : ic R ((m : Int) - (n : Int)) = R.add (nc R m) (R.neg (nc R n)) := by
 rcases Nat.le_total n m with h | h
 ·obtain ⟨k, rfl⟩ := Nat.exists_eq_add_of_le h
  rw [show ((n + k : Nat) : Int) - (n : Int) = ((k : Nat) : Int) by omega]
  show nc R k = _
  rw [nc_add, R.add_comm (nc R n), R.add_assoc, R.add_neg, R.add_zero]
 ·obtain ⟨k, rfl⟩ := Nat.exists_eq_add_of_le h
  rw [show (m : Int) - ((m + k : Nat) : Int) = -((k : Nat) : Int) by omega]
  have e : ic R (-((k : Nat) : Int)) = R.neg (nc R k) := by
   cases k with
   | zero => exact R.neg_zero.symm
   | succ k => rfl
  rw [e, nc_add, R.neg_add_rev, ← R.add_assoc, R.add_neg, R.zero_add]
theorem int_sub (a : Int) : ∃ m n : Nat, a = (m : Int) - (n : Int) := by
 cases a with
 | ofNat n => exact ⟨n, 0, by simp⟩
 | negSucc n => exact ⟨0, n + 1, by omega⟩
theorem Rng.neg_neg (a : α) : R.neg (R.neg a) = a := (R.neg_eq (R.neg_add a)).symm
theorem ic_add (a b : Int) : ic R (a + b) = R.add (ic R a) (ic R b) := by
 obtain ⟨m, n, rfl⟩ := int_sub a
 obtain ⟨k, l, rfl⟩ := int_sub b
 rw [show (m : Int) - (n : Int) + ((k : Int) - (l : Int)) = ((m + k : Nat) : Int) - ((n + l : Nat) : Int) by omega, ic_sub, ic_sub, ic_sub, nc_add, nc_add, R.neg_add_rev, R.four]
theorem ic_neg (a : Int) : ic R (-a) = R.neg (ic R a) := by
 obtain ⟨m, n, rfl⟩ := int_sub a
 rw [show -((m : Int) - (n : Int)) = (n : Int) - (m : Int) by omega, ic_sub, ic_sub, R.neg_add_rev, R.neg_neg, R.add_comm]
theorem ic_mul (a b : Int) : ic R (a * b) = R.mul (ic R a) (ic R b) := by
 obtain ⟨m, n, rfl⟩ := int_sub a
 obtain ⟨k, l, rfl⟩ := int_sub b
 have e : ((m : Int) - (n : Int)) * ((k : Int) - (l : Int)) = ((m * k + n * l : Nat) : Int) - ((m * l + n * k : Nat) : Int) := by
  rw [Int.natCast_add, Int.natCast_add, Int.natCast_mul, Int.natCast_mul, Int.natCast_mul, Int.natCast_mul]
  grind
 have nm : ∀ x y, R.mul (R.neg x) y = R.neg (R.mul x y) := fun x y => by rw [R.mul_comm, R.mul_neg, R.mul_comm]
 rw [e, ic_sub, ic_sub, ic_sub, nc_add, nc_add, nc_mul, nc_mul, nc_mul, nc_mul, R.add_mul, R.mul_add, R.mul_add, R.mul_neg, nm, nm, R.mul_neg, R.neg_neg, R.neg_add_rev]
 rw [R.four, R.add_comm (R.mul (nc R n) (nc R l))]
def iops : Ops Int where
 add := Int.add
 mul := Int.mul
 zero := 0
 neg := Int.neg
 isz := fun a => a == 0
theorem iops_sound : Sound R iops (ic R) where
 add := ic_add R
 mul := ic_mul R
 zero := rfl
 neg := ic_neg R
 isz := fun a h => by
  have : a = 0 := by simpa [iops] using h
  rw [this]
  rfl
end
/-! The curve's sum by three numbers. -/
section
variable {β : Type _} (O : Ops β)
abbrev Tri (β : Type _) := β × β × β
def osub (a b : β) : β := O.add a (O.neg b)
def o3 (a : β) : β := O.add (O.add a a) a
def tog (b : β) (p q : Tri β) : Tri β :=
 let xx := O.mul p.1 q.1
 let yy := O.mul p.2.1 q.2.1
 let zz := O.mul p.2.2 q.2.2
 let xy := O.add (O.mul p.1 q.2.1) (O.mul p.2.1 q.1)
 let yz := O.add (O.mul p.2.1 q.2.2) (O.mul p.2.2 q.2.1)
 let xz := O.add (O.mul p.1 q.2.2) (O.mul p.2.2 q.1)
 let xx3 := o3 O xx
 let xz3 := o3 O (O.mul b xz)
 let zz3 := o3 O (O.mul b zz)
 let less := osub O yy zz3
 let more := O.add yy zz3
 (osub O (O.mul less xy) (O.mul yz xz3), O.add (O.mul less more) (O.mul xx3 xz3), O.add (O.mul more yz) (O.mul xx3 xy))
end
abbrev P1 := List Int
abbrev P2 := List P1
abbrev P3 := List P2
abbrev P4 := List P3
def o1 := lops iops
def o2 := lops o1
def o3_ := lops o2
def o4 := lops o3_
/-- b; the three x; what their y y are. -/
def cb : P4 := [[[[0, 1]]]]
def cx1 : P4 := [[[[], [1]]]]
def cx2 : P4 := [[[], [[1]]]]
def cx3 : P4 := [[], [[[1]]]]
def c1 : P4 := [[[[1]]]]
def cd (x : P4) : P4 := o4.add (o4.mul x (o4.mul x x)) cb
def e1 := xops o4 (cd cx1)
def e2 := xops e1 (cd cx2, [])
def e3 := xops e2 ((cd cx3, []), ([], []))
abbrev El := ((P4 × P4) × (P4 × P4)) × ((P4 × P4) × (P4 × P4))
def up (p : P4) : El := (((p, []), ([], [])), (([], []), ([], [])))
def y1_ : El := ((([], c1), ([], [])), (([], []), ([], [])))
def y2_ : El := ((([], []), (c1, [])), (([], []), ([], [])))
def y3_ : El := ((([], []), ([], [])), ((c1, []), ([], [])))
def A : Tri El := (up cx1, y1_, up c1)
def B : Tri El := (up cx2, y2_, up c1)
def C : Tri El := (up cx3, y3_, up c1)
def LL : Tri El := tog e3 (up cb) (tog e3 (up cb) A B) C
def RR : Tri El := tog e3 (up cb) A (tog e3 (up cb) B C)
def l1 : El := ((([], [[[[], [0, 0, 0, 0, -32], [], [], [0, 0, 0, 4]], [[0, 0, 0, 0, -96], [], [], [0, 0, 0, 48]], [[], [], [0, 0, 0, 144]], [[], [0, 0, 0, 128], [], [], [0, 0, 2]], [[0, 0, 0, 12], [], [], [0, 0, -6]], [[], [], [0, 0, -18]], [[], [0, 0, -2], [], [], [0, -2]]], [[[0, 0, 0, 0, 192], [], [], [0, 0, 0, -24]], [[], [], [0, 0, 0, -216]], [[], [0, 0, 0, -72], [], [], [0, 0, -18]], [[0, 0, 0, 24], [], [], [0, 0, -192]], [[], [], [0, 0, -216]], [[], [0, 0, -72], [], [], [0, -18]], [[0, 0, -6], [], [], [0, -6]]], [], [[[], [0, 0, 0, 16], [], [], [0, 0, -2]], [[0, 0, 0, 48], [], [], [0, 0, -24]], [[], [], [0, 0, -72]], [[], [0, 0, -64], [], [], [0, -1]], [[0, 0, -6], [], [], [0, 3]], [[], [], [0, 9]], [[], [0, 1], [], [], [1]]]]), ([[[[], [0, 0, 0, 0, -96], [], [], [0, 0, 0, 12]], [[0, 0, 0, 0, -32], [], [], [0, 0, 0, 128], [], [], [0, 0, -2]], [[], [], [0, 0, 0, 144], [], [], [0, 0, -18]], [[], [0, 0, 0, 48], [], [], [0, 0, -6]], [[0, 0, 0, 4], [], [], [0, 0, 2], [], [], [0, -2]]], [[[0, 0, 0, 0, 192], [], [], [0, 0, 0, 24], [], [], [0, 0, -6]], [[], [], [0, 0, 0, -72], [], [], [0, 0, -72]], [[], [0, 0, 0, -216], [], [], [0, 0, -216]], [[0, 0, 0, -24], [], [], [0, 0, -192], [], [], [0, -6]], [[], [], [0, 0, -18], [], [], [0, -18]]], [], [[[], [0, 0, 0, 48], [], [], [0, 0, -6]], [[0, 0, 0, 16], [], [], [0, 0, -64], [], [], [0, 1]], [[], [], [0, 0, -72], [], [], [0, 9]], [[], [0, 0, -24], [], [], [0, 3]], [[0, 0, -2], [], [], [0, -1], [], [], [1]]]], [])), (([[[[], [0, 0, 0, 0, 192], [], [], [0, 0, 0, 84]], [[0, 0, 0, 0, 192], [], [], [0, 0, 0, 240], [], [], [0, 0, -6]], [[], [], [0, 0, 0, 72], [], [], [0, 0, 18]], [[], [0, 0, 0, 240], [], [], [0, 0, 132]], [[0, 0, 0, 84], [], [], [0, 0, 132], [], [], [0, -6]], [[], [], [0, 0, 18], [], [], [0, -36]], [[], [0, 0, -6], [], [], [0, -6]]], [[[0, 0, 0, 0, -32], [], [], [0, 0, 0, -88], [], [], [0, 0, -2]], [[], [], [0, 0, 0, -216]], [[], [0, 0, 0, -216]], [[0, 0, 0, -88], [], [], [0, 0, 100], [], [], [0, -1]], [[], [], [], [], [], [0, -27]], [[], [], [], [], [0, -27]], [[0, 0, -2], [], [], [0, -1], [], [], [1]]]], []), ([], [[[[], [0, 0, 0, 192], [], [], [0, 0, 12]], [[0, 0, 0, 192], [], [], [0, 0, 48]], [[], [], [0, 0, 216]], [[], [0, 0, 48], [], [], [0, -24]], [[0, 0, 12], [], [], [0, -24]]], [[[0, 0, 0, -96], [], [], [0, 0, -24]], [[], [], [0, 0, -72]], [[], [0, 0, -72], [], [], [0, -18]], [[0, 0, -24], [], [], [0, -60]], [[], [], [0, -18]]]])))
def l2 : El := ((([[[[0, 0, 0, 0, 0, -224], [], [], [0, 0, 0, 0, -232], [], [], [0, 0, 0, -8]], [[], [], [0, 0, 0, 0, -360], [], [], [0, 0, 0, -36]], [[], [0, 0, 0, 0, -360], [], [], [0, 0, 0, -198]], [[0, 0, 0, 0, -232], [], [], [0, 0, 0, 4], [], [], [0, 0, -7]], [[], [], [0, 0, 0, -198], [], [], [0, 0, -117]], [[], [0, 0, 0, -36], [], [], [0, 0, -117]], [[0, 0, 0, -8], [], [], [0, 0, -7], [], [], [0, 1]]], [[[], [], [0, 0, 0, 0, 360], [], [], [0, 0, 0, 36]], [[], [0, 0, 0, 0, 432], [], [], [0, 0, 0, 108]], [[0, 0, 0, 0, 360], [], [], [0, 0, 0, 288], [], [], [0, 0, 9]], [[], [], [0, 0, 0, 288], [], [], [0, 0, -36]], [[], [0, 0, 0, 108], [], [], [0, 0, -216]], [[0, 0, 0, 36], [], [], [0, 0, -36], [], [], [0, 9]], [[], [], [0, 0, 9], [], [], [0, 9]]], [[[], [0, 0, 0, 0, -288], [], [], [0, 0, 0, -126]], [[0, 0, 0, 0, -288], [], [], [0, 0, 0, -360], [], [], [0, 0, 9]], [[], [], [0, 0, 0, -108], [], [], [0, 0, -27]], [[], [0, 0, 0, -360], [], [], [0, 0, -198]], [[0, 0, 0, -126], [], [], [0, 0, -198], [], [], [0, 9]], [[], [], [0, 0, -27], [], [], [0, 54]], [[], [0, 0, 9], [], [], [0, 9]]], [[[0, 0, 0, 0, 64], [], [], [0, 0, 0, -16], [], [], [0, 0, 1]], [[], [], [0, 0, 0, -144], [], [], [0, 0, 18]], [[], [0, 0, 0, -144], [], [], [0, 0, 99]], [[0, 0, 0, -16], [], [], [0, 0, 148], [], [], [0, 2]], [[], [], [0, 0, 99], [], [], [0, 18]], [[], [0, 0, 18], [], [], [0, 18]], [[0, 0, 1], [], [], [0, 2], [], [], [1]]]], []), ([], [[[[0, 0, 0, 0, -288], [], [], [0, 0, 0, -72]], [[], [], [0, 0, 0, -216]], [[], [0, 0, 0, -216], [], [], [0, 0, -54]], [[0, 0, 0, -72], [], [], [0, 0, -180]], [[], [], [0, 0, -54]]], [[[], [], [0, 0, 0, 216]], [[], [0, 0, 0, 720], [], [], [0, 0, -36]], [[0, 0, 0, 216], [], [], [0, 0, -108]], [[], [], [0, 0, -108]], [[], [0, 0, -36], [], [], [0, 18]]], [[[], [0, 0, 0, -288], [], [], [0, 0, -18]], [[0, 0, 0, -288], [], [], [0, 0, -72]], [[], [], [0, 0, -324]], [[], [0, 0, -72], [], [], [0, 36]], [[0, 0, -18], [], [], [0, 36]]]])), (([], []), ([], [])))
def l3 : El := ((([], [[[[0, 0, 0, 0, -128], [], [], [0, 0, 0, 16]], [[], [], [0, 0, 0, 144]], [[], [0, 0, 0, 48], [], [], [0, 0, 12]], [[0, 0, 0, -16], [], [], [0, 0, 128]], [[], [], [0, 0, 144]], [[], [0, 0, 48], [], [], [0, 12]], [[0, 0, 4], [], [], [0, 4]]], [], [[[], [0, 0, 0, 48], [], [], [0, 0, -6]], [[0, 0, 0, 144], [], [], [0, 0, -72]], [[], [], [0, 0, -216]], [[], [0, 0, -192], [], [], [0, -3]], [[0, 0, -18], [], [], [0, 9]], [[], [], [0, 27]], [[], [0, 3], [], [], [3]]], [[[0, 0, 0, -32], [], [], [0, 0, 4]], [[], [], [0, 0, 36]], [[], [0, 0, 12], [], [], [0, 3]], [[0, 0, -4], [], [], [0, 32]], [[], [], [0, 36]], [[], [0, 12], [], [], [3]], [[0, 1], [], [], [1]]]]), ([[[[0, 0, 0, 0, -128], [], [], [0, 0, 0, -16], [], [], [0, 0, 4]], [[], [], [0, 0, 0, 48], [], [], [0, 0, 48]], [[], [0, 0, 0, 144], [], [], [0, 0, 144]], [[0, 0, 0, 16], [], [], [0, 0, 128], [], [], [0, 4]], [[], [], [0, 0, 12], [], [], [0, 12]]], [], [[[], [0, 0, 0, 144], [], [], [0, 0, -18]], [[0, 0, 0, 48], [], [], [0, 0, -192], [], [], [0, 3]], [[], [], [0, 0, -216], [], [], [0, 27]], [[], [0, 0, -72], [], [], [0, 9]], [[0, 0, -6], [], [], [0, -3], [], [], [3]]], [[[0, 0, 0, -32], [], [], [0, 0, -4], [], [], [0, 1]], [[], [], [0, 0, 12], [], [], [0, 12]], [[], [0, 0, 36], [], [], [0, 36]], [[0, 0, 4], [], [], [0, 32], [], [], [1]], [[], [], [0, 3], [], [], [3]]]], [])), (([[[[0, 0, 0, 0, 160], [], [], [0, 0, 0, 56], [], [], [0, 0, 4]], [[], [], [0, 0, 0, -72], [], [], [0, 0, 36]], [[], [0, 0, 0, -72], [], [], [0, 0, 198]], [[0, 0, 0, 56], [], [], [0, 0, 196], [], [], [0, 5]], [[], [], [0, 0, 198], [], [], [0, 63]], [[], [0, 0, 36], [], [], [0, 63]], [[0, 0, 4], [], [], [0, 5], [], [], [1]]], [[[], [], [0, 0, 0, 120], [], [], [0, 0, 12]], [[], [0, 0, 0, 144], [], [], [0, 0, 36]], [[0, 0, 0, 120], [], [], [0, 0, 96], [], [], [0, 3]], [[], [], [0, 0, 96], [], [], [0, -12]], [[], [0, 0, 36], [], [], [0, -72]], [[0, 0, 12], [], [], [0, -12], [], [], [3]], [[], [], [0, 3], [], [], [3]]]], []), ([], [[[[0, 0, 0, 96], [], [], [0, 0, 24]], [[], [], [0, 0, 72]], [[], [0, 0, 72], [], [], [0, 18]], [[0, 0, 24], [], [], [0, 60]], [[], [], [0, 18]]], [[[], [], [0, 0, 72]], [[], [0, 0, 240], [], [], [0, -12]], [[0, 0, 72], [], [], [0, -36]], [[], [], [0, -36]], [[], [0, -12], [], [], [6]]]])))
def r1 : El := ((([], [[[[], [0, 0, 0, 0, -32]], [[0, 0, 0, 0, 192]], [], [[], [0, 0, 0, -88]], [[0, 0, 0, 84]], [], [[], [0, 0, -2]]], [[[0, 0, 0, 0, 192]], [], [[], [0, 0, 0, -216]], [[0, 0, 0, 240]], [], [], [[0, 0, -6]]], [[], [[], [0, 0, 0, -216]], [[0, 0, 0, 72]], [], [], [[0, 0, 18]]], [[[], [0, 0, 0, -88]], [[0, 0, 0, 240]], [], [[], [0, 0, 100]], [[0, 0, 132]], [], [[], [0, -1]]], [[[0, 0, 0, 84]], [], [], [[0, 0, 132]], [], [[], [0, -27]], [[0, -6]]], [[], [], [[0, 0, 18]], [], [[], [0, -27]], [[0, -36]]], [[[], [0, 0, -2]], [[0, 0, -6]], [], [[], [0, -1]], [[0, -6]], [], [[], [1]]]]), ([[[[], [0, 0, 0, 0, 192]], [[0, 0, 0, 0, -32], [], [], [0, 0, 0, 16]], [], [[], [0, 0, 0, -24]], [[0, 0, 0, 4], [], [], [0, 0, -2]]], [[[0, 0, 0, 0, -96], [], [], [0, 0, 0, 48]], [], [[], [0, 0, 0, -216]], [[0, 0, 0, 48], [], [], [0, 0, -24]]], [[], [[], [0, 0, 0, -72]], [[0, 0, 0, 144], [], [], [0, 0, -72]], [], [[], [0, 0, -18]]], [[[], [0, 0, 0, 24]], [[0, 0, 0, 128], [], [], [0, 0, -64]], [], [[], [0, 0, -192]], [[0, 0, 2], [], [], [0, -1]]], [[[0, 0, 0, 12], [], [], [0, 0, -6]], [], [[], [0, 0, -216]], [[0, 0, -6], [], [], [0, 3]]], [[], [[], [0, 0, -72]], [[0, 0, -18], [], [], [0, 9]], [], [[], [0, -18]]], [[[], [0, 0, -6]], [[0, 0, -2], [], [], [0, 1]], [], [[], [0, -6]], [[0, -2], [], [], [1]]]], [])), (([[[[], [0, 0, 0, 0, 192]], [[0, 0, 0, 0, -96], [], [], [0, 0, 0, 48]], [], [[], [0, 0, 0, 24]], [[0, 0, 0, 12], [], [], [0, 0, -6]], [], [[], [0, 0, -6]]], [[[0, 0, 0, 0, -32], [], [], [0, 0, 0, 16]], [], [[], [0, 0, 0, -72]], [[0, 0, 0, 128], [], [], [0, 0, -64]], [], [[], [0, 0, -72]], [[0, 0, -2], [], [], [0, 1]]], [[], [[], [0, 0, 0, -216]], [[0, 0, 0, 144], [], [], [0, 0, -72]], [], [[], [0, 0, -216]], [[0, 0, -18], [], [], [0, 9]]], [[[], [0, 0, 0, -24]], [[0, 0, 0, 48], [], [], [0, 0, -24]], [], [[], [0, 0, -192]], [[0, 0, -6], [], [], [0, 3]], [], [[], [0, -6]]], [[[0, 0, 0, 4], [], [], [0, 0, -2]], [], [[], [0, 0, -18]], [[0, 0, 2], [], [], [0, -1]], [], [[], [0, -18]], [[0, -2], [], [], [1]]]], []), ([], [[[[], [0, 0, 0, -96]], [[0, 0, 0, 192]], [], [[], [0, 0, -24]], [[0, 0, 12]]], [[[0, 0, 0, 192]], [], [[], [0, 0, -72]], [[0, 0, 48]]], [[], [[], [0, 0, -72]], [[0, 0, 216]], [], [[], [0, -18]]], [[[], [0, 0, -24]], [[0, 0, 48]], [], [[], [0, -60]], [[0, -24]]], [[[0, 0, 12]], [], [[], [0, -18]], [[0, -24]]]])))
def r2 : El := ((([[[[0, 0, 0, 0, 0, -224], [], [], [0, 0, 0, 0, 64]], [[], [], [0, 0, 0, 0, -288]], [[], [0, 0, 0, 0, 360]], [[0, 0, 0, 0, -232], [], [], [0, 0, 0, -16]], [[], [], [0, 0, 0, -126]], [[], [0, 0, 0, 36]], [[0, 0, 0, -8], [], [], [0, 0, 1]]], [[[], [], [0, 0, 0, 0, -288]], [[], [0, 0, 0, 0, 432]], [[0, 0, 0, 0, -360], [], [], [0, 0, 0, -144]], [[], [], [0, 0, 0, -360]], [[], [0, 0, 0, 108]], [[0, 0, 0, -36], [], [], [0, 0, 18]], [[], [], [0, 0, 9]]], [[[], [0, 0, 0, 0, 360]], [[0, 0, 0, 0, -360], [], [], [0, 0, 0, -144]], [[], [], [0, 0, 0, -108]], [[], [0, 0, 0, 288]], [[0, 0, 0, -198], [], [], [0, 0, 99]], [[], [], [0, 0, -27]], [[], [0, 0, 9]]], [[[0, 0, 0, 0, -232], [], [], [0, 0, 0, -16]], [[], [], [0, 0, 0, -360]], [[], [0, 0, 0, 288]], [[0, 0, 0, 4], [], [], [0, 0, 148]], [[], [], [0, 0, -198]], [[], [0, 0, -36]], [[0, 0, -7], [], [], [0, 2]]], [[[], [], [0, 0, 0, -126]], [[], [0, 0, 0, 108]], [[0, 0, 0, -198], [], [], [0, 0, 99]], [[], [], [0, 0, -198]], [[], [0, 0, -216]], [[0, 0, -117], [], [], [0, 18]], [[], [], [0, 9]]], [[[], [0, 0, 0, 36]], [[0, 0, 0, -36], [], [], [0, 0, 18]], [[], [], [0, 0, -27]], [[], [0, 0, -36]], [[0, 0, -117], [], [], [0, 18]], [[], [], [0, 54]], [[], [0, 9]]], [[[0, 0, 0, -8], [], [], [0, 0, 1]], [[], [], [0, 0, 9]], [[], [0, 0, 9]], [[0, 0, -7], [], [], [0, 2]], [[], [], [0, 9]], [[], [0, 9]], [[0, 1], [], [], [1]]]], []), ([], [])), (([], []), ([[[[0, 0, 0, 0, -288]], [[], [], [0, 0, 0, -288]], [[], [0, 0, 0, 216]], [[0, 0, 0, -72]], [[], [], [0, 0, -18]]], [[[], [], [0, 0, 0, -288]], [[], [0, 0, 0, 720]], [[0, 0, 0, -216]], [[], [], [0, 0, -72]], [[], [0, 0, -36]]], [[[], [0, 0, 0, 216]], [[0, 0, 0, -216]], [[], [], [0, 0, -324]], [[], [0, 0, -108]], [[0, 0, -54]]], [[[0, 0, 0, -72]], [[], [], [0, 0, -72]], [[], [0, 0, -108]], [[0, 0, -180]], [[], [], [0, 36]]], [[[], [], [0, 0, -18]], [[], [0, 0, -36]], [[0, 0, -54]], [[], [], [0, 36]], [[], [0, 18]]]], [])))
def r3 : El := ((([], [[[[0, 0, 0, 0, 160]], [], [[], [0, 0, 0, 120]], [[0, 0, 0, 56]], [], [[], [0, 0, 12]], [[0, 0, 4]]], [[], [[], [0, 0, 0, 144]], [[0, 0, 0, -72]], [], [[], [0, 0, 36]], [[0, 0, 36]]], [[[], [0, 0, 0, 120]], [[0, 0, 0, -72]], [], [[], [0, 0, 96]], [[0, 0, 198]], [], [[], [0, 3]]], [[[0, 0, 0, 56]], [], [[], [0, 0, 96]], [[0, 0, 196]], [], [[], [0, -12]], [[0, 5]]], [[], [[], [0, 0, 36]], [[0, 0, 198]], [], [[], [0, -72]], [[0, 63]]], [[[], [0, 0, 12]], [[0, 0, 36]], [], [[], [0, -12]], [[0, 63]], [], [[], [3]]], [[[0, 0, 4]], [], [[], [0, 3]], [[0, 5]], [], [[], [3]], [[1]]]]), ([[[[0, 0, 0, 0, -128], [], [], [0, 0, 0, -32]], [[], [], [0, 0, 0, 48]], [], [[0, 0, 0, 16], [], [], [0, 0, 4]], [[], [], [0, 0, -6]]], [[[], [], [0, 0, 0, 144]], [], [[0, 0, 0, 144], [], [], [0, 0, 36]], [[], [], [0, 0, -72]]], [[], [[0, 0, 0, 48], [], [], [0, 0, 12]], [[], [], [0, 0, -216]], [], [[0, 0, 12], [], [], [0, 3]]], [[[0, 0, 0, -16], [], [], [0, 0, -4]], [[], [], [0, 0, -192]], [], [[0, 0, 128], [], [], [0, 32]], [[], [], [0, -3]]], [[[], [], [0, 0, -18]], [], [[0, 0, 144], [], [], [0, 36]], [[], [], [0, 9]]], [[], [[0, 0, 48], [], [], [0, 12]], [[], [], [0, 27]], [], [[0, 12], [], [], [3]]], [[[0, 0, 4], [], [], [0, 1]], [[], [], [0, 3]], [], [[0, 4], [], [], [1]], [[], [], [3]]]], [])), (([[[[0, 0, 0, 0, -128], [], [], [0, 0, 0, -32]], [[], [], [0, 0, 0, 144]], [], [[0, 0, 0, -16], [], [], [0, 0, -4]], [[], [], [0, 0, -18]], [], [[0, 0, 4], [], [], [0, 1]]], [[[], [], [0, 0, 0, 48]], [], [[0, 0, 0, 48], [], [], [0, 0, 12]], [[], [], [0, 0, -192]], [], [[0, 0, 48], [], [], [0, 12]], [[], [], [0, 3]]], [[], [[0, 0, 0, 144], [], [], [0, 0, 36]], [[], [], [0, 0, -216]], [], [[0, 0, 144], [], [], [0, 36]], [[], [], [0, 27]]], [[[0, 0, 0, 16], [], [], [0, 0, 4]], [[], [], [0, 0, -72]], [], [[0, 0, 128], [], [], [0, 32]], [[], [], [0, 9]], [], [[0, 4], [], [], [1]]], [[[], [], [0, 0, -6]], [], [[0, 0, 12], [], [], [0, 3]], [[], [], [0, -3]], [], [[0, 12], [], [], [3]], [[], [], [3]]]], []), ([], [[[[0, 0, 0, 96]], [], [[], [0, 0, 72]], [[0, 0, 24]]], [[], [[], [0, 0, 240]], [[0, 0, 72]], [], [[], [0, -12]]], [[[], [0, 0, 72]], [[0, 0, 72]], [], [[], [0, -36]], [[0, 18]]], [[[0, 0, 24]], [], [[], [0, -36]], [[0, 60]]], [[], [[], [0, -12]], [[0, 18]], [], [[], [6]]]])))
theorem l1_eq : e3.isz (osub e3 LL.1 l1) = true := by decide +kernel
theorem l2_eq : e3.isz (osub e3 LL.2.1 l2) = true := by decide +kernel
theorem l3_eq : e3.isz (osub e3 LL.2.2 l3) = true := by decide +kernel
theorem r1_eq : e3.isz (osub e3 RR.1 r1) = true := by decide +kernel
theorem r2_eq : e3.isz (osub e3 RR.2.1 r2) = true := by decide +kernel
theorem r3_eq : e3.isz (osub e3 RR.2.2 r3) = true := by decide +kernel
theorem assoc_x : e3.isz (osub e3 (e3.mul l1 r3) (e3.mul l3 r1)) = true := by decide +kernel
theorem assoc_y : e3.isz (osub e3 (e3.mul l2 r3) (e3.mul l3 r2)) = true := by decide +kernel
/-! What it says in a ring. -/
def rops {α : Type} (R : Rng α) : Ops α where
 add := R.add
 mul := R.mul
 zero := R.zero
 neg := R.neg
 isz := fun _ => false
def tri {α β : Type} (ev : β → α) (p : Tri β) : Tri α := (ev p.1, ev p.2.1, ev p.2.2)
theorem tog_ev {α β : Type} {R : Rng α} {O : Ops β} {ev : β → α} (S : Sound R O ev) (b : β) (p q : Tri β) : tri ev (tog O b p q) = tog (rops R) (ev b) (tri ev p) (tri ev q) := by
 simp only [tri, tog, osub, o3, rops, S.add, S.mul, S.neg]
section
variable {α : Type} (R : Rng α) (b x1 x2 x3 : α)
def v1 := lev R (ic R) b
def v2 := lev R (v1 R b) x1
def v3 := lev R (v2 R b x1) x2
def v4 := lev R (v3 R b x1 x2) x3
theorem s1 : Sound R o1 (v1 R b) := lops_sound (iops_sound R) b
theorem s2 : Sound R o2 (v2 R b x1) := lops_sound (s1 R b) x1
theorem s3 : Sound R o3_ (v3 R b x1 x2) := lops_sound (s2 R b x1) x2
theorem s4 : Sound R o4 (v4 R b x1 x2 x3) := lops_sound (s3 R b x1 x2) x3
theorem ic_1 : ic R 1 = R.one := R.add_zero _
theorem ic_0 : ic R 0 = R.zero := rfl
theorem Rng.mul_one (a : α) : R.mul a R.one = a := by rw [R.mul_comm, R.one_mul]
theorem w_b : v4 R b x1 x2 x3 cb = b := by
 simp only [v4, v3, v2, v1, cb, lev, ic_0, ic_1, R.mul_zero, R.add_zero, R.zero_add, R.mul_one]
theorem w_1 : v4 R b x1 x2 x3 c1 = R.one := by
 simp only [v4, v3, v2, v1, c1, lev, ic_1, R.mul_zero, R.add_zero]
theorem w_x1 : v4 R b x1 x2 x3 cx1 = x1 := by
 simp only [v4, v3, v2, v1, cx1, lev, ic_1, R.mul_zero, R.add_zero, R.zero_add, R.mul_one]
theorem w_x2 : v4 R b x1 x2 x3 cx2 = x2 := by
 simp only [v4, v3, v2, v1, cx2, lev, ic_1, R.mul_zero, R.add_zero, R.zero_add, R.mul_one]
theorem w_x3 : v4 R b x1 x2 x3 cx3 = x3 := by
 simp only [v4, v3, v2, v1, cx3, lev, ic_1, R.mul_zero, R.add_zero, R.zero_add, R.mul_one]
def side (x : α) : α := R.add (R.mul x (R.mul x x)) b
theorem w_cd (x : P4) : v4 R b x1 x2 x3 (cd x) = side R b (v4 R b x1 x2 x3 x) := by
 have S := s4 R b x1 x2 x3
 unfold cd side
 rw [S.add, S.mul, S.mul, w_b]
variable (y1 y2 y3 : α)
def u1 := xev R (v4 R b x1 x2 x3) y1
def u2 := xev R (u1 R b x1 x2 x3 y1) y2
def u3 := xev R (u2 R b x1 x2 x3 y1 y2) y3
theorem z_p (p : P4) : u3 R b x1 x2 x3 y1 y2 y3 (up p) = v4 R b x1 x2 x3 p := by
 have e : v4 R b x1 x2 x3 [] = R.zero := rfl
 simp only [u3, u2, u1, xev, up, e, R.mul_zero, R.add_zero]
variable (h1 : R.mul y1 y1 = side R b x1) (h2 : R.mul y2 y2 = side R b x2) (h3 : R.mul y3 y3 = side R b x3)
theorem k1 (h1 : R.mul y1 y1 = side R b x1) : Sound R e1 (u1 R b x1 x2 x3 y1) := xops_sound (s4 R b x1 x2 x3) (by rw [w_cd, w_x1]; exact h1)
theorem k2 (h1 : R.mul y1 y1 = side R b x1) (h2 : R.mul y2 y2 = side R b x2) : Sound R e2 (u2 R b x1 x2 x3 y1 y2) := xops_sound (k1 R b x1 x2 x3 y1 h1) (by
 have e : v4 R b x1 x2 x3 [] = R.zero := rfl
 show _ = R.add (v4 R b x1 x2 x3 (cd cx2)) (R.mul y1 (v4 R b x1 x2 x3 []))
 rw [e, R.mul_zero, R.add_zero, w_cd, w_x2]
 exact h2)
theorem k3 (h1 : R.mul y1 y1 = side R b x1) (h2 : R.mul y2 y2 = side R b x2) (h3 : R.mul y3 y3 = side R b x3) : Sound R e3 (u3 R b x1 x2 x3 y1 y2 y3) := xops_sound (k2 R b x1 x2 x3 y1 y2 h1 h2) (by
 have e : v4 R b x1 x2 x3 [] = R.zero := rfl
 have e2 : u2 R b x1 x2 x3 y1 y2 ((cd cx3, []), ([], [])) = v4 R b x1 x2 x3 (cd cx3) := by simp only [u2, u1, xev, e, R.mul_zero, R.add_zero]
 rw [e2, w_cd, w_x3]
 exact h3)
end
theorem eq_of {α β : Type} {R : Rng α} {O : Ops β} {ev : β → α} (S : Sound R O ev) {a c : β} (h : O.isz (osub O a c) = true) : ev a = ev c := by
 have e := S.isz _ h
 unfold osub at e
 rw [S.add, S.neg] at e
 have e2 : R.add (R.add (ev a) (R.neg (ev c))) (ev c) = R.add R.zero (ev c) := by rw [e]
 rw [R.add_assoc, R.neg_add, R.add_zero, R.zero_add] at e2
 exact e2
/-- The rule is associative, up to a common factor: of three points with third number 1. -/
theorem tog_assoc {α : Type} (R : Rng α) (b x1 x2 x3 y1 y2 y3 : α) (h1 : R.mul y1 y1 = side R b x1) (h2 : R.mul y2 y2 = side R b x2) (h3 : R.mul y3 y3 = side R b x3) :
  R.mul (tog (rops R) b (tog (rops R) b (x1, y1, R.one) (x2, y2, R.one)) (x3, y3, R.one)).1 (tog (rops R) b (x1, y1, R.one) (tog (rops R) b (x2, y2, R.one) (x3, y3, R.one))).2.2 =
   R.mul (tog (rops R) b (tog (rops R) b (x1, y1, R.one) (x2, y2, R.one)) (x3, y3, R.one)).2.2 (tog (rops R) b (x1, y1, R.one) (tog (rops R) b (x2, y2, R.one) (x3, y3, R.one))).1 ∧
  R.mul (tog (rops R) b (tog (rops R) b (x1, y1, R.one) (x2, y2, R.one)) (x3, y3, R.one)).2.1 (tog (rops R) b (x1, y1, R.one) (tog (rops R) b (x2, y2, R.one) (x3, y3, R.one))).2.2 =
   R.mul (tog (rops R) b (tog (rops R) b (x1, y1, R.one) (x2, y2, R.one)) (x3, y3, R.one)).2.2 (tog (rops R) b (x1, y1, R.one) (tog (rops R) b (x2, y2, R.one) (x3, y3, R.one))).2.1 := by
 have S := k3 R b x1 x2 x3 y1 y2 y3 h1 h2 h3
 have hz : v4 R b x1 x2 x3 [] = R.zero := rfl
 have eb : u3 R b x1 x2 x3 y1 y2 y3 (up cb) = b := by rw [z_p, w_b]
 have eA : tri (u3 R b x1 x2 x3 y1 y2 y3) A = (x1, y1, R.one) := by
  have ey : u3 R b x1 x2 x3 y1 y2 y3 y1_ = y1 := by simp only [u3, u2, u1, xev, y1_, hz, w_1, R.mul_zero, R.add_zero, R.zero_add, R.mul_one]
  simp only [tri, A, z_p, w_x1, w_1, ey]
 have eB : tri (u3 R b x1 x2 x3 y1 y2 y3) B = (x2, y2, R.one) := by
  have ey : u3 R b x1 x2 x3 y1 y2 y3 y2_ = y2 := by simp only [u3, u2, u1, xev, y2_, hz, w_1, R.mul_zero, R.add_zero, R.zero_add, R.mul_one]
  simp only [tri, B, z_p, w_x2, w_1, ey]
 have eC : tri (u3 R b x1 x2 x3 y1 y2 y3) C = (x3, y3, R.one) := by
  have ey : u3 R b x1 x2 x3 y1 y2 y3 y3_ = y3 := by simp only [u3, u2, u1, xev, y3_, hz, w_1, R.mul_zero, R.add_zero, R.zero_add, R.mul_one]
  simp only [tri, C, z_p, w_x3, w_1, ey]
 have eL : tri (u3 R b x1 x2 x3 y1 y2 y3) LL = tog (rops R) b (tog (rops R) b (x1, y1, R.one) (x2, y2, R.one)) (x3, y3, R.one) := by
  unfold LL
  rw [tog_ev S, tog_ev S, eb, eA, eB, eC]
 have eR : tri (u3 R b x1 x2 x3 y1 y2 y3) RR = tog (rops R) b (x1, y1, R.one) (tog (rops R) b (x2, y2, R.one) (x3, y3, R.one)) := by
  unfold RR
  rw [tog_ev S, tog_ev S, eb, eA, eB, eC]
 rw [← eL, ← eR]
 have p1 := eq_of S l1_eq
 have p2 := eq_of S l2_eq
 have p3 := eq_of S l3_eq
 have q1 := eq_of S r1_eq
 have q2 := eq_of S r2_eq
 have q3 := eq_of S r3_eq
 have ax := eq_of S assoc_x
 have ay := eq_of S assoc_y
 rw [S.mul, S.mul] at ax ay
 unfold tri
 rw [p1, p2, p3, q1, q2, q3]
 exact ⟨ax, ay⟩
end EC
end Go.Proofs.YtahgdighnlekdaaGreatDoor
end
section
namespace Go.Proofs.YtahgdighnlekdaaGreatDoor
namespace EC
/-! Expressions, to be calculated by the kernel. -/
def nth {β : Type} (d : β) : List β → Nat → β
 | [], _ => d
 | a :: _, 0 => a
 | _ :: l, i + 1 => nth d l i
theorem nth_map {β J : Type} (f : β → J) (d : β) : ∀ (l : List β) (i : Nat), f (nth d l i) = nth (f d) (l.map f) i
 | [], _ => rfl
 | _ :: _, 0 => rfl
 | _ :: l, i + 1 => nth_map f d l i
structure Ex where
 ev : {β : Type} → Ops β → β → List β → β
 snd : ∀ {α β : Type} {R : Rng α} {O : Ops β} {f : β → α}, Sound R O f → ∀ {one : β}, f one = R.one → ∀ l : List β, f (ev O one l) = ev (rops R) R.one (l.map f)
def Ex.v (i : Nat) : Ex where
 ev := fun O _ l => nth O.zero l i
 snd := by
  intro _ _ R O f S _ _ l
  show f (nth O.zero l i) = nth R.zero (l.map f) i
  rw [nth_map f, S.zero]
def Ex.z : Ex where
 ev := fun O _ _ => O.zero
 snd := by
  intro _ _ _ _ _ S _ _ _
  exact S.zero
def Ex.o : Ex where
 ev := fun _ one _ => one
 snd := by
  intro _ _ _ _ _ _ _ h _
  exact h
def Ex.a (x y : Ex) : Ex where
 ev := fun O one l => O.add (x.ev O one l) (y.ev O one l)
 snd := by
  intro _ _ R O f S _ h l
  show f (O.add _ _) = R.add _ _
  rw [S.add, x.snd S h l, y.snd S h l]
def Ex.m (x y : Ex) : Ex where
 ev := fun O one l => O.mul (x.ev O one l) (y.ev O one l)
 snd := by
  intro _ _ R O f S _ h l
  show f (O.mul _ _) = R.mul _ _
  rw [S.mul, x.snd S h l, y.snd S h l]
def Ex.n (x : Ex) : Ex where
 ev := fun O one l => O.neg (x.ev O one l)
 snd := by
  intro _ _ R O f S _ h l
  show f (O.neg _) = R.neg _
  rw [S.neg, x.snd S h l]
def exo : Ops Ex where
 add := Ex.a
 mul := Ex.m
 zero := Ex.z
 neg := Ex.n
 isz := fun _ => false
theorem Ex.eqs {α β : Type} {R : Rng α} {O : Ops β} {f : β → α} (S : Sound R O f) {one : β} (h1 : f one = R.one) (l : List β) (x y : Ex) (h : O.isz (osub O (x.ev O one l) (y.ev O one l)) = true) : x.ev (rops R) R.one (l.map f) = y.ev (rops R) R.one (l.map f) := by
 rw [← x.snd S h1 l, ← y.snd S h1 l]
 exact eq_of S h
/-- Of two points of the curve. -/
theorem ring_c {α : Type} (R : Rng α) (b x1 x2 y1 y2 : α) (h1 : R.mul y1 y1 = side R b x1) (h2 : R.mul y2 y2 = side R b x2) (x y : Ex)
  (h : e2.isz (osub e2 (x.ev e2 ((c1, []), ([], [])) [((cb, []), ([], [])), ((cx1, []), ([], [])), ((cx2, []), ([], [])), (([], c1), ([], [])), (([], []), (c1, []))]) (y.ev e2 ((c1, []), ([], [])) [((cb, []), ([], [])), ((cx1, []), ([], [])), ((cx2, []), ([], [])), (([], c1), ([], [])), (([], []), (c1, []))])) = true) :
  x.ev (rops R) R.one [b, x1, x2, y1, y2] = y.ev (rops R) R.one [b, x1, x2, y1, y2] := by
 have hz : v4 R b x1 x2 R.zero [] = R.zero := rfl
 have e := Ex.eqs (k2 R b x1 x2 R.zero y1 y2 h1 h2) (one := ((c1, []), ([], []))) (by
  show R.add (R.add (v4 R b x1 x2 R.zero c1) (R.mul y1 (v4 R b x1 x2 R.zero []))) (R.mul y2 (R.add (v4 R b x1 x2 R.zero []) (R.mul y1 (v4 R b x1 x2 R.zero [])))) = R.one
  simp only [hz, w_1, R.mul_zero, R.add_zero]) _ x y h
 simp only [List.map_cons, List.map_nil, u2, u1, xev, hz, w_b, w_1, w_x1, w_x2, R.mul_zero, R.add_zero, R.zero_add, R.mul_one] at e
 exact e
/-! Any eight numbers. -/
abbrev P5 := List P4
abbrev P6 := List P5
abbrev P7 := List P6
abbrev P8 := List P7
def o5 := lops o4
def o6 := lops o5
def o7 := lops o6
def o8 := lops o7
def f1 : P8 := [[[[[[[[0, 1]]]]]]]]
def f2 : P8 := [[[[[[[[], [1]]]]]]]]
def f3 : P8 := [[[[[[[], [[1]]]]]]]]
def f4 : P8 := [[[[[[], [[[1]]]]]]]]
def f5 : P8 := [[[[[], [[[[1]]]]]]]]
def f6 : P8 := [[[[], [[[[[1]]]]]]]]
def f7 : P8 := [[[], [[[[[[1]]]]]]]]
def f8 : P8 := [[], [[[[[[[1]]]]]]]]
def f0 : P8 := [[[[[[[[1]]]]]]]]
theorem ring_f {α : Type} (R : Rng α) (a b c d e f g h : α) (x y : Ex) (hh : o8.isz (osub o8 (x.ev o8 f0 [f1, f2, f3, f4, f5, f6, f7, f8]) (y.ev o8 f0 [f1, f2, f3, f4, f5, f6, f7, f8])) = true) :
  x.ev (rops R) R.one [a, b, c, d, e, f, g, h] = y.ev (rops R) R.one [a, b, c, d, e, f, g, h] := by
 have S : Sound R o8 _ := lops_sound (lops_sound (lops_sound (lops_sound (lops_sound (lops_sound (lops_sound (lops_sound (iops_sound R) a) b) c) d) e) f) g) h
 have t := Ex.eqs S (one := f0) (by
  simp only [f0, lev, ic_1, R.mul_zero, R.add_zero]) _ x y hh
 simp only [List.map_cons, List.map_nil, f1, f2, f3, f4, f5, f6, f7, f8, lev, ic_0, ic_1, R.mul_zero, R.add_zero, R.zero_add, R.mul_one] at t
 exact t
end EC
end Go.Proofs.YtahgdighnlekdaaGreatDoor
end
section
namespace Go.Proofs.YtahgdighnlekdaaGreatDoor
namespace EC
structure Crv (α : Type) where
 R : Rng α
 inv : α → α
 b : α
 hinv : ∀ a, a ≠ R.zero → R.mul (inv a) a = R.one
 hb : ∀ t, side R b t ≠ R.zero
 h1 : R.one ≠ R.zero
 h2 : R.add R.one R.one ≠ R.zero
section
variable {α : Type} (C : Crv α)
theorem Crv.can {c a d : α} (hc : c ≠ C.R.zero) (h : C.R.mul c a = C.R.mul c d) : a = d := by
 have e := congrArg (C.R.mul (C.inv c)) h
 rw [← C.R.mul_assoc, ← C.R.mul_assoc, C.hinv c hc, C.R.one_mul, C.R.one_mul] at e
 exact e
theorem Crv.ne {a c : α} (ha : a ≠ C.R.zero) (hc : c ≠ C.R.zero) : C.R.mul a c ≠ C.R.zero := fun h => hc (C.can ha (h.trans (C.R.mul_zero a).symm))
theorem Crv.inv_ne {a : α} (ha : a ≠ C.R.zero) : C.inv a ≠ C.R.zero := fun h => C.h1 (by rw [← C.hinv a ha, h, C.R.zero_mul])
theorem Crv.two {a : α} (ha : a ≠ C.R.zero) : C.R.add a a ≠ C.R.zero := fun h => by
 have e : C.R.mul (C.R.add C.R.one C.R.one) a = C.R.add a a := by rw [C.R.add_mul, C.R.one_mul]
 exact C.ne C.h2 ha (e.trans h)
theorem Crv.sub_ne {a c : α} (h : a ≠ c) : C.R.add a (C.R.neg c) ≠ C.R.zero := fun e => h (by
 have e2 : C.R.add (C.R.add a (C.R.neg c)) c = C.R.add C.R.zero c := by rw [e]
 rw [C.R.add_assoc, C.R.neg_add, C.R.add_zero, C.R.zero_add] at e2
 exact e2)
def Crv.on : Option (α × α) → Prop
 | none => True
 | some (x, y) => C.R.mul y y = side C.R C.b x
def Crv.lift : Option (α × α) → Tri α
 | none => (C.R.zero, C.R.one, C.R.zero)
 | some (x, y) => (x, y, C.R.one)
def Crv.neg : Option (α × α) → Option (α × α)
 | none => none
 | some (x, y) => some (x, C.R.neg y)
abbrev Crv.tog (A B : Tri α) : Tri α := EC.tog (rops C.R) C.b A B
def Crv.sc (c : α) (T : Tri α) : Tri α := (C.R.mul c T.1, C.R.mul c T.2.1, C.R.mul c T.2.2)
def Crv.good (T : Tri α) : Prop := T.2.2 = C.R.zero → T.1 = C.R.zero ∧ T.2.1 ≠ C.R.zero
theorem Crv.y_ne {x y : α} (h : C.on (some (x, y))) : y ≠ C.R.zero := fun e => by
 have h' : C.R.mul y y = side C.R C.b x := h
 rw [e, C.R.mul_zero] at h'
 exact C.hb x h'.symm
open Ex in
theorem Crv.tog_comm (A B : Tri α) : C.tog A B = C.tog B A := by
 obtain ⟨x1, y1, z1⟩ := A
 obtain ⟨x2, y2, z2⟩ := B
 refine Prod.ext ?_ (Prod.ext ?_ ?_)
 ·exact ring_f C.R C.b x1 y1 z1 x2 y2 z2 C.b (EC.tog exo (v 0) (v 1, v 2, v 3) (v 4, v 5, v 6)).1 (EC.tog exo (v 0) (v 4, v 5, v 6) (v 1, v 2, v 3)).1 (by decide +kernel)
 ·exact ring_f C.R C.b x1 y1 z1 x2 y2 z2 C.b (EC.tog exo (v 0) (v 1, v 2, v 3) (v 4, v 5, v 6)).2.1 (EC.tog exo (v 0) (v 4, v 5, v 6) (v 1, v 2, v 3)).2.1 (by decide +kernel)
 ·exact ring_f C.R C.b x1 y1 z1 x2 y2 z2 C.b (EC.tog exo (v 0) (v 1, v 2, v 3) (v 4, v 5, v 6)).2.2 (EC.tog exo (v 0) (v 4, v 5, v 6) (v 1, v 2, v 3)).2.2 (by decide +kernel)
open Ex in
theorem Crv.tog_sc (c : α) (A B : Tri α) : C.tog (C.sc c A) B = C.sc (C.R.mul c c) (C.tog A B) := by
 obtain ⟨x1, y1, z1⟩ := A
 obtain ⟨x2, y2, z2⟩ := B
 refine Prod.ext ?_ (Prod.ext ?_ ?_)
 ·exact ring_f C.R C.b x1 y1 z1 x2 y2 z2 c (EC.tog exo (v 0) (m (v 7) (v 1), m (v 7) (v 2), m (v 7) (v 3)) (v 4, v 5, v 6)).1 (m (m (v 7) (v 7)) (EC.tog exo (v 0) (v 1, v 2, v 3) (v 4, v 5, v 6)).1) (by decide +kernel)
 ·exact ring_f C.R C.b x1 y1 z1 x2 y2 z2 c (EC.tog exo (v 0) (m (v 7) (v 1), m (v 7) (v 2), m (v 7) (v 3)) (v 4, v 5, v 6)).2.1 (m (m (v 7) (v 7)) (EC.tog exo (v 0) (v 1, v 2, v 3) (v 4, v 5, v 6)).2.1) (by decide +kernel)
 ·exact ring_f C.R C.b x1 y1 z1 x2 y2 z2 c (EC.tog exo (v 0) (m (v 7) (v 1), m (v 7) (v 2), m (v 7) (v 3)) (v 4, v 5, v 6)).2.2 (m (m (v 7) (v 7)) (EC.tog exo (v 0) (v 1, v 2, v 3) (v 4, v 5, v 6)).2.2) (by decide +kernel)
theorem Crv.tog_sc' (c : α) (A B : Tri α) : C.tog A (C.sc c B) = C.sc (C.R.mul c c) (C.tog A B) := by
 rw [C.tog_comm, C.tog_sc, C.tog_comm]
open Ex in
theorem Crv.tog_zero (B : Tri α) : C.tog (C.lift none) B = C.sc B.2.1 B := by
 obtain ⟨x2, y2, z2⟩ := B
 refine Prod.ext ?_ (Prod.ext ?_ ?_)
 ·exact ring_f C.R C.b x2 y2 z2 C.b C.b C.b C.b (EC.tog exo (v 0) (z, o, z) (v 1, v 2, v 3)).1 (m (v 2) (v 1)) (by decide +kernel)
 ·exact ring_f C.R C.b x2 y2 z2 C.b C.b C.b C.b (EC.tog exo (v 0) (z, o, z) (v 1, v 2, v 3)).2.1 (m (v 2) (v 2)) (by decide +kernel)
 ·exact ring_f C.R C.b x2 y2 z2 C.b C.b C.b C.b (EC.tog exo (v 0) (z, o, z) (v 1, v 2, v 3)).2.2 (m (v 2) (v 3)) (by decide +kernel)
theorem Crv.lift_good {P : Option (α × α)} : C.good (C.lift P) := by
 rcases P with _ | ⟨x, y⟩
 ·exact fun _ => ⟨rfl, C.h1⟩
 ·exact fun h => absurd h C.h1
theorem Crv.lift_y {P : Option (α × α)} (h : C.on P) : (C.lift P).2.1 ≠ C.R.zero := by
 rcases P with _ | ⟨x, y⟩
 ·exact C.h1
 ·exact C.y_ne h
theorem Crv.good_sc {c : α} (hc : c ≠ C.R.zero) {T : Tri α} (h : C.good T) : C.good (C.sc c T) := fun e => by
 have hz : T.2.2 = C.R.zero := C.can hc (e.trans (C.R.mul_zero c).symm)
 obtain ⟨hx, hy⟩ := h hz
 refine ⟨?_, C.ne hc hy⟩
 show C.R.mul c T.1 = _
 rw [hx, C.R.mul_zero]
theorem Crv.good_of {c : α} (hc : c ≠ C.R.zero) {T : Tri α} (h : C.good (C.sc c T)) : C.good T := fun e => by
 obtain ⟨hx, hy⟩ := h (by show C.R.mul c T.2.2 = _; rw [e, C.R.mul_zero])
 exact ⟨C.can hc (hx.trans (C.R.mul_zero c).symm), fun e2 => hy (by show C.R.mul c T.2.1 = _; rw [e2, C.R.mul_zero])⟩
open Ex in
/-- -b would be a cube. -/
theorem Crv.cube {E w : α} (hE : E ≠ C.R.zero) (h : C.R.add (C.R.mul w (C.R.mul w w)) (C.R.mul C.b (C.R.mul E (C.R.mul E E))) = C.R.zero) : False := by
 refine C.hb (C.R.mul w (C.inv E)) ?_
 refine C.can (C.ne hE (C.ne hE hE)) ?_
 rw [C.R.mul_zero, ← h]
 have e := ring_f C.R C.b E w (C.inv E) C.b C.b C.b C.b (m (m (v 1) (m (v 1) (v 1))) (a (m (m (v 2) (v 3)) (m (m (v 2) (v 3)) (m (v 2) (v 3)))) (v 0))) (a (m (m (v 2) (m (v 2) (v 2))) (m (m (v 3) (v 1)) (m (m (v 3) (v 1)) (m (v 3) (v 1))))) (m (v 0) (m (v 1) (m (v 1) (v 1))))) (by decide +kernel)
 refine Eq.trans e ?_
 show C.R.add (C.R.mul (C.R.mul w (C.R.mul w w)) (C.R.mul (C.R.mul (C.inv E) E) (C.R.mul (C.R.mul (C.inv E) E) (C.R.mul (C.inv E) E)))) (C.R.mul C.b (C.R.mul E (C.R.mul E E))) = _
 rw [C.hinv E hE, C.R.one_mul, C.R.one_mul, C.R.mul_one]
open Ex in
theorem Crv.good_tog {P Q : Option (α × α)} (hP : C.on P) (hQ : C.on Q) : C.good (C.tog (C.lift P) (C.lift Q)) := by
 rcases P with _ | ⟨x1, y1⟩
 ·rw [C.tog_zero]
  exact C.good_sc (C.lift_y hQ) C.lift_good
 rcases Q with _ | ⟨x2, y2⟩
 ·rw [C.tog_comm, C.tog_zero]
  exact C.good_sc (C.lift_y hP) C.lift_good
 intro hZ
 have hP' : C.R.mul y1 y1 = side C.R C.b x1 := hP
 have hQ' : C.R.mul y2 y2 = side C.R C.b x2 := hQ
 by_cases hx : x1 = x2
 ·subst hx
  have hm : C.R.mul (C.R.add y1 (C.R.neg y2)) (C.R.add y1 y2) = C.R.zero := by
   refine Eq.trans (ring_f C.R y1 y2 C.b C.b C.b C.b C.b C.b (m (a (v 0) (n (v 1))) (a (v 0) (v 1))) (a (m (v 0) (v 0)) (n (m (v 1) (v 1)))) (by decide +kernel)) ?_
   show C.R.add (C.R.mul y1 y1) (C.R.neg (C.R.mul y2 y2)) = _
   rw [hP', hQ', C.R.add_neg]
  by_cases hy : y1 = y2
  ·subst hy
   have e := ring_c C.R C.b x1 x1 y1 y1 hP' hP' (EC.tog exo (v 0) (v 1, v 3, o) (v 1, v 3, o)).2.2 (m (a (v 3) (v 3)) (m (a (v 3) (v 3)) (a (v 3) (v 3)))) (by decide +kernel)
   have h2 := C.two (C.y_ne hP)
   exact absurd (e.symm.trans hZ) (C.ne h2 (C.ne h2 h2))
  ·have hs : C.R.add y1 y2 = C.R.zero := C.can (C.sub_ne hy) (hm.trans (C.R.mul_zero _).symm)
   have hn : y2 = C.R.neg y1 := C.R.neg_eq hs
   subst hn
   refine ⟨ring_c C.R C.b x1 x1 y1 y1 hP' hP' (EC.tog exo (v 0) (v 1, v 3, o) (v 1, n (v 3), o)).1 z (by decide +kernel), fun hY => ?_⟩
   have h2 := C.two (C.y_ne hP)
   refine C.cube (C.ne h2 h2) (w := C.R.mul x1 (C.R.add (C.R.mul x1 (C.R.mul x1 x1)) (C.R.neg (C.R.add (C.R.add (C.R.add C.b C.b) (C.R.add C.b C.b)) (C.R.add (C.R.add C.b C.b) (C.R.add C.b C.b)))))) ?_
   have e := ring_c C.R C.b x1 x1 y1 y1 hP' hP' (a (m (m (v 1) (a (m (v 1) (m (v 1) (v 1))) (n (a (a (a (v 0) (v 0)) (a (v 0) (v 0))) (a (a (v 0) (v 0)) (a (v 0) (v 0))))))) (m (m (v 1) (a (m (v 1) (m (v 1) (v 1))) (n (a (a (a (v 0) (v 0)) (a (v 0) (v 0))) (a (a (v 0) (v 0)) (a (v 0) (v 0))))))) (m (v 1) (a (m (v 1) (m (v 1) (v 1))) (n (a (a (a (v 0) (v 0)) (a (v 0) (v 0))) (a (a (v 0) (v 0)) (a (v 0) (v 0))))))))) (m (v 0) (m (m (a (v 3) (v 3)) (a (v 3) (v 3))) (m (m (a (v 3) (v 3)) (a (v 3) (v 3))) (m (a (v 3) (v 3)) (a (v 3) (v 3)))))))
    (m (EC.tog exo (v 0) (v 1, v 3, o) (v 1, n (v 3), o)).2.1 (EC.tog exo (v 0) (v 1, v 3, o) (v 1, n (v 3), o)).2.1) (by decide +kernel)
   refine Eq.trans e ?_
   show C.R.mul (C.tog (x1, y1, C.R.one) (x1, C.R.neg y1, C.R.one)).2.1 (C.tog (x1, y1, C.R.one) (x1, C.R.neg y1, C.R.one)).2.1 = _
   have hY' : (C.tog (x1, y1, C.R.one) (x1, C.R.neg y1, C.R.one)).2.1 = C.R.zero := hY
   rw [hY', C.R.mul_zero]
 ·exfalso
  have hd := C.sub_ne hx
  refine C.cube (C.ne hd hd) (w := C.R.add (C.R.mul (C.R.add y1 y2) (C.R.add y1 y2)) (C.R.neg (C.R.mul (C.R.add x1 x2) (C.R.mul (C.R.add x1 (C.R.neg x2)) (C.R.add x1 (C.R.neg x2)))))) ?_
  have e := ring_c C.R C.b x1 x2 y1 y2 hP' hQ' (a (m (a (m (a (v 3) (v 4)) (a (v 3) (v 4))) (n (m (a (v 1) (v 2)) (m (a (v 1) (n (v 2))) (a (v 1) (n (v 2))))))) (m (a (m (a (v 3) (v 4)) (a (v 3) (v 4))) (n (m (a (v 1) (v 2)) (m (a (v 1) (n (v 2))) (a (v 1) (n (v 2))))))) (a (m (a (v 3) (v 4)) (a (v 3) (v 4))) (n (m (a (v 1) (v 2)) (m (a (v 1) (n (v 2))) (a (v 1) (n (v 2)))))))))
   (m (v 0) (m (m (a (v 1) (n (v 2))) (a (v 1) (n (v 2)))) (m (m (a (v 1) (n (v 2))) (a (v 1) (n (v 2)))) (m (a (v 1) (n (v 2))) (a (v 1) (n (v 2))))))))
   (m (EC.tog exo (v 0) (v 1, v 3, o) (v 2, v 4, o)).2.2 (EC.tog exo (v 0) (v 1, v 3, o) (v 2, v 4, o)).2.2) (by decide +kernel)
  refine Eq.trans e ?_
  show C.R.mul (C.tog (x1, y1, C.R.one) (x2, y2, C.R.one)).2.2 (C.tog (x1, y1, C.R.one) (x2, y2, C.R.one)).2.2 = _
  have hZ' : (C.tog (x1, y1, C.R.one) (x2, y2, C.R.one)).2.2 = C.R.zero := hZ
  rw [hZ', C.R.mul_zero]
theorem Crv.over {c z x : α} (hc : c ≠ C.R.zero) (hz : z ≠ C.R.zero) : C.R.mul (C.R.mul c x) (C.inv (C.R.mul c z)) = C.R.mul x (C.inv z) := by
 refine C.can (C.ne hc hz) ?_
 have e1 : C.R.mul (C.R.mul c z) (C.R.mul (C.R.mul c x) (C.inv (C.R.mul c z))) = C.R.mul (C.R.mul (C.inv (C.R.mul c z)) (C.R.mul c z)) (C.R.mul c x) := by
  rw [C.R.mul_comm (C.R.mul c x), ← C.R.mul_assoc, C.R.mul_comm (C.R.mul c z)]
 have e2 : C.R.mul (C.R.mul c z) (C.R.mul x (C.inv z)) = C.R.mul (C.R.mul (C.inv z) z) (C.R.mul c x) := by
  rw [C.R.mul_comm x, ← C.R.mul_assoc, C.R.mul_assoc c, C.R.mul_comm z, C.R.mul_comm c, C.R.mul_assoc]
 rw [e1, e2, C.hinv _ (C.ne hc hz), C.hinv z hz]
end
section
variable {α : Type} [DecidableEq α] (C : Crv α)
def Crv.lower (T : Tri α) : Option (α × α) := if T.2.2 = C.R.zero then none else some (C.R.mul T.1 (C.inv T.2.2), C.R.mul T.2.1 (C.inv T.2.2))
def Crv.add (P Q : Option (α × α)) : Option (α × α) := C.lower (C.tog (C.lift P) (C.lift Q))
theorem Crv.lower_none {T : Tri α} (h : T.2.2 = C.R.zero) : C.lower T = none := if_pos h
theorem Crv.lower_some {T : Tri α} (h : T.2.2 ≠ C.R.zero) : C.lower T = some (C.R.mul T.1 (C.inv T.2.2), C.R.mul T.2.1 (C.inv T.2.2)) := if_neg h
theorem Crv.lower_sc {c : α} (hc : c ≠ C.R.zero) (T : Tri α) : C.lower (C.sc c T) = C.lower T := by
 by_cases hz : T.2.2 = C.R.zero
 ·rw [C.lower_none hz, C.lower_none (show C.R.mul c T.2.2 = C.R.zero by rw [hz, C.R.mul_zero])]
 ·rw [C.lower_some hz, C.lower_some (T := C.sc c T) (C.ne hc hz)]
  show some (C.R.mul (C.R.mul c T.1) (C.inv (C.R.mul c T.2.2)), C.R.mul (C.R.mul c T.2.1) (C.inv (C.R.mul c T.2.2))) = _
  rw [C.over hc hz, C.over hc hz]
theorem Crv.lower_lift (P : Option (α × α)) : C.lower (C.lift P) = P := by
 rcases P with _ | ⟨x, y⟩
 ·exact C.lower_none rfl
 ·rw [C.lower_some (T := C.lift (some (x, y))) C.h1]
  have e : C.inv C.R.one = C.R.one := by
   have := C.hinv C.R.one C.h1
   rw [C.R.mul_one] at this
   exact this
  show some (C.R.mul x (C.inv C.R.one), C.R.mul y (C.inv C.R.one)) = _
  rw [e, C.R.mul_one, C.R.mul_one]
theorem Crv.lift_lower {T : Tri α} (h : C.good T) : ∃ c, c ≠ C.R.zero ∧ C.lift (C.lower T) = C.sc c T := by
 by_cases hz : T.2.2 = C.R.zero
 ·obtain ⟨hx, hy⟩ := h hz
  refine ⟨C.inv T.2.1, C.inv_ne hy, ?_⟩
  rw [C.lower_none hz]
  show (C.R.zero, C.R.one, C.R.zero) = (C.R.mul _ T.1, C.R.mul _ T.2.1, C.R.mul _ T.2.2)
  rw [hx, hz, C.R.mul_zero, C.hinv _ hy]
 ·refine ⟨C.inv T.2.2, C.inv_ne hz, ?_⟩
  rw [C.lower_some hz]
  show (C.R.mul T.1 _, C.R.mul T.2.1 _, C.R.one) = (C.R.mul _ T.1, C.R.mul _ T.2.1, C.R.mul _ T.2.2)
  rw [C.hinv _ hz, C.R.mul_comm T.1, C.R.mul_comm T.2.1]
theorem Crv.comm (P Q : Option (α × α)) : C.add P Q = C.add Q P := by unfold Crv.add; rw [C.tog_comm]
theorem Crv.zero_add {Q : Option (α × α)} (h : C.on Q) : C.add none Q = Q := by
 unfold Crv.add
 rw [C.tog_zero, C.lower_sc (C.lift_y h), C.lower_lift]
theorem Crv.add_zero {Q : Option (α × α)} (h : C.on Q) : C.add Q none = Q := by rw [C.comm, C.zero_add h]
open Ex in
theorem Crv.add_neg (P : Option (α × α)) : C.add P (C.neg P) = none := by
 rcases P with _ | ⟨x, y⟩
 ·exact C.zero_add (Q := none) trivial
 ·exact C.lower_none (ring_f C.R C.b x y C.b C.b C.b C.b C.b (EC.tog exo (v 0) (v 1, v 2, o) (v 1, n (v 2), o)).2.2 z (by decide +kernel))
open Ex in
theorem Crv.add_on {P Q : Option (α × α)} (hP : C.on P) (hQ : C.on Q) : C.on (C.add P Q) := by
 rcases P with _ | ⟨x1, y1⟩
 ·rw [C.zero_add hQ]; exact hQ
 rcases Q with _ | ⟨x2, y2⟩
 ·rw [C.add_zero hP]; exact hP
 have hP' : C.R.mul y1 y1 = side C.R C.b x1 := hP
 have hQ' : C.R.mul y2 y2 = side C.R C.b x2 := hQ
 have e := ring_c C.R C.b x1 x2 y1 y2 hP' hQ' (m (m (EC.tog exo (v 0) (v 1, v 3, o) (v 2, v 4, o)).2.1 (EC.tog exo (v 0) (v 1, v 3, o) (v 2, v 4, o)).2.1) (EC.tog exo (v 0) (v 1, v 3, o) (v 2, v 4, o)).2.2)
  (a (m (EC.tog exo (v 0) (v 1, v 3, o) (v 2, v 4, o)).1 (m (EC.tog exo (v 0) (v 1, v 3, o) (v 2, v 4, o)).1 (EC.tog exo (v 0) (v 1, v 3, o) (v 2, v 4, o)).1)) (m (v 0) (m (EC.tog exo (v 0) (v 1, v 3, o) (v 2, v 4, o)).2.2 (m (EC.tog exo (v 0) (v 1, v 3, o) (v 2, v 4, o)).2.2 (EC.tog exo (v 0) (v 1, v 3, o) (v 2, v 4, o)).2.2)))) (by decide +kernel)
 unfold Crv.add
 generalize hT : C.tog (C.lift (some (x1, y1))) (C.lift (some (x2, y2))) = T
 have e' : C.R.mul (C.R.mul T.2.1 T.2.1) T.2.2 = C.R.add (C.R.mul T.1 (C.R.mul T.1 T.1)) (C.R.mul C.b (C.R.mul T.2.2 (C.R.mul T.2.2 T.2.2))) := by
  rw [← hT]; exact e
 clear e hT
 by_cases hz : T.2.2 = C.R.zero
 ·rw [C.lower_none hz]; trivial
 ·rw [C.lower_some hz]
  obtain ⟨X, Y, Z⟩ := T
  have hz' : Z ≠ C.R.zero := hz
  have e2 : C.R.mul (C.R.mul Y Y) Z = C.R.add (C.R.mul X (C.R.mul X X)) (C.R.mul C.b (C.R.mul Z (C.R.mul Z Z))) := e'
  show C.R.mul (C.R.mul Y (C.inv Z)) (C.R.mul Y (C.inv Z)) = C.R.add (C.R.mul (C.R.mul X (C.inv Z)) (C.R.mul (C.R.mul X (C.inv Z)) (C.R.mul X (C.inv Z)))) C.b
  refine C.can (C.ne hz' (C.ne hz' hz')) ?_
  refine Eq.trans (ring_f C.R C.b X Y Z (C.inv Z) C.b C.b C.b (m (m (v 3) (m (v 3) (v 3))) (m (m (v 2) (v 4)) (m (v 2) (v 4)))) (m (m (m (v 2) (v 2)) (v 3)) (m (m (v 4) (v 3)) (m (v 4) (v 3)))) (by decide +kernel)) ?_
  refine Eq.trans ?_ (ring_f C.R C.b X Y Z (C.inv Z) C.b C.b C.b (a (m (m (v 1) (m (v 1) (v 1))) (m (m (v 4) (v 3)) (m (m (v 4) (v 3)) (m (v 4) (v 3))))) (m (v 0) (m (v 3) (m (v 3) (v 3))))) (m (m (v 3) (m (v 3) (v 3))) (a (m (m (v 1) (v 4)) (m (m (v 1) (v 4)) (m (v 1) (v 4)))) (v 0))) (by decide +kernel))
  show C.R.mul (C.R.mul (C.R.mul Y Y) Z) (C.R.mul (C.R.mul (C.inv Z) Z) (C.R.mul (C.inv Z) Z)) = C.R.add (C.R.mul (C.R.mul X (C.R.mul X X)) (C.R.mul (C.R.mul (C.inv Z) Z) (C.R.mul (C.R.mul (C.inv Z) Z) (C.R.mul (C.inv Z) Z)))) (C.R.mul C.b (C.R.mul Z (C.R.mul Z Z)))
  rw [C.hinv Z hz', C.R.one_mul, C.R.one_mul, C.R.mul_one, C.R.mul_one]
  exact e2
theorem Crv.same {S T : Tri α} (hS : C.good S) (hT : C.good T) (h1 : C.R.mul S.1 T.2.2 = C.R.mul S.2.2 T.1) (h2 : C.R.mul S.2.1 T.2.2 = C.R.mul S.2.2 T.2.1) : C.lower S = C.lower T := by
 by_cases hs : S.2.2 = C.R.zero
 ·have ht : T.2.2 = C.R.zero := by
   obtain ⟨_, hy⟩ := hS hs
   rw [hs, C.R.zero_mul] at h2
   exact C.can hy (h2.trans (C.R.mul_zero _).symm)
  rw [C.lower_none hs, C.lower_none ht]
 ·by_cases ht : T.2.2 = C.R.zero
  ·obtain ⟨_, hy⟩ := hT ht
   rw [ht, C.R.mul_zero] at h2
   exact absurd (C.can hs (h2.symm.trans (C.R.mul_zero _).symm)) hy
  ·rw [C.lower_some hs, C.lower_some ht]
   have q : ∀ x y : α, C.R.mul x T.2.2 = C.R.mul S.2.2 y → C.R.mul x (C.inv S.2.2) = C.R.mul y (C.inv T.2.2) := fun x y h => by
    have e := C.over (c := T.2.2) (z := S.2.2) (x := x) ht hs
    rw [← e, C.R.mul_comm T.2.2 x, h, C.R.mul_comm T.2.2 S.2.2, C.over hs ht]
   rw [q _ _ h1, q _ _ h2]
theorem Crv.assoc {P Q U : Option (α × α)} (hP : C.on P) (hQ : C.on Q) (hU : C.on U) : C.add (C.add P Q) U = C.add P (C.add Q U) := by
 rcases P with _ | ⟨x1, y1⟩
 ·rw [C.zero_add hQ, C.zero_add (C.add_on hQ hU)]
 rcases Q with _ | ⟨x2, y2⟩
 ·rw [C.add_zero hP, C.zero_add hU]
 rcases U with _ | ⟨x3, y3⟩
 ·rw [C.add_zero (C.add_on hP hQ), C.add_zero hQ]
 obtain ⟨h1, h2⟩ := tog_assoc C.R C.b x1 x2 x3 y1 y2 y3 hP hQ hU
 obtain ⟨c, hc, ec⟩ := C.lift_lower (C.good_tog hP hQ)
 obtain ⟨d, hd, ed⟩ := C.lift_lower (C.good_tog hQ hU)
 have gl := C.good_tog (C.add_on hP hQ) hU
 have gr := C.good_tog hP (C.add_on hQ hU)
 have el : C.tog (C.lift (C.add (some (x1, y1)) (some (x2, y2)))) (C.lift (some (x3, y3))) = C.sc (C.R.mul c c) (C.tog (C.tog (C.lift (some (x1, y1))) (C.lift (some (x2, y2)))) (C.lift (some (x3, y3)))) := by
  unfold Crv.add
  rw [ec, C.tog_sc]
 have er : C.tog (C.lift (some (x1, y1))) (C.lift (C.add (some (x2, y2)) (some (x3, y3)))) = C.sc (C.R.mul d d) (C.tog (C.lift (some (x1, y1))) (C.tog (C.lift (some (x2, y2))) (C.lift (some (x3, y3))))) := by
  unfold Crv.add
  rw [ed, C.tog_sc']
 rw [el] at gl
 rw [er] at gr
 show C.lower (C.tog (C.lift (C.add (some (x1, y1)) (some (x2, y2)))) (C.lift (some (x3, y3)))) = C.lower (C.tog (C.lift (some (x1, y1))) (C.lift (C.add (some (x2, y2)) (some (x3, y3)))))
 rw [el, er, C.lower_sc (C.ne hc hc), C.lower_sc (C.ne hd hd)]
 exact C.same (C.good_of (C.ne hc hc) gl) (C.good_of (C.ne hd hd) gr) h1 h2
end
end EC
end Go.Proofs.YtahgdighnlekdaaGreatDoor
end
section
namespace Go.Proofs.YtahgdighnlekdaaGreatDoor
namespace EC
section
variable {β : Type _} (O : Ops β)
def od (a : β) : β := O.add a a
def twi (b : β) (p : Tri β) : Tri β :=
 let yy := O.mul p.2.1 p.2.1
 let yz := O.mul p.2.1 p.2.2
 let zz3 := o3 O (O.mul b (O.mul p.2.2 p.2.2))
 let yy8 := od O (od O (od O yy))
 let less := osub O yy (o3 O zz3)
 let more := O.add yy zz3
 (od O (O.mul less (O.mul p.1 p.2.1)), O.add (O.mul less more) (O.mul yy8 zz3), O.mul yy8 yz)
end
section
variable {α : Type} (C : Crv α)
open Ex in
theorem Crv.twi_sc (c : α) (A : Tri α) : twi (rops C.R) C.b (C.sc c A) = C.sc (C.R.mul (C.R.mul c c) (C.R.mul c c)) (twi (rops C.R) C.b A) := by
 obtain ⟨x1, y1, z1⟩ := A
 refine Prod.ext ?_ (Prod.ext ?_ ?_)
 ·exact ring_f C.R C.b x1 y1 z1 c C.b C.b C.b (twi exo (v 0) (m (v 4) (v 1), m (v 4) (v 2), m (v 4) (v 3))).1 (m (m (m (v 4) (v 4)) (m (v 4) (v 4))) (twi exo (v 0) (v 1, v 2, v 3)).1) (by decide +kernel)
 ·exact ring_f C.R C.b x1 y1 z1 c C.b C.b C.b (twi exo (v 0) (m (v 4) (v 1), m (v 4) (v 2), m (v 4) (v 3))).2.1 (m (m (m (v 4) (v 4)) (m (v 4) (v 4))) (twi exo (v 0) (v 1, v 2, v 3)).2.1) (by decide +kernel)
 ·exact ring_f C.R C.b x1 y1 z1 c C.b C.b C.b (twi exo (v 0) (m (v 4) (v 1), m (v 4) (v 2), m (v 4) (v 3))).2.2 (m (m (m (v 4) (v 4)) (m (v 4) (v 4))) (twi exo (v 0) (v 1, v 2, v 3)).2.2) (by decide +kernel)
open Ex in
theorem Crv.twi_tog {x y : α} (h : C.on (some (x, y))) : twi (rops C.R) C.b (x, y, C.R.one) = C.tog (x, y, C.R.one) (x, y, C.R.one) := by
 have h' : C.R.mul y y = side C.R C.b x := h
 refine Prod.ext ?_ (Prod.ext ?_ ?_)
 ·exact ring_c C.R C.b x x y y h' h' (twi exo (v 0) (v 1, v 3, o)).1 (EC.tog exo (v 0) (v 1, v 3, o) (v 1, v 3, o)).1 (by decide +kernel)
 ·exact ring_c C.R C.b x x y y h' h' (twi exo (v 0) (v 1, v 3, o)).2.1 (EC.tog exo (v 0) (v 1, v 3, o) (v 1, v 3, o)).2.1 (by decide +kernel)
 ·exact ring_c C.R C.b x x y y h' h' (twi exo (v 0) (v 1, v 3, o)).2.2 (EC.tog exo (v 0) (v 1, v 3, o) (v 1, v 3, o)).2.2 (by decide +kernel)
theorem Crv.sc_sc (c d : α) (T : Tri α) : C.sc c (C.sc d T) = C.sc (C.R.mul c d) T := by
 show (C.R.mul c (C.R.mul d _), C.R.mul c (C.R.mul d _), C.R.mul c (C.R.mul d _)) = (C.R.mul (C.R.mul c d) _, C.R.mul (C.R.mul c d) _, C.R.mul (C.R.mul c d) _)
 rw [C.R.mul_assoc, C.R.mul_assoc, C.R.mul_assoc]
theorem Crv.sc_one (T : Tri α) : C.sc C.R.one T = T := by
 show (C.R.mul _ T.1, C.R.mul _ T.2.1, C.R.mul _ T.2.2) = T
 rw [C.R.one_mul, C.R.one_mul, C.R.one_mul]
/-- The three numbers are the point's. -/
def Crv.rep (T : Tri α) (P : Option (α × α)) : Prop := ∃ c, c ≠ C.R.zero ∧ T = C.sc c (C.lift P)
theorem Crv.rep_lift (P : Option (α × α)) : C.rep (C.lift P) P := ⟨C.R.one, C.h1, (C.sc_one _).symm⟩
theorem Crv.rep_sc {T : Tri α} {P : Option (α × α)} {c : α} (hc : c ≠ C.R.zero) (h : C.rep T P) : C.rep (C.sc c T) P := by
 obtain ⟨d, hd, e⟩ := h
 exact ⟨C.R.mul c d, C.ne hc hd, by rw [e, C.sc_sc]⟩
end
section
variable {α : Type} [DecidableEq α] (C : Crv α)
theorem Crv.rep_lower {T : Tri α} {P : Option (α × α)} (h : C.rep T P) : C.lower T = P := by
 obtain ⟨c, hc, e⟩ := h
 rw [e, C.lower_sc hc, C.lower_lift]
theorem Crv.rep_of {T : Tri α} (h : C.good T) : C.rep T (C.lower T) := by
 obtain ⟨c, hc, e⟩ := C.lift_lower h
 refine ⟨C.inv c, C.inv_ne hc, ?_⟩
 rw [e, C.sc_sc, C.hinv c hc, C.sc_one]
theorem Crv.rep_tog {A B : Tri α} {P Q : Option (α × α)} (hA : C.rep A P) (hB : C.rep B Q) (hP : C.on P) (hQ : C.on Q) : C.rep (C.tog A B) (C.add P Q) := by
 obtain ⟨c, hc, rfl⟩ := hA
 obtain ⟨d, hd, rfl⟩ := hB
 rw [C.tog_sc, C.tog_sc', C.sc_sc]
 exact C.rep_sc (C.ne (C.ne hc hc) (C.ne hd hd)) (C.rep_of (C.good_tog hP hQ))
/-- twice: itself, where the third number is 0. -/
def Crv.twice (A : Tri α) : Tri α := if A.2.2 = C.R.zero then A else twi (rops C.R) C.b A
theorem Crv.rep_twice {A : Tri α} {P : Option (α × α)} (hA : C.rep A P) (hP : C.on P) : C.rep (C.twice A) (C.add P P) := by
 obtain ⟨c, hc, rfl⟩ := hA
 rcases P with _ | ⟨x, y⟩
 ·unfold Crv.twice
  rw [if_pos (show (C.sc c (C.lift none)).2.2 = C.R.zero from C.R.mul_zero c), C.zero_add (Q := none) trivial]
  exact ⟨c, hc, rfl⟩
 ·unfold Crv.twice
  rw [if_neg (show (C.sc c (C.lift (some (x, y)))).2.2 ≠ C.R.zero from C.ne hc C.h1), C.twi_sc]
  refine C.rep_sc (C.ne (C.ne hc hc) (C.ne hc hc)) ?_
  show C.rep (twi (rops C.R) C.b (x, y, C.R.one)) _
  rw [C.twi_tog hP]
  exact C.rep_of (C.good_tog hP hP)
def Crv.times (P : Option (α × α)) : Nat → Option (α × α)
 | 0 => none
 | n + 1 => C.add (Crv.times P n) P
theorem Crv.times_on {P : Option (α × α)} (h : C.on P) : ∀ n, C.on (C.times P n)
 | 0 => trivial
 | n + 1 => C.add_on (Crv.times_on h n) h
theorem Crv.times_add {P : Option (α × α)} (h : C.on P) (m : Nat) : ∀ n, C.times P (m + n) = C.add (C.times P m) (C.times P n)
 | 0 => (C.add_zero (C.times_on h m)).symm
 | n + 1 => by
  show C.add (C.times P (m + n)) P = C.add (C.times P m) (C.add (C.times P n) P)
  rw [Crv.times_add h m n, C.assoc (C.times_on h m) (C.times_on h n) h]
theorem Crv.times_one {P : Option (α × α)} (h : C.on P) : C.times P 1 = P := C.zero_add h
end
end EC
end Go.Proofs.YtahgdighnlekdaaGreatDoor
end
section
namespace Go.Proofs.YtahgdighnlekdaaGreatDoor
open Go.RowKit
namespace Rg
/-! Wide numbers, word by word: twelve words in two halves. -/
theorem Mm.atk {w : World} {l l' : List (Nat × List Value)} (h : Mm w l) (e : l = l') : Mm w l' := e ▸ h
/-! Wide numbers stand for integers. -/
def bb : Nat := big * big
def wz (z : Int) : Nat := (z % (bb : Int)).toNat
abbrev lo (z : Int) : Nat := wz z % big
abbrev hi (z : Int) : Nat := wz z / big
/-! Numbers by p. -/
theorem Mm.over {u w : World} {l : List (Nat × List Value)} {g : Nat} {cs : List Value} (h0 : Mm u l) (hge : u.heap.size ≤ g) (h1 : Mm w l) (hb : Blk w g cs) (hlt : g < w.heap.size) : Mm w ((g, cs) :: l) :=
 h1.cons hb hlt (fun p hp => by have := (h0.blk p hp).1; omega)
/-! Numbers by p stand for integers. -/
def pz (z : Int) : Nat := (z % (pB : Int)).toNat
theorem pBI : (0 : Int) < (pB : Int) := by have := pB_ok.pos; omega
theorem pz_cast (z : Int) : ((pz z : Nat) : Int) = z % (pB : Int) := Int.toNat_of_nonneg (Int.emod_nonneg _ (by have := pBI; omega))
theorem pz_lt (z : Int) : pz z < pB := by
 have h := pz_cast z
 have h2 := Int.emod_lt_of_pos z pBI
 omega
theorem pz_congr {x y : Int} (h : x % (pB : Int) = y % (pB : Int)) : pz x = pz y := by unfold pz; rw [h]
theorem pz_nat (n : Nat) : pz (n : Int) = n % pB := by
 have h := pz_cast (n : Int)
 rw [← Int.natCast_emod] at h
 omega
theorem pz_mul (x y : Int) : pz ((pz x : Int) * (pz y : Int)) = pz (x * y) := pz_congr (by rw [pz_cast, pz_cast, ← Int.mul_emod])
theorem pz_zero : pz 0 = 0 := by unfold pz; rw [Int.zero_emod]; rfl
theorem zR {P : Program} {c : Code} {Q : Exit → Act → World → Prop} {n : Nat} {a : Act} {w : World} (h : c.wp P (Exit.then (Code.rounds P c Q n) Q) a w) : Code.rounds P c Q (n + 1) a w := h
theorem Mm.pick {w : World} {l : List (Nat × List Value)} (h : Mm w l) (js : List Nat) {l' : List (Nat × List Value)} (e : js.map (fun i => l[i]?) = l'.map some) (hn : js.Pairwise (· ≠ ·)) : Mm w l' := by
 have hpw := List.pairwise_iff_getElem.1 h.nd
 have hlen : js.length = l'.length := by
  have := congrArg List.length e
  simpa using this
 have at_ : ∀ (k : Nat) (hk : k < l'.length), l[js[k]'(by omega)]? = some l'[k] := fun k hk => by
  have h2 : (js.map (fun i => l[i]?))[k]? = (l'.map some)[k]? := by rw [e]
  rw [List.getElem?_map, List.getElem?_map, List.getElem?_eq_getElem (show k < js.length by omega), List.getElem?_eq_getElem hk] at h2
  simpa using h2
 refine ⟨fun p hp => ?_, List.pairwise_iff_getElem.2 fun i j hi hj hij => ?_⟩
 ·obtain ⟨k, hk, ek⟩ := List.getElem_of_mem hp
  have := at_ k hk
  rw [ek] at this
  exact h.blk p (List.mem_of_getElem? this)
 ·have h1 := at_ i hi
  have h2 := at_ j hj
  have hne : js[i]'(by omega) ≠ js[j]'(by omega) := (List.pairwise_iff_getElem.1 hn) i j (by omega) (by omega) hij
  obtain ⟨q1, e1⟩ := List.getElem?_eq_some_iff.1 h1
  obtain ⟨q2, e2⟩ := List.getElem?_eq_some_iff.1 h2
  rw [← e1, ← e2]
  rcases Nat.lt_or_gt_of_ne hne with hl | hl
  ·exact hpw _ _ q1 q2 hl
  ·exact (hpw _ _ q2 q1 hl).symm
theorem ex_shl4 {ρ : Operand → Value} {o : Oper} {x y : Operand} {a : Int} {w : World} (ho : o.op = .binOp .shl 22 x y 157) (hx : ρ x = .int .u64 a) (hy : ρ y = .int .u64 4) :
  (execOp ρ o).run Tryz.prog w = .ok (.value (.int .u64 (IntKind.u64.wrap (a * 2 ^ 4)))) w := by
 simp only [execOp, ho, hx, hy]
 clear ho hx hy
 go_simp
theorem ex_shr60 {ρ : Operand → Value} {o : Oper} {x y : Operand} {a : Int} {w : World} (ho : o.op = .binOp .shr 22 x y 157) (hx : ρ x = .int .u64 a) (hy : ρ y = .int .u64 60) :
  (execOp ρ o).run Tryz.prog w = .ok (.value (.int .u64 (a / 2 ^ 60))) w := by
 simp only [execOp, ho, hx, hy]
 clear ho hx hy
 go_simp
theorem ex_mkPN {ρ : Operand → Value} {o : Oper} {x y : Operand} {w : World} (ho : o.op = .makeSlice 129 x y) (hx : ρ x = .int .i64 1) (hy : ρ y = .int .i64 1) :
  (execOp ρ o).run Tryz.prog w = .ok (.value (.slice (some ⟨w.heap.size, 0, none⟩) 1 1)) (w.alloc (.cells (pc1 0 0 false : List Value).toArray 95)) := by
 simp only [execOp, ho, hx, hy]
 kernel_rfl
theorem ex_mkTN {ρ : Operand → Value} {o : Oper} {x y : Operand} {w : World} (ho : o.op = .makeSlice 168 x y) (hx : ρ x = .int .i64 1) (hy : ρ y = .int .i64 1) :
  (execOp ρ o).run Tryz.prog w = .ok (.value (.slice (some ⟨w.heap.size, 0, none⟩) 1 1)) (w.alloc (.cells (cel [0, 0, 0, 0, 0, 0, 0, 0, 0, 0, 0, 0, 0, 0, 0, 0, 0, 0, 0, 0, 0, 0, 0, 0, 0, 0, 0, 0, 0, 0, 0, 0, 0, 0, 0, 0, 0, 0, 0, 0, 0, 0, 0, 0, 0, 0, 0, 0] : List Value).toArray 170)) := by
 simp only [execOp, ho, hx, hy]
 kernel_rfl
theorem ex_mkU {ρ : Operand → Value} {o : Oper} {x y : Operand} {w : World} (ho : o.op = .makeSlice 172 x y) (hx : ρ x = .int .i64 1) (hy : ρ y = .int .i64 1) :
  (execOp ρ o).run Tryz.prog w = .ok (.value (.slice (some ⟨w.heap.size, 0, none⟩) 1 1)) (w.alloc (.cells ([Value.int .u64 0] : List Value).toArray 22)) := by
 simp only [execOp, ho, hx, hy]
 kernel_rfl
theorem ex_slice129 {ρ : Operand → Value} {o : Oper} {x y z : Operand} {g : Nat} {w : World} (ho : o.op = .slice 129 x (some y) (some z) none) (hx : ρ x = .slice (some ⟨g, 0, none⟩) 1 1) (hy : ρ y = .int .i64 0) (hz : ρ z = .int .i64 1) :
  (execOp ρ o).run Tryz.prog w = .ok (.value (.slice (some ⟨g, 0, none⟩) 1 1)) w := by
 simp only [execOp, ho, hx, hy, hz, Option.map_some, Option.map_none]
 go_simp
theorem ex_slice73 {ρ : Operand → Value} {o : Oper} {x y z : Operand} {g : Nat} {w : World} (ho : o.op = .slice 73 x (some y) (some z) none) (hx : ρ x = .slice (some ⟨g, 0, none⟩) 1 1) (hy : ρ y = .int .i64 0) (hz : ρ z = .int .i64 1) :
  (execOp ρ o).run Tryz.prog w = .ok (.value (.slice (some ⟨g, 0, none⟩) 1 1)) w := by
 simp only [execOp, ho, hx, hy, hz, Option.map_some, Option.map_none]
 go_simp
theorem ex_madeTB1 {ρ : Operand → Value} {o : Oper} {w : World} (ho : o.op = .alloc 170) :
  (execOp ρ o).run Tryz.prog w = .ok (.value (.pointer (some ⟨w.heap.size, 0, none⟩))) (w.alloc (.cells (cel [0, 0, 0, 0, 0, 0, 0, 0, 0, 0, 0, 0, 0, 0, 0, 0, 0, 0, 0, 0, 0, 0, 0, 0, 0, 0, 0, 0, 0, 0, 0, 0, 0, 0, 0, 0, 0, 0, 0, 0, 0, 0, 0, 0, 0, 0, 0, 0]).toArray 170)) := by
 simp only [execOp, ho]
 kernel_rfl
theorem ex_buildTB1 {ρ : Operand → Value} {o : Oper} {x0 x1 : Operand} {a0 a1 a2 b0 b1 b2 : Nat} {w : World} (ho : o.op = .build 170 #[(0, x0), (1, x1)]) (h0 : ρ x0 = V [a0, a1, a2]) (h1 : ρ x1 = V [b0, b1, b2]) : (execOp ρ o).run Tryz.prog w = .ok (.value (V [a0, a1, a2, b0, b1, b2, 0, 0, 0, 0, 0, 0, 0, 0, 0, 0, 0, 0, 0, 0, 0, 0, 0, 0, 0, 0, 0, 0, 0, 0, 0, 0, 0, 0, 0, 0, 0, 0, 0, 0, 0, 0, 0, 0, 0, 0, 0, 0])) w := by
 simp only [execOp, ho, List.map_toArray, List.map_cons, List.map_nil, h0, h1]
 clear ho h0 h1
 kernel_rfl
theorem ex_idxTB1 {ρ : Operand → Value} {o : Oper} {x y : Operand} {g j : Nat} {w : World} (ho : o.op = .indexAddr 170 x y) (hx : ρ x = PT g 0) (hy : ρ y = .int .u64 ((j : Nat) : Int)) (hj : j < 16) :
  (execOp ρ o).run Tryz.prog w = .ok (.value (PT g (6 * (3 * j)))) w := by
 have h1 : (j : Int) < 16 := by omega
 have e : j * 18 = 6 * (3 * j) := by omega
 simp only [execOp, ho, hx, hy]
 clear ho hx hy
 go_simp
/-- A table's numbers. -/
def tb1 (f : Nat → Nat) : List Nat := [f 0, f 1, f 2, f 3, f 4, f 5, f 6, f 7, f 8, f 9, f 10, f 11, f 12, f 13, f 14, f 15, f 16, f 17, f 18, f 19, f 20, f 21, f 22, f 23, f 24, f 25, f 26, f 27, f 28, f 29, f 30, f 31, f 32, f 33, f 34, f 35, f 36, f 37, f 38, f 39, f 40, f 41, f 42, f 43, f 44, f 45, f 46, f 47]
abbrev tbz1 (m : Nat) (f : Nat → Nat) : List Nat := (tb1 f).take m ++ List.replicate (48 - m) 0
theorem tb1_ld (f : Nat → Nat) {j : Nat} (hj : j < 16) : ((tb1 f).drop (3 * j)).take 3 = [f (3 * j), f (3 * j + 1), f (3 * j + 2)] := by
 match j, hj with
 | 0, _ => rfl
 | 1, _ => rfl
 | 2, _ => rfl
 | 3, _ => rfl
 | 4, _ => rfl
 | 5, _ => rfl
 | 6, _ => rfl
 | 7, _ => rfl
 | 8, _ => rfl
 | 9, _ => rfl
 | 10, _ => rfl
 | 11, _ => rfl
 | 12, _ => rfl
 | 13, _ => rfl
 | 14, _ => rfl
 | 15, _ => rfl
 | _ + 16, h => exact absurd h (by omega)
end Rg
end Go.Proofs.YtahgdighnlekdaaGreatDoor
end
section
namespace Go.Proofs.YtahgdighnlekdaaGreatDoor
open Go.RowKit
namespace Rg
set_option maxRecDepth 100000
theorem len_zero : zero6.length = (zC 0).length := by simp only [List.length_cons]
section
variable {ρ : Operand → Value} {o : Oper} {x y z u : Operand} {a b c d : Nat} {w : World}
theorem ex_bsN1 (ho : o.op = .buildSlice 73 1 #[(0, x)]) (hx : ρ x = N a) : (execOp ρ o).run Tryz.prog w = .ok (.value (.slice (some ⟨w.heap.size, 0, none⟩) 1 1)) (w.alloc (.cells (cel [a] : List Value).toArray 24)) := by
 simp only [execOp, ho, List.map_toArray, List.map_cons, List.map_nil, hx]
 kernel_rfl
theorem ex_bsN2 (ho : o.op = .buildSlice 73 2 #[(0, x), (1, y)]) (hx : ρ x = N a) (hy : ρ y = N b) : (execOp ρ o).run Tryz.prog w = .ok (.value (.slice (some ⟨w.heap.size, 0, none⟩) 2 2)) (w.alloc (.cells (cel [a, b] : List Value).toArray 24)) := by
 simp only [execOp, ho, List.map_toArray, List.map_cons, List.map_nil, hx, hy]
 kernel_rfl
end
theorem order_great (r : Nat)
  (c0 : ∀ w, Calls Tryz.prog 18 #[] w (Rt w (N r))) (w : World) :
  Calls Tryz.prog 7 #[.int .i64 0] w (Rt w (.tuple #[N r, .int .i64 0])) := by
 have H0 : Hid (_ ∧ _) := ⟨Mm.nil w, Below.refl w.heap.size w⟩
 have C0 : Hid _ := c0
 clear c0
 go_enter Tryz.func7, Tryz.ntmps7
 refine wp_seq ?_
 refine zD 2 [.made zero6 24, .q (.int .i64 0)] (sB H0) ?ho1 ?he1
 case ho1 => exact am (zH rfl) (ar trivial)
 intro J w1 l hM hl
 have H1 : Hid (Mm w1 [(J 0, zero6)] ∧ _) := wB H0 hM hl [0]
 have o1_0 := vB H0 hM hl 0
 clear hM hl l
 generalize J 0 = J1_0 at H1 o1_0 ⊢
 clear J
 refine rN (wp_seq ?_)
 refine zB 1 [.q (.int .i64 0)] H1 ?ho2 ?he2
 case ho2 => exact ar trivial
 intro _ w2 H2
 clear H1
 refine rN (wp_block (wp_seq ?_))
 refine zB 2 [.q (.bool true), .q (.bool true)] H2 ?ho3 ?he3
 case ho3 => exact ag (ar trivial)
 intro _ w3 H3
 clear H2
 refine rN (wp_cond_true rfl (wp_seq ?_))
 refine zB 1 [.call (N r)] H3 ?ho4 ?he4
 case ho4 => exact ac (fun w' h => eC call18 (C0.out w')) trivial
 intro _ w4 H4
 clear H3
 refine zF (l := [1, 2]) rfl ?_
 refine sG rfl (fun h => zM h 0 rfl rfl rfl rfl (Nat.le_of_ble_eq_true rfl)) 0 [(_, zC r)] H4 o1_0 fun w5 H5 => ?_
 clear H4
 refine zG (d := 3) rfl rfl rfl rfl ?_
 simp only [Act.put, sa, sz, ss]
 refine zE (zA (wp_ret ?_))
 repeat (first | refine zJ ?_ | refine zI ?_)
 have c0 := H5.out.1.get 0 rfl 0 rfl
 have c1 := H5.out.1.get 0 rfl 1 rfl
 have c2 := H5.out.1.get 0 rfl 2 rfl
 have c3 := H5.out.1.get 0 rfl 3 rfl
 have c4 := H5.out.1.get 0 rfl 4 rfl
 have c5 := H5.out.1.get 0 rfl 5 rfl
 refine bodyPost_ret (v := .tuple #[N r, .int .i64 0]) (by simp [results, Tryz.results7, go_sem, *]) rfl ?_
 exact ⟨rfl, H5.out.2⟩
theorem order_little (s er : Int) (q r : Nat) (hs : s ≠ 0)
  (c0 : ∀ w, Calls Tryz.prog 19 #[.int .i64 s] w (Rt w (.tuple #[.int .u64 (q : Int), .int .i64 er])))
  (c1 : ∀ w, Calls Tryz.prog 6 #[.int .u64 (q : Int)] w (Rt w (N r))) (w : World) :
  Calls Tryz.prog 7 #[.int .i64 s] w (Rt w (.tuple #[N r, .int .i64 er])) := by
 have H0 : Hid (_ ∧ _) := ⟨Mm.nil w, Below.refl w.heap.size w⟩
 have C0 : Hid _ := c0
 have C1 : Hid _ := c1
 clear c0 c1
 go_enter Tryz.func7, Tryz.ntmps7
 refine wp_seq ?_
 refine zD 2 [.made zero6 24, .q (.int .i64 0)] (sB H0) ?ho1 ?he1
 case ho1 => exact am (zH rfl) (ar trivial)
 intro J w1 l hM hl
 have H1 : Hid (Mm w1 [(J 0, zero6)] ∧ _) := wB H0 hM hl [0]
 have o1_0 := vB H0 hM hl 0
 clear hM hl l
 generalize J 0 = J1_0 at H1 o1_0 ⊢
 clear J
 refine rN (wp_seq ?_)
 refine zB 1 [.q (.int .i64 s)] H1 ?ho2 ?he2
 case ho2 => exact ar trivial
 intro _ w2 H2
 clear H1
 refine rN (wp_block (wp_seq ?_))
 refine zB 2 [.q (.bool false), .q (.bool false)] H2 ?ho3 ?he3
 case ho3 => exact ag (ar trivial)
 intro _ w3 H3
 clear H2
 refine rN (wp_cond_false rfl (wp_seq ?_))
 refine zB 7 [.q (.int .i64 s), .call (.tuple #[.int .u64 (q : Int), .int .i64 er]), .q (.tuple #[.int .u64 (q : Int), .int .i64 er]), .q (.int .u64 (q : Int)), .q (.int .i64 er), .q (.int .u64 (q : Int)), .q (.int .i64 er)] H3 ?ho4 ?he4
 case ho4 => exact ar (ac (fun w' h => eC call19 (C0.out w')) (ar (ag (ag (ar (ar trivial))))))
 intro _ w4 H4
 clear H3
 refine rN (wp_seq ?_)
 refine zB 3 [.q (.int .u64 (q : Int)), .call (N r), .q (.int .i64 er)] H4 ?ho5 ?he5
 case ho5 => exact ar (ac (fun w' h => eC call6 (C1.out w')) (ar trivial))
 intro _ w5 H5
 clear H4
 refine zF (l := [3, 4]) rfl ?_
 refine sG rfl (fun h => zM h 0 rfl rfl rfl rfl (Nat.le_of_ble_eq_true rfl)) 0 [(_, zC r)] H5 o1_0 fun w6 H6 => ?_
 clear H5
 refine zG (d := 3) rfl rfl rfl rfl ?_
 simp only [Act.put, sa, sz, ss]
 refine zE (zA (wp_ret ?_))
 repeat (first | refine zJ ?_ | refine zI ?_)
 have c0 := H6.out.1.get 0 rfl 0 rfl
 have c1 := H6.out.1.get 0 rfl 1 rfl
 have c2 := H6.out.1.get 0 rfl 2 rfl
 have c3 := H6.out.1.get 0 rfl 3 rfl
 have c4 := H6.out.1.get 0 rfl 4 rfl
 have c5 := H6.out.1.get 0 rfl 5 rfl
 refine bodyPost_ret (v := .tuple #[N r, .int .i64 er]) (by simp [results, Tryz.results7, go_sem, *]) rfl ?_
 exact ⟨rfl, H6.out.2⟩
/-- A suite: its order is told, and is a modulus. -/
structure Su (s : Int) (r : Nat) : Prop where
 ord : ∀ w, Calls Tryz.prog 7 #[.int .i64 s] w (Rt w (.tuple #[N r, .int .i64 0]))
 ok : Ok r
/-- No suite. -/
def Sn (s : Int) : Prop := ∀ w, Calls Tryz.prog 7 #[.int .i64 s] w (Rt w (.tuple #[N 0, .int .i64 2]))
theorem cmpv_ge {a n : Nat} (h : ¬ a < n) : 0 ≤ cmpv a n := by have := cmp_ge h; omega
theorem cmp_raw {a r : Nat} (ha : a < big) (ok : Ok r) (w : World) : Calls Tryz.prog 42 #[N a, N r] w (Rt w (.int .i64 (cmpv a r))) := compare_any a r ha ok.big w
theorem cmp_below {a r : Nat} (h : a < r) (ok : Ok r) (w : World) : Calls Tryz.prog 42 #[N a, N r] w (Rt w (.int .i64 (-1))) := by
 have e := compare_any a r (Nat.lt_trans h ok.big) ok.big w
 rw [cmp_lt h] at e
 exact e
set_option maxHeartbeats 1000000 in
theorem above1_ok {s : Int} {r : Nat} (hS : Su s r) (g a : Nat) (ha : a < r) (w : World) (hm : Mm w [(g, cel [a])]) :
  Calls Tryz.prog 24 #[.int .i64 s, .slice (some ⟨g, 0, none⟩) 1 1] w (Rt w (.tuple #[N r, .int .i64 0])) := by
 have H0 : Hid (_ ∧ _) := ⟨hm, Below.refl w.heap.size w⟩
 clear hm
 go_enter Tryz.func24, Tryz.ntmps24
 refine wp_seq ?_
 refine zD 2 [.made zero6 24, .q (.int .i64 0)] (sB H0) ?ho1 ?he1
 case ho1 => exact am (zH rfl) (ar trivial)
 intro J w1 l hM hl
 have H1 : Hid (Mm w1 ([(J 0, zero6)] ++ _) ∧ _) := wB H0 hM hl [0]
 have o1_0 := vB H0 hM hl 0
 clear hM hl l
 generalize J 0 = J1_0 at H1 o1_0 ⊢
 clear J
 refine rN (wp_seq ?_)
 refine zD 8 [.q (.int .i64 s), .call (.tuple #[N r, .int .i64 0]), .q (.tuple #[N r, .int .i64 0]), .q (N r), .q (.int .i64 0), .made zero6 24, .laid 5 zero6 (zC r), .q (.int .i64 0)] (sB H1) ?ho2 ?he2 (hL := ?hL2)
 case hL2 => exact ⟨⟨_, rfl⟩, trivial⟩
 case ho2 => exact ar (ac (fun w' h => eC call7 (hS.ord w')) (ar (ag (ag (am (zH rfl) (ak (fun J => ⟨rfl, rfl, rfl, fun w' h => zL h rfl rfl rfl⟩) (ar trivial)))))))
 intro J w2 l hM hl
 have H2 : Hid (Mm w2 ([(J 5, zC r)] ++ _) ∧ _) := wB H1 hM hl [5]
 have o2_5 := vB H1 hM hl 5
 clear hM hl l H1
 generalize J 5 = J2_5 at H2 o2_5 ⊢
 clear J
 refine rN (wp_seq (wp_seq ?_))
 refine zB 2 [.q (.int .i64 0), .q (.bool false)] H2 ?ho3 ?he3
 case ho3 => exact ar (ag trivial)
 intro _ w3 H3
 clear H2
 refine rN (wp_cond_false rfl ?_)
 refine wp_skip (zA ?_)
 refine wp_seq (wp_seq ?_)
 refine zB 3 [.q (.slice (some ⟨g, 0, none⟩) 1 1), .q (.int .i64 1), .q (.int .i64 0)] H3 ?ho4 ?he4
 case ho4 => exact ar (ag (ar trivial))
 intro _ w4 H4
 clear H3
 refine rN (wp_block ?_)
 refine wp_loop_rounds 2 ?_
 refine zR (n := 1) ?_
 refine wp_seq ?_
 refine zB 1 [.q (.bool true)] H4 ?ho5 ?he5
 case ho5 => exact ag trivial
 intro _ w5 H5
 clear H4
 refine rN (wp_seq ?_)
 refine wp_cond_true rfl (wp_skip ?_)
 refine zA (wp_seq ?_)
 refine wp_block (wp_seq ?_)
 refine zD 4 [.q (PT g 0), .q (N a), .made zero6 24, .laid 2 zero6 (zC a)] (sB H5) ?ho6 ?he6 (hL := ?hL6)
 case hL6 => exact ⟨⟨_, rfl⟩, trivial⟩
 case ho6 => exact ag (aq (fun w' h => ex_loadN (i := 0) h 2 rfl rfl rfl rfl) (am (zH rfl) (ak (fun J => ⟨rfl, rfl, rfl, fun w' h => zL h rfl rfl rfl⟩) trivial)))
 intro J w6 l hM hl
 have H6 : Hid (Mm w6 ([(J 2, zC a)] ++ _) ∧ _) := wB H5 hM hl [2]
 have o6_2 := vB H5 hM hl 2
 clear hM hl l H5
 generalize J 2 = J6_2 at H6 o6_2 ⊢
 clear J
 refine rN (wp_seq ?_)
 refine zB 4 [.q (N a), .q (N r), .call (.int .i64 (-1)), .q (.bool false)] H6 ?ho7 ?he7
 case ho7 => exact bN 0 (bN 1 (ac (fun w' h => eC call42 (cmp_below ha hS.ok w')) (ag trivial)))
 intro _ w7 H7
 clear H6
 refine rN (wp_cond_false rfl ?_)
 refine wp_skip (zK (zA ?_))
 refine zB 1 [.q (.int .i64 1)] H7 ?ho8 ?he8
 case ho8 => exact av trivial
 intro _ w8 H8
 clear H7
 refine zF (l := [1]) rfl ?_
 refine zG (d := 21) rfl rfl rfl rfl ?_
 simp only [Act.put, sa, sz, ss]
 refine zE (zA ?_)
 refine zR (n := 0) ?_
 refine wp_seq ?_
 refine zB 1 [.q (.bool false)] H8 ?ho9 ?he9
 case ho9 => exact ag trivial
 intro _ w9 H9
 clear H8
 refine rN (wp_seq (wp_cond_false rfl ?_))
 refine wp_exit ?_
 repeat refine then_exit ?_
 refine block_exit ?_
 refine zA (wp_seq ?_)
 refine zB 1 [.q (N r)] H9 ?ho10 ?he10
 case ho10 => exact bN 1 trivial
 intro _ w10 H10
 clear H9
 refine zF (l := [1, 2]) rfl ?_
 refine sG rfl (fun h => zM h 2 rfl rfl rfl rfl (Nat.le_of_ble_eq_true rfl)) 2 [_, _, (_, zC r), _] H10 o1_0 fun w11 H11 => ?_
 clear H10
 refine zG (d := 5) rfl rfl rfl rfl ?_
 simp only [Act.put, sa, sz, ss]
 refine zE (zA (wp_ret ?_))
 repeat (first | refine zJ ?_ | refine zI ?_)
 have c0 := H11.out.1.get 2 rfl 0 rfl
 have c1 := H11.out.1.get 2 rfl 1 rfl
 have c2 := H11.out.1.get 2 rfl 2 rfl
 have c3 := H11.out.1.get 2 rfl 3 rfl
 have c4 := H11.out.1.get 2 rfl 4 rfl
 have c5 := H11.out.1.get 2 rfl 5 rfl
 refine bodyPost_ret (v := .tuple #[N r, .int .i64 0]) (by simp [results, Tryz.results24, go_sem, *]) rfl ?_
 exact ⟨rfl, H11.out.2⟩
set_option maxHeartbeats 1000000 in
theorem above2_ok {s : Int} {r : Nat} (hS : Su s r) (g a b : Nat) (ha : a < r) (hb : b < r) (w : World) (hm : Mm w [(g, cel [a, b])]) :
  Calls Tryz.prog 24 #[.int .i64 s, .slice (some ⟨g, 0, none⟩) 2 2] w (Rt w (.tuple #[N r, .int .i64 0])) := by
 have H0 : Hid (_ ∧ _) := ⟨hm, Below.refl w.heap.size w⟩
 clear hm
 go_enter Tryz.func24, Tryz.ntmps24
 refine wp_seq ?_
 refine zD 2 [.made zero6 24, .q (.int .i64 0)] (sB H0) ?ho1 ?he1
 case ho1 => exact am (zH rfl) (ar trivial)
 intro J w1 l hM hl
 have H1 : Hid (Mm w1 ([(J 0, zero6)] ++ _) ∧ _) := wB H0 hM hl [0]
 have o1_0 := vB H0 hM hl 0
 clear hM hl l
 generalize J 0 = J1_0 at H1 o1_0 ⊢
 clear J
 refine rN (wp_seq ?_)
 refine zD 8 [.q (.int .i64 s), .call (.tuple #[N r, .int .i64 0]), .q (.tuple #[N r, .int .i64 0]), .q (N r), .q (.int .i64 0), .made zero6 24, .laid 5 zero6 (zC r), .q (.int .i64 0)] (sB H1) ?ho2 ?he2 (hL := ?hL2)
 case hL2 => exact ⟨⟨_, rfl⟩, trivial⟩
 case ho2 => exact ar (ac (fun w' h => eC call7 (hS.ord w')) (ar (ag (ag (am (zH rfl) (ak (fun J => ⟨rfl, rfl, rfl, fun w' h => zL h rfl rfl rfl⟩) (ar trivial)))))))
 intro J w2 l hM hl
 have H2 : Hid (Mm w2 ([(J 5, zC r)] ++ _) ∧ _) := wB H1 hM hl [5]
 have o2_5 := vB H1 hM hl 5
 clear hM hl l H1
 generalize J 5 = J2_5 at H2 o2_5 ⊢
 clear J
 refine rN (wp_seq (wp_seq ?_))
 refine zB 2 [.q (.int .i64 0), .q (.bool false)] H2 ?ho3 ?he3
 case ho3 => exact ar (ag trivial)
 intro _ w3 H3
 clear H2
 refine rN (wp_cond_false rfl ?_)
 refine wp_skip (zA ?_)
 refine wp_seq (wp_seq ?_)
 refine zB 3 [.q (.slice (some ⟨g, 0, none⟩) 2 2), .q (.int .i64 2), .q (.int .i64 0)] H3 ?ho4 ?he4
 case ho4 => exact ar (ag (ar trivial))
 intro _ w4 H4
 clear H3
 refine rN (wp_block ?_)
 refine wp_loop_rounds 3 ?_
 refine zR (n := 2) ?_
 refine wp_seq ?_
 refine zB 1 [.q (.bool true)] H4 ?ho5 ?he5
 case ho5 => exact ag trivial
 intro _ w5 H5
 clear H4
 refine rN (wp_seq ?_)
 refine wp_cond_true rfl (wp_skip ?_)
 refine zA (wp_seq ?_)
 refine wp_block (wp_seq ?_)
 refine zD 4 [.q (PT g 0), .q (N a), .made zero6 24, .laid 2 zero6 (zC a)] (sB H5) ?ho6 ?he6 (hL := ?hL6)
 case hL6 => exact ⟨⟨_, rfl⟩, trivial⟩
 case ho6 => exact ag (aq (fun w' h => ex_loadN (i := 0) h 2 rfl rfl rfl rfl) (am (zH rfl) (ak (fun J => ⟨rfl, rfl, rfl, fun w' h => zL h rfl rfl rfl⟩) trivial)))
 intro J w6 l hM hl
 have H6 : Hid (Mm w6 ([(J 2, zC a)] ++ _) ∧ _) := wB H5 hM hl [2]
 have o6_2 := vB H5 hM hl 2
 clear hM hl l H5
 generalize J 2 = J6_2 at H6 o6_2 ⊢
 clear J
 refine rN (wp_seq ?_)
 refine zB 4 [.q (N a), .q (N r), .call (.int .i64 (-1)), .q (.bool false)] H6 ?ho7 ?he7
 case ho7 => exact bN 0 (bN 1 (ac (fun w' h => eC call42 (cmp_below ha hS.ok w')) (ag trivial)))
 intro _ w7 H7
 clear H6
 refine rN (wp_cond_false rfl ?_)
 refine wp_skip (zK (zA ?_))
 refine zB 1 [.q (.int .i64 1)] H7 ?ho8 ?he8
 case ho8 => exact av trivial
 intro _ w8 H8
 clear H7
 refine zF (l := [1]) rfl ?_
 refine zG (d := 21) rfl rfl rfl rfl ?_
 simp only [Act.put, sa, sz, ss]
 refine zE (zA ?_)
 refine zR (n := 1) ?_
 refine wp_seq ?_
 refine zB 1 [.q (.bool true)] H8 ?ho9 ?he9
 case ho9 => exact ag trivial
 intro _ w9 H9
 clear H8
 refine rN (wp_seq ?_)
 refine wp_cond_true rfl (wp_skip ?_)
 refine zA (wp_seq ?_)
 refine wp_block (wp_seq ?_)
 refine zD 4 [.q (PT g 6), .q (N b), .made zero6 24, .laid 2 zero6 (zC b)] (sB H9) ?ho10 ?he10 (hL := ?hL10)
 case hL10 => exact ⟨⟨_, rfl⟩, trivial⟩
 case ho10 => exact ag (aq (fun w' h => ex_loadN (i := 1) h 3 rfl rfl rfl rfl) (am (zH rfl) (ak (fun J => ⟨rfl, rfl, rfl, fun w' h => zL h rfl rfl rfl⟩) trivial)))
 intro J w10 l hM hl
 have H10 : Hid (Mm w10 ([(J 2, zC b)] ++ _) ∧ _) := wB H9 hM hl [2]
 have o10_2 := vB H9 hM hl 2
 clear hM hl l H9
 generalize J 2 = J10_2 at H10 o10_2 ⊢
 clear J
 refine rN (wp_seq ?_)
 refine zB 4 [.q (N b), .q (N r), .call (.int .i64 (-1)), .q (.bool false)] H10 ?ho11 ?he11
 case ho11 => exact bN 0 (bN 2 (ac (fun w' h => eC call42 (cmp_below hb hS.ok w')) (ag trivial)))
 intro _ w11 H11
 clear H10
 refine rN (wp_cond_false rfl ?_)
 refine wp_skip (zK (zA ?_))
 refine zB 1 [.q (.int .i64 2)] H11 ?ho12 ?he12
 case ho12 => exact av trivial
 intro _ w12 H12
 clear H11
 refine zF (l := [1]) rfl ?_
 refine zG (d := 21) rfl rfl rfl rfl ?_
 simp only [Act.put, sa, sz, ss]
 refine zE (zA ?_)
 refine zR (n := 0) ?_
 refine wp_seq ?_
 refine zB 1 [.q (.bool false)] H12 ?ho13 ?he13
 case ho13 => exact ag trivial
 intro _ w13 H13
 clear H12
 refine rN (wp_seq (wp_cond_false rfl ?_))
 refine wp_exit ?_
 repeat refine then_exit ?_
 refine block_exit ?_
 refine zA (wp_seq ?_)
 refine zB 1 [.q (N r)] H13 ?ho14 ?he14
 case ho14 => exact bN 2 trivial
 intro _ w14 H14
 clear H13
 refine zF (l := [1, 2]) rfl ?_
 refine sG rfl (fun h => zM h 3 rfl rfl rfl rfl (Nat.le_of_ble_eq_true rfl)) 3 [_, _, _, (_, zC r), _] H14 o1_0 fun w15 H15 => ?_
 clear H14
 refine zG (d := 5) rfl rfl rfl rfl ?_
 simp only [Act.put, sa, sz, ss]
 refine zE (zA (wp_ret ?_))
 repeat (first | refine zJ ?_ | refine zI ?_)
 have c0 := H15.out.1.get 3 rfl 0 rfl
 have c1 := H15.out.1.get 3 rfl 1 rfl
 have c2 := H15.out.1.get 3 rfl 2 rfl
 have c3 := H15.out.1.get 3 rfl 3 rfl
 have c4 := H15.out.1.get 3 rfl 4 rfl
 have c5 := H15.out.1.get 3 rfl 5 rfl
 refine bodyPost_ret (v := .tuple #[N r, .int .i64 0]) (by simp [results, Tryz.results24, go_sem, *]) rfl ?_
 exact ⟨rfl, H15.out.2⟩
set_option maxHeartbeats 1000000 in
theorem above2_no1 {s : Int} {r : Nat} (hS : Su s r) (g a b : Nat) (hba : a < big) (ha : ¬ a < r) (w : World) (hm : Mm w [(g, cel [a, b])]) :
  Calls Tryz.prog 24 #[.int .i64 s, .slice (some ⟨g, 0, none⟩) 2 2] w (Rt w (.tuple #[N 0, .int .i64 2])) := by
 have H0 : Hid (_ ∧ _) := ⟨hm, Below.refl w.heap.size w⟩
 clear hm
 go_enter Tryz.func24, Tryz.ntmps24
 refine wp_seq ?_
 refine zD 2 [.made zero6 24, .q (.int .i64 0)] (sB H0) ?ho1 ?he1
 case ho1 => exact am (zH rfl) (ar trivial)
 intro J w1 l hM hl
 have H1 : Hid (Mm w1 ([(J 0, zero6)] ++ _) ∧ _) := wB H0 hM hl [0]
 have o1_0 := vB H0 hM hl 0
 clear hM hl l
 generalize J 0 = J1_0 at H1 o1_0 ⊢
 clear J
 refine rN (wp_seq ?_)
 refine zD 8 [.q (.int .i64 s), .call (.tuple #[N r, .int .i64 0]), .q (.tuple #[N r, .int .i64 0]), .q (N r), .q (.int .i64 0), .made zero6 24, .laid 5 zero6 (zC r), .q (.int .i64 0)] (sB H1) ?ho2 ?he2 (hL := ?hL2)
 case hL2 => exact ⟨⟨_, rfl⟩, trivial⟩
 case ho2 => exact ar (ac (fun w' h => eC call7 (hS.ord w')) (ar (ag (ag (am (zH rfl) (ak (fun J => ⟨rfl, rfl, rfl, fun w' h => zL h rfl rfl rfl⟩) (ar trivial)))))))
 intro J w2 l hM hl
 have H2 : Hid (Mm w2 ([(J 5, zC r)] ++ _) ∧ _) := wB H1 hM hl [5]
 have o2_5 := vB H1 hM hl 5
 clear hM hl l H1
 generalize J 5 = J2_5 at H2 o2_5 ⊢
 clear J
 refine rN (wp_seq (wp_seq ?_))
 refine zB 2 [.q (.int .i64 0), .q (.bool false)] H2 ?ho3 ?he3
 case ho3 => exact ar (ag trivial)
 intro _ w3 H3
 clear H2
 refine rN (wp_cond_false rfl ?_)
 refine wp_skip (zA ?_)
 refine wp_seq (wp_seq ?_)
 refine zB 3 [.q (.slice (some ⟨g, 0, none⟩) 2 2), .q (.int .i64 2), .q (.int .i64 0)] H3 ?ho4 ?he4
 case ho4 => exact ar (ag (ar trivial))
 intro _ w4 H4
 clear H3
 refine rN (wp_block ?_)
 refine wp_loop_rounds 3 ?_
 refine zR (n := 2) ?_
 refine wp_seq ?_
 refine zB 1 [.q (.bool true)] H4 ?ho5 ?he5
 case ho5 => exact ag trivial
 intro _ w5 H5
 clear H4
 refine rN (wp_seq ?_)
 refine wp_cond_true rfl (wp_skip ?_)
 refine zA (wp_seq ?_)
 refine wp_block (wp_seq ?_)
 refine zD 4 [.q (PT g 0), .q (N a), .made zero6 24, .laid 2 zero6 (zC a)] (sB H5) ?ho6 ?he6 (hL := ?hL6)
 case hL6 => exact ⟨⟨_, rfl⟩, trivial⟩
 case ho6 => exact ag (aq (fun w' h => ex_loadN (i := 0) h 2 rfl rfl rfl rfl) (am (zH rfl) (ak (fun J => ⟨rfl, rfl, rfl, fun w' h => zL h rfl rfl rfl⟩) trivial)))
 intro J w6 l hM hl
 have H6 : Hid (Mm w6 ([(J 2, zC a)] ++ _) ∧ _) := wB H5 hM hl [2]
 have o6_2 := vB H5 hM hl 2
 clear hM hl l H5
 generalize J 2 = J6_2 at H6 o6_2 ⊢
 clear J
 refine rN (wp_seq ?_)
 refine zB 4 [.q (N a), .q (N r), .call (.int .i64 (cmpv a r)), .q (.bool true)] H6 ?ho7 ?he7
 case ho7 => exact bN 0 (bN 1 (ac (fun w' h => eC call42 (cmp_raw hba hS.ok w')) (ak (by refine fun J => ⟨rfl, fun w' h => ?_⟩; clear h; have := cmpv_ge ha; go_simp) trivial)))
 intro _ w7 H7
 clear H6
 refine rN (wp_cond_true rfl (wp_seq ?_))
 refine zB 1 [.q (N 0)] H7 ?ho8 ?he8
 case ho8 => exact ak (by refine fun J => ⟨rfl, fun w' h => ?_⟩; clear h; exact ex_zero6 rfl) trivial
 intro _ w8 H8
 clear H7
 refine zF (l := [1, 2]) rfl ?_
 refine sG rfl (fun h => zM h 2 rfl rfl rfl rfl (Nat.le_of_ble_eq_true rfl)) 2 [_, _, (_, zC 0), _] H8 o1_0 fun w9 H9 => ?_
 clear H8
 refine zG (d := 5) rfl rfl rfl rfl ?_
 simp only [Act.put, sa, sz, ss]
 refine zE (zA (wp_ret ?_))
 repeat (first | refine zJ ?_ | refine zI ?_)
 have c0 := H9.out.1.get 2 rfl 0 rfl
 have c1 := H9.out.1.get 2 rfl 1 rfl
 have c2 := H9.out.1.get 2 rfl 2 rfl
 have c3 := H9.out.1.get 2 rfl 3 rfl
 have c4 := H9.out.1.get 2 rfl 4 rfl
 have c5 := H9.out.1.get 2 rfl 5 rfl
 refine bodyPost_ret (v := .tuple #[N 0, .int .i64 2]) (by simp [results, Tryz.results24, go_sem, *]) rfl ?_
 exact ⟨rfl, H9.out.2⟩
end Rg
end Go.Proofs.YtahgdighnlekdaaGreatDoor
end
section
namespace Go.Proofs.YtahgdighnlekdaaGreatDoor
open Go.RowKit
namespace Rg
set_option maxRecDepth 100000
theorem add_nil (a b : Nat) (w : World) :
  Calls Tryz.prog 17 #[.pointer none, N a, N b] w (Rt w (N 0)) := by
 have H0 : Hid (_ ∧ _) := ⟨Mm.nil w, Below.refl w.heap.size w⟩
 go_enter Tryz.func17, Tryz.ntmps17
 refine wp_seq ?_
 refine zD 3 [.made (zC a) 24, .made (zC b) 24, .made zero6 24] (sB H0) ?ho1 ?he1
 case ho1 => exact am (ex_box6 rfl rfl) (am (ex_box6 rfl rfl) (am (zH rfl) trivial))
 intro J w1 l hM hl
 have H1 : Hid (Mm w1 [(J 0, zC a), (J 1, zC b), (J 2, zero6)] ∧ _) := wB H0 hM hl [0, 1, 2]
 have o1_0 := vB H0 hM hl 0
 have o1_1 := vB H0 hM hl 1
 have o1_2 := vB H0 hM hl 2
 clear hM hl l
 generalize J 0 = J1_0 at H1 o1_0 ⊢
 generalize J 1 = J1_1 at H1 o1_1 ⊢
 generalize J 2 = J1_2 at H1 o1_2 ⊢
 clear J
 refine rN (wp_seq (wp_seq ?_))
 refine zB 3 [.q (.pointer none), .call (.bool false), .q (.bool true)] H1 ?ho2 ?he2
 case ho2 => exact ar (ac (fun w' h => eC call34 (made_nil w')) (ag trivial))
 intro _ w2 H2
 clear H1
 refine rN (wp_cond_true rfl (wp_seq ?_))
 refine zB 1 [.q (N 0)] H2 ?ho3 ?he3
 case ho3 => exact ak (by refine fun J => ⟨rfl, fun w' h => ?_⟩; clear h; exact ex_zero6 rfl) trivial
 intro _ w3 H3
 clear H2
 refine zF (l := [1]) rfl ?_
 refine sG rfl (fun h => zM h 2 rfl rfl rfl rfl (Nat.le_of_ble_eq_true rfl)) 2 [_, _, (_, zC 0)] H3 o1_2 fun w4 H4 => ?_
 clear H3
 refine zE (zA (wp_ret ?_))
 repeat (first | refine zJ ?_ | refine zI ?_)
 have c0 := H4.out.1.get 2 rfl 0 rfl
 have c1 := H4.out.1.get 2 rfl 1 rfl
 have c2 := H4.out.1.get 2 rfl 2 rfl
 have c3 := H4.out.1.get 2 rfl 3 rfl
 have c4 := H4.out.1.get 2 rfl 4 rfl
 have c5 := H4.out.1.get 2 rfl 5 rfl
 refine bodyPost_ret (v := N 0) (by simp [results, Tryz.results17, go_sem, *]) rfl ?_
 exact ⟨rfl, H4.out.2⟩
end Rg
end Go.Proofs.YtahgdighnlekdaaGreatDoor
end
section
namespace Go.Proofs.YtahgdighnlekdaaGreatDoor
open Go.RowKit
namespace Rg
set_option maxRecDepth 100000
set_option maxHeartbeats 1000000 in
theorem ari1_ok {s : Int} {r : Nat} (hS : Su s r) (g a : Nat) (ha : a < r) (w : World) (hm : Mm w [(g, cel [a])]) :
  Calls Tryz.prog 15 #[.int .i64 s, .slice (some ⟨g, 0, none⟩) 1 1] w fun e w' => Below w.heap.size w w' ∧ ∃ g, e = .returned (.tuple #[PT g 0, .int .i64 0]) ∧ w.heap.size ≤ g ∧ g < w'.heap.size ∧ Blk w' g (zQ r) := by
 have H0 : Hid (_ ∧ _) := ⟨hm, Below.refl w.heap.size w⟩
 clear hm
 go_enter Tryz.func15, Tryz.ntmps15
 refine wp_seq ?_
 refine zB 2 [.q (.pointer none), .q (.int .i64 0)] H0 ?ho1 ?he1
 case ho1 => exact ar (ar trivial)
 intro _ w1 H1
 refine rN (wp_seq ?_)
 refine zD 9 [.q (.int .i64 s), .q (.slice (some ⟨g, 0, none⟩) 1 1), .call (.tuple #[N r, .int .i64 0]), .q (.tuple #[N r, .int .i64 0]), .q (N r), .q (.int .i64 0), .made zero6 24, .laid 6 zero6 (zC r), .q (.int .i64 0)] (sB H1) ?ho2 ?he2 (hL := ?hL2)
 case hL2 => exact ⟨⟨_, rfl⟩, trivial⟩
 case ho2 => exact ar (ar (ac (fun w' h => eC call24 (above1_ok hS g a ha w' (h.one 0 rfl))) (ar (ag (ag (am (zH rfl) (ak (fun J => ⟨rfl, rfl, rfl, fun w' h => zL h rfl rfl rfl⟩) (ar trivial))))))))
 intro J w2 l hM hl
 have H2 : Hid (Mm w2 ([(J 6, zC r)] ++ _) ∧ _) := wB H1 hM hl [6]
 have o2_6 := vB H1 hM hl 6
 clear hM hl l H1
 generalize J 6 = J2_6 at H2 o2_6 ⊢
 clear J
 refine rN (wp_seq (wp_seq ?_))
 refine zB 2 [.q (.int .i64 0), .q (.bool false)] H2 ?ho3 ?he3
 case ho3 => exact ar (ag trivial)
 intro _ w3 H3
 clear H2
 refine rN (wp_cond_false rfl ?_)
 refine wp_skip (zA (wp_seq ?_))
 refine zD 2 [.q (N r), .born (fun g => .tuple #[PT g 0, .int .i64 0]) (zQ r)] (sB H3) ?ho4 ?he4
 case ho4 => exact bN 0 (ak (fun J => ⟨rfl, fun w' h => eC call32 (new_ok hS.ok w')⟩) trivial)
 intro J w4 l hM hl
 have H4 : Hid (Mm w4 ([(J 1, zQ r)] ++ _) ∧ _) := wB H3 hM hl [1]
 have o4_1 := vB H3 hM hl 1
 clear hM hl l H3
 generalize J 1 = J4_1 at H4 o4_1 ⊢
 clear J
 refine zF (l := [2, 3, 4, 5]) rfl ?_
 refine zG (d := 19) (v := PT J4_1 0) (w' := w4) rfl rfl rfl (by go_simp) ?_
 simp only [Act.put, sa, sz, ss]
 refine zG (d := 20) (v := .int .i64 0) (w' := w4) rfl rfl rfl (by go_simp) ?_
 simp only [Act.put, sa, sz, ss]
 refine zG (d := 4) rfl rfl rfl rfl ?_
 simp only [Act.put, sa, sz, ss]
 refine zG (d := 5) rfl rfl rfl rfl ?_
 simp only [Act.put, sa, sz, ss]
 refine zE (zA (wp_ret ?_))
 repeat (first | refine zJ ?_ | refine zI ?_)
 refine bodyPost_ret (v := .tuple #[PT J4_1 0, .int .i64 0]) (by simp [results, Tryz.results15, go_sem, *]) rfl ?_
 exact ⟨H4.out.2, J4_1, rfl, o4_1.out, (H4.out.1.blk _ (List.mem_of_getElem? (i := 0) rfl)).1, (H4.out.1.blk _ (List.mem_of_getElem? (i := 0) rfl)).2⟩
set_option maxHeartbeats 1000000 in
theorem ari2_ok {s : Int} {r : Nat} (hS : Su s r) (g a b : Nat) (ha : a < r) (hb : b < r) (w : World) (hm : Mm w [(g, cel [a, b])]) :
  Calls Tryz.prog 15 #[.int .i64 s, .slice (some ⟨g, 0, none⟩) 2 2] w fun e w' => Below w.heap.size w w' ∧ ∃ g, e = .returned (.tuple #[PT g 0, .int .i64 0]) ∧ w.heap.size ≤ g ∧ g < w'.heap.size ∧ Blk w' g (zQ r) := by
 have H0 : Hid (_ ∧ _) := ⟨hm, Below.refl w.heap.size w⟩
 clear hm
 go_enter Tryz.func15, Tryz.ntmps15
 refine wp_seq ?_
 refine zB 2 [.q (.pointer none), .q (.int .i64 0)] H0 ?ho1 ?he1
 case ho1 => exact ar (ar trivial)
 intro _ w1 H1
 refine rN (wp_seq ?_)
 refine zD 9 [.q (.int .i64 s), .q (.slice (some ⟨g, 0, none⟩) 2 2), .call (.tuple #[N r, .int .i64 0]), .q (.tuple #[N r, .int .i64 0]), .q (N r), .q (.int .i64 0), .made zero6 24, .laid 6 zero6 (zC r), .q (.int .i64 0)] (sB H1) ?ho2 ?he2 (hL := ?hL2)
 case hL2 => exact ⟨⟨_, rfl⟩, trivial⟩
 case ho2 => exact ar (ar (ac (fun w' h => eC call24 (above2_ok hS g a b ha hb w' (h.one 0 rfl))) (ar (ag (ag (am (zH rfl) (ak (fun J => ⟨rfl, rfl, rfl, fun w' h => zL h rfl rfl rfl⟩) (ar trivial))))))))
 intro J w2 l hM hl
 have H2 : Hid (Mm w2 ([(J 6, zC r)] ++ _) ∧ _) := wB H1 hM hl [6]
 have o2_6 := vB H1 hM hl 6
 clear hM hl l H1
 generalize J 6 = J2_6 at H2 o2_6 ⊢
 clear J
 refine rN (wp_seq (wp_seq ?_))
 refine zB 2 [.q (.int .i64 0), .q (.bool false)] H2 ?ho3 ?he3
 case ho3 => exact ar (ag trivial)
 intro _ w3 H3
 clear H2
 refine rN (wp_cond_false rfl ?_)
 refine wp_skip (zA (wp_seq ?_))
 refine zD 2 [.q (N r), .born (fun g => .tuple #[PT g 0, .int .i64 0]) (zQ r)] (sB H3) ?ho4 ?he4
 case ho4 => exact bN 0 (ak (fun J => ⟨rfl, fun w' h => eC call32 (new_ok hS.ok w')⟩) trivial)
 intro J w4 l hM hl
 have H4 : Hid (Mm w4 ([(J 1, zQ r)] ++ _) ∧ _) := wB H3 hM hl [1]
 have o4_1 := vB H3 hM hl 1
 clear hM hl l H3
 generalize J 1 = J4_1 at H4 o4_1 ⊢
 clear J
 refine zF (l := [2, 3, 4, 5]) rfl ?_
 refine zG (d := 19) (v := PT J4_1 0) (w' := w4) rfl rfl rfl (by go_simp) ?_
 simp only [Act.put, sa, sz, ss]
 refine zG (d := 20) (v := .int .i64 0) (w' := w4) rfl rfl rfl (by go_simp) ?_
 simp only [Act.put, sa, sz, ss]
 refine zG (d := 4) rfl rfl rfl rfl ?_
 simp only [Act.put, sa, sz, ss]
 refine zG (d := 5) rfl rfl rfl rfl ?_
 simp only [Act.put, sa, sz, ss]
 refine zE (zA (wp_ret ?_))
 repeat (first | refine zJ ?_ | refine zI ?_)
 refine bodyPost_ret (v := .tuple #[PT J4_1 0, .int .i64 0]) (by simp [results, Tryz.results15, go_sem, *]) rfl ?_
 exact ⟨H4.out.2, J4_1, rfl, o4_1.out, (H4.out.1.blk _ (List.mem_of_getElem? (i := 0) rfl)).1, (H4.out.1.blk _ (List.mem_of_getElem? (i := 0) rfl)).2⟩
set_option maxHeartbeats 1000000 in
theorem ari2_no1 {s : Int} {r : Nat} (hS : Su s r) (g a b : Nat) (hba : a < big) (ha : ¬ a < r) (w : World) (hm : Mm w [(g, cel [a, b])]) :
  Calls Tryz.prog 15 #[.int .i64 s, .slice (some ⟨g, 0, none⟩) 2 2] w (Rt w (.tuple #[.pointer none, .int .i64 2])) := by
 have H0 : Hid (_ ∧ _) := ⟨hm, Below.refl w.heap.size w⟩
 clear hm
 go_enter Tryz.func15, Tryz.ntmps15
 refine wp_seq ?_
 refine zB 2 [.q (.pointer none), .q (.int .i64 0)] H0 ?ho1 ?he1
 case ho1 => exact ar (ar trivial)
 intro _ w1 H1
 refine rN (wp_seq ?_)
 refine zD 9 [.q (.int .i64 s), .q (.slice (some ⟨g, 0, none⟩) 2 2), .call (.tuple #[N 0, .int .i64 2]), .q (.tuple #[N 0, .int .i64 2]), .q (N 0), .q (.int .i64 2), .made zero6 24, .laid 6 zero6 (zC 0), .q (.int .i64 2)] (sB H1) ?ho2 ?he2 (hL := ?hL2)
 case hL2 => exact ⟨⟨_, rfl⟩, trivial⟩
 case ho2 => exact ar (ar (ac (fun w' h => eC call24 (above2_no1 hS g a b hba ha w' (h.one 0 rfl))) (ar (ag (ag (am (zH rfl) (ak (fun J => ⟨rfl, rfl, len_zero, fun w' h => zL (v := 0) h rfl rfl rfl⟩) (ar trivial))))))))
 intro J w2 l hM hl
 have H2 : Hid (Mm w2 ([(J 6, zC 0)] ++ _) ∧ _) := wB H1 hM hl [6]
 have o2_6 := vB H1 hM hl 6
 clear hM hl l H1
 generalize J 6 = J2_6 at H2 o2_6 ⊢
 clear J
 refine rN (wp_seq (wp_seq ?_))
 refine zB 2 [.q (.int .i64 2), .q (.bool true)] H2 ?ho3 ?he3
 case ho3 => exact ar (ag trivial)
 intro _ w3 H3
 clear H2
 refine rN (wp_cond_true rfl (wp_seq ?_))
 refine zB 3 [.q (.int .i64 2), .q (.pointer none), .q (.int .i64 2)] H3 ?ho4 ?he4
 case ho4 => exact ar (ar (ar trivial))
 intro _ w4 H4
 clear H3
 refine rN (wp_ret ?_)
 repeat (first | refine zJ ?_ | refine zI ?_)
 refine bodyPost_ret (v := .tuple #[.pointer none, .int .i64 2]) (by simp [results, Tryz.results15, go_sem, *]) rfl ?_
 exact ⟨rfl, H4.out.2⟩
set_option maxHeartbeats 1000000 in
theorem sAdd_ok {s : Int} {r : Nat} (hS : Su s r) (a b : Nat) (ha : a < r) (hb : b < r) (w : World) :
  Calls Tryz.prog 5 #[.int .i64 s, N a, N b] w (Rt w (.tuple #[N ((a + b) % r), .int .i64 0])) := by
 have H0 : Hid (_ ∧ _) := ⟨Mm.nil w, Below.refl w.heap.size w⟩
 go_enter Tryz.func5, Tryz.ntmps5
 refine wp_seq ?_
 refine zD 4 [.made (zC a) 24, .made (zC b) 24, .made zero6 24, .q (.int .i64 0)] (sB H0) ?ho1 ?he1
 case ho1 => exact am (ex_box6 rfl rfl) (am (ex_box6 rfl rfl) (am (zH rfl) (ar trivial)))
 intro J w1 l hM hl
 have H1 : Hid (Mm w1 [(J 0, zC a), (J 1, zC b), (J 2, zero6)] ∧ _) := wB H0 hM hl [0, 1, 2]
 have o1_0 := vB H0 hM hl 0
 have o1_1 := vB H0 hM hl 1
 have o1_2 := vB H0 hM hl 2
 clear hM hl l
 generalize J 0 = J1_0 at H1 o1_0 ⊢
 generalize J 1 = J1_1 at H1 o1_1 ⊢
 generalize J 2 = J1_2 at H1 o1_2 ⊢
 clear J
 refine rN (wp_seq ?_)
 refine zB 3 [.q (.int .i64 s), .q (N a), .q (N b)] H1 ?ho2 ?he2
 case ho2 => exact ar (bN 0 (bN 1 trivial))
 intro _ w2 H2
 clear H1
 refine zF (l := [3, 4, 5, 6, 7, 8, 9]) rfl ?_
 refine zG (d := 14) (v := .slice (some ⟨w2.heap.size, 0, none⟩) 2 2) (w' := w2.alloc (.cells (cel [a, b] : List Value).toArray 24)) rfl rfl rfl (ex_bsN2 rfl rfl rfl) ?_
 simp only [Act.put, sa, sz, ss]
 have o_Js3 : Hid (w.heap.size ≤ w2.heap.size) := H2.out.2.size
 have H3 : Hid (Mm (w2.alloc (.cells (cel [a, b] : List Value).toArray 24)) ((w2.heap.size, cel [a, b]) :: [(J1_0, zC a), (J1_1, zC b), (J1_2, zero6)]) ∧ Below w.heap.size w (w2.alloc (.cells (cel [a, b] : List Value).toArray 24))) := ⟨H2.out.1.alloc _ 24 rfl, H2.out.2.alloc H2.out.2.size _⟩
 clear H2
 generalize hgw : w2.alloc (.cells (cel [a, b] : List Value).toArray 24) = w3 at H3 ⊢
 clear hgw
 generalize w2.heap.size = Js3 at o_Js3 H3 ⊢
 refine rest_enter (d := 15) (R := fun vv w' => Below w3.heap.size w3 w' ∧ ∃ g, vv = .tuple #[PT g 0, .int .i64 0] ∧ w3.heap.size ≤ g ∧ g < w'.heap.size ∧ Blk w' g (zQ r)) rfl rfl rfl (exec_call (args := #[.int .i64 s, .slice (some ⟨Js3, 0, none⟩) 2 2]) rfl call15 rfl (mpn rfl)) (Calls.mono (ari2_ok hS _ a b ha hb w3 (H3.out.1.one 0 rfl)) (fun e w2 hh => by obtain ⟨hb, g, he, h1, h2, h3⟩ := hh; exact ⟨_, he, hb, g, rfl, h1, h2, h3⟩)) ?_
 rintro _ w4 ⟨hb, Js4, rfl, hg1, hg2, hg3⟩
 have o_Js4 : Hid (w.heap.size ≤ Js4) := Nat.le_trans H3.out.2.size hg1
 have H4 : Hid (Mm w4 [(Js4, zQ r), (Js3, cel [a, b]), (J1_0, zC a), (J1_1, zC b), (J1_2, zero6)] ∧ Below w.heap.size w w4) := ⟨Mm.cons (H3.out.1.below hb) hg3 hg2 (fun p hp => Nat.ne_of_lt (Nat.lt_of_lt_of_le (H3.out.1.blk p hp).1 hg1)), H3.out.2.trans (hb.mono H3.out.2.size)⟩
 clear hb hg1 hg2 hg3 H3
 simp only [Act.put, sa, sz, ss]
 refine zG (d := 10) rfl rfl rfl rfl ?_
 simp only [Act.put, sa, sz, ss]
 refine zG (d := 16) (v := PT Js4 0) (w' := w4) rfl rfl rfl (by go_simp) ?_
 simp only [Act.put, sa, sz, ss]
 refine zG (d := 17) (v := .int .i64 0) (w' := w4) rfl rfl rfl (by go_simp) ?_
 simp only [Act.put, sa, sz, ss]
 refine zG (d := 8) rfl rfl rfl rfl ?_
 simp only [Act.put, sa, sz, ss]
 refine zG (d := 9) rfl rfl rfl rfl ?_
 simp only [Act.put, sa, sz, ss]
 refine zE (zA (wp_seq ?_))
 refine zB 5 [.q (PT Js4 0), .q (N a), .q (N b), .call (N ((a + b) % r)), .q (.int .i64 0)] H4 ?ho3 ?he3
 case ho3 => exact ar (bN 2 (bN 3 (ac (fun w' h => eC call17 (addm_any hS.ok (Nat.lt_trans ha hS.ok.big) (Nat.lt_trans hb hS.ok.big) w' (h.one 0 rfl))) (ar trivial))))
 intro _ w5 H5
 clear H4
 refine zF (l := [5, 6]) rfl ?_
 refine sG rfl (fun h => zM h 4 rfl rfl rfl rfl (Nat.le_of_ble_eq_true rfl)) 4 [_, _, _, _, (_, zC ((a + b) % r))] H5 o1_2 fun w6 H6 => ?_
 clear H5
 refine zG (d := 7) rfl rfl rfl rfl ?_
 simp only [Act.put, sa, sz, ss]
 refine zE (zA (wp_ret ?_))
 repeat (first | refine zJ ?_ | refine zI ?_)
 have c0 := H6.out.1.get 4 rfl 0 rfl
 have c1 := H6.out.1.get 4 rfl 1 rfl
 have c2 := H6.out.1.get 4 rfl 2 rfl
 have c3 := H6.out.1.get 4 rfl 3 rfl
 have c4 := H6.out.1.get 4 rfl 4 rfl
 have c5 := H6.out.1.get 4 rfl 5 rfl
 refine bodyPost_ret (v := .tuple #[N ((a + b) % r), .int .i64 0]) (by simp [results, Tryz.results5, go_sem, *]) rfl ?_
 exact ⟨rfl, H6.out.2⟩
set_option maxHeartbeats 1000000 in
theorem sAdd_no1 {s : Int} {r : Nat} (hS : Su s r) (a b : Nat) (hba : a < big) (ha : ¬ a < r) (w : World) :
  Calls Tryz.prog 5 #[.int .i64 s, N a, N b] w (Rt w (.tuple #[N 0, .int .i64 2])) := by
 have H0 : Hid (_ ∧ _) := ⟨Mm.nil w, Below.refl w.heap.size w⟩
 go_enter Tryz.func5, Tryz.ntmps5
 refine wp_seq ?_
 refine zD 4 [.made (zC a) 24, .made (zC b) 24, .made zero6 24, .q (.int .i64 0)] (sB H0) ?ho1 ?he1
 case ho1 => exact am (ex_box6 rfl rfl) (am (ex_box6 rfl rfl) (am (zH rfl) (ar trivial)))
 intro J w1 l hM hl
 have H1 : Hid (Mm w1 [(J 0, zC a), (J 1, zC b), (J 2, zero6)] ∧ _) := wB H0 hM hl [0, 1, 2]
 have o1_0 := vB H0 hM hl 0
 have o1_1 := vB H0 hM hl 1
 have o1_2 := vB H0 hM hl 2
 clear hM hl l
 generalize J 0 = J1_0 at H1 o1_0 ⊢
 generalize J 1 = J1_1 at H1 o1_1 ⊢
 generalize J 2 = J1_2 at H1 o1_2 ⊢
 clear J
 refine rN (wp_seq ?_)
 refine zB 3 [.q (.int .i64 s), .q (N a), .q (N b)] H1 ?ho2 ?he2
 case ho2 => exact ar (bN 0 (bN 1 trivial))
 intro _ w2 H2
 clear H1
 refine zF (l := [3, 4, 5, 6, 7, 8, 9]) rfl ?_
 refine zG (d := 14) (v := .slice (some ⟨w2.heap.size, 0, none⟩) 2 2) (w' := w2.alloc (.cells (cel [a, b] : List Value).toArray 24)) rfl rfl rfl (ex_bsN2 rfl rfl rfl) ?_
 simp only [Act.put, sa, sz, ss]
 have o_Js3 : Hid (w.heap.size ≤ w2.heap.size) := H2.out.2.size
 have H3 : Hid (Mm (w2.alloc (.cells (cel [a, b] : List Value).toArray 24)) ((w2.heap.size, cel [a, b]) :: [(J1_0, zC a), (J1_1, zC b), (J1_2, zero6)]) ∧ Below w.heap.size w (w2.alloc (.cells (cel [a, b] : List Value).toArray 24))) := ⟨H2.out.1.alloc _ 24 rfl, H2.out.2.alloc H2.out.2.size _⟩
 clear H2
 generalize hgw : w2.alloc (.cells (cel [a, b] : List Value).toArray 24) = w3 at H3 ⊢
 clear hgw
 generalize w2.heap.size = Js3 at o_Js3 H3 ⊢
 refine rest_enter (d := 15) (R := fun vv w' => vv = .tuple #[.pointer none, .int .i64 2] ∧ Below w3.heap.size w3 w') rfl rfl rfl (exec_call (args := #[.int .i64 s, .slice (some ⟨Js3, 0, none⟩) 2 2]) rfl call15 rfl (mpn rfl)) (Calls.mono (ari2_no1 hS _ a b hba ha w3 (H3.out.1.one 0 rfl)) (fun e w2 hh => ⟨_, hh.1, rfl, hh.2⟩)) ?_
 rintro _ w4 ⟨rfl, hb⟩
 have H4 : Hid (_ ∧ _) := ⟨H3.out.1.below hb, H3.out.2.trans (hb.mono H3.out.2.size)⟩
 clear hb H3
 simp only [Act.put, sa, sz, ss]
 refine zG (d := 10) rfl rfl rfl rfl ?_
 simp only [Act.put, sa, sz, ss]
 refine zG (d := 16) (v := .pointer none) (w' := w4) rfl rfl rfl (by go_simp) ?_
 simp only [Act.put, sa, sz, ss]
 refine zG (d := 17) (v := .int .i64 2) (w' := w4) rfl rfl rfl (by go_simp) ?_
 simp only [Act.put, sa, sz, ss]
 refine zG (d := 8) rfl rfl rfl rfl ?_
 simp only [Act.put, sa, sz, ss]
 refine zG (d := 9) rfl rfl rfl rfl ?_
 simp only [Act.put, sa, sz, ss]
 refine zE (zA (wp_seq ?_))
 refine zB 5 [.q (.pointer none), .q (N a), .q (N b), .call (N 0), .q (.int .i64 2)] H4 ?ho3 ?he3
 case ho3 => exact ar (bN 1 (bN 2 (ac (fun w' h => eC call17 (add_nil a b w')) (ar trivial))))
 intro _ w5 H5
 clear H4
 refine zF (l := [5, 6]) rfl ?_
 refine sG rfl (fun h => zM h 3 rfl rfl rfl rfl (Nat.le_of_ble_eq_true rfl)) 3 [_, _, _, (_, zC 0)] H5 o1_2 fun w6 H6 => ?_
 clear H5
 refine zG (d := 7) rfl rfl rfl rfl ?_
 simp only [Act.put, sa, sz, ss]
 refine zE (zA (wp_ret ?_))
 repeat (first | refine zJ ?_ | refine zI ?_)
 have c0 := H6.out.1.get 3 rfl 0 rfl
 have c1 := H6.out.1.get 3 rfl 1 rfl
 have c2 := H6.out.1.get 3 rfl 2 rfl
 have c3 := H6.out.1.get 3 rfl 3 rfl
 have c4 := H6.out.1.get 3 rfl 4 rfl
 have c5 := H6.out.1.get 3 rfl 5 rfl
 refine bodyPost_ret (v := .tuple #[N 0, .int .i64 2]) (by simp [results, Tryz.results5, go_sem, *]) rfl ?_
 exact ⟨rfl, H6.out.2⟩
set_option maxHeartbeats 1000000 in
theorem sNeg_ok {s : Int} {r : Nat} (hS : Su s r) (a : Nat) (ha : a < r) (w : World) :
  Calls Tryz.prog 4 #[.int .i64 s, N a] w (Rt w (.tuple #[N (subm r 0 a), .int .i64 0])) := by
 have H0 : Hid (_ ∧ _) := ⟨Mm.nil w, Below.refl w.heap.size w⟩
 go_enter Tryz.func4, Tryz.ntmps4
 refine wp_seq ?_
 refine zD 3 [.made (zC a) 24, .made zero6 24, .q (.int .i64 0)] (sB H0) ?ho1 ?he1
 case ho1 => exact am (ex_box6 rfl rfl) (am (zH rfl) (ar trivial))
 intro J w1 l hM hl
 have H1 : Hid (Mm w1 [(J 0, zC a), (J 1, zero6)] ∧ _) := wB H0 hM hl [0, 1]
 have o1_0 := vB H0 hM hl 0
 have o1_1 := vB H0 hM hl 1
 clear hM hl l
 generalize J 0 = J1_0 at H1 o1_0 ⊢
 generalize J 1 = J1_1 at H1 o1_1 ⊢
 clear J
 refine rN (wp_seq ?_)
 refine zB 2 [.q (.int .i64 s), .q (N a)] H1 ?ho2 ?he2
 case ho2 => exact ar (bN 0 trivial)
 intro _ w2 H2
 clear H1
 refine zF (l := [2, 3, 4, 5, 6, 7, 8]) rfl ?_
 refine zG (d := 11) (v := .slice (some ⟨w2.heap.size, 0, none⟩) 1 1) (w' := w2.alloc (.cells (cel [a] : List Value).toArray 24)) rfl rfl rfl (ex_bsN1 rfl rfl) ?_
 simp only [Act.put, sa, sz, ss]
 have o_Js3 : Hid (w.heap.size ≤ w2.heap.size) := H2.out.2.size
 have H3 : Hid (Mm (w2.alloc (.cells (cel [a] : List Value).toArray 24)) ((w2.heap.size, cel [a]) :: [(J1_0, zC a), (J1_1, zero6)]) ∧ Below w.heap.size w (w2.alloc (.cells (cel [a] : List Value).toArray 24))) := ⟨H2.out.1.alloc _ 24 rfl, H2.out.2.alloc H2.out.2.size _⟩
 clear H2
 generalize hgw : w2.alloc (.cells (cel [a] : List Value).toArray 24) = w3 at H3 ⊢
 clear hgw
 generalize w2.heap.size = Js3 at o_Js3 H3 ⊢
 refine rest_enter (d := 12) (R := fun vv w' => Below w3.heap.size w3 w' ∧ ∃ g, vv = .tuple #[PT g 0, .int .i64 0] ∧ w3.heap.size ≤ g ∧ g < w'.heap.size ∧ Blk w' g (zQ r)) rfl rfl rfl (exec_call (args := #[.int .i64 s, .slice (some ⟨Js3, 0, none⟩) 1 1]) rfl call15 rfl (mpn rfl)) (Calls.mono (ari1_ok hS _ a ha w3 (H3.out.1.one 0 rfl)) (fun e w2 hh => by obtain ⟨hb, g, he, h1, h2, h3⟩ := hh; exact ⟨_, he, hb, g, rfl, h1, h2, h3⟩)) ?_
 rintro _ w4 ⟨hb, Js4, rfl, hg1, hg2, hg3⟩
 have o_Js4 : Hid (w.heap.size ≤ Js4) := Nat.le_trans H3.out.2.size hg1
 have H4 : Hid (Mm w4 [(Js4, zQ r), (Js3, cel [a]), (J1_0, zC a), (J1_1, zero6)] ∧ Below w.heap.size w w4) := ⟨Mm.cons (H3.out.1.below hb) hg3 hg2 (fun p hp => Nat.ne_of_lt (Nat.lt_of_lt_of_le (H3.out.1.blk p hp).1 hg1)), H3.out.2.trans (hb.mono H3.out.2.size)⟩
 clear hb hg1 hg2 hg3 H3
 simp only [Act.put, sa, sz, ss]
 refine zG (d := 8) rfl rfl rfl rfl ?_
 simp only [Act.put, sa, sz, ss]
 refine zG (d := 13) (v := PT Js4 0) (w' := w4) rfl rfl rfl (by go_simp) ?_
 simp only [Act.put, sa, sz, ss]
 refine zG (d := 14) (v := .int .i64 0) (w' := w4) rfl rfl rfl (by go_simp) ?_
 simp only [Act.put, sa, sz, ss]
 refine zG (d := 6) rfl rfl rfl rfl ?_
 simp only [Act.put, sa, sz, ss]
 refine zG (d := 7) rfl rfl rfl rfl ?_
 simp only [Act.put, sa, sz, ss]
 refine zE (zA (wp_seq ?_))
 refine zB 4 [.q (PT Js4 0), .q (N a), .call (N (subm r 0 a)), .q (.int .i64 0)] H4 ?ho3 ?he3
 case ho3 => exact ar (bN 2 (ac (fun w' h => eC call16 (negm_any hS.ok (Nat.lt_trans ha hS.ok.big) w' (h.one 0 rfl))) (ar trivial)))
 intro _ w5 H5
 clear H4
 refine zF (l := [4, 5]) rfl ?_
 refine sG rfl (fun h => zM h 3 rfl rfl rfl rfl (Nat.le_of_ble_eq_true rfl)) 3 [_, _, _, (_, zC (subm r 0 a))] H5 o1_1 fun w6 H6 => ?_
 clear H5
 refine zG (d := 5) rfl rfl rfl rfl ?_
 simp only [Act.put, sa, sz, ss]
 refine zE (zA (wp_ret ?_))
 repeat (first | refine zJ ?_ | refine zI ?_)
 have c0 := H6.out.1.get 3 rfl 0 rfl
 have c1 := H6.out.1.get 3 rfl 1 rfl
 have c2 := H6.out.1.get 3 rfl 2 rfl
 have c3 := H6.out.1.get 3 rfl 3 rfl
 have c4 := H6.out.1.get 3 rfl 4 rfl
 have c5 := H6.out.1.get 3 rfl 5 rfl
 refine bodyPost_ret (v := .tuple #[N (subm r 0 a), .int .i64 0]) (by simp [results, Tryz.results4, go_sem, *]) rfl ?_
 exact ⟨rfl, H6.out.2⟩
set_option maxHeartbeats 1000000 in
theorem sInv_ok {s : Int} {r : Nat} (hS : Su s r) (a : Nat) (ha : a < r) (hg : Nat.gcd r a = 1) (w : World) (hm : Mm w [(0, dtab)]) :
  Calls Tryz.prog 8 #[.int .i64 s, N a] w (Rt w (.tuple #[N (invm r a), .int .i64 0])) := by
 have H0 : Hid (_ ∧ _) := ⟨hm, Below.refl w.heap.size w⟩
 clear hm
 go_enter Tryz.func8, Tryz.ntmps8
 refine wp_seq ?_
 refine zD 3 [.made (zC a) 24, .made zero6 24, .q (.int .i64 0)] (sB H0) ?ho1 ?he1
 case ho1 => exact am (ex_box6 rfl rfl) (am (zH rfl) (ar trivial))
 intro J w1 l hM hl
 have H1 : Hid (Mm w1 ([(J 0, zC a), (J 1, zero6)] ++ _) ∧ _) := wB H0 hM hl [0, 1]
 have o1_0 := vB H0 hM hl 0
 have o1_1 := vB H0 hM hl 1
 clear hM hl l
 generalize J 0 = J1_0 at H1 o1_0 ⊢
 generalize J 1 = J1_1 at H1 o1_1 ⊢
 clear J
 refine rN (wp_seq ?_)
 refine zB 2 [.q (.int .i64 s), .q (N a)] H1 ?ho2 ?he2
 case ho2 => exact ar (bN 0 trivial)
 intro _ w2 H2
 clear H1
 refine zF (l := [2, 3, 4, 5, 6, 7, 8]) rfl ?_
 refine zG (d := 11) (v := .slice (some ⟨w2.heap.size, 0, none⟩) 1 1) (w' := w2.alloc (.cells (cel [a] : List Value).toArray 24)) rfl rfl rfl (ex_bsN1 rfl rfl) ?_
 simp only [Act.put, sa, sz, ss]
 have o_Js3 : Hid (w.heap.size ≤ w2.heap.size) := H2.out.2.size
 have H3 : Hid (Mm (w2.alloc (.cells (cel [a] : List Value).toArray 24)) ((w2.heap.size, cel [a]) :: [(J1_0, zC a), (J1_1, zero6), (0, dtab)]) ∧ Below w.heap.size w (w2.alloc (.cells (cel [a] : List Value).toArray 24))) := ⟨H2.out.1.alloc _ 24 rfl, H2.out.2.alloc H2.out.2.size _⟩
 clear H2
 generalize hgw : w2.alloc (.cells (cel [a] : List Value).toArray 24) = w3 at H3 ⊢
 clear hgw
 generalize w2.heap.size = Js3 at o_Js3 H3 ⊢
 refine rest_enter (d := 12) (R := fun vv w' => Below w3.heap.size w3 w' ∧ ∃ g, vv = .tuple #[PT g 0, .int .i64 0] ∧ w3.heap.size ≤ g ∧ g < w'.heap.size ∧ Blk w' g (zQ r)) rfl rfl rfl (exec_call (args := #[.int .i64 s, .slice (some ⟨Js3, 0, none⟩) 1 1]) rfl call15 rfl (mpn rfl)) (Calls.mono (ari1_ok hS _ a ha w3 (H3.out.1.one 0 rfl)) (fun e w2 hh => by obtain ⟨hb, g, he, h1, h2, h3⟩ := hh; exact ⟨_, he, hb, g, rfl, h1, h2, h3⟩)) ?_
 rintro _ w4 ⟨hb, Js4, rfl, hg1, hg2, hg3⟩
 have o_Js4 : Hid (w.heap.size ≤ Js4) := Nat.le_trans H3.out.2.size hg1
 have H4 : Hid (Mm w4 [(Js4, zQ r), (Js3, cel [a]), (J1_0, zC a), (J1_1, zero6), (0, dtab)] ∧ Below w.heap.size w w4) := ⟨Mm.cons (H3.out.1.below hb) hg3 hg2 (fun p hp => Nat.ne_of_lt (Nat.lt_of_lt_of_le (H3.out.1.blk p hp).1 hg1)), H3.out.2.trans (hb.mono H3.out.2.size)⟩
 clear hb hg1 hg2 hg3 H3
 simp only [Act.put, sa, sz, ss]
 refine zG (d := 8) rfl rfl rfl rfl ?_
 simp only [Act.put, sa, sz, ss]
 refine zG (d := 13) (v := PT Js4 0) (w' := w4) rfl rfl rfl (by go_simp) ?_
 simp only [Act.put, sa, sz, ss]
 refine zG (d := 14) (v := .int .i64 0) (w' := w4) rfl rfl rfl (by go_simp) ?_
 simp only [Act.put, sa, sz, ss]
 refine zG (d := 6) rfl rfl rfl rfl ?_
 simp only [Act.put, sa, sz, ss]
 refine zG (d := 7) rfl rfl rfl rfl ?_
 simp only [Act.put, sa, sz, ss]
 refine zE (zA ?_)
 refine wp_seq (wp_seq ?_)
 refine zB 2 [.q (.int .i64 0), .q (.bool false)] H4 ?ho3 ?he3
 case ho3 => exact ar (ag trivial)
 intro _ w5 H5
 clear H4
 refine rN (wp_cond_false rfl ?_)
 refine wp_skip (zA (wp_seq ?_))
 refine zB 5 [.q (PT Js4 0), .q (N a), .call (.tuple #[N (invm r a), .int .i64 0]), .q (N (invm r a)), .q (.int .i64 0)] H5 ?ho4 ?he4
 case ho4 => exact ar (bN 2 (ac (fun w' h => eC call20 (inv_ok hS.ok (Nat.lt_trans ha hS.ok.big) hg w' (h.two 0 4 rfl rfl (by decide)))) (ag (ag trivial))))
 intro _ w6 H6
 clear H5
 refine zF (l := [5, 6]) rfl ?_
 refine sG rfl (fun h => zM h 3 rfl rfl rfl rfl (Nat.le_of_ble_eq_true rfl)) 3 [_, _, _, (_, zC (invm r a)), _] H6 o1_1 fun w7 H7 => ?_
 clear H6
 refine zG (d := 5) rfl rfl rfl rfl ?_
 simp only [Act.put, sa, sz, ss]
 refine zE (zA (wp_ret ?_))
 repeat (first | refine zJ ?_ | refine zI ?_)
 have c0 := H7.out.1.get 3 rfl 0 rfl
 have c1 := H7.out.1.get 3 rfl 1 rfl
 have c2 := H7.out.1.get 3 rfl 2 rfl
 have c3 := H7.out.1.get 3 rfl 3 rfl
 have c4 := H7.out.1.get 3 rfl 4 rfl
 have c5 := H7.out.1.get 3 rfl 5 rfl
 refine bodyPost_ret (v := .tuple #[N (invm r a), .int .i64 0]) (by simp [results, Tryz.results8, go_sem, *]) rfl ?_
 exact ⟨rfl, H7.out.2⟩
set_option maxHeartbeats 1000000 in
theorem sInv_miss {s : Int} {r : Nat} (hS : Su s r) (a : Nat) (ha : a < r) (hg : Nat.gcd r a ≠ 1) (w : World) (hm : Mm w [(0, dtab)]) :
  Calls Tryz.prog 8 #[.int .i64 s, N a] w (Rt w (.tuple #[N 0, .int .i64 6])) := by
 have H0 : Hid (_ ∧ _) := ⟨hm, Below.refl w.heap.size w⟩
 clear hm
 go_enter Tryz.func8, Tryz.ntmps8
 refine wp_seq ?_
 refine zD 3 [.made (zC a) 24, .made zero6 24, .q (.int .i64 0)] (sB H0) ?ho1 ?he1
 case ho1 => exact am (ex_box6 rfl rfl) (am (zH rfl) (ar trivial))
 intro J w1 l hM hl
 have H1 : Hid (Mm w1 ([(J 0, zC a), (J 1, zero6)] ++ _) ∧ _) := wB H0 hM hl [0, 1]
 have o1_0 := vB H0 hM hl 0
 have o1_1 := vB H0 hM hl 1
 clear hM hl l
 generalize J 0 = J1_0 at H1 o1_0 ⊢
 generalize J 1 = J1_1 at H1 o1_1 ⊢
 clear J
 refine rN (wp_seq ?_)
 refine zB 2 [.q (.int .i64 s), .q (N a)] H1 ?ho2 ?he2
 case ho2 => exact ar (bN 0 trivial)
 intro _ w2 H2
 clear H1
 refine zF (l := [2, 3, 4, 5, 6, 7, 8]) rfl ?_
 refine zG (d := 11) (v := .slice (some ⟨w2.heap.size, 0, none⟩) 1 1) (w' := w2.alloc (.cells (cel [a] : List Value).toArray 24)) rfl rfl rfl (ex_bsN1 rfl rfl) ?_
 simp only [Act.put, sa, sz, ss]
 have o_Js3 : Hid (w.heap.size ≤ w2.heap.size) := H2.out.2.size
 have H3 : Hid (Mm (w2.alloc (.cells (cel [a] : List Value).toArray 24)) ((w2.heap.size, cel [a]) :: [(J1_0, zC a), (J1_1, zero6), (0, dtab)]) ∧ Below w.heap.size w (w2.alloc (.cells (cel [a] : List Value).toArray 24))) := ⟨H2.out.1.alloc _ 24 rfl, H2.out.2.alloc H2.out.2.size _⟩
 clear H2
 generalize hgw : w2.alloc (.cells (cel [a] : List Value).toArray 24) = w3 at H3 ⊢
 clear hgw
 generalize w2.heap.size = Js3 at o_Js3 H3 ⊢
 refine rest_enter (d := 12) (R := fun vv w' => Below w3.heap.size w3 w' ∧ ∃ g, vv = .tuple #[PT g 0, .int .i64 0] ∧ w3.heap.size ≤ g ∧ g < w'.heap.size ∧ Blk w' g (zQ r)) rfl rfl rfl (exec_call (args := #[.int .i64 s, .slice (some ⟨Js3, 0, none⟩) 1 1]) rfl call15 rfl (mpn rfl)) (Calls.mono (ari1_ok hS _ a ha w3 (H3.out.1.one 0 rfl)) (fun e w2 hh => by obtain ⟨hb, g, he, h1, h2, h3⟩ := hh; exact ⟨_, he, hb, g, rfl, h1, h2, h3⟩)) ?_
 rintro _ w4 ⟨hb, Js4, rfl, hg1, hg2, hg3⟩
 have o_Js4 : Hid (w.heap.size ≤ Js4) := Nat.le_trans H3.out.2.size hg1
 have H4 : Hid (Mm w4 [(Js4, zQ r), (Js3, cel [a]), (J1_0, zC a), (J1_1, zero6), (0, dtab)] ∧ Below w.heap.size w w4) := ⟨Mm.cons (H3.out.1.below hb) hg3 hg2 (fun p hp => Nat.ne_of_lt (Nat.lt_of_lt_of_le (H3.out.1.blk p hp).1 hg1)), H3.out.2.trans (hb.mono H3.out.2.size)⟩
 clear hb hg1 hg2 hg3 H3
 simp only [Act.put, sa, sz, ss]
 refine zG (d := 8) rfl rfl rfl rfl ?_
 simp only [Act.put, sa, sz, ss]
 refine zG (d := 13) (v := PT Js4 0) (w' := w4) rfl rfl rfl (by go_simp) ?_
 simp only [Act.put, sa, sz, ss]
 refine zG (d := 14) (v := .int .i64 0) (w' := w4) rfl rfl rfl (by go_simp) ?_
 simp only [Act.put, sa, sz, ss]
 refine zG (d := 6) rfl rfl rfl rfl ?_
 simp only [Act.put, sa, sz, ss]
 refine zG (d := 7) rfl rfl rfl rfl ?_
 simp only [Act.put, sa, sz, ss]
 refine zE (zA ?_)
 refine wp_seq (wp_seq ?_)
 refine zB 2 [.q (.int .i64 0), .q (.bool false)] H4 ?ho3 ?he3
 case ho3 => exact ar (ag trivial)
 intro _ w5 H5
 clear H4
 refine rN (wp_cond_false rfl ?_)
 refine wp_skip (zA (wp_seq ?_))
 refine zB 5 [.q (PT Js4 0), .q (N a), .call (.tuple #[N 0, .int .i64 6]), .q (N 0), .q (.int .i64 6)] H5 ?ho4 ?he4
 case ho4 => exact ar (bN 2 (ac (fun w' h => eC call20 (inv_bad hS.ok (Nat.lt_trans ha hS.ok.big) hg w' (h.two 0 4 rfl rfl (by decide)))) (ag (ag trivial))))
 intro _ w6 H6
 clear H5
 refine zF (l := [5, 6]) rfl ?_
 refine sG rfl (fun h => zM h 3 rfl rfl rfl rfl (Nat.le_of_ble_eq_true rfl)) 3 [_, _, _, (_, zC 0), _] H6 o1_1 fun w7 H7 => ?_
 clear H6
 refine zG (d := 5) rfl rfl rfl rfl ?_
 simp only [Act.put, sa, sz, ss]
 refine zE (zA (wp_ret ?_))
 repeat (first | refine zJ ?_ | refine zI ?_)
 have c0 := H7.out.1.get 3 rfl 0 rfl
 have c1 := H7.out.1.get 3 rfl 1 rfl
 have c2 := H7.out.1.get 3 rfl 2 rfl
 have c3 := H7.out.1.get 3 rfl 3 rfl
 have c4 := H7.out.1.get 3 rfl 4 rfl
 have c5 := H7.out.1.get 3 rfl 5 rfl
 refine bodyPost_ret (v := .tuple #[N 0, .int .i64 6]) (by simp [results, Tryz.results8, go_sem, *]) rfl ?_
 exact ⟨rfl, H7.out.2⟩
end Rg
end Go.Proofs.YtahgdighnlekdaaGreatDoor
end
section
namespace Go.Proofs.YtahgdighnlekdaaGreatDoor
open Go.RowKit
namespace Rg
set_option maxRecDepth 100000
theorem cel00 : cel [0, 0] = [.int .u64 0, .int .u64 0, .int .u64 0, .int .u64 0, .int .u64 0, .int .u64 0, .int .u64 0, .int .u64 0, .int .u64 0, .int .u64 0, .int .u64 0, .int .u64 0] := cel_zero 2
theorem ex_made37 {ρ : Operand → Value} {o : Oper} {w : World} (ho : o.op = .alloc 37) :
  (execOp ρ o).run Tryz.prog w = .ok (.value (.pointer (some ⟨w.heap.size, 0, none⟩))) (w.alloc (.cells ([Value.int .i64 0] ++ (cel [0, 0] ++ [Value.bool false, Value.int .u64 0, Value.int .u64 0, Value.bool false])).toArray 37)) := by
 rw [cel00]
 simp only [execOp, ho]
 go_simp
theorem ex_made35 {ρ : Operand → Value} {o : Oper} {w : World} (ho : o.op = .alloc 35) :
  (execOp ρ o).run Tryz.prog w = .ok (.value (.pointer (some ⟨w.heap.size, 0, none⟩))) (w.alloc (.cells ([Value.int .u64 0, Value.int .u64 0, Value.bool false]).toArray 35)) := by
 skip
 simp only [execOp, ho]
 go_simp
theorem ex_build37_0 {ρ : Operand → Value} {o : Oper} {x0 : Operand} {s : Int} {w : World} (ho : o.op = .build 37 #[(0, x0)]) (h0 : ρ x0 = .int .i64 s) : (execOp ρ o).run Tryz.prog w = .ok (.value (.agg ([Value.int .i64 s] ++ (cel [0, 0] ++ [Value.bool false, Value.int .u64 0, Value.int .u64 0, Value.bool false])).toArray)) w := by
 rw [cel00]
 simp only [execOp, ho, List.map_toArray, List.map_cons, List.map_nil, h0]
 kernel_rfl
theorem ex_build35_2 {ρ : Operand → Value} {o : Oper} {x2 : Operand} {z : Bool} {w : World} (ho : o.op = .build 35 #[(2, x2)]) (h2 : ρ x2 = .bool z) : (execOp ρ o).run Tryz.prog w = .ok (.value (.agg ([Value.int .u64 0, Value.int .u64 0, Value.bool z]).toArray)) w := by
 skip
 simp only [execOp, ho, List.map_toArray, List.map_cons, List.map_nil, h2]
 kernel_rfl
theorem ex_build33_2 {ρ : Operand → Value} {o : Oper} {x2 : Operand} {z : Bool} {w : World} (ho : o.op = .build 33 #[(2, x2)]) (h2 : ρ x2 = .bool z) : (execOp ρ o).run Tryz.prog w = .ok (.value (.agg (cel [0, 0] ++ [Value.bool z]).toArray)) w := by
 rw [cel00]
 simp only [execOp, ho, List.map_toArray, List.map_cons, List.map_nil, h2]
 kernel_rfl
theorem ex_build37_ {ρ : Operand → Value} {o : Oper} {w : World} (ho : o.op = .build 37 #[]) : (execOp ρ o).run Tryz.prog w = .ok (.value (.agg ([Value.int .i64 0] ++ (cel [0, 0] ++ [Value.bool false, Value.int .u64 0, Value.int .u64 0, Value.bool false])).toArray)) w := by
 rw [cel00]
 simp only [execOp, ho, List.map_toArray, List.map_nil]
 kernel_rfl
theorem ex_build37_02 {ρ : Operand → Value} {o : Oper} {x0 x2 : Operand} {s : Int} {x y : Int} {z : Bool} {w : World} (ho : o.op = .build 37 #[(0, x0), (2, x2)]) (h0 : ρ x0 = .int .i64 s) (h2 : ρ x2 = .agg ([Value.int .u64 x, Value.int .u64 y, Value.bool z]).toArray) : (execOp ρ o).run Tryz.prog w = .ok (.value (.agg ([Value.int .i64 s] ++ (cel [0, 0] ++ [Value.bool false, Value.int .u64 x, Value.int .u64 y, Value.bool z])).toArray)) w := by
 rw [cel00]
 simp only [execOp, ho, List.map_toArray, List.map_cons, List.map_nil, h0, h2]
 kernel_rfl
theorem ex_build37_1 {ρ : Operand → Value} {o : Oper} {x1 : Operand} {px py : Nat} {pz : Bool} {w : World} (ho : o.op = .build 37 #[(1, x1)]) (h1 : ρ x1 = .agg (cel [px, py] ++ [Value.bool pz]).toArray) : (execOp ρ o).run Tryz.prog w = .ok (.value (.agg ([Value.int .i64 0] ++ (cel [px, py] ++ [Value.bool pz, Value.int .u64 0, Value.int .u64 0, Value.bool false])).toArray)) w := by
 skip
 simp only [execOp, ho, List.map_toArray, List.map_cons, List.map_nil, h1]
 kernel_rfl
theorem ex_build35_ {ρ : Operand → Value} {o : Oper} {w : World} (ho : o.op = .build 35 #[]) : (execOp ρ o).run Tryz.prog w = .ok (.value (.agg ([Value.int .u64 0, Value.int .u64 0, Value.bool false]).toArray)) w := by
 skip
 simp only [execOp, ho, List.map_toArray, List.map_nil]
 kernel_rfl
theorem ex_build33_ {ρ : Operand → Value} {o : Oper} {w : World} (ho : o.op = .build 33 #[]) : (execOp ρ o).run Tryz.prog w = .ok (.value (.agg (cel [0, 0] ++ [Value.bool false]).toArray)) w := by
 rw [cel00]
 simp only [execOp, ho, List.map_toArray, List.map_nil]
 kernel_rfl
theorem run_eqNd (D a b : Nat) (ha : a < big) (hb : b < big) (w : World) : (Op.equalIn (D + 2) 24 (N a) (N b)).run Tryz.prog w = .ok (decide (a = b)) w := by
 rw [run_eq6' (D + 1) (fun a b w => run_equalIn_int w D 22 .u64 .u64 a b (by kernel_rfl)), num_eq a b ha hb]
theorem run_eqBd (D : Nat) (a b : Bool) (w : World) : (Op.equalIn (D + 1) 4 (.bool a) (.bool b)).run Tryz.prog w = .ok (a == b) w := by
 simp only [Op.equalIn, Sem.run_bind, run_underlying (show Tryz.prog.underlying 4 = some .bool by kernel_rfl), Result.andThen_ok]
 rfl
theorem part1 (a b : Nat) (z : Bool) (w : World) : (Go.part 24 (cel [a, b] ++ [Value.bool z]).toArray 0).run Tryz.prog w = .ok (N a) w ∧ (Go.part 24 (cel [a, b] ++ [Value.bool z]).toArray 6).run Tryz.prog w = .ok (N b) w ∧ (Go.part 4 (cel [a, b] ++ [Value.bool z]).toArray 12).run Tryz.prog w = .ok (.bool z) w := ⟨by kernel_rfl, by kernel_rfl, by kernel_rfl⟩
theorem run_eqPk' (D a b a' b' : Nat) (z z' p0 p1 p2 : Bool) (hi0 : ∀ w, (Op.equalIn D 24 (N a) (N a')).run Tryz.prog w = .ok p0 w) (hi1 : ∀ w, (Op.equalIn D 24 (N b) (N b')).run Tryz.prog w = .ok p1 w) (hi2 : ∀ w, (Op.equalIn D 4 (.bool z) (.bool z')).run Tryz.prog w = .ok p2 w) (w : World) :
  (Op.equalIn (D + 1) 33 (.agg (cel [a, b] ++ [Value.bool z]).toArray) (.agg (cel [a', b'] ++ [Value.bool z']).toArray)).run Tryz.prog w = .ok (p0 && (p1 && p2)) w := by
 have hst : Tryz.prog.stoodInHeld 33 = false := by kernel_rfl
 have q1 := part1 a b z
 have q2 := part1 a' b' z'
 have hsz : ∀ w, (sizeOf 24).run Tryz.prog w = .ok 6 w := fun w => by kernel_rfl
 generalize (cel [a, b] ++ [Value.bool z]).toArray = xs at *
 generalize (cel [a', b'] ++ [Value.bool z']).toArray = ys at *
 generalize N a = A at *
 generalize N b = B at *
 generalize N a' = A' at *
 generalize N b' = B' at *
 simp only [Op.equalIn, Sem.run_bind, run_underlying Tryz.underlying33, Result.andThen_ok]
 simp [hst, hi0, hi1, hi2, q1, q2]
 cases p0 <;> cases p1 <;> cases p2 <;> simp
theorem run_eqPk (a b a' b' : Nat) (z z' : Bool) (ha : a < big) (hb : b < big) (ha' : a' < big) (hb' : b' < big) (w : World) : (Op.equalIn 10000 33 (.agg (cel [a, b] ++ [Value.bool z]).toArray) (.agg (cel [a', b'] ++ [Value.bool z']).toArray)).run Tryz.prog w = .ok (decide (a = a') && (decide (b = b') && (z == z'))) w :=
 run_eqPk' 9999 a b a' b' z z' _ _ _ (fun w => run_eqNd 9997 a a' ha ha' w) (fun w => run_eqNd 9997 b b' hb hb' w) (fun w => run_eqBd 9998 z z' w) w
theorem exec_eqT35 {ρ : Operand → Value} {o : Oper} {x y : Operand} {v v' : Array Value} {t : Bool} {w : World} (he : ∀ w, (Op.equalIn 10000 35 (.agg v) (.agg v')).run Tryz.prog w = .ok t w) (ho : o.op = .binOp .eql 35 x y 35) (hx : ρ x = .agg v) (hy : ρ y = .agg v') :
  (execOp ρ o).run Tryz.prog w = .ok (.value (.bool t)) w := by
 simp only [execOp, ho, hx, hy]
 clear hx hy
 go_simp
set_option maxHeartbeats 1000000 in
theorem littleKey_ok (s : Int) (x y : Nat) (z : Bool) (w : World) :
  Calls Tryz.prog 23 #[.int .i64 s, .agg ([Value.int .u64 (x : Int), Value.int .u64 (y : Int), Value.bool z]).toArray, .int .i64 0] w (Rt w (.tuple #[.agg ([Value.int .i64 s] ++ (cel [0, 0] ++ [Value.bool false, Value.int .u64 (x : Int), Value.int .u64 (y : Int), Value.bool z])).toArray, .int .i64 0])) := by
 have H0 : Hid (_ ∧ _) := ⟨Mm.nil w, Below.refl w.heap.size w⟩
 go_enter Tryz.func23, Tryz.ntmps23
 refine wp_seq ?_
 refine zD 3 [.made ([Value.int .u64 (x : Int), Value.int .u64 (y : Int), Value.bool z]) 35, .made ([Value.int .i64 0] ++ (cel [0, 0] ++ [Value.bool false, Value.int .u64 0, Value.int .u64 0, Value.bool false])) 37, .q (.int .i64 0)] (sB H0) ?ho1 ?he1
 case ho1 => exact am (zN rfl rfl) (am (ex_made37 rfl) (ar trivial))
 intro J w1 l hM hl
 have H1 : Hid (Mm w1 [(J 0, [Value.int .u64 (x : Int), Value.int .u64 (y : Int), Value.bool z]), (J 1, [Value.int .i64 0] ++ (cel [0, 0] ++ [Value.bool false, Value.int .u64 0, Value.int .u64 0, Value.bool false]))] ∧ _) := wB H0 hM hl [0, 1]
 have o1_0 := vB H0 hM hl 0
 have o1_1 := vB H0 hM hl 1
 clear hM hl l
 generalize J 0 = J1_0 at H1 o1_0 ⊢
 generalize J 1 = J1_1 at H1 o1_1 ⊢
 clear J
 refine rN (wp_seq (wp_seq ?_))
 refine zB 2 [.q (.int .i64 0), .q (.bool false)] H1 ?ho2 ?he2
 case ho2 => exact ar (ag trivial)
 intro _ w2 H2
 clear H1
 refine rN (wp_cond_false rfl ?_)
 refine wp_skip (zA (wp_seq ?_))
 refine zB 3 [.q (.int .i64 s), .q (.agg ([Value.int .u64 (x : Int), Value.int .u64 (y : Int), Value.bool z]).toArray), .q (.agg ([Value.int .i64 s] ++ (cel [0, 0] ++ [Value.bool false, Value.int .u64 (x : Int), Value.int .u64 (y : Int), Value.bool z])).toArray)] H2 ?ho3 ?he3
 case ho3 => exact ar (bT 0 Ai35 As35 (ak (fun J => ⟨rfl, fun w' _ => ex_build37_02 rfl rfl rfl⟩) trivial))
 intro _ w3 H3
 clear H2
 refine zF (l := [3, 4]) rfl ?_
 refine sG rfl (fun h => ex_storeT (vs := [Value.int .i64 s] ++ (cel [0, 0] ++ [Value.bool false, Value.int .u64 (x : Int), Value.int .u64 (y : Int), Value.bool z])) h 1 rfl rfl rfl rfl As37 rfl (Nat.le_of_ble_eq_true rfl)) 1 [_, (_, [Value.int .i64 s] ++ (cel [0, 0] ++ [Value.bool false, Value.int .u64 (x : Int), Value.int .u64 (y : Int), Value.bool z]))] H3 o1_1 fun w4 H4 => ?_
 clear H3
 refine zG (d := 7) rfl rfl rfl rfl ?_
 simp only [Act.put, sa, sz, ss]
 refine zE (zA (wp_ret ?_))
 repeat (first | refine zJ ?_ | refine zI ?_)
 have hf0 := var_T H4.out.1 1 rfl Ai37 As37 rfl
 refine bodyPost_ret (v := .tuple #[.agg ([Value.int .i64 s] ++ (cel [0, 0] ++ [Value.bool false, Value.int .u64 (x : Int), Value.int .u64 (y : Int), Value.bool z])).toArray, .int .i64 0]) (by simp [results, Tryz.results23, asAddr, Act.eval, hf0]) rfl ?_
 exact ⟨rfl, H4.out.2⟩
set_option maxHeartbeats 1000000 in
theorem gen_little (s : Int) (x y : Nat) (z : Bool) (hs : s ≠ 0) (hG : ∀ w, Calls Tryz.prog 22 #[.int .i64 s] w (Rt w (.tuple #[.agg ([Value.int .u64 (x : Int), Value.int .u64 (y : Int), Value.bool z]).toArray, .int .i64 0]))) (w : World) :
  Calls Tryz.prog 9 #[.int .i64 s] w (Rt w (.tuple #[.agg ([Value.int .i64 s] ++ (cel [0, 0] ++ [Value.bool false, Value.int .u64 (x : Int), Value.int .u64 (y : Int), Value.bool z])).toArray, .int .i64 0])) := by
 have H0 : Hid (_ ∧ _) := ⟨Mm.nil w, Below.refl w.heap.size w⟩
 have HG : Hid _ := hG
 clear hG
 go_enter Tryz.func9, Tryz.ntmps9
 refine wp_seq ?_
 refine zD 2 [.made ([Value.int .i64 0] ++ (cel [0, 0] ++ [Value.bool false, Value.int .u64 0, Value.int .u64 0, Value.bool false])) 37, .q (.int .i64 0)] (sB H0) ?ho1 ?he1
 case ho1 => exact am (ex_made37 rfl) (ar trivial)
 intro J w1 l hM hl
 have H1 : Hid (Mm w1 [(J 0, [Value.int .i64 0] ++ (cel [0, 0] ++ [Value.bool false, Value.int .u64 0, Value.int .u64 0, Value.bool false]))] ∧ _) := wB H0 hM hl [0]
 have o1_0 := vB H0 hM hl 0
 clear hM hl l
 generalize J 0 = J1_0 at H1 o1_0 ⊢
 clear J
 refine rN (wp_seq ?_)
 refine zB 1 [.q (.int .i64 s)] H1 ?ho2 ?he2
 case ho2 => exact ar trivial
 intro _ w2 H2
 clear H1
 refine rN (wp_block (wp_seq ?_))
 refine zB 2 [.q (.bool false), .q (.bool false)] H2 ?ho3 ?he3
 case ho3 => exact ag (ar trivial)
 intro _ w3 H3
 clear H2
 refine rN (wp_cond_false rfl (wp_seq ?_))
 refine zD 8 [.q (.int .i64 s), .call (.tuple #[.agg ([Value.int .u64 (x : Int), Value.int .u64 (y : Int), Value.bool z]).toArray, .int .i64 0]), .q (.tuple #[.agg ([Value.int .u64 (x : Int), Value.int .u64 (y : Int), Value.bool z]).toArray, .int .i64 0]), .q (.agg ([Value.int .u64 (x : Int), Value.int .u64 (y : Int), Value.bool z]).toArray), .q (.int .i64 0), .made ([Value.int .u64 0, Value.int .u64 0, Value.bool false]) 35, .laid 5 ([Value.int .u64 0, Value.int .u64 0, Value.bool false]) ([Value.int .u64 (x : Int), Value.int .u64 (y : Int), Value.bool z]), .q (.int .i64 0)] (sB H3) ?ho4 ?he4 (hL := ?hL4)
 case hL4 => exact ⟨⟨_, rfl⟩, trivial⟩
 case ho4 => exact ar (ac (fun w' h => eC call22 (HG.out w')) (ar (ag (ag (am (ex_made35 rfl) (ak (fun J => ⟨rfl, rfl, rfl, fun w' h => ex_laidT h rfl rfl As35 rfl rfl rfl⟩) (ar trivial)))))))
 intro J w4 l hM hl
 have H4 : Hid (Mm w4 ([(J 5, [Value.int .u64 (x : Int), Value.int .u64 (y : Int), Value.bool z])] ++ _) ∧ _) := wB H3 hM hl [5]
 have o4_5 := vB H3 hM hl 5
 clear hM hl l H3
 generalize J 5 = J4_5 at H4 o4_5 ⊢
 clear J
 refine rN (wp_seq ?_)
 refine zB 6 [.q (.int .i64 s), .q (.agg ([Value.int .u64 (x : Int), Value.int .u64 (y : Int), Value.bool z]).toArray), .q (.int .i64 0), .call (.tuple #[.agg ([Value.int .i64 s] ++ (cel [0, 0] ++ [Value.bool false, Value.int .u64 (x : Int), Value.int .u64 (y : Int), Value.bool z])).toArray, .int .i64 0]), .q (.agg ([Value.int .i64 s] ++ (cel [0, 0] ++ [Value.bool false, Value.int .u64 (x : Int), Value.int .u64 (y : Int), Value.bool z])).toArray), .q (.int .i64 0)] H4 ?ho5 ?he5
 case ho5 => exact ar (bT 0 Ai35 As35 (ar (ac (fun w' h => eC call23 (littleKey_ok s x y z w')) (ag (ag trivial)))))
 intro _ w5 H5
 clear H4
 refine zF (l := [6, 7]) rfl ?_
 refine sG rfl (fun h => ex_storeT (vs := [Value.int .i64 s] ++ (cel [0, 0] ++ [Value.bool false, Value.int .u64 (x : Int), Value.int .u64 (y : Int), Value.bool z])) h 1 rfl rfl rfl rfl As37 rfl (Nat.le_of_ble_eq_true rfl)) 1 [_, (_, [Value.int .i64 s] ++ (cel [0, 0] ++ [Value.bool false, Value.int .u64 (x : Int), Value.int .u64 (y : Int), Value.bool z]))] H5 o1_0 fun w6 H6 => ?_
 clear H5
 refine zG (d := 3) rfl rfl rfl rfl ?_
 simp only [Act.put, sa, sz, ss]
 refine zE (zA (wp_ret ?_))
 repeat (first | refine zJ ?_ | refine zI ?_)
 have hf0 := var_T H6.out.1 1 rfl Ai37 As37 rfl
 refine bodyPost_ret (v := .tuple #[.agg ([Value.int .i64 s] ++ (cel [0, 0] ++ [Value.bool false, Value.int .u64 (x : Int), Value.int .u64 (y : Int), Value.bool z])).toArray, .int .i64 0]) (by simp [results, Tryz.results9, asAddr, Act.eval, hf0]) rfl ?_
 exact ⟨rfl, H6.out.2⟩
set_option maxHeartbeats 1000000 in
theorem keyCheck_lyes (s : Int) (px py : Nat) (pz : Bool) (x y : Nat) (z : Bool) (hs : s ≠ 0) (he : ∀ w, (Op.equalIn 10000 33 (.agg (cel [px, py] ++ [Value.bool pz]).toArray) (.agg (cel [0, 0] ++ [Value.bool false]).toArray)).run Tryz.prog w = .ok true w) (t : Bool) (hI : ∀ w, Calls Tryz.prog 30 #[.int .i64 s, .agg ([Value.int .u64 (x : Int), Value.int .u64 (y : Int), Value.bool z]).toArray] w (Rt w (.bool t))) (w : World) :
  Calls Tryz.prog 12 #[.agg ([Value.int .i64 s] ++ (cel [px, py] ++ [Value.bool pz, Value.int .u64 (x : Int), Value.int .u64 (y : Int), Value.bool z])).toArray] w (Rt w (.bool t)) := by
 have H0 : Hid (_ ∧ _) := ⟨Mm.nil w, Below.refl w.heap.size w⟩
 have hE : Hid _ := he
 clear he
 have HI : Hid _ := hI
 clear hI
 go_enter Tryz.func12, Tryz.ntmps12
 refine wp_seq ?_
 refine zD 2 [.made ([Value.int .i64 s] ++ (cel [px, py] ++ [Value.bool pz, Value.int .u64 (x : Int), Value.int .u64 (y : Int), Value.bool z])) 37, .q (.bool false)] (sB H0) ?ho1 ?he1
 case ho1 => exact am (zN rfl rfl) (ar trivial)
 intro J w1 l hM hl
 have H1 : Hid (Mm w1 [(J 0, [Value.int .i64 s] ++ (cel [px, py] ++ [Value.bool pz, Value.int .u64 (x : Int), Value.int .u64 (y : Int), Value.bool z]))] ∧ _) := wB H0 hM hl [0]
 have o1_0 := vB H0 hM hl 0
 clear hM hl l
 generalize J 0 = J1_0 at H1 o1_0 ⊢
 clear J
 refine rN (wp_seq ?_)
 refine zB 2 [.q (PT J1_0 0), .q (.int .i64 s)] H1 ?ho2 ?he2
 case ho2 => exact ag (bC 0 Ai28 trivial)
 intro _ w2 H2
 clear H1
 refine rN (wp_block (wp_seq ?_))
 refine zB 2 [.q (.bool false), .q (.bool false)] H2 ?ho3 ?he3
 case ho3 => exact ag (ar trivial)
 intro _ w3 H3
 clear H2
 refine rN (wp_cond_false rfl (wp_seq ?_))
 refine zB 12 [.q (PT J1_0 1), .q (.agg (cel [px, py] ++ [Value.bool pz]).toArray), .q (.agg (cel [0, 0] ++ [Value.bool false]).toArray), .q (.bool true), .q (.bool true), .q (PT J1_0 0), .q (.int .i64 s), .q (PT J1_0 14), .q (.agg ([Value.int .u64 (x : Int), Value.int .u64 (y : Int), Value.bool z]).toArray), .call (.bool t), .q (.bool t), .q (.bool t)] H3 ?ho4 ?he4
 case ho4 => exact ag (bT 0 Ai33 As33 (ak (fun J => ⟨rfl, fun w' _ => ex_build33_ rfl⟩) (ak (fun J => ⟨rfl, fun w' _ => exec_eqT33 hE.out rfl rfl rfl⟩) (ar (ag (bC 0 Ai28 (ag (bT 0 Ai35 As35 (ac (fun w' h => eC call30 (HI.out w')) (ag (ar trivial)))))))))))
 intro _ w4 H4
 clear H3
 refine rN (wp_ret ?_)
 repeat (first | refine zJ ?_ | refine zI ?_)
 refine bodyPost_ret (v := .bool t) (by simp [results, Tryz.results12, go_sem, *]) rfl ?_
 exact ⟨rfl, H4.out.2⟩
end Rg
end Go.Proofs.YtahgdighnlekdaaGreatDoor
end
section
namespace Go.Proofs.YtahgdighnlekdaaGreatDoor
open Go.RowKit
namespace Rg
namespace Lt
theorem quo_wrap (U y1 q : Nat) (h : U / y1 = q) (hq : q < 18446744073709551616) : IntKind.u64.wrap ((U : Int) / (y1 : Int)) = q := by
 rw [← Int.natCast_ediv, h]; exact Mul64.wrapN q hq
theorem rem_wrap (U y1 q r : Nat) (h : q * y1 + r = U) (hU : U < 18446744073709551616) : IntKind.u64.wrap ((U : Int) - IntKind.u64.wrap ((q : Int) * (y1 : Int))) = r := by
 have h1 : q * y1 < 18446744073709551616 := by omega
 rw [← Int.natCast_mul, Mul64.wrapN _ h1]
 have : (U : Int) - ((q * y1 : Nat) : Int) = (r : Int) := by omega
 rw [this]; exact Mul64.wrapN r (by omega)
theorem hb_break (U y1 y0 u q r Y Q : Nat) (dy : Y = y1 * 4294967296 + y0) (hQ : Q = (U * 4294967296 + u) / Y) (h : (q + 1) * y1 + r = U) (hle : q + 1 ≤ 4294967297) (b3 : y0 < 4294967296) (b4 : 0 < y1) (c2 : 4294967296 ≤ r + y1) (hge : Q + 1 ≤ q + 1) : q = Q := by
 have h2 : q * y1 + (r + y1) = U := by rw [Nat.add_mul] at h; omega
 have h3 : q * y0 ≤ 4294967296 * 4294967295 := Nat.mul_le_mul (by omega) (by omega)
 have h4 := half_enough U y1 y0 u q (r + y1) h2 (by omega) (by omega)
 rw [← dy, ← hQ] at h4
 omega
theorem hb_exit (U y1 y0 u q r Y Q : Nat) (dy : Y = y1 * 4294967296 + y0) (hQ : Q = (U * 4294967296 + u) / Y) (h : q * y1 + r = U) (b4 : 0 < y1) (c : q * y0 ≤ 4294967296 * r + u) (hge : Q ≤ q) : q = Q := by
 have h4 := half_enough U y1 y0 u q r h (by omega) (by rw [Nat.mul_comm r]; exact c)
 rw [← dy, ← hQ] at h4
 omega
theorem hb_more1 (U y1 y0 u q Y Q : Nat) (dy : Y = y1 * 4294967296 + y0) (hQ : Q = (U * 4294967296 + u) / Y) (hu : u < 4294967296) (hU : U < Y) (h : 4294967296 ≤ q) : Q + 1 ≤ q := by
 have h4 := half_big U y1 y0 u q hu (by rw [← dy]; exact hU) h
 rw [← dy, ← hQ] at h4
 exact h4
theorem hb_more2 (U y1 y0 u q r Y Q : Nat) (dy : Y = y1 * 4294967296 + y0) (hQ : Q = (U * 4294967296 + u) / Y) (h : q * y1 + r = U) (b4 : 0 < y1) (c : 4294967296 * r + u < q * y0) : Q + 1 ≤ q := by
 have h4 := half_more U y1 y0 u q r h (by omega) (by rw [Nat.mul_comm r]; exact c)
 rw [← dy, ← hQ] at h4
 exact h4
theorem hb_step (U y1 q r : Nat) (h : (q + 1) * y1 + r = U) : q * y1 + (r + y1) = U := by rw [Nat.add_mul] at h; omega
theorem mul_small (q y0 : Nat) (hq : q < 4294967296) (h : y0 < 4294967296) : q * y0 < 18446744073709551616 := by
 have h3 : q * y0 ≤ 4294967295 * 4294967295 := Nat.mul_le_mul (by omega) (by omega)
 omega
theorem mod_join (M Y u0 : Nat) : (M % Y * 4294967296 + u0) % Y = (M * 4294967296 + u0) % Y := by
 rw [Nat.add_mod, Nat.mul_mod, Nat.mod_mod, ← Nat.mul_mod, ← Nat.add_mod]
set_option maxHeartbeats 2000000 in
theorem div64_hi (hi lo y : Nat) (h1 : hi < y) (hy : y < 18446744073709551616) (hl : lo < 18446744073709551616) (h0 : hi ≠ 0) (w : World) :
  Calls Tryz.prog 123 #[.int .u64 hi, .int .u64 lo, .int .u64 y] w fun e w' => e = .returned (.tuple #[.int .u64 ((hi * 18446744073709551616 + lo) / y : Nat), .int .u64 ((hi * 18446744073709551616 + lo) % y : Nat)]) ∧ w' = w := by
 have hc := fun w => lz64_any y w (Int.natCast_nonneg y) (by omega)
 rw [Int.toNat_natCast] at hc
 have HC : Hid _ := hc
 have hb1 : bl y ≤ 64 := bl_le_of y 64 hy
 have hb2 : 1 ≤ bl y := bl_pos y (by omega)
 obtain ⟨Y, U, u1, u0, y1, y0, dY, b1, b2, dy, b3, b4, b5, b6, b7, b8, dM, eY, eU, eu1, eu0, ey1, ey0⟩ := norm_parts hi lo y h1 hy hl
 obtain ⟨Q1, hQ1⟩ : ∃ Q1, Q1 = (U * 4294967296 + u1) / Y := ⟨_, rfl⟩
 obtain ⟨R1, hR1⟩ : ∃ R1, R1 = (U * 4294967296 + u1) % Y := ⟨_, rfl⟩
 obtain ⟨Q0, hQ0⟩ : ∃ Q0, Q0 = (R1 * 4294967296 + u0) / Y := ⟨_, rfl⟩
 have hfin : (hi * 18446744073709551616 + lo) / y = Q1 * 4294967296 + Q0 := by
  rw [hQ0, hR1, hQ1, halves_join _ _ _ (by omega), ← dM, dY, norm_div]
 obtain ⟨R0, hR0⟩ : ∃ R0, R0 = (R1 * 4294967296 + u0) % Y := ⟨_, rfl⟩
 have hrem : (hi * 18446744073709551616 + lo) % y = R0 / 2 ^ (64 - bl y) := by
  rw [hR0, hR1, mod_join, ← dM, dY, Nat.mul_mod_mul_right, Nat.mul_div_cancel _ (Nat.two_pow_pos _)]
 rw [hfin, hrem]
 have HN : Hid _ := And.intro b1 (And.intro b2 (And.intro dy (And.intro b8 (And.intro hQ1 (And.intro hR1 (And.intro hQ0 hR0))))))
 have e1 : ((y : Int) == 0) = false := by simp; omega
 have e2 : ((hi : Int) == 0) = false := by simp; omega
 have e3 : (1 : Int) ≤ y1 := by omega
 clear hc hy hl dY dM hfin hrem b1 b2 dy b8 hQ1 hR1 hQ0 hR0
 go_enter Tryz.func123, Tryz.ntmps123
 go_upto_block 0 with (go_at_call 136; refine (HC.out _).mono ?_; rintro e w' ⟨rfl, hw'⟩; rw [hw']; clear hw')
 go_cut [15, 16] (fun qv rv wq => qv = .int .u64 Q1 ∧ (∃ r : Int, rv = .int .u64 r) ∧ wq = w)
 case first =>
  go_wp2
  go_loop [15, 16] (fun qv rv => ∃ q r : Nat, qv = .int .u64 q ∧ rv = .int .u64 r ∧ q * y1 + r = U ∧ Q1 ≤ q ∧ q ≤ 4294967297 ∧ r < 4294967296) (fun q _ => (RowKit.intOf q).toNat)
  case atStart =>
   obtain ⟨b1, b2, dy, b8, hQ1, hR1, hQ0, hR0⟩ := HN.out
   have hs := half_start U y1 y0 b3 b4 (by omega)
   have hg := half_ge U y1 y0 u1 b6 (by omega)
   have e1 := quo_wrap U y1 (U / y1) rfl (by omega)
   have dm := Nat.div_add_mod U y1
   have e2 := rem_wrap U y1 (U / y1) (U % y1) (by rw [Nat.mul_comm]; exact dm) (by omega)
   have hm := Nat.mod_lt U (by omega : 0 < y1)
   rw [e1, e2]
   exact ⟨U / y1, U % y1, rfl, rfl, by rw [Nat.mul_comm]; exact dm, by rw [hQ1, dy]; exact hg, hs, by omega⟩
  case round =>
   obtain ⟨q, r, rfl, rfl, hqr, hge, hle, hr⟩ := hrel
   have HQ : Hid _ := hqr
   clear hqr
   by_cases c1 : 4294967296 ≤ q
   ·have hmore : Q1 + 1 ≤ q := by
     obtain ⟨b1, b2, dy, b8, hQ1, hR1, hQ0, hR0⟩ := HN.out
     exact hb_more1 U y1 y0 u1 q Y Q1 dy hQ1 b6 b8 c1
    obtain ⟨p, rfl⟩ : ∃ p, q = p + 1 := ⟨q - 1, by omega⟩
    have HB : Hid (Q1 + 1 ≤ p + 1 ∧ p + 1 ≤ 4294967297 ∧ r < 4294967296) := ⟨hmore, hle, hr⟩
    have i1 : (4294967296 : Int) ≤ (p : Int) + 1 := by omega
    have i2 : (p : Int) + 1 ≤ 4294967297 := by omega
    have i3 : (r : Int) < 4294967296 := by omega
    have i4 : (y1 : Int) < 4294967296 := by omega
    clear c1 hmore hle hr hge
    rw [show ((p + 1 : Nat) : Int) = (p : Int) + 1 by omega]
    by_cases c2 : (4294967296 : Int) ≤ (r : Int) + (y1 : Int)
    ·go_wp2
     go_meet
     case rel =>
      obtain ⟨b1, b2, dy, b8, hQ1, hR1, hQ0, hR0⟩ := HN.out
      exact ⟨by rw [hb_break U y1 y0 u1 p r Y Q1 dy hQ1 HQ.out HB.out.2.1 b3 (by omega) (by omega) HB.out.1], ⟨_, rfl⟩, rfl⟩
    ·go_wp2
     go_round
     case rel => exact ⟨p, r + y1, rfl, by go_num, hb_step U y1 p r HQ.out, by have := HB.out.1; omega, by have := HB.out.2.1; omega, by omega⟩
     case measure => simp [RowKit.intOf] <;> omega
   ·obtain ⟨P, hP⟩ : ∃ P, P = q * y0 := ⟨_, rfl⟩
    have hPb : P < 18446744073709551616 := by rw [hP]; exact mul_small q y0 (by omega) b3
    by_cases c3 : (4294967296 : Int) * (r : Int) + (u1 : Int) < (P : Int)
    ·have hq1 : 1 ≤ q := by
      by_cases hq0 : q = 0
      ·subst hq0; rw [Nat.zero_mul] at hP; omega
      ·omega
     have hmore : Q1 + 1 ≤ q := by
      obtain ⟨b1, b2, dy, b8, hQ1, hR1, hQ0, hR0⟩ := HN.out
      exact hb_more2 U y1 y0 u1 q r Y Q1 dy hQ1 HQ.out (by omega) (by rw [← hP]; omega)
     obtain ⟨p, rfl⟩ : ∃ p, q = p + 1 := ⟨q - 1, by omega⟩
     have HB : Hid (Q1 + 1 ≤ p + 1 ∧ p + 1 ≤ 4294967297 ∧ r < 4294967296) := ⟨hmore, hle, hr⟩
     have i1 : (p : Int) + 1 < 4294967296 := by omega
     have i3 : (r : Int) < 4294967296 := by omega
     have i4 : (y1 : Int) < 4294967296 := by omega
     have i5 : (u1 : Int) < 4294967296 := by omega
     have eP : IntKind.u64.wrap (((p : Int) + 1) * (y0 : Int)) = (P : Int) := by
      rw [show ((p : Int) + 1) = ((p + 1 : Nat) : Int) by omega, ← Int.natCast_mul, ← hP]; exact Mul64.wrapN P hPb
     clear c1 hmore hle hr hge hP hPb hq1
     rw [show ((p + 1 : Nat) : Int) = (p : Int) + 1 by omega]
     by_cases c2 : (4294967296 : Int) ≤ (r : Int) + (y1 : Int)
     ·go_wp2
      go_meet
      case rel =>
       obtain ⟨b1, b2, dy, b8, hQ1, hR1, hQ0, hR0⟩ := HN.out
       exact ⟨by rw [hb_break U y1 y0 u1 p r Y Q1 dy hQ1 HQ.out HB.out.2.1 b3 (by omega) (by omega) HB.out.1], ⟨_, rfl⟩, rfl⟩
     ·go_wp2
      go_round
      case rel => exact ⟨p, r + y1, rfl, by go_num, hb_step U y1 p r HQ.out, by have := HB.out.1; omega, by have := HB.out.2.1; omega, by omega⟩
      case measure => simp [RowKit.intOf] <;> omega
    ·have HE : Hid (q = Q1) := by
      obtain ⟨b1, b2, dy, b8, hQ1, hR1, hQ0, hR0⟩ := HN.out
      exact hb_exit U y1 y0 u1 q r Y Q1 dy hQ1 HQ.out (by omega) (by rw [← hP]; omega) hge
     have eP : IntKind.u64.wrap ((q : Int) * (y0 : Int)) = (P : Int) := by
      rw [← Int.natCast_mul, ← hP]; exact Mul64.wrapN P hPb
     obtain ⟨z, hz⟩ : ∃ z : Int, z = (q : Int) := ⟨_, rfl⟩
     obtain ⟨x, hx⟩ : ∃ x : Int, x = (P : Int) := ⟨_, rfl⟩
     obtain ⟨v, hv⟩ : ∃ v : Int, v = (r : Int) := ⟨_, rfl⟩
     have HZ : Hid (z = (Q1 : Int)) := by rw [hz, HE.out]; rfl
     have i0 : 0 ≤ z := by omega
     have i1 : z < 4294967296 := by omega
     have i2 : 0 ≤ v := by omega
     have i3 : v < 4294967296 := by omega
     have i6 : x ≤ 4294967296 * v + (u1 : Int) := by omega
     rw [← hz, ← hx] at eP
     rw [← hz, ← hv]
     clear c1 c3 hle hr hge hP hPb HE hz hx hv
     go_wp2
     go_meet
     case rel => exact ⟨by rw [HZ.out], ⟨_, rfl⟩, rfl⟩
 case rest =>
  obtain ⟨rfl, ⟨rv, rfl⟩, rfl⟩ := hcut
  have eR : IntKind.u64.wrap (IntKind.u64.wrap (IntKind.u64.wrap ((U : Int) * 4294967296) + (u1 : Int)) - IntKind.u64.wrap ((Q1 : Int) * (Y : Int))) = (R1 : Int) := by
   obtain ⟨b1, b2, dy, b8, hQ1, hR1, hQ0, hR0⟩ := HN.out
   have dm := Nat.div_add_mod (U * 4294967296 + u1) Y
   have b9 : R1 < Y := by rw [hR1]; exact Nat.mod_lt _ (by omega)
   rw [← hQ1, ← hR1, Nat.mul_comm] at dm
   rw [IntKind.wrap_u64, IntKind.wrap_u64, IntKind.wrap_u64, IntKind.wrap_u64, ← Int.natCast_mul]
   generalize Q1 * Y = Z at dm ⊢
   omega
  go_upto_block 2 with (fail)
  go_cut [18, 16] (fun qv rv wq => qv = .int .u64 Q0 ∧ (∃ r : Int, rv = .int .u64 r) ∧ wq = wc)
  case first =>
   go_wp2
   go_loop [18, 16] (fun qv rv => ∃ q r : Nat, qv = .int .u64 q ∧ rv = .int .u64 r ∧ q * y1 + r = R1 ∧ Q0 ≤ q ∧ q ≤ 4294967297 ∧ r < 4294967296) (fun q _ => (RowKit.intOf q).toNat)
   case atStart =>
    obtain ⟨b1, b2, dy, b8, hQ1, hR1, hQ0, hR0⟩ := HN.out; have b9 : R1 < Y := by rw [hR1]; exact Nat.mod_lt _ (by omega)
    have hs := half_start R1 y1 y0 b3 b4 (by omega)
    have hg := half_ge R1 y1 y0 u0 b7 (by omega)
    have e1 := quo_wrap R1 y1 (R1 / y1) rfl (by omega)
    have dm := Nat.div_add_mod R1 y1
    have e2 := rem_wrap R1 y1 (R1 / y1) (R1 % y1) (by rw [Nat.mul_comm]; exact dm) (by omega)
    have hm := Nat.mod_lt R1 (by omega : 0 < y1)
    rw [e1, e2]
    exact ⟨R1 / y1, R1 % y1, rfl, rfl, by rw [Nat.mul_comm]; exact dm, by rw [hQ0, dy]; exact hg, hs, by omega⟩
   case round =>
    obtain ⟨q, r, rfl, rfl, hqr, hge, hle, hr⟩ := hrel
    have HQ : Hid _ := hqr
    clear hqr
    by_cases c1 : 4294967296 ≤ q
    ·have hmore : Q0 + 1 ≤ q := by
      obtain ⟨b1, b2, dy, b8, hQ1, hR1, hQ0, hR0⟩ := HN.out; have b9 : R1 < Y := by rw [hR1]; exact Nat.mod_lt _ (by omega)
      exact hb_more1 R1 y1 y0 u0 q Y Q0 dy hQ0 b7 b9 c1
     obtain ⟨p, rfl⟩ : ∃ p, q = p + 1 := ⟨q - 1, by omega⟩
     have HB : Hid (Q0 + 1 ≤ p + 1 ∧ p + 1 ≤ 4294967297 ∧ r < 4294967296) := ⟨hmore, hle, hr⟩
     have i1 : (4294967296 : Int) ≤ (p : Int) + 1 := by omega
     have i2 : (p : Int) + 1 ≤ 4294967297 := by omega
     have i3 : (r : Int) < 4294967296 := by omega
     have i4 : (y1 : Int) < 4294967296 := by omega
     clear c1 hmore hle hr hge
     rw [show ((p + 1 : Nat) : Int) = (p : Int) + 1 by omega]
     by_cases c2 : (4294967296 : Int) ≤ (r : Int) + (y1 : Int)
     ·go_wp2
      go_meet
      case rel =>
       obtain ⟨b1, b2, dy, b8, hQ1, hR1, hQ0, hR0⟩ := HN.out; have b9 : R1 < Y := by rw [hR1]; exact Nat.mod_lt _ (by omega)
       exact ⟨by rw [hb_break R1 y1 y0 u0 p r Y Q0 dy hQ0 HQ.out HB.out.2.1 b3 (by omega) (by omega) HB.out.1], ⟨_, rfl⟩, rfl⟩
     ·go_wp2
      go_round
      case rel => exact ⟨p, r + y1, rfl, by go_num, hb_step R1 y1 p r HQ.out, by have := HB.out.1; omega, by have := HB.out.2.1; omega, by omega⟩
      case measure => simp [RowKit.intOf] <;> omega
    ·obtain ⟨P, hP⟩ : ∃ P, P = q * y0 := ⟨_, rfl⟩
     have hPb : P < 18446744073709551616 := by rw [hP]; exact mul_small q y0 (by omega) b3
     by_cases c3 : (4294967296 : Int) * (r : Int) + (u0 : Int) < (P : Int)
     ·have hq1 : 1 ≤ q := by
       by_cases hq0 : q = 0
       ·subst hq0; rw [Nat.zero_mul] at hP; omega
       ·omega
      have hmore : Q0 + 1 ≤ q := by
       obtain ⟨b1, b2, dy, b8, hQ1, hR1, hQ0, hR0⟩ := HN.out; have b9 : R1 < Y := by rw [hR1]; exact Nat.mod_lt _ (by omega)
       exact hb_more2 R1 y1 y0 u0 q r Y Q0 dy hQ0 HQ.out (by omega) (by rw [← hP]; omega)
      obtain ⟨p, rfl⟩ : ∃ p, q = p + 1 := ⟨q - 1, by omega⟩
      have HB : Hid (Q0 + 1 ≤ p + 1 ∧ p + 1 ≤ 4294967297 ∧ r < 4294967296) := ⟨hmore, hle, hr⟩
      have i1 : (p : Int) + 1 < 4294967296 := by omega
      have i3 : (r : Int) < 4294967296 := by omega
      have i4 : (y1 : Int) < 4294967296 := by omega
      have i5 : (u0 : Int) < 4294967296 := by omega
      have eP : IntKind.u64.wrap (((p : Int) + 1) * (y0 : Int)) = (P : Int) := by
       rw [show ((p : Int) + 1) = ((p + 1 : Nat) : Int) by omega, ← Int.natCast_mul, ← hP]; exact Mul64.wrapN P hPb
      clear c1 hmore hle hr hge hP hPb hq1
      rw [show ((p + 1 : Nat) : Int) = (p : Int) + 1 by omega]
      by_cases c2 : (4294967296 : Int) ≤ (r : Int) + (y1 : Int)
      ·go_wp2
       go_meet
       case rel =>
        obtain ⟨b1, b2, dy, b8, hQ1, hR1, hQ0, hR0⟩ := HN.out; have b9 : R1 < Y := by rw [hR1]; exact Nat.mod_lt _ (by omega)
        exact ⟨by rw [hb_break R1 y1 y0 u0 p r Y Q0 dy hQ0 HQ.out HB.out.2.1 b3 (by omega) (by omega) HB.out.1], ⟨_, rfl⟩, rfl⟩
      ·go_wp2
       go_round
       case rel => exact ⟨p, r + y1, rfl, by go_num, hb_step R1 y1 p r HQ.out, by have := HB.out.1; omega, by have := HB.out.2.1; omega, by omega⟩
       case measure => simp [RowKit.intOf] <;> omega
     ·have HE : Hid (q = Q0) := by
       obtain ⟨b1, b2, dy, b8, hQ1, hR1, hQ0, hR0⟩ := HN.out; have b9 : R1 < Y := by rw [hR1]; exact Nat.mod_lt _ (by omega)
       exact hb_exit R1 y1 y0 u0 q r Y Q0 dy hQ0 HQ.out (by omega) (by rw [← hP]; omega) hge
      have eP : IntKind.u64.wrap ((q : Int) * (y0 : Int)) = (P : Int) := by
       rw [← Int.natCast_mul, ← hP]; exact Mul64.wrapN P hPb
      obtain ⟨z, hz⟩ : ∃ z : Int, z = (q : Int) := ⟨_, rfl⟩
      obtain ⟨x, hx⟩ : ∃ x : Int, x = (P : Int) := ⟨_, rfl⟩
      obtain ⟨v, hv⟩ : ∃ v : Int, v = (r : Int) := ⟨_, rfl⟩
      have HZ : Hid (z = (Q0 : Int)) := by rw [hz, HE.out]; rfl
      have i0 : 0 ≤ z := by omega
      have i1 : z < 4294967296 := by omega
      have i2 : 0 ≤ v := by omega
      have i3 : v < 4294967296 := by omega
      have i6 : x ≤ 4294967296 * v + (u0 : Int) := by omega
      rw [← hz, ← hx] at eP
      rw [← hz, ← hv]
      clear c1 c3 hle hr hge hP hPb HE hz hx hv
      go_wp2
      go_meet
      case rel => exact ⟨by rw [HZ.out], ⟨_, rfl⟩, rfl⟩
  case rest =>
   obtain ⟨rfl, ⟨rv2, rfl⟩, rfl⟩ := hcut
   have eQ : IntKind.u64.wrap (IntKind.u64.wrap ((Q1 : Int) * 4294967296) + (Q0 : Int)) = ((Q1 * 4294967296 + Q0 : Nat) : Int) := by
    obtain ⟨b1, b2, dy, b8, hQ1, hR1, hQ0, hR0⟩ := HN.out
    have b9 : R1 < Y := by rw [hR1]; exact Nat.mod_lt _ (by omega)
    have q1 : Q1 < 4294967296 := by rw [hQ1]; exact (Nat.div_lt_iff_lt_mul (by omega)).2 (by omega)
    have q0 : Q0 < 4294967296 := by rw [hQ0]; exact (Nat.div_lt_iff_lt_mul (by omega)).2 (by omega)
    rw [IntKind.wrap_u64, IntKind.wrap_u64]
    omega
   have eZ : IntKind.u64.wrap (IntKind.u64.wrap (IntKind.u64.wrap ((R1 : Int) * 4294967296) + (u0 : Int)) - IntKind.u64.wrap ((Q0 : Int) * (Y : Int))) = (R0 : Int) := by
    obtain ⟨b1, b2, dy, b8, hQ1, hR1, hQ0, hR0⟩ := HN.out
    have dm := Nat.div_add_mod (R1 * 4294967296 + u0) Y
    have b9 : R0 < Y := by rw [hR0]; exact Nat.mod_lt _ (by omega)
    rw [← hQ0, ← hR0, Nat.mul_comm] at dm
    rw [IntKind.wrap_u64, IntKind.wrap_u64, IntKind.wrap_u64, IntKind.wrap_u64, ← Int.natCast_mul]
    generalize Q0 * Y = Z at dm ⊢
    omega
   go_wp2
   rw [show ((Q1 : Int) * 4294967296 + (Q0 : Int)) = ((Q1 * 4294967296 + Q0 : Nat) : Int) by omega]
   go_ret2
   exact ⟨rfl, rfl⟩
end Lt
end Rg
end Go.Proofs.YtahgdighnlekdaaGreatDoor
end
section
namespace Go.Proofs.YtahgdighnlekdaaGreatDoor
open Go.RowKit
namespace Rg
namespace Lt
set_option maxHeartbeats 400000 in
theorem div64_zero (lo y : Nat) (h1 : 0 < y) (hl : lo < 18446744073709551616) (w : World) :
  Calls Tryz.prog 123 #[.int .u64 0, .int .u64 lo, .int .u64 y] w fun e w' => e = .returned (.tuple #[.int .u64 (lo / y : Nat), .int .u64 (lo % y : Nat)]) ∧ ∃ n, w' = w.drewN n := by
 have e1 : ((y : Int) == 0) = false := by simp; omega
 have e3 : (1 : Int) ≤ y := by omega
 have eq : Hid _ := quo_wrap lo y (lo / y) rfl (Nat.lt_of_le_of_lt (Nat.div_le_self _ _) hl)
 clear hl
 go_enter Tryz.func123, Tryz.ntmps123
 go_wp2
 go_quiet (fail)
 go_wp2
 rw [eq.out]
 go_ret2
 exact ⟨rfl, _, rfl⟩
theorem div64_any (hi lo y : Nat) (h1 : hi < y) (hy : y < 18446744073709551616) (hl : lo < 18446744073709551616) (w : World) :
  Calls Tryz.prog 123 #[.int .u64 hi, .int .u64 lo, .int .u64 y] w fun e w' => e = .returned (.tuple #[.int .u64 ((hi * 18446744073709551616 + lo) / y : Nat), .int .u64 ((hi * 18446744073709551616 + lo) % y : Nat)]) ∧ ∃ n, w' = w.drewN n := by
 by_cases h0 : hi = 0
 ·subst h0
  rw [Nat.zero_mul, Nat.zero_add]
  exact div64_zero lo y (by omega) hl w
 ·refine (div64_hi hi lo y h1 hy hl h0 w).mono ?_
  rintro e w' ⟨rfl, hw⟩
  exact ⟨rfl, 0, hw⟩
set_option maxHeartbeats 400000 in
theorem rem64_any (hi lo y : Nat) (h0 : 0 < y) (hy : y < 18446744073709551616) (hl : lo < 18446744073709551616) (w : World) :
  Calls Tryz.prog 106 #[.int .u64 hi, .int .u64 lo, .int .u64 y] w fun e w' => e = .returned (.int .u64 ((hi * 18446744073709551616 + lo) % y : Nat)) ∧ ∃ n, w' = w.drewN n := by
 have hc := fun w => div64_any (hi % y) lo y (Nat.mod_lt _ h0) hy hl w
 have er : (hi % y * 18446744073709551616 + lo) % y = (hi * 18446744073709551616 + lo) % y := by
  rw [Nat.add_mod, Nat.mul_mod, Nat.mod_mod, ← Nat.mul_mod, ← Nat.add_mod]
 rw [er] at hc
 generalize (hi * 18446744073709551616 + lo) % y = rr at hc ⊢
 generalize (hi % y * 18446744073709551616 + lo) / y = qq at hc
 have e3 : (1 : Int) ≤ y := by omega
 have HC : Hid _ := hc
 clear hc hl hy er h0
 go_enter Tryz.func106, Tryz.ntmps106
 go_wp2_with (go_at_call 123; refine (HC.out _).mono ?_; rintro e w' ⟨rfl, hb⟩)
 go_ret
 exact ⟨rfl, hb⟩
end Lt
end Rg
end Go.Proofs.YtahgdighnlekdaaGreatDoor
end
section
namespace Go.Proofs.YtahgdighnlekdaaGreatDoor
open Go.RowKit
namespace Rg
namespace Lt
abbrev U (n : Nat) : Value := .int .u64 (n : Int)
/-- A struct or an array, cell by cell. -/
abbrev V (l : List Value) : Value := .agg l.toArray
section
variable {ρ : Operand → Value} {o : Oper} {x y : Operand} {a b : Nat} {w : World}
theorem ex_addU (h : a + b < 18446744073709551616) (ho : o.op = .binOp .add 22 x y 22) (hx : ρ x = U a) (hy : ρ y = U b) : (execOp ρ o).run Tryz.prog w = .ok (.value (U (a + b))) w := by
 simp only [execOp, ho, hx, hy]
 clear ho hx hy
 go_simp
 rw [IntKind.wrap_u64]
 omega
theorem ex_subU (h : b ≤ a) (ha : a < 18446744073709551616) (ho : o.op = .binOp .sub 22 x y 22) (hx : ρ x = U a) (hy : ρ y = U b) : (execOp ρ o).run Tryz.prog w = .ok (.value (U (a - b))) w := by
 simp only [execOp, ho, hx, hy]
 clear ho hx hy
 go_simp
 rw [IntKind.wrap_u64]
 omega
theorem ex_mulU (h : a * b < 18446744073709551616) (ho : o.op = .binOp .mul 22 x y 22) (hx : ρ x = U a) (hy : ρ y = U b) : (execOp ρ o).run Tryz.prog w = .ok (.value (U (a * b))) w := by
 simp only [execOp, ho, hx, hy]
 clear ho hx hy
 go_simp
 rw [IntKind.wrap_u64, ← Int.natCast_mul]
 omega
theorem ex_remU (h : b ≠ 0) (ho : o.op = .binOp .rem 22 x y 22) (hx : ρ x = U a) (hy : ρ y = U b) : (execOp ρ o).run Tryz.prog w = .ok (.value (U (a % b))) w := by
 simp only [execOp, ho, hx, hy]
 clear ho hx hy
 go_simp
 rw [Int.tmod_eq_emod_of_nonneg (by omega)]
theorem ex_ltU (ho : o.op = .binOp .lss 22 x y 22) (hx : ρ x = U a) (hy : ρ y = U b) {t : Bool} (ht : decide (a < b) = t) : (execOp ρ o).run Tryz.prog w = .ok (.value (.bool t)) w := by
 subst ht
 simp only [execOp, ho, hx, hy]
 clear ho hx hy
 go_simp
theorem ex_geU (ho : o.op = .binOp .geq 22 x y 22) (hx : ρ x = U a) (hy : ρ y = U b) {t : Bool} (ht : decide (b ≤ a) = t) : (execOp ρ o).run Tryz.prog w = .ok (.value (.bool t)) w := by
 subst ht
 simp only [execOp, ho, hx, hy]
 clear ho hx hy
 go_simp
theorem ex_eqU (ho : o.op = .binOp .eql 22 x y 22) (hx : ρ x = U a) (hy : ρ y = U b) {t : Bool} (ht : decide (a = b) = t) : (execOp ρ o).run Tryz.prog w = .ok (.value (.bool t)) w := by
 subst ht
 simp only [execOp, ho, hx, hy]
 clear ho hx hy
 go_simp
 by_cases h : a = b <;> simp [h] <;> omega
theorem ex_shrU {k : Nat} (hk : k < 64) (ho : o.op = .binOp .shr 22 x y 3) (hx : ρ x = U a) (hy : ρ y = .int .i64 (k : Int)) : (execOp ρ o).run Tryz.prog w = .ok (.value (U (a / 2 ^ k))) w := by
 simp only [execOp, ho, hx, hy]
 clear ho hx hy
 have hs := shift_shr_any .u64 .i64 (a : Int) (k : Int) (by omega)
 have e : min ((k : Int).toNat) IntKind.u64.bits = k := by rw [Int.toNat_natCast]; show min k 64 = k; omega
 rw [e] at hs
 go_simp
theorem ex_and1 (ho : o.op = .binOp .and 22 x y 22) (ha : a < 18446744073709551616) (hx : ρ x = U a) (hy : ρ y = U 1) : (execOp ρ o).run Tryz.prog w = .ok (.value (U (a % 2))) w := by
 simp only [execOp, ho, hx, hy]
 clear ho hx hy
 have e := bits_and_u64_nat a 1 ha (by decide)
 rw [show a &&& 1 = a % 2 from Nat.and_one_is_mod a] at e
 go_simp
 exact e
end
end Lt
end Rg
end Go.Proofs.YtahgdighnlekdaaGreatDoor
end
