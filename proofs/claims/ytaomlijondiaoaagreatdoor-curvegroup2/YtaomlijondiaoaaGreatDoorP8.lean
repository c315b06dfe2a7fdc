/- Texts of the proof, joined. -/
import Derived.Test.YtaomlijondiaoaaGreatDoorP7
set_option maxRecDepth 100000
section
namespace Go.Proofs.YtaomlijondiaoaaGreatDoor
namespace EC
/-- A commutative ring, by its operations. -/
structure Rng (α : Type) where
 add : α → α → α
 mul : α → α → α
 zero : α
 one : α
 neg : α → α
 add_comm : ∀ a b, add a b = add b a
 add_assoc : ∀ a b c, add (add a b) c = add a (add b c)
 zero_add : ∀ a, add zero a = a
 neg_add : ∀ a, add (neg a) a = zero
 mul_comm : ∀ a b, mul a b = mul b a
 mul_assoc : ∀ a b c, mul (mul a b) c = mul a (mul b c)
 one_mul : ∀ a, mul one a = a
 mul_add : ∀ a b c, mul a (add b c) = add (mul a b) (mul a c)
section
variable {α : Type} (R : Rng α)
theorem Rng.add_zero (a : α) : R.add a R.zero = a := by rw [R.add_comm, R.zero_add]
theorem Rng.add_neg (a : α) : R.add a (R.neg a) = R.zero := by rw [R.add_comm, R.neg_add]
theorem Rng.left_comm (a b c : α) : R.add a (R.add b c) = R.add b (R.add a c) := by rw [← R.add_assoc, R.add_comm a b, R.add_assoc]
theorem Rng.cancel {a b c : α} (h : R.add a b = R.add a c) : b = c := by
 have h2 := congrArg (R.add (R.neg a)) h
 rw [← R.add_assoc, ← R.add_assoc, R.neg_add, R.zero_add, R.zero_add] at h2
 exact h2
theorem Rng.mul_zero (a : α) : R.mul a R.zero = R.zero := by
 refine R.cancel (a := R.mul a R.zero) ?_
 rw [← R.mul_add, R.zero_add, R.add_zero]
theorem Rng.zero_mul (a : α) : R.mul R.zero a = R.zero := by rw [R.mul_comm, R.mul_zero]
theorem Rng.add_mul (a b c : α) : R.mul (R.add a b) c = R.add (R.mul a c) (R.mul b c) := by
 rw [R.mul_comm, R.mul_add, R.mul_comm c, R.mul_comm c]
theorem Rng.neg_eq {a b : α} (h : R.add a b = R.zero) : b = R.neg a := by
 refine R.cancel (a := a) ?_
 rw [h, R.add_neg]
theorem Rng.mul_neg (a b : α) : R.mul a (R.neg b) = R.neg (R.mul a b) := by
 refine R.neg_eq ?_
 rw [← R.mul_add, R.add_neg, R.mul_zero]
theorem Rng.neg_zero : R.neg R.zero = R.zero := by
 have h := R.add_neg R.zero
 rw [R.zero_add] at h
 exact h
theorem Rng.neg_add_rev (a b : α) : R.neg (R.add a b) = R.add (R.neg a) (R.neg b) := by
 symm
 refine R.neg_eq ?_
 rw [R.add_assoc, R.left_comm b, ← R.add_assoc, R.add_neg, R.zero_add, R.add_neg]
theorem Rng.four (a b c d : α) : R.add (R.add a b) (R.add c d) = R.add (R.add a c) (R.add b d) := by
 rw [R.add_assoc, R.left_comm b, ← R.add_assoc]
theorem Rng.mul_left_comm (a b c : α) : R.mul a (R.mul b c) = R.mul b (R.mul a c) := by rw [← R.mul_assoc, R.mul_comm a b, R.mul_assoc]
end
/-- What is calculated with. -/
structure Ops (β : Type _) where
 add : β → β → β
 mul : β → β → β
 zero : β
 neg : β → β
 isz : β → Bool
structure Sound {α β : Type} (R : Rng α) (O : Ops β) (ev : β → α) : Prop where
 add : ∀ a b, ev (O.add a b) = R.add (ev a) (ev b)
 mul : ∀ a b, ev (O.mul a b) = R.mul (ev a) (ev b)
 zero : ev O.zero = R.zero
 neg : ∀ a, ev (O.neg a) = R.neg (ev a)
 isz : ∀ a, O.isz a = true → ev a = R.zero
/-! Lists of coefficients: the lowest first. -/
section
variable {α β : Type} (R : Rng α) (O : Ops β)
def ladd : List β → List β → List β
 | [], q => q
 | a :: p, [] => a :: p
 | a :: p, b :: q => O.add a b :: ladd p q
def lsc (c : β) (q : List β) : List β := q.map (O.mul c)
def lmul : List β → List β → List β
 | [], _ => []
 | a :: p, q => if O.isz a then O.zero :: lmul p q else ladd O (lsc O a q) (O.zero :: lmul p q)
def lops : Ops (List β) where
 add := ladd O
 mul := lmul O
 zero := []
 neg := fun p => p.map O.neg
 isz := fun p => p.all O.isz
def lev (ev : β → α) (x : α) : List β → α
 | [] => R.zero
 | a :: p => R.add (ev a) (R.mul x (lev ev x p))
variable {R O} {ev : β → α}
theorem lev_add (S : Sound R O ev) (x : α) : ∀ p q, lev R ev x (ladd O p q) = R.add (lev R ev x p) (lev R ev x q)
 | [], q => (R.zero_add _).symm
 | a :: p, [] => (R.add_zero _).symm
 | a :: p, b :: q => by
  show R.add (ev (O.add a b)) (R.mul x (lev R ev x (ladd O p q))) = R.add (R.add (ev a) (R.mul x (lev R ev x p))) (R.add (ev b) (R.mul x (lev R ev x q)))
  rw [lev_add S x p q, S.add, R.mul_add, R.four]
theorem lev_sc (S : Sound R O ev) (x : α) (c : β) : ∀ q, lev R ev x (lsc O c q) = R.mul (ev c) (lev R ev x q)
 | [] => (R.mul_zero _).symm
 | b :: q => by
  show R.add (ev (O.mul c b)) (R.mul x (lev R ev x (lsc O c q))) = R.mul (ev c) (R.add (ev b) (R.mul x (lev R ev x q)))
  rw [lev_sc S x c q, S.mul, R.mul_add, R.mul_left_comm x]
theorem lev_mul (S : Sound R O ev) (x : α) : ∀ p q, lev R ev x (lmul O p q) = R.mul (lev R ev x p) (lev R ev x q)
 | [], q => (R.zero_mul _).symm
 | a :: p, q => by
  have hz : lev R ev x (O.zero :: lmul O p q) = R.mul x (R.mul (lev R ev x p) (lev R ev x q)) := by
   show R.add (ev O.zero) (R.mul x (lev R ev x (lmul O p q))) = _
   rw [S.zero, R.zero_add, lev_mul S x p q]
  have hg : R.mul (lev R ev x (a :: p)) (lev R ev x q) = R.add (R.mul (ev a) (lev R ev x q)) (R.mul x (R.mul (lev R ev x p) (lev R ev x q))) := by
   show R.mul (R.add (ev a) (R.mul x (lev R ev x p))) (lev R ev x q) = _
   rw [R.add_mul, R.mul_assoc]
  rw [hg]
  unfold lmul
  split
  ·next h =>
   rw [S.isz a h, R.zero_mul, R.zero_add, hz]
  ·rw [lev_add S x, lev_sc S x, hz]
theorem lops_sound (S : Sound R O ev) (x : α) : Sound R (lops O) (lev R ev x) where
 add := lev_add S x
 mul := lev_mul S x
 zero := rfl
 neg := fun p => by
  show lev R ev x (p.map O.neg) = _
  induction p with
  | nil => exact R.neg_zero.symm
  | cons a p ih =>
   show R.add (ev (O.neg a)) (R.mul x (lev R ev x (p.map O.neg))) = R.neg (R.add (ev a) (R.mul x (lev R ev x p)))
   rw [ih, S.neg, R.mul_neg, R.neg_add_rev]
 isz := fun p h => by
  have h' : p.all O.isz = true := h
  clear h
  induction p with
  | nil => rfl
  | cons a p ih =>
   simp only [List.all_cons, Bool.and_eq_true] at h'
   show R.add (ev a) (R.mul x (lev R ev x p)) = R.zero
   rw [S.isz a h'.1, ih h'.2, R.mul_zero, R.zero_add]
end
/-! Roots: u + v y, y y being d. -/
section
variable {α β : Type} (R : Rng α) (O : Ops β)
def xops (d : β) : Ops (β × β) where
 add := fun a b => (O.add a.1 b.1, O.add a.2 b.2)
 mul := fun a b => (O.add (O.mul a.1 b.1) (O.mul d (O.mul a.2 b.2)), O.add (O.mul a.1 b.2) (O.mul a.2 b.1))
 zero := (O.zero, O.zero)
 neg := fun a => (O.neg a.1, O.neg a.2)
 isz := fun a => O.isz a.1 && O.isz a.2
def xev (ev : β → α) (y : α) (a : β × β) : α := R.add (ev a.1) (R.mul y (ev a.2))
theorem xops_sound {R} {O} {ev : β → α} (S : Sound R O ev) {d : β} {y : α} (hy : R.mul y y = ev d) : Sound R (xops O d) (xev R ev y) where
 add := fun a b => by
  show R.add (ev (O.add a.1 b.1)) (R.mul y (ev (O.add a.2 b.2))) = R.add (R.add (ev a.1) (R.mul y (ev a.2))) (R.add (ev b.1) (R.mul y (ev b.2)))
  rw [S.add, S.add, R.mul_add, R.four]
 mul := fun a b => by
  show R.add (ev (O.add (O.mul a.1 b.1) (O.mul d (O.mul a.2 b.2)))) (R.mul y (ev (O.add (O.mul a.1 b.2) (O.mul a.2 b.1)))) = R.mul (R.add (ev a.1) (R.mul y (ev a.2))) (R.add (ev b.1) (R.mul y (ev b.2)))
  rw [S.add, S.add, S.mul, S.mul, S.mul, S.mul, S.mul, ← hy]
  rw [R.add_mul, R.mul_add, R.mul_add, R.mul_add]
  have e1 : R.mul (R.mul y (ev a.2)) (R.mul y (ev b.2)) = R.mul (R.mul y y) (R.mul (ev a.2) (ev b.2)) := by
   rw [R.mul_assoc, R.mul_assoc, R.mul_left_comm (ev a.2)]
  have e2 : R.mul (R.mul y (ev a.2)) (ev b.1) = R.mul y (R.mul (ev a.2) (ev b.1)) := R.mul_assoc _ _ _
  have e3 : R.mul (ev a.1) (R.mul y (ev b.2)) = R.mul y (R.mul (ev a.1) (ev b.2)) := R.mul_left_comm _ _ _
  rw [e1, e2, e3]
  rw [R.add_comm (R.mul y (R.mul (ev a.2) (ev b.1))), R.four]
 zero := by
  show R.add (ev O.zero) (R.mul y (ev O.zero)) = R.zero
  rw [S.zero, R.mul_zero, R.zero_add]
 neg := fun a => by
  show R.add (ev (O.neg a.1)) (R.mul y (ev (O.neg a.2))) = R.neg (R.add (ev a.1) (R.mul y (ev a.2)))
  rw [S.neg, S.neg, R.mul_neg, R.neg_add_rev]
 isz := fun a h => by
  have h' : (O.isz a.1 && O.isz a.2) = true := h
  simp only [Bool.and_eq_true] at h'
  show R.add (ev a.1) (R.mul y (ev a.2)) = R.zero
  rw [S.isz _ h'.1, S.isz _ h'.2, R.mul_zero, R.zero_add]
end
/-! Integers. -/
section
variable {α : Type} (R : Rng α)
def nc : Nat → α
 | 0 => R.zero
 | n + 1 => R.add R.one (nc n)
def ic : Int → α
 | .ofNat n => nc R n
 | .negSucc n => R.neg (nc R (n + 1))
theorem nc_add (m : Nat) : ∀ n, nc R (n + m) = R.add (nc R n) (nc R m)
 | 0 => by rw [Nat.zero_add]; exact (R.zero_add _).symm
 | n + 1 => by
  rw [Nat.succ_add]
  show R.add R.one (nc R (n + m)) = R.add (R.add R.one (nc R n)) (nc R m)
  rw [nc_add m n, R.add_assoc]
theorem nc_mul (m : Nat) : ∀ n, nc R (n * m) = R.mul (nc R n) (nc R m)
 | 0 => by rw [Nat.zero_mul]; exact (R.zero_mul _).symm
 | n + 1 => by
  rw [Nat.succ_mul, nc_add, nc_mul m n]
  show _ = R.mul (R.add R.one (nc R n)) (nc R m)
  rw [R.add_mul, R.one_mul, R.add_comm]
theorem ic_sub (m n : Nat) : ic R ((m : Int) - (n : Int)) = R.add (nc R m) (R.neg (nc R n)) := by
 rcases Nat.le_total n m with h | h
 ·obtain ⟨k, rfl⟩ := Nat.exists_eq_add_of_le h
  rw [show ((n + k : Nat) : Int) - (n : Int) = ((k : Nat) : Int) by omega]
  show nc R k = _
  rw [nc_add, R.add_comm (nc R n), R.add_assoc, R.add_neg, R.add_zero]
 ·obtain ⟨k, rfl⟩ := Nat.exists_eq_add_of_le h
  rw [show (m : Int) - ((m + k : Nat) : Int) = -((k : Nat) : Int) by omega]
  have e : ic R (-((k : Nat) : Int)) = R.neg (nc R k) := by
   cases k with
   | zero => exact R.neg_zero.symm
   | succ k => rfl
  rw [e, nc_add, R.neg_add_rev, ← R.add_assoc, R.add_neg, R.zero_add]
theorem int_sub (a : Int) : ∃ m n : Nat, a = (m : Int) - (n : Int) := by
 cases a with
 | ofNat n => exact ⟨n, 0, by simp⟩
 | negSucc n => exact ⟨0, n + 1, by omega⟩
theorem Rng.neg_neg (a : α) : R.neg (R.neg a) = a := (R.neg_eq (R.neg_add a)).symm
theorem ic_add (a b : Int) : ic R (a + b) = R.add (ic R a) (ic R b) := by
 obtain ⟨m, n, rfl⟩ := int_sub a
 obtain ⟨k, l, rfl⟩ := int_sub b
 rw [show (m : Int) - (n : Int) + ((k : Int) - (l : Int)) = ((m + k : Nat) : Int) - ((n + l : Nat) : Int) by omega, ic_sub, ic_sub, ic_sub, nc_add, nc_add, R.neg_add_rev, R.four]
theorem ic_neg (a : Int) : ic R (-a) = R.neg (ic R a) := by
 obtain ⟨m, n, rfl⟩ := int_sub a
 rw [show -((m : Int) - (n : Int)) = (n : Int) - (m : Int) by omega, ic_sub, ic_sub, R.neg_add_rev, R.neg_neg, R.add_comm]
theorem ic_mul (a b : Int) : ic R (a * b) = R.mul (ic R a) (ic R b) := by
 obtain ⟨m, n, rfl⟩ := int_sub a
 obtain ⟨k, l, rfl⟩ := int_sub b
 have e : ((m : Int) - (n : Int)) * ((k : Int) - (l : Int)) = ((m * k + n * l : Nat) : Int) - ((m * l + n * k : Nat) : Int) := by
  rw [Int.natCast_add, Int.natCast_add, Int.natCast_mul, Int.natCast_mul, Int.natCast_mul, Int.natCast_mul]
  grind
 have nm : ∀ x y, R.mul (R.neg x) y = R.neg (R.mul x y) := fun x y => by rw [R.mul_comm, R.mul_neg, R.mul_comm]
 rw [e, ic_sub, ic_sub, ic_sub, nc_add, nc_add, nc_mul, nc_mul, nc_mul, nc_mul, R.add_mul, R.mul_add, R.mul_add, R.mul_neg, nm, nm, R.mul_neg, R.neg_neg, R.neg_add_rev]
 rw [R.four, R.add_comm (R.mul (nc R n) (nc R l))]
def iops : Ops Int where
 add := Int.add
 mul := Int.mul
 zero := 0
 neg := Int.neg
 isz := fun a => a == 0
theorem iops_sound : Sound R iops (ic R) where
 add := ic_add R
 mul := ic_mul R
 zero := rfl
 neg := ic_neg R
 isz := fun a h => by
  have : a = 0 := by simpa [iops] using h
  rw [this]
  rfl
end
/-! The curve's sum by three numbers. -/
section
variable {β : Type _} (O : Ops β)
abbrev Tri (β : Type _) := β × β × β
def osub (a b : β) : β := O.add a (O.neg b)
def o3 (a : β) : β := O.add (O.add a a) a
def tog (b : β) (p q : Tri β) : Tri β :=
 let xx := O.mul p.1 q.1
 let yy := O.mul p.2.1 q.2.1
 let zz := O.mul p.2.2 q.2.2
 let xy := O.add (O.mul p.1 q.2.1) (O.mul p.2.1 q.1)
 let yz := O.add (O.mul p.2.1 q.2.2) (O.mul p.2.2 q.2.1)
 let xz := O.add (O.mul p.1 q.2.2) (O.mul p.2.2 q.1)
 let xx3 := o3 O xx
 let xz3 := o3 O (O.mul b xz)
 let zz3 := o3 O (O.mul b zz)
 let less := osub O yy zz3
 let more := O.add yy zz3
 (osub O (O.mul less xy) (O.mul yz xz3), O.add (O.mul less more) (O.mul xx3 xz3), O.add (O.mul more yz) (O.mul xx3 xy))
end
abbrev P1 := List Int
abbrev P2 := List P1
abbrev P3 := List P2
abbrev P4 := List P3
def o1 := lops iops
def o2 := lops o1
def o3_ := lops o2
def o4 := lops o3_
/-- b; the three x; what their y y are. -/
def cb : P4 := [[[[0, 1]]]]
def cx1 : P4 := [[[[], [1]]]]
def cx2 : P4 := [[[], [[1]]]]
def cx3 : P4 := [[], [[[1]]]]
def c1 : P4 := [[[[1]]]]
def cd (x : P4) : P4 := o4.add (o4.mul x (o4.mul x x)) cb
def e1 := xops o4 (cd cx1)
def e2 := xops e1 (cd cx2, [])
def e3 := xops e2 ((cd cx3, []), ([], []))
abbrev El := ((P4 × P4) × (P4 × P4)) × ((P4 × P4) × (P4 × P4))
def up (p : P4) : El := (((p, []), ([], [])), (([], []), ([], [])))
def y1_ : El := ((([], c1), ([], [])), (([], []), ([], [])))
def y2_ : El := ((([], []), (c1, [])), (([], []), ([], [])))
def y3_ : El := ((([], []), ([], [])), ((c1, []), ([], [])))
def A : Tri El := (up cx1, y1_, up c1)
def B : Tri El := (up cx2, y2_, up c1)
def C : Tri El := (up cx3, y3_, up c1)
def LL : Tri El := tog e3 (up cb) (tog e3 (up cb) A B) C
def RR : Tri El := tog e3 (up cb) A (tog e3 (up cb) B C)
def l1 : El := ((([], [[[[], [0, 0, 0, 0, -32], [], [], [0, 0, 0, 4]], [[0, 0, 0, 0, -96], [], [], [0, 0, 0, 48]], [[], [], [0, 0, 0, 144]], [[], [0, 0, 0, 128], [], [], [0, 0, 2]], [[0, 0, 0, 12], [], [], [0, 0, -6]], [[], [], [0, 0, -18]], [[], [0, 0, -2], [], [], [0, -2]]], [[[0, 0, 0, 0, 192], [], [], [0, 0, 0, -24]], [[], [], [0, 0, 0, -216]], [[], [0, 0, 0, -72], [], [], [0, 0, -18]], [[0, 0, 0, 24], [], [], [0, 0, -192]], [[], [], [0, 0, -216]], [[], [0, 0, -72], [], [], [0, -18]], [[0, 0, -6], [], [], [0, -6]]], [], [[[], [0, 0, 0, 16], [], [], [0, 0, -2]], [[0, 0, 0, 48], [], [], [0, 0, -24]], [[], [], [0, 0, -72]], [[], [0, 0, -64], [], [], [0, -1]], [[0, 0, -6], [], [], [0, 3]], [[], [], [0, 9]], [[], [0, 1], [], [], [1]]]]), ([[[[], [0, 0, 0, 0, -96], [], [], [0, 0, 0, 12]], [[0, 0, 0, 0, -32], [], [], [0, 0, 0, 128], [], [], [0, 0, -2]], [[], [], [0, 0, 0, 144], [], [], [0, 0, -18]], [[], [0, 0, 0, 48], [], [], [0, 0, -6]], [[0, 0, 0, 4], [], [], [0, 0, 2], [], [], [0, -2]]], [[[0, 0, 0, 0, 192], [], [], [0, 0, 0, 24], [], [], [0, 0, -6]], [[], [], [0, 0, 0, -72], [], [], [0, 0, -72]], [[], [0, 0, 0, -216], [], [], [0, 0, -216]], [[0, 0, 0, -24], [], [], [0, 0, -192], [], [], [0, -6]], [[], [], [0, 0, -18], [], [], [0, -18]]], [], [[[], [0, 0, 0, 48], [], [], [0, 0, -6]], [[0, 0, 0, 16], [], [], [0, 0, -64], [], [], [0, 1]], [[], [], [0, 0, -72], [], [], [0, 9]], [[], [0, 0, -24], [], [], [0, 3]], [[0, 0, -2], [], [], [0, -1], [], [], [1]]]], [])), (([[[[], [0, 0, 0, 0, 192], [], [], [0, 0, 0, 84]], [[0, 0, 0, 0, 192], [], [], [0, 0, 0, 240], [], [], [0, 0, -6]], [[], [], [0, 0, 0, 72], [], [], [0, 0, 18]], [[], [0, 0, 0, 240], [], [], [0, 0, 132]], [[0, 0, 0, 84], [], [], [0, 0, 132], [], [], [0, -6]], [[], [], [0, 0, 18], [], [], [0, -36]], [[], [0, 0, -6], [], [], [0, -6]]], [[[0, 0, 0, 0, -32], [], [], [0, 0, 0, -88], [], [], [0, 0, -2]], [[], [], [0, 0, 0, -216]], [[], [0, 0, 0, -216]], [[0, 0, 0, -88], [], [], [0, 0, 100], [], [], [0, -1]], [[], [], [], [], [], [0, -27]], [[], [], [], [], [0, -27]], [[0, 0, -2], [], [], [0, -1], [], [], [1]]]], []), ([], [[[[], [0, 0, 0, 192], [], [], [0, 0, 12]], [[0, 0, 0, 192], [], [], [0, 0, 48]], [[], [], [0, 0, 216]], [[], [0, 0, 48], [], [], [0, -24]], [[0, 0, 12], [], [], [0, -24]]], [[[0, 0, 0, -96], [], [], [0, 0, -24]], [[], [], [0, 0, -72]], [[], [0, 0, -72], [], [], [0, -18]], [[0, 0, -24], [], [], [0, -60]], [[], [], [0, -18]]]])))
def l2 : El := ((([[[[0, 0, 0, 0, 0, -224], [], [], [0, 0, 0, 0, -232], [], [], [0, 0, 0, -8]], [[], [], [0, 0, 0, 0, -360], [], [], [0, 0, 0, -36]], [[], [0, 0, 0, 0, -360], [], [], [0, 0, 0, -198]], [[0, 0, 0, 0, -232], [], [], [0, 0, 0, 4], [], [], [0, 0, -7]], [[], [], [0, 0, 0, -198], [], [], [0, 0, -117]], [[], [0, 0, 0, -36], [], [], [0, 0, -117]], [[0, 0, 0, -8], [], [], [0, 0, -7], [], [], [0, 1]]], [[[], [], [0, 0, 0, 0, 360], [], [], [0, 0, 0, 36]], [[], [0, 0, 0, 0, 432], [], [], [0, 0, 0, 108]], [[0, 0, 0, 0, 360], [], [], [0, 0, 0, 288], [], [], [0, 0, 9]], [[], [], [0, 0, 0, 288], [], [], [0, 0, -36]], [[], [0, 0, 0, 108], [], [], [0, 0, -216]], [[0, 0, 0, 36], [], [], [0, 0, -36], [], [], [0, 9]], [[], [], [0, 0, 9], [], [], [0, 9]]], [[[], [0, 0, 0, 0, -288], [], [], [0, 0, 0, -126]], [[0, 0, 0, 0, -288], [], [], [0, 0, 0, -360], [], [], [0, 0, 9]], [[], [], [0, 0, 0, -108], [], [], [0, 0, -27]], [[], [0, 0, 0, -360], [], [], [0, 0, -198]], [[0, 0, 0, -126], [], [], [0, 0, -198], [], [], [0, 9]], [[], [], [0, 0, -27], [], [], [0, 54]], [[], [0, 0, 9], [], [], [0, 9]]], [[[0, 0, 0, 0, 64], [], [], [0, 0, 0, -16], [], [], [0, 0, 1]], [[], [], [0, 0, 0, -144], [], [], [0, 0, 18]], [[], [0, 0, 0, -144], [], [], [0, 0, 99]], [[0, 0, 0, -16], [], [], [0, 0, 148], [], [], [0, 2]], [[], [], [0, 0, 99], [], [], [0, 18]], [[], [0, 0, 18], [], [], [0, 18]], [[0, 0, 1], [], [], [0, 2], [], [], [1]]]], []), ([], [[[[0, 0, 0, 0, -288], [], [], [0, 0, 0, -72]], [[], [], [0, 0, 0, -216]], [[], [0, 0, 0, -216], [], [], [0, 0, -54]], [[0, 0, 0, -72], [], [], [0, 0, -180]], [[], [], [0, 0, -54]]], [[[], [], [0, 0, 0, 216]], [[], [0, 0, 0, 720], [], [], [0, 0, -36]], [[0, 0, 0, 216], [], [], [0, 0, -108]], [[], [], [0, 0, -108]], [[], [0, 0, -36], [], [], [0, 18]]], [[[], [0, 0, 0, -288], [], [], [0, 0, -18]], [[0, 0, 0, -288], [], [], [0, 0, -72]], [[], [], [0, 0, -324]], [[], [0, 0, -72], [], [], [0, 36]], [[0, 0, -18], [], [], [0, 36]]]])), (([], []), ([], [])))
def l3 : El := ((([], [[[[0, 0, 0, 0, -128], [], [], [0, 0, 0, 16]], [[], [], [0, 0, 0, 144]], [[], [0, 0, 0, 48], [], [], [0, 0, 12]], [[0, 0, 0, -16], [], [], [0, 0, 128]], [[], [], [0, 0, 144]], [[], [0, 0, 48], [], [], [0, 12]], [[0, 0, 4], [], [], [0, 4]]], [], [[[], [0, 0, 0, 48], [], [], [0, 0, -6]], [[0, 0, 0, 144], [], [], [0, 0, -72]], [[], [], [0, 0, -216]], [[], [0, 0, -192], [], [], [0, -3]], [[0, 0, -18], [], [], [0, 9]], [[], [], [0, 27]], [[], [0, 3], [], [], [3]]], [[[0, 0, 0, -32], [], [], [0, 0, 4]], [[], [], [0, 0, 36]], [[], [0, 0, 12], [], [], [0, 3]], [[0, 0, -4], [], [], [0, 32]], [[], [], [0, 36]], [[], [0, 12], [], [], [3]], [[0, 1], [], [], [1]]]]), ([[[[0, 0, 0, 0, -128], [], [], [0, 0, 0, -16], [], [], [0, 0, 4]], [[], [], [0, 0, 0, 48], [], [], [0, 0, 48]], [[], [0, 0, 0, 144], [], [], [0, 0, 144]], [[0, 0, 0, 16], [], [], [0, 0, 128], [], [], [0, 4]], [[], [], [0, 0, 12], [], [], [0, 12]]], [], [[[], [0, 0, 0, 144], [], [], [0, 0, -18]], [[0, 0, 0, 48], [], [], [0, 0, -192], [], [], [0, 3]], [[], [], [0, 0, -216], [], [], [0, 27]], [[], [0, 0, -72], [], [], [0, 9]], [[0, 0, -6], [], [], [0, -3], [], [], [3]]], [[[0, 0, 0, -32], [], [], [0, 0, -4], [], [], [0, 1]], [[], [], [0, 0, 12], [], [], [0, 12]], [[], [0, 0, 36], [], [], [0, 36]], [[0, 0, 4], [], [], [0, 32], [], [], [1]], [[], [], [0, 3], [], [], [3]]]], [])), (([[[[0, 0, 0, 0, 160], [], [], [0, 0, 0, 56], [], [], [0, 0, 4]], [[], [], [0, 0, 0, -72], [], [], [0, 0, 36]], [[], [0, 0, 0, -72], [], [], [0, 0, 198]], [[0, 0, 0, 56], [], [], [0, 0, 196], [], [], [0, 5]], [[], [], [0, 0, 198], [], [], [0, 63]], [[], [0, 0, 36], [], [], [0, 63]], [[0, 0, 4], [], [], [0, 5], [], [], [1]]], [[[], [], [0, 0, 0, 120], [], [], [0, 0, 12]], [[], [0, 0, 0, 144], [], [], [0, 0, 36]], [[0, 0, 0, 120], [], [], [0, 0, 96], [], [], [0, 3]], [[], [], [0, 0, 96], [], [], [0, -12]], [[], [0, 0, 36], [], [], [0, -72]], [[0, 0, 12], [], [], [0, -12], [], [], [3]], [[], [], [0, 3], [], [], [3]]]], []), ([], [[[[0, 0, 0, 96], [], [], [0, 0, 24]], [[], [], [0, 0, 72]], [[], [0, 0, 72], [], [], [0, 18]], [[0, 0, 24], [], [], [0, 60]], [[], [], [0, 18]]], [[[], [], [0, 0, 72]], [[], [0, 0, 240], [], [], [0, -12]], [[0, 0, 72], [], [], [0, -36]], [[], [], [0, -36]], [[], [0, -12], [], [], [6]]]])))
def r1 : El := ((([], [[[[], [0, 0, 0, 0, -32]], [[0, 0, 0, 0, 192]], [], [[], [0, 0, 0, -88]], [[0, 0, 0, 84]], [], [[], [0, 0, -2]]], [[[0, 0, 0, 0, 192]], [], [[], [0, 0, 0, -216]], [[0, 0, 0, 240]], [], [], [[0, 0, -6]]], [[], [[], [0, 0, 0, -216]], [[0, 0, 0, 72]], [], [], [[0, 0, 18]]], [[[], [0, 0, 0, -88]], [[0, 0, 0, 240]], [], [[], [0, 0, 100]], [[0, 0, 132]], [], [[], [0, -1]]], [[[0, 0, 0, 84]], [], [], [[0, 0, 132]], [], [[], [0, -27]], [[0, -6]]], [[], [], [[0, 0, 18]], [], [[], [0, -27]], [[0, -36]]], [[[], [0, 0, -2]], [[0, 0, -6]], [], [[], [0, -1]], [[0, -6]], [], [[], [1]]]]), ([[[[], [0, 0, 0, 0, 192]], [[0, 0, 0, 0, -32], [], [], [0, 0, 0, 16]], [], [[], [0, 0, 0, -24]], [[0, 0, 0, 4], [], [], [0, 0, -2]]], [[[0, 0, 0, 0, -96], [], [], [0, 0, 0, 48]], [], [[], [0, 0, 0, -216]], [[0, 0, 0, 48], [], [], [0, 0, -24]]], [[], [[], [0, 0, 0, -72]], [[0, 0, 0, 144], [], [], [0, 0, -72]], [], [[], [0, 0, -18]]], [[[], [0, 0, 0, 24]], [[0, 0, 0, 128], [], [], [0, 0, -64]], [], [[], [0, 0, -192]], [[0, 0, 2], [], [], [0, -1]]], [[[0, 0, 0, 12], [], [], [0, 0, -6]], [], [[], [0, 0, -216]], [[0, 0, -6], [], [], [0, 3]]], [[], [[], [0, 0, -72]], [[0, 0, -18], [], [], [0, 9]], [], [[], [0, -18]]], [[[], [0, 0, -6]], [[0, 0, -2], [], [], [0, 1]], [], [[], [0, -6]], [[0, -2], [], [], [1]]]], [])), (([[[[], [0, 0, 0, 0, 192]], [[0, 0, 0, 0, -96], [], [], [0, 0, 0, 48]], [], [[], [0, 0, 0, 24]], [[0, 0, 0, 12], [], [], [0, 0, -6]], [], [[], [0, 0, -6]]], [[[0, 0, 0, 0, -32], [], [], [0, 0, 0, 16]], [], [[], [0, 0, 0, -72]], [[0, 0, 0, 128], [], [], [0, 0, -64]], [], [[], [0, 0, -72]], [[0, 0, -2], [], [], [0, 1]]], [[], [[], [0, 0, 0, -216]], [[0, 0, 0, 144], [], [], [0, 0, -72]], [], [[], [0, 0, -216]], [[0, 0, -18], [], [], [0, 9]]], [[[], [0, 0, 0, -24]], [[0, 0, 0, 48], [], [], [0, 0, -24]], [], [[], [0, 0, -192]], [[0, 0, -6], [], [], [0, 3]], [], [[], [0, -6]]], [[[0, 0, 0, 4], [], [], [0, 0, -2]], [], [[], [0, 0, -18]], [[0, 0, 2], [], [], [0, -1]], [], [[], [0, -18]], [[0, -2], [], [], [1]]]], []), ([], [[[[], [0, 0, 0, -96]], [[0, 0, 0, 192]], [], [[], [0, 0, -24]], [[0, 0, 12]]], [[[0, 0, 0, 192]], [], [[], [0, 0, -72]], [[0, 0, 48]]], [[], [[], [0, 0, -72]], [[0, 0, 216]], [], [[], [0, -18]]], [[[], [0, 0, -24]], [[0, 0, 48]], [], [[], [0, -60]], [[0, -24]]], [[[0, 0, 12]], [], [[], [0, -18]], [[0, -24]]]])))
def r2 : El := ((([[[[0, 0, 0, 0, 0, -224], [], [], [0, 0, 0, 0, 64]], [[], [], [0, 0, 0, 0, -288]], [[], [0, 0, 0, 0, 360]], [[0, 0, 0, 0, -232], [], [], [0, 0, 0, -16]], [[], [], [0, 0, 0, -126]], [[], [0, 0, 0, 36]], [[0, 0, 0, -8], [], [], [0, 0, 1]]], [[[], [], [0, 0, 0, 0, -288]], [[], [0, 0, 0, 0, 432]], [[0, 0, 0, 0, -360], [], [], [0, 0, 0, -144]], [[], [], [0, 0, 0, -360]], [[], [0, 0, 0, 108]], [[0, 0, 0, -36], [], [], [0, 0, 18]], [[], [], [0, 0, 9]]], [[[], [0, 0, 0, 0, 360]], [[0, 0, 0, 0, -360], [], [], [0, 0, 0, -144]], [[], [], [0, 0, 0, -108]], [[], [0, 0, 0, 288]], [[0, 0, 0, -198], [], [], [0, 0, 99]], [[], [], [0, 0, -27]], [[], [0, 0, 9]]], [[[0, 0, 0, 0, -232], [], [], [0, 0, 0, -16]], [[], [], [0, 0, 0, -360]], [[], [0, 0, 0, 288]], [[0, 0, 0, 4], [], [], [0, 0, 148]], [[], [], [0, 0, -198]], [[], [0, 0, -36]], [[0, 0, -7], [], [], [0, 2]]], [[[], [], [0, 0, 0, -126]], [[], [0, 0, 0, 108]], [[0, 0, 0, -198], [], [], [0, 0, 99]], [[], [], [0, 0, -198]], [[], [0, 0, -216]], [[0, 0, -117], [], [], [0, 18]], [[], [], [0, 9]]], [[[], [0, 0, 0, 36]], [[0, 0, 0, -36], [], [], [0, 0, 18]], [[], [], [0, 0, -27]], [[], [0, 0, -36]], [[0, 0, -117], [], [], [0, 18]], [[], [], [0, 54]], [[], [0, 9]]], [[[0, 0, 0, -8], [], [], [0, 0, 1]], [[], [], [0, 0, 9]], [[], [0, 0, 9]], [[0, 0, -7], [], [], [0, 2]], [[], [], [0, 9]], [[], [0, 9]], [[0, 1], [], [], [1]]]], []), ([], [])), (([], []), ([[[[0, 0, 0, 0, -288]], [[], [], [0, 0, 0, -288]], [[], [0, 0, 0, 216]], [[0, 0, 0, -72]], [[], [], [0, 0, -18]]], [[[], [], [0, 0, 0, -288]], [[], [0, 0, 0, 720]], [[0, 0, 0, -216]], [[], [], [0, 0, -72]], [[], [0, 0, -36]]], [[[], [0, 0, 0, 216]], [[0, 0, 0, -216]], [[], [], [0, 0, -324]], [[], [0, 0, -108]], [[0, 0, -54]]], [[[0, 0, 0, -72]], [[], [], [0, 0, -72]], [[], [0, 0, -108]], [[0, 0, -180]], [[], [], [0, 36]]], [[[], [], [0, 0, -18]], [[], [0, 0, -36]], [[0, 0, -54]], [[], [], [0, 36]], [[], [0, 18]]]], [])))
def r3 : El := ((([], [[[[0, 0, 0, 0, 160]], [], [[], [0, 0, 0, 120]], [[0, 0, 0, 56]], [], [[], [0, 0, 12]], [[0, 0, 4]]], [[], [[], [0, 0, 0, 144]], [[0, 0, 0, -72]], [], [[], [0, 0, 36]], [[0, 0, 36]]], [[[], [0, 0, 0, 120]], [[0, 0, 0, -72]], [], [[], [0, 0, 96]], [[0, 0, 198]], [], [[], [0, 3]]], [[[0, 0, 0, 56]], [], [[], [0, 0, 96]], [[0, 0, 196]], [], [[], [0, -12]], [[0, 5]]], [[], [[], [0, 0, 36]], [[0, 0, 198]], [], [[], [0, -72]], [[0, 63]]], [[[], [0, 0, 12]], [[0, 0, 36]], [], [[], [0, -12]], [[0, 63]], [], [[], [3]]], [[[0, 0, 4]], [], [[], [0, 3]], [[0, 5]], [], [[], [3]], [[1]]]]), ([[[[0, 0, 0, 0, -128], [], [], [0, 0, 0, -32]], [[], [], [0, 0, 0, 48]], [], [[0, 0, 0, 16], [], [], [0, 0, 4]], [[], [], [0, 0, -6]]], [[[], [], [0, 0, 0, 144]], [], [[0, 0, 0, 144], [], [], [0, 0, 36]], [[], [], [0, 0, -72]]], [[], [[0, 0, 0, 48], [], [], [0, 0, 12]], [[], [], [0, 0, -216]], [], [[0, 0, 12], [], [], [0, 3]]], [[[0, 0, 0, -16], [], [], [0, 0, -4]], [[], [], [0, 0, -192]], [], [[0, 0, 128], [], [], [0, 32]], [[], [], [0, -3]]], [[[], [], [0, 0, -18]], [], [[0, 0, 144], [], [], [0, 36]], [[], [], [0, 9]]], [[], [[0, 0, 48], [], [], [0, 12]], [[], [], [0, 27]], [], [[0, 12], [], [], [3]]], [[[0, 0, 4], [], [], [0, 1]], [[], [], [0, 3]], [], [[0, 4], [], [], [1]], [[], [], [3]]]], [])), (([[[[0, 0, 0, 0, -128], [], [], [0, 0, 0, -32]], [[], [], [0, 0, 0, 144]], [], [[0, 0, 0, -16], [], [], [0, 0, -4]], [[], [], [0, 0, -18]], [], [[0, 0, 4], [], [], [0, 1]]], [[[], [], [0, 0, 0, 48]], [], [[0, 0, 0, 48], [], [], [0, 0, 12]], [[], [], [0, 0, -192]], [], [[0, 0, 48], [], [], [0, 12]], [[], [], [0, 3]]], [[], [[0, 0, 0, 144], [], [], [0, 0, 36]], [[], [], [0, 0, -216]], [], [[0, 0, 144], [], [], [0, 36]], [[], [], [0, 27]]], [[[0, 0, 0, 16], [], [], [0, 0, 4]], [[], [], [0, 0, -72]], [], [[0, 0, 128], [], [], [0, 32]], [[], [], [0, 9]], [], [[0, 4], [], [], [1]]], [[[], [], [0, 0, -6]], [], [[0, 0, 12], [], [], [0, 3]], [[], [], [0, -3]], [], [[0, 12], [], [], [3]], [[], [], [3]]]], []), ([], [[[[0, 0, 0, 96]], [], [[], [0, 0, 72]], [[0, 0, 24]]], [[], [[], [0, 0, 240]], [[0, 0, 72]], [], [[], [0, -12]]], [[[], [0, 0, 72]], [[0, 0, 72]], [], [[], [0, -36]], [[0, 18]]], [[[0, 0, 24]], [], [[], [0, -36]], [[0, 60]]], [[], [[], [0, -12]], [[0, 18]], [], [[], [6]]]])))
theorem l1_eq : e3.isz (osub e3 LL.1 l1) = true := by decide +kernel
theorem l2_eq : e3.isz (osub e3 LL.2.1 l2) = true := by decide +kernel
theorem l3_eq : e3.isz (osub e3 LL.2.2 l3) = true := by decide +kernel
theorem r1_eq : e3.isz (osub e3 RR.1 r1) = true := by decide +kernel
theorem r2_eq : e3.isz (osub e3 RR.2.1 r2) = true := by decide +kernel
theorem r3_eq : e3.isz (osub e3 RR.2.2 r3) = true := by decide +kernel
theorem assoc_x : e3.isz (osub e3 (e3.mul l1 r3) (e3.mul l3 r1)) = true := by decide +kernel
theorem assoc_y : e3.isz (osub e3 (e3.mul l2 r3) (e3.mul l3 r2)) = true := by decide +kernel
/-! What it says in a ring. -/
def rops {α : Type} (R : Rng α) : Ops α where
 add := R.add
 mul := R.mul
 zero := R.zero
 neg := R.neg
 isz := fun _ => false
def tri {α β : Type} (ev : β → α) (p : Tri β) : Tri α := (ev p.1, ev p.2.1, ev p.2.2)
theorem tog_ev {α β : Type} {R : Rng α} {O : Ops β} {ev : β → α} (S : Sound R O ev) (b : β) (p q : Tri β) : tri ev (tog O b p q) = tog (rops R) (ev b) (tri ev p) (tri ev q) := by
 simp only [tri, tog, osub, o3, rops, S.add, S.mul, S.neg]
section
variable {α : Type} (R : Rng α) (b x1 x2 x3 : α)
def v1 := lev R (ic R) b
def v2 := lev R (v1 R b) x1
def v3 := lev R (v2 R b x1) x2
def v4 := lev R (v3 R b x1 x2) x3
theorem s1 : Sound R o1 (v1 R b) := lops_sound (iops_sound R) b
theorem s2 : Sound R o2 (v2 R b x1) := lops_sound (s1 R b) x1
theorem s3 : Sound R o3_ (v3 R b x1 x2) := lops_sound (s2 R b x1) x2
theorem s4 : Sound R o4 (v4 R b x1 x2 x3) := lops_sound (s3 R b x1 x2) x3
theorem ic_1 : ic R 1 = R.one := R.add_zero _
theorem ic_0 : ic R 0 = R.zero := rfl
theorem Rng.mul_one (a : α) : R.mul a R.one = a := by rw [R.mul_comm, R.one_mul]
theorem w_b : v4 R b x1 x2 x3 cb = b := by
 simp only [v4, v3, v2, v1, cb, lev, ic_0, ic_1, R.mul_zero, R.add_zero, R.zero_add, R.mul_one]
theorem w_1 : v4 R b x1 x2 x3 c1 = R.one := by
 simp only [v4, v3, v2, v1, c1, lev, ic_1, R.mul_zero, R.add_zero]
theorem w_x1 : v4 R b x1 x2 x3 cx1 = x1 := by
 simp only [v4, v3, v2, v1, cx1, lev, ic_1, R.mul_zero, R.add_zero, R.zero_add, R.mul_one]
theorem w_x2 : v4 R b x1 x2 x3 cx2 = x2 := by
 simp only [v4, v3, v2, v1, cx2, lev, ic_1, R.mul_zero, R.add_zero, R.zero_add, R.mul_one]
theorem w_x3 : v4 R b x1 x2 x3 cx3 = x3 := by
 simp only [v4, v3, v2, v1, cx3, lev, ic_1, R.mul_zero, R.add_zero, R.zero_add, R.mul_one]
def side (x : α) : α := R.add (R.mul x (R.mul x x)) b
theorem w_cd (x : P4) : v4 R b x1 x2 x3 (cd x) = side R b (v4 R b x1 x2 x3 x) := by
 have S := s4 R b x1 x2 x3
 unfold cd side
 rw [S.add, S.mul, S.mul, w_b]
variable (y1 y2 y3 : α)
def u1 := xev R (v4 R b x1 x2 x3) y1
def u2 := xev R (u1 R b x1 x2 x3 y1) y2
def u3 := xev R (u2 R b x1 x2 x3 y1 y2) y3
theorem z_p (p : P4) : u3 R b x1 x2 x3 y1 y2 y3 (up p) = v4 R b x1 x2 x3 p := by
 have e : v4 R b x1 x2 x3 [] = R.zero := rfl
 simp only [u3, u2, u1, xev, up, e, R.mul_zero, R.add_zero]
variable (h1 : R.mul y1 y1 = side R b x1) (h2 : R.mul y2 y2 = side R b x2) (h3 : R.mul y3 y3 = side R b x3)
theorem k1 (h1 : R.mul y1 y1 = side R b x1) : Sound R e1 (u1 R b x1 x2 x3 y1) := xops_sound (s4 R b x1 x2 x3) (by rw [w_cd, w_x1]; exact h1)
theorem k2 (h1 : R.mul y1 y1 = side R b x1) (h2 : R.mul y2 y2 = side R b x2) : Sound R e2 (u2 R b x1 x2 x3 y1 y2) := xops_sound (k1 R b x1 x2 x3 y1 h1) (by
 have e : v4 R b x1 x2 x3 [] = R.zero := rfl
 show _ = R.add (v4 R b x1 x2 x3 (cd cx2)) (R.mul y1 (v4 R b x1 x2 x3 []))
 rw [e, R.mul_zero, R.add_zero, w_cd, w_x2]
 exact h2)
theorem k3 (h1 : R.mul y1 y1 = side R b x1) (h2 : R.mul y2 y2 = side R b x2) (h3 : R.mul y3 y3 = side R b x3) : Sound R e3 (u3 R b x1 x2 x3 y1 y2 y3) := xops_sound (k2 R b x1 x2 x3 y1 y2 h1 h2) (by
 have e : v4 R b x1 x2 x3 [] = R.zero := rfl
 have e2 : u2 R b x1 x2 x3 y1 y2 ((cd cx3, []), ([], [])) = v4 R b x1 x2 x3 (cd cx3) := by simp only [u2, u1, xev, e, R.mul_zero, R.add_zero]
 rw [e2, w_cd, w_x3]
 exact h3)
end
theorem eq_of {α β : Type} {R : Rng α} {O : Ops β} {ev : β → α} (S : Sound R O ev) {a c : β} (h : O.isz (osub O a c) = true) : ev a = ev c := by
 have e := S.isz _ h
 unfold osub at e
 rw [S.add, S.neg] at e
 have e2 : R.add (R.add (ev a) (R.neg (ev c))) (ev c) = R.add R.zero (ev c) := by rw [e]
 rw [R.add_assoc, R.neg_add, R.add_zero, R.zero_add] at e2
 exact e2
/-- The rule is associative, up to a common factor: of three points with third number 1. -/
theorem tog_assoc {α : Type} (R : Rng α) (b x1 x2 x3 y1 y2 y3 : α) (h1 : R.mul y1 y1 = side R b x1) (h2 : R.mul y2 y2 = side R b x2) (h3 : R.mul y3 y3 = side R b x3) :
  R.mul (tog (rops R) b (tog (rops R) b (x1, y1, R.one) (x2, y2, R.one)) (x3, y3, R.one)).1 (tog (rops R) b (x1, y1, R.one) (tog (rops R) b (x2, y2, R.one) (x3, y3, R.one))).2.2 =
   R.mul (tog (rops R) b (tog (rops R) b (x1, y1, R.one) (x2, y2, R.one)) (x3, y3, R.one)).2.2 (tog (rops R) b (x1, y1, R.one) (tog (rops R) b (x2, y2, R.one) (x3, y3, R.one))).1 ∧
  R.mul (tog (rops R) b (tog (rops R) b (x1, y1, R.one) (x2, y2, R.one)) (x3, y3, R.one)).2.1 (tog (rops R) b (x1, y1, R.one) (tog (rops R) b (x2, y2, R.one) (x3, y3, R.one))).2.2 =
   R.mul (tog (rops R) b (tog (rops R) b (x1, y1, R.one) (x2, y2, R.one)) (x3, y3, R.one)).2.2 (tog (rops R) b (x1, y1, R.one) (tog (rops R) b (x2, y2, R.one) (x3, y3, R.one))).2.1 := by
 have S := k3 R b x1 x2 x3 y1 y2 y3 h1 h2 h3
 have hz : v4 R b x1 x2 x3 [] = R.zero := rfl
 have eb : u3 R b x1 x2 x3 y1 y2 y3 (up cb) = b := by rw [z_p, w_b]
 have eA : tri (u3 R b x1 x2 x3 y1 y2 y3) A = (x1, y1, R.one) := by
  have ey : u3 R b x1 x2 x3 y1 y2 y3 y1_ = y1 := by simp only [u3, u2, u1, xev, y1_, hz, w_1, R.mul_zero, R.add_zero, R.zero_add, R.mul_one]
  simp only [tri, A, z_p, w_x1, w_1, ey]
 have eB : tri (u3 R b x1 x2 x3 y1 y2 y3) B = (x2, y2, R.one) := by
  have ey : u3 R b x1 x2 x3 y1 y2 y3 y2_ = y2 := by simp only [u3, u2, u1, xev, y2_, hz, w_1, R.mul_zero, R.add_zero, R.zero_add, R.mul_one]
  simp only [tri, B, z_p, w_x2, w_1, ey]
 have eC : tri (u3 R b x1 x2 x3 y1 y2 y3) C = (x3, y3, R.one) := by
  have ey : u3 R b x1 x2 x3 y1 y2 y3 y3_ = y3 := by simp only [u3, u2, u1, xev, y3_, hz, w_1, R.mul_zero, R.add_zero, R.zero_add, R.mul_one]
  simp only [tri, C, z_p, w_x3, w_1, ey]
 have eL : tri (u3 R b x1 x2 x3 y1 y2 y3) LL = tog (rops R) b (tog (rops R) b (x1, y1, R.one) (x2, y2, R.one)) (x3, y3, R.one) := by
  unfold LL
  rw [tog_ev S, tog_ev S, eb, eA, eB, eC]
 have eR : tri (u3 R b x1 x2 x3 y1 y2 y3) RR = tog (rops R) b (x1, y1, R.one) (tog (rops R) b (x2, y2, R.one) (x3, y3, R.one)) := by
  unfold RR
  rw [tog_ev S, tog_ev S, eb, eA, eB, eC]
 rw [← eL, ← eR]
 have p1 := eq_of S l1_eq
 have p2 := eq_of S l2_eq
 have p3 := eq_of S l3_eq
 have q1 := eq_of S r1_eq
 have q2 := eq_of S r2_eq
 have q3 := eq_of S r3_eq
 have ax := eq_of S assoc_x
 have ay := eq_of S assoc_y
 rw [S.mul, S.mul] at ax ay
 unfold tri
 rw [p1, p2, p3, q1, q2, q3]
 exact ⟨ax, ay⟩
end EC
end Go.Proofs.YtaomlijondiaoaaGreatDoor
end
section
namespace Go.Proofs.YtaomlijondiaoaaGreatDoor
namespace EC
/-! Expressions, to be calculated by the kernel. -/
def nth {β : Type} (d : β) : List β → Nat → β
 | [], _ => d
 | a :: _, 0 => a
 | _ :: l, i + 1 => nth d l i
theorem nth_map {β γ : Type} (f : β → γ) (d : β) : ∀ (l : List β) (i : Nat), f (nth d l i) = nth (f d) (l.map f) i
 | [], _ => rfl
 | _ :: _, 0 => rfl
 | _ :: l, i + 1 => nth_map f d l i
structure Ex where
 ev : {β : Type} → Ops β → β → List β → β
 snd : ∀ {α β : Type} {R : Rng α} {O : Ops β} {f : β → α}, Sound R O f → ∀ {one : β}, f one = R.one → ∀ l : List β, f (ev O one l) = ev (rops R) R.one (l.map f)
def Ex.v (i : Nat) : Ex where
 ev := fun O _ l => nth O.zero l i
 snd := by
  intro _ _ R O f S _ _ l
  show f (nth O.zero l i) = nth R.zero (l.map f) i
  rw [nth_map f, S.zero]
def Ex.z : Ex where
 ev := fun O _ _ => O.zero
 snd := by
  intro _ _ _ _ _ S _ _ _
  exact S.zero
def Ex.o : Ex where
 ev := fun _ one _ => one
 snd := by
  intro _ _ _ _ _ _ _ h _
  exact h
def Ex.a (x y : Ex) : Ex where
 ev := fun O one l => O.add (x.ev O one l) (y.ev O one l)
 snd := by
  intro _ _ R O f S _ h l
  show f (O.add _ _) = R.add _ _
  rw [S.add, x.snd S h l, y.snd S h l]
def Ex.m (x y : Ex) : Ex where
 ev := fun O one l => O.mul (x.ev O one l) (y.ev O one l)
 snd := by
  intro _ _ R O f S _ h l
  show f (O.mul _ _) = R.mul _ _
  rw [S.mul, x.snd S h l, y.snd S h l]
def Ex.n (x : Ex) : Ex where
 ev := fun O one l => O.neg (x.ev O one l)
 snd := by
  intro _ _ R O f S _ h l
  show f (O.neg _) = R.neg _
  rw [S.neg, x.snd S h l]
def exo : Ops Ex where
 add := Ex.a
 mul := Ex.m
 zero := Ex.z
 neg := Ex.n
 isz := fun _ => false
theorem Ex.eqs {α β : Type} {R : Rng α} {O : Ops β} {f : β → α} (S : Sound R O f) {one : β} (h1 : f one = R.one) (l : List β) (x y : Ex) (h : O.isz (osub O (x.ev O one l) (y.ev O one l)) = true) : x.ev (rops R) R.one (l.map f) = y.ev (rops R) R.one (l.map f) := by
 rw [← x.snd S h1 l, ← y.snd S h1 l]
 exact eq_of S h
/-- Of two points of the curve. -/
theorem ring_c {α : Type} (R : Rng α) (b x1 x2 y1 y2 : α) (h1 : R.mul y1 y1 = side R b x1) (h2 : R.mul y2 y2 = side R b x2) (x y : Ex)
  (h : e2.isz (osub e2 (x.ev e2 ((c1, []), ([], [])) [((cb, []), ([], [])), ((cx1, []), ([], [])), ((cx2, []), ([], [])), (([], c1), ([], [])), (([], []), (c1, []))]) (y.ev e2 ((c1, []), ([], [])) [((cb, []), ([], [])), ((cx1, []), ([], [])), ((cx2, []), ([], [])), (([], c1), ([], [])), (([], []), (c1, []))])) = true) :
  x.ev (rops R) R.one [b, x1, x2, y1, y2] = y.ev (rops R) R.one [b, x1, x2, y1, y2] := by
 have hz : v4 R b x1 x2 R.zero [] = R.zero := rfl
 have e := Ex.eqs (k2 R b x1 x2 R.zero y1 y2 h1 h2) (one := ((c1, []), ([], []))) (by
  show R.add (R.add (v4 R b x1 x2 R.zero c1) (R.mul y1 (v4 R b x1 x2 R.zero []))) (R.mul y2 (R.add (v4 R b x1 x2 R.zero []) (R.mul y1 (v4 R b x1 x2 R.zero [])))) = R.one
  simp only [hz, w_1, R.mul_zero, R.add_zero]) _ x y h
 simp only [List.map_cons, List.map_nil, u2, u1, xev, hz, w_b, w_1, w_x1, w_x2, R.mul_zero, R.add_zero, R.zero_add, R.mul_one] at e
 exact e
/-! Any eight numbers. -/
abbrev P5 := List P4
abbrev P6 := List P5
abbrev P7 := List P6
abbrev P8 := List P7
def o5 := lops o4
def o6 := lops o5
def o7 := lops o6
def o8 := lops o7
def f1 : P8 := [[[[[[[[0, 1]]]]]]]]
def f2 : P8 := [[[[[[[[], [1]]]]]]]]
def f3 : P8 := [[[[[[[], [[1]]]]]]]]
def f4 : P8 := [[[[[[], [[[1]]]]]]]]
def f5 : P8 := [[[[[], [[[[1]]]]]]]]
def f6 : P8 := [[[[], [[[[[1]]]]]]]]
def f7 : P8 := [[[], [[[[[[1]]]]]]]]
def f8 : P8 := [[], [[[[[[[1]]]]]]]]
def f0 : P8 := [[[[[[[[1]]]]]]]]
theorem ring_f {α : Type} (R : Rng α) (a b c d e f g h : α) (x y : Ex) (hh : o8.isz (osub o8 (x.ev o8 f0 [f1, f2, f3, f4, f5, f6, f7, f8]) (y.ev o8 f0 [f1, f2, f3, f4, f5, f6, f7, f8])) = true) :
  x.ev (rops R) R.one [a, b, c, d, e, f, g, h] = y.ev (rops R) R.one [a, b, c, d, e, f, g, h] := by
 have S : Sound R o8 _ := lops_sound (lops_sound (lops_sound (lops_sound (lops_sound (lops_sound (lops_sound (lops_sound (iops_sound R) a) b) c) d) e) f) g) h
 have t := Ex.eqs S (one := f0) (by
  simp only [f0, lev, ic_1, R.mul_zero, R.add_zero]) _ x y hh
 simp only [List.map_cons, List.map_nil, f1, f2, f3, f4, f5, f6, f7, f8, lev, ic_0, ic_1, R.mul_zero, R.add_zero, R.zero_add, R.mul_one] at t
 exact t
end EC
end Go.Proofs.YtaomlijondiaoaaGreatDoor
end
section
namespace Go.Proofs.YtaomlijondiaoaaGreatDoor
namespace EC
structure Crv (α : Type) where
 R : Rng α
 inv : α → α
 b : α
 hinv : ∀ a, a ≠ R.zero → R.mul (inv a) a = R.one
 hb : ∀ t, side R b t ≠ R.zero
 h1 : R.one ≠ R.zero
 h2 : R.add R.one R.one ≠ R.zero
section
variable {α : Type} (C : Crv α)
theorem Crv.can {c a d : α} (hc : c ≠ C.R.zero) (h : C.R.mul c a = C.R.mul c d) : a = d := by
 have e := congrArg (C.R.mul (C.inv c)) h
 rw [← C.R.mul_assoc, ← C.R.mul_assoc, C.hinv c hc, C.R.one_mul, C.R.one_mul] at e
 exact e
theorem Crv.ne {a c : α} (ha : a ≠ C.R.zero) (hc : c ≠ C.R.zero) : C.R.mul a c ≠ C.R.zero := fun h => hc (C.can ha (h.trans (C.R.mul_zero a).symm))
theorem Crv.inv_ne {a : α} (ha : a ≠ C.R.zero) : C.inv a ≠ C.R.zero := fun h => C.h1 (by rw [← C.hinv a ha, h, C.R.zero_mul])
theorem Crv.two {a : α} (ha : a ≠ C.R.zero) : C.R.add a a ≠ C.R.zero := fun h => by
 have e : C.R.mul (C.R.add C.R.one C.R.one) a = C.R.add a a := by rw [C.R.add_mul, C.R.one_mul]
 exact C.ne C.h2 ha (e.trans h)
theorem Crv.sub_ne {a c : α} (h : a ≠ c) : C.R.add a (C.R.neg c) ≠ C.R.zero := fun e => h (by
 have e2 : C.R.add (C.R.add a (C.R.neg c)) c = C.R.add C.R.zero c := by rw [e]
 rw [C.R.add_assoc, C.R.neg_add, C.R.add_zero, C.R.zero_add] at e2
 exact e2)
def Crv.on : Option (α × α) → Prop
 | none => True
 | some (x, y) => C.R.mul y y = side C.R C.b x
def Crv.lift : Option (α × α) → Tri α
 | none => (C.R.zero, C.R.one, C.R.zero)
 | some (x, y) => (x, y, C.R.one)
def Crv.neg : Option (α × α) → Option (α × α)
 | none => none
 | some (x, y) => some (x, C.R.neg y)
abbrev Crv.tog (A B : Tri α) : Tri α := EC.tog (rops C.R) C.b A B
def Crv.sc (c : α) (T : Tri α) : Tri α := (C.R.mul c T.1, C.R.mul c T.2.1, C.R.mul c T.2.2)
def Crv.good (T : Tri α) : Prop := T.2.2 = C.R.zero → T.1 = C.R.zero ∧ T.2.1 ≠ C.R.zero
theorem Crv.y_ne {x y : α} (h : C.on (some (x, y))) : y ≠ C.R.zero := fun e => by
 have h' : C.R.mul y y = side C.R C.b x := h
 rw [e, C.R.mul_zero] at h'
 exact C.hb x h'.symm
open Ex in
theorem Crv.tog_comm (A B : Tri α) : C.tog A B = C.tog B A := by
 obtain ⟨x1, y1, z1⟩ := A
 obtain ⟨x2, y2, z2⟩ := B
 refine Prod.ext ?_ (Prod.ext ?_ ?_)
 ·exact ring_f C.R C.b x1 y1 z1 x2 y2 z2 C.b (EC.tog exo (v 0) (v 1, v 2, v 3) (v 4, v 5, v 6)).1 (EC.tog exo (v 0) (v 4, v 5, v 6) (v 1, v 2, v 3)).1 (by decide +kernel)
 ·exact ring_f C.R C.b x1 y1 z1 x2 y2 z2 C.b (EC.tog exo (v 0) (v 1, v 2, v 3) (v 4, v 5, v 6)).2.1 (EC.tog exo (v 0) (v 4, v 5, v 6) (v 1, v 2, v 3)).2.1 (by decide +kernel)
 ·exact ring_f C.R C.b x1 y1 z1 x2 y2 z2 C.b (EC.tog exo (v 0) (v 1, v 2, v 3) (v 4, v 5, v 6)).2.2 (EC.tog exo (v 0) (v 4, v 5, v 6) (v 1, v 2, v 3)).2.2 (by decide +kernel)
open Ex in
theorem Crv.tog_sc (c : α) (A B : Tri α) : C.tog (C.sc c A) B = C.sc (C.R.mul c c) (C.tog A B) := by
 obtain ⟨x1, y1, z1⟩ := A
 obtain ⟨x2, y2, z2⟩ := B
 refine Prod.ext ?_ (Prod.ext ?_ ?_)
 ·exact ring_f C.R C.b x1 y1 z1 x2 y2 z2 c (EC.tog exo (v 0) (m (v 7) (v 1), m (v 7) (v 2), m (v 7) (v 3)) (v 4, v 5, v 6)).1 (m (m (v 7) (v 7)) (EC.tog exo (v 0) (v 1, v 2, v 3) (v 4, v 5, v 6)).1) (by decide +kernel)
 ·exact ring_f C.R C.b x1 y1 z1 x2 y2 z2 c (EC.tog exo (v 0) (m (v 7) (v 1), m (v 7) (v 2), m (v 7) (v 3)) (v 4, v 5, v 6)).2.1 (m (m (v 7) (v 7)) (EC.tog exo (v 0) (v 1, v 2, v 3) (v 4, v 5, v 6)).2.1) (by decide +kernel)
 ·exact ring_f C.R C.b x1 y1 z1 x2 y2 z2 c (EC.tog exo (v 0) (m (v 7) (v 1), m (v 7) (v 2), m (v 7) (v 3)) (v 4, v 5, v 6)).2.2 (m (m (v 7) (v 7)) (EC.tog exo (v 0) (v 1, v 2, v 3) (v 4, v 5, v 6)).2.2) (by decide +kernel)
theorem Crv.tog_sc' (c : α) (A B : Tri α) : C.tog A (C.sc c B) = C.sc (C.R.mul c c) (C.tog A B) := by
 rw [C.tog_comm, C.tog_sc, C.tog_comm]
open Ex in
theorem Crv.tog_zero (B : Tri α) : C.tog (C.lift none) B = C.sc B.2.1 B := by
 obtain ⟨x2, y2, z2⟩ := B
 refine Prod.ext ?_ (Prod.ext ?_ ?_)
 ·exact ring_f C.R C.b x2 y2 z2 C.b C.b C.b C.b (EC.tog exo (v 0) (z, o, z) (v 1, v 2, v 3)).1 (m (v 2) (v 1)) (by decide +kernel)
 ·exact ring_f C.R C.b x2 y2 z2 C.b C.b C.b C.b (EC.tog exo (v 0) (z, o, z) (v 1, v 2, v 3)).2.1 (m (v 2) (v 2)) (by decide +kernel)
 ·exact ring_f C.R C.b x2 y2 z2 C.b C.b C.b C.b (EC.tog exo (v 0) (z, o, z) (v 1, v 2, v 3)).2.2 (m (v 2) (v 3)) (by decide +kernel)
theorem Crv.lift_good {P : Option (α × α)} : C.good (C.lift P) := by
 rcases P with _ | ⟨x, y⟩
 ·exact fun _ => ⟨rfl, C.h1⟩
 ·exact fun h => absurd h C.h1
theorem Crv.lift_y {P : Option (α × α)} (h : C.on P) : (C.lift P).2.1 ≠ C.R.zero := by
 rcases P with _ | ⟨x, y⟩
 ·exact C.h1
 ·exact C.y_ne h
theorem Crv.good_sc {c : α} (hc : c ≠ C.R.zero) {T : Tri α} (h : C.good T) : C.good (C.sc c T) := fun e => by
 have hz : T.2.2 = C.R.zero := C.can hc (e.trans (C.R.mul_zero c).symm)
 obtain ⟨hx, hy⟩ := h hz
 refine ⟨?_, C.ne hc hy⟩
 show C.R.mul c T.1 = _
 rw [hx, C.R.mul_zero]
theorem Crv.good_of {c : α} (hc : c ≠ C.R.zero) {T : Tri α} (h : C.good (C.sc c T)) : C.good T := fun e => by
 obtain ⟨hx, hy⟩ := h (by show C.R.mul c T.2.2 = _; rw [e, C.R.mul_zero])
 exact ⟨C.can hc (hx.trans (C.R.mul_zero c).symm), fun e2 => hy (by show C.R.mul c T.2.1 = _; rw [e2, C.R.mul_zero])⟩
open Ex in
/-- -b would be a cube. -/
theorem Crv.cube {E w : α} (hE : E ≠ C.R.zero) (h : C.R.add (C.R.mul w (C.R.mul w w)) (C.R.mul C.b (C.R.mul E (C.R.mul E E))) = C.R.zero) : False := by
 refine C.hb (C.R.mul w (C.inv E)) ?_
 refine C.can (C.ne hE (C.ne hE hE)) ?_
 rw [C.R.mul_zero, ← h]
 have e := ring_f C.R C.b E w (C.inv E) C.b C.b C.b C.b (m (m (v 1) (m (v 1) (v 1))) (a (m (m (v 2) (v 3)) (m (m (v 2) (v 3)) (m (v 2) (v 3)))) (v 0))) (a (m (m (v 2) (m (v 2) (v 2))) (m (m (v 3) (v 1)) (m (m (v 3) (v 1)) (m (v 3) (v 1))))) (m (v 0) (m (v 1) (m (v 1) (v 1))))) (by decide +kernel)
 refine Eq.trans e ?_
 show C.R.add (C.R.mul (C.R.mul w (C.R.mul w w)) (C.R.mul (C.R.mul (C.inv E) E) (C.R.mul (C.R.mul (C.inv E) E) (C.R.mul (C.inv E) E)))) (C.R.mul C.b (C.R.mul E (C.R.mul E E))) = _
 rw [C.hinv E hE, C.R.one_mul, C.R.one_mul, C.R.mul_one]
open Ex in
theorem Crv.good_tog {P Q : Option (α × α)} (hP : C.on P) (hQ : C.on Q) : C.good (C.tog (C.lift P) (C.lift Q)) := by
 rcases P with _ | ⟨x1, y1⟩
 ·rw [C.tog_zero]
  exact C.good_sc (C.lift_y hQ) C.lift_good
 rcases Q with _ | ⟨x2, y2⟩
 ·rw [C.tog_comm, C.tog_zero]
  exact C.good_sc (C.lift_y hP) C.lift_good
 intro hZ
 have hP' : C.R.mul y1 y1 = side C.R C.b x1 := hP
 have hQ' : C.R.mul y2 y2 = side C.R C.b x2 := hQ
 by_cases hx : x1 = x2
 ·subst hx
  have hm : C.R.mul (C.R.add y1 (C.R.neg y2)) (C.R.add y1 y2) = C.R.zero := by
   refine Eq.trans (ring_f C.R y1 y2 C.b C.b C.b C.b C.b C.b (m (a (v 0) (n (v 1))) (a (v 0) (v 1))) (a (m (v 0) (v 0)) (n (m (v 1) (v 1)))) (by decide +kernel)) ?_
   show C.R.add (C.R.mul y1 y1) (C.R.neg (C.R.mul y2 y2)) = _
   rw [hP', hQ', C.R.add_neg]
  by_cases hy : y1 = y2
  ·subst hy
   have e := ring_c C.R C.b x1 x1 y1 y1 hP' hP' (EC.tog exo (v 0) (v 1, v 3, o) (v 1, v 3, o)).2.2 (m (a (v 3) (v 3)) (m (a (v 3) (v 3)) (a (v 3) (v 3)))) (by decide +kernel)
   have h2 := C.two (C.y_ne hP)
   exact absurd (e.symm.trans hZ) (C.ne h2 (C.ne h2 h2))
  ·have hs : C.R.add y1 y2 = C.R.zero := C.can (C.sub_ne hy) (hm.trans (C.R.mul_zero _).symm)
   have hn : y2 = C.R.neg y1 := C.R.neg_eq hs
   subst hn
   refine ⟨ring_c C.R C.b x1 x1 y1 y1 hP' hP' (EC.tog exo (v 0) (v 1, v 3, o) (v 1, n (v 3), o)).1 z (by decide +kernel), fun hY => ?_⟩
   have h2 := C.two (C.y_ne hP)
   refine C.cube (C.ne h2 h2) (w := C.R.mul x1 (C.R.add (C.R.mul x1 (C.R.mul x1 x1)) (C.R.neg (C.R.add (C.R.add (C.R.add C.b C.b) (C.R.add C.b C.b)) (C.R.add (C.R.add C.b C.b) (C.R.add C.b C.b)))))) ?_
   have e := ring_c C.R C.b x1 x1 y1 y1 hP' hP' (a (m (m (v 1) (a (m (v 1) (m (v 1) (v 1))) (n (a (a (a (v 0) (v 0)) (a (v 0) (v 0))) (a (a (v 0) (v 0)) (a (v 0) (v 0))))))) (m (m (v 1) (a (m (v 1) (m (v 1) (v 1))) (n (a (a (a (v 0) (v 0)) (a (v 0) (v 0))) (a (a (v 0) (v 0)) (a (v 0) (v 0))))))) (m (v 1) (a (m (v 1) (m (v 1) (v 1))) (n (a (a (a (v 0) (v 0)) (a (v 0) (v 0))) (a (a (v 0) (v 0)) (a (v 0) (v 0))))))))) (m (v 0) (m (m (a (v 3) (v 3)) (a (v 3) (v 3))) (m (m (a (v 3) (v 3)) (a (v 3) (v 3))) (m (a (v 3) (v 3)) (a (v 3) (v 3)))))))
    (m (EC.tog exo (v 0) (v 1, v 3, o) (v 1, n (v 3), o)).2.1 (EC.tog exo (v 0) (v 1, v 3, o) (v 1, n (v 3), o)).2.1) (by decide +kernel)
   refine Eq.trans e ?_
   show C.R.mul (C.tog (x1, y1, C.R.one) (x1, C.R.neg y1, C.R.one)).2.1 (C.tog (x1, y1, C.R.one) (x1, C.R.neg y1, C.R.one)).2.1 = _
   have hY' : (C.tog (x1, y1, C.R.one) (x1, C.R.neg y1, C.R.one)).2.1 = C.R.zero := hY
   rw [hY', C.R.mul_zero]
 ·exfalso
  have hd := C.sub_ne hx
  refine C.cube (C.ne hd hd) (w := C.R.add (C.R.mul (C.R.add y1 y2) (C.R.add y1 y2)) (C.R.neg (C.R.mul (C.R.add x1 x2) (C.R.mul (C.R.add x1 (C.R.neg x2)) (C.R.add x1 (C.R.neg x2)))))) ?_
  have e := ring_c C.R C.b x1 x2 y1 y2 hP' hQ' (a (m (a (m (a (v 3) (v 4)) (a (v 3) (v 4))) (n (m (a (v 1) (v 2)) (m (a (v 1) (n (v 2))) (a (v 1) (n (v 2))))))) (m (a (m (a (v 3) (v 4)) (a (v 3) (v 4))) (n (m (a (v 1) (v 2)) (m (a (v 1) (n (v 2))) (a (v 1) (n (v 2))))))) (a (m (a (v 3) (v 4)) (a (v 3) (v 4))) (n (m (a (v 1) (v 2)) (m (a (v 1) (n (v 2))) (a (v 1) (n (v 2)))))))))
   (m (v 0) (m (m (a (v 1) (n (v 2))) (a (v 1) (n (v 2)))) (m (m (a (v 1) (n (v 2))) (a (v 1) (n (v 2)))) (m (a (v 1) (n (v 2))) (a (v 1) (n (v 2))))))))
   (m (EC.tog exo (v 0) (v 1, v 3, o) (v 2, v 4, o)).2.2 (EC.tog exo (v 0) (v 1, v 3, o) (v 2, v 4, o)).2.2) (by decide +kernel)
  refine Eq.trans e ?_
  show C.R.mul (C.tog (x1, y1, C.R.one) (x2, y2, C.R.one)).2.2 (C.tog (x1, y1, C.R.one) (x2, y2, C.R.one)).2.2 = _
  have hZ' : (C.tog (x1, y1, C.R.one) (x2, y2, C.R.one)).2.2 = C.R.zero := hZ
  rw [hZ', C.R.mul_zero]
theorem Crv.over {c z x : α} (hc : c ≠ C.R.zero) (hz : z ≠ C.R.zero) : C.R.mul (C.R.mul c x) (C.inv (C.R.mul c z)) = C.R.mul x (C.inv z) := by
 refine C.can (C.ne hc hz) ?_
 have e1 : C.R.mul (C.R.mul c z) (C.R.mul (C.R.mul c x) (C.inv (C.R.mul c z))) = C.R.mul (C.R.mul (C.inv (C.R.mul c z)) (C.R.mul c z)) (C.R.mul c x) := by
  rw [C.R.mul_comm (C.R.mul c x), ← C.R.mul_assoc, C.R.mul_comm (C.R.mul c z)]
 have e2 : C.R.mul (C.R.mul c z) (C.R.mul x (C.inv z)) = C.R.mul (C.R.mul (C.inv z) z) (C.R.mul c x) := by
  rw [C.R.mul_comm x, ← C.R.mul_assoc, C.R.mul_assoc c, C.R.mul_comm z, C.R.mul_comm c, C.R.mul_assoc]
 rw [e1, e2, C.hinv _ (C.ne hc hz), C.hinv z hz]
theorem Crv.neg_on {P : Option (α × α)} (h : C.on P) : C.on (C.neg P) := by
 rcases P with _ | ⟨x, y⟩
 ·trivial
 ·have h' : C.R.mul y y = side C.R C.b x := h
  show C.R.mul (C.R.neg y) (C.R.neg y) = side C.R C.b x
  rw [C.R.mul_neg, C.R.mul_comm, C.R.mul_neg, C.R.neg_neg, h']
end
section
variable {α : Type} [DecidableEq α] (C : Crv α)
def Crv.lower (T : Tri α) : Option (α × α) := if T.2.2 = C.R.zero then none else some (C.R.mul T.1 (C.inv T.2.2), C.R.mul T.2.1 (C.inv T.2.2))
def Crv.add (P Q : Option (α × α)) : Option (α × α) := C.lower (C.tog (C.lift P) (C.lift Q))
theorem Crv.lower_none {T : Tri α} (h : T.2.2 = C.R.zero) : C.lower T = none := if_pos h
theorem Crv.lower_some {T : Tri α} (h : T.2.2 ≠ C.R.zero) : C.lower T = some (C.R.mul T.1 (C.inv T.2.2), C.R.mul T.2.1 (C.inv T.2.2)) := if_neg h
theorem Crv.lower_sc {c : α} (hc : c ≠ C.R.zero) (T : Tri α) : C.lower (C.sc c T) = C.lower T := by
 by_cases hz : T.2.2 = C.R.zero
 ·rw [C.lower_none hz, C.lower_none (show C.R.mul c T.2.2 = C.R.zero by rw [hz, C.R.mul_zero])]
 ·rw [C.lower_some hz, C.lower_some (T := C.sc c T) (C.ne hc hz)]
  show some (C.R.mul (C.R.mul c T.1) (C.inv (C.R.mul c T.2.2)), C.R.mul (C.R.mul c T.2.1) (C.inv (C.R.mul c T.2.2))) = _
  rw [C.over hc hz, C.over hc hz]
theorem Crv.lower_lift (P : Option (α × α)) : C.lower (C.lift P) = P := by
 rcases P with _ | ⟨x, y⟩
 ·exact C.lower_none rfl
 ·rw [C.lower_some (T := C.lift (some (x, y))) C.h1]
  have e : C.inv C.R.one = C.R.one := by
   have := C.hinv C.R.one C.h1
   rw [C.R.mul_one] at this
   exact this
  show some (C.R.mul x (C.inv C.R.one), C.R.mul y (C.inv C.R.one)) = _
  rw [e, C.R.mul_one, C.R.mul_one]
theorem Crv.lift_lower {T : Tri α} (h : C.good T) : ∃ c, c ≠ C.R.zero ∧ C.lift (C.lower T) = C.sc c T := by
 by_cases hz : T.2.2 = C.R.zero
 ·obtain ⟨hx, hy⟩ := h hz
  refine ⟨C.inv T.2.1, C.inv_ne hy, ?_⟩
  rw [C.lower_none hz]
  show (C.R.zero, C.R.one, C.R.zero) = (C.R.mul _ T.1, C.R.mul _ T.2.1, C.R.mul _ T.2.2)
  rw [hx, hz, C.R.mul_zero, C.hinv _ hy]
 ·refine ⟨C.inv T.2.2, C.inv_ne hz, ?_⟩
  rw [C.lower_some hz]
  show (C.R.mul T.1 _, C.R.mul T.2.1 _, C.R.one) = (C.R.mul _ T.1, C.R.mul _ T.2.1, C.R.mul _ T.2.2)
  rw [C.hinv _ hz, C.R.mul_comm T.1, C.R.mul_comm T.2.1]
theorem Crv.comm (P Q : Option (α × α)) : C.add P Q = C.add Q P := by unfold Crv.add; rw [C.tog_comm]
theorem Crv.zero_add {Q : Option (α × α)} (h : C.on Q) : C.add none Q = Q := by
 unfold Crv.add
 rw [C.tog_zero, C.lower_sc (C.lift_y h), C.lower_lift]
theorem Crv.add_zero {Q : Option (α × α)} (h : C.on Q) : C.add Q none = Q := by rw [C.comm, C.zero_add h]
open Ex in
theorem Crv.add_neg (P : Option (α × α)) : C.add P (C.neg P) = none := by
 rcases P with _ | ⟨x, y⟩
 ·exact C.zero_add (Q := none) trivial
 ·exact C.lower_none (ring_f C.R C.b x y C.b C.b C.b C.b C.b (EC.tog exo (v 0) (v 1, v 2, o) (v 1, n (v 2), o)).2.2 z (by decide +kernel))
open Ex in
theorem Crv.add_on {P Q : Option (α × α)} (hP : C.on P) (hQ : C.on Q) : C.on (C.add P Q) := by
 rcases P with _ | ⟨x1, y1⟩
 ·rw [C.zero_add hQ]; exact hQ
 rcases Q with _ | ⟨x2, y2⟩
 ·rw [C.add_zero hP]; exact hP
 have hP' : C.R.mul y1 y1 = side C.R C.b x1 := hP
 have hQ' : C.R.mul y2 y2 = side C.R C.b x2 := hQ
 have e := ring_c C.R C.b x1 x2 y1 y2 hP' hQ' (m (m (EC.tog exo (v 0) (v 1, v 3, o) (v 2, v 4, o)).2.1 (EC.tog exo (v 0) (v 1, v 3, o) (v 2, v 4, o)).2.1) (EC.tog exo (v 0) (v 1, v 3, o) (v 2, v 4, o)).2.2)
  (a (m (EC.tog exo (v 0) (v 1, v 3, o) (v 2, v 4, o)).1 (m (EC.tog exo (v 0) (v 1, v 3, o) (v 2, v 4, o)).1 (EC.tog exo (v 0) (v 1, v 3, o) (v 2, v 4, o)).1)) (m (v 0) (m (EC.tog exo (v 0) (v 1, v 3, o) (v 2, v 4, o)).2.2 (m (EC.tog exo (v 0) (v 1, v 3, o) (v 2, v 4, o)).2.2 (EC.tog exo (v 0) (v 1, v 3, o) (v 2, v 4, o)).2.2)))) (by decide +kernel)
 unfold Crv.add
 generalize hT : C.tog (C.lift (some (x1, y1))) (C.lift (some (x2, y2))) = T
 have e' : C.R.mul (C.R.mul T.2.1 T.2.1) T.2.2 = C.R.add (C.R.mul T.1 (C.R.mul T.1 T.1)) (C.R.mul C.b (C.R.mul T.2.2 (C.R.mul T.2.2 T.2.2))) := by
  rw [← hT]; exact e
 clear e hT
 by_cases hz : T.2.2 = C.R.zero
 ·rw [C.lower_none hz]; trivial
 ·rw [C.lower_some hz]
  obtain ⟨X, Y, Z⟩ := T
  have hz' : Z ≠ C.R.zero := hz
  have e2 : C.R.mul (C.R.mul Y Y) Z = C.R.add (C.R.mul X (C.R.mul X X)) (C.R.mul C.b (C.R.mul Z (C.R.mul Z Z))) := e'
  show C.R.mul (C.R.mul Y (C.inv Z)) (C.R.mul Y (C.inv Z)) = C.R.add (C.R.mul (C.R.mul X (C.inv Z)) (C.R.mul (C.R.mul X (C.inv Z)) (C.R.mul X (C.inv Z)))) C.b
  refine C.can (C.ne hz' (C.ne hz' hz')) ?_
  refine Eq.trans (ring_f C.R C.b X Y Z (C.inv Z) C.b C.b C.b (m (m (v 3) (m (v 3) (v 3))) (m (m (v 2) (v 4)) (m (v 2) (v 4)))) (m (m (m (v 2) (v 2)) (v 3)) (m (m (v 4) (v 3)) (m (v 4) (v 3)))) (by decide +kernel)) ?_
  refine Eq.trans ?_ (ring_f C.R C.b X Y Z (C.inv Z) C.b C.b C.b (a (m (m (v 1) (m (v 1) (v 1))) (m (m (v 4) (v 3)) (m (m (v 4) (v 3)) (m (v 4) (v 3))))) (m (v 0) (m (v 3) (m (v 3) (v 3))))) (m (m (v 3) (m (v 3) (v 3))) (a (m (m (v 1) (v 4)) (m (m (v 1) (v 4)) (m (v 1) (v 4)))) (v 0))) (by decide +kernel))
  show C.R.mul (C.R.mul (C.R.mul Y Y) Z) (C.R.mul (C.R.mul (C.inv Z) Z) (C.R.mul (C.inv Z) Z)) = C.R.add (C.R.mul (C.R.mul X (C.R.mul X X)) (C.R.mul (C.R.mul (C.inv Z) Z) (C.R.mul (C.R.mul (C.inv Z) Z) (C.R.mul (C.inv Z) Z)))) (C.R.mul C.b (C.R.mul Z (C.R.mul Z Z)))
  rw [C.hinv Z hz', C.R.one_mul, C.R.one_mul, C.R.mul_one, C.R.mul_one]
  exact e2
theorem Crv.same {S T : Tri α} (hS : C.good S) (hT : C.good T) (h1 : C.R.mul S.1 T.2.2 = C.R.mul S.2.2 T.1) (h2 : C.R.mul S.2.1 T.2.2 = C.R.mul S.2.2 T.2.1) : C.lower S = C.lower T := by
 by_cases hs : S.2.2 = C.R.zero
 ·have ht : T.2.2 = C.R.zero := by
   obtain ⟨_, hy⟩ := hS hs
   rw [hs, C.R.zero_mul] at h2
   exact C.can hy (h2.trans (C.R.mul_zero _).symm)
  rw [C.lower_none hs, C.lower_none ht]
 ·by_cases ht : T.2.2 = C.R.zero
  ·obtain ⟨_, hy⟩ := hT ht
   rw [ht, C.R.mul_zero] at h2
   exact absurd (C.can hs (h2.symm.trans (C.R.mul_zero _).symm)) hy
  ·rw [C.lower_some hs, C.lower_some ht]
   have q : ∀ x y : α, C.R.mul x T.2.2 = C.R.mul S.2.2 y → C.R.mul x (C.inv S.2.2) = C.R.mul y (C.inv T.2.2) := fun x y h => by
    have e := C.over (c := T.2.2) (z := S.2.2) (x := x) ht hs
    rw [← e, C.R.mul_comm T.2.2 x, h, C.R.mul_comm T.2.2 S.2.2, C.over hs ht]
   rw [q _ _ h1, q _ _ h2]
theorem Crv.assoc {P Q U : Option (α × α)} (hP : C.on P) (hQ : C.on Q) (hU : C.on U) : C.add (C.add P Q) U = C.add P (C.add Q U) := by
 rcases P with _ | ⟨x1, y1⟩
 ·rw [C.zero_add hQ, C.zero_add (C.add_on hQ hU)]
 rcases Q with _ | ⟨x2, y2⟩
 ·rw [C.add_zero hP, C.zero_add hU]
 rcases U with _ | ⟨x3, y3⟩
 ·rw [C.add_zero (C.add_on hP hQ), C.add_zero hQ]
 obtain ⟨h1, h2⟩ := tog_assoc C.R C.b x1 x2 x3 y1 y2 y3 hP hQ hU
 obtain ⟨c, hc, ec⟩ := C.lift_lower (C.good_tog hP hQ)
 obtain ⟨d, hd, ed⟩ := C.lift_lower (C.good_tog hQ hU)
 have gl := C.good_tog (C.add_on hP hQ) hU
 have gr := C.good_tog hP (C.add_on hQ hU)
 have el : C.tog (C.lift (C.add (some (x1, y1)) (some (x2, y2)))) (C.lift (some (x3, y3))) = C.sc (C.R.mul c c) (C.tog (C.tog (C.lift (some (x1, y1))) (C.lift (some (x2, y2)))) (C.lift (some (x3, y3)))) := by
  unfold Crv.add
  rw [ec, C.tog_sc]
 have er : C.tog (C.lift (some (x1, y1))) (C.lift (C.add (some (x2, y2)) (some (x3, y3)))) = C.sc (C.R.mul d d) (C.tog (C.lift (some (x1, y1))) (C.tog (C.lift (some (x2, y2))) (C.lift (some (x3, y3))))) := by
  unfold Crv.add
  rw [ed, C.tog_sc']
 rw [el] at gl
 rw [er] at gr
 show C.lower (C.tog (C.lift (C.add (some (x1, y1)) (some (x2, y2)))) (C.lift (some (x3, y3)))) = C.lower (C.tog (C.lift (some (x1, y1))) (C.lift (C.add (some (x2, y2)) (some (x3, y3)))))
 rw [el, er, C.lower_sc (C.ne hc hc), C.lower_sc (C.ne hd hd)]
 exact C.same (C.good_of (C.ne hc hc) gl) (C.good_of (C.ne hd hd) gr) h1 h2
end
end EC
end Go.Proofs.YtaomlijondiaoaaGreatDoor
end
section
namespace Go.Proofs.YtaomlijondiaoaaGreatDoor
namespace EC
section
variable {β : Type _} (O : Ops β)
def od (a : β) : β := O.add a a
def twi (b : β) (p : Tri β) : Tri β :=
 let yy := O.mul p.2.1 p.2.1
 let yz := O.mul p.2.1 p.2.2
 let zz3 := o3 O (O.mul b (O.mul p.2.2 p.2.2))
 let yy8 := od O (od O (od O yy))
 let less := osub O yy (o3 O zz3)
 let more := O.add yy zz3
 (od O (O.mul less (O.mul p.1 p.2.1)), O.add (O.mul less more) (O.mul yy8 zz3), O.mul yy8 yz)
end
section
variable {α : Type} (C : Crv α)
open Ex in
theorem Crv.twi_sc (c : α) (A : Tri α) : twi (rops C.R) C.b (C.sc c A) = C.sc (C.R.mul (C.R.mul c c) (C.R.mul c c)) (twi (rops C.R) C.b A) := by
 obtain ⟨x1, y1, z1⟩ := A
 refine Prod.ext ?_ (Prod.ext ?_ ?_)
 ·exact ring_f C.R C.b x1 y1 z1 c C.b C.b C.b (twi exo (v 0) (m (v 4) (v 1), m (v 4) (v 2), m (v 4) (v 3))).1 (m (m (m (v 4) (v 4)) (m (v 4) (v 4))) (twi exo (v 0) (v 1, v 2, v 3)).1) (by decide +kernel)
 ·exact ring_f C.R C.b x1 y1 z1 c C.b C.b C.b (twi exo (v 0) (m (v 4) (v 1), m (v 4) (v 2), m (v 4) (v 3))).2.1 (m (m (m (v 4) (v 4)) (m (v 4) (v 4))) (twi exo (v 0) (v 1, v 2, v 3)).2.1) (by decide +kernel)
 ·exact ring_f C.R C.b x1 y1 z1 c C.b C.b C.b (twi exo (v 0) (m (v 4) (v 1), m (v 4) (v 2), m (v 4) (v 3))).2.2 (m (m (m (v 4) (v 4)) (m (v 4) (v 4))) (twi exo (v 0) (v 1, v 2, v 3)).2.2) (by decide +kernel)
open Ex in
theorem Crv.twi_tog {x y : α} (h : C.on (some (x, y))) : twi (rops C.R) C.b (x, y, C.R.one) = C.tog (x, y, C.R.one) (x, y, C.R.one) := by
 have h' : C.R.mul y y = side C.R C.b x := h
 refine Prod.ext ?_ (Prod.ext ?_ ?_)
 ·exact ring_c C.R C.b x x y y h' h' (twi exo (v 0) (v 1, v 3, o)).1 (EC.tog exo (v 0) (v 1, v 3, o) (v 1, v 3, o)).1 (by decide +kernel)
 ·exact ring_c C.R C.b x x y y h' h' (twi exo (v 0) (v 1, v 3, o)).2.1 (EC.tog exo (v 0) (v 1, v 3, o) (v 1, v 3, o)).2.1 (by decide +kernel)
 ·exact ring_c C.R C.b x x y y h' h' (twi exo (v 0) (v 1, v 3, o)).2.2 (EC.tog exo (v 0) (v 1, v 3, o) (v 1, v 3, o)).2.2 (by decide +kernel)
theorem Crv.sc_sc (c d : α) (T : Tri α) : C.sc c (C.sc d T) = C.sc (C.R.mul c d) T := by
 show (C.R.mul c (C.R.mul d _), C.R.mul c (C.R.mul d _), C.R.mul c (C.R.mul d _)) = (C.R.mul (C.R.mul c d) _, C.R.mul (C.R.mul c d) _, C.R.mul (C.R.mul c d) _)
 rw [C.R.mul_assoc, C.R.mul_assoc, C.R.mul_assoc]
theorem Crv.sc_one (T : Tri α) : C.sc C.R.one T = T := by
 show (C.R.mul _ T.1, C.R.mul _ T.2.1, C.R.mul _ T.2.2) = T
 rw [C.R.one_mul, C.R.one_mul, C.R.one_mul]
/-- The three numbers are the point's. -/
def Crv.rep (T : Tri α) (P : Option (α × α)) : Prop := ∃ c, c ≠ C.R.zero ∧ T = C.sc c (C.lift P)
theorem Crv.rep_lift (P : Option (α × α)) : C.rep (C.lift P) P := ⟨C.R.one, C.h1, (C.sc_one _).symm⟩
theorem Crv.rep_sc {T : Tri α} {P : Option (α × α)} {c : α} (hc : c ≠ C.R.zero) (h : C.rep T P) : C.rep (C.sc c T) P := by
 obtain ⟨d, hd, e⟩ := h
 exact ⟨C.R.mul c d, C.ne hc hd, by rw [e, C.sc_sc]⟩
end
section
variable {α : Type} [DecidableEq α] (C : Crv α)
theorem Crv.rep_lower {T : Tri α} {P : Option (α × α)} (h : C.rep T P) : C.lower T = P := by
 obtain ⟨c, hc, e⟩ := h
 rw [e, C.lower_sc hc, C.lower_lift]
theorem Crv.rep_of {T : Tri α} (h : C.good T) : C.rep T (C.lower T) := by
 obtain ⟨c, hc, e⟩ := C.lift_lower h
 refine ⟨C.inv c, C.inv_ne hc, ?_⟩
 rw [e, C.sc_sc, C.hinv c hc, C.sc_one]
theorem Crv.rep_tog {A B : Tri α} {P Q : Option (α × α)} (hA : C.rep A P) (hB : C.rep B Q) (hP : C.on P) (hQ : C.on Q) : C.rep (C.tog A B) (C.add P Q) := by
 obtain ⟨c, hc, rfl⟩ := hA
 obtain ⟨d, hd, rfl⟩ := hB
 rw [C.tog_sc, C.tog_sc', C.sc_sc]
 exact C.rep_sc (C.ne (C.ne hc hc) (C.ne hd hd)) (C.rep_of (C.good_tog hP hQ))
/-- twice: itself, where the third number is 0. -/
def Crv.twice (A : Tri α) : Tri α := if A.2.2 = C.R.zero then A else twi (rops C.R) C.b A
theorem Crv.rep_twice {A : Tri α} {P : Option (α × α)} (hA : C.rep A P) (hP : C.on P) : C.rep (C.twice A) (C.add P P) := by
 obtain ⟨c, hc, rfl⟩ := hA
 rcases P with _ | ⟨x, y⟩
 ·unfold Crv.twice
  rw [if_pos (show (C.sc c (C.lift none)).2.2 = C.R.zero from C.R.mul_zero c), C.zero_add (Q := none) trivial]
  exact ⟨c, hc, rfl⟩
 ·unfold Crv.twice
  rw [if_neg (show (C.sc c (C.lift (some (x, y)))).2.2 ≠ C.R.zero from C.ne hc C.h1), C.twi_sc]
  refine C.rep_sc (C.ne (C.ne hc hc) (C.ne hc hc)) ?_
  show C.rep (twi (rops C.R) C.b (x, y, C.R.one)) _
  rw [C.twi_tog hP]
  exact C.rep_of (C.good_tog hP hP)
def Crv.times (P : Option (α × α)) : Nat → Option (α × α)
 | 0 => none
 | n + 1 => C.add (Crv.times P n) P
theorem Crv.times_on {P : Option (α × α)} (h : C.on P) : ∀ n, C.on (C.times P n)
 | 0 => trivial
 | n + 1 => C.add_on (Crv.times_on h n) h
theorem Crv.times_add {P : Option (α × α)} (h : C.on P) (m : Nat) : ∀ n, C.times P (m + n) = C.add (C.times P m) (C.times P n)
 | 0 => (C.add_zero (C.times_on h m)).symm
 | n + 1 => by
  show C.add (C.times P (m + n)) P = C.add (C.times P m) (C.add (C.times P n) P)
  rw [Crv.times_add h m n, C.assoc (C.times_on h m) (C.times_on h n) h]
theorem Crv.times_one {P : Option (α × α)} (h : C.on P) : C.times P 1 = P := C.zero_add h
end
end EC
end Go.Proofs.YtaomlijondiaoaaGreatDoor
end
section
namespace Go.Proofs.YtaomlijondiaoaaGreatDoor
namespace EC
open Ex in
def pairR {α : Type} (R : Rng α) : Rng (α × α) where
 add := fun f g => (R.add f.1 g.1, R.add f.2 g.2)
 mul := fun f g => (R.add (R.mul f.1 g.1) (R.neg (R.mul f.2 g.2)), R.add (R.mul f.1 g.2) (R.mul f.2 g.1))
 zero := (R.zero, R.zero)
 one := (R.one, R.zero)
 neg := fun f => (R.neg f.1, R.neg f.2)
 add_comm := fun f g => Prod.ext (R.add_comm _ _) (R.add_comm _ _)
 add_assoc := fun f g h => Prod.ext (R.add_assoc _ _ _) (R.add_assoc _ _ _)
 zero_add := fun f => Prod.ext (R.zero_add _) (R.zero_add _)
 neg_add := fun f => Prod.ext (R.neg_add _) (R.neg_add _)
 mul_comm := fun f g => Prod.ext
  (ring_f R f.1 f.2 g.1 g.2 R.zero R.zero R.zero R.zero (a (m (v 0) (v 2)) (n (m (v 1) (v 3)))) (a (m (v 2) (v 0)) (n (m (v 3) (v 1)))) (by decide +kernel))
  (ring_f R f.1 f.2 g.1 g.2 R.zero R.zero R.zero R.zero (a (m (v 0) (v 3)) (m (v 1) (v 2))) (a (m (v 2) (v 1)) (m (v 3) (v 0))) (by decide +kernel))
 mul_assoc := fun f g h => Prod.ext
  (ring_f R f.1 f.2 g.1 g.2 h.1 h.2 R.zero R.zero (a (m (a (m (v 0) (v 2)) (n (m (v 1) (v 3)))) (v 4)) (n (m (a (m (v 0) (v 3)) (m (v 1) (v 2))) (v 5)))) (a (m (v 0) (a (m (v 2) (v 4)) (n (m (v 3) (v 5))))) (n (m (v 1) (a (m (v 2) (v 5)) (m (v 3) (v 4)))))) (by decide +kernel))
  (ring_f R f.1 f.2 g.1 g.2 h.1 h.2 R.zero R.zero (a (m (a (m (v 0) (v 2)) (n (m (v 1) (v 3)))) (v 5)) (m (a (m (v 0) (v 3)) (m (v 1) (v 2))) (v 4))) (a (m (v 0) (a (m (v 2) (v 5)) (m (v 3) (v 4)))) (m (v 1) (a (m (v 2) (v 4)) (n (m (v 3) (v 5)))))) (by decide +kernel))
 one_mul := fun f => Prod.ext
  (ring_f R f.1 f.2 R.zero R.zero R.zero R.zero R.zero R.zero (a (m o (v 0)) (n (m z (v 1)))) (v 0) (by decide +kernel))
  (ring_f R f.1 f.2 R.zero R.zero R.zero R.zero R.zero R.zero (a (m o (v 1)) (m z (v 0))) (v 1) (by decide +kernel))
 mul_add := fun f g h => Prod.ext
  (ring_f R f.1 f.2 g.1 g.2 h.1 h.2 R.zero R.zero (a (m (v 0) (a (v 2) (v 4))) (n (m (v 1) (a (v 3) (v 5))))) (a (a (m (v 0) (v 2)) (n (m (v 1) (v 3)))) (a (m (v 0) (v 4)) (n (m (v 1) (v 5))))) (by decide +kernel))
  (ring_f R f.1 f.2 g.1 g.2 h.1 h.2 R.zero R.zero (a (m (v 0) (a (v 3) (v 5))) (m (v 1) (a (v 2) (v 4)))) (a (a (m (v 0) (v 3)) (m (v 1) (v 2))) (a (m (v 0) (v 5)) (m (v 1) (v 4)))) (by decide +kernel))
def pinv {α : Type} (R : Rng α) (inv : α → α) (a : α × α) : α × α :=
 (R.mul a.1 (inv (R.add (R.mul a.1 a.1) (R.mul a.2 a.2))), R.neg (R.mul a.2 (inv (R.add (R.mul a.1 a.1) (R.mul a.2 a.2)))))
open Ex in
theorem pinv_mul {α : Type} (R : Rng α) (inv : α → α) (hinv : ∀ a, a ≠ R.zero → R.mul (inv a) a = R.one) (hn : ∀ x y, R.add (R.mul x x) (R.mul y y) = R.zero → x = R.zero ∧ y = R.zero) (f : α × α) (ha : f ≠ (pairR R).zero) : (pairR R).mul (pinv R inv f) f = (pairR R).one := by
 obtain ⟨x, y⟩ := f
 have hd : R.add (R.mul x x) (R.mul y y) ≠ R.zero := fun h => ha (by
  obtain ⟨h1, h2⟩ := hn x y h
  rw [h1, h2]
  rfl)
 have e := hinv _ hd
 refine Prod.ext ?_ ?_
 ·refine Eq.trans (ring_f R x y (inv (R.add (R.mul x x) (R.mul y y))) R.zero R.zero R.zero R.zero R.zero (a (m (m (v 0) (v 2)) (v 0)) (n (m (n (m (v 1) (v 2))) (v 1)))) (m (v 2) (a (m (v 0) (v 0)) (m (v 1) (v 1)))) (by decide +kernel)) e
 ·exact ring_f R x y (inv (R.add (R.mul x x) (R.mul y y))) R.zero R.zero R.zero R.zero R.zero (a (m (m (v 0) (v 2)) (v 1)) (m (n (m (v 1) (v 2))) (v 0))) z (by decide +kernel)
end EC
end Go.Proofs.YtaomlijondiaoaaGreatDoor
end
section
namespace Go.Proofs.YtaomlijondiaoaaGreatDoor
open Go.RowKit
namespace Rg
theorem inv_ex {n a : Nat} (ok : Ok n) (hg : Nat.gcd n a = 1) : ∃ x, x < n ∧ x * a % n = 1 := by
 have key : ∀ (m : Nat) (z : WS), z.o + z.r = m → WI n a z → ∃ x, x < n ∧ x * a % n = 1 := by
  intro m
  induction m using Nat.strongRecOn with
  | _ m ih =>
   intro z hz I
   obtain ⟨o, r, u, v, h, t⟩ := z
   simp only at hz
   by_cases hr : r = 0
   ·subst hr
    have ho : o = 1 := by
     have h1 : Nat.gcd o 0 = Nat.gcd n a := I.gcd
     rw [Nat.gcd_zero_right] at h1
     rw [h1]; exact hg
    cases t with
    | true => exact ⟨_, Nat.mod_lt _ ok.pos, end_true ok I ho⟩
    | false => exact ⟨_, Nat.mod_lt _ ok.pos, end_false ok I ho⟩
   ·have hrb : r < big := by have h1 : r ≤ n := I.rn; have := ok.big; omega
    obtain ⟨k, r1, hk, er, hr1, _⟩ := trailing_any hrb hr
    obtain ⟨p1, p2, _⟩ := I.facts hr er
    obtain ⟨i1, i2⟩ := I.next hr er hr1
    have hle : r1 ≤ r := by rw [er]; exact Nat.le_mul_of_pos_right _ (Nat.two_pow_pos k)
    by_cases hl : r1 < o
    ·exact ih (r1 + (o - r1)) (by omega) _ rfl (i1 hl)
    ·exact ih (o + (r1 - o)) (by omega) _ rfl (i2 hl)
 exact key _ ⟨n, a % n, 0, 1, 0, false⟩ rfl (WI.start ok)
theorem invm_spec {n a : Nat} (ok : Ok n) (hg : Nat.gcd n a = 1) : invm n a < n ∧ invm n a * a % n = 1 := by
 obtain ⟨x, hx, h1⟩ := inv_ex ok hg
 rw [invm_eq hx h1]
 exact ⟨hx, h1⟩
end Rg
end Go.Proofs.YtaomlijondiaoaaGreatDoor
end
section
namespace Go.Proofs.YtaomlijondiaoaaGreatDoor
open Go.RowKit
namespace Rg
open NT
abbrev Fp := {n : Nat // n < pB}
theorem pB_pos : 0 < pB := pB_prm.pos
theorem pB_one : 1 < pB := pB_prm.1
theorem pB_four_lt : 4 < pB := by decide +kernel
def fpR : EC.Rng Fp where
 add := fun a b => ⟨(a.1 + b.1) % pB, Nat.mod_lt _ pB_pos⟩
 mul := fun a b => ⟨a.1 * b.1 % pB, Nat.mod_lt _ pB_pos⟩
 zero := ⟨0, pB_pos⟩
 one := ⟨1, pB_one⟩
 neg := fun a => ⟨(pB - a.1) % pB, Nat.mod_lt _ pB_pos⟩
 add_comm := fun a b => Subtype.ext (by dsimp only; rw [Nat.add_comm])
 add_assoc := fun a b c => Subtype.ext (by dsimp only; rw [Nat.mod_add_mod, Nat.add_mod_mod, Nat.add_assoc])
 zero_add := fun a => Subtype.ext (by dsimp only; rw [Nat.zero_add, Nat.mod_eq_of_lt a.2])
 neg_add := fun a => Subtype.ext (by
  dsimp only
  rw [Nat.mod_add_mod, Nat.sub_add_cancel (Nat.le_of_lt a.2), Nat.mod_self])
 mul_comm := fun a b => Subtype.ext (by dsimp only; rw [Nat.mul_comm])
 mul_assoc := fun a b c => Subtype.ext (by dsimp only; rw [Nat.mod_mul_mod, Nat.mul_mod_mod, Nat.mul_assoc])
 one_mul := fun a => Subtype.ext (by dsimp only; rw [Nat.one_mul, Nat.mod_eq_of_lt a.2])
 mul_add := fun a b c => Subtype.ext (by dsimp only; rw [Nat.mul_mod_mod, Nat.mul_add, Nat.add_mod])
def fpI (a : Fp) : Fp := ⟨invm pB a.1 % pB, Nat.mod_lt _ pB_pos⟩
theorem fp_gcd {a : Fp} (h : a ≠ fpR.zero) : Nat.gcd pB a.1 = 1 := by
 refine pB_prm.cop (fun hd => h ?_)
 refine Subtype.ext ?_
 show a.1 = 0
 have h2 := a.2
 rcases Nat.eq_zero_or_pos a.1 with h0 | h0
 ·exact h0
 ·have := Nat.le_of_dvd h0 hd
  omega
theorem fpI_val {a : Fp} (h : a ≠ fpR.zero) : (fpI a).1 = invm pB a.1 := Nat.mod_eq_of_lt (invm_spec pB_ok (fp_gcd h)).1
theorem fpI_mul (a : Fp) (h : a ≠ fpR.zero) : fpR.mul (fpI a) a = fpR.one := by
 refine Subtype.ext ?_
 show (fpI a).1 * a.1 % pB = 1
 rw [fpI_val h]
 exact (invm_spec pB_ok (fp_gcd h)).2
def fp4 : Fp := ⟨4, pB_four_lt⟩
theorem not_dv {k : Nat} (h0 : 0 < k) (h : k < pB) : ¬ Dv (k : Int) := fun hd => by
 have := Nat.le_of_dvd h0 ((dv_nat (k : Int)).1 hd)
 omega
theorem side_dv {t : Fp} (h : EC.side fpR fp4 t = fpR.zero) : Dv ((t.1 : Int) * ((t.1 : Int) * t.1) + 4) := by
 have e : (t.1 * (t.1 * t.1 % pB) % pB + 4) % pB = 0 := congrArg Subtype.val h
 rw [Nat.mul_mod_mod, Nat.mod_add_mod] at e
 have hd : (pB : Int) ∣ ((t.1 * (t.1 * t.1) + 4 : Nat) : Int) := Int.ofNat_dvd.2 (Nat.dvd_of_mod_eq_zero e)
 rw [Int.natCast_add, Int.natCast_mul, Int.natCast_mul] at hd
 exact hd
theorem fp_cube (t : Fp) : EC.side fpR fp4 t ≠ fpR.zero := fun h => by
 have hd := side_dv h
 have h2 : Dv (2 : Int) := two_cb (m := (t.1 : Int) * t.1) (k := 2) ((hd.mul ((t.1 : Int) * ((t.1 : Int) * t.1) - 4)).of (by grind))
 exact not_dv (k := 2) (by decide) (by decide +kernel) h2
theorem fp_two : fpR.add fpR.one fpR.one ≠ fpR.zero := fun h => by
 have e : (1 + 1) % pB = 0 := congrArg Subtype.val h
 revert e
 decide +kernel
theorem fp_one : fpR.one ≠ fpR.zero := fun h => absurd (congrArg Subtype.val h) (by decide)
/-- The first curve. -/
def Inv1 (I : Fp → Fp) : Prop := ∀ a, a ≠ fpR.zero → fpR.mul (I a) a = fpR.one
theorem inv1_ex : ∃ I, Inv1 I := ⟨fpI, fpI_mul⟩
def K1 {I : Fp → Fp} (hI : Inv1 I) : EC.Crv Fp := ⟨fpR, I, fp4, hI, fp_cube, fp_one, fp_two⟩
/-! Pairs. -/
abbrev Fq := Fp × Fp
theorem fp_norm (x y : Fp) (h : fpR.add (fpR.mul x x) (fpR.mul y y) = fpR.zero) : x = fpR.zero ∧ y = fpR.zero := by
 have e : (x.1 * x.1 % pB + y.1 * y.1 % pB) % pB = 0 := congrArg Subtype.val h
 rw [Nat.mod_add_mod, Nat.add_mod_mod] at e
 have hd : (pB : Int) ∣ ((x.1 * x.1 + y.1 * y.1 : Nat) : Int) := Int.ofNat_dvd.2 (Nat.dvd_of_mod_eq_zero e)
 rw [Int.natCast_add, Int.natCast_mul, Int.natCast_mul] at hd
 obtain ⟨h1, h2⟩ := norm0 (x := (x.1 : Int)) (y := (y.1 : Int)) hd
 have z : ∀ a : Fp, Dv (a.1 : Int) → a = fpR.zero := fun a ha => by
  refine Subtype.ext ?_
  show a.1 = 0
  rcases Nat.eq_zero_or_pos a.1 with h0 | h0
  ·exact h0
  ·exact absurd ha (not_dv h0 a.2)
 exact ⟨z x h1, z y h2⟩
def fqR : EC.Rng Fq := EC.pairR fpR
def fq4 : Fq := (fp4, fp4)
theorem fpz (a b : Fp) : (((fpR.add a b).1 : Nat) : Int) % pB = ((a.1 : Int) + b.1) % pB := by
 show (((a.1 + b.1) % pB : Nat) : Int) % pB = _
 rw [Int.natCast_emod, Int.emod_emod, Int.natCast_add]
theorem fpm (a b : Fp) : (((fpR.mul a b).1 : Nat) : Int) % pB = ((a.1 : Int) * b.1) % pB := by
 show (((a.1 * b.1) % pB : Nat) : Int) % pB = _
 rw [Int.natCast_emod, Int.emod_emod, Int.natCast_mul]
theorem fpn (a : Fp) : (((fpR.neg a).1 : Nat) : Int) % pB = (-(a.1 : Int)) % pB := by
 show (((pB - a.1) % pB : Nat) : Int) % pB = _
 rw [Int.natCast_emod, Int.emod_emod, Int.ofNat_sub (Nat.le_of_lt a.2), Int.sub_eq_add_neg, Int.add_emod_left]
/-- A number of the field is congruent to an integer. -/
def Cg (a : Fp) (x : Int) : Prop := Dv ((a.1 : Int) - x)
theorem cg_of {a : Fp} {x : Int} (h : ((a.1 : Nat) : Int) % pB = x % pB) : Cg a x := Int.dvd_of_emod_eq_zero (Int.emod_eq_emod_iff_emod_sub_eq_zero.1 h)
theorem cg_self (a : Fp) : Cg a a.1 := cg_of rfl
theorem Cg.add {a b : Fp} {x y : Int} (h : Cg a x) (k : Cg b y) : Cg (fpR.add a b) (x + y) := by
 have e : Dv (((fpR.add a b).1 : Int) - ((a.1 : Int) + b.1)) := cg_of (fpz a b)
 have h1 : Dv ((a.1 : Int) - x) := h
 have h2 : Dv ((b.1 : Int) - y) := k
 exact Dv.of ((e.add h1).add h2) (by omega)
theorem Cg.mul {a b : Fp} {x y : Int} (h : Cg a x) (k : Cg b y) : Cg (fpR.mul a b) (x * y) := by
 show Dv (((fpR.mul a b).1 : Int) - x * y)
 have e : Dv (((fpR.mul a b).1 : Int) - ((a.1 : Int) * b.1)) := cg_of (fpm a b)
 have h1 : Dv ((a.1 : Int) - x) := h
 have h2 : Dv ((b.1 : Int) - y) := k
 have h3 := h1.mulr (b.1 : Int)
 have h4 := h2.mul x
 clear h k h1 h2
 generalize ((fpR.mul a b).1 : Int) = m at *
 generalize (a.1 : Int) = u at *
 generalize (b.1 : Int) = v at *
 exact Dv.of ((e.add h3).add h4) (by grind)
theorem Cg.neg {a : Fp} {x : Int} (h : Cg a x) : Cg (fpR.neg a) (-x) := by
 have e : Dv (((fpR.neg a).1 : Int) - -(a.1 : Int)) := cg_of (fpn a)
 have h1 : Dv ((a.1 : Int) - x) := h
 exact Dv.of (e.sub h1) (by omega)
theorem Cg.zero {a : Fp} {x : Int} (h : Cg a x) (e : a = fpR.zero) : Dv x := by
 subst e
 exact ((dv_zero).sub h).of (by show 0 - (((0 : Nat) : Int) - x) = x; omega)
theorem fq_cube (t : Fq) : EC.side fqR fq4 t ≠ fqR.zero := fun h => by
 obtain ⟨x, y⟩ := t
 have cx := cg_self x
 have cy := cg_self y
 generalize (x.1 : Int) = X at cx
 generalize (y.1 : Int) = Y at cy
 have c4 : Cg fp4 4 := cg_self fp4
 have h1 := Cg.zero (((cx.mul ((cx.mul cx).add (cy.mul cy).neg)).add (cy.mul ((cx.mul cy).add (cy.mul cx))).neg).add c4) (congrArg Prod.fst h)
 have h2 := Cg.zero (((cx.mul ((cx.mul cy).add (cy.mul cx))).add (cy.mul ((cx.mul cx).add (cy.mul cy).neg))).add c4) (congrArg Prod.snd h)
 clear cx cy c4 h
 have h8 : Dv (8 : Int) := two_cb (m := (X * X + Y * Y) * (X * X + Y * Y)) (k := 8) (by
  have e := (h1.mulr (X * (X * X + -(Y * Y)) + -(Y * (X * Y + Y * X)) - 4)).add (h2.mulr (X * (X * Y + Y * X) + Y * (X * X + -(Y * Y)) - 4))
  have e2 := e.mulr ((X * X + Y * Y) * (X * X + Y * Y) * (X * X + Y * Y) + 32)
  exact e2.of (by grind))
 exact not_dv (k := 8) (by decide) (by decide +kernel) h8
theorem fq_one : fqR.one ≠ fqR.zero := fun h => fp_one (congrArg Prod.fst h)
theorem fq_two : fqR.add fqR.one fqR.one ≠ fqR.zero := fun h => fp_two (congrArg Prod.fst h)
/-- The second curve. -/
def K2 {I : Fp → Fp} (hI : Inv1 I) : EC.Crv Fq := ⟨fqR, EC.pinv fpR I, fq4, fun a h => EC.pinv_mul fpR I hI fp_norm a h, fq_cube, fq_one, fq_two⟩
end Rg
end Go.Proofs.YtaomlijondiaoaaGreatDoor
end
section
namespace Go.Proofs.YtaomlijondiaoaaGreatDoor
namespace EC
section
variable {β : Type _} (O : Ops β)
def ptog (b : β) (p q : Tri β) : Tri β :=
 let xx := O.mul p.1 q.1
 let yy := O.mul p.2.1 q.2.1
 let zz := O.mul p.2.2 q.2.2
 let xy := osub O (O.mul (O.add p.1 p.2.1) (O.add q.1 q.2.1)) (O.add xx yy)
 let yz := osub O (O.mul (O.add p.2.1 p.2.2) (O.add q.2.1 q.2.2)) (O.add yy zz)
 let xz := osub O (O.mul (O.add p.1 p.2.2) (O.add q.1 q.2.2)) (O.add xx zz)
 let xx3 := o3 O xx
 let xz3 := o3 O (O.mul b xz)
 let zz3 := o3 O (O.mul b zz)
 let less := osub O yy zz3
 let more := O.add yy zz3
 (osub O (O.mul less xy) (O.mul yz xz3), O.add (O.mul less more) (O.mul xx3 xz3), O.add (O.mul more yz) (O.mul xx3 xy))
end
section
variable {α : Type} (C : Crv α)
open Ex in
theorem Crv.ptog_eq (A B : Tri α) : ptog (rops C.R) C.b A B = C.tog A B := by
 obtain ⟨x1, y1, z1⟩ := A
 obtain ⟨x2, y2, z2⟩ := B
 refine Prod.ext ?_ (Prod.ext ?_ ?_)
 ·exact ring_f C.R C.b x1 y1 z1 x2 y2 z2 C.b (ptog exo (v 0) (v 1, v 2, v 3) (v 4, v 5, v 6)).1 (EC.tog exo (v 0) (v 1, v 2, v 3) (v 4, v 5, v 6)).1 (by decide +kernel)
 ·exact ring_f C.R C.b x1 y1 z1 x2 y2 z2 C.b (ptog exo (v 0) (v 1, v 2, v 3) (v 4, v 5, v 6)).2.1 (EC.tog exo (v 0) (v 1, v 2, v 3) (v 4, v 5, v 6)).2.1 (by decide +kernel)
 ·exact ring_f C.R C.b x1 y1 z1 x2 y2 z2 C.b (ptog exo (v 0) (v 1, v 2, v 3) (v 4, v 5, v 6)).2.2 (EC.tog exo (v 0) (v 1, v 2, v 3) (v 4, v 5, v 6)).2.2 (by decide +kernel)
end
section
variable {α : Type} [DecidableEq α] (C : Crv α)
open Ex in
theorem Crv.twice_ne {x y : α} (h : C.on (some (x, y))) : C.add (some (x, y)) (some (x, y)) ≠ none := fun e => by
 have h' : C.R.mul y y = side C.R C.b x := h
 have hz := ring_c C.R C.b x x y y h' h' (EC.tog exo (v 0) (v 1, v 3, o) (v 1, v 3, o)).2.2 (m (a (v 3) (v 3)) (m (a (v 3) (v 3)) (a (v 3) (v 3)))) (by decide +kernel)
 have h2 := C.two (C.y_ne h)
 have hn : (C.tog (C.lift (some (x, y))) (C.lift (some (x, y)))).2.2 ≠ C.R.zero := fun e0 => C.ne h2 (C.ne h2 h2) (hz.symm.trans e0)
 unfold Crv.add at e
 rw [C.lower_some hn] at e
 cases e
/-! Digits of a word, and six words: what the rounds come to. -/
theorem Crv.times_step {P : Option (α × α)} (h : C.on P) (n d : Nat) : C.add (C.times P (16 * n)) (C.times P d) = C.times P (16 * n + d) := (C.times_add h _ _).symm
theorem Crv.times_two {P : Option (α × α)} (h : C.on P) (n : Nat) : C.add (C.times P n) (C.times P n) = C.times P (2 * n) := by
 rw [← C.times_add h, show n + n = 2 * n by omega]
theorem Crv.times_sixteen {P : Option (α × α)} (h : C.on P) (n : Nat) {T : Tri α} (hT : C.rep T (C.times P n)) : C.rep (C.twice (C.twice (C.twice (C.twice T)))) (C.times P (16 * n)) := by
 have o := fun k => C.times_on h k
 have h1 := C.rep_twice hT (o n)
 rw [C.times_two h] at h1
 have h2 := C.rep_twice h1 (o _)
 rw [C.times_two h] at h2
 have h3 := C.rep_twice h2 (o _)
 rw [C.times_two h] at h3
 have h4 := C.rep_twice h3 (o _)
 rw [C.times_two h] at h4
 rw [show 16 * n = 2 * (2 * (2 * (2 * n))) by omega]
 exact h4
end
end EC
end Go.Proofs.YtaomlijondiaoaaGreatDoor
end
section
namespace Go.Proofs.YtaomlijondiaoaaGreatDoor
open Go.RowKit
namespace Rg
set_option maxHeartbeats 1000000 in
theorem norm_gen (g n o s a0 a1 f0 f1 q0 q1 z0 z1 r : Nat)
  (c0 : ∀ w, Calls Tryz.prog 173 #[N a0, N a0] w (Rt w (V [f0, f1])))
  (c1 : ∀ w, Calls Tryz.prog 173 #[N a1, N a1] w (Rt w (V [q0, q1])))
  (c2 : ∀ w, Calls Tryz.prog 175 #[V [f0, f1], V [q0, q1]] w (Rt w (V [z0, z1])))
  (c3 : ∀ w, Mm w [(g, zV n o s)] → Calls Tryz.prog 172 #[.agg #[PT g 0], V [z0, z1]] w (Rt w (N r))) (w : World) (hm : Mm w [(g, zV n o s)]) :
  Calls Tryz.prog 168 #[.agg #[PT g 0], V [a0, a1]] w (Rt w (N r)) := by
 have H0 : Hid (_ ∧ _) := ⟨hm, Below.refl w.heap.size w⟩
 clear hm
 have C0 : Hid _ := c0
 have C1 : Hid _ := c1
 have C2 : Hid _ := c2
 have C3 : Hid _ := c3
 clear c0 c1 c2 c3
 go_enter Tryz.func168, Tryz.ntmps168
 refine wp_seq ?_
 refine zD 3 [.made [PT g 0] 167, .made (cel [a0, a1]) 40, .made zero6 24] (sB H0) ?ho1 ?he1
 case ho1 => exact ak (fun γ => ⟨rfl, fun w' => ex_boxF rfl rfl⟩) (ak (fun γ => ⟨rfl, fun w' => ex_boxA rfl rfl⟩) (ak (fun γ => ⟨rfl, fun w' => zL rfl⟩) trivial))
 intro γ w1 l hM hl
 have H1 : Hid (Mm w1 [(γ 0, [PT g 0]), (γ 1, cel [a0, a1]), (γ 2, zero6), (g, zV n o s)] ∧ _) := zS H0 hM (Nat.le_refl _) hl [0, 1, 2] rfl (by decide)
 have o1_0 := zP H0 hM (Nat.le_refl _) hl (i := 0) rfl
 have o1_1 := zP H0 hM (Nat.le_refl _) hl (i := 1) rfl
 have o1_2 := zP H0 hM (Nat.le_refl _) hl (i := 2) rfl
 clear hM hl l
 generalize γ 0 = γ1_0 at H1 o1_0 ⊢
 generalize γ 1 = γ1_1 at H1 o1_1 ⊢
 generalize γ 2 = γ1_2 at H1 o1_2 ⊢
 clear γ
 refine zG rfl (zA (wp_seq ?_))
 refine yC 13 [.quiet (.agg #[PT g 0]), .quiet (PT γ1_1 0), .quiet (N a0), .quiet (PT γ1_1 0), .quiet (N a0), .call (V [f0, f1]), .quiet (PT γ1_1 6), .quiet (N a1), .quiet (PT γ1_1 6), .quiet (N a1), .call (V [q0, q1]), .call (V [z0, z1]), .call (N r)] H1 ?ho2 ?he2
 case ho2 => exact aq (fun w' h => ex_loadF h 0 rfl rfl rfl rfl) (ag (aq (fun w' h => yB (i := 0) h 1 rfl rfl rfl rfl) (ag (aq (fun w' h => yB (i := 0) h 1 rfl rfl rfl rfl) (ac (fun w' h => ⟨173, #[N a0, N a0], zC rfl call173 rfl (zX rfl), C0.out w'⟩) (ag (aq (fun w' h => yB (i := 1) h 1 rfl rfl rfl rfl) (ag (aq (fun w' h => yB (i := 1) h 1 rfl rfl rfl rfl) (ac (fun w' h => ⟨173, #[N a1, N a1], zC rfl call173 rfl (zX rfl), C1.out w'⟩) (ac (fun w' h => ⟨175, #[V [f0, f1], V [q0, q1]], zC rfl call175 rfl (zX rfl), C2.out w'⟩) (ac (fun w' h => ⟨172, #[.agg #[PT g 0], V [z0, z1]], zC rfl call172 rfl (zX rfl), C3.out w' (h.one 3 rfl)⟩) trivial))))))))))))
 intro _ w2 H2
 clear H1
 refine zJ (l := [13]) rfl ?_
 refine zI rfl rfl rfl (zW H2.out.1 2 rfl rfl rfl rfl (Nat.le_of_ble_eq_true rfl)) ?_
 have H3 : Hid (Mm (w2.setCells γ1_2 0 (zB r)) [(γ1_0, [PT g 0]), (γ1_1, cel [a0, a1]), (γ1_2, zB r), (g, zV n o s)] ∧ Below w.heap.size w (w2.setCells γ1_2 0 (zB r))) := ⟨H2.out.1.put 2 (off := 0) (vs := zB r) rfl (Nat.le_of_ble_eq_true rfl), zF _ o1_2.out _ _ _ H2.out.2⟩
 clear H2
 generalize hgw : World.setCells _ _ _ _ = w3 at H3 ⊢
 clear hgw
 refine zH (zA (wp_ret ?_))
 repeat (first | refine zM ?_ | refine zK ?_)
 have c0 := H3.out.1.get 2 rfl 0 rfl
 have c1 := H3.out.1.get 2 rfl 1 rfl
 have c2 := H3.out.1.get 2 rfl 2 rfl
 have c3 := H3.out.1.get 2 rfl 3 rfl
 have c4 := H3.out.1.get 2 rfl 4 rfl
 have c5 := H3.out.1.get 2 rfl 5 rfl
 refine bodyPost_ret (v := N r) (by simp [results, Tryz.results168, go_sem, *]) rfl ?_
 exact ⟨rfl, H3.out.2⟩
set_option maxHeartbeats 1000000 in
theorem inv2_ok (g n o s a0 a1 q x d r0 r1 : Nat)
  (c0 : ∀ w, Mm w [(g, zV n o s)] → Calls Tryz.prog 168 #[.agg #[PT g 0], V [a0, a1]] w (Rt w (N q)))
  (c1 : ∀ w, Mm w [(g, zV n o s), (0, dtab)] → Calls Tryz.prog 86 #[PT g 0, N q] w (Rt w (.tuple #[N x, .int .i64 0])))
  (c2 : ∀ w, Mm w [(g, zV n o s)] → Calls Tryz.prog 85 #[PT g 0, N a0, N x] w (Rt w (N r0)))
  (c3 : ∀ w, Calls Tryz.prog 148 #[N a1] w (Rt w (N d)))
  (c4 : ∀ w, Mm w [(g, zV n o s)] → Calls Tryz.prog 85 #[PT g 0, N d, N x] w (Rt w (N r1))) (w : World) (hm : Mm w [(g, zV n o s), (0, dtab)]) :
  Calls Tryz.prog 147 #[.agg #[PT g 0], V [a0, a1]] w (Rt w (.tuple #[V [r0, r1], .int .i64 0])) := by
 have H0 : Hid (_ ∧ _) := ⟨hm, Below.refl w.heap.size w⟩
 clear hm
 have C0 : Hid _ := c0
 have C1 : Hid _ := c1
 have C2 : Hid _ := c2
 have C3 : Hid _ := c3
 have C4 : Hid _ := c4
 clear c0 c1 c2 c3 c4
 go_enter Tryz.func147, Tryz.ntmps147
 refine wp_seq ?_
 refine zD 4 [.made [PT g 0] 167, .made (cel [a0, a1]) 40, .made (cel [0, 0]) 40, .quiet (.int .i64 0)] (sB H0) ?ho1 ?he1
 case ho1 => exact ak (fun γ => ⟨rfl, fun w' => ex_boxF rfl rfl⟩) (ak (fun γ => ⟨rfl, fun w' => ex_boxA rfl rfl⟩) (ak (fun γ => ⟨rfl, fun w' => ex_madeE2 rfl⟩) (ar trivial)))
 intro γ w1 l hM hl
 have H1 : Hid (Mm w1 [(γ 0, [PT g 0]), (γ 1, cel [a0, a1]), (γ 2, cel [0, 0]), (g, zV n o s), (0, dtab)] ∧ _) := zS H0 hM (Nat.le_refl _) hl [0, 1, 2] rfl (by decide)
 have o1_0 := zP H0 hM (Nat.le_refl _) hl (i := 0) rfl
 have o1_1 := zP H0 hM (Nat.le_refl _) hl (i := 1) rfl
 have o1_2 := zP H0 hM (Nat.le_refl _) hl (i := 2) rfl
 clear hM hl l
 generalize γ 0 = γ1_0 at H1 o1_0 ⊢
 generalize γ 1 = γ1_1 at H1 o1_1 ⊢
 generalize γ 2 = γ1_2 at H1 o1_2 ⊢
 clear γ
 refine zG rfl (zA (wp_seq ?_))
 refine zY 12 [.quiet (PT γ1_0 0), .quiet (PT g 0), .quiet (.agg #[PT g 0]), .quiet (V [a0, a1]), .call (N q), .call (.tuple #[N x, .int .i64 0]), .quiet (.tuple #[N x, .int .i64 0]), .quiet (N x), .quiet (.int .i64 0), .made zero6 24, .laid 9 zero6 (zB x), .quiet (.int .i64 0)] (sB H1) ?ho2 ?he2 (hL := ?hL2)
 case hL2 => exact ⟨⟨_, rfl⟩, trivial⟩
 case ho2 => exact ag (aq (fun w' h => ex_loadQ h 0 rfl rfl rfl rfl) (aq (fun w' h => ex_loadF h 0 rfl rfl rfl rfl) (aq (fun w' h => lA 0 2 h 1 Tryz.isAgg40 Tryz.sizeOf40) (ac (fun w' h => ⟨168, #[.agg #[PT g 0], V [a0, a1]], zC rfl call168 rfl (zX rfl), C0.out w' (h.one 3 rfl)⟩) (ac (fun w' h => ⟨86, #[PT g 0, N q], zC rfl call86 rfl (zX rfl), C1.out w' (h.two 3 4 rfl rfl (by decide))⟩) (ar (ag (ag (ak (fun γ => ⟨rfl, fun w' => zL rfl⟩) (ak (fun γ => ⟨rfl, rfl, rfl, fun w' h => zZ h rfl rfl rfl⟩) (ar trivial)))))))))))
 intro γ w2 l hM hl
 have H2 : Hid (Mm w2 [(γ 9, zB x), (γ1_0, [PT g 0]), (γ1_1, cel [a0, a1]), (γ1_2, cel [0, 0]), (g, zV n o s), (0, dtab)] ∧ _) := zS H1 hM (Nat.le_refl _) hl [9] rfl (by decide)
 have o2_9 := zP H1 hM (Nat.le_refl _) hl (i := 9) rfl
 clear hM hl l H1
 generalize γ 9 = γ2_9 at H2 o2_9 ⊢
 clear γ
 refine zG rfl (zA (wp_seq (wp_seq ?_)))
 refine zE 2 [.quiet (.int .i64 0), .quiet (.bool false)] H2 ?ho3 ?he3
 case ho3 => exact ar (ag trivial)
 intro _ w3 H3
 clear H2
 refine zG rfl (zA (wp_cond_false rfl ?_))
 refine wp_skip (zA (wp_seq ?_))
 refine yC 14 [.quiet (PT γ1_0 0), .quiet (PT g 0), .quiet (PT γ1_1 0), .quiet (N a0), .quiet (N x), .call (N r0), .quiet (PT γ1_0 0), .quiet (PT g 0), .quiet (PT γ1_1 6), .quiet (N a1), .call (N d), .quiet (N x), .call (N r1), .quiet (V [r0, r1])] H3 ?ho4 ?he4
 case ho4 => exact ag (aq (fun w' h => ex_loadQ h 1 rfl rfl rfl rfl) (ag (aq (fun w' h => yB (i := 0) h 2 rfl rfl rfl rfl) (aq (fun w' h => l6 h 0) (ac (fun w' h => ⟨85, #[PT g 0, N a0, N x], zC rfl call85 rfl (zX rfl), C2.out w' (h.one 4 rfl)⟩) (ag (aq (fun w' h => ex_loadQ h 1 rfl rfl rfl rfl) (ag (aq (fun w' h => yB (i := 1) h 2 rfl rfl rfl rfl) (ac (fun w' h => ⟨148, #[N a1], zC rfl call148 rfl (zX rfl), C3.out w'⟩) (aq (fun w' h => l6 h 0) (ac (fun w' h => ⟨85, #[PT g 0, N d, N x], zC rfl call85 rfl (zX rfl), C4.out w' (h.one 4 rfl)⟩) (ak (fun γ => ⟨rfl, fun w' _ => ex_buildE2 rfl rfl rfl⟩) trivial)))))))))))))
 intro _ w4 H4
 clear H3
 refine zJ (l := [14, 15]) rfl ?_
 refine zI rfl rfl rfl (zT (i := 0) (ms := [r0, r1]) H4.out.1 3 rfl rfl rfl rfl Tryz.sizeOf40 (Nat.le_of_ble_eq_true rfl)) ?_
 have H5 : Hid (Mm (w4.setCells γ1_2 (6 * 0) (cel [r0, r1])) [(γ2_9, zB x), (γ1_0, [PT g 0]), (γ1_1, cel [a0, a1]), (γ1_2, cel [r0, r1]), (g, zV n o s), (0, dtab)] ∧ Below w.heap.size w (w4.setCells γ1_2 (6 * 0) (cel [r0, r1]))) := ⟨by
  have h := H4.out.1.put 3 (off := 6 * 0) (vs := cel [r0, r1]) rfl (by simp only [cel_len]; exact Nat.le_of_ble_eq_true rfl)
  rw [zU] at h
  exact h, zF _ o1_2.out _ _ _ H4.out.2⟩
 clear H4
 generalize hgw : World.setCells _ _ _ _ = w5 at H5 ⊢
 clear hgw
 refine zN (d := 5) rfl rfl rfl rfl ?_
 simp only [Act.put, sa, sz, ss]
 refine zH (zA (wp_ret ?_))
 repeat (first | refine zM ?_ | refine zK ?_)
 have hf0 := cel_var (k := 2) H5.out.1 3 rfl Tryz.isAgg40 Tryz.sizeOf40 rfl
 refine bodyPost_ret (v := .tuple #[V [r0, r1], .int .i64 0]) (by simp [results, Tryz.results147, asAddr, Act.eval, hf0]) rfl ?_
 exact ⟨rfl, H5.out.2⟩
end Rg
end Go.Proofs.YtaomlijondiaoaaGreatDoor
end
section
namespace Go.Proofs.YtaomlijondiaoaaGreatDoor
open Go.RowKit
namespace Rg
end Rg
end Go.Proofs.YtaomlijondiaoaaGreatDoor
end
section
namespace Go.Proofs.YtaomlijondiaoaaGreatDoor
open Go.RowKit
namespace Rg
end Rg
end Go.Proofs.YtaomlijondiaoaaGreatDoor
end
section
namespace Go.Proofs.YtaomlijondiaoaaGreatDoor
open Go.RowKit
namespace Rg
set_option maxHeartbeats 1000000 in
theorem invT_ok (n a0 a1 m0 m1 r0 r1 : Nat)
  (c0 : ∀ w, Calls Tryz.prog 145 #[] w fun e w' => Below w.heap.size w w' ∧ ∃ g, e = .returned (.agg #[PT g 0]) ∧ w.heap.size ≤ g ∧ g < w'.heap.size ∧ Blk w' g (zR n))
  (c1 : ∀ w, Calls Tryz.prog 142 #[V [a0, a1]] w (Rt w (V [m0, m1])))
  (c2 : ∀ g w, Mm w [(g, zR n), (0, dtab)] → Calls Tryz.prog 147 #[.agg #[PT g 0], V [m0, m1]] w (Rt w (.tuple #[V [r0, r1], .int .i64 0]))) (w : World) (hm : Mm w [(0, dtab)]) :
  Calls Tryz.prog 106 #[V [a0, a1]] w (Rt w (.tuple #[V [r0, r1], .int .i64 0])) := by
 have H0 : Hid (_ ∧ _) := ⟨hm, Below.refl w.heap.size w⟩
 clear hm
 have C0 : Hid _ := c0
 have C1 : Hid _ := c1
 have C2 : Hid _ := c2
 clear c0 c1 c2
 go_enter Tryz.func106, Tryz.ntmps106
 refine wp_seq ?_
 refine zD 3 [.made (cel [a0, a1]) 40, .made (cel [0, 0]) 40, .quiet (.int .i64 0)] (sB H0) ?ho1 ?he1
 case ho1 => exact ak (fun γ => ⟨rfl, fun w' => ex_boxA rfl rfl⟩) (ak (fun γ => ⟨rfl, fun w' => ex_madeE2 rfl⟩) (ar trivial))
 intro γ w1 l hM hl
 have H1 : Hid (Mm w1 [(γ 0, cel [a0, a1]), (γ 1, cel [0, 0]), (0, dtab)] ∧ _) := zS H0 hM (Nat.le_refl _) hl [0, 1] rfl (by decide)
 have o1_0 := zP H0 hM (Nat.le_refl _) hl (i := 0) rfl
 have o1_1 := zP H0 hM (Nat.le_refl _) hl (i := 1) rfl
 clear hM hl l
 generalize γ 0 = γ1_0 at H1 o1_0 ⊢
 generalize γ 1 = γ1_1 at H1 o1_1 ⊢
 clear γ
 refine zG rfl (zA (wp_seq ?_))
 refine zY 6 [.born (fun g => .agg #[PT g 0]) (zR n), .quiet (V [a0, a1]), .call (V [m0, m1]), .over (.tuple #[V [r0, r1], .int .i64 0]) 0 (zR n), .quiet (V [r0, r1]), .quiet (.int .i64 0)] (sB H1) ?ho2 ?he2 (hL := ?hL2)
 case hL2 => exact ⟨⟨_, rfl⟩, trivial⟩
 case ho2 => exact ak (fun γ => ⟨rfl, fun w' h => ⟨145, #[], zC rfl call145 rfl (zX rfl), C0.out w'⟩⟩) (aq (fun w' h => lA 0 2 h 0 Tryz.isAgg40 Tryz.sizeOf40) (ak (fun γ => ⟨rfl, fun w' h => ⟨142, #[V [a0, a1]], zC rfl call142 rfl (zX rfl), C1.out w'⟩⟩) (ak (fun γ => ⟨rfl, fun u w' h0 hge h1 hb hlt => by have h := Mm.over h0 hge h1 hb hlt; exact ⟨147, #[.agg #[PT (γ 0) 0], V [m0, m1]], zC rfl call147 rfl (zX rfl), C2.out _ w' (h.two 0 3 rfl rfl (by decide))⟩⟩) (ag (ag trivial)))))
 intro γ w2 l hM hl
 have H2 : Hid (Mm w2 [(γ 0, zR n), (γ1_0, cel [a0, a1]), (γ1_1, cel [0, 0]), (0, dtab)] ∧ _) := zS H1 hM (Nat.le_refl _) hl [0] rfl (by decide)
 have o2_0 := zP H1 hM (Nat.le_refl _) hl (i := 0) rfl
 clear hM hl l H1
 generalize γ 0 = γ2_0 at H2 o2_0 ⊢
 clear γ
 refine zJ (l := [6, 7]) rfl ?_
 refine zI rfl rfl rfl (zT (i := 0) (ms := [r0, r1]) H2.out.1 2 rfl rfl rfl rfl Tryz.sizeOf40 (Nat.le_of_ble_eq_true rfl)) ?_
 have H3 : Hid (Mm (w2.setCells γ1_1 (6 * 0) (cel [r0, r1])) [(γ2_0, zR n), (γ1_0, cel [a0, a1]), (γ1_1, cel [r0, r1]), (0, dtab)] ∧ Below w.heap.size w (w2.setCells γ1_1 (6 * 0) (cel [r0, r1]))) := ⟨by
  have h := H2.out.1.put 2 (off := 6 * 0) (vs := cel [r0, r1]) rfl (by simp only [cel_len]; exact Nat.le_of_ble_eq_true rfl)
  rw [zU] at h
  exact h, zF _ o1_1.out _ _ _ H2.out.2⟩
 clear H2
 generalize hgw : World.setCells _ _ _ _ = w3 at H3 ⊢
 clear hgw
 refine zN (d := 3) rfl rfl rfl rfl ?_
 simp only [Act.put, sa, sz, ss]
 refine zH (zA (wp_ret ?_))
 repeat (first | refine zM ?_ | refine zK ?_)
 have hf0 := cel_var (k := 2) H3.out.1 2 rfl Tryz.isAgg40 Tryz.sizeOf40 rfl
 refine bodyPost_ret (v := .tuple #[V [r0, r1], .int .i64 0]) (by simp [results, Tryz.results106, asAddr, Act.eval, hf0]) rfl ?_
 exact ⟨rfl, H3.out.2⟩
end Rg
end Go.Proofs.YtaomlijondiaoaaGreatDoor
end
section
namespace Go.Proofs.YtaomlijondiaoaaGreatDoor
open Go.RowKit
namespace Rg
open NT
theorem pz_big (x : Int) : pz x < big := Nat.lt_trans (pz_lt x) pB_lt
theorem pz_pair (x y : Int) : 0 ≤ (pz x : Int) * (pz y : Int) ∧ (pz x : Int) * (pz y : Int) ≤ (pB : Int) * pB := by
 have h := Nat.mul_le_mul (Nat.le_of_lt (pz_lt x)) (Nat.le_of_lt (pz_lt y))
 rw [← Int.natCast_mul, ← Int.natCast_mul]
 omega
theorem pz_small {i : Nat} (h : i < pB) : pz (i : Int) = i := by rw [pz_nat, Nat.mod_eq_of_lt h]
theorem pz_times (x : Int) {i : Nat} (h : i < pB) : pz x * i % pB = pz (x * (i : Int)) := by rw [pz_mulN, pz_small h]
theorem norm_any {g : Nat} (x y : Int) (w : World) (hm : Mm w [(g, zR pB)]) : Calls Tryz.prog 168 #[.agg #[PT g 0], V [pz x, pz y]] w (Rt w (N (pz (x * x + y * y)))) := by
 have w0 : Wi ((pz x : Int) * pz x + (pz y : Int) * pz y) := by have := pz_pair x x; have := pz_pair y y; unfold Wi; omega
 have c4 := fun w hm => restF_any (g := g) _ w0 w hm
 rw [pz_addmul] at c4
 exact norm_gen g pB _ _ (pz x) (pz y) _ _ _ _ _ _ _ (fun w => timesZ_any (pz x) (pz x) (pz_big x) (pz_big x) w) (fun w => timesZ_any (pz y) (pz y) (pz_big y) (pz_big y) w) (fun w => plusZ_any _ _ w) c4 w hm
theorem unit_gcd {x : Int} (h : ¬ Dv x) : Nat.gcd pB (pz x) = 1 := by
 refine pB_prm.cop (fun hd => h ?_)
 rw [← pz_zero_iff]
 obtain ⟨k, hk⟩ := hd
 have := pz_lt x
 rcases Nat.eq_zero_or_pos k with h0 | h0
 ·rw [hk, h0, Nat.mul_zero]
 ·have := Nat.mul_le_mul (Nat.le_refl pB) h0
  omega
/-- The inverse of what is left of x. -/
def iv (x : Int) : Nat := invm pB (pz x)
theorem iv_lt {x : Int} (h : ¬ Dv x) : iv x < pB := (invm_spec pB_ok (unit_gcd h)).1
theorem inv2F_ok {g : Nat} (x y : Int) (h : ¬ Dv (x * x + y * y)) (w : World) (hm : Mm w [(g, zR pB), (0, dtab)]) : Calls Tryz.prog 147 #[.agg #[PT g 0], V [pz x, pz y]] w (Rt w (.tuple #[V [pz (x * (iv (x * x + y * y) : Int)), pz (-y * (iv (x * x + y * y) : Int))], .int .i64 0])) := by
 have hi := iv_lt h
 have c1 := fun w hm => inv_ok (g := g) pB_ok (pz_big (x * x + y * y)) (unit_gcd h) w hm
 have e1 : invm pB (pz (x * x + y * y)) = iv (x * x + y * y) := rfl
 rw [e1] at c1
 generalize iv (x * x + y * y) = i at *
 have c2 := fun w hm => mulm_any (g := g) pB_ok (pz_big x) (Nat.lt_trans hi pB_lt) w hm
 have c4 := fun w hm => mulm_any (g := g) pB_ok (pz_big (-y)) (Nat.lt_trans hi pB_lt) w hm
 rw [pz_times _ hi] at c2 c4
 exact inv2_ok g pB _ _ (pz x) (pz y) _ i _ _ _ (fun w hm => norm_any x y w hm) c1 c2 (fun w => negated_any y w) c4 w hm
theorem invT_good (a0 a1 : Nat) (h0 : a0 < big) (h1 : a1 < big) (h : ¬ Dv ((a0 : Int) * a0 + (a1 : Int) * a1)) (w : World) (hm : Mm w [(0, dtab)]) : Calls Tryz.prog 106 #[V [a0, a1]] w (Rt w (.tuple #[V [pz ((a0 : Int) * (iv ((a0 : Int) * a0 + (a1 : Int) * a1) : Int)), pz (-(a1 : Int) * (iv ((a0 : Int) * a0 + (a1 : Int) * a1) : Int))], .int .i64 0])) :=
 invT_ok pB a0 a1 _ _ _ _ great_any (fun w => left2_any a0 a1 h0 h1 w) (fun g w hm => inv2F_ok (g := g) _ _ h w hm) w hm
end Rg
end Go.Proofs.YtaomlijondiaoaaGreatDoor
end
section
namespace Go.Proofs.YtaomlijondiaoaaGreatDoor
open Go.RowKit
namespace Rg
open NT
def p0 (a : Fp) : Nat := a.1
def q0 (a : Fq) : Nat := a.1.1
def q1 (a : Fq) : Nat := a.2.1
theorem p0_big (a : Fp) : p0 a < big := Nat.lt_trans a.2 pB_lt
theorem q0_big (a : Fq) : q0 a < big := Nat.lt_trans a.1.2 pB_lt
theorem q1_big (a : Fq) : q1 a < big := Nat.lt_trans a.2.2 pB_lt
theorem sub_val {I : Fp → Fp} (hI : Inv1 I) (x y : Fp) : subm pB (p0 x) (p0 y) = p0 (EC.osub (EC.rops (K1 hI).R) x y) := by
 show (x.1 + (pB - y.1 % pB)) % pB = (x.1 + (pB - y.1) % pB) % pB
 rw [Nat.mod_eq_of_lt y.2, Nat.add_mod_mod]
theorem iv_I {I : Fp → Fp} (hI : Inv1 I) {x : Fp} (hx : x ≠ fpR.zero) : invm pB (p0 x) = p0 ((K1 hI).inv x) := invm_eq (I x).2 (congrArg Subtype.val (hI x hx))
theorem va_1 {I : Fp → Fp} (hI : Inv1 I) (x y : Fp) : (p0 x + p0 y) % pB = p0 ((K1 hI).R.add x y) := rfl
theorem vm_1 {I : Fp → Fp} (hI : Inv1 I) (x y : Fp) : p0 x * p0 y % pB = p0 ((K1 hI).R.mul x y) := rfl
theorem vz_1 {I : Fp → Fp} (hI : Inv1 I) : p0 (K1 hI).R.zero = 0 := rfl
theorem fd1 {I : Fp → Fp} (hI : Inv1 I) (g : Nat) : Fd1 g p0 (K1 hI).R.add (EC.osub (EC.rops (K1 hI).R)) (K1 hI).R.mul (K1 hI).inv (K1 hI).R.zero where
 ca := fun x y w hm => by
  have h := addm_any (g := g) pB_ok (p0_big x) (p0_big y) w (hm.one 0 rfl)
  rw [va_1 hI] at h
  exact h
 cs := fun x y w hm => by
  have h := subm_any (g := g) pB_ok (p0_big x) (p0_big y) w (hm.one 0 rfl)
  rw [sub_val hI] at h
  exact h
 cm := fun x y w hm => by
  have h := mulm_any (g := g) pB_ok (p0_big x) (p0_big y) w (hm.one 0 rfl)
  rw [vm_1 hI] at h
  exact h
 cz := fun x w hm => by
  have h := subm_any (g := g) pB_ok (p0_big (K1 hI).R.zero) (p0_big x) w (hm.one 0 rfl)
  rw [sub_val hI, vz_1 hI] at h
  exact h
 ci := fun x w hx hm => by
  have h := inv_ok (g := g) pB_ok (p0_big x) (fp_gcd hx) w hm
  rw [iv_I hI hx] at h
  exact h
theorem cg_pz {a : Fp} {x : Int} (h : Cg a x) : pz x = a.1 := by
 have e := (pz_iff (a.1 : Int) x).2 h
 rw [← e, pz_nat, Nat.mod_eq_of_lt a.2]
theorem fq_zero {a : Fq} (h : a ≠ fqR.zero) : ¬ Dv ((q0 a : Int) * q0 a + (q1 a : Int) * q1 a) := fun hd => h (by
 obtain ⟨h1, h2⟩ := norm0 hd
 have z : ∀ c : Fp, Dv (c.1 : Int) → c = fpR.zero := fun c hc => by
  refine Subtype.ext ?_
  show c.1 = 0
  rcases Nat.eq_zero_or_pos c.1 with h0 | h0
  ·exact h0
  ·exact absurd hc (not_dv h0 c.2)
 exact Prod.ext (z a.1 h1) (z a.2 h2))
theorem cq0 (x : Fq) : Cg x.1 (q0 x : Int) := cg_self x.1
theorem cq1 (x : Fq) : Cg x.2 (q1 x : Int) := cg_self x.2
theorem va0 {I : Fp → Fp} (hI : Inv1 I) (x y : Fq) : pz ((q0 x : Int) + q0 y) = q0 ((K2 hI).R.add x y) := cg_pz ((cq0 x).add (cq0 y))
theorem va1 {I : Fp → Fp} (hI : Inv1 I) (x y : Fq) : pz ((q1 x : Int) + q1 y) = q1 ((K2 hI).R.add x y) := cg_pz ((cq1 x).add (cq1 y))
theorem vs0 {I : Fp → Fp} (hI : Inv1 I) (x y : Fq) : pz ((q0 x : Int) - q0 y) = q0 (EC.osub (EC.rops (K2 hI).R) x y) := by
 rw [Int.sub_eq_add_neg]
 exact cg_pz ((cq0 x).add (cq0 y).neg)
theorem vs1 {I : Fp → Fp} (hI : Inv1 I) (x y : Fq) : pz ((q1 x : Int) - q1 y) = q1 (EC.osub (EC.rops (K2 hI).R) x y) := by
 rw [Int.sub_eq_add_neg]
 exact cg_pz ((cq1 x).add (cq1 y).neg)
theorem vm0 {I : Fp → Fp} (hI : Inv1 I) (x y : Fq) : pz ((q0 x : Int) * q0 y - (q1 x : Int) * q1 y) = q0 ((K2 hI).R.mul x y) := by
 rw [Int.sub_eq_add_neg]
 exact cg_pz (((cq0 x).mul (cq0 y)).add ((cq1 x).mul (cq1 y)).neg)
theorem vm1 {I : Fp → Fp} (hI : Inv1 I) (x y : Fq) : pz ((q0 x : Int) * q1 y + (q1 x : Int) * q0 y) = q1 ((K2 hI).R.mul x y) := cg_pz (((cq0 x).mul (cq1 y)).add ((cq1 x).mul (cq0 y)))
theorem vz0 {I : Fp → Fp} (hI : Inv1 I) : q0 (K2 hI).R.zero = 0 := rfl
theorem vz1 {I : Fp → Fp} (hI : Inv1 I) : q1 (K2 hI).R.zero = 0 := rfl
theorem vn (x : Fq) : Cg (fpR.add (fpR.mul x.1 x.1) (fpR.mul x.2 x.2)) ((q0 x : Int) * q0 x + (q1 x : Int) * q1 x) := ((cq0 x).mul (cq0 x)).add ((cq1 x).mul (cq1 x))
theorem vi {I : Fp → Fp} (hI : Inv1 I) {x : Fq} (hx : x ≠ fqR.zero) : iv ((q0 x : Int) * q0 x + (q1 x : Int) * q1 x) = p0 (I (fpR.add (fpR.mul x.1 x.1) (fpR.mul x.2 x.2))) := by
 have hn : fpR.add (fpR.mul x.1 x.1) (fpR.mul x.2 x.2) ≠ fpR.zero := fun e => fq_zero hx ((vn x).zero e)
 unfold iv
 rw [cg_pz (vn x)]
 exact iv_I hI hn
theorem vi0 {I : Fp → Fp} (hI : Inv1 I) (x : Fq) : pz ((q0 x : Int) * (p0 (I (fpR.add (fpR.mul x.1 x.1) (fpR.mul x.2 x.2))) : Int)) = q0 ((K2 hI).inv x) := cg_pz ((cq0 x).mul (cg_self (I (fpR.add (fpR.mul x.1 x.1) (fpR.mul x.2 x.2)))))
theorem vi1 {I : Fp → Fp} (hI : Inv1 I) (x : Fq) : pz (-(q1 x : Int) * (p0 (I (fpR.add (fpR.mul x.1 x.1) (fpR.mul x.2 x.2))) : Int)) = q1 ((K2 hI).inv x) := by
 rw [Int.neg_mul]
 exact cg_pz ((cq1 x).mul (cg_self (I (fpR.add (fpR.mul x.1 x.1) (fpR.mul x.2 x.2))))).neg
theorem fd2 {I : Fp → Fp} (hI : Inv1 I) : Fd2 q0 q1 (K2 hI).R.add (EC.osub (EC.rops (K2 hI).R)) (K2 hI).R.mul (K2 hI).inv (K2 hI).R.zero where
 ca := fun x y w _ => by
  have h := add2_any (q0 x) (q1 x) (q0 y) (q1 y) (q0_big x) (q1_big x) (q0_big y) (q1_big y) w
  rw [va0 hI, va1 hI] at h
  exact h
 cs := fun x y w _ => by
  have h := sub2_any (q0 x) (q1 x) (q0 y) (q1 y) (q0_big x) (q1_big x) (q0_big y) (q1_big y) w
  rw [vs0 hI, vs1 hI] at h
  exact h
 cm := fun x y w _ => by
  have h := mulT_any (q0 x) (q1 x) (q0 y) (q1 y) (q0_big x) (q1_big x) (q0_big y) (q1_big y) w
  rw [vm0 hI, vm1 hI] at h
  exact h
 cz := fun x w _ => by
  have h := sub2_any (q0 (K2 hI).R.zero) (q1 (K2 hI).R.zero) (q0 x) (q1 x) (q0_big _) (q1_big _) (q0_big x) (q1_big x) w
  rw [vs0 hI, vs1 hI, vz0 hI, vz1 hI] at h
  exact h
 ci := fun x w hx hm => by
  have h := invT_good (q0 x) (q1 x) (q0_big x) (q1_big x) (fq_zero hx) w hm
  rw [vi hI hx, vi0 hI, vi1 hI] at h
  exact h
end Rg
end Go.Proofs.YtaomlijondiaoaaGreatDoor
end
section
namespace Go.Proofs.YtaomlijondiaoaaGreatDoor
open Go.RowKit
namespace Rg
open NT
abbrev GV1 (g : Nat) (tn : Value) : Value := .agg (G1 g tn 1 4).toArray
abbrev t1 (T : EC.Tri Fp) : List Nat := [p0 T.1, p0 T.2.1, p0 T.2.2]
def c1x : Option (Fp × Fp) → Nat
 | none => 0
 | some (x, _) => p0 x
def c1y : Option (Fp × Fp) → Nat
 | none => 0
 | some (_, y) => p0 y
def c1z : Option (Fp × Fp) → Bool
 | none => true
 | some _ => false
abbrev pv1 (x y : Nat) (z : Bool) : Value := .agg (cel [x, y] ++ [Value.bool z]).toArray
abbrev enc1 (P : Option (Fp × Fp)) : Value := pv1 (c1x P) (c1y P) (c1z P)
theorem c1x_big (P : Option (Fp × Fp)) : c1x P < big := by
 cases P with
 | none => exact big_pos
 | some q => exact p0_big _
theorem c1y_big (P : Option (Fp × Fp)) : c1y P < big := by
 cases P with
 | none => exact big_pos
 | some q => exact p0_big _
theorem togE_1 {I : Fp → Fp} (hI : Inv1 I) {g : Nat} {tn : Value} (A B : EC.Tri Fp) (w : World) (hm : Mm w [(g, zR pB), (0, dtab)]) : Calls Tryz.prog 94 #[(GV1 g tn), V (t1 A), V (t1 B)] w (Rt w (V (t1 ((K1 hI).tog A B)))) := by
 have h := togetherV_1 (u := (K1 hI).R.one) (b := (K1 hI).b) (tn := tn) (fd1 hI g) A.1 A.2.1 A.2.2 B.1 B.2.1 B.2.2 _ _ _ _ _ _ _ _ _ _ _ _ _ _ _ _ _ _ _ _ _ _ _ _ _ _ _ _ _ _ _ _ _ _ rfl rfl rfl rfl rfl rfl rfl rfl rfl rfl rfl rfl rfl rfl rfl rfl rfl rfl rfl rfl rfl rfl rfl rfl rfl rfl rfl rfl rfl rfl rfl rfl rfl rfl w hm
 rw [← (K1 hI).ptog_eq A B]
 exact h
theorem zeroE_1 {I : Fp → Fp} (hI : Inv1 I) {g : Nat} {tn : Value} (w : World) (hm : Mm w [(g, zR pB), (0, dtab)]) : Calls Tryz.prog 117 #[(GV1 g tn)] w (Rt w (V (t1 ((K1 hI).lift none)))) := zero_1 (u := (K1 hI).R.one) (b := (K1 hI).b) (tn := tn) (fd1 hI g) w hm
theorem liftE_1 {I : Fp → Fp} (hI : Inv1 I) {g : Nat} {tn : Value} (P : Option (Fp × Fp)) (w : World) (hm : Mm w [(g, zR pB), (0, dtab)]) : Calls Tryz.prog 89 #[(GV1 g tn), enc1 P] w (Rt w (V (t1 ((K1 hI).lift P)))) := by
 rcases P with _ | ⟨x, y⟩
 ·exact liftT_1 (u := (K1 hI).R.one) (b := (K1 hI).b) (tn := tn) (fd1 hI g) 0 0 w hm
 ·exact liftF_1 (u := (K1 hI).R.one) (b := (K1 hI).b) (tn := tn) (fd1 hI g) (p0 x) (p0 y) w hm
theorem isz_1 (t : Fp) : (p0 t = 0) ↔ t = fpR.zero := ⟨fun h => Subtype.ext h, fun h => by rw [h]; rfl⟩
theorem eqz_1 (t : Fp) {r : Bool} (hr : decide (t = fpR.zero) = r) : ∀ w, (Op.equalIn 10000 24 (N (p0 t)) (N 0)).run Tryz.prog w = .ok r w := fun w => by
 have h := run_eqD 9998 (p0 t) 0 (p0_big t) big_pos w
 rw [← hr, show decide (t = fpR.zero) = decide (p0 t = 0) from decide_eq_decide.2 (isz_1 t).symm]
 exact h
theorem eqe_1 (s t : Fp) {r : Bool} (hr : decide (s = t) = r) : ∀ w, (Op.equalIn 10000 24 (N (p0 s)) (N (p0 t))).run Tryz.prog w = .ok r w := fun w => by
 have h := run_eqD 9998 (p0 s) (p0 t) (p0_big s) (p0_big t) w
 rw [← hr, show decide (s = t) = decide (p0 s = p0 t) from decide_eq_decide.2 ⟨fun e => by rw [e], fun e => Subtype.ext e⟩]
 exact h
theorem twiceE_1 {I : Fp → Fp} (hI : Inv1 I) {g : Nat} {tn : Value} (A : EC.Tri Fp) (w : World) (hm : Mm w [(g, zR pB), (0, dtab)]) : Calls Tryz.prog 134 #[(GV1 g tn), V (t1 A)] w (Rt w (V (t1 ((K1 hI).twice A)))) := by
 unfold EC.Crv.twice
 by_cases hz : A.2.2 = (K1 hI).R.zero
 ·rw [if_pos hz]
  exact twiceT_1 (u := (K1 hI).R.one) (b := (K1 hI).b) (tn := tn) (fd1 hI g) (p0 A.1) (p0 A.2.1) (p0 A.2.2) (eqz_1 _ (decide_eq_true hz)) w hm
 ·rw [if_neg hz]
  exact twiceV_1 (u := (K1 hI).R.one) (b := (K1 hI).b) (tn := tn) (fd1 hI g) A.1 A.2.1 A.2.2 (eqz_1 _ (decide_eq_false hz)) _ _ _ _ _ _ _ _ _ _ _ _ _ _ _ _ _ _ rfl rfl rfl rfl rfl rfl rfl rfl rfl rfl rfl rfl rfl rfl rfl rfl rfl rfl w hm
theorem lowerE_1 {I : Fp → Fp} (hI : Inv1 I) {g : Nat} {tn : Value} (A : EC.Tri Fp) (w : World) (hm : Mm w [(g, zR pB), (0, dtab)]) : Calls Tryz.prog 93 #[(GV1 g tn), V (t1 A)] w (Rt w (enc1 ((K1 hI).lower A))) := by
 by_cases hz : A.2.2 = (K1 hI).R.zero
 ·rw [(K1 hI).lower_none hz]
  exact lowerT_1 (u := (K1 hI).R.one) (b := (K1 hI).b) (tn := tn) (fd1 hI g) (p0 A.1) (p0 A.2.1) (p0 A.2.2) (eqz_1 _ (decide_eq_true hz)) w hm
 ·rw [(K1 hI).lower_some hz]
  exact lowerF_1 (u := (K1 hI).R.one) (b := (K1 hI).b) (tn := tn) (fd1 hI g) A.1 A.2.1 A.2.2 (eqz_1 _ (decide_eq_false hz)) hz w hm
theorem belE_1 (a : Nat) (ha : a < big) (w : World) : Calls Tryz.prog 87 #[N a] w (Rt w (.bool (decide (a < pB)))) :=
 below_gen a pB (cmpv a pB) base_pB (fun w => compare_any a pB ha pB_lt w) (decide (a < pB)) (by
  by_cases h : a < pB
  ·rw [cmp_lt h, decide_eq_true h]
   rfl
  ·rw [decide_eq_false h]
   exact decide_eq_false (cmp_ge h)) w
/-- What the numbers say: a point of the first curve, or none. -/
def rd1 (x y : Nat) (z : Bool) : Option (Option (Fp × Fp)) :=
 if z = true then (if x = 0 ∧ y = 0 then some none else none)
 else if h : x < pB ∧ y < pB then (if EC.side fpR fp4 ⟨x, h.1⟩ = fpR.mul ⟨y, h.2⟩ ⟨y, h.2⟩ then some (some (⟨x, h.1⟩, ⟨y, h.2⟩)) else none) else none
theorem checkE_1 {I : Fp → Fp} (hI : Inv1 I) {g : Nat} {tn : Value} (x y : Nat) (z : Bool) (hx : x < big) (hy : y < big) (w : World) (hm : Mm w [(g, zR pB), (0, dtab)]) : Calls Tryz.prog 48 #[(GV1 g tn), pv1 x y z] w (Rt w (.bool (rd1 x y z).isSome)) := by
 cases z with
 | true =>
  have e : (rd1 x y true).isSome = decide (x = 0 ∧ y = 0) := by
   unfold rd1
   rw [if_pos rfl]
   by_cases h : x = 0 ∧ y = 0
   ·rw [if_pos h, decide_eq_true h]; rfl
   ·rw [if_neg h, decide_eq_false h]; rfl
  refine checkZ_1 (u := (K1 hI).R.one) (b := (K1 hI).b) (tn := tn) (fd1 hI g) x y _ (fun w => ?_) w hm
  have h := run_eqPN x y 0 0 true true hx hy big_pos big_pos w
  rw [e]
  refine h.trans (congrArg (fun q => Result.ok q w) ?_)
  rw [Bool.eq_iff_iff]
  simp
 | false =>
  by_cases hX : x < pB
  ·have bx := fun w (_ : Mm w [(g, zR pB), (0, dtab)]) => belE_1 x hx w
   rw [decide_eq_true hX] at bx
   by_cases hY : y < pB
   ·have by_ := fun w (_ : Mm w [(g, zR pB), (0, dtab)]) => belE_1 y hy w
    rw [decide_eq_true hY] at by_
    have e : (rd1 x y false).isSome = decide (fpR.mul (⟨y, hY⟩ : Fp) (⟨y, hY⟩ : Fp) = EC.side fpR fp4 (⟨x, hX⟩ : Fp)) := by
     unfold rd1
     rw [if_neg (by decide), dif_pos ⟨hX, hY⟩]
     by_cases h : fpR.mul (⟨y, hY⟩ : Fp) (⟨y, hY⟩ : Fp) = EC.side fpR fp4 (⟨x, hX⟩ : Fp)
     ·rw [if_pos h.symm, decide_eq_true h]; rfl
     ·rw [if_neg (fun q => h q.symm), decide_eq_false h]; rfl
    rw [e]
    exact checkB_1 (u := (K1 hI).R.one) (b := (K1 hI).b) (tn := tn) (fd1 hI g) (⟨x, hX⟩ : Fp) (⟨y, hY⟩ : Fp) _ bx by_ (eqe_1 _ _ rfl) w hm
   ·have by_ := fun w (_ : Mm w [(g, zR pB), (0, dtab)]) => belE_1 y hy w
    rw [decide_eq_false hY] at by_
    have e : (rd1 x y false).isSome = false := by
     unfold rd1
     rw [if_neg (by decide), dif_neg (fun q => hY q.2)]; rfl
    rw [e]
    exact checkY_1 (u := (K1 hI).R.one) (b := (K1 hI).b) (tn := tn) (fd1 hI g) x y bx by_ w hm
  ·have bx := fun w (_ : Mm w [(g, zR pB), (0, dtab)]) => belE_1 x hx w
   rw [decide_eq_false hX] at bx
   have e : (rd1 x y false).isSome = false := by
    unfold rd1
    rw [if_neg (by decide), dif_neg (fun q => hX q.1)]; rfl
   rw [e]
   exact checkX_1 (u := (K1 hI).R.one) (b := (K1 hI).b) (tn := tn) (fd1 hI g) x y bx w hm
theorem rd1_of {I : Fp → Fp} (hI : Inv1 I) {P : Option (Fp × Fp)} (h : (K1 hI).on P) : rd1 (c1x P) (c1y P) (c1z P) = some P := by
 rcases P with _ | ⟨x, y⟩
 ·rfl
 ·have hs : (K1 hI).R.mul y y = EC.side (K1 hI).R (K1 hI).b x := h
  unfold rd1
  rw [if_neg (by show ¬ false = true; decide), dif_pos ⟨x.2, y.2⟩]
  exact if_pos hs.symm
theorem ckE_1 {I : Fp → Fp} (hI : Inv1 I) {g : Nat} {tn : Value} {P : Option (Fp × Fp)} (hP : (K1 hI).on P) (w : World) (hm : Mm w [(g, zR pB), (0, dtab)]) : Calls Tryz.prog 48 #[(GV1 g tn), enc1 P] w (Rt w (.bool true)) := by
 have h := checkE_1 hI (g := g) (tn := tn) (c1x P) (c1y P) (c1z P) (c1x_big P) (c1y_big P) w hm
 rw [rd1_of hI hP] at h
 exact h
theorem joinE_1 {I : Fp → Fp} (hI : Inv1 I) {g : Nat} {tn : Value} {P Q : Option (Fp × Fp)} (hP : (K1 hI).on P) (hQ : (K1 hI).on Q) (w : World) (hm : Mm w [(g, zR pB), (0, dtab)]) : Calls Tryz.prog 53 #[(GV1 g tn), enc1 P, enc1 Q] w (Rt w (.tuple #[enc1 ((K1 hI).add P Q), .int .i64 0])) :=
 joinY_1 (u := (K1 hI).R.one) (b := (K1 hI).b) (tn := tn) (fd1 hI g) (c1x P) (c1y P) (c1x Q) (c1y Q) (c1z P) (c1z Q) (c1z ((K1 hI).add P Q)) ((K1 hI).lift P).1 ((K1 hI).lift P).2.1 ((K1 hI).lift P).2.2 ((K1 hI).lift Q).1 ((K1 hI).lift Q).2.1 ((K1 hI).lift Q).2.2 ((K1 hI).tog ((K1 hI).lift P) ((K1 hI).lift Q)).1 ((K1 hI).tog ((K1 hI).lift P) ((K1 hI).lift Q)).2.1 ((K1 hI).tog ((K1 hI).lift P) ((K1 hI).lift Q)).2.2 (c1x ((K1 hI).add P Q)) (c1y ((K1 hI).add P Q))
  (fun w hm => ckE_1 hI hP w hm) (fun w hm => ckE_1 hI hQ w hm) (fun w hm => liftE_1 hI P w hm) (fun w hm => liftE_1 hI Q w hm) (fun w hm => togE_1 hI _ _ w hm) (fun w hm => lowerE_1 hI _ w hm) w hm
theorem firstE (w : World) : Calls Tryz.prog 47 #[] w fun e w' => Below w.heap.size w w' ∧ ∃ g x y, e = .returned (.agg (G1 g (.func (.func 88) #[] #[PT x 0, PT y 0]) 1 4).toArray) ∧ w.heap.size ≤ g ∧ g < w'.heap.size ∧ Blk w' g (zR pB) := first_gen pB 1 4 tr numb_tr (fun w => of_any 1 (by decide) w) (fun w => of_any 4 (by decide) w) base_pB (fun w => new_ok pB_ok w) w
theorem CheckE_1 {I : Fp → Fp} (hI : Inv1 I) (x y : Nat) (z : Bool) (hx : x < big) (hy : y < big) (w : World) (hm : Mm w [(0, dtab)]) : Calls Tryz.prog 10 #[pv1 x y z] w (Rt w (.bool (rd1 x y z).isSome)) :=
 Check_1 1 4 x y z _ firstE (fun g tn w hm => checkE_1 hI (g := g) (tn := tn) x y z hx hy w hm) w hm
theorem CkE_1 {I : Fp → Fp} (hI : Inv1 I) {P : Option (Fp × Fp)} (hP : (K1 hI).on P) (w : World) (hm : Mm w [(0, dtab)]) : Calls Tryz.prog 10 #[enc1 P] w (Rt w (.bool true)) := by
 have h := CheckE_1 hI (c1x P) (c1y P) (c1z P) (c1x_big P) (c1y_big P) w hm
 rw [rd1_of hI hP] at h
 exact h
theorem AddE_1 {I : Fp → Fp} (hI : Inv1 I) {P Q : Option (Fp × Fp)} (hP : (K1 hI).on P) (hQ : (K1 hI).on Q) (w : World) (hm : Mm w [(0, dtab)]) : Calls Tryz.prog 16 #[enc1 P, enc1 Q] w (Rt w (.tuple #[enc1 ((K1 hI).add P Q), .int .i64 0])) :=
 Add_1 1 4 (c1x P) (c1y P) (c1x Q) (c1y Q) (c1x ((K1 hI).add P Q)) (c1y ((K1 hI).add P Q)) (c1z P) (c1z Q) (c1z ((K1 hI).add P Q)) 0 firstE (fun g tn w hm => joinE_1 hI (g := g) (tn := tn) hP hQ w hm) w hm
end Rg
end Go.Proofs.YtaomlijondiaoaaGreatDoor
end
section
namespace Go.Proofs.YtaomlijondiaoaaGreatDoor
open Go.RowKit
namespace Rg
open NT
abbrev GV2 (tn : Value) : Value := .agg (G2 tn 1 0 4 4).toArray
abbrev t2 (T : EC.Tri Fq) : List Nat := [q0 T.1, q1 T.1, q0 T.2.1, q1 T.2.1, q0 T.2.2, q1 T.2.2]
def c2x0 : Option (Fq × Fq) → Nat
 | none => 0
 | some (x, _) => q0 x
def c2x1 : Option (Fq × Fq) → Nat
 | none => 0
 | some (x, _) => q1 x
def c2y0 : Option (Fq × Fq) → Nat
 | none => 0
 | some (_, y) => q0 y
def c2y1 : Option (Fq × Fq) → Nat
 | none => 0
 | some (_, y) => q1 y
def c2z : Option (Fq × Fq) → Bool
 | none => true
 | some _ => false
abbrev pv2 (x0 x1 y0 y1 : Nat) (z : Bool) : Value := .agg (cel [x0, x1, y0, y1] ++ [Value.bool z]).toArray
abbrev enc2 (P : Option (Fq × Fq)) : Value := pv2 (c2x0 P) (c2x1 P) (c2y0 P) (c2y1 P) (c2z P)
theorem c2x0_big (P : Option (Fq × Fq)) : c2x0 P < big := by
 cases P with
 | none => exact big_pos
 | some q => exact q0_big _
theorem c2x1_big (P : Option (Fq × Fq)) : c2x1 P < big := by
 cases P with
 | none => exact big_pos
 | some q => exact q1_big _
theorem c2y0_big (P : Option (Fq × Fq)) : c2y0 P < big := by
 cases P with
 | none => exact big_pos
 | some q => exact q0_big _
theorem c2y1_big (P : Option (Fq × Fq)) : c2y1 P < big := by
 cases P with
 | none => exact big_pos
 | some q => exact q1_big _
theorem togE_2 {I : Fp → Fp} (hI : Inv1 I) {tn : Value} (A B : EC.Tri Fq) (w : World) (hm : Mm w [(0, dtab)]) : Calls Tryz.prog 114 #[(GV2 tn), V (t2 A), V (t2 B)] w (Rt w (V (t2 ((K2 hI).tog A B)))) := by
 have h := togetherV_2 (u := (K2 hI).R.one) (b := (K2 hI).b) (tn := tn) (fd2 hI) A.1 A.2.1 A.2.2 B.1 B.2.1 B.2.2 _ _ _ _ _ _ _ _ _ _ _ _ _ _ _ _ _ _ _ _ _ _ _ _ _ _ _ _ _ _ _ _ _ _ rfl rfl rfl rfl rfl rfl rfl rfl rfl rfl rfl rfl rfl rfl rfl rfl rfl rfl rfl rfl rfl rfl rfl rfl rfl rfl rfl rfl rfl rfl rfl rfl rfl rfl w hm
 rw [← (K2 hI).ptog_eq A B]
 exact h
theorem liftE_2 {I : Fp → Fp} (hI : Inv1 I) {tn : Value} (P : Option (Fq × Fq)) (w : World) (hm : Mm w [(0, dtab)]) : Calls Tryz.prog 110 #[(GV2 tn), enc2 P] w (Rt w (V (t2 ((K2 hI).lift P)))) := by
 rcases P with _ | ⟨x, y⟩
 ·exact liftT_2 (u := (K2 hI).R.one) (b := (K2 hI).b) (tn := tn) (fd2 hI) 0 0 0 0 w hm
 ·exact liftF_2 (u := (K2 hI).R.one) (b := (K2 hI).b) (tn := tn) (fd2 hI) (q0 x) (q1 x) (q0 y) (q1 y) w hm
theorem eqe_2 (s t : Fq) {r : Bool} (hr : decide (s = t) = r) : ∀ w, (Op.equalIn 10000 40 (V [q0 s, q1 s]) (V [q0 t, q1 t])).run Tryz.prog w = .ok r w := fun w => by
 have h := run_eqE2 9997 (q0 s) (q1 s) (q0 t) (q1 t) (q0_big s) (q1_big s) (q0_big t) (q1_big t) w
 have e : (decide (q0 s = q0 t) && decide (q1 s = q1 t)) = decide (s = t) := by
  rw [Bool.eq_iff_iff]
  simp only [Bool.and_eq_true, decide_eq_true_eq]
  exact ⟨fun e => Prod.ext (Subtype.ext e.1) (Subtype.ext e.2), fun e => by rw [e]; exact ⟨rfl, rfl⟩⟩
 rw [← hr, ← e]
 exact h
theorem eqz_2 (t : Fq) {r : Bool} (hr : decide (t = fqR.zero) = r) : ∀ w, (Op.equalIn 10000 40 (V [q0 t, q1 t]) (V [0, 0])).run Tryz.prog w = .ok r w := eqe_2 t fqR.zero hr
theorem lowerE_2 {I : Fp → Fp} (hI : Inv1 I) {tn : Value} (A : EC.Tri Fq) (w : World) (hm : Mm w [(0, dtab)]) : Calls Tryz.prog 113 #[(GV2 tn), V (t2 A)] w (Rt w (enc2 ((K2 hI).lower A))) := by
 by_cases hz : A.2.2 = (K2 hI).R.zero
 ·rw [(K2 hI).lower_none hz]
  exact lowerT_2 (u := (K2 hI).R.one) (b := (K2 hI).b) (tn := tn) (fd2 hI) (q0 A.1) (q1 A.1) (q0 A.2.1) (q1 A.2.1) (q0 A.2.2) (q1 A.2.2) (eqz_2 _ (decide_eq_true hz)) w hm
 ·rw [(K2 hI).lower_some hz]
  exact lowerF_2 (u := (K2 hI).R.one) (b := (K2 hI).b) (tn := tn) (fd2 hI) A.1 A.2.1 A.2.2 (eqz_2 _ (decide_eq_false hz)) hz w hm
theorem belE_2 (a0 a1 : Nat) (h0 : a0 < big) (h1 : a1 < big) (w : World) : Calls Tryz.prog 107 #[V [a0, a1]] w (Rt w (.bool (decide (a0 < pB ∧ a1 < pB)))) := by
 by_cases h : a0 < pB
 ·have hc := fun w => belE_1 a0 h0 w
  rw [decide_eq_true h] at hc
  have e := belowT_gen a0 a1 hc (decide (a1 < pB)) (fun w => belE_1 a1 h1 w) w
  rw [show decide (a0 < pB ∧ a1 < pB) = decide (a1 < pB) from decide_eq_decide.2 ⟨fun q => q.2, fun q => ⟨h, q⟩⟩]
  exact e
 ·have hc := fun w => belE_1 a0 h0 w
  rw [decide_eq_false h] at hc
  have e := belowF_gen a0 a1 hc w
  rw [show decide (a0 < pB ∧ a1 < pB) = false from decide_eq_false (fun q => h q.1)]
  exact e
/-- What the numbers say: a point of the second curve, or none. -/
def rd2 (x0 x1 y0 y1 : Nat) (z : Bool) : Option (Option (Fq × Fq)) :=
 if z = true then (if (x0 = 0 ∧ x1 = 0) ∧ (y0 = 0 ∧ y1 = 0) then some none else none)
 else if h : (x0 < pB ∧ x1 < pB) ∧ (y0 < pB ∧ y1 < pB) then (if EC.side fqR fq4 (⟨x0, h.1.1⟩, ⟨x1, h.1.2⟩) = fqR.mul (⟨y0, h.2.1⟩, ⟨y1, h.2.2⟩) (⟨y0, h.2.1⟩, ⟨y1, h.2.2⟩) then some (some ((⟨x0, h.1.1⟩, ⟨x1, h.1.2⟩), (⟨y0, h.2.1⟩, ⟨y1, h.2.2⟩))) else none) else none
theorem checkE_2 {I : Fp → Fp} (hI : Inv1 I) {tn : Value} (x0 x1 y0 y1 : Nat) (z : Bool) (hx0 : x0 < big) (hx1 : x1 < big) (hy0 : y0 < big) (hy1 : y1 < big) (w : World) (hm : Mm w [(0, dtab)]) : Calls Tryz.prog 63 #[(GV2 tn), pv2 x0 x1 y0 y1 z] w (Rt w (.bool (rd2 x0 x1 y0 y1 z).isSome)) := by
 cases z with
 | true =>
  have e : (rd2 x0 x1 y0 y1 true).isSome = decide ((x0 = 0 ∧ x1 = 0) ∧ (y0 = 0 ∧ y1 = 0)) := by
   unfold rd2
   rw [if_pos rfl]
   by_cases h : (x0 = 0 ∧ x1 = 0) ∧ (y0 = 0 ∧ y1 = 0)
   ·rw [if_pos h, decide_eq_true h]; rfl
   ·rw [if_neg h, decide_eq_false h]; rfl
  refine checkZ_2 (u := (K2 hI).R.one) (b := (K2 hI).b) (tn := tn) (fd2 hI) x0 x1 y0 y1 _ (fun w => ?_) w hm
  have h := run_eqPE x0 x1 y0 y1 0 0 0 0 true true hx0 hx1 hy0 hy1 big_pos big_pos big_pos big_pos w
  rw [e]
  refine h.trans (congrArg (fun q => Result.ok q w) ?_)
  rw [Bool.eq_iff_iff]
  simp
 | false =>
  by_cases hX : x0 < pB ∧ x1 < pB
  ·have bx := fun w (_ : Mm w [(0, dtab)]) => belE_2 x0 x1 hx0 hx1 w
   rw [decide_eq_true hX] at bx
   by_cases hY : y0 < pB ∧ y1 < pB
   ·have by_ := fun w (_ : Mm w [(0, dtab)]) => belE_2 y0 y1 hy0 hy1 w
    rw [decide_eq_true hY] at by_
    have e : (rd2 x0 x1 y0 y1 false).isSome = decide (fqR.mul ((⟨y0, hY.1⟩, ⟨y1, hY.2⟩) : Fq) ((⟨y0, hY.1⟩, ⟨y1, hY.2⟩) : Fq) = EC.side fqR fq4 ((⟨x0, hX.1⟩, ⟨x1, hX.2⟩) : Fq)) := by
     unfold rd2
     rw [if_neg (by decide), dif_pos ⟨hX, hY⟩]
     by_cases h : fqR.mul ((⟨y0, hY.1⟩, ⟨y1, hY.2⟩) : Fq) ((⟨y0, hY.1⟩, ⟨y1, hY.2⟩) : Fq) = EC.side fqR fq4 ((⟨x0, hX.1⟩, ⟨x1, hX.2⟩) : Fq)
     ·rw [if_pos h.symm, decide_eq_true h]; rfl
     ·rw [if_neg (fun q => h q.symm), decide_eq_false h]; rfl
    rw [e]
    exact checkB_2 (u := (K2 hI).R.one) (b := (K2 hI).b) (tn := tn) (fd2 hI) ((⟨x0, hX.1⟩, ⟨x1, hX.2⟩) : Fq) ((⟨y0, hY.1⟩, ⟨y1, hY.2⟩) : Fq) _ bx by_ (eqe_2 _ _ rfl) w hm
   ·have by_ := fun w (_ : Mm w [(0, dtab)]) => belE_2 y0 y1 hy0 hy1 w
    rw [decide_eq_false hY] at by_
    have e : (rd2 x0 x1 y0 y1 false).isSome = false := by
     unfold rd2
     rw [if_neg (by decide), dif_neg (fun q => hY q.2)]; rfl
    rw [e]
    exact checkY_2 (u := (K2 hI).R.one) (b := (K2 hI).b) (tn := tn) (fd2 hI) x0 x1 y0 y1 bx by_ w hm
  ·have bx := fun w (_ : Mm w [(0, dtab)]) => belE_2 x0 x1 hx0 hx1 w
   rw [decide_eq_false hX] at bx
   have e : (rd2 x0 x1 y0 y1 false).isSome = false := by
    unfold rd2
    rw [if_neg (by decide), dif_neg (fun q => hX q.1)]; rfl
   rw [e]
   exact checkX_2 (u := (K2 hI).R.one) (b := (K2 hI).b) (tn := tn) (fd2 hI) x0 x1 y0 y1 bx w hm
theorem rd2_enc {I : Fp → Fp} (hI : Inv1 I) {x0 x1 y0 y1 : Nat} {z : Bool} {P : Option (Fq × Fq)} (h : rd2 x0 x1 y0 y1 z = some P) : pv2 x0 x1 y0 y1 z = enc2 P ∧ (K2 hI).on P := by
 unfold rd2 at h
 split at h
 ·rename_i hz
  split at h
  ·rename_i h0
   injection h with h
   subst h hz
   obtain ⟨⟨rfl, rfl⟩, rfl, rfl⟩ := h0
   exact ⟨rfl, trivial⟩
  ·cases h
 ·rename_i hz
  have hz' : z = false := by cases z with | true => exact absurd rfl hz | false => rfl
  subst hz'
  split at h
  ·rename_i hb
   split at h
   ·rename_i hs
    injection h with h
    subst h
    exact ⟨rfl, hs.symm⟩
   ·cases h
  ·cases h
theorem rd2_of {I : Fp → Fp} (hI : Inv1 I) {P : Option (Fq × Fq)} (h : (K2 hI).on P) : rd2 (c2x0 P) (c2x1 P) (c2y0 P) (c2y1 P) (c2z P) = some P := by
 rcases P with _ | ⟨x, y⟩
 ·rfl
 ·have hs : (K2 hI).R.mul y y = EC.side (K2 hI).R (K2 hI).b x := h
  unfold rd2
  rw [if_neg (by show ¬ false = true; decide), dif_pos ⟨⟨x.1.2, x.2.2⟩, y.1.2, y.2.2⟩]
  exact if_pos hs.symm
theorem ckE_2 {I : Fp → Fp} (hI : Inv1 I) {tn : Value} {P : Option (Fq × Fq)} (hP : (K2 hI).on P) (w : World) (hm : Mm w [(0, dtab)]) : Calls Tryz.prog 63 #[(GV2 tn), enc2 P] w (Rt w (.bool true)) := by
 have h := checkE_2 hI (tn := tn) (c2x0 P) (c2x1 P) (c2y0 P) (c2y1 P) (c2z P) (c2x0_big P) (c2x1_big P) (c2y0_big P) (c2y1_big P) w hm
 rw [rd2_of hI hP] at h
 exact h
theorem negE_2 {I : Fp → Fp} (hI : Inv1 I) {tn : Value} {P : Option (Fq × Fq)} (hP : (K2 hI).on P) (w : World) (hm : Mm w [(0, dtab)]) : Calls Tryz.prog 65 #[(GV2 tn), enc2 P] w (Rt w (.tuple #[enc2 ((K2 hI).neg P), .int .i64 0])) := by
 rcases P with _ | ⟨x, y⟩
 ·have h := negY_2 (u := (K2 hI).R.one) (b := (K2 hI).b) (tn := tn) (fd2 hI) 0 0 (K2 hI).R.zero true (fun w hm => ckE_2 hI (P := none) trivial w hm) w hm
  have e : EC.osub (EC.rops (K2 hI).R) (K2 hI).R.zero (K2 hI).R.zero = (K2 hI).R.zero := (K2 hI).R.add_neg _
  rw [e] at h
  exact h
 ·have h := negY_2 (u := (K2 hI).R.one) (b := (K2 hI).b) (tn := tn) (fd2 hI) (q0 x) (q1 x) y false (fun w hm => ckE_2 hI hP w hm) w hm
  have e : EC.osub (EC.rops (K2 hI).R) (K2 hI).R.zero y = (K2 hI).R.neg y := (K2 hI).R.zero_add _
  rw [e] at h
  exact h
theorem joinE_2 {I : Fp → Fp} (hI : Inv1 I) {tn : Value} {P Q : Option (Fq × Fq)} (hP : (K2 hI).on P) (hQ : (K2 hI).on Q) (w : World) (hm : Mm w [(0, dtab)]) : Calls Tryz.prog 66 #[(GV2 tn), enc2 P, enc2 Q] w (Rt w (.tuple #[enc2 ((K2 hI).add P Q), .int .i64 0])) :=
 joinY_2 (u := (K2 hI).R.one) (b := (K2 hI).b) (tn := tn) (fd2 hI) (c2x0 P) (c2x1 P) (c2y0 P) (c2y1 P) (c2x0 Q) (c2x1 Q) (c2y0 Q) (c2y1 Q) (c2z P) (c2z Q) (c2z ((K2 hI).add P Q)) ((K2 hI).lift P).1 ((K2 hI).lift P).2.1 ((K2 hI).lift P).2.2 ((K2 hI).lift Q).1 ((K2 hI).lift Q).2.1 ((K2 hI).lift Q).2.2 ((K2 hI).tog ((K2 hI).lift P) ((K2 hI).lift Q)).1 ((K2 hI).tog ((K2 hI).lift P) ((K2 hI).lift Q)).2.1 ((K2 hI).tog ((K2 hI).lift P) ((K2 hI).lift Q)).2.2 (c2x0 ((K2 hI).add P Q)) (c2x1 ((K2 hI).add P Q)) (c2y0 ((K2 hI).add P Q)) (c2y1 ((K2 hI).add P Q))
  (fun w hm => ckE_2 hI hP w hm) (fun w hm => ckE_2 hI hQ w hm) (fun w hm => liftE_2 hI P w hm) (fun w hm => liftE_2 hI Q w hm) (fun w hm => togE_2 hI _ _ w hm) (fun w hm => lowerE_2 hI _ w hm) w hm
theorem secondE (w : World) : Calls Tryz.prog 62 #[] w fun e w' => Below w.heap.size w w' ∧ ∃ g x, ∃ _y : Nat, e = .returned (.agg (G2 (.func (.func 108) #[] #[PT g 0, PT x 0]) 1 0 4 4).toArray) ∧ w.heap.size ≤ g ∧ g < w'.heap.size ∧ Blk w' g [] := second_gen 1 4 tx1 ty0 ty1 numb_tx1 numb_ty0 numb_ty1 (fun w => of_any 1 (by decide) w) (fun w => of_any 4 (by decide) w) w
theorem CheckE_2 {I : Fp → Fp} (hI : Inv1 I) (x0 x1 y0 y1 : Nat) (z : Bool) (hx0 : x0 < big) (hx1 : x1 < big) (hy0 : y0 < big) (hy1 : y1 < big) (w : World) (hm : Mm w [(0, dtab)]) : Calls Tryz.prog 23 #[pv2 x0 x1 y0 y1 z] w (Rt w (.bool (rd2 x0 x1 y0 y1 z).isSome)) :=
 Check_2 1 4 x0 x1 y0 y1 z _ secondE (fun tn w hm => checkE_2 hI (tn := tn) x0 x1 y0 y1 z hx0 hx1 hy0 hy1 w hm) w hm
theorem CkE_2 {I : Fp → Fp} (hI : Inv1 I) {P : Option (Fq × Fq)} (hP : (K2 hI).on P) (w : World) (hm : Mm w [(0, dtab)]) : Calls Tryz.prog 23 #[enc2 P] w (Rt w (.bool true)) := by
 have h := CheckE_2 hI (c2x0 P) (c2x1 P) (c2y0 P) (c2y1 P) (c2z P) (c2x0_big P) (c2x1_big P) (c2y0_big P) (c2y1_big P) w hm
 rw [rd2_of hI hP] at h
 exact h
theorem NegE_2 {I : Fp → Fp} (hI : Inv1 I) {P : Option (Fq × Fq)} (hP : (K2 hI).on P) (w : World) (hm : Mm w [(0, dtab)]) : Calls Tryz.prog 28 #[enc2 P] w (Rt w (.tuple #[enc2 ((K2 hI).neg P), .int .i64 0])) :=
 Neg_2 1 4 (c2x0 P) (c2x1 P) (c2y0 P) (c2y1 P) (c2x0 ((K2 hI).neg P)) (c2x1 ((K2 hI).neg P)) (c2y0 ((K2 hI).neg P)) (c2y1 ((K2 hI).neg P)) (c2z P) (c2z ((K2 hI).neg P)) 0 secondE (fun tn w hm => negE_2 hI (tn := tn) hP w hm) w hm
theorem AddE_2 {I : Fp → Fp} (hI : Inv1 I) {P Q : Option (Fq × Fq)} (hP : (K2 hI).on P) (hQ : (K2 hI).on Q) (w : World) (hm : Mm w [(0, dtab)]) : Calls Tryz.prog 29 #[enc2 P, enc2 Q] w (Rt w (.tuple #[enc2 ((K2 hI).add P Q), .int .i64 0])) :=
 Add_2 1 4 (c2x0 P) (c2x1 P) (c2y0 P) (c2y1 P) (c2x0 Q) (c2x1 Q) (c2y0 Q) (c2y1 Q) (c2x0 ((K2 hI).add P Q)) (c2x1 ((K2 hI).add P Q)) (c2y0 ((K2 hI).add P Q)) (c2y1 ((K2 hI).add P Q)) (c2z P) (c2z Q) (c2z ((K2 hI).add P Q)) 0 secondE (fun tn w hm => joinE_2 hI (tn := tn) hP hQ w hm) w hm
end Rg
end Go.Proofs.YtaomlijondiaoaaGreatDoor
end
section
namespace Go.Proofs.YtaomlijondiaoaaGreatDoor
open Go.RowKit
namespace Rg
theorem yD {P : Program} {c : Code} {Q : Exit → Act → World → Prop} {n : Nat} {a : Act} {w : World} (h : c.wp P (Exit.then (Code.rounds P c Q n) Q) a w) : Code.rounds P c Q (n + 1) a w := h
theorem Mm.pick {w : World} {l : List (Nat × List Value)} (h : Mm w l) (js : List Nat) {l' : List (Nat × List Value)} (e : js.map (fun i => l[i]?) = l'.map some) (hn : js.Pairwise (· ≠ ·)) : Mm w l' := by
 have hpw := List.pairwise_iff_getElem.1 h.nd
 have hlen : js.length = l'.length := by
  have := congrArg List.length e
  simpa using this
 have at_ : ∀ (k : Nat) (hk : k < l'.length), l[js[k]'(by omega)]? = some l'[k] := fun k hk => by
  have h2 : (js.map (fun i => l[i]?))[k]? = (l'.map some)[k]? := by rw [e]
  rw [List.getElem?_map, List.getElem?_map, List.getElem?_eq_getElem (show k < js.length by omega), List.getElem?_eq_getElem hk] at h2
  simpa using h2
 refine ⟨fun p hp => ?_, List.pairwise_iff_getElem.2 fun i j hi hj hij => ?_⟩
 ·obtain ⟨k, hk, ek⟩ := List.getElem_of_mem hp
  have := at_ k hk
  rw [ek] at this
  exact h.blk p (List.mem_of_getElem? this)
 ·have h1 := at_ i hi
  have h2 := at_ j hj
  have hne : js[i]'(by omega) ≠ js[j]'(by omega) := (List.pairwise_iff_getElem.1 hn) i j (by omega) (by omega) hij
  obtain ⟨q1, e1⟩ := List.getElem?_eq_some_iff.1 h1
  obtain ⟨q2, e2⟩ := List.getElem?_eq_some_iff.1 h2
  rw [← e1, ← e2]
  rcases Nat.lt_or_gt_of_ne hne with hl | hl
  ·exact hpw _ _ q1 q2 hl
  ·exact (hpw _ _ q2 q1 hl).symm
theorem ex_shl4 {ρ : Operand → Value} {o : Oper} {x y : Operand} {a : Int} {w : World} (ho : o.op = .binOp .shl 22 x y 160) (hx : ρ x = .int .u64 a) (hy : ρ y = .int .u64 4) :
  (execOp ρ o).run Tryz.prog w = .ok (.value (.int .u64 (IntKind.u64.wrap (a * 2 ^ 4)))) w := by
 simp only [execOp, ho, hx, hy]
 clear ho hx hy
 go_simp
theorem ex_shr60 {ρ : Operand → Value} {o : Oper} {x y : Operand} {a : Int} {w : World} (ho : o.op = .binOp .shr 22 x y 160) (hx : ρ x = .int .u64 a) (hy : ρ y = .int .u64 60) :
  (execOp ρ o).run Tryz.prog w = .ok (.value (.int .u64 (a / 2 ^ 60))) w := by
 simp only [execOp, ho, hx, hy]
 clear ho hx hy
 go_simp
theorem ex_mkPN {ρ : Operand → Value} {o : Oper} {x y : Operand} {w : World} (ho : o.op = .makeSlice 115 x y) (hx : ρ x = .int .i64 1) (hy : ρ y = .int .i64 1) :
  (execOp ρ o).run Tryz.prog w = .ok (.value (.slice (some ⟨w.heap.size, 0, none⟩) 1 1)) (w.alloc (.cells (cel [0, 0] ++ [Value.bool false] : List Value).toArray 84)) := by
 simp only [execOp, ho, hx, hy]
 kernel_rfl
theorem ex_mkTN {ρ : Operand → Value} {o : Oper} {x y : Operand} {w : World} (ho : o.op = .makeSlice 171 x y) (hx : ρ x = .int .i64 1) (hy : ρ y = .int .i64 1) :
  (execOp ρ o).run Tryz.prog w = .ok (.value (.slice (some ⟨w.heap.size, 0, none⟩) 1 1)) (w.alloc (.cells (cel [0, 0, 0, 0, 0, 0, 0, 0, 0, 0, 0, 0, 0, 0, 0, 0, 0, 0, 0, 0, 0, 0, 0, 0, 0, 0, 0, 0, 0, 0, 0, 0, 0, 0, 0, 0, 0, 0, 0, 0, 0, 0, 0, 0, 0, 0, 0, 0] : List Value).toArray 173)) := by
 simp only [execOp, ho, hx, hy]
 kernel_rfl
theorem ex_mkU {ρ : Operand → Value} {o : Oper} {x y : Operand} {w : World} (ho : o.op = .makeSlice 91 x y) (hx : ρ x = .int .i64 1) (hy : ρ y = .int .i64 1) :
  (execOp ρ o).run Tryz.prog w = .ok (.value (.slice (some ⟨w.heap.size, 0, none⟩) 1 1)) (w.alloc (.cells ([Value.int .u64 0] : List Value).toArray 22)) := by
 simp only [execOp, ho, hx, hy]
 kernel_rfl
theorem ex_slice115 {ρ : Operand → Value} {o : Oper} {x y z : Operand} {g : Nat} {w : World} (ho : o.op = .slice 115 x (some y) (some z) none) (hx : ρ x = .slice (some ⟨g, 0, none⟩) 1 1) (hy : ρ y = .int .i64 0) (hz : ρ z = .int .i64 1) :
  (execOp ρ o).run Tryz.prog w = .ok (.value (.slice (some ⟨g, 0, none⟩) 1 1)) w := by
 simp only [execOp, ho, hx, hy, hz, Option.map_some, Option.map_none]
 go_simp
theorem ex_slice65 {ρ : Operand → Value} {o : Oper} {x y z : Operand} {g : Nat} {w : World} (ho : o.op = .slice 65 x (some y) (some z) none) (hx : ρ x = .slice (some ⟨g, 0, none⟩) 1 1) (hy : ρ y = .int .i64 0) (hz : ρ z = .int .i64 1) :
  (execOp ρ o).run Tryz.prog w = .ok (.value (.slice (some ⟨g, 0, none⟩) 1 1)) w := by
 simp only [execOp, ho, hx, hy, hz, Option.map_some, Option.map_none]
 go_simp
theorem ex_madeTB1 {ρ : Operand → Value} {o : Oper} {w : World} (ho : o.op = .alloc 173) :
  (execOp ρ o).run Tryz.prog w = .ok (.value (.pointer (some ⟨w.heap.size, 0, none⟩))) (w.alloc (.cells (cel [0, 0, 0, 0, 0, 0, 0, 0, 0, 0, 0, 0, 0, 0, 0, 0, 0, 0, 0, 0, 0, 0, 0, 0, 0, 0, 0, 0, 0, 0, 0, 0, 0, 0, 0, 0, 0, 0, 0, 0, 0, 0, 0, 0, 0, 0, 0, 0]).toArray 173)) := by
 simp only [execOp, ho]
 kernel_rfl
theorem ex_buildTB1 {ρ : Operand → Value} {o : Oper} {x0 x1 : Operand} {a0 a1 a2 b0 b1 b2 : Nat} {w : World} (ho : o.op = .build 173 #[(0, x0), (1, x1)]) (h0 : ρ x0 = V [a0, a1, a2]) (h1 : ρ x1 = V [b0, b1, b2]) : (execOp ρ o).run Tryz.prog w = .ok (.value (V [a0, a1, a2, b0, b1, b2, 0, 0, 0, 0, 0, 0, 0, 0, 0, 0, 0, 0, 0, 0, 0, 0, 0, 0, 0, 0, 0, 0, 0, 0, 0, 0, 0, 0, 0, 0, 0, 0, 0, 0, 0, 0, 0, 0, 0, 0, 0, 0])) w := by
 simp only [execOp, ho, List.map_toArray, List.map_cons, List.map_nil, h0, h1]
 clear ho h0 h1
 kernel_rfl
theorem ex_idxTB1 {ρ : Operand → Value} {o : Oper} {x y : Operand} {g j : Nat} {w : World} (ho : o.op = .indexAddr 173 x y) (hx : ρ x = PT g 0) (hy : ρ y = .int .u64 ((j : Nat) : Int)) (hj : j < 16) :
  (execOp ρ o).run Tryz.prog w = .ok (.value (PT g (6 * (3 * j)))) w := by
 have h1 : (j : Int) < 16 := by omega
 have e : j * 18 = 6 * (3 * j) := by omega
 simp only [execOp, ho, hx, hy]
 clear ho hx hy
 go_simp
/-- A table's numbers. -/
def tb1 (f : Nat → Nat) : List Nat := [f 0, f 1, f 2, f 3, f 4, f 5, f 6, f 7, f 8, f 9, f 10, f 11, f 12, f 13, f 14, f 15, f 16, f 17, f 18, f 19, f 20, f 21, f 22, f 23, f 24, f 25, f 26, f 27, f 28, f 29, f 30, f 31, f 32, f 33, f 34, f 35, f 36, f 37, f 38, f 39, f 40, f 41, f 42, f 43, f 44, f 45, f 46, f 47]
abbrev tbz1 (m : Nat) (f : Nat → Nat) : List Nat := (tb1 f).take m ++ List.replicate (48 - m) 0
theorem tb1_ld (f : Nat → Nat) {j : Nat} (hj : j < 16) : ((tb1 f).drop (3 * j)).take 3 = [f (3 * j), f (3 * j + 1), f (3 * j + 2)] := by
 match j, hj with
 | 0, _ => rfl
 | 1, _ => rfl
 | 2, _ => rfl
 | 3, _ => rfl
 | 4, _ => rfl
 | 5, _ => rfl
 | 6, _ => rfl
 | 7, _ => rfl
 | 8, _ => rfl
 | 9, _ => rfl
 | 10, _ => rfl
 | 11, _ => rfl
 | 12, _ => rfl
 | 13, _ => rfl
 | 14, _ => rfl
 | 15, _ => rfl
 | _ + 16, h => exact absurd h (by omega)
end Rg
end Go.Proofs.YtaomlijondiaoaaGreatDoor
end
section
namespace Go.Proofs.YtaomlijondiaoaaGreatDoor
open Go.RowKit
namespace Rg
set_option maxHeartbeats 8000000 in
theorem tableOf_1 {α : Type} {en : α → Nat} {fa fs fm : α → α → α} {fi : α → α} {z u b : α} {g : Nat} {tn : Value} (_C : Fd1 g en fa fs fm fi z) (f : Nat → Nat) (x y : Nat) (zb : Bool) (cz : ∀ w, Mm w [(g, zR pB), (0, dtab)] → Calls Tryz.prog 117 #[.agg (G1 g tn (en u) (en b)).toArray] w (Rt w (V [f 0, f 1, f 2]))) (cl : ∀ w, Mm w [(g, zR pB), (0, dtab)] → Calls Tryz.prog 89 #[.agg (G1 g tn (en u) (en b)).toArray, .agg (cel [x, y] ++ [Value.bool zb]).toArray] w (Rt w (V [f 3, f 4, f 5]))) (c2 : ∀ w, Mm w [(g, zR pB), (0, dtab)] → Calls Tryz.prog 134 #[.agg (G1 g tn (en u) (en b)).toArray, V [f 3, f 4, f 5]] w (Rt w (V [f 6, f 7, f 8]))) (c3 : ∀ w, Mm w [(g, zR pB), (0, dtab)] → Calls Tryz.prog 94 #[.agg (G1 g tn (en u) (en b)).toArray, V [f 6, f 7, f 8], V [f 3, f 4, f 5]] w (Rt w (V [f 9, f 10, f 11]))) (c4 : ∀ w, Mm w [(g, zR pB), (0, dtab)] → Calls Tryz.prog 134 #[.agg (G1 g tn (en u) (en b)).toArray, V [f 6, f 7, f 8]] w (Rt w (V [f 12, f 13, f 14]))) (c5 : ∀ w, Mm w [(g, zR pB), (0, dtab)] → Calls Tryz.prog 94 #[.agg (G1 g tn (en u) (en b)).toArray, V [f 12, f 13, f 14], V [f 3, f 4, f 5]] w (Rt w (V [f 15, f 16, f 17]))) (c6 : ∀ w, Mm w [(g, zR pB), (0, dtab)] → Calls Tryz.prog 134 #[.agg (G1 g tn (en u) (en b)).toArray, V [f 9, f 10, f 11]] w (Rt w (V [f 18, f 19, f 20]))) (c7 : ∀ w, Mm w [(g, zR pB), (0, dtab)] → Calls Tryz.prog 94 #[.agg (G1 g tn (en u) (en b)).toArray, V [f 18, f 19, f 20], V [f 3, f 4, f 5]] w (Rt w (V [f 21, f 22, f 23]))) (c8 : ∀ w, Mm w [(g, zR pB), (0, dtab)] → Calls Tryz.prog 134 #[.agg (G1 g tn (en u) (en b)).toArray, V [f 12, f 13, f 14]] w (Rt w (V [f 24, f 25, f 26]))) (c9 : ∀ w, Mm w [(g, zR pB), (0, dtab)] → Calls Tryz.prog 94 #[.agg (G1 g tn (en u) (en b)).toArray, V [f 24, f 25, f 26], V [f 3, f 4, f 5]] w (Rt w (V [f 27, f 28, f 29]))) (c10 : ∀ w, Mm w [(g, zR pB), (0, dtab)] → Calls Tryz.prog 134 #[.agg (G1 g tn (en u) (en b)).toArray, V [f 15, f 16, f 17]] w (Rt w (V [f 30, f 31, f 32]))) (c11 : ∀ w, Mm w [(g, zR pB), (0, dtab)] → Calls Tryz.prog 94 #[.agg (G1 g tn (en u) (en b)).toArray, V [f 30, f 31, f 32], V [f 3, f 4, f 5]] w (Rt w (V [f 33, f 34, f 35]))) (c12 : ∀ w, Mm w [(g, zR pB), (0, dtab)] → Calls Tryz.prog 134 #[.agg (G1 g tn (en u) (en b)).toArray, V [f 18, f 19, f 20]] w (Rt w (V [f 36, f 37, f 38]))) (c13 : ∀ w, Mm w [(g, zR pB), (0, dtab)] → Calls Tryz.prog 94 #[.agg (G1 g tn (en u) (en b)).toArray, V [f 36, f 37, f 38], V [f 3, f 4, f 5]] w (Rt w (V [f 39, f 40, f 41]))) (c14 : ∀ w, Mm w [(g, zR pB), (0, dtab)] → Calls Tryz.prog 134 #[.agg (G1 g tn (en u) (en b)).toArray, V [f 21, f 22, f 23]] w (Rt w (V [f 42, f 43, f 44]))) (c15 : ∀ w, Mm w [(g, zR pB), (0, dtab)] → Calls Tryz.prog 94 #[.agg (G1 g tn (en u) (en b)).toArray, V [f 42, f 43, f 44], V [f 3, f 4, f 5]] w (Rt w (V [f 45, f 46, f 47]))) (w : World) (hm : Mm w [(g, zR pB), (0, dtab)]) :
  Calls Tryz.prog 152 #[.agg (G1 g tn (en u) (en b)).toArray, .agg (cel [x, y] ++ [Value.bool zb]).toArray] w (Rt w (V (tb1 f))) := by
 have H0 : Hid (_ ∧ _) := ⟨hm, Below.refl w.heap.size w⟩
 clear hm
 have CZ : Hid _ := cz
 clear cz
 have CL : Hid _ := cl
 clear cl
 have C2 : Hid _ := c2
 clear c2
 have C3 : Hid _ := c3
 clear c3
 have C4 : Hid _ := c4
 clear c4
 have C5 : Hid _ := c5
 clear c5
 have C6 : Hid _ := c6
 clear c6
 have C7 : Hid _ := c7
 clear c7
 have C8 : Hid _ := c8
 clear c8
 have C9 : Hid _ := c9
 clear c9
 have C10 : Hid _ := c10
 clear c10
 have C11 : Hid _ := c11
 clear c11
 have C12 : Hid _ := c12
 clear c12
 have C13 : Hid _ := c13
 clear c13
 have C14 : Hid _ := c14
 clear c14
 have C15 : Hid _ := c15
 clear c15
 go_enter Tryz.func152, Tryz.ntmps152
 refine wp_seq ?_
 refine zD 3 [.made (G1 g tn (en u) (en b)) 81, .made (cel [x, y] ++ [Value.bool zb]) 84, .made (cel [0, 0, 0, 0, 0, 0, 0, 0, 0, 0, 0, 0, 0, 0, 0, 0, 0, 0, 0, 0, 0, 0, 0, 0, 0, 0, 0, 0, 0, 0, 0, 0, 0, 0, 0, 0, 0, 0, 0, 0, 0, 0, 0, 0, 0, 0, 0, 0]) 173] (sB H0) ?ho1 ?he1
 case ho1 => exact ak (fun γ => ⟨rfl, fun w' => yA rfl rfl⟩) (ak (fun γ => ⟨rfl, fun w' => yA rfl rfl⟩) (ak (fun γ => ⟨rfl, fun w' => ex_madeTB1 rfl⟩) trivial))
 intro γ w1 l hM hl
 have H1 : Hid (Mm w1 [(γ 0, G1 g tn (en u) (en b)), (γ 1, cel [x, y] ++ [Value.bool zb]), (γ 2, cel [0, 0, 0, 0, 0, 0, 0, 0, 0, 0, 0, 0, 0, 0, 0, 0, 0, 0, 0, 0, 0, 0, 0, 0, 0, 0, 0, 0, 0, 0, 0, 0, 0, 0, 0, 0, 0, 0, 0, 0, 0, 0, 0, 0, 0, 0, 0, 0]), (g, zR pB), (0, dtab)] ∧ _) := zS H0 hM (Nat.le_refl _) hl [0, 1, 2] rfl (by decide)
 have o1_0 := zP H0 hM (Nat.le_refl _) hl (i := 0) rfl
 have o1_1 := zP H0 hM (Nat.le_refl _) hl (i := 1) rfl
 have o1_2 := zP H0 hM (Nat.le_refl _) hl (i := 2) rfl
 clear hM hl l
 generalize γ 0 = γ1_0 at H1 o1_0 ⊢
 generalize γ 1 = γ1_1 at H1 o1_1 ⊢
 generalize γ 2 = γ1_2 at H1 o1_2 ⊢
 clear γ
 refine zG rfl (zA (wp_seq ?_))
 refine zY 8 [.quiet (.agg (G1 g tn (en u) (en b)).toArray), .call (V [f 0, f 1, f 2]), .quiet (.agg (G1 g tn (en u) (en b)).toArray), .quiet (.agg (cel [x, y] ++ [Value.bool zb]).toArray), .call (V [f 3, f 4, f 5]), .quiet (V (tbz1 6 f)), .made (cel [0, 0, 0, 0, 0, 0, 0, 0, 0, 0, 0, 0, 0, 0, 0, 0, 0, 0, 0, 0, 0, 0, 0, 0, 0, 0, 0, 0, 0, 0, 0, 0, 0, 0, 0, 0, 0, 0, 0, 0, 0, 0, 0, 0, 0, 0, 0, 0]) 173, .laid 6 (cel [0, 0, 0, 0, 0, 0, 0, 0, 0, 0, 0, 0, 0, 0, 0, 0, 0, 0, 0, 0, 0, 0, 0, 0, 0, 0, 0, 0, 0, 0, 0, 0, 0, 0, 0, 0, 0, 0, 0, 0, 0, 0, 0, 0, 0, 0, 0, 0]) (cel (tbz1 6 f))] (sB H1) ?ho2 ?he2 (hL := ?hL2)
 case hL2 => exact ⟨⟨_, rfl⟩, trivial⟩
 case ho2 => exact aq (fun w' h => lT h 0 Tryz.isAgg81 Tryz.sizeOf81) (ac (fun w' h => ⟨117, #[.agg (G1 g tn (en u) (en b)).toArray], zC rfl call117 rfl (zX rfl), CZ.out w' (h.two 3 4 rfl rfl (by decide))⟩) (aq (fun w' h => lT h 0 Tryz.isAgg81 Tryz.sizeOf81) (aq (fun w' h => lT h 1 Tryz.isAgg84 Tryz.sizeOf84) (ac (fun w' h => ⟨89, #[.agg (G1 g tn (en u) (en b)).toArray, .agg (cel [x, y] ++ [Value.bool zb]).toArray], zC rfl call89 rfl (zX rfl), CL.out w' (h.two 3 4 rfl rfl (by decide))⟩) (ak (fun γ => ⟨rfl, fun w' _ => ex_buildTB1 rfl rfl rfl⟩) (ak (fun γ => ⟨rfl, fun w' => ex_madeTB1 rfl⟩) (ak (fun γ => ⟨rfl, rfl, rfl, fun w' h => ex_laidA h rfl Tryz.sizeOf173 rfl rfl rfl⟩) trivial)))))))
 intro γ w2 l hM hl
 have H2 : Hid (Mm w2 [(γ 6, cel (tbz1 6 f)), (γ1_0, G1 g tn (en u) (en b)), (γ1_1, cel [x, y] ++ [Value.bool zb]), (γ1_2, cel [0, 0, 0, 0, 0, 0, 0, 0, 0, 0, 0, 0, 0, 0, 0, 0, 0, 0, 0, 0, 0, 0, 0, 0, 0, 0, 0, 0, 0, 0, 0, 0, 0, 0, 0, 0, 0, 0, 0, 0, 0, 0, 0, 0, 0, 0, 0, 0]), (g, zR pB), (0, dtab)] ∧ _) := zS H1 hM (Nat.le_refl _) hl [6] rfl (by decide)
 have o2_6 := zP H1 hM (Nat.le_refl _) hl (i := 6) rfl
 clear hM hl l H1
 generalize γ 6 = γ2_6 at H2 o2_6 ⊢
 clear γ
 refine zG rfl (zA (wp_seq (wp_seq ?_)))
 refine zE 1 [.quiet (.int .i64 2)] H2 ?ho3 ?he3
 case ho3 => exact ar trivial
 intro _ w3 H3
 clear H2
 refine zG rfl (zA (wp_block ?_))
 refine wp_loop_rounds 8 ?_
 refine yD (n := 7) ?_
 refine wp_seq (wp_seq ?_)
 refine zE 2 [.quiet (.int .i64 2), .quiet (.bool true)] H3 ?ho4 ?he4
 case ho4 => exact ar (ag trivial)
 intro _ w4 H4
 clear H3
 refine zG rfl (zA (wp_cond_true rfl ?_))
 refine wp_skip (zA ?_)
 refine wp_seq (wp_block (wp_seq ?_))
 refine yC 8 [.quiet (.int .i64 2), .quiet (.agg (G1 g tn (en u) (en b)).toArray), .quiet (.int .i64 2), .quiet (.int .i64 1), .quiet (PT γ2_6 18), .quiet (V [f 3, f 4, f 5]), .call (V [f 6, f 7, f 8]), .quiet (PT γ2_6 36)] H4 ?ho5 ?he5
 case ho5 => exact ar (aq (fun w' h => lT h 1 Tryz.isAgg81 Tryz.sizeOf81) (ar (ak (fun γ => ⟨rfl, fun w' _ => by kernel_rfl⟩) (ag (aq (fun w' h => lA 3 3 h 0 Tryz.isAgg124 Tryz.sizeOf124) (ac (fun w' h => ⟨134, #[.agg (G1 g tn (en u) (en b)).toArray, V [f 3, f 4, f 5]], zC rfl call134 rfl (zX rfl), C2.out w' (h.two 4 5 rfl rfl (by decide))⟩) (ag trivial)))))))
 intro _ w5 H5
 clear H4
 refine zJ (l := [8]) rfl ?_
 refine zI rfl rfl rfl (zT (i := 6) (ms := [f 6, f 7, f 8]) H5.out.1 0 rfl rfl rfl rfl Tryz.sizeOf124 (Nat.le_of_ble_eq_true rfl)) ?_
 have H6 : Hid (Mm (w5.setCells γ2_6 (6 * 6) (cel [f 6, f 7, f 8])) [(γ2_6, cel (tbz1 9 f)), (γ1_0, G1 g tn (en u) (en b)), (γ1_1, cel [x, y] ++ [Value.bool zb]), (γ1_2, cel [0, 0, 0, 0, 0, 0, 0, 0, 0, 0, 0, 0, 0, 0, 0, 0, 0, 0, 0, 0, 0, 0, 0, 0, 0, 0, 0, 0, 0, 0, 0, 0, 0, 0, 0, 0, 0, 0, 0, 0, 0, 0, 0, 0, 0, 0, 0, 0]), (g, zR pB), (0, dtab)] ∧ Below w.heap.size w (w5.setCells γ2_6 (6 * 6) (cel [f 6, f 7, f 8]))) := ⟨by
  have h := H5.out.1.put 0 (off := 6 * 6) (vs := cel [f 6, f 7, f 8]) rfl (by simp only [cel_len]; exact Nat.le_of_ble_eq_true rfl)
  rw [zU] at h
  exact h, zF _ o2_6.out _ _ _ H5.out.2⟩
 clear H5
 generalize hgw : World.setCells _ _ _ _ = w6 at H6 ⊢
 clear hgw
 refine zH (zA ?_)
 refine yC 10 [.quiet (.int .i64 2), .quiet (.int .i64 3), .quiet (.agg (G1 g tn (en u) (en b)).toArray), .quiet (.int .i64 2), .quiet (PT γ2_6 36), .quiet (V [f 6, f 7, f 8]), .quiet (PT γ2_6 18), .quiet (V [f 3, f 4, f 5]), .call (V [f 9, f 10, f 11]), .quiet (PT γ2_6 54)] H6 ?ho6 ?he6
 case ho6 => exact ar (ak (fun γ => ⟨rfl, fun w' _ => by kernel_rfl⟩) (aq (fun w' h => lT h 1 Tryz.isAgg81 Tryz.sizeOf81) (ar (ag (aq (fun w' h => lA 6 3 h 0 Tryz.isAgg124 Tryz.sizeOf124) (ag (aq (fun w' h => lA 3 3 h 0 Tryz.isAgg124 Tryz.sizeOf124) (ac (fun w' h => ⟨94, #[.agg (G1 g tn (en u) (en b)).toArray, V [f 6, f 7, f 8], V [f 3, f 4, f 5]], zC rfl call94 rfl (zX rfl), C3.out w' (h.two 4 5 rfl rfl (by decide))⟩) (ag trivial)))))))))
 intro _ w7 H7
 clear H6
 refine zJ (l := [10]) rfl ?_
 refine zI rfl rfl rfl (zT (i := 9) (ms := [f 9, f 10, f 11]) H7.out.1 0 rfl rfl rfl rfl Tryz.sizeOf124 (Nat.le_of_ble_eq_true rfl)) ?_
 have H8 : Hid (Mm (w7.setCells γ2_6 (6 * 9) (cel [f 9, f 10, f 11])) [(γ2_6, cel (tbz1 12 f)), (γ1_0, G1 g tn (en u) (en b)), (γ1_1, cel [x, y] ++ [Value.bool zb]), (γ1_2, cel [0, 0, 0, 0, 0, 0, 0, 0, 0, 0, 0, 0, 0, 0, 0, 0, 0, 0, 0, 0, 0, 0, 0, 0, 0, 0, 0, 0, 0, 0, 0, 0, 0, 0, 0, 0, 0, 0, 0, 0, 0, 0, 0, 0, 0, 0, 0, 0]), (g, zR pB), (0, dtab)] ∧ Below w.heap.size w (w7.setCells γ2_6 (6 * 9) (cel [f 9, f 10, f 11]))) := ⟨by
  have h := H7.out.1.put 0 (off := 6 * 9) (vs := cel [f 9, f 10, f 11]) rfl (by simp only [cel_len]; exact Nat.le_of_ble_eq_true rfl)
  rw [zU] at h
  exact h, zF _ o2_6.out _ _ _ H7.out.2⟩
 clear H7
 generalize hgw : World.setCells _ _ _ _ = w8 at H8 ⊢
 clear hgw
 refine zH (zQ (zA ?_))
 refine zE 2 [.quiet (.int .i64 2), .quiet (.int .i64 4)] H8 ?ho7 ?he7
 case ho7 => exact ar (ak (fun γ => ⟨rfl, fun w' _ => by kernel_rfl⟩) trivial)
 intro _ w9 H9
 clear H8
 refine zJ (l := [2]) rfl ?_
 refine zN (d := 6) rfl rfl rfl rfl ?_
 simp only [Act.put, sa, sz, ss]
 refine zH (zA ?_)
 refine yD (n := 6) ?_
 refine wp_seq (wp_seq ?_)
 refine zE 2 [.quiet (.int .i64 4), .quiet (.bool true)] H9 ?ho8 ?he8
 case ho8 => exact ar (ag trivial)
 intro _ w10 H10
 clear H9
 refine zG rfl (zA (wp_cond_true rfl ?_))
 refine wp_skip (zA ?_)
 refine wp_seq (wp_block (wp_seq ?_))
 refine yC 8 [.quiet (.int .i64 4), .quiet (.agg (G1 g tn (en u) (en b)).toArray), .quiet (.int .i64 4), .quiet (.int .i64 2), .quiet (PT γ2_6 36), .quiet (V [f 6, f 7, f 8]), .call (V [f 12, f 13, f 14]), .quiet (PT γ2_6 72)] H10 ?ho9 ?he9
 case ho9 => exact ar (aq (fun w' h => lT h 1 Tryz.isAgg81 Tryz.sizeOf81) (ar (ak (fun γ => ⟨rfl, fun w' _ => by kernel_rfl⟩) (ag (aq (fun w' h => lA 6 3 h 0 Tryz.isAgg124 Tryz.sizeOf124) (ac (fun w' h => ⟨134, #[.agg (G1 g tn (en u) (en b)).toArray, V [f 6, f 7, f 8]], zC rfl call134 rfl (zX rfl), C4.out w' (h.two 4 5 rfl rfl (by decide))⟩) (ag trivial)))))))
 intro _ w11 H11
 clear H10
 refine zJ (l := [8]) rfl ?_
 refine zI rfl rfl rfl (zT (i := 12) (ms := [f 12, f 13, f 14]) H11.out.1 0 rfl rfl rfl rfl Tryz.sizeOf124 (Nat.le_of_ble_eq_true rfl)) ?_
 have H12 : Hid (Mm (w11.setCells γ2_6 (6 * 12) (cel [f 12, f 13, f 14])) [(γ2_6, cel (tbz1 15 f)), (γ1_0, G1 g tn (en u) (en b)), (γ1_1, cel [x, y] ++ [Value.bool zb]), (γ1_2, cel [0, 0, 0, 0, 0, 0, 0, 0, 0, 0, 0, 0, 0, 0, 0, 0, 0, 0, 0, 0, 0, 0, 0, 0, 0, 0, 0, 0, 0, 0, 0, 0, 0, 0, 0, 0, 0, 0, 0, 0, 0, 0, 0, 0, 0, 0, 0, 0]), (g, zR pB), (0, dtab)] ∧ Below w.heap.size w (w11.setCells γ2_6 (6 * 12) (cel [f 12, f 13, f 14]))) := ⟨by
  have h := H11.out.1.put 0 (off := 6 * 12) (vs := cel [f 12, f 13, f 14]) rfl (by simp only [cel_len]; exact Nat.le_of_ble_eq_true rfl)
  rw [zU] at h
  exact h, zF _ o2_6.out _ _ _ H11.out.2⟩
 clear H11
 generalize hgw : World.setCells _ _ _ _ = w12 at H12 ⊢
 clear hgw
 refine zH (zA ?_)
 refine yC 10 [.quiet (.int .i64 4), .quiet (.int .i64 5), .quiet (.agg (G1 g tn (en u) (en b)).toArray), .quiet (.int .i64 4), .quiet (PT γ2_6 72), .quiet (V [f 12, f 13, f 14]), .quiet (PT γ2_6 18), .quiet (V [f 3, f 4, f 5]), .call (V [f 15, f 16, f 17]), .quiet (PT γ2_6 90)] H12 ?ho10 ?he10
 case ho10 => exact ar (ak (fun γ => ⟨rfl, fun w' _ => by kernel_rfl⟩) (aq (fun w' h => lT h 1 Tryz.isAgg81 Tryz.sizeOf81) (ar (ag (aq (fun w' h => lA 12 3 h 0 Tryz.isAgg124 Tryz.sizeOf124) (ag (aq (fun w' h => lA 3 3 h 0 Tryz.isAgg124 Tryz.sizeOf124) (ac (fun w' h => ⟨94, #[.agg (G1 g tn (en u) (en b)).toArray, V [f 12, f 13, f 14], V [f 3, f 4, f 5]], zC rfl call94 rfl (zX rfl), C5.out w' (h.two 4 5 rfl rfl (by decide))⟩) (ag trivial)))))))))
 intro _ w13 H13
 clear H12
 refine zJ (l := [10]) rfl ?_
 refine zI rfl rfl rfl (zT (i := 15) (ms := [f 15, f 16, f 17]) H13.out.1 0 rfl rfl rfl rfl Tryz.sizeOf124 (Nat.le_of_ble_eq_true rfl)) ?_
 have H14 : Hid (Mm (w13.setCells γ2_6 (6 * 15) (cel [f 15, f 16, f 17])) [(γ2_6, cel (tbz1 18 f)), (γ1_0, G1 g tn (en u) (en b)), (γ1_1, cel [x, y] ++ [Value.bool zb]), (γ1_2, cel [0, 0, 0, 0, 0, 0, 0, 0, 0, 0, 0, 0, 0, 0, 0, 0, 0, 0, 0, 0, 0, 0, 0, 0, 0, 0, 0, 0, 0, 0, 0, 0, 0, 0, 0, 0, 0, 0, 0, 0, 0, 0, 0, 0, 0, 0, 0, 0]), (g, zR pB), (0, dtab)] ∧ Below w.heap.size w (w13.setCells γ2_6 (6 * 15) (cel [f 15, f 16, f 17]))) := ⟨by
  have h := H13.out.1.put 0 (off := 6 * 15) (vs := cel [f 15, f 16, f 17]) rfl (by simp only [cel_len]; exact Nat.le_of_ble_eq_true rfl)
  rw [zU] at h
  exact h, zF _ o2_6.out _ _ _ H13.out.2⟩
 clear H13
 generalize hgw : World.setCells _ _ _ _ = w14 at H14 ⊢
 clear hgw
 refine zH (zQ (zA ?_))
 refine zE 2 [.quiet (.int .i64 4), .quiet (.int .i64 6)] H14 ?ho11 ?he11
 case ho11 => exact ar (ak (fun γ => ⟨rfl, fun w' _ => by kernel_rfl⟩) trivial)
 intro _ w15 H15
 clear H14
 refine zJ (l := [2]) rfl ?_
 refine zN (d := 6) rfl rfl rfl rfl ?_
 simp only [Act.put, sa, sz, ss]
 refine zH (zA ?_)
 refine yD (n := 5) ?_
 refine wp_seq (wp_seq ?_)
 refine zE 2 [.quiet (.int .i64 6), .quiet (.bool true)] H15 ?ho12 ?he12
 case ho12 => exact ar (ag trivial)
 intro _ w16 H16
 clear H15
 refine zG rfl (zA (wp_cond_true rfl ?_))
 refine wp_skip (zA ?_)
 refine wp_seq (wp_block (wp_seq ?_))
 refine yC 8 [.quiet (.int .i64 6), .quiet (.agg (G1 g tn (en u) (en b)).toArray), .quiet (.int .i64 6), .quiet (.int .i64 3), .quiet (PT γ2_6 54), .quiet (V [f 9, f 10, f 11]), .call (V [f 18, f 19, f 20]), .quiet (PT γ2_6 108)] H16 ?ho13 ?he13
 case ho13 => exact ar (aq (fun w' h => lT h 1 Tryz.isAgg81 Tryz.sizeOf81) (ar (ak (fun γ => ⟨rfl, fun w' _ => by kernel_rfl⟩) (ag (aq (fun w' h => lA 9 3 h 0 Tryz.isAgg124 Tryz.sizeOf124) (ac (fun w' h => ⟨134, #[.agg (G1 g tn (en u) (en b)).toArray, V [f 9, f 10, f 11]], zC rfl call134 rfl (zX rfl), C6.out w' (h.two 4 5 rfl rfl (by decide))⟩) (ag trivial)))))))
 intro _ w17 H17
 clear H16
 refine zJ (l := [8]) rfl ?_
 refine zI rfl rfl rfl (zT (i := 18) (ms := [f 18, f 19, f 20]) H17.out.1 0 rfl rfl rfl rfl Tryz.sizeOf124 (Nat.le_of_ble_eq_true rfl)) ?_
 have H18 : Hid (Mm (w17.setCells γ2_6 (6 * 18) (cel [f 18, f 19, f 20])) [(γ2_6, cel (tbz1 21 f)), (γ1_0, G1 g tn (en u) (en b)), (γ1_1, cel [x, y] ++ [Value.bool zb]), (γ1_2, cel [0, 0, 0, 0, 0, 0, 0, 0, 0, 0, 0, 0, 0, 0, 0, 0, 0, 0, 0, 0, 0, 0, 0, 0, 0, 0, 0, 0, 0, 0, 0, 0, 0, 0, 0, 0, 0, 0, 0, 0, 0, 0, 0, 0, 0, 0, 0, 0]), (g, zR pB), (0, dtab)] ∧ Below w.heap.size w (w17.setCells γ2_6 (6 * 18) (cel [f 18, f 19, f 20]))) := ⟨by
  have h := H17.out.1.put 0 (off := 6 * 18) (vs := cel [f 18, f 19, f 20]) rfl (by simp only [cel_len]; exact Nat.le_of_ble_eq_true rfl)
  rw [zU] at h
  exact h, zF _ o2_6.out _ _ _ H17.out.2⟩
 clear H17
 generalize hgw : World.setCells _ _ _ _ = w18 at H18 ⊢
 clear hgw
 refine zH (zA ?_)
 refine yC 10 [.quiet (.int .i64 6), .quiet (.int .i64 7), .quiet (.agg (G1 g tn (en u) (en b)).toArray), .quiet (.int .i64 6), .quiet (PT γ2_6 108), .quiet (V [f 18, f 19, f 20]), .quiet (PT γ2_6 18), .quiet (V [f 3, f 4, f 5]), .call (V [f 21, f 22, f 23]), .quiet (PT γ2_6 126)] H18 ?ho14 ?he14
 case ho14 => exact ar (ak (fun γ => ⟨rfl, fun w' _ => by kernel_rfl⟩) (aq (fun w' h => lT h 1 Tryz.isAgg81 Tryz.sizeOf81) (ar (ag (aq (fun w' h => lA 18 3 h 0 Tryz.isAgg124 Tryz.sizeOf124) (ag (aq (fun w' h => lA 3 3 h 0 Tryz.isAgg124 Tryz.sizeOf124) (ac (fun w' h => ⟨94, #[.agg (G1 g tn (en u) (en b)).toArray, V [f 18, f 19, f 20], V [f 3, f 4, f 5]], zC rfl call94 rfl (zX rfl), C7.out w' (h.two 4 5 rfl rfl (by decide))⟩) (ag trivial)))))))))
 intro _ w19 H19
 clear H18
 refine zJ (l := [10]) rfl ?_
 refine zI rfl rfl rfl (zT (i := 21) (ms := [f 21, f 22, f 23]) H19.out.1 0 rfl rfl rfl rfl Tryz.sizeOf124 (Nat.le_of_ble_eq_true rfl)) ?_
 have H20 : Hid (Mm (w19.setCells γ2_6 (6 * 21) (cel [f 21, f 22, f 23])) [(γ2_6, cel (tbz1 24 f)), (γ1_0, G1 g tn (en u) (en b)), (γ1_1, cel [x, y] ++ [Value.bool zb]), (γ1_2, cel [0, 0, 0, 0, 0, 0, 0, 0, 0, 0, 0, 0, 0, 0, 0, 0, 0, 0, 0, 0, 0, 0, 0, 0, 0, 0, 0, 0, 0, 0, 0, 0, 0, 0, 0, 0, 0, 0, 0, 0, 0, 0, 0, 0, 0, 0, 0, 0]), (g, zR pB), (0, dtab)] ∧ Below w.heap.size w (w19.setCells γ2_6 (6 * 21) (cel [f 21, f 22, f 23]))) := ⟨by
  have h := H19.out.1.put 0 (off := 6 * 21) (vs := cel [f 21, f 22, f 23]) rfl (by simp only [cel_len]; exact Nat.le_of_ble_eq_true rfl)
  rw [zU] at h
  exact h, zF _ o2_6.out _ _ _ H19.out.2⟩
 clear H19
 generalize hgw : World.setCells _ _ _ _ = w20 at H20 ⊢
 clear hgw
 refine zH (zQ (zA ?_))
 refine zE 2 [.quiet (.int .i64 6), .quiet (.int .i64 8)] H20 ?ho15 ?he15
 case ho15 => exact ar (ak (fun γ => ⟨rfl, fun w' _ => by kernel_rfl⟩) trivial)
 intro _ w21 H21
 clear H20
 refine zJ (l := [2]) rfl ?_
 refine zN (d := 6) rfl rfl rfl rfl ?_
 simp only [Act.put, sa, sz, ss]
 refine zH (zA ?_)
 refine yD (n := 4) ?_
 refine wp_seq (wp_seq ?_)
 refine zE 2 [.quiet (.int .i64 8), .quiet (.bool true)] H21 ?ho16 ?he16
 case ho16 => exact ar (ag trivial)
 intro _ w22 H22
 clear H21
 refine zG rfl (zA (wp_cond_true rfl ?_))
 refine wp_skip (zA ?_)
 refine wp_seq (wp_block (wp_seq ?_))
 refine yC 8 [.quiet (.int .i64 8), .quiet (.agg (G1 g tn (en u) (en b)).toArray), .quiet (.int .i64 8), .quiet (.int .i64 4), .quiet (PT γ2_6 72), .quiet (V [f 12, f 13, f 14]), .call (V [f 24, f 25, f 26]), .quiet (PT γ2_6 144)] H22 ?ho17 ?he17
 case ho17 => exact ar (aq (fun w' h => lT h 1 Tryz.isAgg81 Tryz.sizeOf81) (ar (ak (fun γ => ⟨rfl, fun w' _ => by kernel_rfl⟩) (ag (aq (fun w' h => lA 12 3 h 0 Tryz.isAgg124 Tryz.sizeOf124) (ac (fun w' h => ⟨134, #[.agg (G1 g tn (en u) (en b)).toArray, V [f 12, f 13, f 14]], zC rfl call134 rfl (zX rfl), C8.out w' (h.two 4 5 rfl rfl (by decide))⟩) (ag trivial)))))))
 intro _ w23 H23
 clear H22
 refine zJ (l := [8]) rfl ?_
 refine zI rfl rfl rfl (zT (i := 24) (ms := [f 24, f 25, f 26]) H23.out.1 0 rfl rfl rfl rfl Tryz.sizeOf124 (Nat.le_of_ble_eq_true rfl)) ?_
 have H24 : Hid (Mm (w23.setCells γ2_6 (6 * 24) (cel [f 24, f 25, f 26])) [(γ2_6, cel (tbz1 27 f)), (γ1_0, G1 g tn (en u) (en b)), (γ1_1, cel [x, y] ++ [Value.bool zb]), (γ1_2, cel [0, 0, 0, 0, 0, 0, 0, 0, 0, 0, 0, 0, 0, 0, 0, 0, 0, 0, 0, 0, 0, 0, 0, 0, 0, 0, 0, 0, 0, 0, 0, 0, 0, 0, 0, 0, 0, 0, 0, 0, 0, 0, 0, 0, 0, 0, 0, 0]), (g, zR pB), (0, dtab)] ∧ Below w.heap.size w (w23.setCells γ2_6 (6 * 24) (cel [f 24, f 25, f 26]))) := ⟨by
  have h := H23.out.1.put 0 (off := 6 * 24) (vs := cel [f 24, f 25, f 26]) rfl (by simp only [cel_len]; exact Nat.le_of_ble_eq_true rfl)
  rw [zU] at h
  exact h, zF _ o2_6.out _ _ _ H23.out.2⟩
 clear H23
 generalize hgw : World.setCells _ _ _ _ = w24 at H24 ⊢
 clear hgw
 refine zH (zA ?_)
 refine yC 10 [.quiet (.int .i64 8), .quiet (.int .i64 9), .quiet (.agg (G1 g tn (en u) (en b)).toArray), .quiet (.int .i64 8), .quiet (PT γ2_6 144), .quiet (V [f 24, f 25, f 26]), .quiet (PT γ2_6 18), .quiet (V [f 3, f 4, f 5]), .call (V [f 27, f 28, f 29]), .quiet (PT γ2_6 162)] H24 ?ho18 ?he18
 case ho18 => exact ar (ak (fun γ => ⟨rfl, fun w' _ => by kernel_rfl⟩) (aq (fun w' h => lT h 1 Tryz.isAgg81 Tryz.sizeOf81) (ar (ag (aq (fun w' h => lA 24 3 h 0 Tryz.isAgg124 Tryz.sizeOf124) (ag (aq (fun w' h => lA 3 3 h 0 Tryz.isAgg124 Tryz.sizeOf124) (ac (fun w' h => ⟨94, #[.agg (G1 g tn (en u) (en b)).toArray, V [f 24, f 25, f 26], V [f 3, f 4, f 5]], zC rfl call94 rfl (zX rfl), C9.out w' (h.two 4 5 rfl rfl (by decide))⟩) (ag trivial)))))))))
 intro _ w25 H25
 clear H24
 refine zJ (l := [10]) rfl ?_
 refine zI rfl rfl rfl (zT (i := 27) (ms := [f 27, f 28, f 29]) H25.out.1 0 rfl rfl rfl rfl Tryz.sizeOf124 (Nat.le_of_ble_eq_true rfl)) ?_
 have H26 : Hid (Mm (w25.setCells γ2_6 (6 * 27) (cel [f 27, f 28, f 29])) [(γ2_6, cel (tbz1 30 f)), (γ1_0, G1 g tn (en u) (en b)), (γ1_1, cel [x, y] ++ [Value.bool zb]), (γ1_2, cel [0, 0, 0, 0, 0, 0, 0, 0, 0, 0, 0, 0, 0, 0, 0, 0, 0, 0, 0, 0, 0, 0, 0, 0, 0, 0, 0, 0, 0, 0, 0, 0, 0, 0, 0, 0, 0, 0, 0, 0, 0, 0, 0, 0, 0, 0, 0, 0]), (g, zR pB), (0, dtab)] ∧ Below w.heap.size w (w25.setCells γ2_6 (6 * 27) (cel [f 27, f 28, f 29]))) := ⟨by
  have h := H25.out.1.put 0 (off := 6 * 27) (vs := cel [f 27, f 28, f 29]) rfl (by simp only [cel_len]; exact Nat.le_of_ble_eq_true rfl)
  rw [zU] at h
  exact h, zF _ o2_6.out _ _ _ H25.out.2⟩
 clear H25
 generalize hgw : World.setCells _ _ _ _ = w26 at H26 ⊢
 clear hgw
 refine zH (zQ (zA ?_))
 refine zE 2 [.quiet (.int .i64 8), .quiet (.int .i64 10)] H26 ?ho19 ?he19
 case ho19 => exact ar (ak (fun γ => ⟨rfl, fun w' _ => by kernel_rfl⟩) trivial)
 intro _ w27 H27
 clear H26
 refine zJ (l := [2]) rfl ?_
 refine zN (d := 6) rfl rfl rfl rfl ?_
 simp only [Act.put, sa, sz, ss]
 refine zH (zA ?_)
 refine yD (n := 3) ?_
 refine wp_seq (wp_seq ?_)
 refine zE 2 [.quiet (.int .i64 10), .quiet (.bool true)] H27 ?ho20 ?he20
 case ho20 => exact ar (ag trivial)
 intro _ w28 H28
 clear H27
 refine zG rfl (zA (wp_cond_true rfl ?_))
 refine wp_skip (zA ?_)
 refine wp_seq (wp_block (wp_seq ?_))
 refine yC 8 [.quiet (.int .i64 10), .quiet (.agg (G1 g tn (en u) (en b)).toArray), .quiet (.int .i64 10), .quiet (.int .i64 5), .quiet (PT γ2_6 90), .quiet (V [f 15, f 16, f 17]), .call (V [f 30, f 31, f 32]), .quiet (PT γ2_6 180)] H28 ?ho21 ?he21
 case ho21 => exact ar (aq (fun w' h => lT h 1 Tryz.isAgg81 Tryz.sizeOf81) (ar (ak (fun γ => ⟨rfl, fun w' _ => by kernel_rfl⟩) (ag (aq (fun w' h => lA 15 3 h 0 Tryz.isAgg124 Tryz.sizeOf124) (ac (fun w' h => ⟨134, #[.agg (G1 g tn (en u) (en b)).toArray, V [f 15, f 16, f 17]], zC rfl call134 rfl (zX rfl), C10.out w' (h.two 4 5 rfl rfl (by decide))⟩) (ag trivial)))))))
 intro _ w29 H29
 clear H28
 refine zJ (l := [8]) rfl ?_
 refine zI rfl rfl rfl (zT (i := 30) (ms := [f 30, f 31, f 32]) H29.out.1 0 rfl rfl rfl rfl Tryz.sizeOf124 (Nat.le_of_ble_eq_true rfl)) ?_
 have H30 : Hid (Mm (w29.setCells γ2_6 (6 * 30) (cel [f 30, f 31, f 32])) [(γ2_6, cel (tbz1 33 f)), (γ1_0, G1 g tn (en u) (en b)), (γ1_1, cel [x, y] ++ [Value.bool zb]), (γ1_2, cel [0, 0, 0, 0, 0, 0, 0, 0, 0, 0, 0, 0, 0, 0, 0, 0, 0, 0, 0, 0, 0, 0, 0, 0, 0, 0, 0, 0, 0, 0, 0, 0, 0, 0, 0, 0, 0, 0, 0, 0, 0, 0, 0, 0, 0, 0, 0, 0]), (g, zR pB), (0, dtab)] ∧ Below w.heap.size w (w29.setCells γ2_6 (6 * 30) (cel [f 30, f 31, f 32]))) := ⟨by
  have h := H29.out.1.put 0 (off := 6 * 30) (vs := cel [f 30, f 31, f 32]) rfl (by simp only [cel_len]; exact Nat.le_of_ble_eq_true rfl)
  rw [zU] at h
  exact h, zF _ o2_6.out _ _ _ H29.out.2⟩
 clear H29
 generalize hgw : World.setCells _ _ _ _ = w30 at H30 ⊢
 clear hgw
 refine zH (zA ?_)
 refine yC 10 [.quiet (.int .i64 10), .quiet (.int .i64 11), .quiet (.agg (G1 g tn (en u) (en b)).toArray), .quiet (.int .i64 10), .quiet (PT γ2_6 180), .quiet (V [f 30, f 31, f 32]), .quiet (PT γ2_6 18), .quiet (V [f 3, f 4, f 5]), .call (V [f 33, f 34, f 35]), .quiet (PT γ2_6 198)] H30 ?ho22 ?he22
 case ho22 => exact ar (ak (fun γ => ⟨rfl, fun w' _ => by kernel_rfl⟩) (aq (fun w' h => lT h 1 Tryz.isAgg81 Tryz.sizeOf81) (ar (ag (aq (fun w' h => lA 30 3 h 0 Tryz.isAgg124 Tryz.sizeOf124) (ag (aq (fun w' h => lA 3 3 h 0 Tryz.isAgg124 Tryz.sizeOf124) (ac (fun w' h => ⟨94, #[.agg (G1 g tn (en u) (en b)).toArray, V [f 30, f 31, f 32], V [f 3, f 4, f 5]], zC rfl call94 rfl (zX rfl), C11.out w' (h.two 4 5 rfl rfl (by decide))⟩) (ag trivial)))))))))
 intro _ w31 H31
 clear H30
 refine zJ (l := [10]) rfl ?_
 refine zI rfl rfl rfl (zT (i := 33) (ms := [f 33, f 34, f 35]) H31.out.1 0 rfl rfl rfl rfl Tryz.sizeOf124 (Nat.le_of_ble_eq_true rfl)) ?_
 have H32 : Hid (Mm (w31.setCells γ2_6 (6 * 33) (cel [f 33, f 34, f 35])) [(γ2_6, cel (tbz1 36 f)), (γ1_0, G1 g tn (en u) (en b)), (γ1_1, cel [x, y] ++ [Value.bool zb]), (γ1_2, cel [0, 0, 0, 0, 0, 0, 0, 0, 0, 0, 0, 0, 0, 0, 0, 0, 0, 0, 0, 0, 0, 0, 0, 0, 0, 0, 0, 0, 0, 0, 0, 0, 0, 0, 0, 0, 0, 0, 0, 0, 0, 0, 0, 0, 0, 0, 0, 0]), (g, zR pB), (0, dtab)] ∧ Below w.heap.size w (w31.setCells γ2_6 (6 * 33) (cel [f 33, f 34, f 35]))) := ⟨by
  have h := H31.out.1.put 0 (off := 6 * 33) (vs := cel [f 33, f 34, f 35]) rfl (by simp only [cel_len]; exact Nat.le_of_ble_eq_true rfl)
  rw [zU] at h
  exact h, zF _ o2_6.out _ _ _ H31.out.2⟩
 clear H31
 generalize hgw : World.setCells _ _ _ _ = w32 at H32 ⊢
 clear hgw
 refine zH (zQ (zA ?_))
 refine zE 2 [.quiet (.int .i64 10), .quiet (.int .i64 12)] H32 ?ho23 ?he23
 case ho23 => exact ar (ak (fun γ => ⟨rfl, fun w' _ => by kernel_rfl⟩) trivial)
 intro _ w33 H33
 clear H32
 refine zJ (l := [2]) rfl ?_
 refine zN (d := 6) rfl rfl rfl rfl ?_
 simp only [Act.put, sa, sz, ss]
 refine zH (zA ?_)
 refine yD (n := 2) ?_
 refine wp_seq (wp_seq ?_)
 refine zE 2 [.quiet (.int .i64 12), .quiet (.bool true)] H33 ?ho24 ?he24
 case ho24 => exact ar (ag trivial)
 intro _ w34 H34
 clear H33
 refine zG rfl (zA (wp_cond_true rfl ?_))
 refine wp_skip (zA ?_)
 refine wp_seq (wp_block (wp_seq ?_))
 refine yC 8 [.quiet (.int .i64 12), .quiet (.agg (G1 g tn (en u) (en b)).toArray), .quiet (.int .i64 12), .quiet (.int .i64 6), .quiet (PT γ2_6 108), .quiet (V [f 18, f 19, f 20]), .call (V [f 36, f 37, f 38]), .quiet (PT γ2_6 216)] H34 ?ho25 ?he25
 case ho25 => exact ar (aq (fun w' h => lT h 1 Tryz.isAgg81 Tryz.sizeOf81) (ar (ak (fun γ => ⟨rfl, fun w' _ => by kernel_rfl⟩) (ag (aq (fun w' h => lA 18 3 h 0 Tryz.isAgg124 Tryz.sizeOf124) (ac (fun w' h => ⟨134, #[.agg (G1 g tn (en u) (en b)).toArray, V [f 18, f 19, f 20]], zC rfl call134 rfl (zX rfl), C12.out w' (h.two 4 5 rfl rfl (by decide))⟩) (ag trivial)))))))
 intro _ w35 H35
 clear H34
 refine zJ (l := [8]) rfl ?_
 refine zI rfl rfl rfl (zT (i := 36) (ms := [f 36, f 37, f 38]) H35.out.1 0 rfl rfl rfl rfl Tryz.sizeOf124 (Nat.le_of_ble_eq_true rfl)) ?_
 have H36 : Hid (Mm (w35.setCells γ2_6 (6 * 36) (cel [f 36, f 37, f 38])) [(γ2_6, cel (tbz1 39 f)), (γ1_0, G1 g tn (en u) (en b)), (γ1_1, cel [x, y] ++ [Value.bool zb]), (γ1_2, cel [0, 0, 0, 0, 0, 0, 0, 0, 0, 0, 0, 0, 0, 0, 0, 0, 0, 0, 0, 0, 0, 0, 0, 0, 0, 0, 0, 0, 0, 0, 0, 0, 0, 0, 0, 0, 0, 0, 0, 0, 0, 0, 0, 0, 0, 0, 0, 0]), (g, zR pB), (0, dtab)] ∧ Below w.heap.size w (w35.setCells γ2_6 (6 * 36) (cel [f 36, f 37, f 38]))) := ⟨by
  have h := H35.out.1.put 0 (off := 6 * 36) (vs := cel [f 36, f 37, f 38]) rfl (by simp only [cel_len]; exact Nat.le_of_ble_eq_true rfl)
  rw [zU] at h
  exact h, zF _ o2_6.out _ _ _ H35.out.2⟩
 clear H35
 generalize hgw : World.setCells _ _ _ _ = w36 at H36 ⊢
 clear hgw
 refine zH (zA ?_)
 refine yC 10 [.quiet (.int .i64 12), .quiet (.int .i64 13), .quiet (.agg (G1 g tn (en u) (en b)).toArray), .quiet (.int .i64 12), .quiet (PT γ2_6 216), .quiet (V [f 36, f 37, f 38]), .quiet (PT γ2_6 18), .quiet (V [f 3, f 4, f 5]), .call (V [f 39, f 40, f 41]), .quiet (PT γ2_6 234)] H36 ?ho26 ?he26
 case ho26 => exact ar (ak (fun γ => ⟨rfl, fun w' _ => by kernel_rfl⟩) (aq (fun w' h => lT h 1 Tryz.isAgg81 Tryz.sizeOf81) (ar (ag (aq (fun w' h => lA 36 3 h 0 Tryz.isAgg124 Tryz.sizeOf124) (ag (aq (fun w' h => lA 3 3 h 0 Tryz.isAgg124 Tryz.sizeOf124) (ac (fun w' h => ⟨94, #[.agg (G1 g tn (en u) (en b)).toArray, V [f 36, f 37, f 38], V [f 3, f 4, f 5]], zC rfl call94 rfl (zX rfl), C13.out w' (h.two 4 5 rfl rfl (by decide))⟩) (ag trivial)))))))))
 intro _ w37 H37
 clear H36
 refine zJ (l := [10]) rfl ?_
 refine zI rfl rfl rfl (zT (i := 39) (ms := [f 39, f 40, f 41]) H37.out.1 0 rfl rfl rfl rfl Tryz.sizeOf124 (Nat.le_of_ble_eq_true rfl)) ?_
 have H38 : Hid (Mm (w37.setCells γ2_6 (6 * 39) (cel [f 39, f 40, f 41])) [(γ2_6, cel (tbz1 42 f)), (γ1_0, G1 g tn (en u) (en b)), (γ1_1, cel [x, y] ++ [Value.bool zb]), (γ1_2, cel [0, 0, 0, 0, 0, 0, 0, 0, 0, 0, 0, 0, 0, 0, 0, 0, 0, 0, 0, 0, 0, 0, 0, 0, 0, 0, 0, 0, 0, 0, 0, 0, 0, 0, 0, 0, 0, 0, 0, 0, 0, 0, 0, 0, 0, 0, 0, 0]), (g, zR pB), (0, dtab)] ∧ Below w.heap.size w (w37.setCells γ2_6 (6 * 39) (cel [f 39, f 40, f 41]))) := ⟨by
  have h := H37.out.1.put 0 (off := 6 * 39) (vs := cel [f 39, f 40, f 41]) rfl (by simp only [cel_len]; exact Nat.le_of_ble_eq_true rfl)
  rw [zU] at h
  exact h, zF _ o2_6.out _ _ _ H37.out.2⟩
 clear H37
 generalize hgw : World.setCells _ _ _ _ = w38 at H38 ⊢
 clear hgw
 refine zH (zQ (zA ?_))
 refine zE 2 [.quiet (.int .i64 12), .quiet (.int .i64 14)] H38 ?ho27 ?he27
 case ho27 => exact ar (ak (fun γ => ⟨rfl, fun w' _ => by kernel_rfl⟩) trivial)
 intro _ w39 H39
 clear H38
 refine zJ (l := [2]) rfl ?_
 refine zN (d := 6) rfl rfl rfl rfl ?_
 simp only [Act.put, sa, sz, ss]
 refine zH (zA ?_)
 refine yD (n := 1) ?_
 refine wp_seq (wp_seq ?_)
 refine zE 2 [.quiet (.int .i64 14), .quiet (.bool true)] H39 ?ho28 ?he28
 case ho28 => exact ar (ag trivial)
 intro _ w40 H40
 clear H39
 refine zG rfl (zA (wp_cond_true rfl ?_))
 refine wp_skip (zA ?_)
 refine wp_seq (wp_block (wp_seq ?_))
 refine yC 8 [.quiet (.int .i64 14), .quiet (.agg (G1 g tn (en u) (en b)).toArray), .quiet (.int .i64 14), .quiet (.int .i64 7), .quiet (PT γ2_6 126), .quiet (V [f 21, f 22, f 23]), .call (V [f 42, f 43, f 44]), .quiet (PT γ2_6 252)] H40 ?ho29 ?he29
 case ho29 => exact ar (aq (fun w' h => lT h 1 Tryz.isAgg81 Tryz.sizeOf81) (ar (ak (fun γ => ⟨rfl, fun w' _ => by kernel_rfl⟩) (ag (aq (fun w' h => lA 21 3 h 0 Tryz.isAgg124 Tryz.sizeOf124) (ac (fun w' h => ⟨134, #[.agg (G1 g tn (en u) (en b)).toArray, V [f 21, f 22, f 23]], zC rfl call134 rfl (zX rfl), C14.out w' (h.two 4 5 rfl rfl (by decide))⟩) (ag trivial)))))))
 intro _ w41 H41
 clear H40
 refine zJ (l := [8]) rfl ?_
 refine zI rfl rfl rfl (zT (i := 42) (ms := [f 42, f 43, f 44]) H41.out.1 0 rfl rfl rfl rfl Tryz.sizeOf124 (Nat.le_of_ble_eq_true rfl)) ?_
 have H42 : Hid (Mm (w41.setCells γ2_6 (6 * 42) (cel [f 42, f 43, f 44])) [(γ2_6, cel (tbz1 45 f)), (γ1_0, G1 g tn (en u) (en b)), (γ1_1, cel [x, y] ++ [Value.bool zb]), (γ1_2, cel [0, 0, 0, 0, 0, 0, 0, 0, 0, 0, 0, 0, 0, 0, 0, 0, 0, 0, 0, 0, 0, 0, 0, 0, 0, 0, 0, 0, 0, 0, 0, 0, 0, 0, 0, 0, 0, 0, 0, 0, 0, 0, 0, 0, 0, 0, 0, 0]), (g, zR pB), (0, dtab)] ∧ Below w.heap.size w (w41.setCells γ2_6 (6 * 42) (cel [f 42, f 43, f 44]))) := ⟨by
  have h := H41.out.1.put 0 (off := 6 * 42) (vs := cel [f 42, f 43, f 44]) rfl (by simp only [cel_len]; exact Nat.le_of_ble_eq_true rfl)
  rw [zU] at h
  exact h, zF _ o2_6.out _ _ _ H41.out.2⟩
 clear H41
 generalize hgw : World.setCells _ _ _ _ = w42 at H42 ⊢
 clear hgw
 refine zH (zA ?_)
 refine yC 10 [.quiet (.int .i64 14), .quiet (.int .i64 15), .quiet (.agg (G1 g tn (en u) (en b)).toArray), .quiet (.int .i64 14), .quiet (PT γ2_6 252), .quiet (V [f 42, f 43, f 44]), .quiet (PT γ2_6 18), .quiet (V [f 3, f 4, f 5]), .call (V [f 45, f 46, f 47]), .quiet (PT γ2_6 270)] H42 ?ho30 ?he30
 case ho30 => exact ar (ak (fun γ => ⟨rfl, fun w' _ => by kernel_rfl⟩) (aq (fun w' h => lT h 1 Tryz.isAgg81 Tryz.sizeOf81) (ar (ag (aq (fun w' h => lA 42 3 h 0 Tryz.isAgg124 Tryz.sizeOf124) (ag (aq (fun w' h => lA 3 3 h 0 Tryz.isAgg124 Tryz.sizeOf124) (ac (fun w' h => ⟨94, #[.agg (G1 g tn (en u) (en b)).toArray, V [f 42, f 43, f 44], V [f 3, f 4, f 5]], zC rfl call94 rfl (zX rfl), C15.out w' (h.two 4 5 rfl rfl (by decide))⟩) (ag trivial)))))))))
 intro _ w43 H43
 clear H42
 refine zJ (l := [10]) rfl ?_
 refine zI rfl rfl rfl (zT (i := 45) (ms := [f 45, f 46, f 47]) H43.out.1 0 rfl rfl rfl rfl Tryz.sizeOf124 (Nat.le_of_ble_eq_true rfl)) ?_
 have H44 : Hid (Mm (w43.setCells γ2_6 (6 * 45) (cel [f 45, f 46, f 47])) [(γ2_6, cel (tb1 f)), (γ1_0, G1 g tn (en u) (en b)), (γ1_1, cel [x, y] ++ [Value.bool zb]), (γ1_2, cel [0, 0, 0, 0, 0, 0, 0, 0, 0, 0, 0, 0, 0, 0, 0, 0, 0, 0, 0, 0, 0, 0, 0, 0, 0, 0, 0, 0, 0, 0, 0, 0, 0, 0, 0, 0, 0, 0, 0, 0, 0, 0, 0, 0, 0, 0, 0, 0]), (g, zR pB), (0, dtab)] ∧ Below w.heap.size w (w43.setCells γ2_6 (6 * 45) (cel [f 45, f 46, f 47]))) := ⟨by
  have h := H43.out.1.put 0 (off := 6 * 45) (vs := cel [f 45, f 46, f 47]) rfl (by simp only [cel_len]; exact Nat.le_of_ble_eq_true rfl)
  rw [zU] at h
  exact h, zF _ o2_6.out _ _ _ H43.out.2⟩
 clear H43
 generalize hgw : World.setCells _ _ _ _ = w44 at H44 ⊢
 clear hgw
 refine zH (zQ (zA ?_))
 refine zE 2 [.quiet (.int .i64 14), .quiet (.int .i64 16)] H44 ?ho31 ?he31
 case ho31 => exact ar (ak (fun γ => ⟨rfl, fun w' _ => by kernel_rfl⟩) trivial)
 intro _ w45 H45
 clear H44
 refine zJ (l := [2]) rfl ?_
 refine zN (d := 6) rfl rfl rfl rfl ?_
 simp only [Act.put, sa, sz, ss]
 refine zH (zA ?_)
 refine yD (n := 0) ?_
 refine wp_seq (wp_seq ?_)
 refine zE 2 [.quiet (.int .i64 16), .quiet (.bool false)] H45 ?ho32 ?he32
 case ho32 => exact ar (ag trivial)
 intro _ w46 H46
 clear H45
 refine zG rfl (zA (wp_cond_false rfl ?_))
 refine wp_exit ?_
 repeat refine then_exit ?_
 refine yH ?_
 refine zA (wp_seq ?_)
 refine zE 1 [.quiet (V (tb1 f))] H46 ?ho33 ?he33
 case ho33 => exact aq (fun w' h => lA 0 48 h 0 Tryz.isAgg173 Tryz.sizeOf173) trivial
 intro _ w47 H47
 clear H46
 refine zJ (l := [1]) rfl ?_
 refine zI rfl rfl rfl (zT (i := 0) (ms := [f 0, f 1, f 2, f 3, f 4, f 5, f 6, f 7, f 8, f 9, f 10, f 11, f 12, f 13, f 14, f 15, f 16, f 17, f 18, f 19, f 20, f 21, f 22, f 23, f 24, f 25, f 26, f 27, f 28, f 29, f 30, f 31, f 32, f 33, f 34, f 35, f 36, f 37, f 38, f 39, f 40, f 41, f 42, f 43, f 44, f 45, f 46, f 47]) H47.out.1 3 rfl rfl rfl rfl Tryz.sizeOf173 (Nat.le_of_ble_eq_true rfl)) ?_
 have H48 : Hid (Mm (w47.setCells γ1_2 (6 * 0) (cel [f 0, f 1, f 2, f 3, f 4, f 5, f 6, f 7, f 8, f 9, f 10, f 11, f 12, f 13, f 14, f 15, f 16, f 17, f 18, f 19, f 20, f 21, f 22, f 23, f 24, f 25, f 26, f 27, f 28, f 29, f 30, f 31, f 32, f 33, f 34, f 35, f 36, f 37, f 38, f 39, f 40, f 41, f 42, f 43, f 44, f 45, f 46, f 47])) [(γ2_6, cel (tb1 f)), (γ1_0, G1 g tn (en u) (en b)), (γ1_1, cel [x, y] ++ [Value.bool zb]), (γ1_2, cel (tb1 f)), (g, zR pB), (0, dtab)] ∧ Below w.heap.size w (w47.setCells γ1_2 (6 * 0) (cel [f 0, f 1, f 2, f 3, f 4, f 5, f 6, f 7, f 8, f 9, f 10, f 11, f 12, f 13, f 14, f 15, f 16, f 17, f 18, f 19, f 20, f 21, f 22, f 23, f 24, f 25, f 26, f 27, f 28, f 29, f 30, f 31, f 32, f 33, f 34, f 35, f 36, f 37, f 38, f 39, f 40, f 41, f 42, f 43, f 44, f 45, f 46, f 47]))) := ⟨by
  have h := H47.out.1.put 3 (off := 6 * 0) (vs := cel [f 0, f 1, f 2, f 3, f 4, f 5, f 6, f 7, f 8, f 9, f 10, f 11, f 12, f 13, f 14, f 15, f 16, f 17, f 18, f 19, f 20, f 21, f 22, f 23, f 24, f 25, f 26, f 27, f 28, f 29, f 30, f 31, f 32, f 33, f 34, f 35, f 36, f 37, f 38, f 39, f 40, f 41, f 42, f 43, f 44, f 45, f 46, f 47]) rfl (by simp only [cel_len]; exact Nat.le_of_ble_eq_true rfl)
  rw [zU] at h
  exact h, zF _ o1_2.out _ _ _ H47.out.2⟩
 clear H47
 generalize hgw : World.setCells _ _ _ _ = w48 at H48 ⊢
 clear hgw
 refine zH (zA (wp_ret ?_))
 repeat (first | refine zM ?_ | refine zK ?_)
 have hf0 := cel_var (k := 48) H48.out.1 3 rfl Tryz.isAgg173 Tryz.sizeOf173 rfl
 refine bodyPost_ret (v := V (tb1 f)) (by simp [results, Tryz.results152, asAddr, hf0]) rfl ?_
 exact ⟨rfl, H48.out.2⟩
end Rg
end Go.Proofs.YtaomlijondiaoaaGreatDoor
end
