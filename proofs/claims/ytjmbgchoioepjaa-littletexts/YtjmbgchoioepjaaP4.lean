/- Texts of the proof, joined. -/
import Derived.Test.YtjmbgchoioepjaaP3
import Derived.MapKept
import Derived.WalkKit
section
namespace Go.Proofs.Ytjmbgchoioepjaa
open Go.RowKit
namespace Rg
/-! The document's answers. -/
theorem mi_pl (p a b : Nat) (hb : b ≤ p) : pl p a (mi p 0 b) = mi p a b := by
  unfold pl mi
  rw [Nat.add_mod_mod]
  congr 1
  omega
theorem side_cb (p x : Nat) : pl p (tm p (tm p x x) x) x = cb p x := by
  unfold pl cb tm pl
  rw [Nat.mod_add_mod, Nat.mul_mod_mod, Nat.mul_add, Nat.mul_one, Nat.mul_comm x (x * x % p)]
theorem pw_bit {p : Nat} (a n k : Nat) : pw p a (n / 2 ^ k) = if n / 2 ^ k % 2 = 1 then tm p (tm p (pw p a (n / 2 ^ (k + 1))) (pw p a (n / 2 ^ (k + 1)))) a else tm p (pw p a (n / 2 ^ (k + 1))) (pw p a (n / 2 ^ (k + 1))) := by
  have e : n / 2 ^ (k + 1) = n / 2 ^ k / 2 := by rw [Nat.pow_succ, Nat.div_div_eq_div_mul]
  rw [e]
  generalize n / 2 ^ k = m
  unfold tm pw
  split
  · rename_i h
    rw [← Nat.mul_mod, ← Nat.pow_add, Nat.mod_mul_mod, ← Nat.pow_succ]
    congr 2
    omega
  · rw [← Nat.mul_mod, ← Nat.pow_add]
    congr 2
    omega
theorem pw_zero {p a : Nat} (hp : Pr p) : pw p a 0 = 1 := by
  unfold pw
  rw [Nat.pow_zero, Nat.mod_eq_of_lt (one_lt hp)]
abbrev P3 : Type := Nat × Nat × Bool
abbrev pc (a : P3) : List Value := pt a.1 a.2.1 a.2.2
def sl1 (p X Y : Nat) : Nat := tm p (pl p (pl p (pl p (tm p X X) (tm p X X)) (tm p X X)) 1) (pw p (pl p Y Y) (p - 2))
def sl2 (p X Y X' Y' : Nat) : Nat := tm p (mi p Y' Y) (pw p (mi p X' X) (p - 2))
def dS (p : Nat) (a b : P3) : Nat := if a = b then sl1 p a.1 a.2.1 else sl2 p a.1 a.2.1 b.1 b.2.1
def d3X (p m X X' : Nat) : Nat := mi p (mi p (tm p m m) X) X'
def d3Y (p m X X' Y : Nat) : Nat := mi p (tm p m (mi p X (d3X p m X X'))) Y
def dA (p : Nat) (a b : P3) : P3 :=
  if a.2.2 = true then b else if b.2.2 = true then a else if a = (b.1, mi p 0 b.2.1, b.2.2) then (0, 0, true)
  else (d3X p (dS p a b) a.1 b.1, d3Y p (dS p a b) a.1 b.1 a.2.1, false)
def dmf (p : Nat) (a : P3) : Nat → Nat → P3
  | 0, _ => (0, 0, true)
  | f + 1, n => if n = 0 then (0, 0, true) else if n % 2 = 1 then dA p (dA p (dmf p a f (n / 2)) (dmf p a f (n / 2))) a else dA p (dmf p a f (n / 2)) (dmf p a f (n / 2))
def dM (p : Nat) (a : P3) (n : Nat) : P3 := dmf p a 64 n
theorem dmf_up (p : Nat) (a : P3) : ∀ (f n : Nat), n < 2 ^ f → dmf p a f n = dmf p a (f + 1) n
  | 0, n, h => by
    have : n = 0 := by omega
    subst this
    rfl
  | f + 1, n, h => by
    have e := dmf_up p a f (n / 2) (by rw [Nat.pow_succ] at h; omega)
    rw [dmf, dmf, e]
theorem dM_zero (p : Nat) (a : P3) : dM p a 0 = (0, 0, true) := rfl
theorem dM_step (p : Nat) (a : P3) (n : Nat) (hn : n < 18446744073709551616) (h0 : n ≠ 0) : dM p a n = if n % 2 = 1 then dA p (dA p (dM p a (n / 2)) (dM p a (n / 2))) a else dA p (dM p a (n / 2)) (dM p a (n / 2)) := by
  have e := dmf_up p a 63 (n / 2) (by rw [show 2 ^ 63 = 9223372036854775808 by decide]; omega)
  unfold dM
  rw [dmf, if_neg h0, e]
theorem dM_bit (p : Nat) (a : P3) (n k : Nat) (hn : n < 18446744073709551616) : dM p a (n / 2 ^ k) = if n / 2 ^ k % 2 = 1 then dA p (dA p (dM p a (n / 2 ^ (k + 1))) (dM p a (n / 2 ^ (k + 1)))) a else dA p (dM p a (n / 2 ^ (k + 1))) (dM p a (n / 2 ^ (k + 1))) := by
  have e : n / 2 ^ (k + 1) = n / 2 ^ k / 2 := by rw [Nat.pow_succ, Nat.div_div_eq_div_mul]
  rw [e]
  by_cases h : n / 2 ^ k = 0
  · rw [h, Nat.zero_div, dM_zero, Nat.zero_mod, if_neg (by decide)]
    rfl
  · exact dM_step p a _ (Nat.lt_of_le_of_lt (Nat.div_le_self _ _) hn) h
structure LtP (p : Nat) (a : P3) : Prop where
  x : a.1 < p
  y : a.2.1 < p
theorem dA_lt {p : Nat} (hp : Pr p) {a b : P3} (ha : LtP p a) (hb : LtP p b) : LtP p (dA p a b) := by
  unfold dA
  split
  · exact hb
  · split
    · exact ha
    · split
      · exact ⟨zero_lt hp, zero_lt hp⟩
      · exact ⟨mi_lt hp, mi_lt hp⟩
theorem dmf_lt {p : Nat} (hp : Pr p) {a : P3} (ha : LtP p a) : ∀ (f n : Nat), LtP p (dmf p a f n)
  | 0, _ => ⟨zero_lt hp, zero_lt hp⟩
  | f + 1, n => by
    have h := dmf_lt hp ha f (n / 2)
    rw [dmf]
    split
    · exact ⟨zero_lt hp, zero_lt hp⟩
    · split
      · exact dA_lt hp (dA_lt hp h h) ha
      · exact dA_lt hp h h
theorem dM_lt {p : Nat} (hp : Pr p) {a : P3} (ha : LtP p a) (n : Nat) : LtP p (dM p a n) := dmf_lt hp ha 64 n
theorem call22 : ∀ args w, (callFunc 22 args).run Try.prog w = .ok (.enter 22 args) w := by intro args w; go_simp
theorem call24 : ∀ args w, (callFunc 24 args).run Try.prog w = .ok (.enter 24 args) w := by intro args w; go_simp
theorem call25 : ∀ args w, (callFunc 25 args).run Try.prog w = .ok (.enter 25 args) w := by intro args w; go_simp
theorem call26 : ∀ args w, (callFunc 26 args).run Try.prog w = .ok (.enter 26 args) w := by intro args w; go_simp
theorem call52 : ∀ args w, (callFunc 52 args).run Try.prog w = .ok (.enter 52 args) w := by intro args w; go_simp
theorem call53 : ∀ args w, (callFunc 53 args).run Try.prog w = .ok (.enter 53 args) w := by intro args w; go_simp
theorem call54 : ∀ args w, (callFunc 54 args).run Try.prog w = .ok (.enter 54 args) w := by intro args w; go_simp
theorem call55 : ∀ args w, (callFunc 55 args).run Try.prog w = .ok (.enter 55 args) w := by intro args w; go_simp
theorem call56 : ∀ args w, (callFunc 56 args).run Try.prog w = .ok (.enter 56 args) w := by intro args w; go_simp
theorem call58 : ∀ args w, (callFunc 58 args).run Try.prog w = .ok (.enter 58 args) w := by intro args w; go_simp
theorem call59 : ∀ args w, (callFunc 59 args).run Try.prog w = .ok (.enter 59 args) w := by intro args w; go_simp
theorem call77 : ∀ args w, (callFunc 77 args).run Try.prog w = .ok (.enter 77 args) w := by intro args w; go_simp
section
variable {p r c gx gy : Nat}
set_option maxRecDepth 100000 in
theorem Of_1  (w : World) :
    Calls Try.prog 10 #[.int .i64 1] w fun e w' => e = .returned (.tuple #[V (kd 786251 65521 12 9723 164643), .bool true]) ∧ Below w.heap.size w w' := by
  have H0 : Hid (_ ∧ _) := ⟨Mm.nil w, Below.refl w.heap.size w⟩
  go_enter Try.func10, Try.ntmps10
  refine wp_seq ?_
  refine walk_seqA 2 [.made (kd 0 0 0 0 0) 27, .quiet (.bool false)] (sB H0) ?ho1 ?he1
  case ho1 => exact ak (fun γ => ⟨rfl, fun w' => ex_made27 rfl⟩) (ak (fun _ => ⟨rfl, fun _ _ => rfl⟩) trivial)
  intro γ w1 l hM hl
  have H1 : Hid (Mm w1 [(γ 0, kd 0 0 0 0 0)] ∧ _) := growB H0 hM (Nat.le_refl _) hl [0] rfl (by decide)
  have o1_0 := ownB H0 hM (Nat.le_refl _) hl (i := 0) rfl
  clear hM hl l
  generalize γ 0 = γ1_0 at H1 o1_0 ⊢
  clear γ
  refine rest0 rfl (then_normal (wp_seq (wp_seq ?_)))
  refine walk_seqB 1 [.quiet (.int .i64 1)] H1 ?ho2 ?he2
  case ho2 => exact ak (fun _ => ⟨rfl, fun _ _ => rfl⟩) trivial
  intro _ w2 H2
  clear H1
  refine rest0 rfl (then_normal (wp_block (wp_seq ?_)))
  refine walk_seqB 2 [.quiet (.bool true), .quiet (.bool true)] H2 ?ho3 ?he3
  case ho3 => exact ak (by refine fun γ => ⟨rfl, fun w' h => ?_⟩; clear h; go_simp) (ak (fun _ => ⟨rfl, fun _ _ => rfl⟩) trivial)
  intro _ w3 H3
  clear H2
  refine rest0 rfl (then_normal (wp_cond_true rfl (wp_seq ?_)))
  refine walk_seqB 2 [.quiet (.agg (pt 9723 164643 false).toArray), .quiet (.agg (kd 786251 65521 12 9723 164643).toArray)] H3 ?ho4 ?he4
  case ho4 => exact ak (fun γ => ⟨rfl, fun w' _ => ex_build25_01 rfl rfl rfl⟩) (ak (fun γ => ⟨rfl, fun w' _ => ex_build27_0123 rfl rfl rfl rfl rfl⟩) trivial)
  intro _ w4 H4
  clear H3
  refine rest_at (l := [2, 3]) rfl ?_
  refine rest_store rfl rfl rfl (ex_storeT (vs := kd 786251 65521 12 9723 164643) H4.out.1 0 rfl rfl rfl rfl Try.sizeOf27 rfl (Nat.le_of_ble_eq_true rfl)) ?_
  have H5 : Hid (Mm (w4.setCells γ1_0 0 (kd 786251 65521 12 9723 164643)) [(γ1_0, kd 786251 65521 12 9723 164643)] ∧ Below w.heap.size w (w4.setCells γ1_0 0 (kd 786251 65521 12 9723 164643))) := ⟨H4.out.1.put 0 (off := 0) (vs := kd 786251 65521 12 9723 164643) rfl (Nat.le_of_ble_eq_true rfl), below_setCells _ o1_0.out _ _ _ H4.out.2⟩
  clear H4
  generalize hgw : World.setCells _ _ _ _ = w5 at H5 ⊢
  clear hgw
  refine rest_set (d := 3) rfl rfl rfl rfl ?_
  simp only [Act.put, sa, sz, ss]
  refine rest_nil (then_normal (wp_ret ?_))
  repeat (first | refine then_ret ?_ | refine block_ret ?_)
  have hf0 := var_T H5.out.1 0 rfl Try.isAgg27 Try.sizeOf27 rfl
  refine bodyPost_ret (v := .tuple #[.agg (kd 786251 65521 12 9723 164643).toArray, .bool true]) (by simp [results, Try.results10, asAddr, Act.eval, hf0]) rfl ?_
  exact ⟨rfl, H5.out.2⟩
set_option maxRecDepth 100000 in
theorem Of_2  (w : World) :
    Calls Try.prog 10 #[.int .i64 2] w fun e w' => e = .returned (.tuple #[V (kd 1152921504606846223 72057594037927889 16 613740293506734924 666621259561003659), .bool true]) ∧ Below w.heap.size w w' := by
  have H0 : Hid (_ ∧ _) := ⟨Mm.nil w, Below.refl w.heap.size w⟩
  go_enter Try.func10, Try.ntmps10
  refine wp_seq ?_
  refine walk_seqA 2 [.made (kd 0 0 0 0 0) 27, .quiet (.bool false)] (sB H0) ?ho1 ?he1
  case ho1 => exact ak (fun γ => ⟨rfl, fun w' => ex_made27 rfl⟩) (ak (fun _ => ⟨rfl, fun _ _ => rfl⟩) trivial)
  intro γ w1 l hM hl
  have H1 : Hid (Mm w1 [(γ 0, kd 0 0 0 0 0)] ∧ _) := growB H0 hM (Nat.le_refl _) hl [0] rfl (by decide)
  have o1_0 := ownB H0 hM (Nat.le_refl _) hl (i := 0) rfl
  clear hM hl l
  generalize γ 0 = γ1_0 at H1 o1_0 ⊢
  clear γ
  refine rest0 rfl (then_normal (wp_seq (wp_seq ?_)))
  refine walk_seqB 1 [.quiet (.int .i64 2)] H1 ?ho2 ?he2
  case ho2 => exact ak (fun _ => ⟨rfl, fun _ _ => rfl⟩) trivial
  intro _ w2 H2
  clear H1
  refine rest0 rfl (then_normal (wp_block (wp_seq ?_)))
  refine walk_seqB 2 [.quiet (.bool false), .quiet (.bool false)] H2 ?ho3 ?he3
  case ho3 => exact ak (by refine fun γ => ⟨rfl, fun w' h => ?_⟩; clear h; go_simp) (ak (fun _ => ⟨rfl, fun _ _ => rfl⟩) trivial)
  intro _ w3 H3
  clear H2
  refine rest0 rfl (then_normal (wp_cond_false rfl (wp_seq ?_)))
  refine walk_seqB 2 [.quiet (.bool true), .quiet (.bool true)] H3 ?ho4 ?he4
  case ho4 => exact ak (by refine fun γ => ⟨rfl, fun w' h => ?_⟩; clear h; go_simp) (ak (fun _ => ⟨rfl, fun _ _ => rfl⟩) trivial)
  intro _ w4 H4
  clear H3
  refine rest0 rfl (then_normal (wp_cond_true rfl (wp_seq ?_)))
  refine walk_seqB 2 [.quiet (.agg (pt 613740293506734924 666621259561003659 false).toArray), .quiet (.agg (kd 1152921504606846223 72057594037927889 16 613740293506734924 666621259561003659).toArray)] H4 ?ho5 ?he5
  case ho5 => exact ak (fun γ => ⟨rfl, fun w' _ => ex_build25_01 rfl rfl rfl⟩) (ak (fun γ => ⟨rfl, fun w' _ => ex_build27_0123 rfl rfl rfl rfl rfl⟩) trivial)
  intro _ w5 H5
  clear H4
  refine rest_at (l := [2, 3]) rfl ?_
  refine rest_store rfl rfl rfl (ex_storeT (vs := kd 1152921504606846223 72057594037927889 16 613740293506734924 666621259561003659) H5.out.1 0 rfl rfl rfl rfl Try.sizeOf27 rfl (Nat.le_of_ble_eq_true rfl)) ?_
  have H6 : Hid (Mm (w5.setCells γ1_0 0 (kd 1152921504606846223 72057594037927889 16 613740293506734924 666621259561003659)) [(γ1_0, kd 1152921504606846223 72057594037927889 16 613740293506734924 666621259561003659)] ∧ Below w.heap.size w (w5.setCells γ1_0 0 (kd 1152921504606846223 72057594037927889 16 613740293506734924 666621259561003659))) := ⟨H5.out.1.put 0 (off := 0) (vs := kd 1152921504606846223 72057594037927889 16 613740293506734924 666621259561003659) rfl (Nat.le_of_ble_eq_true rfl), below_setCells _ o1_0.out _ _ _ H5.out.2⟩
  clear H5
  generalize hgw : World.setCells _ _ _ _ = w6 at H6 ⊢
  clear hgw
  refine rest_set (d := 3) rfl rfl rfl rfl ?_
  simp only [Act.put, sa, sz, ss]
  refine rest_nil (then_normal (wp_ret ?_))
  repeat (first | refine then_ret ?_ | refine block_ret ?_)
  have hf0 := var_T H6.out.1 0 rfl Try.isAgg27 Try.sizeOf27 rfl
  refine bodyPost_ret (v := .tuple #[.agg (kd 1152921504606846223 72057594037927889 16 613740293506734924 666621259561003659).toArray, .bool true]) (by simp [results, Try.results10, asAddr, Act.eval, hf0]) rfl ?_
  exact ⟨rfl, H6.out.2⟩
set_option maxRecDepth 100000 in
theorem Of_no (s : Int) (h1 : s ≠ 1) (h2 : s ≠ 2) (w : World) :
    Calls Try.prog 10 #[.int .i64 s] w fun e w' => e = .returned (.tuple #[V (kd 0 0 0 0 0), .bool false]) ∧ Below w.heap.size w w' := by
  have H0 : Hid (_ ∧ _) := ⟨Mm.nil w, Below.refl w.heap.size w⟩
  go_enter Try.func10, Try.ntmps10
  refine wp_seq ?_
  refine walk_seqA 2 [.made (kd 0 0 0 0 0) 27, .quiet (.bool false)] (sB H0) ?ho1 ?he1
  case ho1 => exact ak (fun γ => ⟨rfl, fun w' => ex_made27 rfl⟩) (ak (fun _ => ⟨rfl, fun _ _ => rfl⟩) trivial)
  intro γ w1 l hM hl
  have H1 : Hid (Mm w1 [(γ 0, kd 0 0 0 0 0)] ∧ _) := growB H0 hM (Nat.le_refl _) hl [0] rfl (by decide)
  have o1_0 := ownB H0 hM (Nat.le_refl _) hl (i := 0) rfl
  clear hM hl l
  generalize γ 0 = γ1_0 at H1 o1_0 ⊢
  clear γ
  refine rest0 rfl (then_normal (wp_seq (wp_seq ?_)))
  refine walk_seqB 1 [.quiet (.int .i64 s)] H1 ?ho2 ?he2
  case ho2 => exact ak (fun _ => ⟨rfl, fun _ _ => rfl⟩) trivial
  intro _ w2 H2
  clear H1
  refine rest0 rfl (then_normal (wp_block (wp_seq ?_)))
  refine walk_seqB 2 [.quiet (.bool false), .quiet (.bool false)] H2 ?ho3 ?he3
  case ho3 => exact ak (by refine fun γ => ⟨rfl, fun w' h => ?_⟩; clear h; go_simp) (ak (fun _ => ⟨rfl, fun _ _ => rfl⟩) trivial)
  intro _ w3 H3
  clear H2
  refine rest0 rfl (then_normal (wp_cond_false rfl (wp_seq ?_)))
  refine walk_seqB 2 [.quiet (.bool false), .quiet (.bool false)] H3 ?ho4 ?he4
  case ho4 => exact ak (by refine fun γ => ⟨rfl, fun w' h => ?_⟩; clear h; go_simp) (ak (fun _ => ⟨rfl, fun _ _ => rfl⟩) trivial)
  intro _ w4 H4
  clear H3
  refine rest0 rfl (then_normal (wp_cond_false rfl ?_))
  refine wp_skip (block_normal ?_)
  refine then_normal (wp_seq ?_)
  refine walk_seqB 1 [.quiet (.agg (kd 0 0 0 0 0).toArray)] H4 ?ho5 ?he5
  case ho5 => exact ak (fun γ => ⟨rfl, fun w' _ => ex_build27_ rfl⟩) trivial
  intro _ w5 H5
  clear H4
  refine rest_at (l := [1, 2]) rfl ?_
  refine rest_store rfl rfl rfl (ex_storeT (vs := kd 0 0 0 0 0) H5.out.1 0 rfl rfl rfl rfl Try.sizeOf27 rfl (Nat.le_of_ble_eq_true rfl)) ?_
  have H6 : Hid (Mm (w5.setCells γ1_0 0 (kd 0 0 0 0 0)) [(γ1_0, kd 0 0 0 0 0)] ∧ Below w.heap.size w (w5.setCells γ1_0 0 (kd 0 0 0 0 0))) := ⟨H5.out.1.put 0 (off := 0) (vs := kd 0 0 0 0 0) rfl (Nat.le_of_ble_eq_true rfl), below_setCells _ o1_0.out _ _ _ H5.out.2⟩
  clear H5
  generalize hgw : World.setCells _ _ _ _ = w6 at H6 ⊢
  clear hgw
  refine rest_set (d := 3) rfl rfl rfl rfl ?_
  simp only [Act.put, sa, sz, ss]
  refine rest_nil (then_normal (wp_ret ?_))
  repeat (first | refine then_ret ?_ | refine block_ret ?_)
  have hf0 := var_T H6.out.1 0 rfl Try.isAgg27 Try.sizeOf27 rfl
  refine bodyPost_ret (v := .tuple #[.agg (kd 0 0 0 0 0).toArray, .bool false]) (by simp [results, Try.results10, asAddr, Act.eval, hf0]) rfl ?_
  exact ⟨rfl, H6.out.2⟩
set_option maxRecDepth 100000 in
theorem dadd_any (hp : Pr p) (a b : Nat) (ha : a < p) (hb : b < p) (w : World) :
    Calls Try.prog 56 #[.agg (kd p r c gx gy).toArray, U a, U b] w fun e w' => e = .returned (U (pl p a b)) ∧ Below w.heap.size w w' := by
  have H0 : Hid (_ ∧ _) := ⟨Mm.nil w, Below.refl w.heap.size w⟩
  go_enter Try.func56, Try.ntmps56
  refine wp_seq ?_
  refine walk_seqA 2 [.made (kd p r c gx gy) 27, .quiet (U 0)] (sB H0) ?ho1 ?he1
  case ho1 => exact ak (fun γ => ⟨rfl, fun w' => ex_boxT rfl rfl⟩) (ak (fun _ => ⟨rfl, fun _ _ => rfl⟩) trivial)
  intro γ w1 l hM hl
  have H1 : Hid (Mm w1 [(γ 0, kd p r c gx gy)] ∧ _) := growB H0 hM (Nat.le_refl _) hl [0] rfl (by decide)
  have o1_0 := ownB H0 hM (Nat.le_refl _) hl (i := 0) rfl
  clear hM hl l
  generalize γ 0 = γ1_0 at H1 o1_0 ⊢
  clear γ
  refine rest0 rfl (then_normal (wp_seq ?_))
  refine walk_seqB 7 [.quiet (U a), .quiet (U b), .quiet (U (a + b)), .quiet (PT γ1_0 0), .quiet (U p), .quiet (U ((a + b) % p)), .quiet (U ((a + b) % p))] H1 ?ho2 ?he2
  case ho2 => exact ak (fun _ => ⟨rfl, fun _ _ => rfl⟩) (ak (fun _ => ⟨rfl, fun _ _ => rfl⟩) (ak (fun γ => ⟨rfl, fun w' _ => ex_addU (by have := hp.hi; omega) rfl rfl rfl⟩) (ak (by refine fun γ => ⟨rfl, fun w' h => ?_⟩; clear h; go_simp) (ak (fun γ => ⟨rfl, fun w' h => ex_loadC h 0 rfl rfl rfl Try.isAgg23 rfl⟩) (ak (fun γ => ⟨rfl, fun w' _ => ex_remU (Nat.ne_of_gt (zero_lt hp)) rfl rfl rfl⟩) (ak (fun _ => ⟨rfl, fun _ _ => rfl⟩) trivial))))))
  intro _ w2 H2
  clear H1
  refine rest0 rfl (then_normal (wp_ret ?_))
  repeat (first | refine then_ret ?_ | refine block_ret ?_)
  refine bodyPost_ret (v := U ((a + b) % p)) (by simp [results, Try.results56, go_sem, *]) rfl ?_
  exact ⟨rfl, H2.out.2⟩
set_option maxRecDepth 100000 in
theorem dneg_raw (hp : Pr p) (a : Nat) (ha : a < p) (w : World) :
    Calls Try.prog 55 #[.agg (kd p r c gx gy).toArray, U a] w fun e w' => e = .returned (U ((p - a) % p)) ∧ Below w.heap.size w w' := by
  have H0 : Hid (_ ∧ _) := ⟨Mm.nil w, Below.refl w.heap.size w⟩
  go_enter Try.func55, Try.ntmps55
  refine wp_seq ?_
  refine walk_seqA 2 [.made (kd p r c gx gy) 27, .quiet (U 0)] (sB H0) ?ho1 ?he1
  case ho1 => exact ak (fun γ => ⟨rfl, fun w' => ex_boxT rfl rfl⟩) (ak (fun _ => ⟨rfl, fun _ _ => rfl⟩) trivial)
  intro γ w1 l hM hl
  have H1 : Hid (Mm w1 [(γ 0, kd p r c gx gy)] ∧ _) := growB H0 hM (Nat.le_refl _) hl [0] rfl (by decide)
  have o1_0 := ownB H0 hM (Nat.le_refl _) hl (i := 0) rfl
  clear hM hl l
  generalize γ 0 = γ1_0 at H1 o1_0 ⊢
  clear γ
  refine rest0 rfl (then_normal (wp_seq ?_))
  refine walk_seqB 8 [.quiet (PT γ1_0 0), .quiet (U p), .quiet (U a), .quiet (U (p - a)), .quiet (PT γ1_0 0), .quiet (U p), .quiet (U ((p - a) % p)), .quiet (U ((p - a) % p))] H1 ?ho2 ?he2
  case ho2 => exact ak (by refine fun γ => ⟨rfl, fun w' h => ?_⟩; clear h; go_simp) (ak (fun γ => ⟨rfl, fun w' h => ex_loadC h 0 rfl rfl rfl Try.isAgg23 rfl⟩) (ak (fun _ => ⟨rfl, fun _ _ => rfl⟩) (ak (fun γ => ⟨rfl, fun w' _ => ex_subU (Nat.le_of_lt ha) (by have := hp.hi; omega) rfl rfl rfl⟩) (ak (by refine fun γ => ⟨rfl, fun w' h => ?_⟩; clear h; go_simp) (ak (fun γ => ⟨rfl, fun w' h => ex_loadC h 0 rfl rfl rfl Try.isAgg23 rfl⟩) (ak (fun γ => ⟨rfl, fun w' _ => ex_remU (Nat.ne_of_gt (zero_lt hp)) rfl rfl rfl⟩) (ak (fun _ => ⟨rfl, fun _ _ => rfl⟩) trivial)))))))
  intro _ w2 H2
  clear H1
  refine rest0 rfl (then_normal (wp_ret ?_))
  repeat (first | refine then_ret ?_ | refine block_ret ?_)
  refine bodyPost_ret (v := U ((p - a) % p)) (by simp [results, Try.results55, go_sem, *]) rfl ?_
  exact ⟨rfl, H2.out.2⟩
theorem dneg_any (hp : Pr p) (a : Nat) (ha : a < p) (w : World) : Calls Try.prog 55 #[.agg (kd p r c gx gy).toArray, U a] w fun e w' => e = .returned (U (mi p 0 a)) ∧ Below w.heap.size w w' := by
  have h := dneg_raw (r := r) (c := c) (gx := gx) (gy := gy) hp a ha w
  unfold mi
  rw [Nat.zero_add]
  exact h
set_option maxRecDepth 100000 in
theorem dsub_raw (hp : Pr p) (a b : Nat) (ha : a < p) (hb : b < p) (w : World) :
    Calls Try.prog 59 #[.agg (kd p r c gx gy).toArray, U a, U b] w fun e w' => e = .returned (U (pl p a (mi p 0 b))) ∧ Below w.heap.size w w' := by
  have H0 : Hid (_ ∧ _) := ⟨Mm.nil w, Below.refl w.heap.size w⟩
  go_enter Try.func59, Try.ntmps59
  refine wp_seq ?_
  refine walk_seqA 2 [.made (kd p r c gx gy) 27, .quiet (U 0)] (sB H0) ?ho1 ?he1
  case ho1 => exact ak (fun γ => ⟨rfl, fun w' => ex_boxT rfl rfl⟩) (ak (fun _ => ⟨rfl, fun _ _ => rfl⟩) trivial)
  intro γ w1 l hM hl
  have H1 : Hid (Mm w1 [(γ 0, kd p r c gx gy)] ∧ _) := growB H0 hM (Nat.le_refl _) hl [0] rfl (by decide)
  have o1_0 := ownB H0 hM (Nat.le_refl _) hl (i := 0) rfl
  clear hM hl l
  generalize γ 0 = γ1_0 at H1 o1_0 ⊢
  clear γ
  refine rest0 rfl (then_normal (wp_seq ?_))
  refine walk_anyB 7 [.quiet (.agg (kd p r c gx gy).toArray), .quiet (U a), .quiet (.agg (kd p r c gx gy).toArray), .quiet (U b), .call (U (mi p 0 b)), .call (U (pl p a (mi p 0 b))), .quiet (U (pl p a (mi p 0 b)))] H1 ?ho2 ?he2
  case ho2 => exact ak (fun γ => ⟨rfl, fun w' h => ex_loadT h 0 rfl rfl rfl Try.isAgg27 Try.sizeOf27 rfl rfl⟩) (ak (fun _ => ⟨rfl, fun _ _ => rfl⟩) (ak (fun γ => ⟨rfl, fun w' h => ex_loadT h 0 rfl rfl rfl Try.isAgg27 Try.sizeOf27 rfl rfl⟩) (ak (fun _ => ⟨rfl, fun _ _ => rfl⟩) (ak (fun γ => ⟨rfl, fun w' h => ⟨55, #[.agg (kd p r c gx gy).toArray, U b], exec_call rfl call55 rfl (mpn rfl), dneg_any hp b hb w'⟩⟩) (ak (fun γ => ⟨rfl, fun w' h => ⟨56, #[.agg (kd p r c gx gy).toArray, U a, U (mi p 0 b)], exec_call rfl call56 rfl (mpn rfl), dadd_any hp a (mi p 0 b) ha (mi_lt hp) w'⟩⟩) (ak (fun _ => ⟨rfl, fun _ _ => rfl⟩) trivial))))))
  intro _ w2 H2
  clear H1
  refine rest0 rfl (then_normal (wp_ret ?_))
  repeat (first | refine then_ret ?_ | refine block_ret ?_)
  refine bodyPost_ret (v := U (pl p a (mi p 0 b))) (by simp [results, Try.results59, go_sem, *]) rfl ?_
  exact ⟨rfl, H2.out.2⟩
theorem dsub_any (hp : Pr p) (a b : Nat) (ha : a < p) (hb : b < p) (w : World) : Calls Try.prog 59 #[.agg (kd p r c gx gy).toArray, U a, U b] w fun e w' => e = .returned (U (mi p a b)) ∧ Below w.heap.size w w' := by
  have h := dsub_raw (r := r) (c := c) (gx := gx) (gy := gy) hp a b ha hb w
  rw [mi_pl p a b (Nat.le_of_lt hb)] at h
  exact h
set_option maxRecDepth 100000 in
theorem dmul_any (hp : Pr p) (a b : Nat) (ha : a < p) (hb : b < p) (w : World) :
    Calls Try.prog 54 #[.agg (kd p r c gx gy).toArray, U a, U b] w fun e w' => e = .returned (U (tm p a b)) ∧ Below w.heap.size w w' := by
  have H0 : Hid (_ ∧ _) := ⟨Mm.nil w, Below.refl w.heap.size w⟩
  go_enter Try.func54, Try.ntmps54
  refine wp_seq ?_
  refine walk_seqA 2 [.made (kd p r c gx gy) 27, .quiet (U 0)] (sB H0) ?ho1 ?he1
  case ho1 => exact ak (fun γ => ⟨rfl, fun w' => ex_boxT rfl rfl⟩) (ak (fun _ => ⟨rfl, fun _ _ => rfl⟩) trivial)
  intro γ w1 l hM hl
  have H1 : Hid (Mm w1 [(γ 0, kd p r c gx gy)] ∧ _) := growB H0 hM (Nat.le_refl _) hl [0] rfl (by decide)
  have o1_0 := ownB H0 hM (Nat.le_refl _) hl (i := 0) rfl
  clear hM hl l
  generalize γ 0 = γ1_0 at H1 o1_0 ⊢
  clear γ
  refine rest0 rfl (then_normal (wp_seq ?_))
  refine walk_seqB 8 [.quiet (U a), .quiet (U b), .call (.tuple #[U (a * b / 18446744073709551616), U (a * b % 18446744073709551616)]), .quiet (.tuple #[U (a * b / 18446744073709551616), U (a * b % 18446744073709551616)]), .quiet (U (a * b / 18446744073709551616)), .quiet (U (a * b % 18446744073709551616)), .quiet (U (a * b / 18446744073709551616)), .quiet (U (a * b % 18446744073709551616))] H1 ?ho2 ?he2
  case ho2 => exact ak (fun _ => ⟨rfl, fun _ _ => rfl⟩) (ak (fun _ => ⟨rfl, fun _ _ => rfl⟩) (ak (fun γ => ⟨rfl, fun w' h => ⟨75, #[U a, U b], exec_call rfl call75 rfl (mpn rfl), mul_in a b (by have := hp.hi; omega) (by have := hp.hi; omega) w'⟩⟩) (ak (fun _ => ⟨rfl, fun _ _ => rfl⟩) (ak (by refine fun γ => ⟨rfl, fun w' h => ?_⟩; clear h; go_simp) (ak (by refine fun γ => ⟨rfl, fun w' h => ?_⟩; clear h; go_simp) (ak (fun _ => ⟨rfl, fun _ _ => rfl⟩) (ak (fun _ => ⟨rfl, fun _ _ => rfl⟩) trivial)))))))
  intro _ w2 H2
  clear H1
  refine rest0 rfl (then_normal (wp_seq ?_))
  refine walk_seqB 6 [.quiet (U (a * b / 18446744073709551616)), .quiet (U (a * b % 18446744073709551616)), .quiet (PT γ1_0 0), .quiet (U p), .call (U (a * b % p)), .quiet (U (a * b % p))] H2 ?ho3 ?he3
  case ho3 => exact ak (fun _ => ⟨rfl, fun _ _ => rfl⟩) (ak (fun _ => ⟨rfl, fun _ _ => rfl⟩) (ak (by refine fun γ => ⟨rfl, fun w' h => ?_⟩; clear h; go_simp) (ak (fun γ => ⟨rfl, fun w' h => ex_loadC h 0 rfl rfl rfl Try.isAgg23 rfl⟩) (ak (fun γ => ⟨rfl, fun w' h => ⟨76, #[U (a * b / 18446744073709551616), U (a * b % 18446744073709551616), U p], exec_call rfl call76 rfl (mpn rfl), rem_in hp (a * b) w'⟩⟩) (ak (fun _ => ⟨rfl, fun _ _ => rfl⟩) trivial)))))
  intro _ w3 H3
  clear H2
  refine rest0 rfl (then_normal (wp_ret ?_))
  repeat (first | refine then_ret ?_ | refine block_ret ?_)
  refine bodyPost_ret (v := U (a * b % p)) (by simp [results, Try.results54, go_sem, *]) rfl ?_
  exact ⟨rfl, H3.out.2⟩
theorem pow_dbl (hp : Pr p) (a n j : Nat) (w : World) : Calls Try.prog 54 #[.agg (kd p r c gx gy).toArray, U (pw p a (n / 2 ^ (j + 1))), U (pw p a (n / 2 ^ (j + 1)))] w fun e w' => e = .returned (U (tm p (pw p a (n / 2 ^ (j + 1))) (pw p a (n / 2 ^ (j + 1))))) ∧ Below w.heap.size w w' := dmul_any hp _ _ (pw_lt hp) (pw_lt hp) w
theorem pow_even (hp : Pr p) (a n j : Nat) (hb : ¬ n / 2 ^ j % 2 = 1) (w : World) : Calls Try.prog 54 #[.agg (kd p r c gx gy).toArray, U (pw p a (n / 2 ^ (j + 1))), U (pw p a (n / 2 ^ (j + 1)))] w fun e w' => e = .returned (U (pw p a (n / 2 ^ j))) ∧ Below w.heap.size w w' := by
  have h := pow_dbl (r := r) (c := c) (gx := gx) (gy := gy) hp a n j w
  rw [pw_bit a n j, if_neg hb]
  exact h
theorem pow_odd (hp : Pr p) (a n j : Nat) (ha : a < p) (hb : n / 2 ^ j % 2 = 1) (w : World) : Calls Try.prog 54 #[.agg (kd p r c gx gy).toArray, U (tm p (pw p a (n / 2 ^ (j + 1))) (pw p a (n / 2 ^ (j + 1)))), U a] w fun e w' => e = .returned (U (pw p a (n / 2 ^ j))) ∧ Below w.heap.size w w' := by
  have h := dmul_any (r := r) (c := c) (gx := gx) (gy := gy) hp (tm p (pw p a (n / 2 ^ (j + 1))) (pw p a (n / 2 ^ (j + 1)))) a (tm_lt hp) ha w
  rw [pw_bit a n j, if_pos hb]
  exact h
set_option maxHeartbeats 1000000 in
set_option maxRecDepth 100000 in
theorem dpow_any (hp : Pr p) (a n : Nat) (ha : a < p) (hn : n < 18446744073709551616) (w : World) :
    Calls Try.prog 53 #[.agg (kd p r c gx gy).toArray, U a, U n] w fun e w' => e = .returned (U (pw p a n)) ∧ Below w.heap.size w w' := by
  have H0 : Hid (_ ∧ _) := ⟨Mm.nil w, Below.refl w.heap.size w⟩
  go_enter Try.func53, Try.ntmps53
  refine wp_seq ?_
  refine walk_seqA 2 [.made (kd p r c gx gy) 27, .quiet (U 0)] (sB H0) ?ho1 ?he1
  case ho1 => exact ak (fun γ => ⟨rfl, fun w' => ex_boxT rfl rfl⟩) (ak (fun _ => ⟨rfl, fun _ _ => rfl⟩) trivial)
  intro γ w1 l hM hl
  have H1 : Hid (Mm w1 [(γ 0, kd p r c gx gy)] ∧ _) := growB H0 hM (Nat.le_refl _) hl [0] rfl (by decide)
  have o1_0 := ownB H0 hM (Nat.le_refl _) hl (i := 0) rfl
  clear hM hl l
  generalize γ 0 = γ1_0 at H1 o1_0 ⊢
  clear γ
  refine rest0 rfl (then_normal (wp_seq ?_))
  refine walk_seqB 1 [.quiet (U 1)] H1 ?ho2 ?he2
  case ho2 => exact ak (fun _ => ⟨rfl, fun _ _ => rfl⟩) trivial
  intro _ w2 H2
  clear H1
  refine rest0 rfl (then_normal (wp_seq (wp_seq ?_)))
  refine walk_seqB 4 [.quiet (U n), .call (.int .i64 ((bl n : Nat) : Int)), .quiet (.int .i64 (((bl n : Nat) : Int) - 1)), .quiet (.int .i64 (((bl n : Nat) : Int) - 1))] H2 ?ho3 ?he3
  case ho3 => exact ak (fun _ => ⟨rfl, fun _ _ => rfl⟩) (ak (fun γ => ⟨rfl, fun w' h => ⟨57, #[U n], exec_call rfl call57 rfl (mpn rfl), len_in n hn w'⟩⟩) (ak (by refine fun γ => ⟨rfl, fun w' h => ?_⟩; clear h; have hbl := bl_le_of n 64 hn; go_simp; rw [IntKind.wrap_i64]; omega) (ak (fun _ => ⟨rfl, fun _ _ => rfl⟩) trivial)))
  intro _ w3 H3
  clear H2
  refine rest0 rfl (then_normal (wp_block ?_))
  refine loop_ghost (α := Nat) (fun k a' w' => ∃ s0 : Nat → Value, a' = ⟨#[.agg (kd p r c gx gy).toArray, U a, U n, PT γ1_0 0, undef, undef, U 0, U (pw p a (n / 2 ^ k)), .int .i64 (((k : Nat) : Int) - 1), U n, .int .i64 ((bl n : Nat) : Int), .int .i64 (((bl n : Nat) : Int) - 1), s0 12, s0 13, s0 14, s0 15, s0 16, s0 17, s0 18, s0 19, s0 20, s0 21, s0 22, s0 23, s0 24, s0 25, s0 26, s0 27, s0 28, undef], []⟩ ∧ (Mm w' [(γ1_0, kd p r c gx gy)] ∧ Below w.heap.size w w') ∧ k ≤ 64) (fun k => k) (bl n) ?st0 ?rd0
  case st0 => exact ⟨(slotfn [undef, undef, undef, undef, undef, undef, undef, undef, undef, undef, undef, undef, undef, undef, undef, undef, undef, undef, undef, undef, undef, undef, undef, undef, undef, undef, undef, undef, undef]), by rw [Nat.div_eq_of_lt (bl_lt n), pw_zero hp]; rfl, ⟨H3.out.1, H3.out.2⟩, bl_le_of n 64 hn⟩
  intro k a' w4 hI
  obtain ⟨s0, rfl, hMB, hk0⟩ := hI
  have H4 : Hid (_ ∧ _) := hMB
  clear hMB H3
  by_cases hlt : 0 < k
  · have hrd : True := trivial
    clear hrd
    obtain ⟨j, rfl⟩ : ∃ j, k = j + 1 := ⟨k - 1, by omega⟩
    rw [show (((j + 1 : Nat) : Int) - 1) = ((j : Nat) : Int) by omega]
    by_cases hb : n / 2 ^ j % 2 = 1
    · have hrd : True := trivial
      clear hrd
      refine wp_seq (wp_seq ?_)
      refine walk_seqB 2 [.quiet (.int .i64 ((j : Nat) : Int)), .quiet (.bool true)] H4 ?ho4 ?he4
      case ho4 => exact ak (fun _ => ⟨rfl, fun _ _ => rfl⟩) (ak (by refine fun γ => ⟨rfl, fun w' h => ?_⟩; clear h; go_simp) trivial)
      intro _ w5 H5
      clear H4
      refine rest0 rfl (then_normal (wp_cond_true rfl ?_))
      refine wp_skip (then_normal ?_)
      refine wp_seq (wp_block (wp_seq ?_))
      refine walk_seqB 4 [.quiet (.agg (kd p r c gx gy).toArray), .quiet (U (pw p a (n / 2 ^ (j + 1)))), .quiet (U (pw p a (n / 2 ^ (j + 1)))), .call (U (tm p (pw p a (n / 2 ^ (j + 1))) (pw p a (n / 2 ^ (j + 1)))))] H5 ?ho5 ?he5
      case ho5 => exact ak (fun γ => ⟨rfl, fun w' h => ex_loadT h 0 rfl rfl rfl Try.isAgg27 Try.sizeOf27 rfl rfl⟩) (ak (fun _ => ⟨rfl, fun _ _ => rfl⟩) (ak (fun _ => ⟨rfl, fun _ _ => rfl⟩) (ak (fun γ => ⟨rfl, fun w' h => ⟨54, #[.agg (kd p r c gx gy).toArray, U (pw p a (n / 2 ^ (j + 1))), U (pw p a (n / 2 ^ (j + 1)))], exec_call rfl call54 rfl (mpn rfl), pow_dbl hp a n j w'⟩⟩) trivial)))
      intro _ w6 H6
      clear H5
      refine rest_at (l := [4]) rfl ?_
      refine rest_set (d := 7) rfl rfl rfl rfl ?_
      simp only [Act.put, sa, sz, ss]
      refine rest_nil (then_normal (wp_seq ?_))
      refine walk_seqB 5 [.quiet (U n), .quiet (.int .i64 ((j : Nat) : Int)), .quiet (U (n / 2 ^ j)), .quiet (U (n / 2 ^ j % 2)), .quiet (.bool true)] H6 ?ho6 ?he6
      case ho6 => exact ak (fun _ => ⟨rfl, fun _ _ => rfl⟩) (ak (fun _ => ⟨rfl, fun _ _ => rfl⟩) (ak (fun γ => ⟨rfl, fun w' _ => ex_shrU (by omega) rfl rfl rfl⟩) (ak (fun γ => ⟨rfl, fun w' _ => ex_and1 rfl (Nat.lt_of_le_of_lt (Nat.div_le_self _ _) hn) rfl rfl⟩) (ak (fun γ => ⟨rfl, fun w' _ => ex_eqU rfl rfl rfl (decide_eq_true (hb))⟩) trivial))))
      intro _ w7 H7
      clear H6
      refine rest0 rfl (then_normal (wp_cond_true rfl ?_))
      refine walk_seqB 4 [.quiet (.agg (kd p r c gx gy).toArray), .quiet (U (tm p (pw p a (n / 2 ^ (j + 1))) (pw p a (n / 2 ^ (j + 1))))), .quiet (U a), .call (U (pw p a (n / 2 ^ j)))] H7 ?ho7 ?he7
      case ho7 => exact ak (fun γ => ⟨rfl, fun w' h => ex_loadT h 0 rfl rfl rfl Try.isAgg27 Try.sizeOf27 rfl rfl⟩) (ak (fun _ => ⟨rfl, fun _ _ => rfl⟩) (ak (fun _ => ⟨rfl, fun _ _ => rfl⟩) (ak (fun γ => ⟨rfl, fun w' h => ⟨54, #[.agg (kd p r c gx gy).toArray, U (tm p (pw p a (n / 2 ^ (j + 1))) (pw p a (n / 2 ^ (j + 1)))), U a], exec_call rfl call54 rfl (mpn rfl), (pow_odd hp a n j ha hb w')⟩⟩) trivial)))
      intro _ w8 H8
      clear H7
      refine rest_at (l := [4]) rfl ?_
      refine rest_set (d := 7) rfl rfl rfl rfl ?_
      simp only [Act.put, sa, sz, ss]
      refine rest_nil (block_normal (then_normal ?_))
      refine walk_seqB 2 [.quiet (.int .i64 ((j : Nat) : Int)), .quiet (.int .i64 (((j : Nat) : Int) - 1))] H8 ?ho8 ?he8
      case ho8 => exact ak (fun _ => ⟨rfl, fun _ _ => rfl⟩) (ak (by refine fun γ => ⟨rfl, fun w' h => ?_⟩; clear h; go_simp; rw [IntKind.wrap_i64]; omega) trivial)
      intro _ w9 H9
      clear H8
      refine rest_at (l := [2]) rfl ?_
      refine rest_set (d := 8) rfl rfl rfl rfl ?_
      simp only [Act.put, sa, sz, ss]
      refine rest_nil (then_normal ?_)
      exact ⟨j, ⟨(slotfn [undef, undef, undef, undef, undef, undef, undef, undef, undef, undef, undef, undef, .int .i64 ((j : Nat) : Int), .bool true, .int .i64 ((j : Nat) : Int), .int .i64 (((j : Nat) : Int) - 1), .agg (kd p r c gx gy).toArray, U (pw p a (n / 2 ^ (j + 1))), U (pw p a (n / 2 ^ (j + 1))), U (tm p (pw p a (n / 2 ^ (j + 1))) (pw p a (n / 2 ^ (j + 1)))), U n, .int .i64 ((j : Nat) : Int), U (n / 2 ^ j), U (n / 2 ^ j % 2), .bool true, .agg (kd p r c gx gy).toArray, U (tm p (pw p a (n / 2 ^ (j + 1))) (pw p a (n / 2 ^ (j + 1)))), U a, U (pw p a (n / 2 ^ j))]), rfl, ⟨H9.out.1, H9.out.2⟩, by omega⟩, by omega⟩
    · have hrd : True := trivial
      clear hrd
      refine wp_seq (wp_seq ?_)
      refine walk_seqB 2 [.quiet (.int .i64 ((j : Nat) : Int)), .quiet (.bool true)] H4 ?ho9 ?he9
      case ho9 => exact ak (fun _ => ⟨rfl, fun _ _ => rfl⟩) (ak (by refine fun γ => ⟨rfl, fun w' h => ?_⟩; clear h; go_simp) trivial)
      intro _ w10 H10
      clear H4
      refine rest0 rfl (then_normal (wp_cond_true rfl ?_))
      refine wp_skip (then_normal ?_)
      refine wp_seq (wp_block (wp_seq ?_))
      refine walk_seqB 4 [.quiet (.agg (kd p r c gx gy).toArray), .quiet (U (pw p a (n / 2 ^ (j + 1)))), .quiet (U (pw p a (n / 2 ^ (j + 1)))), .call (U (pw p a (n / 2 ^ j)))] H10 ?ho10 ?he10
      case ho10 => exact ak (fun γ => ⟨rfl, fun w' h => ex_loadT h 0 rfl rfl rfl Try.isAgg27 Try.sizeOf27 rfl rfl⟩) (ak (fun _ => ⟨rfl, fun _ _ => rfl⟩) (ak (fun _ => ⟨rfl, fun _ _ => rfl⟩) (ak (fun γ => ⟨rfl, fun w' h => ⟨54, #[.agg (kd p r c gx gy).toArray, U (pw p a (n / 2 ^ (j + 1))), U (pw p a (n / 2 ^ (j + 1)))], exec_call rfl call54 rfl (mpn rfl), pow_even hp a n j hb w'⟩⟩) trivial)))
      intro _ w11 H11
      clear H10
      refine rest_at (l := [4]) rfl ?_
      refine rest_set (d := 7) rfl rfl rfl rfl ?_
      simp only [Act.put, sa, sz, ss]
      refine rest_nil (then_normal (wp_seq ?_))
      refine walk_seqB 5 [.quiet (U n), .quiet (.int .i64 ((j : Nat) : Int)), .quiet (U (n / 2 ^ j)), .quiet (U (n / 2 ^ j % 2)), .quiet (.bool false)] H11 ?ho11 ?he11
      case ho11 => exact ak (fun _ => ⟨rfl, fun _ _ => rfl⟩) (ak (fun _ => ⟨rfl, fun _ _ => rfl⟩) (ak (fun γ => ⟨rfl, fun w' _ => ex_shrU (by omega) rfl rfl rfl⟩) (ak (fun γ => ⟨rfl, fun w' _ => ex_and1 rfl (Nat.lt_of_le_of_lt (Nat.div_le_self _ _) hn) rfl rfl⟩) (ak (fun γ => ⟨rfl, fun w' _ => ex_eqU rfl rfl rfl (decide_eq_false (hb))⟩) trivial))))
      intro _ w12 H12
      clear H11
      refine rest0 rfl (then_normal (wp_cond_false rfl ?_))
      refine wp_skip (block_normal (then_normal ?_))
      refine walk_seqB 2 [.quiet (.int .i64 ((j : Nat) : Int)), .quiet (.int .i64 (((j : Nat) : Int) - 1))] H12 ?ho12 ?he12
      case ho12 => exact ak (fun _ => ⟨rfl, fun _ _ => rfl⟩) (ak (by refine fun γ => ⟨rfl, fun w' h => ?_⟩; clear h; go_simp; rw [IntKind.wrap_i64]; omega) trivial)
      intro _ w13 H13
      clear H12
      refine rest_at (l := [2]) rfl ?_
      refine rest_set (d := 8) rfl rfl rfl rfl ?_
      simp only [Act.put, sa, sz, ss]
      refine rest_nil (then_normal ?_)
      exact ⟨j, ⟨(slotfn [undef, undef, undef, undef, undef, undef, undef, undef, undef, undef, undef, undef, .int .i64 ((j : Nat) : Int), .bool true, .int .i64 ((j : Nat) : Int), .int .i64 (((j : Nat) : Int) - 1), .agg (kd p r c gx gy).toArray, U (pw p a (n / 2 ^ (j + 1))), U (pw p a (n / 2 ^ (j + 1))), U (pw p a (n / 2 ^ j)), U n, .int .i64 ((j : Nat) : Int), U (n / 2 ^ j), U (n / 2 ^ j % 2), .bool false, s0 25, s0 26, s0 27, s0 28]), rfl, ⟨H13.out.1, H13.out.2⟩, by omega⟩, by omega⟩
  have hk : k = 0 := by omega
  subst hk
  refine wp_seq (wp_seq ?_)
  refine walk_seqB 2 [.quiet (.int .i64 (((0 : Nat) : Int) - 1)), .quiet (.bool false)] H4 ?ho13 ?he13
  case ho13 => exact ak (fun _ => ⟨rfl, fun _ _ => rfl⟩) (ak (by refine fun γ => ⟨rfl, fun w' h => ?_⟩; clear h; go_simp) trivial)
  intro _ w14 H14
  clear H4
  refine rest0 rfl (then_normal (wp_cond_false rfl ?_))
  refine wp_exit ?_
  repeat refine then_exit ?_
  refine block_exit ?_
  refine then_normal (wp_seq ?_)
  refine walk_seqB 2 [.quiet (U (pw p a (n / 2 ^ 0))), .quiet (U (pw p a (n / 2 ^ 0)))] H14 ?ho14 ?he14
  case ho14 => exact ak (fun _ => ⟨rfl, fun _ _ => rfl⟩) (ak (fun _ => ⟨rfl, fun _ _ => rfl⟩) trivial)
  intro _ w15 H15
  clear H14
  refine rest0 rfl (then_normal (wp_ret ?_))
  repeat (first | refine then_ret ?_ | refine block_ret ?_)
  refine bodyPost_ret (v := U (pw p a (n / 2 ^ 0))) (by simp [results, Try.results53, go_sem, *]) rfl ?_
  exact ⟨by rw [Nat.pow_zero, Nat.div_one], H15.out.2⟩
set_option maxRecDepth 100000 in
theorem dinv_any (hp : Pr p) (a : Nat) (ha : a < p) (w : World) :
    Calls Try.prog 77 #[.agg (kd p r c gx gy).toArray, U a] w fun e w' => e = .returned (U (pw p a (p - 2))) ∧ Below w.heap.size w w' := by
  have H0 : Hid (_ ∧ _) := ⟨Mm.nil w, Below.refl w.heap.size w⟩
  go_enter Try.func77, Try.ntmps77
  refine wp_seq ?_
  refine walk_seqA 2 [.made (kd p r c gx gy) 27, .quiet (U 0)] (sB H0) ?ho1 ?he1
  case ho1 => exact ak (fun γ => ⟨rfl, fun w' => ex_boxT rfl rfl⟩) (ak (fun _ => ⟨rfl, fun _ _ => rfl⟩) trivial)
  intro γ w1 l hM hl
  have H1 : Hid (Mm w1 [(γ 0, kd p r c gx gy)] ∧ _) := growB H0 hM (Nat.le_refl _) hl [0] rfl (by decide)
  have o1_0 := ownB H0 hM (Nat.le_refl _) hl (i := 0) rfl
  clear hM hl l
  generalize γ 0 = γ1_0 at H1 o1_0 ⊢
  clear γ
  refine rest0 rfl (then_normal (wp_seq ?_))
  refine walk_seqB 7 [.quiet (.agg (kd p r c gx gy).toArray), .quiet (U a), .quiet (PT γ1_0 0), .quiet (U p), .quiet (U (p - 2)), .call (U (pw p a (p - 2))), .quiet (U (pw p a (p - 2)))] H1 ?ho2 ?he2
  case ho2 => exact ak (fun γ => ⟨rfl, fun w' h => ex_loadT h 0 rfl rfl rfl Try.isAgg27 Try.sizeOf27 rfl rfl⟩) (ak (fun _ => ⟨rfl, fun _ _ => rfl⟩) (ak (by refine fun γ => ⟨rfl, fun w' h => ?_⟩; clear h; go_simp) (ak (fun γ => ⟨rfl, fun w' h => ex_loadC h 0 rfl rfl rfl Try.isAgg23 rfl⟩) (ak (fun γ => ⟨rfl, fun w' _ => ex_subU (by have := hp.lo; omega) (by have := hp.hi; omega) rfl rfl rfl⟩) (ak (fun γ => ⟨rfl, fun w' h => ⟨53, #[.agg (kd p r c gx gy).toArray, U a, U (p - 2)], exec_call rfl call53 rfl (mpn rfl), dpow_any hp a (p - 2) ha (by have := hp.hi; omega) w'⟩⟩) (ak (fun _ => ⟨rfl, fun _ _ => rfl⟩) trivial))))))
  intro _ w2 H2
  clear H1
  refine rest0 rfl (then_normal (wp_ret ?_))
  repeat (first | refine then_ret ?_ | refine block_ret ?_)
  refine bodyPost_ret (v := U (pw p a (p - 2))) (by simp [results, Try.results77, go_sem, *]) rfl ?_
  exact ⟨rfl, H2.out.2⟩
set_option maxRecDepth 100000 in
theorem side_raw (hp : Pr p) (x : Nat) (hx : x < p) (w : World) :
    Calls Try.prog 52 #[.agg (kd p r c gx gy).toArray, U x] w fun e w' => e = .returned (U (pl p (tm p (tm p x x) x) x)) ∧ Below w.heap.size w w' := by
  have H0 : Hid (_ ∧ _) := ⟨Mm.nil w, Below.refl w.heap.size w⟩
  go_enter Try.func52, Try.ntmps52
  refine wp_seq ?_
  refine walk_seqA 2 [.made (kd p r c gx gy) 27, .quiet (U 0)] (sB H0) ?ho1 ?he1
  case ho1 => exact ak (fun γ => ⟨rfl, fun w' => ex_boxT rfl rfl⟩) (ak (fun _ => ⟨rfl, fun _ _ => rfl⟩) trivial)
  intro γ w1 l hM hl
  have H1 : Hid (Mm w1 [(γ 0, kd p r c gx gy)] ∧ _) := growB H0 hM (Nat.le_refl _) hl [0] rfl (by decide)
  have o1_0 := ownB H0 hM (Nat.le_refl _) hl (i := 0) rfl
  clear hM hl l
  generalize γ 0 = γ1_0 at H1 o1_0 ⊢
  clear γ
  refine rest0 rfl (then_normal (wp_seq ?_))
  refine walk_anyB 11 [.quiet (.agg (kd p r c gx gy).toArray), .quiet (.agg (kd p r c gx gy).toArray), .quiet (.agg (kd p r c gx gy).toArray), .quiet (U x), .quiet (U x), .call (U (tm p x x)), .quiet (U x), .call (U (tm p (tm p x x) x)), .quiet (U x), .call (U (pl p (tm p (tm p x x) x) x)), .quiet (U (pl p (tm p (tm p x x) x) x))] H1 ?ho2 ?he2
  case ho2 => exact ak (fun γ => ⟨rfl, fun w' h => ex_loadT h 0 rfl rfl rfl Try.isAgg27 Try.sizeOf27 rfl rfl⟩) (ak (fun γ => ⟨rfl, fun w' h => ex_loadT h 0 rfl rfl rfl Try.isAgg27 Try.sizeOf27 rfl rfl⟩) (ak (fun γ => ⟨rfl, fun w' h => ex_loadT h 0 rfl rfl rfl Try.isAgg27 Try.sizeOf27 rfl rfl⟩) (ak (fun _ => ⟨rfl, fun _ _ => rfl⟩) (ak (fun _ => ⟨rfl, fun _ _ => rfl⟩) (ak (fun γ => ⟨rfl, fun w' h => ⟨54, #[.agg (kd p r c gx gy).toArray, U x, U x], exec_call rfl call54 rfl (mpn rfl), dmul_any hp x x hx hx w'⟩⟩) (ak (fun _ => ⟨rfl, fun _ _ => rfl⟩) (ak (fun γ => ⟨rfl, fun w' h => ⟨54, #[.agg (kd p r c gx gy).toArray, U (tm p x x), U x], exec_call rfl call54 rfl (mpn rfl), dmul_any hp (tm p x x) x (tm_lt hp) hx w'⟩⟩) (ak (fun _ => ⟨rfl, fun _ _ => rfl⟩) (ak (fun γ => ⟨rfl, fun w' h => ⟨56, #[.agg (kd p r c gx gy).toArray, U (tm p (tm p x x) x), U x], exec_call rfl call56 rfl (mpn rfl), dadd_any hp (tm p (tm p x x) x) x (tm_lt hp) hx w'⟩⟩) (ak (fun _ => ⟨rfl, fun _ _ => rfl⟩) trivial))))))))))
  intro _ w2 H2
  clear H1
  refine rest0 rfl (then_normal (wp_ret ?_))
  repeat (first | refine then_ret ?_ | refine block_ret ?_)
  refine bodyPost_ret (v := U (pl p (tm p (tm p x x) x) x)) (by simp [results, Try.results52, go_sem, *]) rfl ?_
  exact ⟨rfl, H2.out.2⟩
theorem side_any (hp : Pr p) (x : Nat) (hx : x < p) (w : World) : Calls Try.prog 52 #[.agg (kd p r c gx gy).toArray, U x] w fun e w' => e = .returned (U (cb p x)) ∧ Below w.heap.size w w' := by
  have h := side_raw (r := r) (c := c) (gx := gx) (gy := gy) hp x hx w
  rw [side_cb] at h
  exact h
set_option maxRecDepth 100000 in
theorem dc_z0 (X Y : Nat) (h : X ≠ 0) (w : World) :
    Calls Try.prog 22 #[.agg (kd p r c gx gy).toArray, .agg (pt X Y true).toArray] w fun e w' => e = .returned (.bool false) ∧ Below w.heap.size w w' := by
  have H0 : Hid (_ ∧ _) := ⟨Mm.nil w, Below.refl w.heap.size w⟩
  go_enter Try.func22, Try.ntmps22
  refine wp_seq ?_
  refine walk_seqA 3 [.made (kd p r c gx gy) 27, .made (pt X Y true) 25, .quiet (.bool false)] (sB H0) ?ho1 ?he1
  case ho1 => exact ak (fun γ => ⟨rfl, fun w' => ex_boxT rfl rfl⟩) (ak (fun γ => ⟨rfl, fun w' => ex_boxT rfl rfl⟩) (ak (fun _ => ⟨rfl, fun _ _ => rfl⟩) trivial))
  intro γ w1 l hM hl
  have H1 : Hid (Mm w1 [(γ 0, kd p r c gx gy), (γ 1, pt X Y true)] ∧ _) := growB H0 hM (Nat.le_refl _) hl [0, 1] rfl (by decide)
  have o1_0 := ownB H0 hM (Nat.le_refl _) hl (i := 0) rfl
  have o1_1 := ownB H0 hM (Nat.le_refl _) hl (i := 1) rfl
  clear hM hl l
  generalize γ 0 = γ1_0 at H1 o1_0 ⊢
  generalize γ 1 = γ1_1 at H1 o1_1 ⊢
  clear γ
  refine rest0 rfl (then_normal (wp_seq (wp_seq ?_)))
  refine walk_seqB 2 [.quiet (PT γ1_1 2), .quiet (.bool true)] H1 ?ho2 ?he2
  case ho2 => exact ak (by refine fun γ => ⟨rfl, fun w' h => ?_⟩; clear h; go_simp) (ak (fun γ => ⟨rfl, fun w' h => ex_loadC h 1 rfl rfl rfl Try.isAgg4 rfl⟩) trivial)
  intro _ w2 H2
  clear H1
  refine rest0 rfl (then_normal (wp_cond_true rfl (wp_seq ?_)))
  refine walk_seqB 9 [.quiet (PT γ1_1 0), .quiet (U X), .quiet (.bool false), .quiet (.bool false), .gone, .gone, .gone, .quiet (.bool false), .quiet (.bool false)] H2 ?ho3 ?he3
  case ho3 => exact ak (by refine fun γ => ⟨rfl, fun w' h => ?_⟩; clear h; go_simp) (ak (fun γ => ⟨rfl, fun w' h => ex_loadC h 1 rfl rfl rfl Try.isAgg23 rfl⟩) (ak (fun γ => ⟨rfl, fun w' _ => ex_eqU rfl rfl rfl (decide_eq_false (h))⟩) (ak (fun _ => ⟨rfl, fun _ _ => rfl⟩) (ak (fun γ => rfl) (ak (fun γ => rfl) (ak (fun γ => rfl) (ak (by refine fun γ => ⟨rfl, fun w' h => ?_⟩; clear h; go_simp) (ak (fun _ => ⟨rfl, fun _ _ => rfl⟩) trivial))))))))
  intro _ w3 H3
  clear H2
  refine rest0 rfl (then_normal (wp_ret ?_))
  repeat (first | refine then_ret ?_ | refine block_ret ?_)
  refine bodyPost_ret (v := .bool false) (by simp [results, Try.results22, go_sem, *]) rfl ?_
  exact ⟨rfl, H3.out.2⟩
set_option maxRecDepth 100000 in
theorem dc_z1 (X Y : Nat) (h : X = 0) (w : World) :
    Calls Try.prog 22 #[.agg (kd p r c gx gy).toArray, .agg (pt X Y true).toArray] w fun e w' => e = .returned (.bool (decide (Y = 0))) ∧ Below w.heap.size w w' := by
  have H0 : Hid (_ ∧ _) := ⟨Mm.nil w, Below.refl w.heap.size w⟩
  go_enter Try.func22, Try.ntmps22
  refine wp_seq ?_
  refine walk_seqA 3 [.made (kd p r c gx gy) 27, .made (pt X Y true) 25, .quiet (.bool false)] (sB H0) ?ho1 ?he1
  case ho1 => exact ak (fun γ => ⟨rfl, fun w' => ex_boxT rfl rfl⟩) (ak (fun γ => ⟨rfl, fun w' => ex_boxT rfl rfl⟩) (ak (fun _ => ⟨rfl, fun _ _ => rfl⟩) trivial))
  intro γ w1 l hM hl
  have H1 : Hid (Mm w1 [(γ 0, kd p r c gx gy), (γ 1, pt X Y true)] ∧ _) := growB H0 hM (Nat.le_refl _) hl [0, 1] rfl (by decide)
  have o1_0 := ownB H0 hM (Nat.le_refl _) hl (i := 0) rfl
  have o1_1 := ownB H0 hM (Nat.le_refl _) hl (i := 1) rfl
  clear hM hl l
  generalize γ 0 = γ1_0 at H1 o1_0 ⊢
  generalize γ 1 = γ1_1 at H1 o1_1 ⊢
  clear γ
  refine rest0 rfl (then_normal (wp_seq (wp_seq ?_)))
  refine walk_seqB 2 [.quiet (PT γ1_1 2), .quiet (.bool true)] H1 ?ho2 ?he2
  case ho2 => exact ak (by refine fun γ => ⟨rfl, fun w' h => ?_⟩; clear h; go_simp) (ak (fun γ => ⟨rfl, fun w' h => ex_loadC h 1 rfl rfl rfl Try.isAgg4 rfl⟩) trivial)
  intro _ w2 H2
  clear H1
  refine rest0 rfl (then_normal (wp_cond_true rfl (wp_seq ?_)))
  refine walk_seqB 9 [.quiet (PT γ1_1 0), .quiet (U X), .quiet (.bool true), .quiet (.bool true), .quiet (PT γ1_1 1), .quiet (U Y), .quiet (.bool (decide (Y = 0))), .quiet (.bool (decide (Y = 0))), .quiet (.bool (decide (Y = 0)))] H2 ?ho3 ?he3
  case ho3 => exact ak (by refine fun γ => ⟨rfl, fun w' h => ?_⟩; clear h; go_simp) (ak (fun γ => ⟨rfl, fun w' h => ex_loadC h 1 rfl rfl rfl Try.isAgg23 rfl⟩) (ak (fun γ => ⟨rfl, fun w' _ => ex_eqU rfl rfl rfl (decide_eq_true (h))⟩) (ak (fun _ => ⟨rfl, fun _ _ => rfl⟩) (ak (by refine fun γ => ⟨rfl, fun w' h => ?_⟩; clear h; go_simp) (ak (fun γ => ⟨rfl, fun w' h => ex_loadC h 1 rfl rfl rfl Try.isAgg23 rfl⟩) (ak (fun γ => ⟨rfl, fun w' _ => ex_eqU rfl rfl rfl rfl⟩) (ak (by refine fun γ => ⟨rfl, fun w' h => ?_⟩; clear h; go_simp) (ak (fun _ => ⟨rfl, fun _ _ => rfl⟩) trivial))))))))
  intro _ w3 H3
  clear H2
  refine rest0 rfl (then_normal (wp_ret ?_))
  repeat (first | refine then_ret ?_ | refine block_ret ?_)
  refine bodyPost_ret (v := .bool (decide (Y = 0))) (by simp [results, Try.results22, go_sem, *]) rfl ?_
  exact ⟨rfl, H3.out.2⟩
set_option maxRecDepth 100000 in
theorem dc_x (X Y : Nat) (hX : ¬ X < p) (w : World) :
    Calls Try.prog 22 #[.agg (kd p r c gx gy).toArray, .agg (pt X Y false).toArray] w fun e w' => e = .returned (.bool false) ∧ Below w.heap.size w w' := by
  have H0 : Hid (_ ∧ _) := ⟨Mm.nil w, Below.refl w.heap.size w⟩
  go_enter Try.func22, Try.ntmps22
  refine wp_seq ?_
  refine walk_seqA 3 [.made (kd p r c gx gy) 27, .made (pt X Y false) 25, .quiet (.bool false)] (sB H0) ?ho1 ?he1
  case ho1 => exact ak (fun γ => ⟨rfl, fun w' => ex_boxT rfl rfl⟩) (ak (fun γ => ⟨rfl, fun w' => ex_boxT rfl rfl⟩) (ak (fun _ => ⟨rfl, fun _ _ => rfl⟩) trivial))
  intro γ w1 l hM hl
  have H1 : Hid (Mm w1 [(γ 0, kd p r c gx gy), (γ 1, pt X Y false)] ∧ _) := growB H0 hM (Nat.le_refl _) hl [0, 1] rfl (by decide)
  have o1_0 := ownB H0 hM (Nat.le_refl _) hl (i := 0) rfl
  have o1_1 := ownB H0 hM (Nat.le_refl _) hl (i := 1) rfl
  clear hM hl l
  generalize γ 0 = γ1_0 at H1 o1_0 ⊢
  generalize γ 1 = γ1_1 at H1 o1_1 ⊢
  clear γ
  refine rest0 rfl (then_normal (wp_seq (wp_seq ?_)))
  refine walk_seqB 2 [.quiet (PT γ1_1 2), .quiet (.bool false)] H1 ?ho2 ?he2
  case ho2 => exact ak (by refine fun γ => ⟨rfl, fun w' h => ?_⟩; clear h; go_simp) (ak (fun γ => ⟨rfl, fun w' h => ex_loadC h 1 rfl rfl rfl Try.isAgg4 rfl⟩) trivial)
  intro _ w2 H2
  clear H1
  refine rest0 rfl (then_normal (wp_cond_false rfl ?_))
  refine wp_skip (then_normal (wp_seq ?_))
  refine walk_anyB 26 [.quiet (PT γ1_1 0), .quiet (U X), .quiet (PT γ1_0 0), .quiet (U p), .quiet (.bool false), .quiet (.bool false), .gone, .gone, .gone, .gone, .gone, .quiet (.bool false), .quiet (.bool false), .gone, .gone, .gone, .gone, .gone, .gone, .gone, .gone, .gone, .gone, .gone, .quiet (.bool false), .quiet (.bool false)] H2 ?ho3 ?he3 (hL := ?hL3)
  case hL3 => exact trivial
  case ho3 => exact ak (by refine fun γ => ⟨rfl, fun w' h => ?_⟩; clear h; go_simp) (ak (fun γ => ⟨rfl, fun w' h => ex_loadC h 1 rfl rfl rfl Try.isAgg23 rfl⟩) (ak (by refine fun γ => ⟨rfl, fun w' h => ?_⟩; clear h; go_simp) (ak (fun γ => ⟨rfl, fun w' h => ex_loadC h 0 rfl rfl rfl Try.isAgg23 rfl⟩) (ak (fun γ => ⟨rfl, fun w' _ => ex_ltU rfl rfl rfl (decide_eq_false (hX))⟩) (ak (fun _ => ⟨rfl, fun _ _ => rfl⟩) (ak (fun γ => rfl) (ak (fun γ => rfl) (ak (fun γ => rfl) (ak (fun γ => rfl) (ak (fun γ => rfl) (ak (by refine fun γ => ⟨rfl, fun w' h => ?_⟩; clear h; go_simp) (ak (fun _ => ⟨rfl, fun _ _ => rfl⟩) (ak (fun γ => rfl) (ak (fun γ => rfl) (ak (fun γ => rfl) (ak (fun γ => rfl) (ak (fun γ => rfl) (ak (fun γ => rfl) (ak (fun γ => rfl) (ak (fun γ => rfl) (ak (fun γ => rfl) (ak (fun γ => rfl) (ak (fun γ => rfl) (ak (by refine fun γ => ⟨rfl, fun w' h => ?_⟩; clear h; go_simp) (ak (fun _ => ⟨rfl, fun _ _ => rfl⟩) trivial)))))))))))))))))))))))))
  intro _ w3 H3
  clear H2
  refine rest0 rfl (then_normal (wp_ret ?_))
  repeat (first | refine then_ret ?_ | refine block_ret ?_)
  refine bodyPost_ret (v := .bool false) (by simp [results, Try.results22, go_sem, *]) rfl ?_
  exact ⟨rfl, H3.out.2⟩
set_option maxRecDepth 100000 in
theorem dc_y (X Y : Nat) (hX : X < p) (hY : ¬ Y < p) (w : World) :
    Calls Try.prog 22 #[.agg (kd p r c gx gy).toArray, .agg (pt X Y false).toArray] w fun e w' => e = .returned (.bool false) ∧ Below w.heap.size w w' := by
  have H0 : Hid (_ ∧ _) := ⟨Mm.nil w, Below.refl w.heap.size w⟩
  go_enter Try.func22, Try.ntmps22
  refine wp_seq ?_
  refine walk_seqA 3 [.made (kd p r c gx gy) 27, .made (pt X Y false) 25, .quiet (.bool false)] (sB H0) ?ho1 ?he1
  case ho1 => exact ak (fun γ => ⟨rfl, fun w' => ex_boxT rfl rfl⟩) (ak (fun γ => ⟨rfl, fun w' => ex_boxT rfl rfl⟩) (ak (fun _ => ⟨rfl, fun _ _ => rfl⟩) trivial))
  intro γ w1 l hM hl
  have H1 : Hid (Mm w1 [(γ 0, kd p r c gx gy), (γ 1, pt X Y false)] ∧ _) := growB H0 hM (Nat.le_refl _) hl [0, 1] rfl (by decide)
  have o1_0 := ownB H0 hM (Nat.le_refl _) hl (i := 0) rfl
  have o1_1 := ownB H0 hM (Nat.le_refl _) hl (i := 1) rfl
  clear hM hl l
  generalize γ 0 = γ1_0 at H1 o1_0 ⊢
  generalize γ 1 = γ1_1 at H1 o1_1 ⊢
  clear γ
  refine rest0 rfl (then_normal (wp_seq (wp_seq ?_)))
  refine walk_seqB 2 [.quiet (PT γ1_1 2), .quiet (.bool false)] H1 ?ho2 ?he2
  case ho2 => exact ak (by refine fun γ => ⟨rfl, fun w' h => ?_⟩; clear h; go_simp) (ak (fun γ => ⟨rfl, fun w' h => ex_loadC h 1 rfl rfl rfl Try.isAgg4 rfl⟩) trivial)
  intro _ w2 H2
  clear H1
  refine rest0 rfl (then_normal (wp_cond_false rfl ?_))
  refine wp_skip (then_normal (wp_seq ?_))
  refine walk_anyB 26 [.quiet (PT γ1_1 0), .quiet (U X), .quiet (PT γ1_0 0), .quiet (U p), .quiet (.bool true), .quiet (.bool true), .quiet (PT γ1_1 1), .quiet (U Y), .quiet (PT γ1_0 0), .quiet (U p), .quiet (.bool false), .quiet (.bool false), .quiet (.bool false), .gone, .gone, .gone, .gone, .gone, .gone, .gone, .gone, .gone, .gone, .gone, .quiet (.bool false), .quiet (.bool false)] H2 ?ho3 ?he3 (hL := ?hL3)
  case hL3 => exact trivial
  case ho3 => exact ak (by refine fun γ => ⟨rfl, fun w' h => ?_⟩; clear h; go_simp) (ak (fun γ => ⟨rfl, fun w' h => ex_loadC h 1 rfl rfl rfl Try.isAgg23 rfl⟩) (ak (by refine fun γ => ⟨rfl, fun w' h => ?_⟩; clear h; go_simp) (ak (fun γ => ⟨rfl, fun w' h => ex_loadC h 0 rfl rfl rfl Try.isAgg23 rfl⟩) (ak (fun γ => ⟨rfl, fun w' _ => ex_ltU rfl rfl rfl (decide_eq_true (hX))⟩) (ak (fun _ => ⟨rfl, fun _ _ => rfl⟩) (ak (by refine fun γ => ⟨rfl, fun w' h => ?_⟩; clear h; go_simp) (ak (fun γ => ⟨rfl, fun w' h => ex_loadC h 1 rfl rfl rfl Try.isAgg23 rfl⟩) (ak (by refine fun γ => ⟨rfl, fun w' h => ?_⟩; clear h; go_simp) (ak (fun γ => ⟨rfl, fun w' h => ex_loadC h 0 rfl rfl rfl Try.isAgg23 rfl⟩) (ak (fun γ => ⟨rfl, fun w' _ => ex_ltU rfl rfl rfl (decide_eq_false (hY))⟩) (ak (by refine fun γ => ⟨rfl, fun w' h => ?_⟩; clear h; go_simp) (ak (fun _ => ⟨rfl, fun _ _ => rfl⟩) (ak (fun γ => rfl) (ak (fun γ => rfl) (ak (fun γ => rfl) (ak (fun γ => rfl) (ak (fun γ => rfl) (ak (fun γ => rfl) (ak (fun γ => rfl) (ak (fun γ => rfl) (ak (fun γ => rfl) (ak (fun γ => rfl) (ak (fun γ => rfl) (ak (by refine fun γ => ⟨rfl, fun w' h => ?_⟩; clear h; go_simp) (ak (fun _ => ⟨rfl, fun _ _ => rfl⟩) trivial)))))))))))))))))))))))))
  intro _ w3 H3
  clear H2
  refine rest0 rfl (then_normal (wp_ret ?_))
  repeat (first | refine then_ret ?_ | refine block_ret ?_)
  refine bodyPost_ret (v := .bool false) (by simp [results, Try.results22, go_sem, *]) rfl ?_
  exact ⟨rfl, H3.out.2⟩
set_option maxRecDepth 100000 in
theorem dc_in (hp : Pr p) (X Y : Nat) (hX : X < p) (hY : Y < p) (w : World) :
    Calls Try.prog 22 #[.agg (kd p r c gx gy).toArray, .agg (pt X Y false).toArray] w fun e w' => e = .returned (.bool (decide (tm p Y Y = cb p X))) ∧ Below w.heap.size w w' := by
  have H0 : Hid (_ ∧ _) := ⟨Mm.nil w, Below.refl w.heap.size w⟩
  go_enter Try.func22, Try.ntmps22
  refine wp_seq ?_
  refine walk_seqA 3 [.made (kd p r c gx gy) 27, .made (pt X Y false) 25, .quiet (.bool false)] (sB H0) ?ho1 ?he1
  case ho1 => exact ak (fun γ => ⟨rfl, fun w' => ex_boxT rfl rfl⟩) (ak (fun γ => ⟨rfl, fun w' => ex_boxT rfl rfl⟩) (ak (fun _ => ⟨rfl, fun _ _ => rfl⟩) trivial))
  intro γ w1 l hM hl
  have H1 : Hid (Mm w1 [(γ 0, kd p r c gx gy), (γ 1, pt X Y false)] ∧ _) := growB H0 hM (Nat.le_refl _) hl [0, 1] rfl (by decide)
  have o1_0 := ownB H0 hM (Nat.le_refl _) hl (i := 0) rfl
  have o1_1 := ownB H0 hM (Nat.le_refl _) hl (i := 1) rfl
  clear hM hl l
  generalize γ 0 = γ1_0 at H1 o1_0 ⊢
  generalize γ 1 = γ1_1 at H1 o1_1 ⊢
  clear γ
  refine rest0 rfl (then_normal (wp_seq (wp_seq ?_)))
  refine walk_seqB 2 [.quiet (PT γ1_1 2), .quiet (.bool false)] H1 ?ho2 ?he2
  case ho2 => exact ak (by refine fun γ => ⟨rfl, fun w' h => ?_⟩; clear h; go_simp) (ak (fun γ => ⟨rfl, fun w' h => ex_loadC h 1 rfl rfl rfl Try.isAgg4 rfl⟩) trivial)
  intro _ w2 H2
  clear H1
  refine rest0 rfl (then_normal (wp_cond_false rfl ?_))
  refine wp_skip (then_normal (wp_seq ?_))
  refine walk_anyB 26 [.quiet (PT γ1_1 0), .quiet (U X), .quiet (PT γ1_0 0), .quiet (U p), .quiet (.bool true), .quiet (.bool true), .quiet (PT γ1_1 1), .quiet (U Y), .quiet (PT γ1_0 0), .quiet (U p), .quiet (.bool true), .quiet (.bool true), .quiet (.bool true), .quiet (.agg (kd p r c gx gy).toArray), .quiet (PT γ1_1 1), .quiet (U Y), .quiet (PT γ1_1 1), .quiet (U Y), .call (U (tm p Y Y)), .quiet (.agg (kd p r c gx gy).toArray), .quiet (PT γ1_1 0), .quiet (U X), .call (U (cb p X)), .quiet (.bool (decide (tm p Y Y = cb p X))), .quiet (.bool (decide (tm p Y Y = cb p X))), .quiet (.bool (decide (tm p Y Y = cb p X)))] H2 ?ho3 ?he3 (hL := ?hL3)
  case hL3 => exact trivial
  case ho3 => exact ak (by refine fun γ => ⟨rfl, fun w' h => ?_⟩; clear h; go_simp) (ak (fun γ => ⟨rfl, fun w' h => ex_loadC h 1 rfl rfl rfl Try.isAgg23 rfl⟩) (ak (by refine fun γ => ⟨rfl, fun w' h => ?_⟩; clear h; go_simp) (ak (fun γ => ⟨rfl, fun w' h => ex_loadC h 0 rfl rfl rfl Try.isAgg23 rfl⟩) (ak (fun γ => ⟨rfl, fun w' _ => ex_ltU rfl rfl rfl (decide_eq_true (hX))⟩) (ak (fun _ => ⟨rfl, fun _ _ => rfl⟩) (ak (by refine fun γ => ⟨rfl, fun w' h => ?_⟩; clear h; go_simp) (ak (fun γ => ⟨rfl, fun w' h => ex_loadC h 1 rfl rfl rfl Try.isAgg23 rfl⟩) (ak (by refine fun γ => ⟨rfl, fun w' h => ?_⟩; clear h; go_simp) (ak (fun γ => ⟨rfl, fun w' h => ex_loadC h 0 rfl rfl rfl Try.isAgg23 rfl⟩) (ak (fun γ => ⟨rfl, fun w' _ => ex_ltU rfl rfl rfl (decide_eq_true (hY))⟩) (ak (by refine fun γ => ⟨rfl, fun w' h => ?_⟩; clear h; go_simp) (ak (fun _ => ⟨rfl, fun _ _ => rfl⟩) (ak (fun γ => ⟨rfl, fun w' h => ex_loadT h 0 rfl rfl rfl Try.isAgg27 Try.sizeOf27 rfl rfl⟩) (ak (by refine fun γ => ⟨rfl, fun w' h => ?_⟩; clear h; go_simp) (ak (fun γ => ⟨rfl, fun w' h => ex_loadC h 1 rfl rfl rfl Try.isAgg23 rfl⟩) (ak (by refine fun γ => ⟨rfl, fun w' h => ?_⟩; clear h; go_simp) (ak (fun γ => ⟨rfl, fun w' h => ex_loadC h 1 rfl rfl rfl Try.isAgg23 rfl⟩) (ak (fun γ => ⟨rfl, fun w' h => ⟨54, #[.agg (kd p r c gx gy).toArray, U Y, U Y], exec_call rfl call54 rfl (mpn rfl), dmul_any hp Y Y hY hY w'⟩⟩) (ak (fun γ => ⟨rfl, fun w' h => ex_loadT h 0 rfl rfl rfl Try.isAgg27 Try.sizeOf27 rfl rfl⟩) (ak (by refine fun γ => ⟨rfl, fun w' h => ?_⟩; clear h; go_simp) (ak (fun γ => ⟨rfl, fun w' h => ex_loadC h 1 rfl rfl rfl Try.isAgg23 rfl⟩) (ak (fun γ => ⟨rfl, fun w' h => ⟨52, #[.agg (kd p r c gx gy).toArray, U X], exec_call rfl call52 rfl (mpn rfl), side_any hp X hX w'⟩⟩) (ak (fun γ => ⟨rfl, fun w' _ => ex_eqU rfl rfl rfl rfl⟩) (ak (by refine fun γ => ⟨rfl, fun w' h => ?_⟩; clear h; go_simp) (ak (fun _ => ⟨rfl, fun _ _ => rfl⟩) trivial)))))))))))))))))))))))))
  intro _ w3 H3
  clear H2
  refine rest0 rfl (then_normal (wp_ret ?_))
  repeat (first | refine then_ret ?_ | refine block_ret ?_)
  refine bodyPost_ret (v := .bool (decide (tm p Y Y = cb p X))) (by simp [results, Try.results22, go_sem, *]) rfl ?_
  exact ⟨rfl, H3.out.2⟩
theorem dCheck_any (hp : Pr p) (X Y : Nat) (Z : Bool) (w : World) : Calls Try.prog 22 #[.agg (kd p r c gx gy).toArray, .agg (pt X Y Z).toArray] w fun e w' => e = .returned (.bool (oc p X Y Z)) ∧ Below w.heap.size w w' := by
  unfold oc
  cases Z
  · rw [if_neg (by decide)]
    by_cases hX : X < p
    · by_cases hY : Y < p
      · rw [decide_eq_true hX, decide_eq_true hY, Bool.true_and, Bool.true_and]; exact dc_in hp X Y hX hY w
      · rw [decide_eq_false hY, Bool.false_and, Bool.and_false]; exact dc_y X Y hX hY w
    · rw [decide_eq_false hX, Bool.false_and]; exact dc_x X Y hX w
  · rw [if_pos rfl]
    by_cases hX : X = 0
    · rw [decide_eq_true hX, Bool.true_and]; exact dc_z1 X Y hX w
    · rw [decide_eq_false hX, Bool.false_and]; exact dc_z0 X Y hX w
set_option maxRecDepth 100000 in
theorem dNeg_any (hp : Pr p) (X Y : Nat) (Z : Bool) (hY : Y < p) (w : World) :
    Calls Try.prog 25 #[.agg (kd p r c gx gy).toArray, .agg (pt X Y Z).toArray] w fun e w' => e = .returned (V (pt X (mi p 0 Y) Z)) ∧ Below w.heap.size w w' := by
  have H0 : Hid (_ ∧ _) := ⟨Mm.nil w, Below.refl w.heap.size w⟩
  go_enter Try.func25, Try.ntmps25
  refine wp_seq ?_
  refine walk_seqA 3 [.made (kd p r c gx gy) 27, .made (pt X Y Z) 25, .made (pt 0 0 false) 25] (sB H0) ?ho1 ?he1
  case ho1 => exact ak (fun γ => ⟨rfl, fun w' => ex_boxT rfl rfl⟩) (ak (fun γ => ⟨rfl, fun w' => ex_boxT rfl rfl⟩) (ak (fun γ => ⟨rfl, fun w' => ex_made25 rfl⟩) trivial))
  intro γ w1 l hM hl
  have H1 : Hid (Mm w1 [(γ 0, kd p r c gx gy), (γ 1, pt X Y Z), (γ 2, pt 0 0 false)] ∧ _) := growB H0 hM (Nat.le_refl _) hl [0, 1, 2] rfl (by decide)
  have o1_0 := ownB H0 hM (Nat.le_refl _) hl (i := 0) rfl
  have o1_1 := ownB H0 hM (Nat.le_refl _) hl (i := 1) rfl
  have o1_2 := ownB H0 hM (Nat.le_refl _) hl (i := 2) rfl
  clear hM hl l
  generalize γ 0 = γ1_0 at H1 o1_0 ⊢
  generalize γ 1 = γ1_1 at H1 o1_1 ⊢
  generalize γ 2 = γ1_2 at H1 o1_2 ⊢
  clear γ
  refine rest0 rfl (then_normal (wp_seq ?_))
  refine walk_seqB 5 [.quiet (.agg (kd p r c gx gy).toArray), .quiet (PT γ1_1 1), .quiet (U Y), .call (U (mi p 0 Y)), .quiet (PT γ1_1 1)] H1 ?ho2 ?he2
  case ho2 => exact ak (fun γ => ⟨rfl, fun w' h => ex_loadT h 0 rfl rfl rfl Try.isAgg27 Try.sizeOf27 rfl rfl⟩) (ak (by refine fun γ => ⟨rfl, fun w' h => ?_⟩; clear h; go_simp) (ak (fun γ => ⟨rfl, fun w' h => ex_loadC h 1 rfl rfl rfl Try.isAgg23 rfl⟩) (ak (fun γ => ⟨rfl, fun w' h => ⟨55, #[.agg (kd p r c gx gy).toArray, U Y], exec_call rfl call55 rfl (mpn rfl), dneg_any hp Y hY w'⟩⟩) (ak (by refine fun γ => ⟨rfl, fun w' h => ?_⟩; clear h; go_simp) trivial))))
  intro _ w2 H2
  clear H1
  refine rest_at (l := [5]) rfl ?_
  refine rest_store rfl rfl rfl (ex_storeI H2.out.1 1 rfl rfl Try.sizeOf23 rfl rfl (Nat.le_of_ble_eq_true rfl)) ?_
  have H3 : Hid (Mm (w2.setCells γ1_1 1 [U (mi p 0 Y)]) [(γ1_0, kd p r c gx gy), (γ1_1, pt X (mi p 0 Y) Z), (γ1_2, pt 0 0 false)] ∧ Below w.heap.size w (w2.setCells γ1_1 1 [U (mi p 0 Y)])) := ⟨H2.out.1.put 1 (off := 1) (vs := [U (mi p 0 Y)]) rfl (Nat.le_of_ble_eq_true rfl), below_setCells _ o1_1.out _ _ _ H2.out.2⟩
  clear H2
  generalize hgw : World.setCells _ _ _ _ = w3 at H3 ⊢
  clear hgw
  refine rest_nil (then_normal (wp_seq ?_))
  refine walk_seqB 1 [.quiet (.agg (pt X (mi p 0 Y) Z).toArray)] H3 ?ho3 ?he3
  case ho3 => exact ak (fun γ => ⟨rfl, fun w' h => ex_loadT h 1 rfl rfl rfl Try.isAgg25 Try.sizeOf25 rfl rfl⟩) trivial
  intro _ w4 H4
  clear H3
  refine rest_at (l := [1]) rfl ?_
  refine rest_store rfl rfl rfl (ex_storeT (vs := pt X (mi p 0 Y) Z) H4.out.1 2 rfl rfl rfl rfl Try.sizeOf25 rfl (Nat.le_of_ble_eq_true rfl)) ?_
  have H5 : Hid (Mm (w4.setCells γ1_2 0 (pt X (mi p 0 Y) Z)) [(γ1_0, kd p r c gx gy), (γ1_1, pt X (mi p 0 Y) Z), (γ1_2, pt X (mi p 0 Y) Z)] ∧ Below w.heap.size w (w4.setCells γ1_2 0 (pt X (mi p 0 Y) Z))) := ⟨H4.out.1.put 2 (off := 0) (vs := pt X (mi p 0 Y) Z) rfl (Nat.le_of_ble_eq_true rfl), below_setCells _ o1_2.out _ _ _ H4.out.2⟩
  clear H4
  generalize hgw : World.setCells _ _ _ _ = w5 at H5 ⊢
  clear hgw
  refine rest_nil (then_normal (wp_ret ?_))
  repeat (first | refine then_ret ?_ | refine block_ret ?_)
  have hf0 := var_T H5.out.1 2 rfl Try.isAgg25 Try.sizeOf25 rfl
  refine bodyPost_ret (v := .agg (pt X (mi p 0 Y) Z).toArray) (by simp [results, Try.results25, asAddr, hf0]) rfl ?_
  exact ⟨rfl, H5.out.2⟩
theorem eq_self (X Y : Nat) (Z : Bool) (w : World) : (Op.equalIn 10000 25 (V (pt X Y Z)) (V (pt X Y Z))).run Try.prog w = .ok true w := by
  rw [run_eqP X Y X Y Z Z w, decide_eq_true rfl, decide_eq_true rfl, beq_self_eq_true]
  rfl
theorem eq_not (X Y X' Y' : Nat) (Z Z' : Bool) (h : ¬ ((X, Y, Z) : P3) = (X', Y', Z')) (w : World) : (Op.equalIn 10000 25 (V (pt X Y Z)) (V (pt X' Y' Z'))).run Try.prog w = .ok false w := by
  rw [run_eqP X Y X' Y' Z Z' w]
  refine congrArg (fun t => Result.ok t w) ?_
  by_cases h1 : X = X'
  · by_cases h2 : Y = Y'
    · have h3 : Z ≠ Z' := fun h3 => h (by rw [h1, h2, h3])
      simp [h3]
    · simp [h2]
  · simp [h1]
set_option maxHeartbeats 1000000 in
set_option maxRecDepth 100000 in
theorem slope_same (hp : Pr p) (X Y : Nat) (Z : Bool) (hX : X < p) (hY : Y < p) (w : World) :
    Calls Try.prog 58 #[.agg (kd p r c gx gy).toArray, .agg (pt X Y Z).toArray, .agg (pt X Y Z).toArray] w fun e w' => e = .returned (U (sl1 p X Y)) ∧ Below w.heap.size w w' := by
  have H0 : Hid (_ ∧ _) := ⟨Mm.nil w, Below.refl w.heap.size w⟩
  go_enter Try.func58, Try.ntmps58
  refine wp_seq ?_
  refine walk_seqA 4 [.made (kd p r c gx gy) 27, .made (pt X Y Z) 25, .made (pt X Y Z) 25, .quiet (U 0)] (sB H0) ?ho1 ?he1
  case ho1 => exact ak (fun γ => ⟨rfl, fun w' => ex_boxT rfl rfl⟩) (ak (fun γ => ⟨rfl, fun w' => ex_boxT rfl rfl⟩) (ak (fun γ => ⟨rfl, fun w' => ex_boxT rfl rfl⟩) (ak (fun _ => ⟨rfl, fun _ _ => rfl⟩) trivial)))
  intro γ w1 l hM hl
  have H1 : Hid (Mm w1 [(γ 0, kd p r c gx gy), (γ 1, pt X Y Z), (γ 2, pt X Y Z)] ∧ _) := growB H0 hM (Nat.le_refl _) hl [0, 1, 2] rfl (by decide)
  have o1_0 := ownB H0 hM (Nat.le_refl _) hl (i := 0) rfl
  have o1_1 := ownB H0 hM (Nat.le_refl _) hl (i := 1) rfl
  have o1_2 := ownB H0 hM (Nat.le_refl _) hl (i := 2) rfl
  clear hM hl l
  generalize γ 0 = γ1_0 at H1 o1_0 ⊢
  generalize γ 1 = γ1_1 at H1 o1_1 ⊢
  generalize γ 2 = γ1_2 at H1 o1_2 ⊢
  clear γ
  refine rest0 rfl (then_normal (wp_seq (wp_seq ?_)))
  refine walk_seqB 3 [.quiet (.agg (pt X Y Z).toArray), .quiet (.agg (pt X Y Z).toArray), .quiet (.bool true)] H1 ?ho2 ?he2
  case ho2 => exact ak (fun γ => ⟨rfl, fun w' h => ex_loadT h 1 rfl rfl rfl Try.isAgg25 Try.sizeOf25 rfl rfl⟩) (ak (fun γ => ⟨rfl, fun w' h => ex_loadT h 2 rfl rfl rfl Try.isAgg25 Try.sizeOf25 rfl rfl⟩) (ak (fun γ => ⟨rfl, fun w' _ => exec_eqT25 (fun w => eq_self X Y Z w) rfl rfl rfl⟩) trivial))
  intro _ w2 H2
  clear H1
  refine rest0 rfl (then_normal (wp_cond_true rfl (wp_seq ?_)))
  refine walk_seqB 7 [.quiet (.agg (kd p r c gx gy).toArray), .quiet (PT γ1_1 0), .quiet (U X), .quiet (PT γ1_1 0), .quiet (U X), .call (U (tm p X X)), .quiet (U (tm p X X))] H2 ?ho3 ?he3
  case ho3 => exact ak (fun γ => ⟨rfl, fun w' h => ex_loadT h 0 rfl rfl rfl Try.isAgg27 Try.sizeOf27 rfl rfl⟩) (ak (by refine fun γ => ⟨rfl, fun w' h => ?_⟩; clear h; go_simp) (ak (fun γ => ⟨rfl, fun w' h => ex_loadC h 1 rfl rfl rfl Try.isAgg23 rfl⟩) (ak (by refine fun γ => ⟨rfl, fun w' h => ?_⟩; clear h; go_simp) (ak (fun γ => ⟨rfl, fun w' h => ex_loadC h 1 rfl rfl rfl Try.isAgg23 rfl⟩) (ak (fun γ => ⟨rfl, fun w' h => ⟨54, #[.agg (kd p r c gx gy).toArray, U X, U X], exec_call rfl call54 rfl (mpn rfl), dmul_any hp X X hX hX w'⟩⟩) (ak (fun _ => ⟨rfl, fun _ _ => rfl⟩) trivial))))))
  intro _ w3 H3
  clear H2
  refine rest0 rfl (then_normal (wp_seq ?_))
  refine walk_anyB 20 [.quiet (.agg (kd p r c gx gy).toArray), .quiet (.agg (kd p r c gx gy).toArray), .quiet (.agg (kd p r c gx gy).toArray), .quiet (.agg (kd p r c gx gy).toArray), .quiet (U (tm p X X)), .quiet (U (tm p X X)), .call (U (pl p (tm p X X) (tm p X X))), .quiet (U (tm p X X)), .call (U (pl p (pl p (tm p X X) (tm p X X)) (tm p X X))), .call (U (pl p (pl p (pl p (tm p X X) (tm p X X)) (tm p X X)) 1)), .quiet (.agg (kd p r c gx gy).toArray), .quiet (.agg (kd p r c gx gy).toArray), .quiet (PT γ1_1 1), .quiet (U Y), .quiet (PT γ1_1 1), .quiet (U Y), .call (U (pl p Y Y)), .call (U (pw p (pl p Y Y) (p - 2))), .call (U (tm p (pl p (pl p (pl p (tm p X X) (tm p X X)) (tm p X X)) 1) (pw p (pl p Y Y) (p - 2)))), .quiet (U (tm p (pl p (pl p (pl p (tm p X X) (tm p X X)) (tm p X X)) 1) (pw p (pl p Y Y) (p - 2))))] H3 ?ho4 ?he4
  case ho4 => exact ak (fun γ => ⟨rfl, fun w' h => ex_loadT h 0 rfl rfl rfl Try.isAgg27 Try.sizeOf27 rfl rfl⟩) (ak (fun γ => ⟨rfl, fun w' h => ex_loadT h 0 rfl rfl rfl Try.isAgg27 Try.sizeOf27 rfl rfl⟩) (ak (fun γ => ⟨rfl, fun w' h => ex_loadT h 0 rfl rfl rfl Try.isAgg27 Try.sizeOf27 rfl rfl⟩) (ak (fun γ => ⟨rfl, fun w' h => ex_loadT h 0 rfl rfl rfl Try.isAgg27 Try.sizeOf27 rfl rfl⟩) (ak (fun _ => ⟨rfl, fun _ _ => rfl⟩) (ak (fun _ => ⟨rfl, fun _ _ => rfl⟩) (ak (fun γ => ⟨rfl, fun w' h => ⟨56, #[.agg (kd p r c gx gy).toArray, U (tm p X X), U (tm p X X)], exec_call rfl call56 rfl (mpn rfl), dadd_any hp (tm p X X) (tm p X X) (tm_lt hp) (tm_lt hp) w'⟩⟩) (ak (fun _ => ⟨rfl, fun _ _ => rfl⟩) (ak (fun γ => ⟨rfl, fun w' h => ⟨56, #[.agg (kd p r c gx gy).toArray, U (pl p (tm p X X) (tm p X X)), U (tm p X X)], exec_call rfl call56 rfl (mpn rfl), dadd_any hp (pl p (tm p X X) (tm p X X)) (tm p X X) (pl_lt hp) (tm_lt hp) w'⟩⟩) (ak (fun γ => ⟨rfl, fun w' h => ⟨56, #[.agg (kd p r c gx gy).toArray, U (pl p (pl p (tm p X X) (tm p X X)) (tm p X X)), U 1], exec_call rfl call56 rfl (mpn rfl), dadd_any hp (pl p (pl p (tm p X X) (tm p X X)) (tm p X X)) 1 (pl_lt hp) (one_lt hp) w'⟩⟩) (ak (fun γ => ⟨rfl, fun w' h => ex_loadT h 0 rfl rfl rfl Try.isAgg27 Try.sizeOf27 rfl rfl⟩) (ak (fun γ => ⟨rfl, fun w' h => ex_loadT h 0 rfl rfl rfl Try.isAgg27 Try.sizeOf27 rfl rfl⟩) (ak (by refine fun γ => ⟨rfl, fun w' h => ?_⟩; clear h; go_simp) (ak (fun γ => ⟨rfl, fun w' h => ex_loadC h 1 rfl rfl rfl Try.isAgg23 rfl⟩) (ak (by refine fun γ => ⟨rfl, fun w' h => ?_⟩; clear h; go_simp) (ak (fun γ => ⟨rfl, fun w' h => ex_loadC h 1 rfl rfl rfl Try.isAgg23 rfl⟩) (ak (fun γ => ⟨rfl, fun w' h => ⟨56, #[.agg (kd p r c gx gy).toArray, U Y, U Y], exec_call rfl call56 rfl (mpn rfl), dadd_any hp Y Y hY hY w'⟩⟩) (ak (fun γ => ⟨rfl, fun w' h => ⟨77, #[.agg (kd p r c gx gy).toArray, U (pl p Y Y)], exec_call rfl call77 rfl (mpn rfl), dinv_any hp (pl p Y Y) (pl_lt hp) w'⟩⟩) (ak (fun γ => ⟨rfl, fun w' h => ⟨54, #[.agg (kd p r c gx gy).toArray, U (pl p (pl p (pl p (tm p X X) (tm p X X)) (tm p X X)) 1), U (pw p (pl p Y Y) (p - 2))], exec_call rfl call54 rfl (mpn rfl), dmul_any hp (pl p (pl p (pl p (tm p X X) (tm p X X)) (tm p X X)) 1) (pw p (pl p Y Y) (p - 2)) (pl_lt hp) (pw_lt hp) w'⟩⟩) (ak (fun _ => ⟨rfl, fun _ _ => rfl⟩) trivial)))))))))))))))))))
  intro _ w4 H4
  clear H3
  refine rest0 rfl (then_normal (wp_ret ?_))
  repeat (first | refine then_ret ?_ | refine block_ret ?_)
  refine bodyPost_ret (v := U (tm p (pl p (pl p (pl p (tm p X X) (tm p X X)) (tm p X X)) 1) (pw p (pl p Y Y) (p - 2)))) (by simp [results, Try.results58, go_sem, *]) rfl ?_
  exact ⟨rfl, H4.out.2⟩
set_option maxHeartbeats 1000000 in
set_option maxRecDepth 100000 in
theorem slope_else (hp : Pr p) (X Y : Nat) (Z : Bool) (hX : X < p) (hY : Y < p) (X' Y' : Nat) (Z' : Bool) (hX' : X' < p) (hY' : Y' < p) (hne : ¬ ((X, Y, Z) : P3) = (X', Y', Z')) (w : World) :
    Calls Try.prog 58 #[.agg (kd p r c gx gy).toArray, .agg (pt X Y Z).toArray, .agg (pt X' Y' Z').toArray] w fun e w' => e = .returned (U (sl2 p X Y X' Y')) ∧ Below w.heap.size w w' := by
  have H0 : Hid (_ ∧ _) := ⟨Mm.nil w, Below.refl w.heap.size w⟩
  go_enter Try.func58, Try.ntmps58
  refine wp_seq ?_
  refine walk_seqA 4 [.made (kd p r c gx gy) 27, .made (pt X Y Z) 25, .made (pt X' Y' Z') 25, .quiet (U 0)] (sB H0) ?ho1 ?he1
  case ho1 => exact ak (fun γ => ⟨rfl, fun w' => ex_boxT rfl rfl⟩) (ak (fun γ => ⟨rfl, fun w' => ex_boxT rfl rfl⟩) (ak (fun γ => ⟨rfl, fun w' => ex_boxT rfl rfl⟩) (ak (fun _ => ⟨rfl, fun _ _ => rfl⟩) trivial)))
  intro γ w1 l hM hl
  have H1 : Hid (Mm w1 [(γ 0, kd p r c gx gy), (γ 1, pt X Y Z), (γ 2, pt X' Y' Z')] ∧ _) := growB H0 hM (Nat.le_refl _) hl [0, 1, 2] rfl (by decide)
  have o1_0 := ownB H0 hM (Nat.le_refl _) hl (i := 0) rfl
  have o1_1 := ownB H0 hM (Nat.le_refl _) hl (i := 1) rfl
  have o1_2 := ownB H0 hM (Nat.le_refl _) hl (i := 2) rfl
  clear hM hl l
  generalize γ 0 = γ1_0 at H1 o1_0 ⊢
  generalize γ 1 = γ1_1 at H1 o1_1 ⊢
  generalize γ 2 = γ1_2 at H1 o1_2 ⊢
  clear γ
  refine rest0 rfl (then_normal (wp_seq (wp_seq ?_)))
  refine walk_seqB 3 [.quiet (.agg (pt X Y Z).toArray), .quiet (.agg (pt X' Y' Z').toArray), .quiet (.bool false)] H1 ?ho2 ?he2
  case ho2 => exact ak (fun γ => ⟨rfl, fun w' h => ex_loadT h 1 rfl rfl rfl Try.isAgg25 Try.sizeOf25 rfl rfl⟩) (ak (fun γ => ⟨rfl, fun w' h => ex_loadT h 2 rfl rfl rfl Try.isAgg25 Try.sizeOf25 rfl rfl⟩) (ak (fun γ => ⟨rfl, fun w' _ => exec_eqT25 (fun w => eq_not X Y X' Y' Z Z' hne w) rfl rfl rfl⟩) trivial))
  intro _ w2 H2
  clear H1
  refine rest0 rfl (then_normal (wp_cond_false rfl ?_))
  refine wp_skip (then_normal (wp_seq ?_))
  refine walk_anyB 17 [.quiet (.agg (kd p r c gx gy).toArray), .quiet (.agg (kd p r c gx gy).toArray), .quiet (PT γ1_2 1), .quiet (U Y'), .quiet (PT γ1_1 1), .quiet (U Y), .call (U (mi p Y' Y)), .quiet (.agg (kd p r c gx gy).toArray), .quiet (.agg (kd p r c gx gy).toArray), .quiet (PT γ1_2 0), .quiet (U X'), .quiet (PT γ1_1 0), .quiet (U X), .call (U (mi p X' X)), .call (U (pw p (mi p X' X) (p - 2))), .call (U (tm p (mi p Y' Y) (pw p (mi p X' X) (p - 2)))), .quiet (U (tm p (mi p Y' Y) (pw p (mi p X' X) (p - 2))))] H2 ?ho3 ?he3
  case ho3 => exact ak (fun γ => ⟨rfl, fun w' h => ex_loadT h 0 rfl rfl rfl Try.isAgg27 Try.sizeOf27 rfl rfl⟩) (ak (fun γ => ⟨rfl, fun w' h => ex_loadT h 0 rfl rfl rfl Try.isAgg27 Try.sizeOf27 rfl rfl⟩) (ak (by refine fun γ => ⟨rfl, fun w' h => ?_⟩; clear h; go_simp) (ak (fun γ => ⟨rfl, fun w' h => ex_loadC h 2 rfl rfl rfl Try.isAgg23 rfl⟩) (ak (by refine fun γ => ⟨rfl, fun w' h => ?_⟩; clear h; go_simp) (ak (fun γ => ⟨rfl, fun w' h => ex_loadC h 1 rfl rfl rfl Try.isAgg23 rfl⟩) (ak (fun γ => ⟨rfl, fun w' h => ⟨59, #[.agg (kd p r c gx gy).toArray, U Y', U Y], exec_call rfl call59 rfl (mpn rfl), dsub_any hp Y' Y hY' hY w'⟩⟩) (ak (fun γ => ⟨rfl, fun w' h => ex_loadT h 0 rfl rfl rfl Try.isAgg27 Try.sizeOf27 rfl rfl⟩) (ak (fun γ => ⟨rfl, fun w' h => ex_loadT h 0 rfl rfl rfl Try.isAgg27 Try.sizeOf27 rfl rfl⟩) (ak (by refine fun γ => ⟨rfl, fun w' h => ?_⟩; clear h; go_simp) (ak (fun γ => ⟨rfl, fun w' h => ex_loadC h 2 rfl rfl rfl Try.isAgg23 rfl⟩) (ak (by refine fun γ => ⟨rfl, fun w' h => ?_⟩; clear h; go_simp) (ak (fun γ => ⟨rfl, fun w' h => ex_loadC h 1 rfl rfl rfl Try.isAgg23 rfl⟩) (ak (fun γ => ⟨rfl, fun w' h => ⟨59, #[.agg (kd p r c gx gy).toArray, U X', U X], exec_call rfl call59 rfl (mpn rfl), dsub_any hp X' X hX' hX w'⟩⟩) (ak (fun γ => ⟨rfl, fun w' h => ⟨77, #[.agg (kd p r c gx gy).toArray, U (mi p X' X)], exec_call rfl call77 rfl (mpn rfl), dinv_any hp (mi p X' X) (mi_lt hp) w'⟩⟩) (ak (fun γ => ⟨rfl, fun w' h => ⟨54, #[.agg (kd p r c gx gy).toArray, U (mi p Y' Y), U (pw p (mi p X' X) (p - 2))], exec_call rfl call54 rfl (mpn rfl), dmul_any hp (mi p Y' Y) (pw p (mi p X' X) (p - 2)) (mi_lt hp) (pw_lt hp) w'⟩⟩) (ak (fun _ => ⟨rfl, fun _ _ => rfl⟩) trivial))))))))))))))))
  intro _ w3 H3
  clear H2
  refine rest0 rfl (then_normal (wp_ret ?_))
  repeat (first | refine then_ret ?_ | refine block_ret ?_)
  refine bodyPost_ret (v := U (tm p (mi p Y' Y) (pw p (mi p X' X) (p - 2)))) (by simp [results, Try.results58, go_sem, *]) rfl ?_
  exact ⟨rfl, H3.out.2⟩
theorem slope_any (hp : Pr p) (a b : P3) (ha : LtP p a) (hb : LtP p b) (w : World) : Calls Try.prog 58 #[.agg (kd p r c gx gy).toArray, .agg (pt a.1 a.2.1 a.2.2).toArray, .agg (pt b.1 b.2.1 b.2.2).toArray] w fun e w' => e = .returned (U (dS p a b)) ∧ Below w.heap.size w w' := by
  unfold dS
  by_cases h : a = b
  · rw [if_pos h, ← h]; exact slope_same hp _ _ _ ha.x ha.y w
  · rw [if_neg h]; exact slope_else hp _ _ _ ha.x ha.y _ _ _ hb.x hb.y h w
set_option maxRecDepth 100000 in
theorem dAdd_z (X Y X' Y' : Nat) (Z' : Bool) (w : World) :
    Calls Try.prog 26 #[.agg (kd p r c gx gy).toArray, .agg (pt X Y true).toArray, .agg (pt X' Y' Z').toArray] w fun e w' => e = .returned (V (pt X' Y' Z')) ∧ Below w.heap.size w w' := by
  have H0 : Hid (_ ∧ _) := ⟨Mm.nil w, Below.refl w.heap.size w⟩
  go_enter Try.func26, Try.ntmps26
  refine wp_seq ?_
  refine walk_seqA 4 [.made (kd p r c gx gy) 27, .made (pt X Y true) 25, .made (pt X' Y' Z') 25, .made (pt 0 0 false) 25] (sB H0) ?ho1 ?he1
  case ho1 => exact ak (fun γ => ⟨rfl, fun w' => ex_boxT rfl rfl⟩) (ak (fun γ => ⟨rfl, fun w' => ex_boxT rfl rfl⟩) (ak (fun γ => ⟨rfl, fun w' => ex_boxT rfl rfl⟩) (ak (fun γ => ⟨rfl, fun w' => ex_made25 rfl⟩) trivial)))
  intro γ w1 l hM hl
  have H1 : Hid (Mm w1 [(γ 0, kd p r c gx gy), (γ 1, pt X Y true), (γ 2, pt X' Y' Z'), (γ 3, pt 0 0 false)] ∧ _) := growB H0 hM (Nat.le_refl _) hl [0, 1, 2, 3] rfl (by decide)
  have o1_0 := ownB H0 hM (Nat.le_refl _) hl (i := 0) rfl
  have o1_1 := ownB H0 hM (Nat.le_refl _) hl (i := 1) rfl
  have o1_2 := ownB H0 hM (Nat.le_refl _) hl (i := 2) rfl
  have o1_3 := ownB H0 hM (Nat.le_refl _) hl (i := 3) rfl
  clear hM hl l
  generalize γ 0 = γ1_0 at H1 o1_0 ⊢
  generalize γ 1 = γ1_1 at H1 o1_1 ⊢
  generalize γ 2 = γ1_2 at H1 o1_2 ⊢
  generalize γ 3 = γ1_3 at H1 o1_3 ⊢
  clear γ
  refine rest0 rfl (then_normal (wp_seq (wp_seq ?_)))
  refine walk_seqB 2 [.quiet (PT γ1_1 2), .quiet (.bool true)] H1 ?ho2 ?he2
  case ho2 => exact ak (by refine fun γ => ⟨rfl, fun w' h => ?_⟩; clear h; go_simp) (ak (fun γ => ⟨rfl, fun w' h => ex_loadC h 1 rfl rfl rfl Try.isAgg4 rfl⟩) trivial)
  intro _ w2 H2
  clear H1
  refine rest0 rfl (then_normal (wp_cond_true rfl (wp_seq ?_)))
  refine walk_seqB 1 [.quiet (.agg (pt X' Y' Z').toArray)] H2 ?ho3 ?he3
  case ho3 => exact ak (fun γ => ⟨rfl, fun w' h => ex_loadT h 2 rfl rfl rfl Try.isAgg25 Try.sizeOf25 rfl rfl⟩) trivial
  intro _ w3 H3
  clear H2
  refine rest_at (l := [1]) rfl ?_
  refine rest_store rfl rfl rfl (ex_storeT (vs := pt X' Y' Z') H3.out.1 3 rfl rfl rfl rfl Try.sizeOf25 rfl (Nat.le_of_ble_eq_true rfl)) ?_
  have H4 : Hid (Mm (w3.setCells γ1_3 0 (pt X' Y' Z')) [(γ1_0, kd p r c gx gy), (γ1_1, pt X Y true), (γ1_2, pt X' Y' Z'), (γ1_3, pt X' Y' Z')] ∧ Below w.heap.size w (w3.setCells γ1_3 0 (pt X' Y' Z'))) := ⟨H3.out.1.put 3 (off := 0) (vs := pt X' Y' Z') rfl (Nat.le_of_ble_eq_true rfl), below_setCells _ o1_3.out _ _ _ H3.out.2⟩
  clear H3
  generalize hgw : World.setCells _ _ _ _ = w4 at H4 ⊢
  clear hgw
  refine rest_nil (then_normal (wp_ret ?_))
  repeat (first | refine then_ret ?_ | refine block_ret ?_)
  have hf0 := var_T H4.out.1 3 rfl Try.isAgg25 Try.sizeOf25 rfl
  refine bodyPost_ret (v := .agg (pt X' Y' Z').toArray) (by simp [results, Try.results26, asAddr, hf0]) rfl ?_
  exact ⟨rfl, H4.out.2⟩
set_option maxRecDepth 100000 in
theorem dAdd_y (X Y X' Y' : Nat) (w : World) :
    Calls Try.prog 26 #[.agg (kd p r c gx gy).toArray, .agg (pt X Y false).toArray, .agg (pt X' Y' true).toArray] w fun e w' => e = .returned (V (pt X Y false)) ∧ Below w.heap.size w w' := by
  have H0 : Hid (_ ∧ _) := ⟨Mm.nil w, Below.refl w.heap.size w⟩
  go_enter Try.func26, Try.ntmps26
  refine wp_seq ?_
  refine walk_seqA 4 [.made (kd p r c gx gy) 27, .made (pt X Y false) 25, .made (pt X' Y' true) 25, .made (pt 0 0 false) 25] (sB H0) ?ho1 ?he1
  case ho1 => exact ak (fun γ => ⟨rfl, fun w' => ex_boxT rfl rfl⟩) (ak (fun γ => ⟨rfl, fun w' => ex_boxT rfl rfl⟩) (ak (fun γ => ⟨rfl, fun w' => ex_boxT rfl rfl⟩) (ak (fun γ => ⟨rfl, fun w' => ex_made25 rfl⟩) trivial)))
  intro γ w1 l hM hl
  have H1 : Hid (Mm w1 [(γ 0, kd p r c gx gy), (γ 1, pt X Y false), (γ 2, pt X' Y' true), (γ 3, pt 0 0 false)] ∧ _) := growB H0 hM (Nat.le_refl _) hl [0, 1, 2, 3] rfl (by decide)
  have o1_0 := ownB H0 hM (Nat.le_refl _) hl (i := 0) rfl
  have o1_1 := ownB H0 hM (Nat.le_refl _) hl (i := 1) rfl
  have o1_2 := ownB H0 hM (Nat.le_refl _) hl (i := 2) rfl
  have o1_3 := ownB H0 hM (Nat.le_refl _) hl (i := 3) rfl
  clear hM hl l
  generalize γ 0 = γ1_0 at H1 o1_0 ⊢
  generalize γ 1 = γ1_1 at H1 o1_1 ⊢
  generalize γ 2 = γ1_2 at H1 o1_2 ⊢
  generalize γ 3 = γ1_3 at H1 o1_3 ⊢
  clear γ
  refine rest0 rfl (then_normal (wp_seq (wp_seq ?_)))
  refine walk_seqB 2 [.quiet (PT γ1_1 2), .quiet (.bool false)] H1 ?ho2 ?he2
  case ho2 => exact ak (by refine fun γ => ⟨rfl, fun w' h => ?_⟩; clear h; go_simp) (ak (fun γ => ⟨rfl, fun w' h => ex_loadC h 1 rfl rfl rfl Try.isAgg4 rfl⟩) trivial)
  intro _ w2 H2
  clear H1
  refine rest0 rfl (then_normal (wp_cond_false rfl ?_))
  refine wp_skip (then_normal ?_)
  refine wp_seq (wp_seq ?_)
  refine walk_seqB 2 [.quiet (PT γ1_2 2), .quiet (.bool true)] H2 ?ho3 ?he3
  case ho3 => exact ak (by refine fun γ => ⟨rfl, fun w' h => ?_⟩; clear h; go_simp) (ak (fun γ => ⟨rfl, fun w' h => ex_loadC h 2 rfl rfl rfl Try.isAgg4 rfl⟩) trivial)
  intro _ w3 H3
  clear H2
  refine rest0 rfl (then_normal (wp_cond_true rfl (wp_seq ?_)))
  refine walk_seqB 1 [.quiet (.agg (pt X Y false).toArray)] H3 ?ho4 ?he4
  case ho4 => exact ak (fun γ => ⟨rfl, fun w' h => ex_loadT h 1 rfl rfl rfl Try.isAgg25 Try.sizeOf25 rfl rfl⟩) trivial
  intro _ w4 H4
  clear H3
  refine rest_at (l := [1]) rfl ?_
  refine rest_store rfl rfl rfl (ex_storeT (vs := pt X Y false) H4.out.1 3 rfl rfl rfl rfl Try.sizeOf25 rfl (Nat.le_of_ble_eq_true rfl)) ?_
  have H5 : Hid (Mm (w4.setCells γ1_3 0 (pt X Y false)) [(γ1_0, kd p r c gx gy), (γ1_1, pt X Y false), (γ1_2, pt X' Y' true), (γ1_3, pt X Y false)] ∧ Below w.heap.size w (w4.setCells γ1_3 0 (pt X Y false))) := ⟨H4.out.1.put 3 (off := 0) (vs := pt X Y false) rfl (Nat.le_of_ble_eq_true rfl), below_setCells _ o1_3.out _ _ _ H4.out.2⟩
  clear H4
  generalize hgw : World.setCells _ _ _ _ = w5 at H5 ⊢
  clear hgw
  refine rest_nil (then_normal (wp_ret ?_))
  repeat (first | refine then_ret ?_ | refine block_ret ?_)
  have hf0 := var_T H5.out.1 3 rfl Try.isAgg25 Try.sizeOf25 rfl
  refine bodyPost_ret (v := .agg (pt X Y false).toArray) (by simp [results, Try.results26, asAddr, hf0]) rfl ?_
  exact ⟨rfl, H5.out.2⟩
set_option maxRecDepth 100000 in
theorem dAdd_n (hp : Pr p) (X Y X' Y' : Nat) (hY' : Y' < p) (h1 : X = X') (h2 : Y = mi p 0 Y') (w : World) :
    Calls Try.prog 26 #[.agg (kd p r c gx gy).toArray, .agg (pt X Y false).toArray, .agg (pt X' Y' false).toArray] w fun e w' => e = .returned (V (pt 0 0 true)) ∧ Below w.heap.size w w' := by
  have H0 : Hid (_ ∧ _) := ⟨Mm.nil w, Below.refl w.heap.size w⟩
  go_enter Try.func26, Try.ntmps26
  refine wp_seq ?_
  refine walk_seqA 4 [.made (kd p r c gx gy) 27, .made (pt X Y false) 25, .made (pt X' Y' false) 25, .made (pt 0 0 false) 25] (sB H0) ?ho1 ?he1
  case ho1 => exact ak (fun γ => ⟨rfl, fun w' => ex_boxT rfl rfl⟩) (ak (fun γ => ⟨rfl, fun w' => ex_boxT rfl rfl⟩) (ak (fun γ => ⟨rfl, fun w' => ex_boxT rfl rfl⟩) (ak (fun γ => ⟨rfl, fun w' => ex_made25 rfl⟩) trivial)))
  intro γ w1 l hM hl
  have H1 : Hid (Mm w1 [(γ 0, kd p r c gx gy), (γ 1, pt X Y false), (γ 2, pt X' Y' false), (γ 3, pt 0 0 false)] ∧ _) := growB H0 hM (Nat.le_refl _) hl [0, 1, 2, 3] rfl (by decide)
  have o1_0 := ownB H0 hM (Nat.le_refl _) hl (i := 0) rfl
  have o1_1 := ownB H0 hM (Nat.le_refl _) hl (i := 1) rfl
  have o1_2 := ownB H0 hM (Nat.le_refl _) hl (i := 2) rfl
  have o1_3 := ownB H0 hM (Nat.le_refl _) hl (i := 3) rfl
  clear hM hl l
  generalize γ 0 = γ1_0 at H1 o1_0 ⊢
  generalize γ 1 = γ1_1 at H1 o1_1 ⊢
  generalize γ 2 = γ1_2 at H1 o1_2 ⊢
  generalize γ 3 = γ1_3 at H1 o1_3 ⊢
  clear γ
  refine rest0 rfl (then_normal (wp_seq (wp_seq ?_)))
  refine walk_seqB 2 [.quiet (PT γ1_1 2), .quiet (.bool false)] H1 ?ho2 ?he2
  case ho2 => exact ak (by refine fun γ => ⟨rfl, fun w' h => ?_⟩; clear h; go_simp) (ak (fun γ => ⟨rfl, fun w' h => ex_loadC h 1 rfl rfl rfl Try.isAgg4 rfl⟩) trivial)
  intro _ w2 H2
  clear H1
  refine rest0 rfl (then_normal (wp_cond_false rfl ?_))
  refine wp_skip (then_normal ?_)
  refine wp_seq (wp_seq ?_)
  refine walk_seqB 2 [.quiet (PT γ1_2 2), .quiet (.bool false)] H2 ?ho3 ?he3
  case ho3 => exact ak (by refine fun γ => ⟨rfl, fun w' h => ?_⟩; clear h; go_simp) (ak (fun γ => ⟨rfl, fun w' h => ex_loadC h 2 rfl rfl rfl Try.isAgg4 rfl⟩) trivial)
  intro _ w3 H3
  clear H2
  refine rest0 rfl (then_normal (wp_cond_false rfl ?_))
  refine wp_skip (then_normal ?_)
  refine wp_seq (wp_seq ?_)
  refine walk_anyB 5 [.quiet (.agg (pt X Y false).toArray), .quiet (.agg (kd p r c gx gy).toArray), .quiet (.agg (pt X' Y' false).toArray), .call (.agg (pt X' (mi p 0 Y') false).toArray), .quiet (.bool true)] H3 ?ho4 ?he4
  case ho4 => exact ak (fun γ => ⟨rfl, fun w' h => ex_loadT h 1 rfl rfl rfl Try.isAgg25 Try.sizeOf25 rfl rfl⟩) (ak (fun γ => ⟨rfl, fun w' h => ex_loadT h 0 rfl rfl rfl Try.isAgg27 Try.sizeOf27 rfl rfl⟩) (ak (fun γ => ⟨rfl, fun w' h => ex_loadT h 2 rfl rfl rfl Try.isAgg25 Try.sizeOf25 rfl rfl⟩) (ak (fun γ => ⟨rfl, fun w' h => ⟨25, #[.agg (kd p r c gx gy).toArray, .agg (pt X' Y' false).toArray], exec_call rfl call25 rfl (mpn rfl), dNeg_any hp X' Y' false hY' w'⟩⟩) (ak (fun γ => ⟨rfl, fun w' _ => exec_eqT25 (fun w => by have e := eq_self X' (mi p 0 Y') false w; rw [h1, h2]; exact e) rfl rfl rfl⟩) trivial))))
  intro _ w4 H4
  clear H3
  refine rest0 rfl (then_normal (wp_cond_true rfl (wp_seq ?_)))
  refine walk_seqB 1 [.quiet (.agg (pt 0 0 true).toArray)] H4 ?ho5 ?he5
  case ho5 => exact ak (fun γ => ⟨rfl, fun w' _ => ex_build25_2 rfl rfl⟩) trivial
  intro _ w5 H5
  clear H4
  refine rest_at (l := [1]) rfl ?_
  refine rest_store rfl rfl rfl (ex_storeT (vs := pt 0 0 true) H5.out.1 3 rfl rfl rfl rfl Try.sizeOf25 rfl (Nat.le_of_ble_eq_true rfl)) ?_
  have H6 : Hid (Mm (w5.setCells γ1_3 0 (pt 0 0 true)) [(γ1_0, kd p r c gx gy), (γ1_1, pt X Y false), (γ1_2, pt X' Y' false), (γ1_3, pt 0 0 true)] ∧ Below w.heap.size w (w5.setCells γ1_3 0 (pt 0 0 true))) := ⟨H5.out.1.put 3 (off := 0) (vs := pt 0 0 true) rfl (Nat.le_of_ble_eq_true rfl), below_setCells _ o1_3.out _ _ _ H5.out.2⟩
  clear H5
  generalize hgw : World.setCells _ _ _ _ = w6 at H6 ⊢
  clear hgw
  refine rest_nil (then_normal (wp_ret ?_))
  repeat (first | refine then_ret ?_ | refine block_ret ?_)
  have hf0 := var_T H6.out.1 3 rfl Try.isAgg25 Try.sizeOf25 rfl
  refine bodyPost_ret (v := .agg (pt 0 0 true).toArray) (by simp [results, Try.results26, asAddr, hf0]) rfl ?_
  exact ⟨rfl, H6.out.2⟩
theorem dS_lt (hp : Pr p) {a b : P3} : dS p a b < p := by
  unfold dS
  split
  · exact tm_lt hp
  · exact tm_lt hp
set_option maxHeartbeats 1000000 in
set_option maxRecDepth 100000 in
theorem dAdd_g (hp : Pr p) (X Y X' Y' : Nat) (hX : X < p) (hY : Y < p) (hX' : X' < p) (hY' : Y' < p) (hne : ¬ ((X, Y, false) : P3) = (X', mi p 0 Y', false)) (w : World) :
    Calls Try.prog 26 #[.agg (kd p r c gx gy).toArray, .agg (pt X Y false).toArray, .agg (pt X' Y' false).toArray] w fun e w' => e = .returned (V (pt (d3X p (dS p (X, Y, false) (X', Y', false)) X X') (d3Y p (dS p (X, Y, false) (X', Y', false)) X X' Y) false)) ∧ Below w.heap.size w w' := by
  have H0 : Hid (_ ∧ _) := ⟨Mm.nil w, Below.refl w.heap.size w⟩
  go_enter Try.func26, Try.ntmps26
  refine wp_seq ?_
  refine walk_seqA 4 [.made (kd p r c gx gy) 27, .made (pt X Y false) 25, .made (pt X' Y' false) 25, .made (pt 0 0 false) 25] (sB H0) ?ho1 ?he1
  case ho1 => exact ak (fun γ => ⟨rfl, fun w' => ex_boxT rfl rfl⟩) (ak (fun γ => ⟨rfl, fun w' => ex_boxT rfl rfl⟩) (ak (fun γ => ⟨rfl, fun w' => ex_boxT rfl rfl⟩) (ak (fun γ => ⟨rfl, fun w' => ex_made25 rfl⟩) trivial)))
  intro γ w1 l hM hl
  have H1 : Hid (Mm w1 [(γ 0, kd p r c gx gy), (γ 1, pt X Y false), (γ 2, pt X' Y' false), (γ 3, pt 0 0 false)] ∧ _) := growB H0 hM (Nat.le_refl _) hl [0, 1, 2, 3] rfl (by decide)
  have o1_0 := ownB H0 hM (Nat.le_refl _) hl (i := 0) rfl
  have o1_1 := ownB H0 hM (Nat.le_refl _) hl (i := 1) rfl
  have o1_2 := ownB H0 hM (Nat.le_refl _) hl (i := 2) rfl
  have o1_3 := ownB H0 hM (Nat.le_refl _) hl (i := 3) rfl
  clear hM hl l
  generalize γ 0 = γ1_0 at H1 o1_0 ⊢
  generalize γ 1 = γ1_1 at H1 o1_1 ⊢
  generalize γ 2 = γ1_2 at H1 o1_2 ⊢
  generalize γ 3 = γ1_3 at H1 o1_3 ⊢
  clear γ
  refine rest0 rfl (then_normal (wp_seq (wp_seq ?_)))
  refine walk_seqB 2 [.quiet (PT γ1_1 2), .quiet (.bool false)] H1 ?ho2 ?he2
  case ho2 => exact ak (by refine fun γ => ⟨rfl, fun w' h => ?_⟩; clear h; go_simp) (ak (fun γ => ⟨rfl, fun w' h => ex_loadC h 1 rfl rfl rfl Try.isAgg4 rfl⟩) trivial)
  intro _ w2 H2
  clear H1
  refine rest0 rfl (then_normal (wp_cond_false rfl ?_))
  refine wp_skip (then_normal ?_)
  refine wp_seq (wp_seq ?_)
  refine walk_seqB 2 [.quiet (PT γ1_2 2), .quiet (.bool false)] H2 ?ho3 ?he3
  case ho3 => exact ak (by refine fun γ => ⟨rfl, fun w' h => ?_⟩; clear h; go_simp) (ak (fun γ => ⟨rfl, fun w' h => ex_loadC h 2 rfl rfl rfl Try.isAgg4 rfl⟩) trivial)
  intro _ w3 H3
  clear H2
  refine rest0 rfl (then_normal (wp_cond_false rfl ?_))
  refine wp_skip (then_normal ?_)
  refine wp_seq (wp_seq ?_)
  refine walk_anyB 5 [.quiet (.agg (pt X Y false).toArray), .quiet (.agg (kd p r c gx gy).toArray), .quiet (.agg (pt X' Y' false).toArray), .call (.agg (pt X' (mi p 0 Y') false).toArray), .quiet (.bool false)] H3 ?ho4 ?he4
  case ho4 => exact ak (fun γ => ⟨rfl, fun w' h => ex_loadT h 1 rfl rfl rfl Try.isAgg25 Try.sizeOf25 rfl rfl⟩) (ak (fun γ => ⟨rfl, fun w' h => ex_loadT h 0 rfl rfl rfl Try.isAgg27 Try.sizeOf27 rfl rfl⟩) (ak (fun γ => ⟨rfl, fun w' h => ex_loadT h 2 rfl rfl rfl Try.isAgg25 Try.sizeOf25 rfl rfl⟩) (ak (fun γ => ⟨rfl, fun w' h => ⟨25, #[.agg (kd p r c gx gy).toArray, .agg (pt X' Y' false).toArray], exec_call rfl call25 rfl (mpn rfl), dNeg_any hp X' Y' false hY' w'⟩⟩) (ak (fun γ => ⟨rfl, fun w' _ => exec_eqT25 (fun w => eq_not X Y X' (mi p 0 Y') false false hne w) rfl rfl rfl⟩) trivial))))
  intro _ w4 H4
  clear H3
  refine rest0 rfl (then_normal (wp_cond_false rfl ?_))
  refine wp_skip (then_normal (wp_seq ?_))
  refine walk_seqB 5 [.quiet (.agg (kd p r c gx gy).toArray), .quiet (.agg (pt X Y false).toArray), .quiet (.agg (pt X' Y' false).toArray), .call (U (dS p (X, Y, false) (X', Y', false))), .quiet (U (dS p (X, Y, false) (X', Y', false)))] H4 ?ho5 ?he5
  case ho5 => exact ak (fun γ => ⟨rfl, fun w' h => ex_loadT h 0 rfl rfl rfl Try.isAgg27 Try.sizeOf27 rfl rfl⟩) (ak (fun γ => ⟨rfl, fun w' h => ex_loadT h 1 rfl rfl rfl Try.isAgg25 Try.sizeOf25 rfl rfl⟩) (ak (fun γ => ⟨rfl, fun w' h => ex_loadT h 2 rfl rfl rfl Try.isAgg25 Try.sizeOf25 rfl rfl⟩) (ak (fun γ => ⟨rfl, fun w' h => ⟨58, #[.agg (kd p r c gx gy).toArray, .agg (pt X Y false).toArray, .agg (pt X' Y' false).toArray], exec_call rfl call58 rfl (mpn rfl), slope_any hp (X, Y, false) (X', Y', false) ⟨hX, hY⟩ ⟨hX', hY'⟩ w'⟩⟩) (ak (fun _ => ⟨rfl, fun _ _ => rfl⟩) trivial))))
  intro _ w5 H5
  clear H4
  refine rest0 rfl (then_normal (wp_seq ?_))
  refine walk_anyB 13 [.quiet (.agg (kd p r c gx gy).toArray), .quiet (.agg (kd p r c gx gy).toArray), .quiet (.agg (kd p r c gx gy).toArray), .quiet (U (dS p (X, Y, false) (X', Y', false))), .quiet (U (dS p (X, Y, false) (X', Y', false))), .call (U (tm p (dS p (X, Y, false) (X', Y', false)) (dS p (X, Y, false) (X', Y', false)))), .quiet (PT γ1_1 0), .quiet (U X), .call (U (mi p (tm p (dS p (X, Y, false) (X', Y', false)) (dS p (X, Y, false) (X', Y', false))) X)), .quiet (PT γ1_2 0), .quiet (U X'), .call (U (mi p (mi p (tm p (dS p (X, Y, false) (X', Y', false)) (dS p (X, Y, false) (X', Y', false))) X) X')), .quiet (U (mi p (mi p (tm p (dS p (X, Y, false) (X', Y', false)) (dS p (X, Y, false) (X', Y', false))) X) X'))] H5 ?ho6 ?he6
  case ho6 => exact ak (fun γ => ⟨rfl, fun w' h => ex_loadT h 0 rfl rfl rfl Try.isAgg27 Try.sizeOf27 rfl rfl⟩) (ak (fun γ => ⟨rfl, fun w' h => ex_loadT h 0 rfl rfl rfl Try.isAgg27 Try.sizeOf27 rfl rfl⟩) (ak (fun γ => ⟨rfl, fun w' h => ex_loadT h 0 rfl rfl rfl Try.isAgg27 Try.sizeOf27 rfl rfl⟩) (ak (fun _ => ⟨rfl, fun _ _ => rfl⟩) (ak (fun _ => ⟨rfl, fun _ _ => rfl⟩) (ak (fun γ => ⟨rfl, fun w' h => ⟨54, #[.agg (kd p r c gx gy).toArray, U (dS p (X, Y, false) (X', Y', false)), U (dS p (X, Y, false) (X', Y', false))], exec_call rfl call54 rfl (mpn rfl), dmul_any hp (dS p (X, Y, false) (X', Y', false)) (dS p (X, Y, false) (X', Y', false)) (dS_lt hp) (dS_lt hp) w'⟩⟩) (ak (by refine fun γ => ⟨rfl, fun w' h => ?_⟩; clear h; go_simp) (ak (fun γ => ⟨rfl, fun w' h => ex_loadC h 1 rfl rfl rfl Try.isAgg23 rfl⟩) (ak (fun γ => ⟨rfl, fun w' h => ⟨59, #[.agg (kd p r c gx gy).toArray, U (tm p (dS p (X, Y, false) (X', Y', false)) (dS p (X, Y, false) (X', Y', false))), U X], exec_call rfl call59 rfl (mpn rfl), dsub_any hp (tm p (dS p (X, Y, false) (X', Y', false)) (dS p (X, Y, false) (X', Y', false))) X (tm_lt hp) hX w'⟩⟩) (ak (by refine fun γ => ⟨rfl, fun w' h => ?_⟩; clear h; go_simp) (ak (fun γ => ⟨rfl, fun w' h => ex_loadC h 2 rfl rfl rfl Try.isAgg23 rfl⟩) (ak (fun γ => ⟨rfl, fun w' h => ⟨59, #[.agg (kd p r c gx gy).toArray, U (mi p (tm p (dS p (X, Y, false) (X', Y', false)) (dS p (X, Y, false) (X', Y', false))) X), U X'], exec_call rfl call59 rfl (mpn rfl), dsub_any hp (mi p (tm p (dS p (X, Y, false) (X', Y', false)) (dS p (X, Y, false) (X', Y', false))) X) X' (mi_lt hp) hX' w'⟩⟩) (ak (fun _ => ⟨rfl, fun _ _ => rfl⟩) trivial))))))))))))
  intro _ w6 H6
  clear H5
  refine rest0 rfl (then_normal (wp_seq ?_))
  refine walk_anyB 14 [.quiet (U (mi p (mi p (tm p (dS p (X, Y, false) (X', Y', false)) (dS p (X, Y, false) (X', Y', false))) X) X')), .quiet (.agg (kd p r c gx gy).toArray), .quiet (.agg (kd p r c gx gy).toArray), .quiet (U (dS p (X, Y, false) (X', Y', false))), .quiet (.agg (kd p r c gx gy).toArray), .quiet (PT γ1_1 0), .quiet (U X), .quiet (U (mi p (mi p (tm p (dS p (X, Y, false) (X', Y', false)) (dS p (X, Y, false) (X', Y', false))) X) X')), .call (U (mi p X (mi p (mi p (tm p (dS p (X, Y, false) (X', Y', false)) (dS p (X, Y, false) (X', Y', false))) X) X'))), .call (U (tm p (dS p (X, Y, false) (X', Y', false)) (mi p X (mi p (mi p (tm p (dS p (X, Y, false) (X', Y', false)) (dS p (X, Y, false) (X', Y', false))) X) X')))), .quiet (PT γ1_1 1), .quiet (U Y), .call (U (mi p (tm p (dS p (X, Y, false) (X', Y', false)) (mi p X (mi p (mi p (tm p (dS p (X, Y, false) (X', Y', false)) (dS p (X, Y, false) (X', Y', false))) X) X'))) Y)), .quiet (.agg (pt (mi p (mi p (tm p (dS p (X, Y, false) (X', Y', false)) (dS p (X, Y, false) (X', Y', false))) X) X') (mi p (tm p (dS p (X, Y, false) (X', Y', false)) (mi p X (mi p (mi p (tm p (dS p (X, Y, false) (X', Y', false)) (dS p (X, Y, false) (X', Y', false))) X) X'))) Y) false).toArray)] H6 ?ho7 ?he7
  case ho7 => exact ak (fun _ => ⟨rfl, fun _ _ => rfl⟩) (ak (fun γ => ⟨rfl, fun w' h => ex_loadT h 0 rfl rfl rfl Try.isAgg27 Try.sizeOf27 rfl rfl⟩) (ak (fun γ => ⟨rfl, fun w' h => ex_loadT h 0 rfl rfl rfl Try.isAgg27 Try.sizeOf27 rfl rfl⟩) (ak (fun _ => ⟨rfl, fun _ _ => rfl⟩) (ak (fun γ => ⟨rfl, fun w' h => ex_loadT h 0 rfl rfl rfl Try.isAgg27 Try.sizeOf27 rfl rfl⟩) (ak (by refine fun γ => ⟨rfl, fun w' h => ?_⟩; clear h; go_simp) (ak (fun γ => ⟨rfl, fun w' h => ex_loadC h 1 rfl rfl rfl Try.isAgg23 rfl⟩) (ak (fun _ => ⟨rfl, fun _ _ => rfl⟩) (ak (fun γ => ⟨rfl, fun w' h => ⟨59, #[.agg (kd p r c gx gy).toArray, U X, U (mi p (mi p (tm p (dS p (X, Y, false) (X', Y', false)) (dS p (X, Y, false) (X', Y', false))) X) X')], exec_call rfl call59 rfl (mpn rfl), dsub_any hp X (mi p (mi p (tm p (dS p (X, Y, false) (X', Y', false)) (dS p (X, Y, false) (X', Y', false))) X) X') hX (mi_lt hp) w'⟩⟩) (ak (fun γ => ⟨rfl, fun w' h => ⟨54, #[.agg (kd p r c gx gy).toArray, U (dS p (X, Y, false) (X', Y', false)), U (mi p X (mi p (mi p (tm p (dS p (X, Y, false) (X', Y', false)) (dS p (X, Y, false) (X', Y', false))) X) X'))], exec_call rfl call54 rfl (mpn rfl), dmul_any hp (dS p (X, Y, false) (X', Y', false)) (mi p X (mi p (mi p (tm p (dS p (X, Y, false) (X', Y', false)) (dS p (X, Y, false) (X', Y', false))) X) X')) (dS_lt hp) (mi_lt hp) w'⟩⟩) (ak (by refine fun γ => ⟨rfl, fun w' h => ?_⟩; clear h; go_simp) (ak (fun γ => ⟨rfl, fun w' h => ex_loadC h 1 rfl rfl rfl Try.isAgg23 rfl⟩) (ak (fun γ => ⟨rfl, fun w' h => ⟨59, #[.agg (kd p r c gx gy).toArray, U (tm p (dS p (X, Y, false) (X', Y', false)) (mi p X (mi p (mi p (tm p (dS p (X, Y, false) (X', Y', false)) (dS p (X, Y, false) (X', Y', false))) X) X'))), U Y], exec_call rfl call59 rfl (mpn rfl), dsub_any hp (tm p (dS p (X, Y, false) (X', Y', false)) (mi p X (mi p (mi p (tm p (dS p (X, Y, false) (X', Y', false)) (dS p (X, Y, false) (X', Y', false))) X) X'))) Y (tm_lt hp) hY w'⟩⟩) (ak (fun γ => ⟨rfl, fun w' _ => ex_build25_01 rfl rfl rfl⟩) trivial)))))))))))))
  intro _ w7 H7
  clear H6
  refine rest_at (l := [14]) rfl ?_
  refine rest_store rfl rfl rfl (ex_storeT (vs := pt (mi p (mi p (tm p (dS p (X, Y, false) (X', Y', false)) (dS p (X, Y, false) (X', Y', false))) X) X') (mi p (tm p (dS p (X, Y, false) (X', Y', false)) (mi p X (mi p (mi p (tm p (dS p (X, Y, false) (X', Y', false)) (dS p (X, Y, false) (X', Y', false))) X) X'))) Y) false) H7.out.1 3 rfl rfl rfl rfl Try.sizeOf25 rfl (Nat.le_of_ble_eq_true rfl)) ?_
  have H8 : Hid (Mm (w7.setCells γ1_3 0 (pt (mi p (mi p (tm p (dS p (X, Y, false) (X', Y', false)) (dS p (X, Y, false) (X', Y', false))) X) X') (mi p (tm p (dS p (X, Y, false) (X', Y', false)) (mi p X (mi p (mi p (tm p (dS p (X, Y, false) (X', Y', false)) (dS p (X, Y, false) (X', Y', false))) X) X'))) Y) false)) [(γ1_0, kd p r c gx gy), (γ1_1, pt X Y false), (γ1_2, pt X' Y' false), (γ1_3, pt (mi p (mi p (tm p (dS p (X, Y, false) (X', Y', false)) (dS p (X, Y, false) (X', Y', false))) X) X') (mi p (tm p (dS p (X, Y, false) (X', Y', false)) (mi p X (mi p (mi p (tm p (dS p (X, Y, false) (X', Y', false)) (dS p (X, Y, false) (X', Y', false))) X) X'))) Y) false)] ∧ Below w.heap.size w (w7.setCells γ1_3 0 (pt (mi p (mi p (tm p (dS p (X, Y, false) (X', Y', false)) (dS p (X, Y, false) (X', Y', false))) X) X') (mi p (tm p (dS p (X, Y, false) (X', Y', false)) (mi p X (mi p (mi p (tm p (dS p (X, Y, false) (X', Y', false)) (dS p (X, Y, false) (X', Y', false))) X) X'))) Y) false))) := ⟨H7.out.1.put 3 (off := 0) (vs := pt (mi p (mi p (tm p (dS p (X, Y, false) (X', Y', false)) (dS p (X, Y, false) (X', Y', false))) X) X') (mi p (tm p (dS p (X, Y, false) (X', Y', false)) (mi p X (mi p (mi p (tm p (dS p (X, Y, false) (X', Y', false)) (dS p (X, Y, false) (X', Y', false))) X) X'))) Y) false) rfl (Nat.le_of_ble_eq_true rfl), below_setCells _ o1_3.out _ _ _ H7.out.2⟩
  clear H7
  generalize hgw : World.setCells _ _ _ _ = w8 at H8 ⊢
  clear hgw
  refine rest_nil (then_normal (wp_ret ?_))
  repeat (first | refine then_ret ?_ | refine block_ret ?_)
  have hf0 := var_T H8.out.1 3 rfl Try.isAgg25 Try.sizeOf25 rfl
  refine bodyPost_ret (v := .agg (pt (mi p (mi p (tm p (dS p (X, Y, false) (X', Y', false)) (dS p (X, Y, false) (X', Y', false))) X) X') (mi p (tm p (dS p (X, Y, false) (X', Y', false)) (mi p X (mi p (mi p (tm p (dS p (X, Y, false) (X', Y', false)) (dS p (X, Y, false) (X', Y', false))) X) X'))) Y) false).toArray) (by simp [results, Try.results26, asAddr, hf0]) rfl ?_
  exact ⟨rfl, H8.out.2⟩
theorem dAdd_any (hp : Pr p) (a b : P3) (ha : LtP p a) (hb : LtP p b) (w : World) : Calls Try.prog 26 #[.agg (kd p r c gx gy).toArray, .agg (pt a.1 a.2.1 a.2.2).toArray, .agg (pt b.1 b.2.1 b.2.2).toArray] w fun e w' => e = .returned (V (pc (dA p a b))) ∧ Below w.heap.size w w' := by
  obtain ⟨X, Y, Z⟩ := a
  obtain ⟨X', Y', Z'⟩ := b
  cases Z
  · cases Z'
    · by_cases h : ((X, Y, false) : P3) = (X', mi p 0 Y', false)
      · rw [show dA p (X, Y, false) (X', Y', false) = (0, 0, true) from by unfold dA; rw [if_neg Bool.false_ne_true, if_neg Bool.false_ne_true, if_pos h]]
        injection h with h1 h2
        injection h2 with h2 _
        exact dAdd_n hp X Y X' Y' hb.y h1 h2 w
      · rw [show dA p (X, Y, false) (X', Y', false) = (d3X p (dS p (X, Y, false) (X', Y', false)) X X', d3Y p (dS p (X, Y, false) (X', Y', false)) X X' Y, false) from by unfold dA; rw [if_neg Bool.false_ne_true, if_neg Bool.false_ne_true, if_neg h]]
        exact dAdd_g hp X Y X' Y' ha.x ha.y hb.x hb.y h w
    · exact dAdd_y X Y X' Y' w
  · exact dAdd_z X Y X' Y' Z' w
set_option maxHeartbeats 1000000 in
set_option maxRecDepth 100000 in
theorem dMul_any (hp : Pr p) (X Y : Nat) (Z : Bool) (hX : X < p) (hY : Y < p) (n : Nat) (hn : n < 18446744073709551616) (w : World) :
    Calls Try.prog 24 #[.agg (kd p r c gx gy).toArray, .agg (pt X Y Z).toArray, U n] w fun e w' => e = .returned (V (pc (dM p (X, Y, Z) n))) ∧ Below w.heap.size w w' := by
  have H0 : Hid (_ ∧ _) := ⟨Mm.nil w, Below.refl w.heap.size w⟩
  go_enter Try.func24, Try.ntmps24
  refine wp_seq ?_
  refine walk_seqA 3 [.made (kd p r c gx gy) 27, .made (pt X Y Z) 25, .made (pt 0 0 false) 25] (sB H0) ?ho1 ?he1
  case ho1 => exact ak (fun γ => ⟨rfl, fun w' => ex_boxT rfl rfl⟩) (ak (fun γ => ⟨rfl, fun w' => ex_boxT rfl rfl⟩) (ak (fun γ => ⟨rfl, fun w' => ex_made25 rfl⟩) trivial))
  intro γ w1 l hM hl
  have H1 : Hid (Mm w1 [(γ 0, kd p r c gx gy), (γ 1, pt X Y Z), (γ 2, pt 0 0 false)] ∧ _) := growB H0 hM (Nat.le_refl _) hl [0, 1, 2] rfl (by decide)
  have o1_0 := ownB H0 hM (Nat.le_refl _) hl (i := 0) rfl
  have o1_1 := ownB H0 hM (Nat.le_refl _) hl (i := 1) rfl
  have o1_2 := ownB H0 hM (Nat.le_refl _) hl (i := 2) rfl
  clear hM hl l
  generalize γ 0 = γ1_0 at H1 o1_0 ⊢
  generalize γ 1 = γ1_1 at H1 o1_1 ⊢
  generalize γ 2 = γ1_2 at H1 o1_2 ⊢
  clear γ
  refine rest0 rfl (then_normal (wp_seq ?_))
  refine walk_seqA 3 [.quiet (.agg (pt 0 0 true).toArray), .made (pt 0 0 false) 25, .laid 1 (pt 0 0 false) (pt 0 0 true)] (sB H1) ?ho2 ?he2 (hL := ?hL2)
  case hL2 => exact ⟨⟨_, rfl⟩, trivial⟩
  case ho2 => exact ak (fun γ => ⟨rfl, fun w' _ => ex_build25_2 rfl rfl⟩) (ak (fun γ => ⟨rfl, fun w' => ex_made25 rfl⟩) (ak (fun γ => ⟨rfl, rfl, rfl, fun w' h => ex_laidT h rfl rfl Try.sizeOf25 rfl rfl rfl⟩) trivial))
  intro γ w2 l hM hl
  have H2 : Hid (Mm w2 [(γ 1, pt 0 0 true), (γ1_0, kd p r c gx gy), (γ1_1, pt X Y Z), (γ1_2, pt 0 0 false)] ∧ _) := growB H1 hM (Nat.le_refl _) hl [1] rfl (by decide)
  have o2_1 := ownB H1 hM (Nat.le_refl _) hl (i := 1) rfl
  clear hM hl l H1
  generalize γ 1 = γ2_1 at H2 o2_1 ⊢
  clear γ
  refine rest0 rfl (then_normal (wp_seq (wp_seq ?_)))
  refine walk_seqB 4 [.quiet (U n), .call (.int .i64 ((bl n : Nat) : Int)), .quiet (.int .i64 (((bl n : Nat) : Int) - 1)), .quiet (.int .i64 (((bl n : Nat) : Int) - 1))] H2 ?ho3 ?he3
  case ho3 => exact ak (fun _ => ⟨rfl, fun _ _ => rfl⟩) (ak (fun γ => ⟨rfl, fun w' h => ⟨57, #[U n], exec_call rfl call57 rfl (mpn rfl), len_in n hn w'⟩⟩) (ak (by refine fun γ => ⟨rfl, fun w' h => ?_⟩; clear h; have hbl := bl_le_of n 64 hn; go_simp; rw [IntKind.wrap_i64]; omega) (ak (fun _ => ⟨rfl, fun _ _ => rfl⟩) trivial)))
  intro _ w3 H3
  clear H2
  refine rest0 rfl (then_normal (wp_block ?_))
  refine loop_ghost (α := Nat) (fun k a' w' => ∃ s0 : Nat → Value, a' = ⟨#[.agg (kd p r c gx gy).toArray, .agg (pt X Y Z).toArray, U n, PT γ1_0 0, PT γ1_1 0, undef, PT γ1_2 0, PT γ2_1 0, .int .i64 (((k : Nat) : Int) - 1), .agg (pt 0 0 true).toArray, U n, .int .i64 ((bl n : Nat) : Int), .int .i64 (((bl n : Nat) : Int) - 1), s0 13, s0 14, s0 15, s0 16, s0 17, s0 18, s0 19, s0 20, s0 21, s0 22, s0 23, s0 24, s0 25, s0 26, s0 27, s0 28, s0 29, undef], []⟩ ∧ (Mm w' [(γ2_1, pc (dM p (X, Y, Z) (n / 2 ^ k))), (γ1_0, kd p r c gx gy), (γ1_1, pt X Y Z), (γ1_2, pt 0 0 false)] ∧ Below w.heap.size w w') ∧ k ≤ 64) (fun k => k) (bl n) ?st0 ?rd0
  case st0 => exact ⟨(slotfn [undef, undef, undef, undef, undef, undef, undef, undef, undef, undef, undef, undef, undef, undef, undef, undef, undef, undef, undef, undef, undef, undef, undef, undef, undef, undef, undef, undef, undef, undef]), rfl, ⟨by rw [Nat.div_eq_of_lt (bl_lt n), dM_zero]; exact H3.out.1, H3.out.2⟩, bl_le_of n 64 hn⟩
  intro k a' w4 hI
  obtain ⟨s0, rfl, hMB, hk0⟩ := hI
  have H4 : Hid (_ ∧ _) := hMB
  clear hMB H3
  by_cases hlt : 0 < k
  · have hrd : True := trivial
    clear hrd
    obtain ⟨j, rfl⟩ : ∃ j, k = j + 1 := ⟨k - 1, by omega⟩
    rw [show (((j + 1 : Nat) : Int) - 1) = ((j : Nat) : Int) by omega]
    by_cases hb : n / 2 ^ j % 2 = 1
    · have hrd : True := trivial
      clear hrd
      refine wp_seq (wp_seq ?_)
      refine walk_seqB 2 [.quiet (.int .i64 ((j : Nat) : Int)), .quiet (.bool true)] H4 ?ho4 ?he4
      case ho4 => exact ak (fun _ => ⟨rfl, fun _ _ => rfl⟩) (ak (by refine fun γ => ⟨rfl, fun w' h => ?_⟩; clear h; go_simp) trivial)
      intro _ w5 H5
      clear H4
      refine rest0 rfl (then_normal (wp_cond_true rfl ?_))
      refine wp_skip (then_normal ?_)
      refine wp_seq (wp_block (wp_seq ?_))
      refine walk_seqB 4 [.quiet (.agg (kd p r c gx gy).toArray), .quiet (.agg (pc (dM p (X, Y, Z) (n / 2 ^ (j + 1)))).toArray), .quiet (.agg (pc (dM p (X, Y, Z) (n / 2 ^ (j + 1)))).toArray), .call (.agg (pt ((dA p (dM p (X, Y, Z) (n / 2 ^ (j + 1))) (dM p (X, Y, Z) (n / 2 ^ (j + 1)))).1) ((dA p (dM p (X, Y, Z) (n / 2 ^ (j + 1))) (dM p (X, Y, Z) (n / 2 ^ (j + 1)))).2.1) ((dA p (dM p (X, Y, Z) (n / 2 ^ (j + 1))) (dM p (X, Y, Z) (n / 2 ^ (j + 1)))).2.2)).toArray)] H5 ?ho5 ?he5
      case ho5 => exact ak (fun γ => ⟨rfl, fun w' h => ex_loadT h 1 rfl rfl rfl Try.isAgg27 Try.sizeOf27 rfl rfl⟩) (ak (fun γ => ⟨rfl, fun w' h => ex_loadT h 0 rfl rfl rfl Try.isAgg25 Try.sizeOf25 rfl rfl⟩) (ak (fun γ => ⟨rfl, fun w' h => ex_loadT h 0 rfl rfl rfl Try.isAgg25 Try.sizeOf25 rfl rfl⟩) (ak (fun γ => ⟨rfl, fun w' h => ⟨26, #[.agg (kd p r c gx gy).toArray, .agg (pc (dM p (X, Y, Z) (n / 2 ^ (j + 1)))).toArray, .agg (pc (dM p (X, Y, Z) (n / 2 ^ (j + 1)))).toArray], exec_call rfl call26 rfl (mpn rfl), dAdd_any hp (dM p (X, Y, Z) (n / 2 ^ (j + 1))) (dM p (X, Y, Z) (n / 2 ^ (j + 1))) (dM_lt hp ⟨hX, hY⟩ _) (dM_lt hp ⟨hX, hY⟩ _) w'⟩⟩) trivial)))
      intro _ w6 H6
      clear H5
      refine rest_at (l := [4]) rfl ?_
      refine rest_store rfl rfl rfl (ex_storeT (vs := pt ((dA p (dM p (X, Y, Z) (n / 2 ^ (j + 1))) (dM p (X, Y, Z) (n / 2 ^ (j + 1)))).1) ((dA p (dM p (X, Y, Z) (n / 2 ^ (j + 1))) (dM p (X, Y, Z) (n / 2 ^ (j + 1)))).2.1) ((dA p (dM p (X, Y, Z) (n / 2 ^ (j + 1))) (dM p (X, Y, Z) (n / 2 ^ (j + 1)))).2.2)) H6.out.1 0 rfl rfl rfl rfl Try.sizeOf25 rfl (Nat.le_of_ble_eq_true rfl)) ?_
      have H7 : Hid (Mm (w6.setCells γ2_1 0 (pt ((dA p (dM p (X, Y, Z) (n / 2 ^ (j + 1))) (dM p (X, Y, Z) (n / 2 ^ (j + 1)))).1) ((dA p (dM p (X, Y, Z) (n / 2 ^ (j + 1))) (dM p (X, Y, Z) (n / 2 ^ (j + 1)))).2.1) ((dA p (dM p (X, Y, Z) (n / 2 ^ (j + 1))) (dM p (X, Y, Z) (n / 2 ^ (j + 1)))).2.2))) [(γ2_1, pt ((dA p (dM p (X, Y, Z) (n / 2 ^ (j + 1))) (dM p (X, Y, Z) (n / 2 ^ (j + 1)))).1) ((dA p (dM p (X, Y, Z) (n / 2 ^ (j + 1))) (dM p (X, Y, Z) (n / 2 ^ (j + 1)))).2.1) ((dA p (dM p (X, Y, Z) (n / 2 ^ (j + 1))) (dM p (X, Y, Z) (n / 2 ^ (j + 1)))).2.2)), (γ1_0, kd p r c gx gy), (γ1_1, pt X Y Z), (γ1_2, pt 0 0 false)] ∧ Below w.heap.size w (w6.setCells γ2_1 0 (pt ((dA p (dM p (X, Y, Z) (n / 2 ^ (j + 1))) (dM p (X, Y, Z) (n / 2 ^ (j + 1)))).1) ((dA p (dM p (X, Y, Z) (n / 2 ^ (j + 1))) (dM p (X, Y, Z) (n / 2 ^ (j + 1)))).2.1) ((dA p (dM p (X, Y, Z) (n / 2 ^ (j + 1))) (dM p (X, Y, Z) (n / 2 ^ (j + 1)))).2.2)))) := ⟨H6.out.1.put 0 (off := 0) (vs := pt ((dA p (dM p (X, Y, Z) (n / 2 ^ (j + 1))) (dM p (X, Y, Z) (n / 2 ^ (j + 1)))).1) ((dA p (dM p (X, Y, Z) (n / 2 ^ (j + 1))) (dM p (X, Y, Z) (n / 2 ^ (j + 1)))).2.1) ((dA p (dM p (X, Y, Z) (n / 2 ^ (j + 1))) (dM p (X, Y, Z) (n / 2 ^ (j + 1)))).2.2)) rfl (Nat.le_of_ble_eq_true rfl), below_setCells _ o2_1.out _ _ _ H6.out.2⟩
      clear H6
      generalize hgw : World.setCells _ _ _ _ = w7 at H7 ⊢
      clear hgw
      refine rest_nil (then_normal (wp_seq ?_))
      refine walk_seqB 5 [.quiet (U n), .quiet (.int .i64 ((j : Nat) : Int)), .quiet (U (n / 2 ^ j)), .quiet (U (n / 2 ^ j % 2)), .quiet (.bool true)] H7 ?ho6 ?he6
      case ho6 => exact ak (fun _ => ⟨rfl, fun _ _ => rfl⟩) (ak (fun _ => ⟨rfl, fun _ _ => rfl⟩) (ak (fun γ => ⟨rfl, fun w' _ => ex_shrU (by omega) rfl rfl rfl⟩) (ak (fun γ => ⟨rfl, fun w' _ => ex_and1 rfl (Nat.lt_of_le_of_lt (Nat.div_le_self _ _) hn) rfl rfl⟩) (ak (fun γ => ⟨rfl, fun w' _ => ex_eqU rfl rfl rfl (decide_eq_true (hb))⟩) trivial))))
      intro _ w8 H8
      clear H7
      refine rest0 rfl (then_normal (wp_cond_true rfl ?_))
      refine walk_seqB 4 [.quiet (.agg (kd p r c gx gy).toArray), .quiet (.agg (pt ((dA p (dM p (X, Y, Z) (n / 2 ^ (j + 1))) (dM p (X, Y, Z) (n / 2 ^ (j + 1)))).1) ((dA p (dM p (X, Y, Z) (n / 2 ^ (j + 1))) (dM p (X, Y, Z) (n / 2 ^ (j + 1)))).2.1) ((dA p (dM p (X, Y, Z) (n / 2 ^ (j + 1))) (dM p (X, Y, Z) (n / 2 ^ (j + 1)))).2.2)).toArray), .quiet (.agg (pt X Y Z).toArray), .call (.agg (pt ((dA p (dA p (dM p (X, Y, Z) (n / 2 ^ (j + 1))) (dM p (X, Y, Z) (n / 2 ^ (j + 1)))) (X, Y, Z)).1) ((dA p (dA p (dM p (X, Y, Z) (n / 2 ^ (j + 1))) (dM p (X, Y, Z) (n / 2 ^ (j + 1)))) (X, Y, Z)).2.1) ((dA p (dA p (dM p (X, Y, Z) (n / 2 ^ (j + 1))) (dM p (X, Y, Z) (n / 2 ^ (j + 1)))) (X, Y, Z)).2.2)).toArray)] H8 ?ho7 ?he7
      case ho7 => exact ak (fun γ => ⟨rfl, fun w' h => ex_loadT h 1 rfl rfl rfl Try.isAgg27 Try.sizeOf27 rfl rfl⟩) (ak (fun γ => ⟨rfl, fun w' h => ex_loadT h 0 rfl rfl rfl Try.isAgg25 Try.sizeOf25 rfl rfl⟩) (ak (fun γ => ⟨rfl, fun w' h => ex_loadT h 2 rfl rfl rfl Try.isAgg25 Try.sizeOf25 rfl rfl⟩) (ak (fun γ => ⟨rfl, fun w' h => ⟨26, #[.agg (kd p r c gx gy).toArray, .agg (pt ((dA p (dM p (X, Y, Z) (n / 2 ^ (j + 1))) (dM p (X, Y, Z) (n / 2 ^ (j + 1)))).1) ((dA p (dM p (X, Y, Z) (n / 2 ^ (j + 1))) (dM p (X, Y, Z) (n / 2 ^ (j + 1)))).2.1) ((dA p (dM p (X, Y, Z) (n / 2 ^ (j + 1))) (dM p (X, Y, Z) (n / 2 ^ (j + 1)))).2.2)).toArray, .agg (pt X Y Z).toArray], exec_call rfl call26 rfl (mpn rfl), dAdd_any hp (dA p (dM p (X, Y, Z) (n / 2 ^ (j + 1))) (dM p (X, Y, Z) (n / 2 ^ (j + 1)))) (X, Y, Z) (dA_lt hp (dM_lt hp ⟨hX, hY⟩ _) (dM_lt hp ⟨hX, hY⟩ _)) ⟨hX, hY⟩ w'⟩⟩) trivial)))
      intro _ w9 H9
      clear H8
      refine rest_at (l := [4]) rfl ?_
      refine rest_store rfl rfl rfl (ex_storeT (vs := pt ((dA p (dA p (dM p (X, Y, Z) (n / 2 ^ (j + 1))) (dM p (X, Y, Z) (n / 2 ^ (j + 1)))) (X, Y, Z)).1) ((dA p (dA p (dM p (X, Y, Z) (n / 2 ^ (j + 1))) (dM p (X, Y, Z) (n / 2 ^ (j + 1)))) (X, Y, Z)).2.1) ((dA p (dA p (dM p (X, Y, Z) (n / 2 ^ (j + 1))) (dM p (X, Y, Z) (n / 2 ^ (j + 1)))) (X, Y, Z)).2.2)) H9.out.1 0 rfl rfl rfl rfl Try.sizeOf25 rfl (Nat.le_of_ble_eq_true rfl)) ?_
      have H10 : Hid (Mm (w9.setCells γ2_1 0 (pt ((dA p (dA p (dM p (X, Y, Z) (n / 2 ^ (j + 1))) (dM p (X, Y, Z) (n / 2 ^ (j + 1)))) (X, Y, Z)).1) ((dA p (dA p (dM p (X, Y, Z) (n / 2 ^ (j + 1))) (dM p (X, Y, Z) (n / 2 ^ (j + 1)))) (X, Y, Z)).2.1) ((dA p (dA p (dM p (X, Y, Z) (n / 2 ^ (j + 1))) (dM p (X, Y, Z) (n / 2 ^ (j + 1)))) (X, Y, Z)).2.2))) [(γ2_1, pt ((dA p (dA p (dM p (X, Y, Z) (n / 2 ^ (j + 1))) (dM p (X, Y, Z) (n / 2 ^ (j + 1)))) (X, Y, Z)).1) ((dA p (dA p (dM p (X, Y, Z) (n / 2 ^ (j + 1))) (dM p (X, Y, Z) (n / 2 ^ (j + 1)))) (X, Y, Z)).2.1) ((dA p (dA p (dM p (X, Y, Z) (n / 2 ^ (j + 1))) (dM p (X, Y, Z) (n / 2 ^ (j + 1)))) (X, Y, Z)).2.2)), (γ1_0, kd p r c gx gy), (γ1_1, pt X Y Z), (γ1_2, pt 0 0 false)] ∧ Below w.heap.size w (w9.setCells γ2_1 0 (pt ((dA p (dA p (dM p (X, Y, Z) (n / 2 ^ (j + 1))) (dM p (X, Y, Z) (n / 2 ^ (j + 1)))) (X, Y, Z)).1) ((dA p (dA p (dM p (X, Y, Z) (n / 2 ^ (j + 1))) (dM p (X, Y, Z) (n / 2 ^ (j + 1)))) (X, Y, Z)).2.1) ((dA p (dA p (dM p (X, Y, Z) (n / 2 ^ (j + 1))) (dM p (X, Y, Z) (n / 2 ^ (j + 1)))) (X, Y, Z)).2.2)))) := ⟨H9.out.1.put 0 (off := 0) (vs := pt ((dA p (dA p (dM p (X, Y, Z) (n / 2 ^ (j + 1))) (dM p (X, Y, Z) (n / 2 ^ (j + 1)))) (X, Y, Z)).1) ((dA p (dA p (dM p (X, Y, Z) (n / 2 ^ (j + 1))) (dM p (X, Y, Z) (n / 2 ^ (j + 1)))) (X, Y, Z)).2.1) ((dA p (dA p (dM p (X, Y, Z) (n / 2 ^ (j + 1))) (dM p (X, Y, Z) (n / 2 ^ (j + 1)))) (X, Y, Z)).2.2)) rfl (Nat.le_of_ble_eq_true rfl), below_setCells _ o2_1.out _ _ _ H9.out.2⟩
      clear H9
      generalize hgw : World.setCells _ _ _ _ = w10 at H10 ⊢
      clear hgw
      refine rest_nil (block_normal (then_normal ?_))
      refine walk_seqB 2 [.quiet (.int .i64 ((j : Nat) : Int)), .quiet (.int .i64 (((j : Nat) : Int) - 1))] H10 ?ho8 ?he8
      case ho8 => exact ak (fun _ => ⟨rfl, fun _ _ => rfl⟩) (ak (by refine fun γ => ⟨rfl, fun w' h => ?_⟩; clear h; go_simp; rw [IntKind.wrap_i64]; omega) trivial)
      intro _ w11 H11
      clear H10
      refine rest_at (l := [2]) rfl ?_
      refine rest_set (d := 8) rfl rfl rfl rfl ?_
      simp only [Act.put, sa, sz, ss]
      refine rest_nil (then_normal ?_)
      exact ⟨j, ⟨(slotfn [undef, undef, undef, undef, undef, undef, undef, undef, undef, undef, undef, undef, undef, .int .i64 ((j : Nat) : Int), .bool true, .int .i64 ((j : Nat) : Int), .int .i64 (((j : Nat) : Int) - 1), .agg (kd p r c gx gy).toArray, .agg (pc (dM p (X, Y, Z) (n / 2 ^ (j + 1)))).toArray, .agg (pc (dM p (X, Y, Z) (n / 2 ^ (j + 1)))).toArray, .agg (pt ((dA p (dM p (X, Y, Z) (n / 2 ^ (j + 1))) (dM p (X, Y, Z) (n / 2 ^ (j + 1)))).1) ((dA p (dM p (X, Y, Z) (n / 2 ^ (j + 1))) (dM p (X, Y, Z) (n / 2 ^ (j + 1)))).2.1) ((dA p (dM p (X, Y, Z) (n / 2 ^ (j + 1))) (dM p (X, Y, Z) (n / 2 ^ (j + 1)))).2.2)).toArray, U n, .int .i64 ((j : Nat) : Int), U (n / 2 ^ j), U (n / 2 ^ j % 2), .bool true, .agg (kd p r c gx gy).toArray, .agg (pt ((dA p (dM p (X, Y, Z) (n / 2 ^ (j + 1))) (dM p (X, Y, Z) (n / 2 ^ (j + 1)))).1) ((dA p (dM p (X, Y, Z) (n / 2 ^ (j + 1))) (dM p (X, Y, Z) (n / 2 ^ (j + 1)))).2.1) ((dA p (dM p (X, Y, Z) (n / 2 ^ (j + 1))) (dM p (X, Y, Z) (n / 2 ^ (j + 1)))).2.2)).toArray, .agg (pt X Y Z).toArray, .agg (pt ((dA p (dA p (dM p (X, Y, Z) (n / 2 ^ (j + 1))) (dM p (X, Y, Z) (n / 2 ^ (j + 1)))) (X, Y, Z)).1) ((dA p (dA p (dM p (X, Y, Z) (n / 2 ^ (j + 1))) (dM p (X, Y, Z) (n / 2 ^ (j + 1)))) (X, Y, Z)).2.1) ((dA p (dA p (dM p (X, Y, Z) (n / 2 ^ (j + 1))) (dM p (X, Y, Z) (n / 2 ^ (j + 1)))) (X, Y, Z)).2.2)).toArray]), rfl, ⟨by rw [dM_bit p (X, Y, Z) n j hn, if_pos hb]; exact H11.out.1, H11.out.2⟩, by omega⟩, by omega⟩
    · have hrd : True := trivial
      clear hrd
      refine wp_seq (wp_seq ?_)
      refine walk_seqB 2 [.quiet (.int .i64 ((j : Nat) : Int)), .quiet (.bool true)] H4 ?ho9 ?he9
      case ho9 => exact ak (fun _ => ⟨rfl, fun _ _ => rfl⟩) (ak (by refine fun γ => ⟨rfl, fun w' h => ?_⟩; clear h; go_simp) trivial)
      intro _ w12 H12
      clear H4
      refine rest0 rfl (then_normal (wp_cond_true rfl ?_))
      refine wp_skip (then_normal ?_)
      refine wp_seq (wp_block (wp_seq ?_))
      refine walk_seqB 4 [.quiet (.agg (kd p r c gx gy).toArray), .quiet (.agg (pc (dM p (X, Y, Z) (n / 2 ^ (j + 1)))).toArray), .quiet (.agg (pc (dM p (X, Y, Z) (n / 2 ^ (j + 1)))).toArray), .call (.agg (pt ((dA p (dM p (X, Y, Z) (n / 2 ^ (j + 1))) (dM p (X, Y, Z) (n / 2 ^ (j + 1)))).1) ((dA p (dM p (X, Y, Z) (n / 2 ^ (j + 1))) (dM p (X, Y, Z) (n / 2 ^ (j + 1)))).2.1) ((dA p (dM p (X, Y, Z) (n / 2 ^ (j + 1))) (dM p (X, Y, Z) (n / 2 ^ (j + 1)))).2.2)).toArray)] H12 ?ho10 ?he10
      case ho10 => exact ak (fun γ => ⟨rfl, fun w' h => ex_loadT h 1 rfl rfl rfl Try.isAgg27 Try.sizeOf27 rfl rfl⟩) (ak (fun γ => ⟨rfl, fun w' h => ex_loadT h 0 rfl rfl rfl Try.isAgg25 Try.sizeOf25 rfl rfl⟩) (ak (fun γ => ⟨rfl, fun w' h => ex_loadT h 0 rfl rfl rfl Try.isAgg25 Try.sizeOf25 rfl rfl⟩) (ak (fun γ => ⟨rfl, fun w' h => ⟨26, #[.agg (kd p r c gx gy).toArray, .agg (pc (dM p (X, Y, Z) (n / 2 ^ (j + 1)))).toArray, .agg (pc (dM p (X, Y, Z) (n / 2 ^ (j + 1)))).toArray], exec_call rfl call26 rfl (mpn rfl), dAdd_any hp (dM p (X, Y, Z) (n / 2 ^ (j + 1))) (dM p (X, Y, Z) (n / 2 ^ (j + 1))) (dM_lt hp ⟨hX, hY⟩ _) (dM_lt hp ⟨hX, hY⟩ _) w'⟩⟩) trivial)))
      intro _ w13 H13
      clear H12
      refine rest_at (l := [4]) rfl ?_
      refine rest_store rfl rfl rfl (ex_storeT (vs := pt ((dA p (dM p (X, Y, Z) (n / 2 ^ (j + 1))) (dM p (X, Y, Z) (n / 2 ^ (j + 1)))).1) ((dA p (dM p (X, Y, Z) (n / 2 ^ (j + 1))) (dM p (X, Y, Z) (n / 2 ^ (j + 1)))).2.1) ((dA p (dM p (X, Y, Z) (n / 2 ^ (j + 1))) (dM p (X, Y, Z) (n / 2 ^ (j + 1)))).2.2)) H13.out.1 0 rfl rfl rfl rfl Try.sizeOf25 rfl (Nat.le_of_ble_eq_true rfl)) ?_
      have H14 : Hid (Mm (w13.setCells γ2_1 0 (pt ((dA p (dM p (X, Y, Z) (n / 2 ^ (j + 1))) (dM p (X, Y, Z) (n / 2 ^ (j + 1)))).1) ((dA p (dM p (X, Y, Z) (n / 2 ^ (j + 1))) (dM p (X, Y, Z) (n / 2 ^ (j + 1)))).2.1) ((dA p (dM p (X, Y, Z) (n / 2 ^ (j + 1))) (dM p (X, Y, Z) (n / 2 ^ (j + 1)))).2.2))) [(γ2_1, pt ((dA p (dM p (X, Y, Z) (n / 2 ^ (j + 1))) (dM p (X, Y, Z) (n / 2 ^ (j + 1)))).1) ((dA p (dM p (X, Y, Z) (n / 2 ^ (j + 1))) (dM p (X, Y, Z) (n / 2 ^ (j + 1)))).2.1) ((dA p (dM p (X, Y, Z) (n / 2 ^ (j + 1))) (dM p (X, Y, Z) (n / 2 ^ (j + 1)))).2.2)), (γ1_0, kd p r c gx gy), (γ1_1, pt X Y Z), (γ1_2, pt 0 0 false)] ∧ Below w.heap.size w (w13.setCells γ2_1 0 (pt ((dA p (dM p (X, Y, Z) (n / 2 ^ (j + 1))) (dM p (X, Y, Z) (n / 2 ^ (j + 1)))).1) ((dA p (dM p (X, Y, Z) (n / 2 ^ (j + 1))) (dM p (X, Y, Z) (n / 2 ^ (j + 1)))).2.1) ((dA p (dM p (X, Y, Z) (n / 2 ^ (j + 1))) (dM p (X, Y, Z) (n / 2 ^ (j + 1)))).2.2)))) := ⟨H13.out.1.put 0 (off := 0) (vs := pt ((dA p (dM p (X, Y, Z) (n / 2 ^ (j + 1))) (dM p (X, Y, Z) (n / 2 ^ (j + 1)))).1) ((dA p (dM p (X, Y, Z) (n / 2 ^ (j + 1))) (dM p (X, Y, Z) (n / 2 ^ (j + 1)))).2.1) ((dA p (dM p (X, Y, Z) (n / 2 ^ (j + 1))) (dM p (X, Y, Z) (n / 2 ^ (j + 1)))).2.2)) rfl (Nat.le_of_ble_eq_true rfl), below_setCells _ o2_1.out _ _ _ H13.out.2⟩
      clear H13
      generalize hgw : World.setCells _ _ _ _ = w14 at H14 ⊢
      clear hgw
      refine rest_nil (then_normal (wp_seq ?_))
      refine walk_seqB 5 [.quiet (U n), .quiet (.int .i64 ((j : Nat) : Int)), .quiet (U (n / 2 ^ j)), .quiet (U (n / 2 ^ j % 2)), .quiet (.bool false)] H14 ?ho11 ?he11
      case ho11 => exact ak (fun _ => ⟨rfl, fun _ _ => rfl⟩) (ak (fun _ => ⟨rfl, fun _ _ => rfl⟩) (ak (fun γ => ⟨rfl, fun w' _ => ex_shrU (by omega) rfl rfl rfl⟩) (ak (fun γ => ⟨rfl, fun w' _ => ex_and1 rfl (Nat.lt_of_le_of_lt (Nat.div_le_self _ _) hn) rfl rfl⟩) (ak (fun γ => ⟨rfl, fun w' _ => ex_eqU rfl rfl rfl (decide_eq_false (hb))⟩) trivial))))
      intro _ w15 H15
      clear H14
      refine rest0 rfl (then_normal (wp_cond_false rfl ?_))
      refine wp_skip (block_normal (then_normal ?_))
      refine walk_seqB 2 [.quiet (.int .i64 ((j : Nat) : Int)), .quiet (.int .i64 (((j : Nat) : Int) - 1))] H15 ?ho12 ?he12
      case ho12 => exact ak (fun _ => ⟨rfl, fun _ _ => rfl⟩) (ak (by refine fun γ => ⟨rfl, fun w' h => ?_⟩; clear h; go_simp; rw [IntKind.wrap_i64]; omega) trivial)
      intro _ w16 H16
      clear H15
      refine rest_at (l := [2]) rfl ?_
      refine rest_set (d := 8) rfl rfl rfl rfl ?_
      simp only [Act.put, sa, sz, ss]
      refine rest_nil (then_normal ?_)
      exact ⟨j, ⟨(slotfn [undef, undef, undef, undef, undef, undef, undef, undef, undef, undef, undef, undef, undef, .int .i64 ((j : Nat) : Int), .bool true, .int .i64 ((j : Nat) : Int), .int .i64 (((j : Nat) : Int) - 1), .agg (kd p r c gx gy).toArray, .agg (pc (dM p (X, Y, Z) (n / 2 ^ (j + 1)))).toArray, .agg (pc (dM p (X, Y, Z) (n / 2 ^ (j + 1)))).toArray, .agg (pt ((dA p (dM p (X, Y, Z) (n / 2 ^ (j + 1))) (dM p (X, Y, Z) (n / 2 ^ (j + 1)))).1) ((dA p (dM p (X, Y, Z) (n / 2 ^ (j + 1))) (dM p (X, Y, Z) (n / 2 ^ (j + 1)))).2.1) ((dA p (dM p (X, Y, Z) (n / 2 ^ (j + 1))) (dM p (X, Y, Z) (n / 2 ^ (j + 1)))).2.2)).toArray, U n, .int .i64 ((j : Nat) : Int), U (n / 2 ^ j), U (n / 2 ^ j % 2), .bool false, s0 26, s0 27, s0 28, s0 29]), rfl, ⟨by rw [dM_bit p (X, Y, Z) n j hn, if_neg hb]; exact H16.out.1, H16.out.2⟩, by omega⟩, by omega⟩
  have hk : k = 0 := by omega
  subst hk
  refine wp_seq (wp_seq ?_)
  refine walk_seqB 2 [.quiet (.int .i64 (((0 : Nat) : Int) - 1)), .quiet (.bool false)] H4 ?ho13 ?he13
  case ho13 => exact ak (fun _ => ⟨rfl, fun _ _ => rfl⟩) (ak (by refine fun γ => ⟨rfl, fun w' h => ?_⟩; clear h; go_simp) trivial)
  intro _ w17 H17
  clear H4
  refine rest0 rfl (then_normal (wp_cond_false rfl ?_))
  refine wp_exit ?_
  repeat refine then_exit ?_
  refine block_exit ?_
  refine then_normal (wp_seq ?_)
  refine walk_seqB 1 [.quiet (.agg (pc (dM p (X, Y, Z) (n / 2 ^ 0))).toArray)] H17 ?ho14 ?he14
  case ho14 => exact ak (fun γ => ⟨rfl, fun w' h => ex_loadT h 0 rfl rfl rfl Try.isAgg25 Try.sizeOf25 rfl rfl⟩) trivial
  intro _ w18 H18
  clear H17
  refine rest_at (l := [1]) rfl ?_
  refine rest_store rfl rfl rfl (ex_storeT (vs := pc (dM p (X, Y, Z) (n / 2 ^ 0))) H18.out.1 3 rfl rfl rfl rfl Try.sizeOf25 rfl (Nat.le_of_ble_eq_true rfl)) ?_
  have H19 : Hid (Mm (w18.setCells γ1_2 0 (pc (dM p (X, Y, Z) (n / 2 ^ 0)))) [(γ2_1, pc (dM p (X, Y, Z) (n / 2 ^ 0))), (γ1_0, kd p r c gx gy), (γ1_1, pt X Y Z), (γ1_2, pc (dM p (X, Y, Z) (n / 2 ^ 0)))] ∧ Below w.heap.size w (w18.setCells γ1_2 0 (pc (dM p (X, Y, Z) (n / 2 ^ 0))))) := ⟨H18.out.1.put 3 (off := 0) (vs := pc (dM p (X, Y, Z) (n / 2 ^ 0))) rfl (Nat.le_of_ble_eq_true rfl), below_setCells _ o1_2.out _ _ _ H18.out.2⟩
  clear H18
  generalize hgw : World.setCells _ _ _ _ = w19 at H19 ⊢
  clear hgw
  refine rest_nil (then_normal (wp_ret ?_))
  repeat (first | refine then_ret ?_ | refine block_ret ?_)
  have hf0 := var_T H19.out.1 3 rfl Try.isAgg25 Try.sizeOf25 rfl
  refine bodyPost_ret (v := .agg (pc (dM p (X, Y, Z) (n / 2 ^ 0))).toArray) (by simp [results, Try.results24, asAddr, hf0]) rfl ?_
  exact ⟨by rw [Nat.pow_zero, Nat.div_one], H19.out.2⟩
def di (p r X Y : Nat) (Z : Bool) : Bool := oc p X Y Z && (dM p (X, Y, Z) r).2.2
theorem dc_is (hp : Pr p) (X Y : Nat) (Z t : Bool) (h : oc p X Y Z = t) (w : World) : Calls Try.prog 22 #[.agg (kd p r c gx gy).toArray, .agg (pt X Y Z).toArray] w fun e w' => e = .returned (.bool t) ∧ Below w.heap.size w w' := by
  rw [← h]
  exact dCheck_any hp X Y Z w
set_option maxRecDepth 100000 in
theorem din_no (hp : Pr p) (X Y : Nat) (Z : Bool) (hoc : oc p X Y Z = false) (w : World) :
    Calls Try.prog 23 #[.agg (kd p r c gx gy).toArray, .agg (pt X Y Z).toArray] w fun e w' => e = .returned (.bool false) ∧ Below w.heap.size w w' := by
  have H0 : Hid (_ ∧ _) := ⟨Mm.nil w, Below.refl w.heap.size w⟩
  go_enter Try.func23, Try.ntmps23
  refine wp_seq ?_
  refine walk_seqA 3 [.made (kd p r c gx gy) 27, .made (pt X Y Z) 25, .quiet (.bool false)] (sB H0) ?ho1 ?he1
  case ho1 => exact ak (fun γ => ⟨rfl, fun w' => ex_boxT rfl rfl⟩) (ak (fun γ => ⟨rfl, fun w' => ex_boxT rfl rfl⟩) (ak (fun _ => ⟨rfl, fun _ _ => rfl⟩) trivial))
  intro γ w1 l hM hl
  have H1 : Hid (Mm w1 [(γ 0, kd p r c gx gy), (γ 1, pt X Y Z)] ∧ _) := growB H0 hM (Nat.le_refl _) hl [0, 1] rfl (by decide)
  have o1_0 := ownB H0 hM (Nat.le_refl _) hl (i := 0) rfl
  have o1_1 := ownB H0 hM (Nat.le_refl _) hl (i := 1) rfl
  clear hM hl l
  generalize γ 0 = γ1_0 at H1 o1_0 ⊢
  generalize γ 1 = γ1_1 at H1 o1_1 ⊢
  clear γ
  refine rest0 rfl (then_normal (wp_seq ?_))
  refine walk_seqB 12 [.quiet (.agg (kd p r c gx gy).toArray), .quiet (.agg (pt X Y Z).toArray), .call (.bool false), .quiet (.bool false), .gone, .gone, .gone, .gone, .gone, .gone, .quiet (.bool false), .quiet (.bool false)] H1 ?ho2 ?he2
  case ho2 => exact ak (fun γ => ⟨rfl, fun w' h => ex_loadT h 0 rfl rfl rfl Try.isAgg27 Try.sizeOf27 rfl rfl⟩) (ak (fun γ => ⟨rfl, fun w' h => ex_loadT h 1 rfl rfl rfl Try.isAgg25 Try.sizeOf25 rfl rfl⟩) (ak (fun γ => ⟨rfl, fun w' h => ⟨22, #[.agg (kd p r c gx gy).toArray, .agg (pt X Y Z).toArray], exec_call rfl call22 rfl (mpn rfl), dc_is hp X Y Z _ hoc w'⟩⟩) (ak (fun _ => ⟨rfl, fun _ _ => rfl⟩) (ak (fun γ => rfl) (ak (fun γ => rfl) (ak (fun γ => rfl) (ak (fun γ => rfl) (ak (fun γ => rfl) (ak (fun γ => rfl) (ak (by refine fun γ => ⟨rfl, fun w' h => ?_⟩; clear h; go_simp) (ak (fun _ => ⟨rfl, fun _ _ => rfl⟩) trivial)))))))))))
  intro _ w2 H2
  clear H1
  refine rest0 rfl (then_normal (wp_ret ?_))
  repeat (first | refine then_ret ?_ | refine block_ret ?_)
  refine bodyPost_ret (v := .bool false) (by simp [results, Try.results23, go_sem, *]) rfl ?_
  exact ⟨rfl, H2.out.2⟩
set_option maxRecDepth 100000 in
theorem din_yes (hp : Pr p) (X Y : Nat) (Z : Bool) (hoc : oc p X Y Z = true) (hr : r < 18446744073709551616) (w : World) :
    Calls Try.prog 23 #[.agg (kd p r c gx gy).toArray, .agg (pt X Y Z).toArray] w fun e w' => e = .returned (.bool ((dM p (X, Y, Z) r).2.2)) ∧ Below w.heap.size w w' := by
  have H0 : Hid (_ ∧ _) := ⟨Mm.nil w, Below.refl w.heap.size w⟩
  go_enter Try.func23, Try.ntmps23
  refine wp_seq ?_
  refine walk_seqA 3 [.made (kd p r c gx gy) 27, .made (pt X Y Z) 25, .quiet (.bool false)] (sB H0) ?ho1 ?he1
  case ho1 => exact ak (fun γ => ⟨rfl, fun w' => ex_boxT rfl rfl⟩) (ak (fun γ => ⟨rfl, fun w' => ex_boxT rfl rfl⟩) (ak (fun _ => ⟨rfl, fun _ _ => rfl⟩) trivial))
  intro γ w1 l hM hl
  have H1 : Hid (Mm w1 [(γ 0, kd p r c gx gy), (γ 1, pt X Y Z)] ∧ _) := growB H0 hM (Nat.le_refl _) hl [0, 1] rfl (by decide)
  have o1_0 := ownB H0 hM (Nat.le_refl _) hl (i := 0) rfl
  have o1_1 := ownB H0 hM (Nat.le_refl _) hl (i := 1) rfl
  clear hM hl l
  generalize γ 0 = γ1_0 at H1 o1_0 ⊢
  generalize γ 1 = γ1_1 at H1 o1_1 ⊢
  clear γ
  refine rest0 rfl (then_normal (wp_seq ?_))
  refine walk_seqB 12 [.quiet (.agg (kd p r c gx gy).toArray), .quiet (.agg (pt X Y Z).toArray), .call (.bool true), .quiet (.bool true), .quiet (.agg (kd p r c gx gy).toArray), .quiet (.agg (pt X Y Z).toArray), .quiet (PT γ1_0 1), .quiet (U r), .call (.agg (pt ((dM p (X, Y, Z) r).1) ((dM p (X, Y, Z) r).2.1) ((dM p (X, Y, Z) r).2.2)).toArray), .quiet (.bool ((dM p (X, Y, Z) r).2.2)), .quiet (.bool ((dM p (X, Y, Z) r).2.2)), .quiet (.bool ((dM p (X, Y, Z) r).2.2))] H1 ?ho2 ?he2
  case ho2 => exact ak (fun γ => ⟨rfl, fun w' h => ex_loadT h 0 rfl rfl rfl Try.isAgg27 Try.sizeOf27 rfl rfl⟩) (ak (fun γ => ⟨rfl, fun w' h => ex_loadT h 1 rfl rfl rfl Try.isAgg25 Try.sizeOf25 rfl rfl⟩) (ak (fun γ => ⟨rfl, fun w' h => ⟨22, #[.agg (kd p r c gx gy).toArray, .agg (pt X Y Z).toArray], exec_call rfl call22 rfl (mpn rfl), dc_is hp X Y Z _ hoc w'⟩⟩) (ak (fun _ => ⟨rfl, fun _ _ => rfl⟩) (ak (fun γ => ⟨rfl, fun w' h => ex_loadT h 0 rfl rfl rfl Try.isAgg27 Try.sizeOf27 rfl rfl⟩) (ak (fun γ => ⟨rfl, fun w' h => ex_loadT h 1 rfl rfl rfl Try.isAgg25 Try.sizeOf25 rfl rfl⟩) (ak (by refine fun γ => ⟨rfl, fun w' h => ?_⟩; clear h; go_simp) (ak (fun γ => ⟨rfl, fun w' h => ex_loadC h 0 rfl rfl rfl Try.isAgg23 rfl⟩) (ak (fun γ => ⟨rfl, fun w' h => ⟨24, #[.agg (kd p r c gx gy).toArray, .agg (pt X Y Z).toArray, U r], exec_call rfl call24 rfl (mpn rfl), dMul_any hp X Y Z (oc_lt hp hoc).1 (oc_lt hp hoc).2 r hr w'⟩⟩) (ak (fun γ => ⟨rfl, fun w' _ => ex_field25_2 rfl rfl rfl⟩) (ak (by refine fun γ => ⟨rfl, fun w' h => ?_⟩; clear h; go_simp) (ak (fun _ => ⟨rfl, fun _ _ => rfl⟩) trivial)))))))))))
  intro _ w2 H2
  clear H1
  refine rest0 rfl (then_normal (wp_ret ?_))
  repeat (first | refine then_ret ?_ | refine block_ret ?_)
  refine bodyPost_ret (v := .bool ((dM p (X, Y, Z) r).2.2)) (by simp [results, Try.results23, go_sem, *]) rfl ?_
  exact ⟨rfl, H2.out.2⟩
theorem dIn_any (hp : Pr p) (hr : r < 18446744073709551616) (X Y : Nat) (Z : Bool) (w : World) : Calls Try.prog 23 #[.agg (kd p r c gx gy).toArray, .agg (pt X Y Z).toArray] w fun e w' => e = .returned (.bool (di p r X Y Z)) ∧ Below w.heap.size w w' := by
  unfold di
  cases h : oc p X Y Z
  · exact din_no hp X Y Z h w
  · exact din_yes hp X Y Z h hr w
end
end Rg
end Go.Proofs.Ytjmbgchoioepjaa
end
section
namespace Go.Proofs.Ytjmbgchoioepjaa
open Go.RowKit
namespace Rg
/-- All that was there is as it was, but block g. -/
structure Kp (g : Nat) (w w' : World) : Prop where
  os : w'.os = w.os
  tape : w'.tape = w.tape
  output : w'.output = w.output
  size : w.heap.size ≤ w'.heap.size
  block : ∀ k, k < w.heap.size → k ≠ g → w'.heap[k]? = w.heap[k]?
theorem Kp.refl (g : Nat) (w : World) : Kp g w w := ⟨rfl, rfl, rfl, Nat.le_refl _, fun _ _ _ => rfl⟩
theorem Kp.trans {g : Nat} {a b c : World} (h : Kp g a b) (k : Below b.heap.size b c) : Kp g a c :=
  ⟨k.os.trans h.os, k.tape.trans h.tape, k.output.trans h.output, Nat.le_trans h.size k.size, fun i hi hg => (k.block i (Nat.lt_of_lt_of_le hi h.size)).trans (h.block i hi hg)⟩
theorem heap_setCells (g : Nat) (k : Nat) (hk : k ≠ g) : ∀ (vs : List Value) (o : Nat) (w : World), (w.setCells g o vs).heap[k]? = w.heap[k]?
  | [], _, _ => rfl
  | v :: r, o, w => by
    rw [World.setCells, heap_setCells g k hk r, Below.heap_setCell _ _ _ _ hk]
theorem Kp.put {g b off : Nat} {vs : List Value} {a w : World} (h : Kp g a w) (hb : b = g ∨ a.heap.size ≤ b) : Kp g a (w.setCells b off vs) := by
  have hB := below_setCells (B := 0) (w0 := w) b (Nat.zero_le _) vs off w (Below.refl _ _)
  refine ⟨hB.os.trans h.os, hB.tape.trans h.tape, hB.output.trans h.output, by rw [size_setCells]; exact h.size, fun k hk hg => ?_⟩
  rw [heap_setCells b k (by rcases hb with e | e <;> omega) vs off w]
  exact h.block k hk hg
theorem Below.kp {B g : Nat} {a w w' : World} (h : Below B a w) (k : Kp g w w') (hg : B ≤ g) (hB : B ≤ w.heap.size) : Below B a w' :=
  ⟨k.os.trans h.os, k.tape.trans h.tape, k.output.trans h.output, Nat.le_trans h.size k.size, fun i hi => (k.block i (Nat.lt_of_lt_of_le hi hB) (by omega)).trans (h.block i hi)⟩
theorem Blk.kp {g b : Nat} {cs : List Value} {w w' : World} (h : Blk w b cs) (k : Kp g w w') (hb : b < w.heap.size) (hg : b ≠ g) : Blk w' b cs := fun j v hv => by
  have e := k.block b hb hg
  exact ⟨by rw [World.cell?_of_block (w := w) (a := ⟨b, j, none⟩) e]; exact (h j v hv).1, by rw [World.frozen?_of_block (w := w) (a := ⟨b, j, none⟩) e]; exact (h j v hv).2⟩
theorem Mm.change {w w' : World} {l : List (Nat × List Value)} (h : Mm w l) (k : Nat) {g : Nat} {cs cs' : List Value} (hk : l[k]? = some (g, cs)) (hp : Kp g w w') (hn : Mm w' [(g, cs')]) : Mm w' (l.set k (g, cs')) := by
  have hkl : k < l.length := (List.getElem?_eq_some_iff.1 hk).1
  have hke : l[k] = (g, cs) := (List.getElem?_eq_some_iff.1 hk).2
  have hpw := List.pairwise_iff_getElem.1 h.nd
  refine ⟨fun p hp2 => ?_, ?_⟩
  · obtain ⟨j, hj, e⟩ := List.getElem_of_mem hp2
    rw [List.getElem_set] at e
    have hj' : j < l.length := by simpa using hj
    split at e
    · subst e
      exact hn.blk _ (List.mem_singleton.2 rfl)
    · rename_i hne
      subst e
      have hb := h.blk _ (List.getElem_mem hj')
      refine ⟨Nat.lt_of_lt_of_le hb.1 hp.size, Blk.kp hb.2 hp hb.1 ?_⟩
      rcases Nat.lt_or_ge j k with h' | h'
      · have := hpw j k hj' hkl h'
        rw [hke] at this
        exact this
      · have := hpw k j hkl hj' (by omega)
        rw [hke] at this
        exact this.symm
  · refine List.pairwise_iff_getElem.2 fun i j hi hj hij => ?_
    have hi' : i < l.length := by simpa using hi
    have hj' : j < l.length := by simpa using hj
    have := hpw i j hi' hj' hij
    rw [List.getElem_set, List.getElem_set]
    split
    · rename_i e1
      subst e1
      rw [if_neg (by omega)]
      rw [hke] at this
      exact this
    · split
      · rename_i e2
        subst e2
        rw [hke] at this
        exact this
      · exact this
theorem Mm.two {w : World} {l : List (Nat × List Value)} (h : Mm w l) (i j : Nat) {p q : Nat × List Value} (hi : l[i]? = some p) (hj : l[j]? = some q) (hij : i ≠ j) : Mm w [p, q] := by
  have hpw := List.pairwise_iff_getElem.1 h.nd
  obtain ⟨hi1, hi2⟩ := List.getElem?_eq_some_iff.1 hi
  obtain ⟨hj1, hj2⟩ := List.getElem?_eq_some_iff.1 hj
  have hne : p.1 ≠ q.1 := by
    rcases Nat.lt_or_ge i j with h' | h'
    · have := hpw i j hi1 hj1 h'
      rw [hi2, hj2] at this
      exact this
    · have := hpw j i hj1 hi1 (by omega)
      rw [hi2, hj2] at this
      exact this.symm
  refine ⟨fun r hr => ?_, ?_⟩
  · simp only [List.mem_cons, List.not_mem_nil, or_false] at hr
    rcases hr with e | e
    · rw [e]; exact h.blk p (List.mem_of_getElem? hi)
    · rw [e]; exact h.blk q (List.mem_of_getElem? hj)
  · exact List.Pairwise.cons (fun r hr => by rw [List.mem_singleton.1 hr]; exact hne) (List.pairwise_singleton _ _)
theorem keepK {q : Nat} {w₀ w w' : World} {L : List (Nat × List Value)} (H : Hid (Mm w L ∧ Kp q w₀ w)) (hb : Below w.heap.size w w') : Hid (Mm w' L ∧ Kp q w₀ w') :=
  ⟨H.out.1.below hb, H.out.2.trans hb⟩
end Rg
end Go.Proofs.Ytjmbgchoioepjaa
end
section
namespace Go.Proofs.Ytjmbgchoioepjaa
open Go.RowKit
namespace Rg
section
variable {ρ : Operand → Value} {o : Oper} {x y z : Operand} {g : Nat} {w : World} {a b : P3}
end
/-- What stays where a map of the call's own is written: what was there, and what the map holds. -/
structure Mr (g : Nat) (es : Array MapEntry) (c : Nat) (w0 w : World) : Prop where
  bl : Below w0.heap.size w0 w
  at_ : w.heap[g]? = some (.map es c)
  ge : w0.heap.size ≤ g
section
variable {g c : Nat} {es : Array MapEntry} {w0 w w' : World} {L : List (Nat × List Value)}
theorem Mr.size (h : Mr g es c w0 w) : w0.heap.size ≤ w.heap.size := h.bl.size
theorem Mr.lt (h : Mr g es c w0 w) : g < w.heap.size := (Array.getElem?_eq_some_iff.1 h.at_).1
theorem Mr.grow (h : Mr g es c w0 w) (hb : Below w.heap.size w w') : Mr g es c w0 w' := ⟨h.bl.trans (hb.mono h.bl.size), (hb.block g h.lt).trans h.at_, h.ge⟩
theorem Mr.made (h : Below w0.heap.size w0 w) : Mr w.heap.size #[] 0 w0 (w.alloc (.map #[] 0)) := ⟨h.alloc h.size _, by show (w.heap.push _)[w.heap.size]? = _; simp, h.size⟩
end
/-! A region whose order is open, taken order by order. -/
section
variable {P : Program} {Q : Exit → Act → World → Prop} {ops : Array Oper} {a : Act} {w : World}
end
end Rg
end Go.Proofs.Ytjmbgchoioepjaa
end
section
namespace Go.Proofs.Ytjmbgchoioepjaa
open Go.RowKit
namespace Rg
section
variable {p r c gx gy : Nat}
theorem ig_in (hp : Pr p) (hr : r < 18446744073709551616) (X Y : Nat) (Z t : Bool) (h : ig p r X Y Z = t) (w : World) : Calls Try.prog 51 #[.agg (kd p r c gx gy).toArray, .agg (pt X Y Z).toArray] w fun e w' => e = .returned (.bool t) ∧ Below w.heap.size w w' := by
  rw [← h]
  exact inGroup_any hp hr X Y Z w
end
end Rg
end Go.Proofs.Ytjmbgchoioepjaa
end
section
namespace Go.Proofs.Ytjmbgchoioepjaa
open Go.RowKit
namespace Rg
abbrev E2 : Type := Nat × Nat
structure Lt2 (p : Nat) (a : E2) : Prop where
  x : a.1 < p
  y : a.2 < p
def t2 (p a b c d : Nat) : Nat := (a * b + c * d) % p
/-- Products and powers of numbers of two parts. -/
def pd (p : Nat) (a b : E2) : E2 := (t2 p a.1 b.1 (mi p 0 a.2) b.2, t2 p a.1 b.2 a.2 b.1)
def rsf (p : Nat) : Nat → E2 → E2 → Nat → E2
  | 0, all, _, _ => all
  | f + 1, all, a, n => if n = 0 then all else rsf p f (if n % 2 = 1 then pd p all a else all) (pd p a a) (n / 2)
def rs (p : Nat) (all a : E2) (n : Nat) : E2 := rsf p 64 all a n
/-- Lines. -/
def lw (p : Nat) (t : T3) (nz ri X Y : Nat) : E2 := (t2 p ri (pl p (tm p X (tm p t.2.2 t.2.2)) t.1) 1 (mi p 0 (tm p 2 (tm p t.2.1 t.2.1))), tm p Y (tm p nz (tm p t.2.2 t.2.2)))
def lj (p sz X Y ri X' Y' : Nat) : E2 := (t2 p ri (pl p X' X) (mi p 0 Y) sz, tm p Y' sz)
def sx (p : Nat) (t : T3) (X : Nat) : Bool := decide (tm p X (tm p t.2.2 t.2.2) = t.1)
/-- A step of the walk. -/
def f1 (p : Nat) (s : E2 × T3) (X' Y' : Nat) : E2 := pd p (pd p s.1 s.1) (lw p s.2 (twT p s.2).2.2 (tR p s.2.1 s.2.2.2) X' Y')
def st (p X Y X' Y' : Nat) (Z : Bool) (bit : Nat) (s : E2 × T3) : E2 × T3 :=
  if bit = 0 ∨ sx p (twT p s.2) X = true then (f1 p s X' Y', twT p s.2)
  else (pd p (f1 p s X' Y') (lj p (jnT p (twT p s.2) X Y Z).2.2 X Y (jnR p (twT p s.2) X Y Z) X' Y'), jnT p (twT p s.2) X Y Z)
def wsm (p r X Y X' Y' : Nat) (Z : Bool) : Nat → E2 × T3
  | 0 => ((1, 0), tO X Y Z)
  | m + 1 => st p X Y X' Y' Z (r / 2 ^ (bl r - 1 - 1 - m) % 2) (wsm p r X Y X' Y' Z m)
def wk (p r X Y X' Y' : Nat) (Z : Bool) : E2 := (wsm p r X Y X' Y' Z (bl r - 1)).1
structure LtS (p : Nat) (s : E2 × T3) : Prop where
  f : Lt2 p s.1
  t : Lt3 p s.2
/-- The last power. -/
def ls (p c : Nat) (f : E2) : E2 := rs p (1, 0) (pd p (pd p (f.1, mi p 0 f.2) (f.1, mi p 0 f.2)) (pw p (t2 p f.1 f.1 f.2 f.2) (p - 2), 0)) c
/-- The number of two points. -/
def pr (p r c X Y X' Y' : Nat) (Z Z' : Bool) : E2 := if Z = true ∨ Z' = true then (1, 0) else ls p c (wk p r X Y X' Y' Z)
theorem Mm.pick {w : World} {l : List (Nat × List Value)} (h : Mm w l) (js : List Nat) {l' : List (Nat × List Value)} (e : js.map (fun i => l[i]?) = l'.map some) (hn : js.Pairwise (· ≠ ·)) : Mm w l' := by
  have hpw := List.pairwise_iff_getElem.1 h.nd
  have hlen : js.length = l'.length := by
    have := congrArg List.length e
    simpa using this
  have at_ : ∀ (k : Nat) (hk : k < l'.length), l[js[k]'(by omega)]? = some l'[k] := fun k hk => by
    have h2 : (js.map (fun i => l[i]?))[k]? = (l'.map some)[k]? := by rw [e]
    rw [List.getElem?_map, List.getElem?_map, List.getElem?_eq_getElem (show k < js.length by omega), List.getElem?_eq_getElem hk] at h2
    simpa using h2
  refine ⟨fun p hp => ?_, List.pairwise_iff_getElem.2 fun i j hi hj hij => ?_⟩
  · obtain ⟨k, hk, ek⟩ := List.getElem_of_mem hp
    have := at_ k hk
    rw [ek] at this
    exact h.blk p (List.mem_of_getElem? this)
  · have h1 := at_ i hi
    have h2 := at_ j hj
    have hne : js[i]'(by omega) ≠ js[j]'(by omega) := (List.pairwise_iff_getElem.1 hn) i j (by omega) (by omega) hij
    obtain ⟨q1, e1⟩ := List.getElem?_eq_some_iff.1 h1
    obtain ⟨q2, e2⟩ := List.getElem?_eq_some_iff.1 h2
    rw [← e1, ← e2]
    rcases Nat.lt_or_gt_of_ne hne with hl | hl
    · exact hpw _ _ q1 q2 hl
    · exact (hpw _ _ q2 q1 hl).symm
section
variable {p r c gx gy : Nat}
end
end Rg
end Go.Proofs.Ytjmbgchoioepjaa
end
section
namespace Go.Proofs.Ytjmbgchoioepjaa
namespace NT
/-- A prime. -/
def Prm (p : Nat) : Prop := 1 < p ∧ ∀ d, d ∣ p → d = 1 ∨ d = p
theorem Prm.cop {p : Nat} (h : Prm p) {a : Nat} (ha : ¬ p ∣ a) : Nat.Coprime p a := by
  rcases h.2 (Nat.gcd p a) (Nat.gcd_dvd_left p a) with h1 | h1
  · exact h1
  · exact absurd (h1 ▸ Nat.gcd_dvd_right p a) ha
theorem Prm.mul {p a b : Nat} (h : Prm p) (hd : p ∣ a * b) : p ∣ a ∨ p ∣ b := by
  by_cases ha : p ∣ a
  · exact Or.inl ha
  · exact Or.inr ((h.cop ha).dvd_of_dvd_mul_left hd)
theorem Prm.pos {p : Nat} (h : Prm p) : 0 < p := by have := h.1; omega
/-- Each number above 1 has a prime that divides it. -/
theorem prm_dvd (n : Nat) (h : 1 < n) : ∃ q, Prm q ∧ q ∣ n := by
  induction n using Nat.strongRecOn with
  | ind n ih =>
    by_cases hp : ∃ d, d ∣ n ∧ d ≠ 1 ∧ d ≠ n
    · obtain ⟨d, hd, h1, h2⟩ := hp
      have hle := Nat.le_of_dvd (by omega) hd
      have h0 : d ≠ 0 := by
        intro e; rw [e] at hd; have := Nat.eq_zero_of_zero_dvd hd; omega
      obtain ⟨q, hq, hqd⟩ := ih d (by omega) (by omega)
      exact ⟨q, hq, Nat.dvd_trans hqd hd⟩
    · refine ⟨n, ⟨h, ?_⟩, Nat.dvd_refl n⟩
      intro d hd
      by_cases h1 : d = 1
      · exact Or.inl h1
      · by_cases h2 : d = n
        · exact Or.inr h2
        · exact absurd ⟨d, hd, h1, h2⟩ hp
/-! Binomials. -/
def ch : Nat → Nat → Nat
  | _, 0 => 1
  | 0, _ + 1 => 0
  | n + 1, k + 1 => ch n k + ch n (k + 1)
theorem ch_zero (n : Nat) : ch n 0 = 1 := by cases n <;> rfl
theorem ch_big (n : Nat) : ∀ k, n < k → ch n k = 0 := by
  induction n with
  | zero => intro k hk; cases k with
    | zero => omega
    | succ k => rfl
  | succ n ih => intro k hk; cases k with
    | zero => omega
    | succ k => show ch n k + ch n (k + 1) = 0; rw [ih k (by omega), ih (k + 1) (by omega)]
theorem ch_self (n : Nat) : ch n n = 1 := by
  induction n with
  | zero => rfl
  | succ n ih => show ch n n + ch n (n + 1) = 1; rw [ih, ch_big n (n + 1) (by omega)]
theorem ch_absorb (n : Nat) : ∀ k, (k + 1) * ch (n + 1) (k + 1) = (n + 1) * ch n k := by
  induction n with
  | zero =>
    intro k
    cases k with
    | zero => rfl
    | succ k =>
      rw [ch_big 1 (k + 1 + 1) (by omega), ch_big 0 (k + 1) (by omega)]; omega
  | succ n ih =>
    intro k
    cases k with
    | zero =>
      have h := ih 0
      show (0 + 1) * (ch (n + 1) 0 + ch (n + 1) (0 + 1)) = _
      rw [Nat.mul_add, h, ch_zero, ch_zero]; omega
    | succ k =>
      have h1 := ih k
      have h2 := ih (k + 1)
      show (k + 1 + 1) * (ch (n + 1) (k + 1) + ch (n + 1) (k + 1 + 1)) = (n + 1 + 1) * (ch (n + 1) (k + 1))
      rw [Nat.mul_add, h2]
      have e : ch (n + 1) (k + 1) = ch n k + ch n (k + 1) := rfl
      rw [Nat.add_mul (k + 1) 1, h1, Nat.add_mul (n + 1) 1 (ch (n + 1) (k + 1))]
      have e' : (n + 1) * ch (n + 1) (k + 1) = (n + 1) * ch n k + (n + 1) * ch n (k + 1) := by rw [e, Nat.mul_add]
      omega
theorem ch_dvd {p : Nat} (hp : Prm p) (k : Nat) (h0 : 0 < k) (hk : k < p) : p ∣ ch p k := by
  obtain ⟨k, rfl⟩ : ∃ j, k = j + 1 := ⟨k - 1, by omega⟩
  obtain ⟨n, rfl⟩ : ∃ j, p = j + 1 := ⟨p - 1, by omega⟩
  have h : n + 1 ∣ (k + 1) * ch (n + 1) (k + 1) := ⟨ch n k, ch_absorb n k⟩
  rcases hp.mul h with h1 | h1
  · have := Nat.le_of_dvd (by omega) h1; omega
  · exact h1
def sm (f : Nat → Nat) : Nat → Nat
  | 0 => 0
  | n + 1 => sm f n + f n
theorem sm_first (f : Nat → Nat) (n : Nat) : sm f (n + 1) = f 0 + sm (fun k => f (k + 1)) n := by
  induction n with
  | zero => simp [sm]
  | succ n ih => rw [sm, ih]; simp only [sm]; omega
theorem sm_add (f g : Nat → Nat) (n : Nat) : sm (fun k => f k + g k) n = sm f n + sm g n := by
  induction n with
  | zero => rfl
  | succ n ih => simp only [sm]; rw [ih]; omega
theorem sm_mul (f : Nat → Nat) (c n : Nat) : sm (fun k => c * f k) n = c * sm f n := by
  induction n with
  | zero => rfl
  | succ n ih => simp only [sm]; rw [ih, Nat.mul_add]
theorem sm_congr (f g : Nat → Nat) (n : Nat) (h : ∀ k, k < n → f k = g k) : sm f n = sm g n := by
  induction n with
  | zero => rfl
  | succ n ih => simp only [sm]; rw [ih (fun k hk => h k (by omega)), h n (by omega)]
theorem sm_dvd (f : Nat → Nat) (p n : Nat) (h : ∀ k, k < n → p ∣ f k) : p ∣ sm f n := by
  induction n with
  | zero => exact Nat.dvd_zero p
  | succ n ih => exact Nat.dvd_add (ih (fun k hk => h k (by omega))) (h n (by omega))
theorem binom (a n : Nat) : (a + 1) ^ n = sm (fun k => ch n k * a ^ k) (n + 1) := by
  induction n with
  | zero => simp [sm, ch]
  | succ n ih =>
    rw [Nat.pow_succ, ih, Nat.mul_add, Nat.mul_one]
    rw [sm_first (fun k => ch (n + 1) k * a ^ k) (n + 1)]
    have e : ∀ k, ch (n + 1) (k + 1) * a ^ (k + 1) = a * (ch n k * a ^ k) + ch n (k + 1) * a ^ (k + 1) := by
      intro k
      show (ch n k + ch n (k + 1)) * a ^ (k + 1) = _
      rw [Nat.add_mul, Nat.pow_succ]
      congr 1
      rw [Nat.mul_comm (a ^ k) a, Nat.mul_left_comm]
    have e1 : sm (fun k => ch (n + 1) (k + 1) * a ^ (k + 1)) (n + 1)
        = a * sm (fun k => ch n k * a ^ k) (n + 1) + sm (fun k => ch n (k + 1) * a ^ (k + 1)) (n + 1) := by
      rw [← sm_mul, ← sm_add]
      exact sm_congr _ _ _ (fun k _ => e k)
    rw [e1]
    have e2 : sm (fun k => ch n k * a ^ k) (n + 1) = 1 + sm (fun k => ch n (k + 1) * a ^ (k + 1)) (n + 1) := by
      rw [sm_first (fun k => ch n k * a ^ k) n]
      have : sm (fun k => ch n (k + 1) * a ^ (k + 1)) (n + 1) = sm (fun k => ch n (k + 1) * a ^ (k + 1)) n + ch n (n + 1) * a ^ (n + 1) := rfl
      rw [this, ch_big n (n + 1) (by omega), ch_zero]
      simp
    rw [ch_zero, Nat.pow_zero, Nat.mul_comm _ a]
    omega
theorem dream {p : Nat} (hp : Prm p) (a : Nat) : (a + 1) ^ p % p = (a ^ p + 1) % p := by
  obtain ⟨n, rfl⟩ : ∃ j, p = j + 1 := ⟨p - 1, by have := hp.1; omega⟩
  rw [binom, sm, sm_first]
  obtain ⟨c, hc⟩ := sm_dvd (fun k => ch (n + 1) (k + 1) * a ^ (k + 1)) (n + 1) n
    (fun k hk => Nat.dvd_trans (ch_dvd hp (k + 1) (by omega) (by omega)) (Nat.dvd_mul_right _ _))
  rw [hc, ch_self, ch_zero, Nat.pow_zero]
  have : 1 * 1 + (n + 1) * c + 1 * a ^ (n + 1) = (a ^ (n + 1) + 1) + (n + 1) * c := by omega
  rw [this, Nat.add_mul_mod_self_left]
theorem fermat {p : Nat} (hp : Prm p) (a : Nat) : a ^ p % p = a % p := by
  induction a with
  | zero => rw [Nat.zero_pow hp.pos]
  | succ a ih => rw [dream hp, Nat.add_mod, ih, ← Nat.add_mod]
theorem fermat1 {p : Nat} (hp : Prm p) (a : Nat) (ha : ¬ p ∣ a) : a ^ (p - 1) % p = 1 := by
  have h := fermat hp a
  obtain ⟨n, rfl⟩ : ∃ j, p = j + 1 := ⟨p - 1, by have := hp.1; omega⟩
  rw [Nat.add_sub_cancel]
  rw [Nat.pow_succ] at h
  have hn : 0 < n := by have := hp.1; omega
  have h1 : 1 ≤ a ^ n := Nat.one_le_iff_ne_zero.mpr (fun e => by
    rcases Nat.pow_eq_zero.mp e with ⟨e1, -⟩
    rw [e1] at ha; exact ha (Nat.dvd_zero _))
  have h2 : n + 1 ∣ (a ^ n - 1) * a := by
    rw [Nat.sub_mul, Nat.one_mul]
    exact Nat.dvd_of_mod_eq_zero (Nat.sub_mod_eq_zero_of_mod_eq h)
  rcases hp.mul h2 with h3 | h3
  · obtain ⟨c, hc⟩ := h3
    have : a ^ n = 1 + (n + 1) * c := by omega
    rw [this, Nat.add_mul_mod_self_left, Nat.mod_eq_of_lt hp.1]
  · exact absurd h3 ha
/-! Orders. -/
theorem least (P : Nat → Prop) (n : Nat) (h : P n) : ∃ m, P m ∧ ∀ k, k < m → ¬ P k := by
  induction n using Nat.strongRecOn with
  | ind n ih =>
    by_cases hk : ∃ k, k < n ∧ P k
    · obtain ⟨k, h1, h2⟩ := hk
      exact ih k h1 h2
    · exact ⟨n, h, fun k h1 h2 => hk ⟨k, h1, h2⟩⟩
theorem order {d : Nat} (hd : Prm d) (a : Nat) (ha : ¬ d ∣ a) :
    ∃ e, e ∣ d - 1 ∧ a ^ e % d = 1 ∧ ∀ m, a ^ m % d = 1 → e ∣ m := by
  obtain ⟨e, ⟨h0, h1⟩, h2⟩ := least (fun e => 0 < e ∧ a ^ e % d = 1) (d - 1) ⟨by have := hd.1; omega, fermat1 hd a ha⟩
  have h3 : ∀ m, a ^ m % d = 1 → e ∣ m := by
    intro m hm
    by_cases hr : m % e = 0
    · exact Nat.dvd_of_mod_eq_zero hr
    · exfalso
      refine h2 (m % e) (Nat.mod_lt _ h0) ⟨by omega, ?_⟩
      have e1 : a ^ m = (a ^ e) ^ (m / e) * a ^ (m % e) := by
        rw [← Nat.pow_mul, ← Nat.pow_add, Nat.div_add_mod]
      rw [e1, Nat.mul_mod, Nat.pow_mod, h1, Nat.one_pow, Nat.mod_eq_of_lt hd.1, Nat.one_mul, Nat.mod_mod] at hm
      exact hm
  exact ⟨e, h3 _ (fermat1 hd a ha), h1, h3⟩
/-- Pocklington: each prime that divides N leaves 1 by F. -/
theorem pock {N M F a d : Nat} (qs : List Nat) (hM : N = M + 1) (hF : F ∣ M) (hd : Prm d) (hdN : d ∣ N) (h1 : a ^ M % N = 1)
    (hc : ∀ t, (∀ q, q ∈ qs → Nat.Coprime q t) → Nat.Coprime F t)
    (hq : ∀ q, q ∈ qs → Prm q ∧ q ∣ M ∧ Nat.Coprime (a ^ (M / q) % N + M) N) : F ∣ d - 1 := by
  have hmod : ∀ x, x % N % d = x % d := fun x => Nat.mod_mod_of_dvd x hdN
  have h1d : a ^ M % d = 1 := by rw [← hmod, h1, Nat.mod_eq_of_lt hd.1]
  have hM0 : M ≠ 0 := by
    intro e; rw [e] at hM; rw [hM] at hdN; have := Nat.dvd_one.mp hdN; have := hd.1; omega
  have ha : ¬ d ∣ a := by
    intro h
    have h2 : d ∣ a ^ M := Nat.dvd_trans h (by
      obtain ⟨k, hk⟩ : ∃ k, M = k + 1 := ⟨M - 1, by omega⟩
      rw [hk, Nat.pow_succ]; exact Nat.dvd_mul_left _ _)
    have := Nat.mod_eq_zero_of_dvd h2
    omega
  obtain ⟨e, h2, h3, h4⟩ := order hd a ha
  obtain ⟨t, ht⟩ := h4 M h1d
  have hcop : Nat.Coprime F t := by
    refine hc t (fun q hqm => ?_)
    obtain ⟨g1, g2, g3⟩ := hq q hqm
    refine g1.cop (fun hqt => ?_)
    obtain ⟨s, hs⟩ := hqt
    have g4 : M / q = e * s := by
      rw [ht, hs, Nat.mul_left_comm, Nat.mul_div_cancel_left _ g1.pos]
    have g5 : a ^ (M / q) % d = 1 := by
      rw [g4, Nat.pow_mul, Nat.pow_mod, h3, Nat.one_pow, Nat.mod_eq_of_lt hd.1]
    have g6 : d ∣ a ^ (M / q) % N + M := by
      refine Nat.dvd_of_mod_eq_zero ?_
      rw [Nat.add_mod, hmod, g5, ← Nat.mod_eq_of_lt hd.1, ← Nat.add_mod, Nat.add_comm 1 M, ← hM]
      exact Nat.mod_eq_zero_of_dvd hdN
    have g7 := Nat.dvd_gcd g6 hdN
    rw [g3] at g7
    have := Nat.dvd_one.mp g7; have := hd.1; omega
  have h5 : F ∣ e := hcop.dvd_of_dvd_mul_right (ht ▸ hF)
  exact Nat.dvd_trans h5 h2
/-- A number whose prime divisors all leave 1 by F, F F above it, is prime. -/
theorem prm_of {N F : Nat} (hN : 1 < N) (hF : N < F * F) (h : ∀ d, Prm d → d ∣ N → F ∣ d - 1) : Prm N := by
  obtain ⟨d, hd, hdN⟩ := prm_dvd N hN
  by_cases e : d = N
  · exact e ▸ hd
  · exfalso
    obtain ⟨c, hc⟩ := hdN
    have hc1 : 1 < c := by
      rcases c with _ | _ | c
      · omega
      · omega
      · omega
    obtain ⟨d', hd', hdc⟩ := prm_dvd c hc1
    have g1 : F ≤ d - 1 := Nat.le_of_dvd (by have := hd.1; omega) (h d hd ⟨c, hc⟩)
    have g2 : F ≤ d' - 1 := Nat.le_of_dvd (by have := hd'.1; omega) (h d' hd' (Nat.dvd_trans hdc ⟨d, by rw [hc, Nat.mul_comm]⟩))
    have g3 := Nat.le_of_dvd (by omega) hdc
    have g4 : F * F ≤ d * c := Nat.mul_le_mul (by omega) (by omega)
    omega
/-! Powers by squaring, for the kernel. -/
def pm (N : Nat) : Nat → Nat → Nat → Nat → Nat
  | 0, _, _, acc => acc
  | f + 1, b, e, acc => pm N f (b * b % N) (e / 2) (if e % 2 = 1 then acc * b % N else acc)
theorem pm_spec (N : Nat) (f : Nat) : ∀ b e acc, e < 2 ^ f → pm N f b e acc % N = acc * b ^ e % N := by
  induction f with
  | zero =>
    intro b e acc h
    have : e = 0 := by simpa using h
    rw [this, Nat.pow_zero, Nat.mul_one]; rfl
  | succ f ih =>
    intro b e acc h
    show pm N f (b * b % N) (e / 2) (if e % 2 = 1 then acc * b % N else acc) % N = _
    rw [ih _ _ _ (by rw [Nat.pow_succ] at h; omega)]
    have h1 : (b * b % N) ^ (e / 2) % N = b ^ (2 * (e / 2)) % N := by
      rw [← Nat.pow_mod, Nat.pow_mul, Nat.pow_two]
    rw [Nat.mul_mod, h1, ← Nat.mul_mod]
    by_cases he : e % 2 = 1
    · rw [if_pos he, Nat.mul_mod, Nat.mod_mod, ← Nat.mul_mod, Nat.mul_assoc, ← Nat.pow_add_one']
      have : 2 * (e / 2) + 1 = e := by omega
      rw [this]
    · rw [if_neg he]
      have : 2 * (e / 2) = e := by omega
      rw [this]
theorem pm_spec2 (N g h b e acc : Nat) (hh : e < 2 ^ g * 2 ^ h) : pm N (g + h) b e acc % N = acc * b ^ e % N :=
  pm_spec N (g + h) b e acc (by rw [Nat.pow_add]; exact hh)
theorem pm_eq {N a e c : Nat} (h : e < 2 ^ 256 * 2 ^ 256 ∧ pm N 512 a e 1 % N = c) : a ^ e % N = c := by
  have := pm_spec2 N 256 256 a e 1 h.1
  rw [Nat.one_mul] at this
  rw [← this]; exact h.2
theorem cop_pm {N a e M : Nat} (h : e < 2 ^ 256 * 2 ^ 256 ∧ Nat.gcd (pm N 512 a e 1 % N + M) N = 1) : Nat.Coprime (a ^ e % N + M) N := by
  have := pm_eq (N := N) (a := a) (e := e) ⟨h.1, rfl⟩
  rw [this]; exact h.2
/-! Trial division. -/
def tr (n : Nat) : Nat → Nat → Bool
  | 0, _ => true
  | f + 1, d => if n % d = 0 then false else tr n f (d + 1)
theorem tr_spec (n : Nat) (f : Nat) : ∀ d, tr n f d = true → ∀ c, d ≤ c → c < d + f → ¬ c ∣ n := by
  induction f with
  | zero => intro d _ c h1 h2; omega
  | succ f ih =>
    intro d h c h1 h2 hc
    unfold tr at h
    by_cases h0 : n % d = 0
    · rw [if_pos h0] at h; exact absurd h (by decide)
    · rw [if_neg h0] at h
      by_cases e : c = d
      · rw [e] at hc; exact h0 (Nat.mod_eq_zero_of_dvd hc)
      · exact ih (d + 1) h c (by omega) (by omega) hc
theorem prm_trial (n f : Nat) (h1 : 1 < n) (h2 : n < (f + 2) * (f + 2)) (h : n < 4 ∨ tr n f 2 = true) : Prm n := by
  refine ⟨h1, fun d hd => ?_⟩
  obtain ⟨c, hc⟩ := hd
  rcases h with h | h
  · have hd2 : d = 1 ∨ d = n := by
      have hle := Nat.le_of_dvd (by omega) (⟨c, hc⟩ : d ∣ n)
      have h0 : d ≠ 0 := by
        intro e; rw [e, Nat.zero_mul] at hc; omega
      rcases d with _ | _ | _ | d
      · exact absurd rfl h0
      · left; rfl
      · right
        have : n = 2 ∨ n = 3 := by omega
        rcases this with e | e
        · omega
        · omega
      · right; omega
    exact hd2
  · have key : ∀ x y, n = x * y → x ≤ y → x = 1 ∨ x = 0 := by
      intro x y e hle
      rcases Nat.lt_or_ge x 2 with g | g
      · omega
      · exfalso
        refine tr_spec n f 2 h x g ?_ ⟨y, e⟩
        rcases Nat.lt_or_ge x (2 + f) with g2 | g2
        · exact g2
        · exfalso
          have : (f + 2) * (f + 2) ≤ x * y := Nat.mul_le_mul (by omega) (by omega)
          omega
    rcases Nat.le_total d c with hle | hle
    · rcases key d c hc hle with e | e
      · exact Or.inl e
      · rw [e, Nat.zero_mul] at hc; omega
    · rcases key c d (by rw [hc, Nat.mul_comm]) hle with e | e
      · right; rw [hc, e, Nat.mul_one]
      · rw [e, Nat.mul_zero] at hc; omega
theorem pockp {N M F a d : Nat} (qs : List Nat) (hM : N = M + 1) (hF : F ∣ M) (hd : Prm d) (hdN : d ∣ N) (h1 : M < 2 ^ 256 * 2 ^ 256 ∧ pm N 512 a M 1 % N = 1)
    (hc : ∀ t, (∀ q, q ∈ qs → Nat.Coprime q t) → Nat.Coprime F t)
    (hq : ∀ q, q ∈ qs → Prm q ∧ q ∣ M ∧ M / q < 2 ^ 256 * 2 ^ 256 ∧ Nat.gcd (pm N 512 a (M / q) 1 % N + M) N = 1) : F ∣ d - 1 :=
  pock qs hM hF hd hdN (pm_eq h1) hc (fun q h => ⟨(hq q h).1, (hq q h).2.1, cop_pm (hq q h).2.2⟩)
theorem prm_786251 : Prm 786251 := prm_trial 786251 887 (by decide) (by decide) (by decide +kernel)
theorem prm_376631 : Prm 376631 := prm_trial 376631 614 (by decide) (by decide) (by decide +kernel)
theorem prm_10056583 : Prm 10056583 := prm_trial 10056583 3172 (by decide) (by decide) (by decide +kernel)
theorem fac_192153584101141037 : ∀ d, Prm d → d ∣ 192153584101141037 → 3787620911873 ∣ d - 1 := by
  intro d hd hdN
  refine pockp (N := 192153584101141037) (M := 192153584101141036) (F := 3787620911873) (a := 2) [376631, 10056583] (by decide) (by decide +kernel) hd hdN (by decide +kernel) ?_ ?_
  · intro t h
    have e : 3787620911873 = (376631 * 10056583) := by decide
    rw [e]
    exact Nat.Coprime.mul_left ((h 376631 (by decide))) ((h 10056583 (by decide)))
  · intro q hq
    simp only [List.mem_cons, List.not_mem_nil, or_false] at hq
    rcases hq with rfl | rfl
    · exact ⟨prm_376631, by decide +kernel, by decide +kernel⟩
    · exact ⟨prm_10056583, by decide +kernel, by decide +kernel⟩
theorem prm_192153584101141037 : Prm 192153584101141037 := prm_of (by decide) (by decide) fac_192153584101141037
theorem fac_1152921504606846223 : ∀ d, Prm d → d ∣ 1152921504606846223 → 192153584101141037 ∣ d - 1 := by
  intro d hd hdN
  refine pockp (N := 1152921504606846223) (M := 1152921504606846222) (F := 192153584101141037) (a := 2) [192153584101141037] (by decide) (by decide +kernel) hd hdN (by decide +kernel) ?_ ?_
  · intro t h
    have e : 192153584101141037 = 192153584101141037 := by decide
    rw [e]
    exact (h 192153584101141037 (by decide))
  · intro q hq
    simp only [List.mem_cons, List.not_mem_nil, or_false] at hq
    subst hq
    · exact ⟨prm_192153584101141037, by decide +kernel, by decide +kernel⟩
theorem prm_1152921504606846223 : Prm 1152921504606846223 := prm_of (by decide) (by decide) fac_1152921504606846223
theorem even_pow {p a b : Nat} (h : (a + b) % p = 0) (k : Nat) : a ^ (2 * k) % p = b ^ (2 * k) % p := by
  rw [Nat.pow_mul, Nat.pow_mul, Nat.pow_mod, Nat.pow_mod (b ^ 2)]
  congr 2
  rw [Nat.pow_two, Nat.pow_two]
  have e : a * a + b * (a + b) = b * b + a * (a + b) := by grind
  have e1 : (a * a + b * (a + b)) % p = a * a % p := by rw [Nat.add_mod, Nat.mul_mod b, h, Nat.mul_zero, Nat.zero_mod, Nat.add_zero, Nat.mod_mod]
  have e2 : (b * b + a * (a + b)) % p = b * b % p := by rw [Nat.add_mod, Nat.mul_mod a, h, Nat.mul_zero, Nat.zero_mod, Nat.add_zero, Nat.mod_mod]
  rw [← e1, ← e2, e]
end NT
end Go.Proofs.Ytjmbgchoioepjaa
end
section
namespace Go.Proofs.Ytjmbgchoioepjaa
open Go.RowKit
namespace Rg
section
variable {s : Int} {p r c gx gy : Nat}
end
/-! What the examples say. -/
end Rg
end Go.Proofs.Ytjmbgchoioepjaa
end
section
namespace Go.Proofs.Ytjmbgchoioepjaa
open Go.RowKit
namespace Rg
open NT
section
variable {p : Nat} [NeZero p]
/-- A number, by p. -/
abbrev ph (p : Nat) [NeZero p] (n : Nat) : Fin p := Fin.ofNat p n
theorem ph_tm (a b : Nat) : ph p (tm p a b) = ph p a * ph p b := by
  apply Fin.ext
  simp [tm, Fin.val_mul]
theorem ph_pl (a b : Nat) : ph p (pl p a b) = ph p a + ph p b := by
  apply Fin.ext
  simp [pl, Fin.val_add]
theorem ph_val (a : Nat) : (ph p a).val = a % p := rfl
theorem ph_mi (a b : Nat) (hb : b < p) : ph p (mi p a b) = ph p a - ph p b := by
  apply Fin.ext
  rw [Fin.val_sub, ph_val, ph_val, ph_val]
  unfold mi
  rw [Nat.mod_mod, Nat.mod_eq_of_lt hb, Nat.add_mod_mod]
  congr 1
  omega
theorem ph_inj {a b : Nat} (ha : a < p) (hb : b < p) (h : ph p a = ph p b) : a = b := by
  have e := congrArg Fin.val h
  rw [ph_val, ph_val, Nat.mod_eq_of_lt ha, Nat.mod_eq_of_lt hb] at e
  exact e
theorem ph_zero : ph p 0 = 0 := rfl
theorem ph_one : ph p 1 = 1 := rfl
theorem ph_2 : ph p 2 = 2 := rfl
theorem ph_3 : ph p 3 = 3 := rfl
theorem ph_4 : ph p 4 = 4 := rfl
theorem ph_8 : ph p 8 = 8 := rfl
theorem ph_eq0 {a : Nat} (ha : a < p) : ph p a = 0 ↔ a = 0 := ⟨fun h => ph_inj ha (Nat.lt_of_le_of_lt (Nat.zero_le _) ha) h, fun h => by rw [h]; rfl⟩
theorem fp_mul {x y : Fin p} (hq : Prm p) (h : x * y = 0) : x = 0 ∨ y = 0 := by
  have e := congrArg Fin.val h
  rw [Fin.val_mul] at e
  have hd : p ∣ x.val * y.val := Nat.dvd_of_mod_eq_zero e
  rcases hq.mul hd with h | h
  · exact Or.inl (Fin.ext (Nat.eq_zero_of_dvd_of_lt h x.isLt))
  · exact Or.inr (Fin.ext (Nat.eq_zero_of_dvd_of_lt h y.isLt))
theorem fp_ne {x y : Fin p} (hq : Prm p) (hx : x ≠ 0) (hy : y ≠ 0) : x * y ≠ 0 := fun h => (fp_mul hq h).elim hx hy
theorem fp_cancel {x y z : Fin p} (hq : Prm p) (hz : z ≠ 0) (h : x * z = y * z) : x = y := by
  have e : (x - y) * z = 0 := by grind
  rcases fp_mul hq e with h | h
  · grind
  · exact absurd h hz
/-- By the power p - 2 a number is turned over. -/
theorem ph_inv {a : Nat} (hq : Prm p) (h2 : 2 < p) (ha : ph p a ≠ 0) : ph p a * ph p (pw p a (p - 2)) = 1 := by
  apply Fin.ext
  rw [Fin.val_mul, ph_val, ph_val]
  unfold pw
  rw [Nat.mod_mod, ← Nat.mul_mod, Nat.mul_comm, ← Nat.pow_succ, show (p - 2).succ = p - 1 by omega, fermat1 hq a (fun hd => ha (Fin.ext (Nat.mod_eq_zero_of_dvd hd)))]
  exact (Nat.mod_eq_of_lt (by omega)).symm
/-- A triple's point. -/
structure Rep (p : Nat) [NeZero p] (t : T3) (a : P3) : Prop where
  lt : Lt3 p t
  zr : a.2.2 = true → t.2.2 = 0
  nz : a.2.2 = false → ph p t.2.2 ≠ 0 ∧ ph p t.1 = ph p a.1 * ph p t.2.2 * ph p t.2.2 ∧ ph p t.2.1 = ph p a.2.1 * ph p t.2.2 * ph p t.2.2 * ph p t.2.2
/-- A point of the curve. -/
structure On (p : Nat) [NeZero p] (a : P3) : Prop where
  lt : LtP p a
  zr : a.2.2 = true → a = (0, 0, true)
  cv : a.2.2 = false → ph p a.2.1 * ph p a.2.1 = ph p a.1 * ph p a.1 * ph p a.1 + ph p a.1
theorem ph_cb (x : Nat) : ph p (cb p x) = ph p x * ph p x * ph p x + ph p x := by
  unfold cb
  rw [ph_tm, ph_pl, ph_tm, ph_one]
  grind
theorem on_of (hp : Pr p) {X Y : Nat} {Z : Bool} (h : oc p X Y Z = true) : On p (X, Y, Z) := by
  have hl := oc_lt hp h
  refine ⟨⟨hl.1, hl.2⟩, fun hz => ?_, fun hz => ?_⟩
  · simp only at hz
    subst hz
    simp [oc] at h
    rw [h.1, h.2]
  · simp only at hz
    subst hz
    simp [oc] at h
    have e := congrArg (ph p) h.2.2
    rw [ph_tm, ph_cb] at e
    exact e
theorem rep_tO (hp : Pr p) {a : P3} (ha : On p a) : Rep p (tO a.1 a.2.1 a.2.2) a := by
  refine ⟨tO_lt hp ha.lt.x ha.lt.y, fun hz => ?_, fun hz => ?_⟩
  · unfold tO; rw [if_pos hz]
  · unfold tO
    rw [if_neg (by rw [hz]; decide)]
    have h1 : (1 : Fin p) ≠ 0 := fun e => by
      have := (ph_eq0 (p := p) (one_lt hp)).1 e
      omega
    simp only [ph_one]
    exact ⟨h1, by grind, by grind⟩
/-- The point is told. -/
theorem rep_pt (hp : Pr p) (hq : Prm p) {t : T3} {a : P3} (h : Rep p t a) (ha : On p a) : (pX p t, pY p t, pZ t) = a := by
  obtain ⟨X, Y, Z⟩ := a
  cases Z
  · obtain ⟨h1, h2, h3⟩ := h.nz rfl
    have hz : t.2.2 ≠ 0 := fun e => h1 ((ph_eq0 h.lt.z).2 e)
    have hi := ph_inv hq (by have := hp.lo; omega) h1
    unfold pX pY pZ
    rw [if_neg hz, if_neg hz, decide_eq_false hz]
    have e1 : tm p t.1 (tm p (pw p t.2.2 (p - 2)) (pw p t.2.2 (p - 2))) = X := by
      refine ph_inj (tm_lt hp) ha.lt.x ?_
      rw [ph_tm, ph_tm, h2]
      generalize ph p (pw p t.2.2 (p - 2)) = i at hi ⊢
      grind
    have e2 : tm p t.2.1 (tm p (tm p (pw p t.2.2 (p - 2)) (pw p t.2.2 (p - 2))) (pw p t.2.2 (p - 2))) = Y := by
      refine ph_inj (tm_lt hp) ha.lt.y ?_
      rw [ph_tm, ph_tm, ph_tm, h3]
      generalize ph p (pw p t.2.2 (p - 2)) = i at hi ⊢
      generalize ph p t.2.2 = z at *
      have : z * i * (z * i) * (z * i) = 1 := by rw [hi]; grind
      grind
    rw [e1, e2]
  · have hz := h.zr rfl
    unfold pX pY pZ
    rw [if_pos hz, if_pos hz, decide_eq_true hz]
    exact (ha.zr rfl).symm
end
end Rg
end Go.Proofs.Ytjmbgchoioepjaa
end
section
namespace Go.Proofs.Ytjmbgchoioepjaa
open Go.RowKit
namespace Rg
open NT
theorem dA_same {p : Nat} {a : P3} (hz : a.2.2 = false) (h : ¬ a = (a.1, mi p 0 a.2.1, a.2.2)) : dA p a a = (d3X p (sl1 p a.1 a.2.1) a.1 a.1, d3Y p (sl1 p a.1 a.2.1) a.1 a.1 a.2.1, false) := by
  unfold dA dS
  rw [if_neg (by rw [hz]; decide), if_neg (by rw [hz]; decide), if_neg h, if_pos rfl]
theorem dA_neg {p : Nat} {a b : P3} (hz : a.2.2 = false) (hy : b.2.2 = false) (h : a = (b.1, mi p 0 b.2.1, b.2.2)) : dA p a b = (0, 0, true) := by
  unfold dA
  rw [if_neg (by rw [hz]; decide), if_neg (by rw [hy]; decide), if_pos h]
theorem dA_else {p : Nat} {a b : P3} (hz : a.2.2 = false) (hy : b.2.2 = false) (h : ¬ a = (b.1, mi p 0 b.2.1, b.2.2)) (hn : ¬ a = b) : dA p a b = (d3X p (sl2 p a.1 a.2.1 b.1 b.2.1) a.1 b.1, d3Y p (sl2 p a.1 a.2.1 b.1 b.2.1) a.1 b.1 a.2.1, false) := by
  unfold dA dS
  rw [if_neg (by rw [hz]; decide), if_neg (by rw [hy]; decide), if_neg h, if_neg hn]
section
variable {p : Nat} [NeZero p]
theorem ph_mi0 (b : Nat) (hb : b < p) : ph p (mi p 0 b) = - ph p b := by
  rw [ph_mi 0 b hb, ph_zero]
  grind
/-- What a sum is, in the field. -/
theorem sum_on (x1 y1 x2 y2 m x3 : Fin p) (c1 : y1 * y1 = x1 * x1 * x1 + x1) (hm : m * (x2 - x1) = y2 - y1) (c2 : y2 * y2 = x2 * x2 * x2 + x2) (hne : x2 - x1 ≠ 0) (hq : Prm p) (h3 : x3 = m * m - x1 - x2) : (m * (x1 - x3) - y1) * (m * (x1 - x3) - y1) = x3 * x3 * x3 + x3 := by
  refine fp_cancel hq hne ?_
  have e : y2 = y1 + m * (x2 - x1) := by grind
  subst e h3
  grind
theorem twice_on (x1 y1 m x3 : Fin p) (c1 : y1 * y1 = x1 * x1 * x1 + x1) (hm : m * (y1 + y1) = 3 * (x1 * x1) + 1) (h3 : x3 = m * m - x1 - x1) : (m * (x1 - x3) - y1) * (m * (x1 - x3) - y1) = x3 * x3 * x3 + x3 := by
  subst h3
  grind
theorem on_zero' (hp : Pr p) : On p (0, 0, true) := ⟨⟨zero_lt hp, zero_lt hp⟩, fun _ => rfl, fun h => (by cases h)⟩
theorem ph_d3X {m x y : Nat} (hx : x < p) (hy : y < p) : ph p (d3X p m x y) = ph p m * ph p m - ph p x - ph p y := by
  unfold d3X
  rw [ph_mi _ _ hy, ph_mi _ _ hx, ph_tm]
theorem ph_d3Y (hp : Pr p) {m x x' y : Nat} (hy : y < p) : ph p (d3Y p m x x' y) = ph p m * (ph p x - ph p (d3X p m x x')) - ph p y := by
  unfold d3Y
  rw [ph_mi _ _ hy, ph_tm, ph_mi _ (d3X p m x x') (mi_lt hp)]
theorem neg_of (hp : Pr p) {a : P3} (ha : On p a) (h : ph p a.2.1 + ph p a.2.1 = 0) : a = (a.1, mi p 0 a.2.1, a.2.2) := by
  have e : a.2.1 = mi p 0 a.2.1 := by
    refine ph_inj ha.lt.y (mi_lt hp) ?_
    rw [ph_mi0 _ ha.lt.y]
    grind
  rw [← e]
/-- A point and itself. -/
theorem tw_rep (hp : Pr p) (hq : Prm p) {t : T3} {a : P3} (h : Rep p t a) (ha : On p a) : Rep p (twT p t) (dA p a a) ∧ On p (dA p a a) := by
  have hl := tw_lt hp t
  by_cases hz : a.2.2 = true
  · have e : dA p a a = a := by unfold dA; rw [if_pos hz]
    rw [e]
    refine ⟨⟨hl, fun _ => ?_, fun h' => (by rw [hz] at h'; cases h')⟩, ha⟩
    have h0 := h.zr hz
    unfold twT
    simp only [h0]
    unfold tm
    simp
  · have hz : a.2.2 = false := by simpa using hz
    obtain ⟨h1, h2, h3⟩ := h.nz hz
    have hc := ha.cv hz
    by_cases hn : a = (a.1, mi p 0 a.2.1, a.2.2)
    · rw [dA_neg hz hz hn]
      have e : ph p a.2.1 + ph p a.2.1 = 0 := by
        have e : a.2.1 = mi p 0 a.2.1 := congrArg (fun q : P3 => q.2.1) hn
        have e2 := congrArg (ph p) e
        rw [ph_mi0 _ ha.lt.y] at e2
        generalize ph p a.2.1 = y at e2
        have : y + y = y + -y := by rw [← e2]
        grind
      refine ⟨⟨hl, fun _ => ?_, fun h' => (by cases h')⟩, on_zero' hp⟩
      refine (ph_eq0 hl.z).1 ?_
      unfold twT
      rw [ph_tm, ph_tm, h3, ph_2]
      grind
    · have hy : ph p (pl p a.2.1 a.2.1) ≠ 0 := fun e => hn (neg_of hp ha (by rw [ph_pl] at e; exact e))
      have hi := ph_inv hq (by have := hp.lo; omega) hy
      rw [ph_pl] at hy hi
      rw [dA_same hz hn]
      have em : ph p (sl1 p a.1 a.2.1) * (ph p a.2.1 + ph p a.2.1) = 3 * (ph p a.1 * ph p a.1) + 1 := by
        unfold sl1
        rw [ph_tm, ph_pl, ph_pl, ph_pl, ph_tm, ph_one]
        generalize ph p (pw p (pl p a.2.1 a.2.1) (p - 2)) = i at hi ⊢
        grind
      have eX := ph_d3X (m := sl1 p a.1 a.2.1) ha.lt.x ha.lt.x
      have eY := ph_d3Y hp (m := sl1 p a.1 a.2.1) (x := a.1) (x' := a.1) ha.lt.y
      rw [eX] at eY
      have eR : ph p (tR p t.1 t.2.2) = 3 * (ph p t.1 * ph p t.1) + ph p t.2.2 * ph p t.2.2 * (ph p t.2.2 * ph p t.2.2) := by
        unfold tR
        rw [ph_pl, ph_tm, ph_tm, ph_tm, ph_tm, ph_3]
      have eM : ph p (tM p t.1 t.2.1) = 4 * (ph p t.1 * (ph p t.2.1 * ph p t.2.1)) := by
        unfold tM
        rw [ph_tm, ph_tm, ph_tm, ph_4]
      have fZ : ph p (twT p t).2.2 = 2 * (ph p t.2.1 * ph p t.2.2) := by
        unfold twT
        rw [ph_tm, ph_tm, ph_2]
      have fX : ph p (twT p t).1 = ph p (tR p t.1 t.2.2) * ph p (tR p t.1 t.2.2) - (ph p (tM p t.1 t.2.1) + ph p (tM p t.1 t.2.1)) := by
        show ph p (tX p t.1 t.2.1 t.2.2) = _
        unfold tX
        rw [ph_mi _ _ (pl_lt hp), ph_tm, ph_pl]
      have fY : ph p (twT p t).2.1 = ph p (tR p t.1 t.2.2) * (ph p (tM p t.1 t.2.1) - ph p (twT p t).1) - 8 * (ph p t.2.1 * ph p t.2.1 * (ph p t.2.1 * ph p t.2.1)) := by
        show ph p (tY p t.1 t.2.1 t.2.2) = _
        unfold tY
        rw [ph_mi _ _ (tm_lt hp), ph_tm, ph_mi _ (tX p t.1 t.2.1 t.2.2) (mi_lt hp), ph_tm, ph_tm, ph_tm, ph_8]
        rfl
      rw [fX] at fY
      rw [eR, eM] at fX fY
      refine ⟨⟨hl, fun h' => (by cases h'), fun _ => ⟨?_, ?_, ?_⟩⟩, ⟨⟨mi_lt hp, mi_lt hp⟩, fun h' => (by cases h'), fun _ => ?_⟩⟩
      · rw [fZ, h3]
        have := fp_ne hq hy (fp_ne hq h1 (fp_ne hq h1 (fp_ne hq h1 h1)))
        intro e
        apply this
        grind
      · rw [fX, fZ, eX]
        generalize ph p (sl1 p a.1 a.2.1) = m at em ⊢
        generalize ph p t.1 = x at *
        generalize ph p t.2.1 = y at *
        generalize ph p t.2.2 = z at *
        generalize ph p a.1 = X at *
        generalize ph p a.2.1 = Y at *
        clear hi h fX fY fZ eX eY eR eM
        subst h2 h3
        grind
      · rw [fY, fZ, eY]
        generalize ph p (sl1 p a.1 a.2.1) = m at em ⊢
        generalize ph p t.1 = x at *
        generalize ph p t.2.1 = y at *
        generalize ph p t.2.2 = z at *
        generalize ph p a.1 = X at *
        generalize ph p a.2.1 = Y at *
        clear hi h fX fY fZ eX eY eR eM
        subst h2 h3
        grind
      · rw [eY, eX]
        exact twice_on _ _ _ _ hc em rfl
end
end Rg
end Go.Proofs.Ytjmbgchoioepjaa
end
