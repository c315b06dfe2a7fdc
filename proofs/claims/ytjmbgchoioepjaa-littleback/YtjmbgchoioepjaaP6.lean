/- Texts of the proof, joined. -/
import Derived.Test.YtjmbgchoioepjaaP5
import Derived.WalkKit
section
namespace Go.Proofs.Ytjmbgchoioepjaa
open Go.RowKit
namespace Rg
abbrev E2 : Type := Nat × Nat
abbrev lc (a : E2) : List Value := l2 a.1 a.2
structure Lt2 (p : Nat) (a : E2) : Prop where
  x : a.1 < p
  y : a.2 < p
def t2 (p a b c d : Nat) : Nat := (a * b + c * d) % p
theorem t2_lt {p a b c d : Nat} (hp : Pr p) : t2 p a b c d < p := Nat.mod_lt _ (zero_lt hp)
/-- Products and powers of numbers of two parts. -/
def pd (p : Nat) (a b : E2) : E2 := (t2 p a.1 b.1 (mi p 0 a.2) b.2, t2 p a.1 b.2 a.2 b.1)
theorem pd_lt {p : Nat} (hp : Pr p) (a b : E2) : Lt2 p (pd p a b) := ⟨t2_lt hp, t2_lt hp⟩
def rsf (p : Nat) : Nat → E2 → E2 → Nat → E2
  | 0, all, _, _ => all
  | f + 1, all, a, n => if n = 0 then all else rsf p f (if n % 2 = 1 then pd p all a else all) (pd p a a) (n / 2)
def rs (p : Nat) (all a : E2) (n : Nat) : E2 := rsf p 64 all a n
theorem rsf_up (p : Nat) : ∀ (f : Nat) (all a : E2) (n : Nat), n < 2 ^ f → rsf p f all a n = rsf p (f + 1) all a n
  | 0, all, a, n, h => by
    have : n = 0 := by omega
    subst this
    rfl
  | f + 1, all, a, n, h => by
    rw [rsf, rsf]
    split
    · rfl
    · exact rsf_up p f _ _ (n / 2) (by rw [Nat.pow_succ] at h; omega)
theorem rs_zero (p : Nat) (all a : E2) : rs p all a 0 = all := rfl
theorem rs_odd (p : Nat) (all a : E2) (n : Nat) (hn : n < 18446744073709551616) (h : n % 2 = 1) : rs p (pd p all a) (pd p a a) (n / 2) = rs p all a n := by
  have e := rsf_up p 63 (pd p all a) (pd p a a) (n / 2) (by rw [show 2 ^ 63 = 9223372036854775808 by decide]; omega)
  unfold rs
  rw [← e]
  have : rsf p 64 all a n = if n = 0 then all else rsf p 63 (if n % 2 = 1 then pd p all a else all) (pd p a a) (n / 2) := rfl
  rw [this, if_neg (by omega), if_pos h]
theorem rs_even (p : Nat) (all a : E2) (n : Nat) (hn : n < 18446744073709551616) (h : ¬ n % 2 = 1) (h0 : 0 < n) : rs p all (pd p a a) (n / 2) = rs p all a n := by
  have e := rsf_up p 63 all (pd p a a) (n / 2) (by rw [show 2 ^ 63 = 9223372036854775808 by decide]; omega)
  unfold rs
  rw [← e]
  have : rsf p 64 all a n = if n = 0 then all else rsf p 63 (if n % 2 = 1 then pd p all a else all) (pd p a a) (n / 2) := rfl
  rw [this, if_neg (by omega), if_neg h]
/-- Lines. -/
def lw (p : Nat) (t : T3) (nz ri X Y : Nat) : E2 := (t2 p ri (pl p (tm p X (tm p t.2.2 t.2.2)) t.1) 1 (mi p 0 (tm p 2 (tm p t.2.1 t.2.1))), tm p Y (tm p nz (tm p t.2.2 t.2.2)))
def lj (p sz X Y ri X' Y' : Nat) : E2 := (t2 p ri (pl p X' X) (mi p 0 Y) sz, tm p Y' sz)
def sx (p : Nat) (t : T3) (X : Nat) : Bool := decide (tm p X (tm p t.2.2 t.2.2) = t.1)
/-- A step of the walk. -/
def f1 (p : Nat) (s : E2 × T3) (X' Y' : Nat) : E2 := pd p (pd p s.1 s.1) (lw p s.2 (twT p s.2).2.2 (tR p s.2.1 s.2.2.2) X' Y')
def st (p X Y X' Y' : Nat) (Z : Bool) (bit : Nat) (s : E2 × T3) : E2 × T3 :=
  if bit = 0 ∨ sx p (twT p s.2) X = true then (f1 p s X' Y', twT p s.2)
  else (pd p (f1 p s X' Y') (lj p (jnT p (twT p s.2) X Y Z).2.2 X Y (jnR p (twT p s.2) X Y Z) X' Y'), jnT p (twT p s.2) X Y Z)
def wsm (p r X Y X' Y' : Nat) (Z : Bool) : Nat → E2 × T3
  | 0 => ((1, 0), tO X Y Z)
  | m + 1 => st p X Y X' Y' Z (r / 2 ^ (bl r - 1 - 1 - m) % 2) (wsm p r X Y X' Y' Z m)
def wk (p r X Y X' Y' : Nat) (Z : Bool) : E2 := (wsm p r X Y X' Y' Z (bl r - 1)).1
structure LtS (p : Nat) (s : E2 × T3) : Prop where
  f : Lt2 p s.1
  t : Lt3 p s.2
theorem st_lt {p : Nat} (hp : Pr p) {X Y X' Y' : Nat} {Z : Bool} (hX : X < p) (hY : Y < p) (bit : Nat) (s : E2 × T3) : LtS p (st p X Y X' Y' Z bit s) := by
  unfold st
  split
  · exact ⟨pd_lt hp _ _, tw_lt hp _⟩
  · exact ⟨pd_lt hp _ _, jn_lt hp (tw_lt hp _) hX hY⟩
theorem ws_lt {p : Nat} (hp : Pr p) {r X Y X' Y' : Nat} {Z : Bool} (hX : X < p) (hY : Y < p) : ∀ m, LtS p (wsm p r X Y X' Y' Z m)
  | 0 => ⟨⟨one_lt hp, zero_lt hp⟩, tO_lt hp hX hY⟩
  | _ + 1 => st_lt hp hX hY _ _
/-- The last power. -/
def ls (p c : Nat) (f : E2) : E2 := rs p (1, 0) (pd p (pd p (f.1, mi p 0 f.2) (f.1, mi p 0 f.2)) (pw p (t2 p f.1 f.1 f.2 f.2) (p - 2), 0)) c
/-- The number of two points. -/
def pr (p r c X Y X' Y' : Nat) (Z Z' : Bool) : E2 := if Z = true ∨ Z' = true then (1, 0) else ls p c (wk p r X Y X' Y' Z)
theorem add_lo (m n : Nat) (w : World) : (callFunc 84 #[U (m % 18446744073709551616), U (n % 18446744073709551616), U 0]).run Try.prog w = .ok (.value (.tuple #[U ((m + n) % 18446744073709551616), U ((m % 18446744073709551616 + n % 18446744073709551616) / 18446744073709551616)])) w := by
  have h := add64' ((m % 18446744073709551616 : Nat) : Int) ((n % 18446744073709551616 : Nat) : Int) 0 (by omega) (by omega) (by omega) (by omega) w
  have e1 : addLo ((m % 18446744073709551616 : Nat) : Int) ((n % 18446744073709551616 : Nat) : Int) 0 = (((m + n) % 18446744073709551616 : Nat) : Int) := by unfold addLo; omega
  have e2 : addHi ((m % 18446744073709551616 : Nat) : Int) ((n % 18446744073709551616 : Nat) : Int) 0 = (((m % 18446744073709551616 + n % 18446744073709551616) / 18446744073709551616 : Nat) : Int) := by unfold addHi; omega
  rw [e1, e2] at h
  exact h
theorem add_hi (m n : Nat) (hs : m + n < 18446744073709551616 * 18446744073709551616) (w : World) : (callFunc 84 #[U (m / 18446744073709551616), U (n / 18446744073709551616), U ((m % 18446744073709551616 + n % 18446744073709551616) / 18446744073709551616)]).run Try.prog w = .ok (.value (.tuple #[U ((m + n) / 18446744073709551616), U 0])) w := by
  have h := add64' ((m / 18446744073709551616 : Nat) : Int) ((n / 18446744073709551616 : Nat) : Int) (((m % 18446744073709551616 + n % 18446744073709551616) / 18446744073709551616 : Nat) : Int) (by omega) (by omega) (by omega) (by omega) w
  have e1 : addLo ((m / 18446744073709551616 : Nat) : Int) ((n / 18446744073709551616 : Nat) : Int) (((m % 18446744073709551616 + n % 18446744073709551616) / 18446744073709551616 : Nat) : Int) = (((m + n) / 18446744073709551616 : Nat) : Int) := by unfold addLo; omega
  have e2 : addHi ((m / 18446744073709551616 : Nat) : Int) ((n / 18446744073709551616 : Nat) : Int) (((m % 18446744073709551616 + n % 18446744073709551616) / 18446744073709551616 : Nat) : Int) = ((0 : Nat) : Int) := by unfold addHi; omega
  rw [e1, e2] at h
  exact h
theorem sum_small {p a b c d : Nat} (hp : Pr p) (ha : a < p) (hb : b < p) (hc : c < p) (hd : d < p) : a * b + c * d < 18446744073709551616 * 18446744073709551616 := by
  have h1 : a * b ≤ 1152921504606846976 * 1152921504606846976 := Nat.mul_le_mul (by have := hp.hi; omega) (by have := hp.hi; omega)
  have h2 : c * d ≤ 1152921504606846976 * 1152921504606846976 := Nat.mul_le_mul (by have := hp.hi; omega) (by have := hp.hi; omega)
  omega
theorem Mm.pick {w : World} {l : List (Nat × List Value)} (h : Mm w l) (js : List Nat) {l' : List (Nat × List Value)} (e : js.map (fun i => l[i]?) = l'.map some) (hn : js.Pairwise (· ≠ ·)) : Mm w l' := by
  have hpw := List.pairwise_iff_getElem.1 h.nd
  have hlen : js.length = l'.length := by
    have := congrArg List.length e
    simpa using this
  have at_ : ∀ (k : Nat) (hk : k < l'.length), l[js[k]'(by omega)]? = some l'[k] := fun k hk => by
    have h2 : (js.map (fun i => l[i]?))[k]? = (l'.map some)[k]? := by rw [e]
    rw [List.getElem?_map, List.getElem?_map, List.getElem?_eq_getElem (show k < js.length by omega), List.getElem?_eq_getElem hk] at h2
    simpa using h2
  refine ⟨fun p hp => ?_, List.pairwise_iff_getElem.2 fun i j hi hj hij => ?_⟩
  · obtain ⟨k, hk, ek⟩ := List.getElem_of_mem hp
    have := at_ k hk
    rw [ek] at this
    exact h.blk p (List.mem_of_getElem? this)
  · have h1 := at_ i hi
    have h2 := at_ j hj
    have hne : js[i]'(by omega) ≠ js[j]'(by omega) := (List.pairwise_iff_getElem.1 hn) i j (by omega) (by omega) hij
    obtain ⟨q1, e1⟩ := List.getElem?_eq_some_iff.1 h1
    obtain ⟨q2, e2⟩ := List.getElem?_eq_some_iff.1 h2
    rw [← e1, ← e2]
    rcases Nat.lt_or_gt_of_ne hne with hl | hl
    · exact hpw _ _ q1 q2 hl
    · exact (hpw _ _ q2 q1 hl).symm
theorem call63 : ∀ args w, (callFunc 63 args).run Try.prog w = .ok (.enter 63 args) w := by intro args w; go_simp
theorem call65 : ∀ args w, (callFunc 65 args).run Try.prog w = .ok (.enter 65 args) w := by intro args w; go_simp
theorem call78 : ∀ args w, (callFunc 78 args).run Try.prog w = .ok (.enter 78 args) w := by intro args w; go_simp
theorem call79 : ∀ args w, (callFunc 79 args).run Try.prog w = .ok (.enter 79 args) w := by intro args w; go_simp
theorem call80 : ∀ args w, (callFunc 80 args).run Try.prog w = .ok (.enter 80 args) w := by intro args w; go_simp
theorem call81 : ∀ args w, (callFunc 81 args).run Try.prog w = .ok (.enter 81 args) w := by intro args w; go_simp
section
variable {p r c gx gy : Nat}
set_option maxRecDepth 100000 in
theorem twoTimes_any (hp : Pr p) (a b m d : Nat) (ha : a < p) (hb : b < p) (hm0 : m < p) (hd : d < p) (w : World) :
    Calls Try.prog 78 #[.agg (kd p r c gx gy).toArray, U a, U b, U m, U d] w fun e w' => e = .returned (U (t2 p a b m d)) ∧ Below w.heap.size w w' := by
  have H0 : Hid (_ ∧ _) := ⟨Mm.nil w, Below.refl w.heap.size w⟩
  go_enter Try.func78, Try.ntmps78
  refine wp_seq ?_
  refine walk_seqA 2 [.made (kd p r c gx gy) 72, .quiet (U 0)] (sB H0) ?ho1 ?he1
  case ho1 => exact ak (fun γ => ⟨rfl, fun w' => ex_boxT rfl rfl⟩) (ak (fun _ => ⟨rfl, fun _ _ => rfl⟩) trivial)
  intro γ w1 l hM hl
  have H1 : Hid (Mm w1 [(γ 0, kd p r c gx gy)] ∧ _) := growB H0 hM (Nat.le_refl _) hl [0] rfl (by decide)
  have o1_0 := ownB H0 hM (Nat.le_refl _) hl (i := 0) rfl
  clear hM hl l
  generalize γ 0 = γ1_0 at H1 o1_0 ⊢
  clear γ
  refine rest0 rfl (then_normal (wp_seq ?_))
  refine walk_seqB 8 [.quiet (U a), .quiet (U b), .call (.tuple #[U (a * b / 18446744073709551616), U (a * b % 18446744073709551616)]), .quiet (.tuple #[U (a * b / 18446744073709551616), U (a * b % 18446744073709551616)]), .quiet (U (a * b / 18446744073709551616)), .quiet (U (a * b % 18446744073709551616)), .quiet (U (a * b / 18446744073709551616)), .quiet (U (a * b % 18446744073709551616))] H1 ?ho2 ?he2
  case ho2 => exact ak (fun _ => ⟨rfl, fun _ _ => rfl⟩) (ak (fun _ => ⟨rfl, fun _ _ => rfl⟩) (ak (fun γ => ⟨rfl, fun w' h => ⟨75, #[U a, U b], exec_call rfl call75 rfl (mpn rfl), mul_in a b (by have := hp.hi; omega) (by have := hp.hi; omega) w'⟩⟩) (ak (fun _ => ⟨rfl, fun _ _ => rfl⟩) (ak (by refine fun γ => ⟨rfl, fun w' h => ?_⟩; clear h; go_simp) (ak (by refine fun γ => ⟨rfl, fun w' h => ?_⟩; clear h; go_simp) (ak (fun _ => ⟨rfl, fun _ _ => rfl⟩) (ak (fun _ => ⟨rfl, fun _ _ => rfl⟩) trivial)))))))
  intro _ w2 H2
  clear H1
  refine rest0 rfl (then_normal (wp_seq ?_))
  refine walk_seqB 8 [.quiet (U m), .quiet (U d), .call (.tuple #[U (m * d / 18446744073709551616), U (m * d % 18446744073709551616)]), .quiet (.tuple #[U (m * d / 18446744073709551616), U (m * d % 18446744073709551616)]), .quiet (U (m * d / 18446744073709551616)), .quiet (U (m * d % 18446744073709551616)), .quiet (U (m * d / 18446744073709551616)), .quiet (U (m * d % 18446744073709551616))] H2 ?ho3 ?he3
  case ho3 => exact ak (fun _ => ⟨rfl, fun _ _ => rfl⟩) (ak (fun _ => ⟨rfl, fun _ _ => rfl⟩) (ak (fun γ => ⟨rfl, fun w' h => ⟨75, #[U m, U d], exec_call rfl call75 rfl (mpn rfl), mul_in m d (by have := hp.hi; omega) (by have := hp.hi; omega) w'⟩⟩) (ak (fun _ => ⟨rfl, fun _ _ => rfl⟩) (ak (by refine fun γ => ⟨rfl, fun w' h => ?_⟩; clear h; go_simp) (ak (by refine fun γ => ⟨rfl, fun w' h => ?_⟩; clear h; go_simp) (ak (fun _ => ⟨rfl, fun _ _ => rfl⟩) (ak (fun _ => ⟨rfl, fun _ _ => rfl⟩) trivial)))))))
  intro _ w3 H3
  clear H2
  refine rest0 rfl (then_normal (wp_seq ?_))
  refine walk_seqB 6 [.quiet (U (a * b % 18446744073709551616)), .quiet (U (m * d % 18446744073709551616)), .quiet (.tuple #[U ((a * b + m * d) % 18446744073709551616), U ((a * b % 18446744073709551616 + m * d % 18446744073709551616) / 18446744073709551616)]), .quiet (.tuple #[U ((a * b + m * d) % 18446744073709551616), U ((a * b % 18446744073709551616 + m * d % 18446744073709551616) / 18446744073709551616)]), .quiet (U ((a * b + m * d) % 18446744073709551616)), .quiet (U ((a * b % 18446744073709551616 + m * d % 18446744073709551616) / 18446744073709551616))] H3 ?ho4 ?he4
  case ho4 => exact ak (fun _ => ⟨rfl, fun _ _ => rfl⟩) (ak (fun _ => ⟨rfl, fun _ _ => rfl⟩) (ak (fun γ => ⟨rfl, fun w' h => ex_extern rfl (add_lo (a * b) (m * d) w') rfl (mpn rfl)⟩) (ak (fun _ => ⟨rfl, fun _ _ => rfl⟩) (ak (by refine fun γ => ⟨rfl, fun w' h => ?_⟩; clear h; go_simp) (ak (by refine fun γ => ⟨rfl, fun w' h => ?_⟩; clear h; go_simp) trivial)))))
  intro _ w4 H4
  clear H3
  refine rest_at (l := [6, 7]) rfl ?_
  refine rest_set (d := 12) rfl rfl rfl rfl ?_
  simp only [Act.put, sa, sz, ss]
  refine rest_set (d := 15) rfl rfl rfl rfl ?_
  simp only [Act.put, sa, sz, ss]
  refine rest_nil (then_normal (wp_seq ?_))
  refine walk_seqB 7 [.quiet (U (a * b / 18446744073709551616)), .quiet (U (m * d / 18446744073709551616)), .quiet (U ((a * b % 18446744073709551616 + m * d % 18446744073709551616) / 18446744073709551616)), .quiet (.tuple #[U ((a * b + m * d) / 18446744073709551616), U 0]), .quiet (.tuple #[U ((a * b + m * d) / 18446744073709551616), U 0]), .quiet (U ((a * b + m * d) / 18446744073709551616)), .quiet (U 0)] H4 ?ho5 ?he5
  case ho5 => exact ak (fun _ => ⟨rfl, fun _ _ => rfl⟩) (ak (fun _ => ⟨rfl, fun _ _ => rfl⟩) (ak (fun _ => ⟨rfl, fun _ _ => rfl⟩) (ak (fun γ => ⟨rfl, fun w' h => ex_extern rfl (add_hi (a * b) (m * d) (sum_small hp ha hb hm0 hd) w') rfl (mpn rfl)⟩) (ak (fun _ => ⟨rfl, fun _ _ => rfl⟩) (ak (by refine fun γ => ⟨rfl, fun w' h => ?_⟩; clear h; go_simp) (ak (by refine fun γ => ⟨rfl, fun w' h => ?_⟩; clear h; go_simp) trivial))))))
  intro _ w5 H5
  clear H4
  refine rest_at (l := [7]) rfl ?_
  refine rest_set (d := 11) rfl rfl rfl rfl ?_
  simp only [Act.put, sa, sz, ss]
  refine rest_nil (then_normal (wp_seq ?_))
  refine walk_seqB 6 [.quiet (U ((a * b + m * d) / 18446744073709551616)), .quiet (U ((a * b + m * d) % 18446744073709551616)), .quiet (PT γ1_0 0), .quiet (U p), .call (U ((a * b + m * d) % p)), .quiet (U ((a * b + m * d) % p))] H5 ?ho6 ?he6
  case ho6 => exact ak (fun _ => ⟨rfl, fun _ _ => rfl⟩) (ak (fun _ => ⟨rfl, fun _ _ => rfl⟩) (ak (by refine fun γ => ⟨rfl, fun w' h => ?_⟩; clear h; go_simp) (ak (fun γ => ⟨rfl, fun w' h => ex_loadC h 0 rfl rfl rfl Try.isAgg23 rfl⟩) (ak (fun γ => ⟨rfl, fun w' h => ⟨76, #[U ((a * b + m * d) / 18446744073709551616), U ((a * b + m * d) % 18446744073709551616), U p], exec_call rfl call76 rfl (mpn rfl), rem_in hp (a * b + m * d) w'⟩⟩) (ak (fun _ => ⟨rfl, fun _ _ => rfl⟩) trivial)))))
  intro _ w6 H6
  clear H5
  refine rest0 rfl (then_normal (wp_ret ?_))
  repeat (first | refine then_ret ?_ | refine block_ret ?_)
  refine bodyPost_ret (v := U ((a * b + m * d) % p)) (by simp [results, Try.results78, go_sem, *]) rfl ?_
  exact ⟨rfl, H6.out.2⟩
set_option maxHeartbeats 1000000 in
set_option maxRecDepth 100000 in
theorem product_any (hp : Pr p) (a b : E2) (ha : Lt2 p a) (hb : Lt2 p b) (w : World) :
    Calls Try.prog 63 #[.agg (kd p r c gx gy).toArray, .agg (l2 a.1 a.2).toArray, .agg (l2 b.1 b.2).toArray] w fun e w' => e = .returned (V (lc (pd p a b))) ∧ Below w.heap.size w w' := by
  have H0 : Hid (_ ∧ _) := ⟨Mm.nil w, Below.refl w.heap.size w⟩
  go_enter Try.func63, Try.ntmps63
  refine wp_seq ?_
  refine walk_seqA 4 [.made (kd p r c gx gy) 72, .made (l2 a.1 a.2) 49, .made (l2 b.1 b.2) 49, .made (l2 0 0) 49] (sB H0) ?ho1 ?he1
  case ho1 => exact ak (fun γ => ⟨rfl, fun w' => ex_boxT rfl rfl⟩) (ak (fun γ => ⟨rfl, fun w' => ex_boxT rfl rfl⟩) (ak (fun γ => ⟨rfl, fun w' => ex_boxT rfl rfl⟩) (ak (fun γ => ⟨rfl, fun w' => ex_made49 rfl⟩) trivial)))
  intro γ w1 l hM hl
  have H1 : Hid (Mm w1 [(γ 0, kd p r c gx gy), (γ 1, l2 a.1 a.2), (γ 2, l2 b.1 b.2), (γ 3, l2 0 0)] ∧ _) := growB H0 hM (Nat.le_refl _) hl [0, 1, 2, 3] rfl (by decide)
  have o1_0 := ownB H0 hM (Nat.le_refl _) hl (i := 0) rfl
  have o1_1 := ownB H0 hM (Nat.le_refl _) hl (i := 1) rfl
  have o1_2 := ownB H0 hM (Nat.le_refl _) hl (i := 2) rfl
  have o1_3 := ownB H0 hM (Nat.le_refl _) hl (i := 3) rfl
  clear hM hl l
  generalize γ 0 = γ1_0 at H1 o1_0 ⊢
  generalize γ 1 = γ1_1 at H1 o1_1 ⊢
  generalize γ 2 = γ1_2 at H1 o1_2 ⊢
  generalize γ 3 = γ1_3 at H1 o1_3 ⊢
  clear γ
  refine rest0 rfl (then_normal (wp_seq ?_))
  refine walk_anyB 23 [.quiet (.agg (kd p r c gx gy).toArray), .quiet (PT γ1_1 0), .quiet (U a.1), .quiet (PT γ1_2 0), .quiet (U b.1), .quiet (.agg (kd p r c gx gy).toArray), .quiet (PT γ1_1 1), .quiet (U a.2), .call (U (mi p 0 a.2)), .quiet (PT γ1_2 1), .quiet (U b.2), .call (U (t2 p a.1 b.1 (mi p 0 a.2) b.2)), .quiet (.agg (kd p r c gx gy).toArray), .quiet (PT γ1_1 0), .quiet (U a.1), .quiet (PT γ1_2 1), .quiet (U b.2), .quiet (PT γ1_1 1), .quiet (U a.2), .quiet (PT γ1_2 0), .quiet (U b.1), .call (U (t2 p a.1 b.2 a.2 b.1)), .quiet (.agg (l2 (t2 p a.1 b.1 (mi p 0 a.2) b.2) (t2 p a.1 b.2 a.2 b.1)).toArray)] H1 ?ho2 ?he2
  case ho2 => exact ak (fun γ => ⟨rfl, fun w' h => ex_loadT h 0 rfl rfl rfl Try.isAgg72 Try.sizeOf72 rfl rfl⟩) (ak (by refine fun γ => ⟨rfl, fun w' h => ?_⟩; clear h; go_simp) (ak (fun γ => ⟨rfl, fun w' h => ex_loadC h 1 rfl rfl rfl Try.isAgg23 rfl⟩) (ak (by refine fun γ => ⟨rfl, fun w' h => ?_⟩; clear h; go_simp) (ak (fun γ => ⟨rfl, fun w' h => ex_loadC h 2 rfl rfl rfl Try.isAgg23 rfl⟩) (ak (fun γ => ⟨rfl, fun w' h => ex_loadT h 0 rfl rfl rfl Try.isAgg72 Try.sizeOf72 rfl rfl⟩) (ak (by refine fun γ => ⟨rfl, fun w' h => ?_⟩; clear h; go_simp) (ak (fun γ => ⟨rfl, fun w' h => ex_loadC h 1 rfl rfl rfl Try.isAgg23 rfl⟩) (ak (fun γ => ⟨rfl, fun w' h => ⟨48, #[.agg (kd p r c gx gy).toArray, U 0, U a.2], exec_call rfl call48 rfl (mpn rfl), minus_any hp 0 a.2 (zero_lt hp) ha.y w'⟩⟩) (ak (by refine fun γ => ⟨rfl, fun w' h => ?_⟩; clear h; go_simp) (ak (fun γ => ⟨rfl, fun w' h => ex_loadC h 2 rfl rfl rfl Try.isAgg23 rfl⟩) (ak (fun γ => ⟨rfl, fun w' h => ⟨78, #[.agg (kd p r c gx gy).toArray, U a.1, U b.1, U (mi p 0 a.2), U b.2], exec_call rfl call78 rfl (mpn rfl), twoTimes_any hp a.1 b.1 (mi p 0 a.2) b.2 ha.x hb.x (mi_lt hp) hb.y w'⟩⟩) (ak (fun γ => ⟨rfl, fun w' h => ex_loadT h 0 rfl rfl rfl Try.isAgg72 Try.sizeOf72 rfl rfl⟩) (ak (by refine fun γ => ⟨rfl, fun w' h => ?_⟩; clear h; go_simp) (ak (fun γ => ⟨rfl, fun w' h => ex_loadC h 1 rfl rfl rfl Try.isAgg23 rfl⟩) (ak (by refine fun γ => ⟨rfl, fun w' h => ?_⟩; clear h; go_simp) (ak (fun γ => ⟨rfl, fun w' h => ex_loadC h 2 rfl rfl rfl Try.isAgg23 rfl⟩) (ak (by refine fun γ => ⟨rfl, fun w' h => ?_⟩; clear h; go_simp) (ak (fun γ => ⟨rfl, fun w' h => ex_loadC h 1 rfl rfl rfl Try.isAgg23 rfl⟩) (ak (by refine fun γ => ⟨rfl, fun w' h => ?_⟩; clear h; go_simp) (ak (fun γ => ⟨rfl, fun w' h => ex_loadC h 2 rfl rfl rfl Try.isAgg23 rfl⟩) (ak (fun γ => ⟨rfl, fun w' h => ⟨78, #[.agg (kd p r c gx gy).toArray, U a.1, U b.2, U a.2, U b.1], exec_call rfl call78 rfl (mpn rfl), twoTimes_any hp a.1 b.2 a.2 b.1 ha.x hb.y ha.y hb.x w'⟩⟩) (ak (fun γ => ⟨rfl, fun w' _ => ex_build49_01 rfl rfl rfl⟩) trivial))))))))))))))))))))))
  intro _ w2 H2
  clear H1
  refine rest_at (l := [23]) rfl ?_
  refine rest_store rfl rfl rfl (ex_storeT (vs := l2 (t2 p a.1 b.1 (mi p 0 a.2) b.2) (t2 p a.1 b.2 a.2 b.1)) H2.out.1 3 rfl rfl rfl rfl Try.sizeOf49 rfl (Nat.le_of_ble_eq_true rfl)) ?_
  have H3 : Hid (Mm (w2.setCells γ1_3 0 (l2 (t2 p a.1 b.1 (mi p 0 a.2) b.2) (t2 p a.1 b.2 a.2 b.1))) [(γ1_0, kd p r c gx gy), (γ1_1, l2 a.1 a.2), (γ1_2, l2 b.1 b.2), (γ1_3, l2 (t2 p a.1 b.1 (mi p 0 a.2) b.2) (t2 p a.1 b.2 a.2 b.1))] ∧ Below w.heap.size w (w2.setCells γ1_3 0 (l2 (t2 p a.1 b.1 (mi p 0 a.2) b.2) (t2 p a.1 b.2 a.2 b.1)))) := ⟨H2.out.1.put 3 (off := 0) (vs := l2 (t2 p a.1 b.1 (mi p 0 a.2) b.2) (t2 p a.1 b.2 a.2 b.1)) rfl (Nat.le_of_ble_eq_true rfl), below_setCells _ o1_3.out _ _ _ H2.out.2⟩
  clear H2
  generalize hgw : World.setCells _ _ _ _ = w3 at H3 ⊢
  clear hgw
  refine rest_nil (then_normal (wp_ret ?_))
  repeat (first | refine then_ret ?_ | refine block_ret ?_)
  have hf0 := var_T H3.out.1 3 rfl Try.isAgg49 Try.sizeOf49 rfl
  refine bodyPost_ret (v := .agg (l2 (t2 p a.1 b.1 (mi p 0 a.2) b.2) (t2 p a.1 b.2 a.2 b.1)).toArray) (by simp [results, Try.results63, asAddr, hf0]) rfl ?_
  exact ⟨rfl, H3.out.2⟩
set_option maxHeartbeats 1000000 in
set_option maxRecDepth 100000 in
theorem raised_any (hp : Pr p) (a : E2) (ha : Lt2 p a) (n : Nat) (hn : n < 18446744073709551616) (w : World) :
    Calls Try.prog 65 #[.agg (kd p r c gx gy).toArray, .agg (l2 a.1 a.2).toArray, U n] w fun e w' => e = .returned (V (lc (rs p (1, 0) a n))) ∧ Below w.heap.size w w' := by
  have H0 : Hid (_ ∧ _) := ⟨Mm.nil w, Below.refl w.heap.size w⟩
  go_enter Try.func65, Try.ntmps65
  refine wp_seq ?_
  refine walk_seqA 3 [.made (kd p r c gx gy) 72, .made (l2 a.1 a.2) 49, .made (l2 0 0) 49] (sB H0) ?ho1 ?he1
  case ho1 => exact ak (fun γ => ⟨rfl, fun w' => ex_boxT rfl rfl⟩) (ak (fun γ => ⟨rfl, fun w' => ex_boxT rfl rfl⟩) (ak (fun γ => ⟨rfl, fun w' => ex_made49 rfl⟩) trivial))
  intro γ w1 l hM hl
  have H1 : Hid (Mm w1 [(γ 0, kd p r c gx gy), (γ 1, l2 a.1 a.2), (γ 2, l2 0 0)] ∧ _) := growB H0 hM (Nat.le_refl _) hl [0, 1, 2] rfl (by decide)
  have o1_0 := ownB H0 hM (Nat.le_refl _) hl (i := 0) rfl
  have o1_1 := ownB H0 hM (Nat.le_refl _) hl (i := 1) rfl
  have o1_2 := ownB H0 hM (Nat.le_refl _) hl (i := 2) rfl
  clear hM hl l
  generalize γ 0 = γ1_0 at H1 o1_0 ⊢
  generalize γ 1 = γ1_1 at H1 o1_1 ⊢
  generalize γ 2 = γ1_2 at H1 o1_2 ⊢
  clear γ
  refine rest0 rfl (then_normal (wp_seq ?_))
  refine walk_seqA 3 [.quiet (.agg (l2 1 0).toArray), .made (l2 0 0) 49, .laid 1 (l2 0 0) (l2 1 0)] (sB H1) ?ho2 ?he2 (hL := ?hL2)
  case hL2 => exact ⟨⟨_, rfl⟩, trivial⟩
  case ho2 => exact ak (fun γ => ⟨rfl, fun w' _ => ex_build49_0 rfl rfl⟩) (ak (fun γ => ⟨rfl, fun w' => ex_made49 rfl⟩) (ak (fun γ => ⟨rfl, rfl, rfl, fun w' h => ex_laidT h rfl rfl Try.sizeOf49 rfl rfl rfl⟩) trivial))
  intro γ w2 l hM hl
  have H2 : Hid (Mm w2 [(γ 1, l2 1 0), (γ1_0, kd p r c gx gy), (γ1_1, l2 a.1 a.2), (γ1_2, l2 0 0)] ∧ _) := growB H1 hM (Nat.le_refl _) hl [1] rfl (by decide)
  have o2_1 := ownB H1 hM (Nat.le_refl _) hl (i := 1) rfl
  clear hM hl l H1
  generalize γ 1 = γ2_1 at H2 o2_1 ⊢
  clear γ
  refine rest0 rfl (then_normal (wp_seq (wp_block ?_)))
  refine loop_ghost (α := E2 × E2 × Nat) (fun z a' w' => ∃ s0 : Nat → Value, a' = ⟨#[.agg (kd p r c gx gy).toArray, .agg (l2 a.1 a.2).toArray, U z.2.2, PT γ1_0 0, PT γ1_1 0, undef, PT γ1_2 0, PT γ2_1 0, .agg (l2 1 0).toArray, s0 9, s0 10, s0 11, s0 12, s0 13, s0 14, s0 15, s0 16, s0 17, s0 18, s0 19, s0 20, s0 21, s0 22, s0 23, undef], []⟩ ∧ (Mm w' [(γ2_1, lc z.1), (γ1_0, kd p r c gx gy), (γ1_1, lc z.2.1), (γ1_2, l2 0 0)] ∧ Below w.heap.size w w') ∧ (Lt2 p z.1 ∧ Lt2 p z.2.1 ∧ z.2.2 < 18446744073709551616 ∧ rs p z.1 z.2.1 z.2.2 = rs p (1, 0) a n)) (fun z => z.2.2) ((1, 0), a, n) ?st0 ?rd0
  case st0 => exact ⟨(slotfn [undef, undef, undef, undef, undef, undef, undef, undef, undef, undef, undef, undef, undef, undef, undef, undef, undef, undef, undef, undef, undef, undef, undef, undef]), rfl, ⟨H2.out.1, H2.out.2⟩, ⟨⟨one_lt hp, zero_lt hp⟩, ha, hn, rfl⟩⟩
  intro z a' w3 hI
  obtain ⟨s0, rfl, hMB, hk0⟩ := hI
  have H3 : Hid (_ ∧ _) := hMB
  clear hMB H2
  by_cases hlt : 0 < z.2.2
  · have hrd : True := trivial
    clear hrd
    obtain ⟨hz1, hz2, hz3, hz4⟩ := hk0
    by_cases ho : z.2.2 % 2 = 1
    · have hrd : True := trivial
      clear hrd
      refine wp_seq (wp_seq ?_)
      refine walk_seqB 2 [.quiet (U z.2.2), .quiet (.bool true)] H3 ?ho3 ?he3
      case ho3 => exact ak (fun _ => ⟨rfl, fun _ _ => rfl⟩) (ak (fun γ => ⟨rfl, fun w' _ => ex_gtU rfl rfl rfl (decide_eq_true (hlt))⟩) trivial)
      intro _ w4 H4
      clear H3
      refine rest0 rfl (then_normal (wp_cond_true rfl ?_))
      refine wp_skip (then_normal ?_)
      refine wp_seq (wp_block ?_)
      refine wp_seq (wp_seq ?_)
      refine walk_seqB 3 [.quiet (U z.2.2), .quiet (U (z.2.2 % 2)), .quiet (.bool true)] H4 ?ho4 ?he4
      case ho4 => exact ak (fun _ => ⟨rfl, fun _ _ => rfl⟩) (ak (fun γ => ⟨rfl, fun w' _ => ex_and1 rfl (hz3) rfl rfl⟩) (ak (fun γ => ⟨rfl, fun w' _ => ex_eqU rfl rfl rfl (decide_eq_true (ho))⟩) trivial))
      intro _ w5 H5
      clear H4
      refine rest0 rfl (then_normal (wp_cond_true rfl ?_))
      refine walk_seqB 4 [.quiet (.agg (kd p r c gx gy).toArray), .quiet (.agg (lc z.1).toArray), .quiet (.agg (lc z.2.1).toArray), .call (.agg (l2 ((pd p z.1 z.2.1).1) ((pd p z.1 z.2.1).2)).toArray)] H5 ?ho5 ?he5
      case ho5 => exact ak (fun γ => ⟨rfl, fun w' h => ex_loadT h 1 rfl rfl rfl Try.isAgg72 Try.sizeOf72 rfl rfl⟩) (ak (fun γ => ⟨rfl, fun w' h => ex_loadT h 0 rfl rfl rfl Try.isAgg49 Try.sizeOf49 rfl rfl⟩) (ak (fun γ => ⟨rfl, fun w' h => ex_loadT h 2 rfl rfl rfl Try.isAgg49 Try.sizeOf49 rfl rfl⟩) (ak (fun γ => ⟨rfl, fun w' h => ⟨63, #[.agg (kd p r c gx gy).toArray, .agg (lc z.1).toArray, .agg (lc z.2.1).toArray], exec_call rfl call63 rfl (mpn rfl), product_any hp z.1 z.2.1 hz1 hz2 w'⟩⟩) trivial)))
      intro _ w6 H6
      clear H5
      refine rest_at (l := [4]) rfl ?_
      refine rest_store rfl rfl rfl (ex_storeT (vs := l2 ((pd p z.1 z.2.1).1) ((pd p z.1 z.2.1).2)) H6.out.1 0 rfl rfl rfl rfl Try.sizeOf49 rfl (Nat.le_of_ble_eq_true rfl)) ?_
      have H7 : Hid (Mm (w6.setCells γ2_1 0 (l2 ((pd p z.1 z.2.1).1) ((pd p z.1 z.2.1).2))) [(γ2_1, l2 ((pd p z.1 z.2.1).1) ((pd p z.1 z.2.1).2)), (γ1_0, kd p r c gx gy), (γ1_1, lc z.2.1), (γ1_2, l2 0 0)] ∧ Below w.heap.size w (w6.setCells γ2_1 0 (l2 ((pd p z.1 z.2.1).1) ((pd p z.1 z.2.1).2)))) := ⟨H6.out.1.put 0 (off := 0) (vs := l2 ((pd p z.1 z.2.1).1) ((pd p z.1 z.2.1).2)) rfl (Nat.le_of_ble_eq_true rfl), below_setCells _ o2_1.out _ _ _ H6.out.2⟩
      clear H6
      generalize hgw : World.setCells _ _ _ _ = w7 at H7 ⊢
      clear hgw
      refine rest_nil (then_normal ?_)
      refine walk_seqB 4 [.quiet (.agg (kd p r c gx gy).toArray), .quiet (.agg (lc z.2.1).toArray), .quiet (.agg (lc z.2.1).toArray), .call (.agg (l2 ((pd p z.2.1 z.2.1).1) ((pd p z.2.1 z.2.1).2)).toArray)] H7 ?ho6 ?he6
      case ho6 => exact ak (fun γ => ⟨rfl, fun w' h => ex_loadT h 1 rfl rfl rfl Try.isAgg72 Try.sizeOf72 rfl rfl⟩) (ak (fun γ => ⟨rfl, fun w' h => ex_loadT h 2 rfl rfl rfl Try.isAgg49 Try.sizeOf49 rfl rfl⟩) (ak (fun γ => ⟨rfl, fun w' h => ex_loadT h 2 rfl rfl rfl Try.isAgg49 Try.sizeOf49 rfl rfl⟩) (ak (fun γ => ⟨rfl, fun w' h => ⟨63, #[.agg (kd p r c gx gy).toArray, .agg (lc z.2.1).toArray, .agg (lc z.2.1).toArray], exec_call rfl call63 rfl (mpn rfl), product_any hp z.2.1 z.2.1 hz2 hz2 w'⟩⟩) trivial)))
      intro _ w8 H8
      clear H7
      refine rest_at (l := [4]) rfl ?_
      refine rest_store rfl rfl rfl (ex_storeT (vs := l2 ((pd p z.2.1 z.2.1).1) ((pd p z.2.1 z.2.1).2)) H8.out.1 2 rfl rfl rfl rfl Try.sizeOf49 rfl (Nat.le_of_ble_eq_true rfl)) ?_
      have H9 : Hid (Mm (w8.setCells γ1_1 0 (l2 ((pd p z.2.1 z.2.1).1) ((pd p z.2.1 z.2.1).2))) [(γ2_1, l2 ((pd p z.1 z.2.1).1) ((pd p z.1 z.2.1).2)), (γ1_0, kd p r c gx gy), (γ1_1, l2 ((pd p z.2.1 z.2.1).1) ((pd p z.2.1 z.2.1).2)), (γ1_2, l2 0 0)] ∧ Below w.heap.size w (w8.setCells γ1_1 0 (l2 ((pd p z.2.1 z.2.1).1) ((pd p z.2.1 z.2.1).2)))) := ⟨H8.out.1.put 2 (off := 0) (vs := l2 ((pd p z.2.1 z.2.1).1) ((pd p z.2.1 z.2.1).2)) rfl (Nat.le_of_ble_eq_true rfl), below_setCells _ o1_1.out _ _ _ H8.out.2⟩
      clear H8
      generalize hgw : World.setCells _ _ _ _ = w9 at H9 ⊢
      clear hgw
      refine rest_nil (block_normal (then_normal ?_))
      refine walk_seqB 2 [.quiet (U z.2.2), .quiet (U (z.2.2 / 2))] H9 ?ho7 ?he7
      case ho7 => exact ak (fun _ => ⟨rfl, fun _ _ => rfl⟩) (ak (fun γ => ⟨rfl, fun w' _ => ex_shr1 rfl rfl rfl⟩) trivial)
      intro _ w10 H10
      clear H9
      refine rest_at (l := [2]) rfl ?_
      refine rest_set (d := 2) rfl rfl rfl rfl ?_
      simp only [Act.put, sa, sz, ss]
      refine rest_nil (then_normal ?_)
      exact ⟨(pd p z.1 z.2.1, pd p z.2.1 z.2.1, z.2.2 / 2), ⟨(slotfn [undef, undef, undef, undef, undef, undef, undef, undef, undef, U z.2.2, .bool true, U z.2.2, U (z.2.2 / 2), U z.2.2, U (z.2.2 % 2), .bool true, .agg (kd p r c gx gy).toArray, .agg (lc z.1).toArray, .agg (lc z.2.1).toArray, .agg (l2 ((pd p z.1 z.2.1).1) ((pd p z.1 z.2.1).2)).toArray, .agg (kd p r c gx gy).toArray, .agg (lc z.2.1).toArray, .agg (lc z.2.1).toArray, .agg (l2 ((pd p z.2.1 z.2.1).1) ((pd p z.2.1 z.2.1).2)).toArray]), rfl, ⟨H10.out.1, H10.out.2⟩, ⟨pd_lt hp _ _, pd_lt hp _ _, Nat.lt_of_le_of_lt (Nat.div_le_self _ _) hz3, (rs_odd p _ _ _ hz3 ho).trans hz4⟩⟩, Nat.div_lt_self hlt (by decide)⟩
    · have hrd : True := trivial
      clear hrd
      refine wp_seq (wp_seq ?_)
      refine walk_seqB 2 [.quiet (U z.2.2), .quiet (.bool true)] H3 ?ho8 ?he8
      case ho8 => exact ak (fun _ => ⟨rfl, fun _ _ => rfl⟩) (ak (fun γ => ⟨rfl, fun w' _ => ex_gtU rfl rfl rfl (decide_eq_true (hlt))⟩) trivial)
      intro _ w11 H11
      clear H3
      refine rest0 rfl (then_normal (wp_cond_true rfl ?_))
      refine wp_skip (then_normal ?_)
      refine wp_seq (wp_block ?_)
      refine wp_seq (wp_seq ?_)
      refine walk_seqB 3 [.quiet (U z.2.2), .quiet (U (z.2.2 % 2)), .quiet (.bool false)] H11 ?ho9 ?he9
      case ho9 => exact ak (fun _ => ⟨rfl, fun _ _ => rfl⟩) (ak (fun γ => ⟨rfl, fun w' _ => ex_and1 rfl (hz3) rfl rfl⟩) (ak (fun γ => ⟨rfl, fun w' _ => ex_eqU rfl rfl rfl (decide_eq_false (ho))⟩) trivial))
      intro _ w12 H12
      clear H11
      refine rest0 rfl (then_normal (wp_cond_false rfl ?_))
      refine wp_skip (then_normal ?_)
      refine walk_seqB 4 [.quiet (.agg (kd p r c gx gy).toArray), .quiet (.agg (lc z.2.1).toArray), .quiet (.agg (lc z.2.1).toArray), .call (.agg (l2 ((pd p z.2.1 z.2.1).1) ((pd p z.2.1 z.2.1).2)).toArray)] H12 ?ho10 ?he10
      case ho10 => exact ak (fun γ => ⟨rfl, fun w' h => ex_loadT h 1 rfl rfl rfl Try.isAgg72 Try.sizeOf72 rfl rfl⟩) (ak (fun γ => ⟨rfl, fun w' h => ex_loadT h 2 rfl rfl rfl Try.isAgg49 Try.sizeOf49 rfl rfl⟩) (ak (fun γ => ⟨rfl, fun w' h => ex_loadT h 2 rfl rfl rfl Try.isAgg49 Try.sizeOf49 rfl rfl⟩) (ak (fun γ => ⟨rfl, fun w' h => ⟨63, #[.agg (kd p r c gx gy).toArray, .agg (lc z.2.1).toArray, .agg (lc z.2.1).toArray], exec_call rfl call63 rfl (mpn rfl), product_any hp z.2.1 z.2.1 hz2 hz2 w'⟩⟩) trivial)))
      intro _ w13 H13
      clear H12
      refine rest_at (l := [4]) rfl ?_
      refine rest_store rfl rfl rfl (ex_storeT (vs := l2 ((pd p z.2.1 z.2.1).1) ((pd p z.2.1 z.2.1).2)) H13.out.1 2 rfl rfl rfl rfl Try.sizeOf49 rfl (Nat.le_of_ble_eq_true rfl)) ?_
      have H14 : Hid (Mm (w13.setCells γ1_1 0 (l2 ((pd p z.2.1 z.2.1).1) ((pd p z.2.1 z.2.1).2))) [(γ2_1, lc z.1), (γ1_0, kd p r c gx gy), (γ1_1, l2 ((pd p z.2.1 z.2.1).1) ((pd p z.2.1 z.2.1).2)), (γ1_2, l2 0 0)] ∧ Below w.heap.size w (w13.setCells γ1_1 0 (l2 ((pd p z.2.1 z.2.1).1) ((pd p z.2.1 z.2.1).2)))) := ⟨H13.out.1.put 2 (off := 0) (vs := l2 ((pd p z.2.1 z.2.1).1) ((pd p z.2.1 z.2.1).2)) rfl (Nat.le_of_ble_eq_true rfl), below_setCells _ o1_1.out _ _ _ H13.out.2⟩
      clear H13
      generalize hgw : World.setCells _ _ _ _ = w14 at H14 ⊢
      clear hgw
      refine rest_nil (block_normal (then_normal ?_))
      refine walk_seqB 2 [.quiet (U z.2.2), .quiet (U (z.2.2 / 2))] H14 ?ho11 ?he11
      case ho11 => exact ak (fun _ => ⟨rfl, fun _ _ => rfl⟩) (ak (fun γ => ⟨rfl, fun w' _ => ex_shr1 rfl rfl rfl⟩) trivial)
      intro _ w15 H15
      clear H14
      refine rest_at (l := [2]) rfl ?_
      refine rest_set (d := 2) rfl rfl rfl rfl ?_
      simp only [Act.put, sa, sz, ss]
      refine rest_nil (then_normal ?_)
      exact ⟨(z.1, pd p z.2.1 z.2.1, z.2.2 / 2), ⟨(slotfn [undef, undef, undef, undef, undef, undef, undef, undef, undef, U z.2.2, .bool true, U z.2.2, U (z.2.2 / 2), U z.2.2, U (z.2.2 % 2), .bool false, s0 16, s0 17, s0 18, s0 19, .agg (kd p r c gx gy).toArray, .agg (lc z.2.1).toArray, .agg (lc z.2.1).toArray, .agg (l2 ((pd p z.2.1 z.2.1).1) ((pd p z.2.1 z.2.1).2)).toArray]), rfl, ⟨H15.out.1, H15.out.2⟩, ⟨hz1, pd_lt hp _ _, Nat.lt_of_le_of_lt (Nat.div_le_self _ _) hz3, (rs_even p _ _ _ hz3 ho hlt).trans hz4⟩⟩, Nat.div_lt_self hlt (by decide)⟩
  obtain ⟨hz1, hz2, hz3, hz4⟩ := hk0
  refine wp_seq (wp_seq ?_)
  refine walk_seqB 2 [.quiet (U z.2.2), .quiet (.bool false)] H3 ?ho12 ?he12
  case ho12 => exact ak (fun _ => ⟨rfl, fun _ _ => rfl⟩) (ak (fun γ => ⟨rfl, fun w' _ => ex_gtU rfl rfl rfl (decide_eq_false (hlt))⟩) trivial)
  intro _ w16 H16
  clear H3
  refine rest0 rfl (then_normal (wp_cond_false rfl ?_))
  refine wp_exit ?_
  repeat refine then_exit ?_
  refine block_exit ?_
  refine then_normal (wp_seq ?_)
  refine walk_seqB 1 [.quiet (.agg (lc z.1).toArray)] H16 ?ho13 ?he13
  case ho13 => exact ak (fun γ => ⟨rfl, fun w' h => ex_loadT h 0 rfl rfl rfl Try.isAgg49 Try.sizeOf49 rfl rfl⟩) trivial
  intro _ w17 H17
  clear H16
  refine rest_at (l := [1]) rfl ?_
  refine rest_store rfl rfl rfl (ex_storeT (vs := lc z.1) H17.out.1 3 rfl rfl rfl rfl Try.sizeOf49 rfl (Nat.le_of_ble_eq_true rfl)) ?_
  have H18 : Hid (Mm (w17.setCells γ1_2 0 (lc z.1)) [(γ2_1, lc z.1), (γ1_0, kd p r c gx gy), (γ1_1, lc z.2.1), (γ1_2, lc z.1)] ∧ Below w.heap.size w (w17.setCells γ1_2 0 (lc z.1))) := ⟨H17.out.1.put 3 (off := 0) (vs := lc z.1) rfl (Nat.le_of_ble_eq_true rfl), below_setCells _ o1_2.out _ _ _ H17.out.2⟩
  clear H17
  generalize hgw : World.setCells _ _ _ _ = w18 at H18 ⊢
  clear hgw
  refine rest_nil (then_normal (wp_ret ?_))
  repeat (first | refine then_ret ?_ | refine block_ret ?_)
  have hf0 := var_T H18.out.1 3 rfl Try.isAgg49 Try.sizeOf49 rfl
  refine bodyPost_ret (v := .agg (lc z.1).toArray) (by simp [results, Try.results65, asAddr, hf0]) rfl ?_
  exact ⟨by rw [← hz4, show z.2.2 = 0 by omega, rs_zero], H18.out.2⟩
set_option maxRecDepth 100000 in
theorem sameX_any (hp : Pr p) (t : T3) (ht : Lt3 p t) (X Y : Nat) (Z : Bool) (hX : X < p) (w : World) :
    Calls Try.prog 80 #[.agg (kd p r c gx gy).toArray, .agg (tr t.1 t.2.1 t.2.2).toArray, .agg (pt X Y Z).toArray] w fun e w' => e = .returned (.bool (sx p t X)) ∧ Below w.heap.size w w' := by
  have H0 : Hid (_ ∧ _) := ⟨Mm.nil w, Below.refl w.heap.size w⟩
  go_enter Try.func80, Try.ntmps80
  refine wp_seq ?_
  refine walk_seqA 4 [.made (kd p r c gx gy) 72, .made (tr t.1 t.2.1 t.2.2) 77, .made (pt X Y Z) 25, .quiet (.bool false)] (sB H0) ?ho1 ?he1
  case ho1 => exact ak (fun γ => ⟨rfl, fun w' => ex_boxT rfl rfl⟩) (ak (fun γ => ⟨rfl, fun w' => ex_boxT rfl rfl⟩) (ak (fun γ => ⟨rfl, fun w' => ex_boxT rfl rfl⟩) (ak (fun _ => ⟨rfl, fun _ _ => rfl⟩) trivial)))
  intro γ w1 l hM hl
  have H1 : Hid (Mm w1 [(γ 0, kd p r c gx gy), (γ 1, tr t.1 t.2.1 t.2.2), (γ 2, pt X Y Z)] ∧ _) := growB H0 hM (Nat.le_refl _) hl [0, 1, 2] rfl (by decide)
  have o1_0 := ownB H0 hM (Nat.le_refl _) hl (i := 0) rfl
  have o1_1 := ownB H0 hM (Nat.le_refl _) hl (i := 1) rfl
  have o1_2 := ownB H0 hM (Nat.le_refl _) hl (i := 2) rfl
  clear hM hl l
  generalize γ 0 = γ1_0 at H1 o1_0 ⊢
  generalize γ 1 = γ1_1 at H1 o1_1 ⊢
  generalize γ 2 = γ1_2 at H1 o1_2 ⊢
  clear γ
  refine rest0 rfl (then_normal (wp_seq ?_))
  refine walk_anyB 14 [.quiet (.agg (kd p r c gx gy).toArray), .quiet (PT γ1_2 0), .quiet (U X), .quiet (.agg (kd p r c gx gy).toArray), .quiet (PT γ1_1 2), .quiet (U t.2.2), .quiet (PT γ1_1 2), .quiet (U t.2.2), .call (U (tm p t.2.2 t.2.2)), .call (U (tm p X (tm p t.2.2 t.2.2))), .quiet (PT γ1_1 0), .quiet (U t.1), .quiet (.bool (decide (tm p X (tm p t.2.2 t.2.2) = t.1))), .quiet (.bool (decide (tm p X (tm p t.2.2 t.2.2) = t.1)))] H1 ?ho2 ?he2
  case ho2 => exact ak (fun γ => ⟨rfl, fun w' h => ex_loadT h 0 rfl rfl rfl Try.isAgg72 Try.sizeOf72 rfl rfl⟩) (ak (by refine fun γ => ⟨rfl, fun w' h => ?_⟩; clear h; go_simp) (ak (fun γ => ⟨rfl, fun w' h => ex_loadC h 2 rfl rfl rfl Try.isAgg23 rfl⟩) (ak (fun γ => ⟨rfl, fun w' h => ex_loadT h 0 rfl rfl rfl Try.isAgg72 Try.sizeOf72 rfl rfl⟩) (ak (by refine fun γ => ⟨rfl, fun w' h => ?_⟩; clear h; go_simp) (ak (fun γ => ⟨rfl, fun w' h => ex_loadC h 1 rfl rfl rfl Try.isAgg23 rfl⟩) (ak (by refine fun γ => ⟨rfl, fun w' h => ?_⟩; clear h; go_simp) (ak (fun γ => ⟨rfl, fun w' h => ex_loadC h 1 rfl rfl rfl Try.isAgg23 rfl⟩) (ak (fun γ => ⟨rfl, fun w' h => ⟨69, #[.agg (kd p r c gx gy).toArray, U t.2.2, U t.2.2], exec_call rfl call69 rfl (mpn rfl), times_any hp t.2.2 t.2.2 ht.z ht.z w'⟩⟩) (ak (fun γ => ⟨rfl, fun w' h => ⟨69, #[.agg (kd p r c gx gy).toArray, U X, U (tm p t.2.2 t.2.2)], exec_call rfl call69 rfl (mpn rfl), times_any hp X (tm p t.2.2 t.2.2) hX (tm_lt hp) w'⟩⟩) (ak (by refine fun γ => ⟨rfl, fun w' h => ?_⟩; clear h; go_simp) (ak (fun γ => ⟨rfl, fun w' h => ex_loadC h 1 rfl rfl rfl Try.isAgg23 rfl⟩) (ak (fun γ => ⟨rfl, fun w' _ => ex_eqU rfl rfl rfl rfl⟩) (ak (fun _ => ⟨rfl, fun _ _ => rfl⟩) trivial)))))))))))))
  intro _ w2 H2
  clear H1
  refine rest0 rfl (then_normal (wp_ret ?_))
  repeat (first | refine then_ret ?_ | refine block_ret ?_)
  refine bodyPost_ret (v := .bool (decide (tm p X (tm p t.2.2 t.2.2) = t.1))) (by simp [results, Try.results80, go_sem, *]) rfl ?_
  exact ⟨rfl, H2.out.2⟩
set_option maxHeartbeats 1000000 in
set_option maxRecDepth 100000 in
theorem lineT_any (hp : Pr p) (t : T3) (ht : Lt3 p t) (nx ny nz : Nat) (hnz : nz < p) (ri : Nat) (hri : ri < p) (X Y : Nat) (Z : Bool) (hX : X < p) (hY : Y < p) (w : World) :
    Calls Try.prog 79 #[.agg (kd p r c gx gy).toArray, .agg (tr t.1 t.2.1 t.2.2).toArray, .agg (tr nx ny nz).toArray, U ri, .agg (pt X Y Z).toArray] w fun e w' => e = .returned (V (lc (lw p t nz ri X Y))) ∧ Below w.heap.size w w' := by
  have H0 : Hid (_ ∧ _) := ⟨Mm.nil w, Below.refl w.heap.size w⟩
  go_enter Try.func79, Try.ntmps79
  refine wp_seq ?_
  refine walk_seqA 5 [.made (kd p r c gx gy) 72, .made (tr t.1 t.2.1 t.2.2) 77, .made (tr nx ny nz) 77, .made (pt X Y Z) 25, .made (l2 0 0) 49] (sB H0) ?ho1 ?he1
  case ho1 => exact ak (fun γ => ⟨rfl, fun w' => ex_boxT rfl rfl⟩) (ak (fun γ => ⟨rfl, fun w' => ex_boxT rfl rfl⟩) (ak (fun γ => ⟨rfl, fun w' => ex_boxT rfl rfl⟩) (ak (fun γ => ⟨rfl, fun w' => ex_boxT rfl rfl⟩) (ak (fun γ => ⟨rfl, fun w' => ex_made49 rfl⟩) trivial))))
  intro γ w1 l hM hl
  have H1 : Hid (Mm w1 [(γ 0, kd p r c gx gy), (γ 1, tr t.1 t.2.1 t.2.2), (γ 2, tr nx ny nz), (γ 3, pt X Y Z), (γ 4, l2 0 0)] ∧ _) := growB H0 hM (Nat.le_refl _) hl [0, 1, 2, 3, 4] rfl (by decide)
  have o1_0 := ownB H0 hM (Nat.le_refl _) hl (i := 0) rfl
  have o1_1 := ownB H0 hM (Nat.le_refl _) hl (i := 1) rfl
  have o1_2 := ownB H0 hM (Nat.le_refl _) hl (i := 2) rfl
  have o1_3 := ownB H0 hM (Nat.le_refl _) hl (i := 3) rfl
  have o1_4 := ownB H0 hM (Nat.le_refl _) hl (i := 4) rfl
  clear hM hl l
  generalize γ 0 = γ1_0 at H1 o1_0 ⊢
  generalize γ 1 = γ1_1 at H1 o1_1 ⊢
  generalize γ 2 = γ1_2 at H1 o1_2 ⊢
  generalize γ 3 = γ1_3 at H1 o1_3 ⊢
  generalize γ 4 = γ1_4 at H1 o1_4 ⊢
  clear γ
  refine rest0 rfl (then_normal (wp_seq ?_))
  refine walk_seqB 7 [.quiet (.agg (kd p r c gx gy).toArray), .quiet (PT γ1_1 2), .quiet (U t.2.2), .quiet (PT γ1_1 2), .quiet (U t.2.2), .call (U (tm p t.2.2 t.2.2)), .quiet (U (tm p t.2.2 t.2.2))] H1 ?ho2 ?he2
  case ho2 => exact ak (fun γ => ⟨rfl, fun w' h => ex_loadT h 0 rfl rfl rfl Try.isAgg72 Try.sizeOf72 rfl rfl⟩) (ak (by refine fun γ => ⟨rfl, fun w' h => ?_⟩; clear h; go_simp) (ak (fun γ => ⟨rfl, fun w' h => ex_loadC h 1 rfl rfl rfl Try.isAgg23 rfl⟩) (ak (by refine fun γ => ⟨rfl, fun w' h => ?_⟩; clear h; go_simp) (ak (fun γ => ⟨rfl, fun w' h => ex_loadC h 1 rfl rfl rfl Try.isAgg23 rfl⟩) (ak (fun γ => ⟨rfl, fun w' h => ⟨69, #[.agg (kd p r c gx gy).toArray, U t.2.2, U t.2.2], exec_call rfl call69 rfl (mpn rfl), times_any hp t.2.2 t.2.2 ht.z ht.z w'⟩⟩) (ak (fun _ => ⟨rfl, fun _ _ => rfl⟩) trivial))))))
  intro _ w2 H2
  clear H1
  refine rest0 rfl (then_normal (wp_seq ?_))
  refine walk_anyB 10 [.quiet (.agg (kd p r c gx gy).toArray), .quiet (.agg (kd p r c gx gy).toArray), .quiet (PT γ1_3 0), .quiet (U X), .quiet (U (tm p t.2.2 t.2.2)), .call (U (tm p X (tm p t.2.2 t.2.2))), .quiet (PT γ1_1 0), .quiet (U t.1), .call (U (pl p (tm p X (tm p t.2.2 t.2.2)) t.1)), .quiet (U (pl p (tm p X (tm p t.2.2 t.2.2)) t.1))] H2 ?ho3 ?he3
  case ho3 => exact ak (fun γ => ⟨rfl, fun w' h => ex_loadT h 0 rfl rfl rfl Try.isAgg72 Try.sizeOf72 rfl rfl⟩) (ak (fun γ => ⟨rfl, fun w' h => ex_loadT h 0 rfl rfl rfl Try.isAgg72 Try.sizeOf72 rfl rfl⟩) (ak (by refine fun γ => ⟨rfl, fun w' h => ?_⟩; clear h; go_simp) (ak (fun γ => ⟨rfl, fun w' h => ex_loadC h 3 rfl rfl rfl Try.isAgg23 rfl⟩) (ak (fun _ => ⟨rfl, fun _ _ => rfl⟩) (ak (fun γ => ⟨rfl, fun w' h => ⟨69, #[.agg (kd p r c gx gy).toArray, U X, U (tm p t.2.2 t.2.2)], exec_call rfl call69 rfl (mpn rfl), times_any hp X (tm p t.2.2 t.2.2) hX (tm_lt hp) w'⟩⟩) (ak (by refine fun γ => ⟨rfl, fun w' h => ?_⟩; clear h; go_simp) (ak (fun γ => ⟨rfl, fun w' h => ex_loadC h 1 rfl rfl rfl Try.isAgg23 rfl⟩) (ak (fun γ => ⟨rfl, fun w' h => ⟨71, #[.agg (kd p r c gx gy).toArray, U (tm p X (tm p t.2.2 t.2.2)), U t.1], exec_call rfl call71 rfl (mpn rfl), plus_any hp (tm p X (tm p t.2.2 t.2.2)) t.1 (tm_lt hp) ht.x w'⟩⟩) (ak (fun _ => ⟨rfl, fun _ _ => rfl⟩) trivial)))))))))
  intro _ w3 H3
  clear H2
  refine rest0 rfl (then_normal (wp_seq ?_))
  refine walk_anyB 13 [.quiet (.agg (kd p r c gx gy).toArray), .quiet (.agg (kd p r c gx gy).toArray), .quiet (PT γ1_1 1), .quiet (U t.2.1), .quiet (PT γ1_1 1), .quiet (U t.2.1), .call (U (tm p t.2.1 t.2.1)), .quiet (U (2 * (tm p t.2.1 t.2.1))), .quiet (PT γ1_0 0), .quiet (U p), .quiet (U (tm p 2 (tm p t.2.1 t.2.1))), .call (U (mi p 0 (tm p 2 (tm p t.2.1 t.2.1)))), .quiet (U (mi p 0 (tm p 2 (tm p t.2.1 t.2.1))))] H3 ?ho4 ?he4
  case ho4 => exact ak (fun γ => ⟨rfl, fun w' h => ex_loadT h 0 rfl rfl rfl Try.isAgg72 Try.sizeOf72 rfl rfl⟩) (ak (fun γ => ⟨rfl, fun w' h => ex_loadT h 0 rfl rfl rfl Try.isAgg72 Try.sizeOf72 rfl rfl⟩) (ak (by refine fun γ => ⟨rfl, fun w' h => ?_⟩; clear h; go_simp) (ak (fun γ => ⟨rfl, fun w' h => ex_loadC h 1 rfl rfl rfl Try.isAgg23 rfl⟩) (ak (by refine fun γ => ⟨rfl, fun w' h => ?_⟩; clear h; go_simp) (ak (fun γ => ⟨rfl, fun w' h => ex_loadC h 1 rfl rfl rfl Try.isAgg23 rfl⟩) (ak (fun γ => ⟨rfl, fun w' h => ⟨69, #[.agg (kd p r c gx gy).toArray, U t.2.1, U t.2.1], exec_call rfl call69 rfl (mpn rfl), times_any hp t.2.1 t.2.1 ht.y ht.y w'⟩⟩) (ak (fun γ => ⟨rfl, fun w' _ => ex_mulU (small_mul hp (by decide) (tm_lt hp)) rfl rfl rfl⟩) (ak (by refine fun γ => ⟨rfl, fun w' h => ?_⟩; clear h; go_simp) (ak (fun γ => ⟨rfl, fun w' h => ex_loadC h 0 rfl rfl rfl Try.isAgg23 rfl⟩) (ak (fun γ => ⟨rfl, fun w' _ => ex_remU (Nat.ne_of_gt (zero_lt hp)) rfl rfl rfl⟩) (ak (fun γ => ⟨rfl, fun w' h => ⟨48, #[.agg (kd p r c gx gy).toArray, U 0, U (tm p 2 (tm p t.2.1 t.2.1))], exec_call rfl call48 rfl (mpn rfl), minus_any hp 0 (tm p 2 (tm p t.2.1 t.2.1)) (zero_lt hp) (tm_lt hp) w'⟩⟩) (ak (fun _ => ⟨rfl, fun _ _ => rfl⟩) trivial))))))))))))
  intro _ w4 H4
  clear H3
  refine rest0 rfl (then_normal (wp_seq ?_))
  refine walk_anyB 15 [.quiet (.agg (kd p r c gx gy).toArray), .quiet (U ri), .quiet (U (pl p (tm p X (tm p t.2.2 t.2.2)) t.1)), .quiet (U (mi p 0 (tm p 2 (tm p t.2.1 t.2.1)))), .call (U (t2 p ri (pl p (tm p X (tm p t.2.2 t.2.2)) t.1) 1 (mi p 0 (tm p 2 (tm p t.2.1 t.2.1))))), .quiet (.agg (kd p r c gx gy).toArray), .quiet (PT γ1_3 1), .quiet (U Y), .quiet (.agg (kd p r c gx gy).toArray), .quiet (PT γ1_2 2), .quiet (U nz), .quiet (U (tm p t.2.2 t.2.2)), .call (U (tm p nz (tm p t.2.2 t.2.2))), .call (U (tm p Y (tm p nz (tm p t.2.2 t.2.2)))), .quiet (.agg (l2 (t2 p ri (pl p (tm p X (tm p t.2.2 t.2.2)) t.1) 1 (mi p 0 (tm p 2 (tm p t.2.1 t.2.1)))) (tm p Y (tm p nz (tm p t.2.2 t.2.2)))).toArray)] H4 ?ho5 ?he5
  case ho5 => exact ak (fun γ => ⟨rfl, fun w' h => ex_loadT h 0 rfl rfl rfl Try.isAgg72 Try.sizeOf72 rfl rfl⟩) (ak (fun _ => ⟨rfl, fun _ _ => rfl⟩) (ak (fun _ => ⟨rfl, fun _ _ => rfl⟩) (ak (fun _ => ⟨rfl, fun _ _ => rfl⟩) (ak (fun γ => ⟨rfl, fun w' h => ⟨78, #[.agg (kd p r c gx gy).toArray, U ri, U (pl p (tm p X (tm p t.2.2 t.2.2)) t.1), U 1, U (mi p 0 (tm p 2 (tm p t.2.1 t.2.1)))], exec_call rfl call78 rfl (mpn rfl), twoTimes_any hp ri (pl p (tm p X (tm p t.2.2 t.2.2)) t.1) 1 (mi p 0 (tm p 2 (tm p t.2.1 t.2.1))) hri (pl_lt hp) (one_lt hp) (mi_lt hp) w'⟩⟩) (ak (fun γ => ⟨rfl, fun w' h => ex_loadT h 0 rfl rfl rfl Try.isAgg72 Try.sizeOf72 rfl rfl⟩) (ak (by refine fun γ => ⟨rfl, fun w' h => ?_⟩; clear h; go_simp) (ak (fun γ => ⟨rfl, fun w' h => ex_loadC h 3 rfl rfl rfl Try.isAgg23 rfl⟩) (ak (fun γ => ⟨rfl, fun w' h => ex_loadT h 0 rfl rfl rfl Try.isAgg72 Try.sizeOf72 rfl rfl⟩) (ak (by refine fun γ => ⟨rfl, fun w' h => ?_⟩; clear h; go_simp) (ak (fun γ => ⟨rfl, fun w' h => ex_loadC h 2 rfl rfl rfl Try.isAgg23 rfl⟩) (ak (fun _ => ⟨rfl, fun _ _ => rfl⟩) (ak (fun γ => ⟨rfl, fun w' h => ⟨69, #[.agg (kd p r c gx gy).toArray, U nz, U (tm p t.2.2 t.2.2)], exec_call rfl call69 rfl (mpn rfl), times_any hp nz (tm p t.2.2 t.2.2) hnz (tm_lt hp) w'⟩⟩) (ak (fun γ => ⟨rfl, fun w' h => ⟨69, #[.agg (kd p r c gx gy).toArray, U Y, U (tm p nz (tm p t.2.2 t.2.2))], exec_call rfl call69 rfl (mpn rfl), times_any hp Y (tm p nz (tm p t.2.2 t.2.2)) hY (tm_lt hp) w'⟩⟩) (ak (fun γ => ⟨rfl, fun w' _ => ex_build49_01 rfl rfl rfl⟩) trivial))))))))))))))
  intro _ w5 H5
  clear H4
  refine rest_at (l := [15]) rfl ?_
  refine rest_store rfl rfl rfl (ex_storeT (vs := l2 (t2 p ri (pl p (tm p X (tm p t.2.2 t.2.2)) t.1) 1 (mi p 0 (tm p 2 (tm p t.2.1 t.2.1)))) (tm p Y (tm p nz (tm p t.2.2 t.2.2)))) H5.out.1 4 rfl rfl rfl rfl Try.sizeOf49 rfl (Nat.le_of_ble_eq_true rfl)) ?_
  have H6 : Hid (Mm (w5.setCells γ1_4 0 (l2 (t2 p ri (pl p (tm p X (tm p t.2.2 t.2.2)) t.1) 1 (mi p 0 (tm p 2 (tm p t.2.1 t.2.1)))) (tm p Y (tm p nz (tm p t.2.2 t.2.2))))) [(γ1_0, kd p r c gx gy), (γ1_1, tr t.1 t.2.1 t.2.2), (γ1_2, tr nx ny nz), (γ1_3, pt X Y Z), (γ1_4, l2 (t2 p ri (pl p (tm p X (tm p t.2.2 t.2.2)) t.1) 1 (mi p 0 (tm p 2 (tm p t.2.1 t.2.1)))) (tm p Y (tm p nz (tm p t.2.2 t.2.2))))] ∧ Below w.heap.size w (w5.setCells γ1_4 0 (l2 (t2 p ri (pl p (tm p X (tm p t.2.2 t.2.2)) t.1) 1 (mi p 0 (tm p 2 (tm p t.2.1 t.2.1)))) (tm p Y (tm p nz (tm p t.2.2 t.2.2)))))) := ⟨H5.out.1.put 4 (off := 0) (vs := l2 (t2 p ri (pl p (tm p X (tm p t.2.2 t.2.2)) t.1) 1 (mi p 0 (tm p 2 (tm p t.2.1 t.2.1)))) (tm p Y (tm p nz (tm p t.2.2 t.2.2)))) rfl (Nat.le_of_ble_eq_true rfl), below_setCells _ o1_4.out _ _ _ H5.out.2⟩
  clear H5
  generalize hgw : World.setCells _ _ _ _ = w6 at H6 ⊢
  clear hgw
  refine rest_nil (then_normal (wp_ret ?_))
  repeat (first | refine then_ret ?_ | refine block_ret ?_)
  have hf0 := var_T H6.out.1 4 rfl Try.isAgg49 Try.sizeOf49 rfl
  refine bodyPost_ret (v := .agg (l2 (t2 p ri (pl p (tm p X (tm p t.2.2 t.2.2)) t.1) 1 (mi p 0 (tm p 2 (tm p t.2.1 t.2.1)))) (tm p Y (tm p nz (tm p t.2.2 t.2.2)))).toArray) (by simp [results, Try.results79, asAddr, hf0]) rfl ?_
  exact ⟨rfl, H6.out.2⟩
set_option maxHeartbeats 1000000 in
set_option maxRecDepth 100000 in
theorem lineJ_any (hp : Pr p) (a1 a2 s3 : Nat) (hs3 : s3 < p) (X Y : Nat) (Z : Bool) (hX : X < p) (hY : Y < p) (ri : Nat) (hri : ri < p) (X' Y' : Nat) (Z' : Bool) (hX' : X' < p) (hY' : Y' < p) (w : World) :
    Calls Try.prog 81 #[.agg (kd p r c gx gy).toArray, .agg (tr a1 a2 s3).toArray, .agg (pt X Y Z).toArray, U ri, .agg (pt X' Y' Z').toArray] w fun e w' => e = .returned (V (lc (lj p s3 X Y ri X' Y'))) ∧ Below w.heap.size w w' := by
  have H0 : Hid (_ ∧ _) := ⟨Mm.nil w, Below.refl w.heap.size w⟩
  go_enter Try.func81, Try.ntmps81
  refine wp_seq ?_
  refine walk_seqA 5 [.made (kd p r c gx gy) 72, .made (tr a1 a2 s3) 77, .made (pt X Y Z) 25, .made (pt X' Y' Z') 25, .made (l2 0 0) 49] (sB H0) ?ho1 ?he1
  case ho1 => exact ak (fun γ => ⟨rfl, fun w' => ex_boxT rfl rfl⟩) (ak (fun γ => ⟨rfl, fun w' => ex_boxT rfl rfl⟩) (ak (fun γ => ⟨rfl, fun w' => ex_boxT rfl rfl⟩) (ak (fun γ => ⟨rfl, fun w' => ex_boxT rfl rfl⟩) (ak (fun γ => ⟨rfl, fun w' => ex_made49 rfl⟩) trivial))))
  intro γ w1 l hM hl
  have H1 : Hid (Mm w1 [(γ 0, kd p r c gx gy), (γ 1, tr a1 a2 s3), (γ 2, pt X Y Z), (γ 3, pt X' Y' Z'), (γ 4, l2 0 0)] ∧ _) := growB H0 hM (Nat.le_refl _) hl [0, 1, 2, 3, 4] rfl (by decide)
  have o1_0 := ownB H0 hM (Nat.le_refl _) hl (i := 0) rfl
  have o1_1 := ownB H0 hM (Nat.le_refl _) hl (i := 1) rfl
  have o1_2 := ownB H0 hM (Nat.le_refl _) hl (i := 2) rfl
  have o1_3 := ownB H0 hM (Nat.le_refl _) hl (i := 3) rfl
  have o1_4 := ownB H0 hM (Nat.le_refl _) hl (i := 4) rfl
  clear hM hl l
  generalize γ 0 = γ1_0 at H1 o1_0 ⊢
  generalize γ 1 = γ1_1 at H1 o1_1 ⊢
  generalize γ 2 = γ1_2 at H1 o1_2 ⊢
  generalize γ 3 = γ1_3 at H1 o1_3 ⊢
  generalize γ 4 = γ1_4 at H1 o1_4 ⊢
  clear γ
  refine rest0 rfl (then_normal (wp_seq ?_))
  refine walk_anyB 22 [.quiet (.agg (kd p r c gx gy).toArray), .quiet (U ri), .quiet (.agg (kd p r c gx gy).toArray), .quiet (PT γ1_3 0), .quiet (U X'), .quiet (PT γ1_2 0), .quiet (U X), .call (U (pl p X' X)), .quiet (.agg (kd p r c gx gy).toArray), .quiet (PT γ1_2 1), .quiet (U Y), .call (U (mi p 0 Y)), .quiet (PT γ1_1 2), .quiet (U s3), .call (U (t2 p ri (pl p X' X) (mi p 0 Y) s3)), .quiet (.agg (kd p r c gx gy).toArray), .quiet (PT γ1_3 1), .quiet (U Y'), .quiet (PT γ1_1 2), .quiet (U s3), .call (U (tm p Y' s3)), .quiet (.agg (l2 (t2 p ri (pl p X' X) (mi p 0 Y) s3) (tm p Y' s3)).toArray)] H1 ?ho2 ?he2
  case ho2 => exact ak (fun γ => ⟨rfl, fun w' h => ex_loadT h 0 rfl rfl rfl Try.isAgg72 Try.sizeOf72 rfl rfl⟩) (ak (fun _ => ⟨rfl, fun _ _ => rfl⟩) (ak (fun γ => ⟨rfl, fun w' h => ex_loadT h 0 rfl rfl rfl Try.isAgg72 Try.sizeOf72 rfl rfl⟩) (ak (by refine fun γ => ⟨rfl, fun w' h => ?_⟩; clear h; go_simp) (ak (fun γ => ⟨rfl, fun w' h => ex_loadC h 3 rfl rfl rfl Try.isAgg23 rfl⟩) (ak (by refine fun γ => ⟨rfl, fun w' h => ?_⟩; clear h; go_simp) (ak (fun γ => ⟨rfl, fun w' h => ex_loadC h 2 rfl rfl rfl Try.isAgg23 rfl⟩) (ak (fun γ => ⟨rfl, fun w' h => ⟨71, #[.agg (kd p r c gx gy).toArray, U X', U X], exec_call rfl call71 rfl (mpn rfl), plus_any hp X' X hX' hX w'⟩⟩) (ak (fun γ => ⟨rfl, fun w' h => ex_loadT h 0 rfl rfl rfl Try.isAgg72 Try.sizeOf72 rfl rfl⟩) (ak (by refine fun γ => ⟨rfl, fun w' h => ?_⟩; clear h; go_simp) (ak (fun γ => ⟨rfl, fun w' h => ex_loadC h 2 rfl rfl rfl Try.isAgg23 rfl⟩) (ak (fun γ => ⟨rfl, fun w' h => ⟨48, #[.agg (kd p r c gx gy).toArray, U 0, U Y], exec_call rfl call48 rfl (mpn rfl), minus_any hp 0 Y (zero_lt hp) hY w'⟩⟩) (ak (by refine fun γ => ⟨rfl, fun w' h => ?_⟩; clear h; go_simp) (ak (fun γ => ⟨rfl, fun w' h => ex_loadC h 1 rfl rfl rfl Try.isAgg23 rfl⟩) (ak (fun γ => ⟨rfl, fun w' h => ⟨78, #[.agg (kd p r c gx gy).toArray, U ri, U (pl p X' X), U (mi p 0 Y), U s3], exec_call rfl call78 rfl (mpn rfl), twoTimes_any hp ri (pl p X' X) (mi p 0 Y) s3 hri (pl_lt hp) (mi_lt hp) hs3 w'⟩⟩) (ak (fun γ => ⟨rfl, fun w' h => ex_loadT h 0 rfl rfl rfl Try.isAgg72 Try.sizeOf72 rfl rfl⟩) (ak (by refine fun γ => ⟨rfl, fun w' h => ?_⟩; clear h; go_simp) (ak (fun γ => ⟨rfl, fun w' h => ex_loadC h 3 rfl rfl rfl Try.isAgg23 rfl⟩) (ak (by refine fun γ => ⟨rfl, fun w' h => ?_⟩; clear h; go_simp) (ak (fun γ => ⟨rfl, fun w' h => ex_loadC h 1 rfl rfl rfl Try.isAgg23 rfl⟩) (ak (fun γ => ⟨rfl, fun w' h => ⟨69, #[.agg (kd p r c gx gy).toArray, U Y', U s3], exec_call rfl call69 rfl (mpn rfl), times_any hp Y' s3 hY' hs3 w'⟩⟩) (ak (fun γ => ⟨rfl, fun w' _ => ex_build49_01 rfl rfl rfl⟩) trivial)))))))))))))))))))))
  intro _ w2 H2
  clear H1
  refine rest_at (l := [22]) rfl ?_
  refine rest_store rfl rfl rfl (ex_storeT (vs := l2 (t2 p ri (pl p X' X) (mi p 0 Y) s3) (tm p Y' s3)) H2.out.1 4 rfl rfl rfl rfl Try.sizeOf49 rfl (Nat.le_of_ble_eq_true rfl)) ?_
  have H3 : Hid (Mm (w2.setCells γ1_4 0 (l2 (t2 p ri (pl p X' X) (mi p 0 Y) s3) (tm p Y' s3))) [(γ1_0, kd p r c gx gy), (γ1_1, tr a1 a2 s3), (γ1_2, pt X Y Z), (γ1_3, pt X' Y' Z'), (γ1_4, l2 (t2 p ri (pl p X' X) (mi p 0 Y) s3) (tm p Y' s3))] ∧ Below w.heap.size w (w2.setCells γ1_4 0 (l2 (t2 p ri (pl p X' X) (mi p 0 Y) s3) (tm p Y' s3)))) := ⟨H2.out.1.put 4 (off := 0) (vs := l2 (t2 p ri (pl p X' X) (mi p 0 Y) s3) (tm p Y' s3)) rfl (Nat.le_of_ble_eq_true rfl), below_setCells _ o1_4.out _ _ _ H2.out.2⟩
  clear H2
  generalize hgw : World.setCells _ _ _ _ = w3 at H3 ⊢
  clear hgw
  refine rest_nil (then_normal (wp_ret ?_))
  repeat (first | refine then_ret ?_ | refine block_ret ?_)
  have hf0 := var_T H3.out.1 4 rfl Try.isAgg49 Try.sizeOf49 rfl
  refine bodyPost_ret (v := .agg (l2 (t2 p ri (pl p X' X) (mi p 0 Y) s3) (tm p Y' s3)).toArray) (by simp [results, Try.results81, asAddr, hf0]) rfl ?_
  exact ⟨rfl, H3.out.2⟩
set_option maxHeartbeats 1000000 in
set_option maxRecDepth 100000 in
theorem last_any (hp : Pr p) (f : E2) (hf : Lt2 p f) (hc : c < 18446744073709551616) (w : World) :
    Calls Try.prog 61 #[.agg (kd p r c gx gy).toArray, .agg (l2 f.1 f.2).toArray] w fun e w' => e = .returned (V (lc (ls p c f))) ∧ Below w.heap.size w w' := by
  have H0 : Hid (_ ∧ _) := ⟨Mm.nil w, Below.refl w.heap.size w⟩
  go_enter Try.func61, Try.ntmps61
  refine wp_seq ?_
  refine walk_seqA 3 [.made (kd p r c gx gy) 72, .made (l2 f.1 f.2) 49, .made (l2 0 0) 49] (sB H0) ?ho1 ?he1
  case ho1 => exact ak (fun γ => ⟨rfl, fun w' => ex_boxT rfl rfl⟩) (ak (fun γ => ⟨rfl, fun w' => ex_boxT rfl rfl⟩) (ak (fun γ => ⟨rfl, fun w' => ex_made49 rfl⟩) trivial))
  intro γ w1 l hM hl
  have H1 : Hid (Mm w1 [(γ 0, kd p r c gx gy), (γ 1, l2 f.1 f.2), (γ 2, l2 0 0)] ∧ _) := growB H0 hM (Nat.le_refl _) hl [0, 1, 2] rfl (by decide)
  have o1_0 := ownB H0 hM (Nat.le_refl _) hl (i := 0) rfl
  have o1_1 := ownB H0 hM (Nat.le_refl _) hl (i := 1) rfl
  have o1_2 := ownB H0 hM (Nat.le_refl _) hl (i := 2) rfl
  clear hM hl l
  generalize γ 0 = γ1_0 at H1 o1_0 ⊢
  generalize γ 1 = γ1_1 at H1 o1_1 ⊢
  generalize γ 2 = γ1_2 at H1 o1_2 ⊢
  clear γ
  refine rest0 rfl (then_normal (wp_seq ?_))
  refine walk_anyA 9 [.quiet (PT γ1_1 0), .quiet (U f.1), .quiet (.agg (kd p r c gx gy).toArray), .quiet (PT γ1_1 1), .quiet (U f.2), .call (U (mi p 0 f.2)), .quiet (.agg (l2 f.1 (mi p 0 f.2)).toArray), .made (l2 0 0) 49, .laid 7 (l2 0 0) (l2 f.1 (mi p 0 f.2))] (sB H1) ?ho2 ?he2 (hL := ?hL2)
  case hL2 => exact ⟨⟨_, rfl⟩, trivial⟩
  case ho2 => exact ak (by refine fun γ => ⟨rfl, fun w' h => ?_⟩; clear h; go_simp) (ak (fun γ => ⟨rfl, fun w' h => ex_loadC h 1 rfl rfl rfl Try.isAgg23 rfl⟩) (ak (fun γ => ⟨rfl, fun w' h => ex_loadT h 0 rfl rfl rfl Try.isAgg72 Try.sizeOf72 rfl rfl⟩) (ak (by refine fun γ => ⟨rfl, fun w' h => ?_⟩; clear h; go_simp) (ak (fun γ => ⟨rfl, fun w' h => ex_loadC h 1 rfl rfl rfl Try.isAgg23 rfl⟩) (ak (fun γ => ⟨rfl, fun w' h => ⟨48, #[.agg (kd p r c gx gy).toArray, U 0, U f.2], exec_call rfl call48 rfl (mpn rfl), minus_any hp 0 f.2 (zero_lt hp) hf.y w'⟩⟩) (ak (fun γ => ⟨rfl, fun w' _ => ex_build49_01 rfl rfl rfl⟩) (ak (fun γ => ⟨rfl, fun w' => ex_made49 rfl⟩) (ak (fun γ => ⟨rfl, rfl, rfl, fun w' h => ex_laidT h rfl rfl Try.sizeOf49 rfl rfl rfl⟩) trivial))))))))
  intro γ w2 l hM hl
  have H2 : Hid (Mm w2 [(γ 7, l2 f.1 (mi p 0 f.2)), (γ1_0, kd p r c gx gy), (γ1_1, l2 f.1 f.2), (γ1_2, l2 0 0)] ∧ _) := growB H1 hM (Nat.le_refl _) hl [7] rfl (by decide)
  have o2_7 := ownB H1 hM (Nat.le_refl _) hl (i := 7) rfl
  clear hM hl l H1
  generalize γ 7 = γ2_7 at H2 o2_7 ⊢
  clear γ
  refine rest0 rfl (then_normal (wp_seq ?_))
  refine walk_anyB 13 [.quiet (.agg (kd p r c gx gy).toArray), .quiet (.agg (kd p r c gx gy).toArray), .quiet (PT γ1_1 0), .quiet (U f.1), .quiet (PT γ1_1 0), .quiet (U f.1), .quiet (PT γ1_1 1), .quiet (U f.2), .quiet (PT γ1_1 1), .quiet (U f.2), .call (U (t2 p f.1 f.1 f.2 f.2)), .call (U (pw p (t2 p f.1 f.1 f.2 f.2) (p - 2))), .quiet (U (pw p (t2 p f.1 f.1 f.2 f.2) (p - 2)))] H2 ?ho3 ?he3
  case ho3 => exact ak (fun γ => ⟨rfl, fun w' h => ex_loadT h 1 rfl rfl rfl Try.isAgg72 Try.sizeOf72 rfl rfl⟩) (ak (fun γ => ⟨rfl, fun w' h => ex_loadT h 1 rfl rfl rfl Try.isAgg72 Try.sizeOf72 rfl rfl⟩) (ak (by refine fun γ => ⟨rfl, fun w' h => ?_⟩; clear h; go_simp) (ak (fun γ => ⟨rfl, fun w' h => ex_loadC h 2 rfl rfl rfl Try.isAgg23 rfl⟩) (ak (by refine fun γ => ⟨rfl, fun w' h => ?_⟩; clear h; go_simp) (ak (fun γ => ⟨rfl, fun w' h => ex_loadC h 2 rfl rfl rfl Try.isAgg23 rfl⟩) (ak (by refine fun γ => ⟨rfl, fun w' h => ?_⟩; clear h; go_simp) (ak (fun γ => ⟨rfl, fun w' h => ex_loadC h 2 rfl rfl rfl Try.isAgg23 rfl⟩) (ak (by refine fun γ => ⟨rfl, fun w' h => ?_⟩; clear h; go_simp) (ak (fun γ => ⟨rfl, fun w' h => ex_loadC h 2 rfl rfl rfl Try.isAgg23 rfl⟩) (ak (fun γ => ⟨rfl, fun w' h => ⟨78, #[.agg (kd p r c gx gy).toArray, U f.1, U f.1, U f.2, U f.2], exec_call rfl call78 rfl (mpn rfl), twoTimes_any hp f.1 f.1 f.2 f.2 hf.x hf.x hf.y hf.y w'⟩⟩) (ak (fun γ => ⟨rfl, fun w' h => ⟨72, #[.agg (kd p r c gx gy).toArray, U (t2 p f.1 f.1 f.2 f.2)], exec_call rfl call72 rfl (mpn rfl), inverse_any hp (t2 p f.1 f.1 f.2 f.2) (t2_lt hp) w'⟩⟩) (ak (fun _ => ⟨rfl, fun _ _ => rfl⟩) trivial))))))))))))
  intro _ w3 H3
  clear H2
  refine rest0 rfl (then_normal (wp_seq ?_))
  refine walk_anyB 12 [.quiet (.agg (kd p r c gx gy).toArray), .quiet (.agg (kd p r c gx gy).toArray), .quiet (.agg (kd p r c gx gy).toArray), .quiet (.agg (l2 f.1 (mi p 0 f.2)).toArray), .quiet (.agg (l2 f.1 (mi p 0 f.2)).toArray), .call (.agg (l2 ((pd p (f.1, mi p 0 f.2) (f.1, mi p 0 f.2)).1) ((pd p (f.1, mi p 0 f.2) (f.1, mi p 0 f.2)).2)).toArray), .quiet (U (pw p (t2 p f.1 f.1 f.2 f.2) (p - 2))), .quiet (.agg (l2 (pw p (t2 p f.1 f.1 f.2 f.2) (p - 2)) 0).toArray), .call (.agg (l2 ((pd p (pd p (f.1, mi p 0 f.2) (f.1, mi p 0 f.2)) (pw p (t2 p f.1 f.1 f.2 f.2) (p - 2), 0)).1) ((pd p (pd p (f.1, mi p 0 f.2) (f.1, mi p 0 f.2)) (pw p (t2 p f.1 f.1 f.2 f.2) (p - 2), 0)).2)).toArray), .quiet (PT γ1_0 2), .quiet (U c), .call (.agg (l2 ((rs p (1, 0) (pd p (pd p (f.1, mi p 0 f.2) (f.1, mi p 0 f.2)) (pw p (t2 p f.1 f.1 f.2 f.2) (p - 2), 0)) c).1) ((rs p (1, 0) (pd p (pd p (f.1, mi p 0 f.2) (f.1, mi p 0 f.2)) (pw p (t2 p f.1 f.1 f.2 f.2) (p - 2), 0)) c).2)).toArray)] H3 ?ho4 ?he4
  case ho4 => exact ak (fun γ => ⟨rfl, fun w' h => ex_loadT h 1 rfl rfl rfl Try.isAgg72 Try.sizeOf72 rfl rfl⟩) (ak (fun γ => ⟨rfl, fun w' h => ex_loadT h 1 rfl rfl rfl Try.isAgg72 Try.sizeOf72 rfl rfl⟩) (ak (fun γ => ⟨rfl, fun w' h => ex_loadT h 1 rfl rfl rfl Try.isAgg72 Try.sizeOf72 rfl rfl⟩) (ak (fun γ => ⟨rfl, fun w' h => ex_loadT h 0 rfl rfl rfl Try.isAgg49 Try.sizeOf49 rfl rfl⟩) (ak (fun γ => ⟨rfl, fun w' h => ex_loadT h 0 rfl rfl rfl Try.isAgg49 Try.sizeOf49 rfl rfl⟩) (ak (fun γ => ⟨rfl, fun w' h => ⟨63, #[.agg (kd p r c gx gy).toArray, .agg (l2 f.1 (mi p 0 f.2)).toArray, .agg (l2 f.1 (mi p 0 f.2)).toArray], exec_call rfl call63 rfl (mpn rfl), product_any hp (f.1, mi p 0 f.2) (f.1, mi p 0 f.2) ⟨hf.x, mi_lt hp⟩ ⟨hf.x, mi_lt hp⟩ w'⟩⟩) (ak (fun _ => ⟨rfl, fun _ _ => rfl⟩) (ak (fun γ => ⟨rfl, fun w' _ => ex_build49_0 rfl rfl⟩) (ak (fun γ => ⟨rfl, fun w' h => ⟨63, #[.agg (kd p r c gx gy).toArray, .agg (l2 ((pd p (f.1, mi p 0 f.2) (f.1, mi p 0 f.2)).1) ((pd p (f.1, mi p 0 f.2) (f.1, mi p 0 f.2)).2)).toArray, .agg (l2 (pw p (t2 p f.1 f.1 f.2 f.2) (p - 2)) 0).toArray], exec_call rfl call63 rfl (mpn rfl), product_any hp (pd p (f.1, mi p 0 f.2) (f.1, mi p 0 f.2)) (pw p (t2 p f.1 f.1 f.2 f.2) (p - 2), 0) (pd_lt hp _ _) ⟨pw_lt hp, zero_lt hp⟩ w'⟩⟩) (ak (by refine fun γ => ⟨rfl, fun w' h => ?_⟩; clear h; go_simp) (ak (fun γ => ⟨rfl, fun w' h => ex_loadC h 1 rfl rfl rfl Try.isAgg23 rfl⟩) (ak (fun γ => ⟨rfl, fun w' h => ⟨65, #[.agg (kd p r c gx gy).toArray, .agg (l2 ((pd p (pd p (f.1, mi p 0 f.2) (f.1, mi p 0 f.2)) (pw p (t2 p f.1 f.1 f.2 f.2) (p - 2), 0)).1) ((pd p (pd p (f.1, mi p 0 f.2) (f.1, mi p 0 f.2)) (pw p (t2 p f.1 f.1 f.2 f.2) (p - 2), 0)).2)).toArray, U c], exec_call rfl call65 rfl (mpn rfl), raised_any hp (pd p (pd p (f.1, mi p 0 f.2) (f.1, mi p 0 f.2)) (pw p (t2 p f.1 f.1 f.2 f.2) (p - 2), 0)) (pd_lt hp _ _) c hc w'⟩⟩) trivial)))))))))))
  intro _ w4 H4
  clear H3
  refine rest_at (l := [12]) rfl ?_
  refine rest_store rfl rfl rfl (ex_storeT (vs := l2 ((rs p (1, 0) (pd p (pd p (f.1, mi p 0 f.2) (f.1, mi p 0 f.2)) (pw p (t2 p f.1 f.1 f.2 f.2) (p - 2), 0)) c).1) ((rs p (1, 0) (pd p (pd p (f.1, mi p 0 f.2) (f.1, mi p 0 f.2)) (pw p (t2 p f.1 f.1 f.2 f.2) (p - 2), 0)) c).2)) H4.out.1 3 rfl rfl rfl rfl Try.sizeOf49 rfl (Nat.le_of_ble_eq_true rfl)) ?_
  have H5 : Hid (Mm (w4.setCells γ1_2 0 (l2 ((rs p (1, 0) (pd p (pd p (f.1, mi p 0 f.2) (f.1, mi p 0 f.2)) (pw p (t2 p f.1 f.1 f.2 f.2) (p - 2), 0)) c).1) ((rs p (1, 0) (pd p (pd p (f.1, mi p 0 f.2) (f.1, mi p 0 f.2)) (pw p (t2 p f.1 f.1 f.2 f.2) (p - 2), 0)) c).2))) [(γ2_7, l2 f.1 (mi p 0 f.2)), (γ1_0, kd p r c gx gy), (γ1_1, l2 f.1 f.2), (γ1_2, l2 ((rs p (1, 0) (pd p (pd p (f.1, mi p 0 f.2) (f.1, mi p 0 f.2)) (pw p (t2 p f.1 f.1 f.2 f.2) (p - 2), 0)) c).1) ((rs p (1, 0) (pd p (pd p (f.1, mi p 0 f.2) (f.1, mi p 0 f.2)) (pw p (t2 p f.1 f.1 f.2 f.2) (p - 2), 0)) c).2))] ∧ Below w.heap.size w (w4.setCells γ1_2 0 (l2 ((rs p (1, 0) (pd p (pd p (f.1, mi p 0 f.2) (f.1, mi p 0 f.2)) (pw p (t2 p f.1 f.1 f.2 f.2) (p - 2), 0)) c).1) ((rs p (1, 0) (pd p (pd p (f.1, mi p 0 f.2) (f.1, mi p 0 f.2)) (pw p (t2 p f.1 f.1 f.2 f.2) (p - 2), 0)) c).2)))) := ⟨H4.out.1.put 3 (off := 0) (vs := l2 ((rs p (1, 0) (pd p (pd p (f.1, mi p 0 f.2) (f.1, mi p 0 f.2)) (pw p (t2 p f.1 f.1 f.2 f.2) (p - 2), 0)) c).1) ((rs p (1, 0) (pd p (pd p (f.1, mi p 0 f.2) (f.1, mi p 0 f.2)) (pw p (t2 p f.1 f.1 f.2 f.2) (p - 2), 0)) c).2)) rfl (Nat.le_of_ble_eq_true rfl), below_setCells _ o1_2.out _ _ _ H4.out.2⟩
  clear H4
  generalize hgw : World.setCells _ _ _ _ = w5 at H5 ⊢
  clear hgw
  refine rest_nil (then_normal (wp_ret ?_))
  repeat (first | refine then_ret ?_ | refine block_ret ?_)
  have hf0 := var_T H5.out.1 3 rfl Try.isAgg49 Try.sizeOf49 rfl
  refine bodyPost_ret (v := .agg (l2 ((rs p (1, 0) (pd p (pd p (f.1, mi p 0 f.2) (f.1, mi p 0 f.2)) (pw p (t2 p f.1 f.1 f.2 f.2) (p - 2), 0)) c).1) ((rs p (1, 0) (pd p (pd p (f.1, mi p 0 f.2) (f.1, mi p 0 f.2)) (pw p (t2 p f.1 f.1 f.2 f.2) (p - 2), 0)) c).2)).toArray) (by simp [results, Try.results61, asAddr, hf0]) rfl ?_
  exact ⟨rfl, H5.out.2⟩
theorem sx_is (hp : Pr p) (t : T3) (ht : Lt3 p t) (X Y : Nat) (Z : Bool) (hX : X < p) (v : Bool) (h : sx p t X = v) (w : World) : Calls Try.prog 80 #[.agg (kd p r c gx gy).toArray, .agg (tr t.1 t.2.1 t.2.2).toArray, .agg (pt X Y Z).toArray] w fun e w' => e = .returned (.bool v) ∧ Below w.heap.size w w' := by
  rw [← h]
  exact sameX_any hp t ht X Y Z hX w
theorem sx_cases (n : Nat) (v : Bool) : n = 0 ∨ (n ≠ 0 ∧ v = true) ∨ (n ≠ 0 ∧ v = false) := by
  cases v <;> by_cases h : n = 0 <;> simp [h]
theorem st_0 (p X Y X' Y' : Nat) (Z : Bool) (bit : Nat) (s : E2 × T3) (h : bit = 0) : st p X Y X' Y' Z bit s = (f1 p s X' Y', twT p s.2) := by unfold st; rw [if_pos (Or.inl h)]
theorem st_s (p X Y X' Y' : Nat) (Z : Bool) (bit : Nat) (s : E2 × T3) (h : sx p (twT p s.2) X = true) : st p X Y X' Y' Z bit s = (f1 p s X' Y', twT p s.2) := by unfold st; rw [if_pos (Or.inr h)]
theorem st_g (p X Y X' Y' : Nat) (Z : Bool) (bit : Nat) (s : E2 × T3) (h : bit ≠ 0) (h2 : sx p (twT p s.2) X = false) : st p X Y X' Y' Z bit s = (pd p (f1 p s X' Y') (lj p (jnT p (twT p s.2) X Y Z).2.2 X Y (jnR p (twT p s.2) X Y Z) X' Y'), jnT p (twT p s.2) X Y Z) := by
  unfold st; rw [if_neg (by rw [h2]; simp [h])]
theorem jnR_lt (hp : Pr p) {t : T3} {X Y : Nat} {Z : Bool} : jnR p t X Y Z < p := by
  unfold jnR
  split
  · exact zero_lt hp
  · split
    · exact zero_lt hp
    · split
      · exact pl_lt hp
      · exact mi_lt hp
set_option maxHeartbeats 2000000 in
set_option maxRecDepth 100000 in
theorem walked_any (hp : Pr p) (hr : r < 18446744073709551616) (X Y : Nat) (Z : Bool) (hX : X < p) (hY : Y < p) (X' Y' : Nat) (Z' : Bool) (hX' : X' < p) (hY' : Y' < p) (w : World) :
    Calls Try.prog 62 #[.agg (kd p r c gx gy).toArray, .agg (pt X Y Z).toArray, .agg (pt X' Y' Z').toArray] w fun e w' => e = .returned (V (lc (wk p r X Y X' Y' Z))) ∧ Below w.heap.size w w' := by
  have H0 : Hid (_ ∧ _) := ⟨Mm.nil w, Below.refl w.heap.size w⟩
  go_enter Try.func62, Try.ntmps62
  refine wp_seq ?_
  refine walk_seqA 4 [.made (kd p r c gx gy) 72, .made (pt X Y Z) 25, .made (pt X' Y' Z') 25, .made (l2 0 0) 49] (sB H0) ?ho1 ?he1
  case ho1 => exact ak (fun γ => ⟨rfl, fun w' => ex_boxT rfl rfl⟩) (ak (fun γ => ⟨rfl, fun w' => ex_boxT rfl rfl⟩) (ak (fun γ => ⟨rfl, fun w' => ex_boxT rfl rfl⟩) (ak (fun γ => ⟨rfl, fun w' => ex_made49 rfl⟩) trivial)))
  intro γ w1 l hM hl
  have H1 : Hid (Mm w1 [(γ 0, kd p r c gx gy), (γ 1, pt X Y Z), (γ 2, pt X' Y' Z'), (γ 3, l2 0 0)] ∧ _) := growB H0 hM (Nat.le_refl _) hl [0, 1, 2, 3] rfl (by decide)
  have o1_0 := ownB H0 hM (Nat.le_refl _) hl (i := 0) rfl
  have o1_1 := ownB H0 hM (Nat.le_refl _) hl (i := 1) rfl
  have o1_2 := ownB H0 hM (Nat.le_refl _) hl (i := 2) rfl
  have o1_3 := ownB H0 hM (Nat.le_refl _) hl (i := 3) rfl
  clear hM hl l
  generalize γ 0 = γ1_0 at H1 o1_0 ⊢
  generalize γ 1 = γ1_1 at H1 o1_1 ⊢
  generalize γ 2 = γ1_2 at H1 o1_2 ⊢
  generalize γ 3 = γ1_3 at H1 o1_3 ⊢
  clear γ
  refine rest0 rfl (then_normal (wp_seq ?_))
  refine walk_seqA 7 [.quiet (.agg (l2 1 0).toArray), .quiet (.agg (pt X Y Z).toArray), .call (.agg (tr ((tO X Y Z).1) ((tO X Y Z).2.1) ((tO X Y Z).2.2)).toArray), .made (l2 0 0) 49, .made (tr 0 0 0) 77, .laid 3 (l2 0 0) (l2 1 0), .laid 4 (tr 0 0 0) (tr ((tO X Y Z).1) ((tO X Y Z).2.1) ((tO X Y Z).2.2))] (sB H1) ?ho2 ?he2 (hL := ?hL2)
  case hL2 => exact ⟨⟨_, rfl⟩, ⟨_, rfl⟩, trivial⟩
  case ho2 => exact ak (fun γ => ⟨rfl, fun w' _ => ex_build49_0 rfl rfl⟩) (ak (fun γ => ⟨rfl, fun w' h => ex_loadT h 1 rfl rfl rfl Try.isAgg25 Try.sizeOf25 rfl rfl⟩) (ak (fun γ => ⟨rfl, fun w' h => ⟨45, #[.agg (pt X Y Z).toArray], exec_call rfl call45 rfl (mpn rfl), tripleOf_any X Y Z w'⟩⟩) (ak (fun γ => ⟨rfl, fun w' => ex_made49 rfl⟩) (ak (fun γ => ⟨rfl, fun w' => ex_made77 rfl⟩) (ak (fun γ => ⟨rfl, rfl, rfl, fun w' h => ex_laidT h rfl rfl Try.sizeOf49 rfl rfl rfl⟩) (ak (fun γ => ⟨rfl, rfl, rfl, fun w' h => ex_laidT h rfl rfl Try.sizeOf77 rfl rfl rfl⟩) trivial))))))
  intro γ w2 l hM hl
  have H2 : Hid (Mm w2 [(γ 3, l2 1 0), (γ 4, tr ((tO X Y Z).1) ((tO X Y Z).2.1) ((tO X Y Z).2.2)), (γ1_0, kd p r c gx gy), (γ1_1, pt X Y Z), (γ1_2, pt X' Y' Z'), (γ1_3, l2 0 0)] ∧ _) := growB H1 hM (Nat.le_refl _) hl [3, 4] rfl (by decide)
  have o2_3 := ownB H1 hM (Nat.le_refl _) hl (i := 3) rfl
  have o2_4 := ownB H1 hM (Nat.le_refl _) hl (i := 4) rfl
  clear hM hl l H1
  generalize γ 3 = γ2_3 at H2 o2_3 ⊢
  generalize γ 4 = γ2_4 at H2 o2_4 ⊢
  clear γ
  refine rest0 rfl (then_normal (wp_seq (wp_seq ?_)))
  refine walk_seqB 5 [.quiet (PT γ1_0 1), .quiet (U r), .call (.int .i64 ((bl r : Nat) : Int)), .quiet (.int .i64 (((bl r : Nat) : Int) - 2)), .quiet (.int .i64 (((bl r : Nat) : Int) - 2))] H2 ?ho3 ?he3
  case ho3 => exact ak (by refine fun γ => ⟨rfl, fun w' h => ?_⟩; clear h; go_simp) (ak (fun γ => ⟨rfl, fun w' h => ex_loadC h 2 rfl rfl rfl Try.isAgg23 rfl⟩) (ak (fun γ => ⟨rfl, fun w' h => ⟨57, #[U r], exec_call rfl call57 rfl (mpn rfl), len_in r hr w'⟩⟩) (ak (by refine fun γ => ⟨rfl, fun w' h => ?_⟩; clear h; have hbl := bl_le_of r 64 hr; go_simp; rw [IntKind.wrap_i64]; omega) (ak (fun _ => ⟨rfl, fun _ _ => rfl⟩) trivial))))
  intro _ w3 H3
  clear H2
  refine rest0 rfl (then_normal (wp_block ?_))
  refine loop_ghost (α := Nat) (fun m a' w' => ∃ s0 : Nat → Value, a' = ⟨#[.agg (kd p r c gx gy).toArray, .agg (pt X Y Z).toArray, .agg (pt X' Y' Z').toArray, PT γ1_0 0, PT γ1_1 0, PT γ1_2 0, PT γ1_3 0, PT γ2_3 0, PT γ2_4 0, .int .i64 (((bl r : Nat) : Int) - 2 - ((m : Nat) : Int)), s0 10, s0 11, .agg (l2 1 0).toArray, .agg (pt X Y Z).toArray, .agg (tr ((tO X Y Z).1) ((tO X Y Z).2.1) ((tO X Y Z).2.2)).toArray, PT γ1_0 1, U r, .int .i64 ((bl r : Nat) : Int), .int .i64 (((bl r : Nat) : Int) - 2), s0 19, s0 20, s0 21, s0 22, s0 23, s0 24, s0 25, s0 26, s0 27, s0 28, s0 29, s0 30, s0 31, s0 32, s0 33, s0 34, s0 35, s0 36, s0 37, s0 38, s0 39, s0 40, s0 41, s0 42, s0 43, s0 44, s0 45, s0 46, s0 47, s0 48, s0 49, s0 50, s0 51, s0 52, s0 53, s0 54, s0 55, s0 56, s0 57, s0 58, s0 59, s0 60, s0 61, s0 62, s0 63, s0 64, s0 65, s0 66, s0 67, s0 68, s0 69, undef], []⟩ ∧ (Mm w' [(γ2_3, lc (wsm p r X Y X' Y' Z m).1), (γ2_4, tc (wsm p r X Y X' Y' Z m).2), (γ1_0, kd p r c gx gy), (γ1_1, pt X Y Z), (γ1_2, pt X' Y' Z'), (γ1_3, l2 0 0)] ∧ Below w.heap.size w w') ∧ m ≤ bl r - 1) (fun m => (bl r - 1) - m) 0 ?st0 ?rd0
  case st0 => exact ⟨(slotfn [undef, undef, undef, undef, undef, undef, undef, undef, undef, undef, undef, undef, undef, undef, undef, undef, undef, undef, undef, undef, undef, undef, undef, undef, undef, undef, undef, undef, undef, undef, undef, undef, undef, undef, undef, undef, undef, undef, undef, undef, undef, undef, undef, undef, undef, undef, undef, undef, undef, undef, undef, undef, undef, undef, undef, undef, undef, undef, undef, undef, undef, undef, undef, undef, undef, undef, undef, undef, undef, undef]), by rw [show (((bl r : Nat) : Int) - 2 - ((0 : Nat) : Int)) = ((bl r : Nat) : Int) - 2 by omega]; rfl, ⟨H3.out.1, H3.out.2⟩, Nat.zero_le _⟩
  intro m a' w4 hI
  obtain ⟨s0, rfl, hMB, hk0⟩ := hI
  have H4 : Hid (_ ∧ _) := hMB
  clear hMB H3
  by_cases hlt : m < bl r - 1
  · have hrd : True := trivial
    clear hrd
    obtain ⟨j, hj⟩ : ∃ j, j = bl r - 1 - 1 - m := ⟨_, rfl⟩
    have hjb : j < 64 := by have := bl_le_of r 64 hr; omega
    have hw := ws_lt hp (r := r) (X' := X') (Y' := Y') (Z := Z) hX hY m
    rw [show (((bl r : Nat) : Int) - 2 - ((m : Nat) : Int)) = ((j : Nat) : Int) by omega]
    rcases sx_cases (r / 2 ^ j % 2) (sx p (twT p (wsm p r X Y X' Y' Z m).2) X) with hb | ⟨hb, hs⟩ | ⟨hb, hs⟩
    · have hrd : True := trivial
      clear hrd
      refine wp_seq (wp_seq ?_)
      refine walk_seqB 2 [.quiet (.int .i64 ((j : Nat) : Int)), .quiet (.bool true)] H4 ?ho4 ?he4
      case ho4 => exact ak (fun _ => ⟨rfl, fun _ _ => rfl⟩) (ak (by refine fun γ => ⟨rfl, fun w' h => ?_⟩; clear h; go_simp) trivial)
      intro _ w5 H5
      clear H4
      refine rest0 rfl (then_normal (wp_cond_true rfl ?_))
      refine wp_skip (then_normal ?_)
      refine wp_seq (wp_block (wp_seq ?_))
      refine walk_seqA 9 [.quiet (.agg (kd p r c gx gy).toArray), .quiet (.agg (tc (wsm p r X Y X' Y' Z m).2).toArray), .call (.tuple #[.agg (tr ((twT p (wsm p r X Y X' Y' Z m).2).1) ((twT p (wsm p r X Y X' Y' Z m).2).2.1) ((twT p (wsm p r X Y X' Y' Z m).2).2.2)).toArray, U (tR p (wsm p r X Y X' Y' Z m).2.1 (wsm p r X Y X' Y' Z m).2.2.2)]), .quiet (.tuple #[.agg (tr ((twT p (wsm p r X Y X' Y' Z m).2).1) ((twT p (wsm p r X Y X' Y' Z m).2).2.1) ((twT p (wsm p r X Y X' Y' Z m).2).2.2)).toArray, U (tR p (wsm p r X Y X' Y' Z m).2.1 (wsm p r X Y X' Y' Z m).2.2.2)]), .quiet (.agg (tr ((twT p (wsm p r X Y X' Y' Z m).2).1) ((twT p (wsm p r X Y X' Y' Z m).2).2.1) ((twT p (wsm p r X Y X' Y' Z m).2).2.2)).toArray), .quiet (U (tR p (wsm p r X Y X' Y' Z m).2.1 (wsm p r X Y X' Y' Z m).2.2.2)), .made (tr 0 0 0) 77, .laid 6 (tr 0 0 0) (tr ((twT p (wsm p r X Y X' Y' Z m).2).1) ((twT p (wsm p r X Y X' Y' Z m).2).2.1) ((twT p (wsm p r X Y X' Y' Z m).2).2.2)), .quiet (U (tR p (wsm p r X Y X' Y' Z m).2.1 (wsm p r X Y X' Y' Z m).2.2.2))] (sB H5) ?ho5 ?he5 (hL := ?hL5)
      case hL5 => exact ⟨⟨_, rfl⟩, trivial⟩
      case ho5 => exact ak (fun γ => ⟨rfl, fun w' h => ex_loadT h 2 rfl rfl rfl Try.isAgg72 Try.sizeOf72 rfl rfl⟩) (ak (fun γ => ⟨rfl, fun w' h => ex_loadT h 1 rfl rfl rfl Try.isAgg77 Try.sizeOf77 rfl rfl⟩) (ak (fun γ => ⟨rfl, fun w' h => ⟨70, #[.agg (kd p r c gx gy).toArray, .agg (tc (wsm p r X Y X' Y' Z m).2).toArray], exec_call rfl call70 rfl (mpn rfl), twice_any hp (wsm p r X Y X' Y' Z m).2 hw.t w'⟩⟩) (ak (fun _ => ⟨rfl, fun _ _ => rfl⟩) (ak (by refine fun γ => ⟨rfl, fun w' h => ?_⟩; clear h; go_simp) (ak (by refine fun γ => ⟨rfl, fun w' h => ?_⟩; clear h; go_simp) (ak (fun γ => ⟨rfl, fun w' => ex_made77 rfl⟩) (ak (fun γ => ⟨rfl, rfl, rfl, fun w' h => ex_laidT h rfl rfl Try.sizeOf77 rfl rfl rfl⟩) (ak (fun _ => ⟨rfl, fun _ _ => rfl⟩) trivial))))))))
      intro γ w6 l hM hl
      have H6 : Hid (Mm w6 [(γ 6, tr ((twT p (wsm p r X Y X' Y' Z m).2).1) ((twT p (wsm p r X Y X' Y' Z m).2).2.1) ((twT p (wsm p r X Y X' Y' Z m).2).2.2)), (γ2_3, lc (wsm p r X Y X' Y' Z m).1), (γ2_4, tc (wsm p r X Y X' Y' Z m).2), (γ1_0, kd p r c gx gy), (γ1_1, pt X Y Z), (γ1_2, pt X' Y' Z'), (γ1_3, l2 0 0)] ∧ _) := growB H5 hM (Nat.le_refl _) hl [6] rfl (by decide)
      have o5_6 := ownB H5 hM (Nat.le_refl _) hl (i := 6) rfl
      clear hM hl l H5
      generalize γ 6 = γ5_6 at H6 o5_6 ⊢
      clear γ
      refine rest0 rfl (then_normal (wp_seq ?_))
      refine walk_anyB 12 [.quiet (.agg (kd p r c gx gy).toArray), .quiet (.agg (kd p r c gx gy).toArray), .quiet (.agg (lc (wsm p r X Y X' Y' Z m).1).toArray), .quiet (.agg (lc (wsm p r X Y X' Y' Z m).1).toArray), .call (.agg (l2 ((pd p (wsm p r X Y X' Y' Z m).1 (wsm p r X Y X' Y' Z m).1).1) ((pd p (wsm p r X Y X' Y' Z m).1 (wsm p r X Y X' Y' Z m).1).2)).toArray), .quiet (.agg (kd p r c gx gy).toArray), .quiet (.agg (tc (wsm p r X Y X' Y' Z m).2).toArray), .quiet (.agg (tr ((twT p (wsm p r X Y X' Y' Z m).2).1) ((twT p (wsm p r X Y X' Y' Z m).2).2.1) ((twT p (wsm p r X Y X' Y' Z m).2).2.2)).toArray), .quiet (U (tR p (wsm p r X Y X' Y' Z m).2.1 (wsm p r X Y X' Y' Z m).2.2.2)), .quiet (.agg (pt X' Y' Z').toArray), .call (.agg (l2 ((lw p (wsm p r X Y X' Y' Z m).2 (twT p (wsm p r X Y X' Y' Z m).2).2.2 (tR p (wsm p r X Y X' Y' Z m).2.1 (wsm p r X Y X' Y' Z m).2.2.2) X' Y').1) ((lw p (wsm p r X Y X' Y' Z m).2 (twT p (wsm p r X Y X' Y' Z m).2).2.2 (tR p (wsm p r X Y X' Y' Z m).2.1 (wsm p r X Y X' Y' Z m).2.2.2) X' Y').2)).toArray), .call (.agg (l2 ((f1 p (wsm p r X Y X' Y' Z m) X' Y').1) ((f1 p (wsm p r X Y X' Y' Z m) X' Y').2)).toArray)] H6 ?ho6 ?he6
      case ho6 => exact ak (fun γ => ⟨rfl, fun w' h => ex_loadT h 3 rfl rfl rfl Try.isAgg72 Try.sizeOf72 rfl rfl⟩) (ak (fun γ => ⟨rfl, fun w' h => ex_loadT h 3 rfl rfl rfl Try.isAgg72 Try.sizeOf72 rfl rfl⟩) (ak (fun γ => ⟨rfl, fun w' h => ex_loadT h 1 rfl rfl rfl Try.isAgg49 Try.sizeOf49 rfl rfl⟩) (ak (fun γ => ⟨rfl, fun w' h => ex_loadT h 1 rfl rfl rfl Try.isAgg49 Try.sizeOf49 rfl rfl⟩) (ak (fun γ => ⟨rfl, fun w' h => ⟨63, #[.agg (kd p r c gx gy).toArray, .agg (lc (wsm p r X Y X' Y' Z m).1).toArray, .agg (lc (wsm p r X Y X' Y' Z m).1).toArray], exec_call rfl call63 rfl (mpn rfl), product_any hp (wsm p r X Y X' Y' Z m).1 (wsm p r X Y X' Y' Z m).1 hw.f hw.f w'⟩⟩) (ak (fun γ => ⟨rfl, fun w' h => ex_loadT h 3 rfl rfl rfl Try.isAgg72 Try.sizeOf72 rfl rfl⟩) (ak (fun γ => ⟨rfl, fun w' h => ex_loadT h 2 rfl rfl rfl Try.isAgg77 Try.sizeOf77 rfl rfl⟩) (ak (fun γ => ⟨rfl, fun w' h => ex_loadT h 0 rfl rfl rfl Try.isAgg77 Try.sizeOf77 rfl rfl⟩) (ak (fun _ => ⟨rfl, fun _ _ => rfl⟩) (ak (fun γ => ⟨rfl, fun w' h => ex_loadT h 5 rfl rfl rfl Try.isAgg25 Try.sizeOf25 rfl rfl⟩) (ak (fun γ => ⟨rfl, fun w' h => ⟨79, #[.agg (kd p r c gx gy).toArray, .agg (tc (wsm p r X Y X' Y' Z m).2).toArray, .agg (tr ((twT p (wsm p r X Y X' Y' Z m).2).1) ((twT p (wsm p r X Y X' Y' Z m).2).2.1) ((twT p (wsm p r X Y X' Y' Z m).2).2.2)).toArray, U (tR p (wsm p r X Y X' Y' Z m).2.1 (wsm p r X Y X' Y' Z m).2.2.2), .agg (pt X' Y' Z').toArray], exec_call rfl call79 rfl (mpn rfl), lineT_any hp (wsm p r X Y X' Y' Z m).2 hw.t _ _ _ (tw_lt hp _).z _ (pl_lt hp) X' Y' Z' hX' hY' w'⟩⟩) (ak (fun γ => ⟨rfl, fun w' h => ⟨63, #[.agg (kd p r c gx gy).toArray, .agg (l2 ((pd p (wsm p r X Y X' Y' Z m).1 (wsm p r X Y X' Y' Z m).1).1) ((pd p (wsm p r X Y X' Y' Z m).1 (wsm p r X Y X' Y' Z m).1).2)).toArray, .agg (l2 ((lw p (wsm p r X Y X' Y' Z m).2 (twT p (wsm p r X Y X' Y' Z m).2).2.2 (tR p (wsm p r X Y X' Y' Z m).2.1 (wsm p r X Y X' Y' Z m).2.2.2) X' Y').1) ((lw p (wsm p r X Y X' Y' Z m).2 (twT p (wsm p r X Y X' Y' Z m).2).2.2 (tR p (wsm p r X Y X' Y' Z m).2.1 (wsm p r X Y X' Y' Z m).2.2.2) X' Y').2)).toArray], exec_call rfl call63 rfl (mpn rfl), product_any hp (pd p (wsm p r X Y X' Y' Z m).1 (wsm p r X Y X' Y' Z m).1) (lw p (wsm p r X Y X' Y' Z m).2 (twT p (wsm p r X Y X' Y' Z m).2).2.2 (tR p (wsm p r X Y X' Y' Z m).2.1 (wsm p r X Y X' Y' Z m).2.2.2) X' Y') (pd_lt hp _ _) ⟨t2_lt hp, tm_lt hp⟩ w'⟩⟩) trivial)))))))))))
      intro _ w7 H7
      clear H6
      refine rest_at (l := [12]) rfl ?_
      refine rest_store rfl rfl rfl (ex_storeT (vs := l2 ((f1 p (wsm p r X Y X' Y' Z m) X' Y').1) ((f1 p (wsm p r X Y X' Y' Z m) X' Y').2)) H7.out.1 1 rfl rfl rfl rfl Try.sizeOf49 rfl (Nat.le_of_ble_eq_true rfl)) ?_
      have H8 : Hid (Mm (w7.setCells γ2_3 0 (l2 ((f1 p (wsm p r X Y X' Y' Z m) X' Y').1) ((f1 p (wsm p r X Y X' Y' Z m) X' Y').2))) [(γ5_6, tr ((twT p (wsm p r X Y X' Y' Z m).2).1) ((twT p (wsm p r X Y X' Y' Z m).2).2.1) ((twT p (wsm p r X Y X' Y' Z m).2).2.2)), (γ2_3, l2 ((f1 p (wsm p r X Y X' Y' Z m) X' Y').1) ((f1 p (wsm p r X Y X' Y' Z m) X' Y').2)), (γ2_4, tc (wsm p r X Y X' Y' Z m).2), (γ1_0, kd p r c gx gy), (γ1_1, pt X Y Z), (γ1_2, pt X' Y' Z'), (γ1_3, l2 0 0)] ∧ Below w.heap.size w (w7.setCells γ2_3 0 (l2 ((f1 p (wsm p r X Y X' Y' Z m) X' Y').1) ((f1 p (wsm p r X Y X' Y' Z m) X' Y').2)))) := ⟨H7.out.1.put 1 (off := 0) (vs := l2 ((f1 p (wsm p r X Y X' Y' Z m) X' Y').1) ((f1 p (wsm p r X Y X' Y' Z m) X' Y').2)) rfl (Nat.le_of_ble_eq_true rfl), below_setCells _ o2_3.out _ _ _ H7.out.2⟩
      clear H7
      generalize hgw : World.setCells _ _ _ _ = w8 at H8 ⊢
      clear hgw
      refine rest_nil (then_normal (wp_seq ?_))
      refine walk_seqB 1 [.quiet (.agg (tr ((twT p (wsm p r X Y X' Y' Z m).2).1) ((twT p (wsm p r X Y X' Y' Z m).2).2.1) ((twT p (wsm p r X Y X' Y' Z m).2).2.2)).toArray)] H8 ?ho7 ?he7
      case ho7 => exact ak (fun γ => ⟨rfl, fun w' h => ex_loadT h 0 rfl rfl rfl Try.isAgg77 Try.sizeOf77 rfl rfl⟩) trivial
      intro _ w9 H9
      clear H8
      refine rest_at (l := [1]) rfl ?_
      refine rest_store rfl rfl rfl (ex_storeT (vs := tr ((twT p (wsm p r X Y X' Y' Z m).2).1) ((twT p (wsm p r X Y X' Y' Z m).2).2.1) ((twT p (wsm p r X Y X' Y' Z m).2).2.2)) H9.out.1 2 rfl rfl rfl rfl Try.sizeOf77 rfl (Nat.le_of_ble_eq_true rfl)) ?_
      have H10 : Hid (Mm (w9.setCells γ2_4 0 (tr ((twT p (wsm p r X Y X' Y' Z m).2).1) ((twT p (wsm p r X Y X' Y' Z m).2).2.1) ((twT p (wsm p r X Y X' Y' Z m).2).2.2))) [(γ5_6, tr ((twT p (wsm p r X Y X' Y' Z m).2).1) ((twT p (wsm p r X Y X' Y' Z m).2).2.1) ((twT p (wsm p r X Y X' Y' Z m).2).2.2)), (γ2_3, l2 ((f1 p (wsm p r X Y X' Y' Z m) X' Y').1) ((f1 p (wsm p r X Y X' Y' Z m) X' Y').2)), (γ2_4, tr ((twT p (wsm p r X Y X' Y' Z m).2).1) ((twT p (wsm p r X Y X' Y' Z m).2).2.1) ((twT p (wsm p r X Y X' Y' Z m).2).2.2)), (γ1_0, kd p r c gx gy), (γ1_1, pt X Y Z), (γ1_2, pt X' Y' Z'), (γ1_3, l2 0 0)] ∧ Below w.heap.size w (w9.setCells γ2_4 0 (tr ((twT p (wsm p r X Y X' Y' Z m).2).1) ((twT p (wsm p r X Y X' Y' Z m).2).2.1) ((twT p (wsm p r X Y X' Y' Z m).2).2.2)))) := ⟨H9.out.1.put 2 (off := 0) (vs := tr ((twT p (wsm p r X Y X' Y' Z m).2).1) ((twT p (wsm p r X Y X' Y' Z m).2).2.1) ((twT p (wsm p r X Y X' Y' Z m).2).2.2)) rfl (Nat.le_of_ble_eq_true rfl), below_setCells _ o2_4.out _ _ _ H9.out.2⟩
      clear H9
      generalize hgw : World.setCells _ _ _ _ = w10 at H10 ⊢
      clear hgw
      refine rest_nil (then_normal ?_)
      refine wp_seq (wp_seq ?_)
      refine walk_seqB 12 [.quiet (PT γ1_0 1), .quiet (U r), .quiet (.int .i64 ((j : Nat) : Int)), .quiet (U (r / 2 ^ j)), .quiet (U (r / 2 ^ j % 2)), .quiet (.bool true), .quiet (.bool true), .gone, .gone, .gone, .gone, .quiet (.bool true)] H10 ?ho8 ?he8
      case ho8 => exact ak (by refine fun γ => ⟨rfl, fun w' h => ?_⟩; clear h; go_simp) (ak (fun γ => ⟨rfl, fun w' h => ex_loadC h 3 rfl rfl rfl Try.isAgg23 rfl⟩) (ak (fun _ => ⟨rfl, fun _ _ => rfl⟩) (ak (fun γ => ⟨rfl, fun w' _ => ex_shrU (hjb) rfl rfl rfl⟩) (ak (fun γ => ⟨rfl, fun w' _ => ex_and1 rfl (Nat.lt_of_le_of_lt (Nat.div_le_self _ _) hr) rfl rfl⟩) (ak (fun γ => ⟨rfl, fun w' _ => ex_eqU rfl rfl rfl (decide_eq_true (hb))⟩) (ak (fun _ => ⟨rfl, fun _ _ => rfl⟩) (ak (fun γ => rfl) (ak (fun γ => rfl) (ak (fun γ => rfl) (ak (fun γ => rfl) (ak (by refine fun γ => ⟨rfl, fun w' h => ?_⟩; clear h; go_simp) trivial)))))))))))
      intro _ w11 H11
      clear H10
      refine rest0 rfl (then_normal (wp_cond_true rfl ?_))
      refine wp_exit ?_
      repeat refine then_exit ?_
      refine block_exit ?_
      refine then_normal ?_
      refine walk_seqB 2 [.quiet (.int .i64 ((j : Nat) : Int)), .quiet (.int .i64 (((bl r : Nat) : Int) - 2 - ((m + 1 : Nat) : Int)))] H11 ?ho9 ?he9
      case ho9 => exact ak (fun _ => ⟨rfl, fun _ _ => rfl⟩) (ak (by refine fun γ => ⟨rfl, fun w' h => ?_⟩; clear h; go_simp; rw [IntKind.wrap_i64]; omega) trivial)
      intro _ w12 H12
      clear H11
      refine rest_at (l := [2]) rfl ?_
      refine rest_set (d := 9) rfl rfl rfl rfl ?_
      simp only [Act.put, sa, sz, ss]
      refine rest_nil (then_normal ?_)
      exact ⟨m + 1, ⟨(slotfn [undef, undef, undef, undef, undef, undef, undef, undef, undef, undef, PT γ5_6 0, U (tR p (wsm p r X Y X' Y' Z m).2.1 (wsm p r X Y X' Y' Z m).2.2.2), undef, undef, undef, undef, undef, undef, undef, .int .i64 ((j : Nat) : Int), .bool true, .int .i64 ((j : Nat) : Int), .int .i64 (((bl r : Nat) : Int) - 2 - ((m + 1 : Nat) : Int)), .tuple #[.agg (tr ((twT p (wsm p r X Y X' Y' Z m).2).1) ((twT p (wsm p r X Y X' Y' Z m).2).2.1) ((twT p (wsm p r X Y X' Y' Z m).2).2.2)).toArray, U (tR p (wsm p r X Y X' Y' Z m).2.1 (wsm p r X Y X' Y' Z m).2.2.2)], .agg (kd p r c gx gy).toArray, .agg (tc (wsm p r X Y X' Y' Z m).2).toArray, .tuple #[.agg (tr ((twT p (wsm p r X Y X' Y' Z m).2).1) ((twT p (wsm p r X Y X' Y' Z m).2).2.1) ((twT p (wsm p r X Y X' Y' Z m).2).2.2)).toArray, U (tR p (wsm p r X Y X' Y' Z m).2.1 (wsm p r X Y X' Y' Z m).2.2.2)], .agg (tr ((twT p (wsm p r X Y X' Y' Z m).2).1) ((twT p (wsm p r X Y X' Y' Z m).2).2.1) ((twT p (wsm p r X Y X' Y' Z m).2).2.2)).toArray, U (tR p (wsm p r X Y X' Y' Z m).2.1 (wsm p r X Y X' Y' Z m).2.2.2), .agg (kd p r c gx gy).toArray, .agg (kd p r c gx gy).toArray, .agg (lc (wsm p r X Y X' Y' Z m).1).toArray, .agg (lc (wsm p r X Y X' Y' Z m).1).toArray, .agg (l2 ((pd p (wsm p r X Y X' Y' Z m).1 (wsm p r X Y X' Y' Z m).1).1) ((pd p (wsm p r X Y X' Y' Z m).1 (wsm p r X Y X' Y' Z m).1).2)).toArray, .agg (kd p r c gx gy).toArray, .agg (tc (wsm p r X Y X' Y' Z m).2).toArray, .agg (tr ((twT p (wsm p r X Y X' Y' Z m).2).1) ((twT p (wsm p r X Y X' Y' Z m).2).2.1) ((twT p (wsm p r X Y X' Y' Z m).2).2.2)).toArray, U (tR p (wsm p r X Y X' Y' Z m).2.1 (wsm p r X Y X' Y' Z m).2.2.2), .agg (pt X' Y' Z').toArray, .agg (l2 ((lw p (wsm p r X Y X' Y' Z m).2 (twT p (wsm p r X Y X' Y' Z m).2).2.2 (tR p (wsm p r X Y X' Y' Z m).2.1 (wsm p r X Y X' Y' Z m).2.2.2) X' Y').1) ((lw p (wsm p r X Y X' Y' Z m).2 (twT p (wsm p r X Y X' Y' Z m).2).2.2 (tR p (wsm p r X Y X' Y' Z m).2.1 (wsm p r X Y X' Y' Z m).2.2.2) X' Y').2)).toArray, .agg (l2 ((f1 p (wsm p r X Y X' Y' Z m) X' Y').1) ((f1 p (wsm p r X Y X' Y' Z m) X' Y').2)).toArray, .agg (tr ((twT p (wsm p r X Y X' Y' Z m).2).1) ((twT p (wsm p r X Y X' Y' Z m).2).2.1) ((twT p (wsm p r X Y X' Y' Z m).2).2.2)).toArray, PT γ1_0 1, U r, .int .i64 ((j : Nat) : Int), U (r / 2 ^ j), U (r / 2 ^ j % 2), .bool true, .bool true, undef, undef, undef, undef, .bool true, s0 54, s0 55, s0 56, s0 57, s0 58, s0 59, s0 60, s0 61, s0 62, s0 63, s0 64, s0 65, s0 66, s0 67, s0 68, s0 69]), rfl, ⟨by rw [show wsm p r X Y X' Y' Z (m + 1) = _ from st_0 p X Y X' Y' Z _ (wsm p r X Y X' Y' Z m) (by rw [← hj]; exact hb)]; exact H12.out.1.pick [1, 2, 3, 4, 5, 6] rfl (by decide), H12.out.2⟩, by omega⟩, by omega⟩
    · have hrd : True := trivial
      clear hrd
      refine wp_seq (wp_seq ?_)
      refine walk_seqB 2 [.quiet (.int .i64 ((j : Nat) : Int)), .quiet (.bool true)] H4 ?ho10 ?he10
      case ho10 => exact ak (fun _ => ⟨rfl, fun _ _ => rfl⟩) (ak (by refine fun γ => ⟨rfl, fun w' h => ?_⟩; clear h; go_simp) trivial)
      intro _ w13 H13
      clear H4
      refine rest0 rfl (then_normal (wp_cond_true rfl ?_))
      refine wp_skip (then_normal ?_)
      refine wp_seq (wp_block (wp_seq ?_))
      refine walk_seqA 9 [.quiet (.agg (kd p r c gx gy).toArray), .quiet (.agg (tc (wsm p r X Y X' Y' Z m).2).toArray), .call (.tuple #[.agg (tr ((twT p (wsm p r X Y X' Y' Z m).2).1) ((twT p (wsm p r X Y X' Y' Z m).2).2.1) ((twT p (wsm p r X Y X' Y' Z m).2).2.2)).toArray, U (tR p (wsm p r X Y X' Y' Z m).2.1 (wsm p r X Y X' Y' Z m).2.2.2)]), .quiet (.tuple #[.agg (tr ((twT p (wsm p r X Y X' Y' Z m).2).1) ((twT p (wsm p r X Y X' Y' Z m).2).2.1) ((twT p (wsm p r X Y X' Y' Z m).2).2.2)).toArray, U (tR p (wsm p r X Y X' Y' Z m).2.1 (wsm p r X Y X' Y' Z m).2.2.2)]), .quiet (.agg (tr ((twT p (wsm p r X Y X' Y' Z m).2).1) ((twT p (wsm p r X Y X' Y' Z m).2).2.1) ((twT p (wsm p r X Y X' Y' Z m).2).2.2)).toArray), .quiet (U (tR p (wsm p r X Y X' Y' Z m).2.1 (wsm p r X Y X' Y' Z m).2.2.2)), .made (tr 0 0 0) 77, .laid 6 (tr 0 0 0) (tr ((twT p (wsm p r X Y X' Y' Z m).2).1) ((twT p (wsm p r X Y X' Y' Z m).2).2.1) ((twT p (wsm p r X Y X' Y' Z m).2).2.2)), .quiet (U (tR p (wsm p r X Y X' Y' Z m).2.1 (wsm p r X Y X' Y' Z m).2.2.2))] (sB H13) ?ho11 ?he11 (hL := ?hL11)
      case hL11 => exact ⟨⟨_, rfl⟩, trivial⟩
      case ho11 => exact ak (fun γ => ⟨rfl, fun w' h => ex_loadT h 2 rfl rfl rfl Try.isAgg72 Try.sizeOf72 rfl rfl⟩) (ak (fun γ => ⟨rfl, fun w' h => ex_loadT h 1 rfl rfl rfl Try.isAgg77 Try.sizeOf77 rfl rfl⟩) (ak (fun γ => ⟨rfl, fun w' h => ⟨70, #[.agg (kd p r c gx gy).toArray, .agg (tc (wsm p r X Y X' Y' Z m).2).toArray], exec_call rfl call70 rfl (mpn rfl), twice_any hp (wsm p r X Y X' Y' Z m).2 hw.t w'⟩⟩) (ak (fun _ => ⟨rfl, fun _ _ => rfl⟩) (ak (by refine fun γ => ⟨rfl, fun w' h => ?_⟩; clear h; go_simp) (ak (by refine fun γ => ⟨rfl, fun w' h => ?_⟩; clear h; go_simp) (ak (fun γ => ⟨rfl, fun w' => ex_made77 rfl⟩) (ak (fun γ => ⟨rfl, rfl, rfl, fun w' h => ex_laidT h rfl rfl Try.sizeOf77 rfl rfl rfl⟩) (ak (fun _ => ⟨rfl, fun _ _ => rfl⟩) trivial))))))))
      intro γ w14 l hM hl
      have H14 : Hid (Mm w14 [(γ 6, tr ((twT p (wsm p r X Y X' Y' Z m).2).1) ((twT p (wsm p r X Y X' Y' Z m).2).2.1) ((twT p (wsm p r X Y X' Y' Z m).2).2.2)), (γ2_3, lc (wsm p r X Y X' Y' Z m).1), (γ2_4, tc (wsm p r X Y X' Y' Z m).2), (γ1_0, kd p r c gx gy), (γ1_1, pt X Y Z), (γ1_2, pt X' Y' Z'), (γ1_3, l2 0 0)] ∧ _) := growB H13 hM (Nat.le_refl _) hl [6] rfl (by decide)
      have o11_6 := ownB H13 hM (Nat.le_refl _) hl (i := 6) rfl
      clear hM hl l H13
      generalize γ 6 = γ11_6 at H14 o11_6 ⊢
      clear γ
      refine rest0 rfl (then_normal (wp_seq ?_))
      refine walk_anyB 12 [.quiet (.agg (kd p r c gx gy).toArray), .quiet (.agg (kd p r c gx gy).toArray), .quiet (.agg (lc (wsm p r X Y X' Y' Z m).1).toArray), .quiet (.agg (lc (wsm p r X Y X' Y' Z m).1).toArray), .call (.agg (l2 ((pd p (wsm p r X Y X' Y' Z m).1 (wsm p r X Y X' Y' Z m).1).1) ((pd p (wsm p r X Y X' Y' Z m).1 (wsm p r X Y X' Y' Z m).1).2)).toArray), .quiet (.agg (kd p r c gx gy).toArray), .quiet (.agg (tc (wsm p r X Y X' Y' Z m).2).toArray), .quiet (.agg (tr ((twT p (wsm p r X Y X' Y' Z m).2).1) ((twT p (wsm p r X Y X' Y' Z m).2).2.1) ((twT p (wsm p r X Y X' Y' Z m).2).2.2)).toArray), .quiet (U (tR p (wsm p r X Y X' Y' Z m).2.1 (wsm p r X Y X' Y' Z m).2.2.2)), .quiet (.agg (pt X' Y' Z').toArray), .call (.agg (l2 ((lw p (wsm p r X Y X' Y' Z m).2 (twT p (wsm p r X Y X' Y' Z m).2).2.2 (tR p (wsm p r X Y X' Y' Z m).2.1 (wsm p r X Y X' Y' Z m).2.2.2) X' Y').1) ((lw p (wsm p r X Y X' Y' Z m).2 (twT p (wsm p r X Y X' Y' Z m).2).2.2 (tR p (wsm p r X Y X' Y' Z m).2.1 (wsm p r X Y X' Y' Z m).2.2.2) X' Y').2)).toArray), .call (.agg (l2 ((f1 p (wsm p r X Y X' Y' Z m) X' Y').1) ((f1 p (wsm p r X Y X' Y' Z m) X' Y').2)).toArray)] H14 ?ho12 ?he12
      case ho12 => exact ak (fun γ => ⟨rfl, fun w' h => ex_loadT h 3 rfl rfl rfl Try.isAgg72 Try.sizeOf72 rfl rfl⟩) (ak (fun γ => ⟨rfl, fun w' h => ex_loadT h 3 rfl rfl rfl Try.isAgg72 Try.sizeOf72 rfl rfl⟩) (ak (fun γ => ⟨rfl, fun w' h => ex_loadT h 1 rfl rfl rfl Try.isAgg49 Try.sizeOf49 rfl rfl⟩) (ak (fun γ => ⟨rfl, fun w' h => ex_loadT h 1 rfl rfl rfl Try.isAgg49 Try.sizeOf49 rfl rfl⟩) (ak (fun γ => ⟨rfl, fun w' h => ⟨63, #[.agg (kd p r c gx gy).toArray, .agg (lc (wsm p r X Y X' Y' Z m).1).toArray, .agg (lc (wsm p r X Y X' Y' Z m).1).toArray], exec_call rfl call63 rfl (mpn rfl), product_any hp (wsm p r X Y X' Y' Z m).1 (wsm p r X Y X' Y' Z m).1 hw.f hw.f w'⟩⟩) (ak (fun γ => ⟨rfl, fun w' h => ex_loadT h 3 rfl rfl rfl Try.isAgg72 Try.sizeOf72 rfl rfl⟩) (ak (fun γ => ⟨rfl, fun w' h => ex_loadT h 2 rfl rfl rfl Try.isAgg77 Try.sizeOf77 rfl rfl⟩) (ak (fun γ => ⟨rfl, fun w' h => ex_loadT h 0 rfl rfl rfl Try.isAgg77 Try.sizeOf77 rfl rfl⟩) (ak (fun _ => ⟨rfl, fun _ _ => rfl⟩) (ak (fun γ => ⟨rfl, fun w' h => ex_loadT h 5 rfl rfl rfl Try.isAgg25 Try.sizeOf25 rfl rfl⟩) (ak (fun γ => ⟨rfl, fun w' h => ⟨79, #[.agg (kd p r c gx gy).toArray, .agg (tc (wsm p r X Y X' Y' Z m).2).toArray, .agg (tr ((twT p (wsm p r X Y X' Y' Z m).2).1) ((twT p (wsm p r X Y X' Y' Z m).2).2.1) ((twT p (wsm p r X Y X' Y' Z m).2).2.2)).toArray, U (tR p (wsm p r X Y X' Y' Z m).2.1 (wsm p r X Y X' Y' Z m).2.2.2), .agg (pt X' Y' Z').toArray], exec_call rfl call79 rfl (mpn rfl), lineT_any hp (wsm p r X Y X' Y' Z m).2 hw.t _ _ _ (tw_lt hp _).z _ (pl_lt hp) X' Y' Z' hX' hY' w'⟩⟩) (ak (fun γ => ⟨rfl, fun w' h => ⟨63, #[.agg (kd p r c gx gy).toArray, .agg (l2 ((pd p (wsm p r X Y X' Y' Z m).1 (wsm p r X Y X' Y' Z m).1).1) ((pd p (wsm p r X Y X' Y' Z m).1 (wsm p r X Y X' Y' Z m).1).2)).toArray, .agg (l2 ((lw p (wsm p r X Y X' Y' Z m).2 (twT p (wsm p r X Y X' Y' Z m).2).2.2 (tR p (wsm p r X Y X' Y' Z m).2.1 (wsm p r X Y X' Y' Z m).2.2.2) X' Y').1) ((lw p (wsm p r X Y X' Y' Z m).2 (twT p (wsm p r X Y X' Y' Z m).2).2.2 (tR p (wsm p r X Y X' Y' Z m).2.1 (wsm p r X Y X' Y' Z m).2.2.2) X' Y').2)).toArray], exec_call rfl call63 rfl (mpn rfl), product_any hp (pd p (wsm p r X Y X' Y' Z m).1 (wsm p r X Y X' Y' Z m).1) (lw p (wsm p r X Y X' Y' Z m).2 (twT p (wsm p r X Y X' Y' Z m).2).2.2 (tR p (wsm p r X Y X' Y' Z m).2.1 (wsm p r X Y X' Y' Z m).2.2.2) X' Y') (pd_lt hp _ _) ⟨t2_lt hp, tm_lt hp⟩ w'⟩⟩) trivial)))))))))))
      intro _ w15 H15
      clear H14
      refine rest_at (l := [12]) rfl ?_
      refine rest_store rfl rfl rfl (ex_storeT (vs := l2 ((f1 p (wsm p r X Y X' Y' Z m) X' Y').1) ((f1 p (wsm p r X Y X' Y' Z m) X' Y').2)) H15.out.1 1 rfl rfl rfl rfl Try.sizeOf49 rfl (Nat.le_of_ble_eq_true rfl)) ?_
      have H16 : Hid (Mm (w15.setCells γ2_3 0 (l2 ((f1 p (wsm p r X Y X' Y' Z m) X' Y').1) ((f1 p (wsm p r X Y X' Y' Z m) X' Y').2))) [(γ11_6, tr ((twT p (wsm p r X Y X' Y' Z m).2).1) ((twT p (wsm p r X Y X' Y' Z m).2).2.1) ((twT p (wsm p r X Y X' Y' Z m).2).2.2)), (γ2_3, l2 ((f1 p (wsm p r X Y X' Y' Z m) X' Y').1) ((f1 p (wsm p r X Y X' Y' Z m) X' Y').2)), (γ2_4, tc (wsm p r X Y X' Y' Z m).2), (γ1_0, kd p r c gx gy), (γ1_1, pt X Y Z), (γ1_2, pt X' Y' Z'), (γ1_3, l2 0 0)] ∧ Below w.heap.size w (w15.setCells γ2_3 0 (l2 ((f1 p (wsm p r X Y X' Y' Z m) X' Y').1) ((f1 p (wsm p r X Y X' Y' Z m) X' Y').2)))) := ⟨H15.out.1.put 1 (off := 0) (vs := l2 ((f1 p (wsm p r X Y X' Y' Z m) X' Y').1) ((f1 p (wsm p r X Y X' Y' Z m) X' Y').2)) rfl (Nat.le_of_ble_eq_true rfl), below_setCells _ o2_3.out _ _ _ H15.out.2⟩
      clear H15
      generalize hgw : World.setCells _ _ _ _ = w16 at H16 ⊢
      clear hgw
      refine rest_nil (then_normal (wp_seq ?_))
      refine walk_seqB 1 [.quiet (.agg (tr ((twT p (wsm p r X Y X' Y' Z m).2).1) ((twT p (wsm p r X Y X' Y' Z m).2).2.1) ((twT p (wsm p r X Y X' Y' Z m).2).2.2)).toArray)] H16 ?ho13 ?he13
      case ho13 => exact ak (fun γ => ⟨rfl, fun w' h => ex_loadT h 0 rfl rfl rfl Try.isAgg77 Try.sizeOf77 rfl rfl⟩) trivial
      intro _ w17 H17
      clear H16
      refine rest_at (l := [1]) rfl ?_
      refine rest_store rfl rfl rfl (ex_storeT (vs := tr ((twT p (wsm p r X Y X' Y' Z m).2).1) ((twT p (wsm p r X Y X' Y' Z m).2).2.1) ((twT p (wsm p r X Y X' Y' Z m).2).2.2)) H17.out.1 2 rfl rfl rfl rfl Try.sizeOf77 rfl (Nat.le_of_ble_eq_true rfl)) ?_
      have H18 : Hid (Mm (w17.setCells γ2_4 0 (tr ((twT p (wsm p r X Y X' Y' Z m).2).1) ((twT p (wsm p r X Y X' Y' Z m).2).2.1) ((twT p (wsm p r X Y X' Y' Z m).2).2.2))) [(γ11_6, tr ((twT p (wsm p r X Y X' Y' Z m).2).1) ((twT p (wsm p r X Y X' Y' Z m).2).2.1) ((twT p (wsm p r X Y X' Y' Z m).2).2.2)), (γ2_3, l2 ((f1 p (wsm p r X Y X' Y' Z m) X' Y').1) ((f1 p (wsm p r X Y X' Y' Z m) X' Y').2)), (γ2_4, tr ((twT p (wsm p r X Y X' Y' Z m).2).1) ((twT p (wsm p r X Y X' Y' Z m).2).2.1) ((twT p (wsm p r X Y X' Y' Z m).2).2.2)), (γ1_0, kd p r c gx gy), (γ1_1, pt X Y Z), (γ1_2, pt X' Y' Z'), (γ1_3, l2 0 0)] ∧ Below w.heap.size w (w17.setCells γ2_4 0 (tr ((twT p (wsm p r X Y X' Y' Z m).2).1) ((twT p (wsm p r X Y X' Y' Z m).2).2.1) ((twT p (wsm p r X Y X' Y' Z m).2).2.2)))) := ⟨H17.out.1.put 2 (off := 0) (vs := tr ((twT p (wsm p r X Y X' Y' Z m).2).1) ((twT p (wsm p r X Y X' Y' Z m).2).2.1) ((twT p (wsm p r X Y X' Y' Z m).2).2.2)) rfl (Nat.le_of_ble_eq_true rfl), below_setCells _ o2_4.out _ _ _ H17.out.2⟩
      clear H17
      generalize hgw : World.setCells _ _ _ _ = w18 at H18 ⊢
      clear hgw
      refine rest_nil (then_normal ?_)
      refine wp_seq (wp_seq ?_)
      refine walk_seqB 12 [.quiet (PT γ1_0 1), .quiet (U r), .quiet (.int .i64 ((j : Nat) : Int)), .quiet (U (r / 2 ^ j)), .quiet (U (r / 2 ^ j % 2)), .quiet (.bool false), .quiet (.bool false), .quiet (.agg (kd p r c gx gy).toArray), .quiet (.agg (tr ((twT p (wsm p r X Y X' Y' Z m).2).1) ((twT p (wsm p r X Y X' Y' Z m).2).2.1) ((twT p (wsm p r X Y X' Y' Z m).2).2.2)).toArray), .quiet (.agg (pt X Y Z).toArray), .call (.bool true), .quiet (.bool true)] H18 ?ho14 ?he14
      case ho14 => exact ak (by refine fun γ => ⟨rfl, fun w' h => ?_⟩; clear h; go_simp) (ak (fun γ => ⟨rfl, fun w' h => ex_loadC h 3 rfl rfl rfl Try.isAgg23 rfl⟩) (ak (fun _ => ⟨rfl, fun _ _ => rfl⟩) (ak (fun γ => ⟨rfl, fun w' _ => ex_shrU (hjb) rfl rfl rfl⟩) (ak (fun γ => ⟨rfl, fun w' _ => ex_and1 rfl (Nat.lt_of_le_of_lt (Nat.div_le_self _ _) hr) rfl rfl⟩) (ak (fun γ => ⟨rfl, fun w' _ => ex_eqU rfl rfl rfl (decide_eq_false (hb))⟩) (ak (fun _ => ⟨rfl, fun _ _ => rfl⟩) (ak (fun γ => ⟨rfl, fun w' h => ex_loadT h 3 rfl rfl rfl Try.isAgg72 Try.sizeOf72 rfl rfl⟩) (ak (fun γ => ⟨rfl, fun w' h => ex_loadT h 2 rfl rfl rfl Try.isAgg77 Try.sizeOf77 rfl rfl⟩) (ak (fun γ => ⟨rfl, fun w' h => ex_loadT h 4 rfl rfl rfl Try.isAgg25 Try.sizeOf25 rfl rfl⟩) (ak (fun γ => ⟨rfl, fun w' h => ⟨80, #[.agg (kd p r c gx gy).toArray, .agg (tr ((twT p (wsm p r X Y X' Y' Z m).2).1) ((twT p (wsm p r X Y X' Y' Z m).2).2.1) ((twT p (wsm p r X Y X' Y' Z m).2).2.2)).toArray, .agg (pt X Y Z).toArray], exec_call rfl call80 rfl (mpn rfl), sx_is hp (twT p (wsm p r X Y X' Y' Z m).2) (tw_lt hp _) X Y Z hX _ hs w'⟩⟩) (ak (by refine fun γ => ⟨rfl, fun w' h => ?_⟩; clear h; go_simp) trivial)))))))))))
      intro _ w19 H19
      clear H18
      refine rest0 rfl (then_normal (wp_cond_true rfl ?_))
      refine wp_exit ?_
      repeat refine then_exit ?_
      refine block_exit ?_
      refine then_normal ?_
      refine walk_seqB 2 [.quiet (.int .i64 ((j : Nat) : Int)), .quiet (.int .i64 (((bl r : Nat) : Int) - 2 - ((m + 1 : Nat) : Int)))] H19 ?ho15 ?he15
      case ho15 => exact ak (fun _ => ⟨rfl, fun _ _ => rfl⟩) (ak (by refine fun γ => ⟨rfl, fun w' h => ?_⟩; clear h; go_simp; rw [IntKind.wrap_i64]; omega) trivial)
      intro _ w20 H20
      clear H19
      refine rest_at (l := [2]) rfl ?_
      refine rest_set (d := 9) rfl rfl rfl rfl ?_
      simp only [Act.put, sa, sz, ss]
      refine rest_nil (then_normal ?_)
      exact ⟨m + 1, ⟨(slotfn [undef, undef, undef, undef, undef, undef, undef, undef, undef, undef, PT γ11_6 0, U (tR p (wsm p r X Y X' Y' Z m).2.1 (wsm p r X Y X' Y' Z m).2.2.2), undef, undef, undef, undef, undef, undef, undef, .int .i64 ((j : Nat) : Int), .bool true, .int .i64 ((j : Nat) : Int), .int .i64 (((bl r : Nat) : Int) - 2 - ((m + 1 : Nat) : Int)), .tuple #[.agg (tr ((twT p (wsm p r X Y X' Y' Z m).2).1) ((twT p (wsm p r X Y X' Y' Z m).2).2.1) ((twT p (wsm p r X Y X' Y' Z m).2).2.2)).toArray, U (tR p (wsm p r X Y X' Y' Z m).2.1 (wsm p r X Y X' Y' Z m).2.2.2)], .agg (kd p r c gx gy).toArray, .agg (tc (wsm p r X Y X' Y' Z m).2).toArray, .tuple #[.agg (tr ((twT p (wsm p r X Y X' Y' Z m).2).1) ((twT p (wsm p r X Y X' Y' Z m).2).2.1) ((twT p (wsm p r X Y X' Y' Z m).2).2.2)).toArray, U (tR p (wsm p r X Y X' Y' Z m).2.1 (wsm p r X Y X' Y' Z m).2.2.2)], .agg (tr ((twT p (wsm p r X Y X' Y' Z m).2).1) ((twT p (wsm p r X Y X' Y' Z m).2).2.1) ((twT p (wsm p r X Y X' Y' Z m).2).2.2)).toArray, U (tR p (wsm p r X Y X' Y' Z m).2.1 (wsm p r X Y X' Y' Z m).2.2.2), .agg (kd p r c gx gy).toArray, .agg (kd p r c gx gy).toArray, .agg (lc (wsm p r X Y X' Y' Z m).1).toArray, .agg (lc (wsm p r X Y X' Y' Z m).1).toArray, .agg (l2 ((pd p (wsm p r X Y X' Y' Z m).1 (wsm p r X Y X' Y' Z m).1).1) ((pd p (wsm p r X Y X' Y' Z m).1 (wsm p r X Y X' Y' Z m).1).2)).toArray, .agg (kd p r c gx gy).toArray, .agg (tc (wsm p r X Y X' Y' Z m).2).toArray, .agg (tr ((twT p (wsm p r X Y X' Y' Z m).2).1) ((twT p (wsm p r X Y X' Y' Z m).2).2.1) ((twT p (wsm p r X Y X' Y' Z m).2).2.2)).toArray, U (tR p (wsm p r X Y X' Y' Z m).2.1 (wsm p r X Y X' Y' Z m).2.2.2), .agg (pt X' Y' Z').toArray, .agg (l2 ((lw p (wsm p r X Y X' Y' Z m).2 (twT p (wsm p r X Y X' Y' Z m).2).2.2 (tR p (wsm p r X Y X' Y' Z m).2.1 (wsm p r X Y X' Y' Z m).2.2.2) X' Y').1) ((lw p (wsm p r X Y X' Y' Z m).2 (twT p (wsm p r X Y X' Y' Z m).2).2.2 (tR p (wsm p r X Y X' Y' Z m).2.1 (wsm p r X Y X' Y' Z m).2.2.2) X' Y').2)).toArray, .agg (l2 ((f1 p (wsm p r X Y X' Y' Z m) X' Y').1) ((f1 p (wsm p r X Y X' Y' Z m) X' Y').2)).toArray, .agg (tr ((twT p (wsm p r X Y X' Y' Z m).2).1) ((twT p (wsm p r X Y X' Y' Z m).2).2.1) ((twT p (wsm p r X Y X' Y' Z m).2).2.2)).toArray, PT γ1_0 1, U r, .int .i64 ((j : Nat) : Int), U (r / 2 ^ j), U (r / 2 ^ j % 2), .bool false, .bool false, .agg (kd p r c gx gy).toArray, .agg (tr ((twT p (wsm p r X Y X' Y' Z m).2).1) ((twT p (wsm p r X Y X' Y' Z m).2).2.1) ((twT p (wsm p r X Y X' Y' Z m).2).2.2)).toArray, .agg (pt X Y Z).toArray, .bool true, .bool true, s0 54, s0 55, s0 56, s0 57, s0 58, s0 59, s0 60, s0 61, s0 62, s0 63, s0 64, s0 65, s0 66, s0 67, s0 68, s0 69]), rfl, ⟨by rw [show wsm p r X Y X' Y' Z (m + 1) = _ from st_s p X Y X' Y' Z _ (wsm p r X Y X' Y' Z m) hs]; exact H20.out.1.pick [1, 2, 3, 4, 5, 6] rfl (by decide), H20.out.2⟩, by omega⟩, by omega⟩
    · have hrd : True := trivial
      clear hrd
      refine wp_seq (wp_seq ?_)
      refine walk_seqB 2 [.quiet (.int .i64 ((j : Nat) : Int)), .quiet (.bool true)] H4 ?ho16 ?he16
      case ho16 => exact ak (fun _ => ⟨rfl, fun _ _ => rfl⟩) (ak (by refine fun γ => ⟨rfl, fun w' h => ?_⟩; clear h; go_simp) trivial)
      intro _ w21 H21
      clear H4
      refine rest0 rfl (then_normal (wp_cond_true rfl ?_))
      refine wp_skip (then_normal ?_)
      refine wp_seq (wp_block (wp_seq ?_))
      refine walk_seqA 9 [.quiet (.agg (kd p r c gx gy).toArray), .quiet (.agg (tc (wsm p r X Y X' Y' Z m).2).toArray), .call (.tuple #[.agg (tr ((twT p (wsm p r X Y X' Y' Z m).2).1) ((twT p (wsm p r X Y X' Y' Z m).2).2.1) ((twT p (wsm p r X Y X' Y' Z m).2).2.2)).toArray, U (tR p (wsm p r X Y X' Y' Z m).2.1 (wsm p r X Y X' Y' Z m).2.2.2)]), .quiet (.tuple #[.agg (tr ((twT p (wsm p r X Y X' Y' Z m).2).1) ((twT p (wsm p r X Y X' Y' Z m).2).2.1) ((twT p (wsm p r X Y X' Y' Z m).2).2.2)).toArray, U (tR p (wsm p r X Y X' Y' Z m).2.1 (wsm p r X Y X' Y' Z m).2.2.2)]), .quiet (.agg (tr ((twT p (wsm p r X Y X' Y' Z m).2).1) ((twT p (wsm p r X Y X' Y' Z m).2).2.1) ((twT p (wsm p r X Y X' Y' Z m).2).2.2)).toArray), .quiet (U (tR p (wsm p r X Y X' Y' Z m).2.1 (wsm p r X Y X' Y' Z m).2.2.2)), .made (tr 0 0 0) 77, .laid 6 (tr 0 0 0) (tr ((twT p (wsm p r X Y X' Y' Z m).2).1) ((twT p (wsm p r X Y X' Y' Z m).2).2.1) ((twT p (wsm p r X Y X' Y' Z m).2).2.2)), .quiet (U (tR p (wsm p r X Y X' Y' Z m).2.1 (wsm p r X Y X' Y' Z m).2.2.2))] (sB H21) ?ho17 ?he17 (hL := ?hL17)
      case hL17 => exact ⟨⟨_, rfl⟩, trivial⟩
      case ho17 => exact ak (fun γ => ⟨rfl, fun w' h => ex_loadT h 2 rfl rfl rfl Try.isAgg72 Try.sizeOf72 rfl rfl⟩) (ak (fun γ => ⟨rfl, fun w' h => ex_loadT h 1 rfl rfl rfl Try.isAgg77 Try.sizeOf77 rfl rfl⟩) (ak (fun γ => ⟨rfl, fun w' h => ⟨70, #[.agg (kd p r c gx gy).toArray, .agg (tc (wsm p r X Y X' Y' Z m).2).toArray], exec_call rfl call70 rfl (mpn rfl), twice_any hp (wsm p r X Y X' Y' Z m).2 hw.t w'⟩⟩) (ak (fun _ => ⟨rfl, fun _ _ => rfl⟩) (ak (by refine fun γ => ⟨rfl, fun w' h => ?_⟩; clear h; go_simp) (ak (by refine fun γ => ⟨rfl, fun w' h => ?_⟩; clear h; go_simp) (ak (fun γ => ⟨rfl, fun w' => ex_made77 rfl⟩) (ak (fun γ => ⟨rfl, rfl, rfl, fun w' h => ex_laidT h rfl rfl Try.sizeOf77 rfl rfl rfl⟩) (ak (fun _ => ⟨rfl, fun _ _ => rfl⟩) trivial))))))))
      intro γ w22 l hM hl
      have H22 : Hid (Mm w22 [(γ 6, tr ((twT p (wsm p r X Y X' Y' Z m).2).1) ((twT p (wsm p r X Y X' Y' Z m).2).2.1) ((twT p (wsm p r X Y X' Y' Z m).2).2.2)), (γ2_3, lc (wsm p r X Y X' Y' Z m).1), (γ2_4, tc (wsm p r X Y X' Y' Z m).2), (γ1_0, kd p r c gx gy), (γ1_1, pt X Y Z), (γ1_2, pt X' Y' Z'), (γ1_3, l2 0 0)] ∧ _) := growB H21 hM (Nat.le_refl _) hl [6] rfl (by decide)
      have o17_6 := ownB H21 hM (Nat.le_refl _) hl (i := 6) rfl
      clear hM hl l H21
      generalize γ 6 = γ17_6 at H22 o17_6 ⊢
      clear γ
      refine rest0 rfl (then_normal (wp_seq ?_))
      refine walk_anyB 12 [.quiet (.agg (kd p r c gx gy).toArray), .quiet (.agg (kd p r c gx gy).toArray), .quiet (.agg (lc (wsm p r X Y X' Y' Z m).1).toArray), .quiet (.agg (lc (wsm p r X Y X' Y' Z m).1).toArray), .call (.agg (l2 ((pd p (wsm p r X Y X' Y' Z m).1 (wsm p r X Y X' Y' Z m).1).1) ((pd p (wsm p r X Y X' Y' Z m).1 (wsm p r X Y X' Y' Z m).1).2)).toArray), .quiet (.agg (kd p r c gx gy).toArray), .quiet (.agg (tc (wsm p r X Y X' Y' Z m).2).toArray), .quiet (.agg (tr ((twT p (wsm p r X Y X' Y' Z m).2).1) ((twT p (wsm p r X Y X' Y' Z m).2).2.1) ((twT p (wsm p r X Y X' Y' Z m).2).2.2)).toArray), .quiet (U (tR p (wsm p r X Y X' Y' Z m).2.1 (wsm p r X Y X' Y' Z m).2.2.2)), .quiet (.agg (pt X' Y' Z').toArray), .call (.agg (l2 ((lw p (wsm p r X Y X' Y' Z m).2 (twT p (wsm p r X Y X' Y' Z m).2).2.2 (tR p (wsm p r X Y X' Y' Z m).2.1 (wsm p r X Y X' Y' Z m).2.2.2) X' Y').1) ((lw p (wsm p r X Y X' Y' Z m).2 (twT p (wsm p r X Y X' Y' Z m).2).2.2 (tR p (wsm p r X Y X' Y' Z m).2.1 (wsm p r X Y X' Y' Z m).2.2.2) X' Y').2)).toArray), .call (.agg (l2 ((f1 p (wsm p r X Y X' Y' Z m) X' Y').1) ((f1 p (wsm p r X Y X' Y' Z m) X' Y').2)).toArray)] H22 ?ho18 ?he18
      case ho18 => exact ak (fun γ => ⟨rfl, fun w' h => ex_loadT h 3 rfl rfl rfl Try.isAgg72 Try.sizeOf72 rfl rfl⟩) (ak (fun γ => ⟨rfl, fun w' h => ex_loadT h 3 rfl rfl rfl Try.isAgg72 Try.sizeOf72 rfl rfl⟩) (ak (fun γ => ⟨rfl, fun w' h => ex_loadT h 1 rfl rfl rfl Try.isAgg49 Try.sizeOf49 rfl rfl⟩) (ak (fun γ => ⟨rfl, fun w' h => ex_loadT h 1 rfl rfl rfl Try.isAgg49 Try.sizeOf49 rfl rfl⟩) (ak (fun γ => ⟨rfl, fun w' h => ⟨63, #[.agg (kd p r c gx gy).toArray, .agg (lc (wsm p r X Y X' Y' Z m).1).toArray, .agg (lc (wsm p r X Y X' Y' Z m).1).toArray], exec_call rfl call63 rfl (mpn rfl), product_any hp (wsm p r X Y X' Y' Z m).1 (wsm p r X Y X' Y' Z m).1 hw.f hw.f w'⟩⟩) (ak (fun γ => ⟨rfl, fun w' h => ex_loadT h 3 rfl rfl rfl Try.isAgg72 Try.sizeOf72 rfl rfl⟩) (ak (fun γ => ⟨rfl, fun w' h => ex_loadT h 2 rfl rfl rfl Try.isAgg77 Try.sizeOf77 rfl rfl⟩) (ak (fun γ => ⟨rfl, fun w' h => ex_loadT h 0 rfl rfl rfl Try.isAgg77 Try.sizeOf77 rfl rfl⟩) (ak (fun _ => ⟨rfl, fun _ _ => rfl⟩) (ak (fun γ => ⟨rfl, fun w' h => ex_loadT h 5 rfl rfl rfl Try.isAgg25 Try.sizeOf25 rfl rfl⟩) (ak (fun γ => ⟨rfl, fun w' h => ⟨79, #[.agg (kd p r c gx gy).toArray, .agg (tc (wsm p r X Y X' Y' Z m).2).toArray, .agg (tr ((twT p (wsm p r X Y X' Y' Z m).2).1) ((twT p (wsm p r X Y X' Y' Z m).2).2.1) ((twT p (wsm p r X Y X' Y' Z m).2).2.2)).toArray, U (tR p (wsm p r X Y X' Y' Z m).2.1 (wsm p r X Y X' Y' Z m).2.2.2), .agg (pt X' Y' Z').toArray], exec_call rfl call79 rfl (mpn rfl), lineT_any hp (wsm p r X Y X' Y' Z m).2 hw.t _ _ _ (tw_lt hp _).z _ (pl_lt hp) X' Y' Z' hX' hY' w'⟩⟩) (ak (fun γ => ⟨rfl, fun w' h => ⟨63, #[.agg (kd p r c gx gy).toArray, .agg (l2 ((pd p (wsm p r X Y X' Y' Z m).1 (wsm p r X Y X' Y' Z m).1).1) ((pd p (wsm p r X Y X' Y' Z m).1 (wsm p r X Y X' Y' Z m).1).2)).toArray, .agg (l2 ((lw p (wsm p r X Y X' Y' Z m).2 (twT p (wsm p r X Y X' Y' Z m).2).2.2 (tR p (wsm p r X Y X' Y' Z m).2.1 (wsm p r X Y X' Y' Z m).2.2.2) X' Y').1) ((lw p (wsm p r X Y X' Y' Z m).2 (twT p (wsm p r X Y X' Y' Z m).2).2.2 (tR p (wsm p r X Y X' Y' Z m).2.1 (wsm p r X Y X' Y' Z m).2.2.2) X' Y').2)).toArray], exec_call rfl call63 rfl (mpn rfl), product_any hp (pd p (wsm p r X Y X' Y' Z m).1 (wsm p r X Y X' Y' Z m).1) (lw p (wsm p r X Y X' Y' Z m).2 (twT p (wsm p r X Y X' Y' Z m).2).2.2 (tR p (wsm p r X Y X' Y' Z m).2.1 (wsm p r X Y X' Y' Z m).2.2.2) X' Y') (pd_lt hp _ _) ⟨t2_lt hp, tm_lt hp⟩ w'⟩⟩) trivial)))))))))))
      intro _ w23 H23
      clear H22
      refine rest_at (l := [12]) rfl ?_
      refine rest_store rfl rfl rfl (ex_storeT (vs := l2 ((f1 p (wsm p r X Y X' Y' Z m) X' Y').1) ((f1 p (wsm p r X Y X' Y' Z m) X' Y').2)) H23.out.1 1 rfl rfl rfl rfl Try.sizeOf49 rfl (Nat.le_of_ble_eq_true rfl)) ?_
      have H24 : Hid (Mm (w23.setCells γ2_3 0 (l2 ((f1 p (wsm p r X Y X' Y' Z m) X' Y').1) ((f1 p (wsm p r X Y X' Y' Z m) X' Y').2))) [(γ17_6, tr ((twT p (wsm p r X Y X' Y' Z m).2).1) ((twT p (wsm p r X Y X' Y' Z m).2).2.1) ((twT p (wsm p r X Y X' Y' Z m).2).2.2)), (γ2_3, l2 ((f1 p (wsm p r X Y X' Y' Z m) X' Y').1) ((f1 p (wsm p r X Y X' Y' Z m) X' Y').2)), (γ2_4, tc (wsm p r X Y X' Y' Z m).2), (γ1_0, kd p r c gx gy), (γ1_1, pt X Y Z), (γ1_2, pt X' Y' Z'), (γ1_3, l2 0 0)] ∧ Below w.heap.size w (w23.setCells γ2_3 0 (l2 ((f1 p (wsm p r X Y X' Y' Z m) X' Y').1) ((f1 p (wsm p r X Y X' Y' Z m) X' Y').2)))) := ⟨H23.out.1.put 1 (off := 0) (vs := l2 ((f1 p (wsm p r X Y X' Y' Z m) X' Y').1) ((f1 p (wsm p r X Y X' Y' Z m) X' Y').2)) rfl (Nat.le_of_ble_eq_true rfl), below_setCells _ o2_3.out _ _ _ H23.out.2⟩
      clear H23
      generalize hgw : World.setCells _ _ _ _ = w24 at H24 ⊢
      clear hgw
      refine rest_nil (then_normal (wp_seq ?_))
      refine walk_seqB 1 [.quiet (.agg (tr ((twT p (wsm p r X Y X' Y' Z m).2).1) ((twT p (wsm p r X Y X' Y' Z m).2).2.1) ((twT p (wsm p r X Y X' Y' Z m).2).2.2)).toArray)] H24 ?ho19 ?he19
      case ho19 => exact ak (fun γ => ⟨rfl, fun w' h => ex_loadT h 0 rfl rfl rfl Try.isAgg77 Try.sizeOf77 rfl rfl⟩) trivial
      intro _ w25 H25
      clear H24
      refine rest_at (l := [1]) rfl ?_
      refine rest_store rfl rfl rfl (ex_storeT (vs := tr ((twT p (wsm p r X Y X' Y' Z m).2).1) ((twT p (wsm p r X Y X' Y' Z m).2).2.1) ((twT p (wsm p r X Y X' Y' Z m).2).2.2)) H25.out.1 2 rfl rfl rfl rfl Try.sizeOf77 rfl (Nat.le_of_ble_eq_true rfl)) ?_
      have H26 : Hid (Mm (w25.setCells γ2_4 0 (tr ((twT p (wsm p r X Y X' Y' Z m).2).1) ((twT p (wsm p r X Y X' Y' Z m).2).2.1) ((twT p (wsm p r X Y X' Y' Z m).2).2.2))) [(γ17_6, tr ((twT p (wsm p r X Y X' Y' Z m).2).1) ((twT p (wsm p r X Y X' Y' Z m).2).2.1) ((twT p (wsm p r X Y X' Y' Z m).2).2.2)), (γ2_3, l2 ((f1 p (wsm p r X Y X' Y' Z m) X' Y').1) ((f1 p (wsm p r X Y X' Y' Z m) X' Y').2)), (γ2_4, tr ((twT p (wsm p r X Y X' Y' Z m).2).1) ((twT p (wsm p r X Y X' Y' Z m).2).2.1) ((twT p (wsm p r X Y X' Y' Z m).2).2.2)), (γ1_0, kd p r c gx gy), (γ1_1, pt X Y Z), (γ1_2, pt X' Y' Z'), (γ1_3, l2 0 0)] ∧ Below w.heap.size w (w25.setCells γ2_4 0 (tr ((twT p (wsm p r X Y X' Y' Z m).2).1) ((twT p (wsm p r X Y X' Y' Z m).2).2.1) ((twT p (wsm p r X Y X' Y' Z m).2).2.2)))) := ⟨H25.out.1.put 2 (off := 0) (vs := tr ((twT p (wsm p r X Y X' Y' Z m).2).1) ((twT p (wsm p r X Y X' Y' Z m).2).2.1) ((twT p (wsm p r X Y X' Y' Z m).2).2.2)) rfl (Nat.le_of_ble_eq_true rfl), below_setCells _ o2_4.out _ _ _ H25.out.2⟩
      clear H25
      generalize hgw : World.setCells _ _ _ _ = w26 at H26 ⊢
      clear hgw
      refine rest_nil (then_normal ?_)
      refine wp_seq (wp_seq ?_)
      refine walk_seqB 12 [.quiet (PT γ1_0 1), .quiet (U r), .quiet (.int .i64 ((j : Nat) : Int)), .quiet (U (r / 2 ^ j)), .quiet (U (r / 2 ^ j % 2)), .quiet (.bool false), .quiet (.bool false), .quiet (.agg (kd p r c gx gy).toArray), .quiet (.agg (tr ((twT p (wsm p r X Y X' Y' Z m).2).1) ((twT p (wsm p r X Y X' Y' Z m).2).2.1) ((twT p (wsm p r X Y X' Y' Z m).2).2.2)).toArray), .quiet (.agg (pt X Y Z).toArray), .call (.bool false), .quiet (.bool false)] H26 ?ho20 ?he20
      case ho20 => exact ak (by refine fun γ => ⟨rfl, fun w' h => ?_⟩; clear h; go_simp) (ak (fun γ => ⟨rfl, fun w' h => ex_loadC h 3 rfl rfl rfl Try.isAgg23 rfl⟩) (ak (fun _ => ⟨rfl, fun _ _ => rfl⟩) (ak (fun γ => ⟨rfl, fun w' _ => ex_shrU (hjb) rfl rfl rfl⟩) (ak (fun γ => ⟨rfl, fun w' _ => ex_and1 rfl (Nat.lt_of_le_of_lt (Nat.div_le_self _ _) hr) rfl rfl⟩) (ak (fun γ => ⟨rfl, fun w' _ => ex_eqU rfl rfl rfl (decide_eq_false (hb))⟩) (ak (fun _ => ⟨rfl, fun _ _ => rfl⟩) (ak (fun γ => ⟨rfl, fun w' h => ex_loadT h 3 rfl rfl rfl Try.isAgg72 Try.sizeOf72 rfl rfl⟩) (ak (fun γ => ⟨rfl, fun w' h => ex_loadT h 2 rfl rfl rfl Try.isAgg77 Try.sizeOf77 rfl rfl⟩) (ak (fun γ => ⟨rfl, fun w' h => ex_loadT h 4 rfl rfl rfl Try.isAgg25 Try.sizeOf25 rfl rfl⟩) (ak (fun γ => ⟨rfl, fun w' h => ⟨80, #[.agg (kd p r c gx gy).toArray, .agg (tr ((twT p (wsm p r X Y X' Y' Z m).2).1) ((twT p (wsm p r X Y X' Y' Z m).2).2.1) ((twT p (wsm p r X Y X' Y' Z m).2).2.2)).toArray, .agg (pt X Y Z).toArray], exec_call rfl call80 rfl (mpn rfl), sx_is hp (twT p (wsm p r X Y X' Y' Z m).2) (tw_lt hp _) X Y Z hX _ hs w'⟩⟩) (ak (by refine fun γ => ⟨rfl, fun w' h => ?_⟩; clear h; go_simp) trivial)))))))))))
      intro _ w27 H27
      clear H26
      refine rest0 rfl (then_normal (wp_cond_false rfl ?_))
      refine wp_skip (then_normal (wp_seq ?_))
      refine walk_seqB 7 [.quiet (.agg (kd p r c gx gy).toArray), .quiet (.agg (tr ((twT p (wsm p r X Y X' Y' Z m).2).1) ((twT p (wsm p r X Y X' Y' Z m).2).2.1) ((twT p (wsm p r X Y X' Y' Z m).2).2.2)).toArray), .quiet (.agg (pt X Y Z).toArray), .call (.tuple #[.agg (tr ((jnT p (twT p (wsm p r X Y X' Y' Z m).2) X Y Z).1) ((jnT p (twT p (wsm p r X Y X' Y' Z m).2) X Y Z).2.1) ((jnT p (twT p (wsm p r X Y X' Y' Z m).2) X Y Z).2.2)).toArray, U (jnR p (twT p (wsm p r X Y X' Y' Z m).2) X Y Z)]), .quiet (.tuple #[.agg (tr ((jnT p (twT p (wsm p r X Y X' Y' Z m).2) X Y Z).1) ((jnT p (twT p (wsm p r X Y X' Y' Z m).2) X Y Z).2.1) ((jnT p (twT p (wsm p r X Y X' Y' Z m).2) X Y Z).2.2)).toArray, U (jnR p (twT p (wsm p r X Y X' Y' Z m).2) X Y Z)]), .quiet (.agg (tr ((jnT p (twT p (wsm p r X Y X' Y' Z m).2) X Y Z).1) ((jnT p (twT p (wsm p r X Y X' Y' Z m).2) X Y Z).2.1) ((jnT p (twT p (wsm p r X Y X' Y' Z m).2) X Y Z).2.2)).toArray), .quiet (U (jnR p (twT p (wsm p r X Y X' Y' Z m).2) X Y Z))] H27 ?ho21 ?he21
      case ho21 => exact ak (fun γ => ⟨rfl, fun w' h => ex_loadT h 3 rfl rfl rfl Try.isAgg72 Try.sizeOf72 rfl rfl⟩) (ak (fun γ => ⟨rfl, fun w' h => ex_loadT h 2 rfl rfl rfl Try.isAgg77 Try.sizeOf77 rfl rfl⟩) (ak (fun γ => ⟨rfl, fun w' h => ex_loadT h 4 rfl rfl rfl Try.isAgg25 Try.sizeOf25 rfl rfl⟩) (ak (fun γ => ⟨rfl, fun w' h => ⟨44, #[.agg (kd p r c gx gy).toArray, .agg (tr ((twT p (wsm p r X Y X' Y' Z m).2).1) ((twT p (wsm p r X Y X' Y' Z m).2).2.1) ((twT p (wsm p r X Y X' Y' Z m).2).2.2)).toArray, .agg (pt X Y Z).toArray], exec_call rfl call44 rfl (mpn rfl), joined_any hp (twT p (wsm p r X Y X' Y' Z m).2) (tw_lt hp _) X Y Z hX hY w'⟩⟩) (ak (fun _ => ⟨rfl, fun _ _ => rfl⟩) (ak (by refine fun γ => ⟨rfl, fun w' h => ?_⟩; clear h; go_simp) (ak (by refine fun γ => ⟨rfl, fun w' h => ?_⟩; clear h; go_simp) trivial))))))
      intro _ w28 H28
      clear H27
      refine rest_at (l := [7, 8]) rfl ?_
      refine rest_store rfl rfl rfl (ex_storeT (vs := tr ((jnT p (twT p (wsm p r X Y X' Y' Z m).2) X Y Z).1) ((jnT p (twT p (wsm p r X Y X' Y' Z m).2) X Y Z).2.1) ((jnT p (twT p (wsm p r X Y X' Y' Z m).2) X Y Z).2.2)) H28.out.1 2 rfl rfl rfl rfl Try.sizeOf77 rfl (Nat.le_of_ble_eq_true rfl)) ?_
      have H29 : Hid (Mm (w28.setCells γ2_4 0 (tr ((jnT p (twT p (wsm p r X Y X' Y' Z m).2) X Y Z).1) ((jnT p (twT p (wsm p r X Y X' Y' Z m).2) X Y Z).2.1) ((jnT p (twT p (wsm p r X Y X' Y' Z m).2) X Y Z).2.2))) [(γ17_6, tr ((twT p (wsm p r X Y X' Y' Z m).2).1) ((twT p (wsm p r X Y X' Y' Z m).2).2.1) ((twT p (wsm p r X Y X' Y' Z m).2).2.2)), (γ2_3, l2 ((f1 p (wsm p r X Y X' Y' Z m) X' Y').1) ((f1 p (wsm p r X Y X' Y' Z m) X' Y').2)), (γ2_4, tr ((jnT p (twT p (wsm p r X Y X' Y' Z m).2) X Y Z).1) ((jnT p (twT p (wsm p r X Y X' Y' Z m).2) X Y Z).2.1) ((jnT p (twT p (wsm p r X Y X' Y' Z m).2) X Y Z).2.2)), (γ1_0, kd p r c gx gy), (γ1_1, pt X Y Z), (γ1_2, pt X' Y' Z'), (γ1_3, l2 0 0)] ∧ Below w.heap.size w (w28.setCells γ2_4 0 (tr ((jnT p (twT p (wsm p r X Y X' Y' Z m).2) X Y Z).1) ((jnT p (twT p (wsm p r X Y X' Y' Z m).2) X Y Z).2.1) ((jnT p (twT p (wsm p r X Y X' Y' Z m).2) X Y Z).2.2)))) := ⟨H28.out.1.put 2 (off := 0) (vs := tr ((jnT p (twT p (wsm p r X Y X' Y' Z m).2) X Y Z).1) ((jnT p (twT p (wsm p r X Y X' Y' Z m).2) X Y Z).2.1) ((jnT p (twT p (wsm p r X Y X' Y' Z m).2) X Y Z).2.2)) rfl (Nat.le_of_ble_eq_true rfl), below_setCells _ o2_4.out _ _ _ H28.out.2⟩
      clear H28
      generalize hgw : World.setCells _ _ _ _ = w29 at H29 ⊢
      clear hgw
      refine rest_set (d := 11) rfl rfl rfl rfl ?_
      simp only [Act.put, sa, sz, ss]
      refine rest_nil (then_normal ?_)
      refine walk_anyB 9 [.quiet (.agg (kd p r c gx gy).toArray), .quiet (.agg (l2 ((f1 p (wsm p r X Y X' Y' Z m) X' Y').1) ((f1 p (wsm p r X Y X' Y' Z m) X' Y').2)).toArray), .quiet (.agg (kd p r c gx gy).toArray), .quiet (.agg (tr ((jnT p (twT p (wsm p r X Y X' Y' Z m).2) X Y Z).1) ((jnT p (twT p (wsm p r X Y X' Y' Z m).2) X Y Z).2.1) ((jnT p (twT p (wsm p r X Y X' Y' Z m).2) X Y Z).2.2)).toArray), .quiet (.agg (pt X Y Z).toArray), .quiet (U (jnR p (twT p (wsm p r X Y X' Y' Z m).2) X Y Z)), .quiet (.agg (pt X' Y' Z').toArray), .call (.agg (l2 ((lj p (jnT p (twT p (wsm p r X Y X' Y' Z m).2) X Y Z).2.2 X Y (jnR p (twT p (wsm p r X Y X' Y' Z m).2) X Y Z) X' Y').1) ((lj p (jnT p (twT p (wsm p r X Y X' Y' Z m).2) X Y Z).2.2 X Y (jnR p (twT p (wsm p r X Y X' Y' Z m).2) X Y Z) X' Y').2)).toArray), .call (.agg (l2 ((pd p (f1 p (wsm p r X Y X' Y' Z m) X' Y') (lj p (jnT p (twT p (wsm p r X Y X' Y' Z m).2) X Y Z).2.2 X Y (jnR p (twT p (wsm p r X Y X' Y' Z m).2) X Y Z) X' Y')).1) ((pd p (f1 p (wsm p r X Y X' Y' Z m) X' Y') (lj p (jnT p (twT p (wsm p r X Y X' Y' Z m).2) X Y Z).2.2 X Y (jnR p (twT p (wsm p r X Y X' Y' Z m).2) X Y Z) X' Y')).2)).toArray)] H29 ?ho22 ?he22
      case ho22 => exact ak (fun γ => ⟨rfl, fun w' h => ex_loadT h 3 rfl rfl rfl Try.isAgg72 Try.sizeOf72 rfl rfl⟩) (ak (fun γ => ⟨rfl, fun w' h => ex_loadT h 1 rfl rfl rfl Try.isAgg49 Try.sizeOf49 rfl rfl⟩) (ak (fun γ => ⟨rfl, fun w' h => ex_loadT h 3 rfl rfl rfl Try.isAgg72 Try.sizeOf72 rfl rfl⟩) (ak (fun γ => ⟨rfl, fun w' h => ex_loadT h 2 rfl rfl rfl Try.isAgg77 Try.sizeOf77 rfl rfl⟩) (ak (fun γ => ⟨rfl, fun w' h => ex_loadT h 4 rfl rfl rfl Try.isAgg25 Try.sizeOf25 rfl rfl⟩) (ak (fun _ => ⟨rfl, fun _ _ => rfl⟩) (ak (fun γ => ⟨rfl, fun w' h => ex_loadT h 5 rfl rfl rfl Try.isAgg25 Try.sizeOf25 rfl rfl⟩) (ak (fun γ => ⟨rfl, fun w' h => ⟨81, #[.agg (kd p r c gx gy).toArray, .agg (tr ((jnT p (twT p (wsm p r X Y X' Y' Z m).2) X Y Z).1) ((jnT p (twT p (wsm p r X Y X' Y' Z m).2) X Y Z).2.1) ((jnT p (twT p (wsm p r X Y X' Y' Z m).2) X Y Z).2.2)).toArray, .agg (pt X Y Z).toArray, U (jnR p (twT p (wsm p r X Y X' Y' Z m).2) X Y Z), .agg (pt X' Y' Z').toArray], exec_call rfl call81 rfl (mpn rfl), lineJ_any hp _ _ _ (jn_lt hp (tw_lt hp _) hX hY).z X Y Z hX hY _ (jnR_lt hp) X' Y' Z' hX' hY' w'⟩⟩) (ak (fun γ => ⟨rfl, fun w' h => ⟨63, #[.agg (kd p r c gx gy).toArray, .agg (l2 ((f1 p (wsm p r X Y X' Y' Z m) X' Y').1) ((f1 p (wsm p r X Y X' Y' Z m) X' Y').2)).toArray, .agg (l2 ((lj p (jnT p (twT p (wsm p r X Y X' Y' Z m).2) X Y Z).2.2 X Y (jnR p (twT p (wsm p r X Y X' Y' Z m).2) X Y Z) X' Y').1) ((lj p (jnT p (twT p (wsm p r X Y X' Y' Z m).2) X Y Z).2.2 X Y (jnR p (twT p (wsm p r X Y X' Y' Z m).2) X Y Z) X' Y').2)).toArray], exec_call rfl call63 rfl (mpn rfl), product_any hp (f1 p (wsm p r X Y X' Y' Z m) X' Y') (lj p (jnT p (twT p (wsm p r X Y X' Y' Z m).2) X Y Z).2.2 X Y (jnR p (twT p (wsm p r X Y X' Y' Z m).2) X Y Z) X' Y') (pd_lt hp _ _) ⟨t2_lt hp, tm_lt hp⟩ w'⟩⟩) trivial))))))))
      intro _ w30 H30
      clear H29
      refine rest_at (l := [9]) rfl ?_
      refine rest_store rfl rfl rfl (ex_storeT (vs := l2 ((pd p (f1 p (wsm p r X Y X' Y' Z m) X' Y') (lj p (jnT p (twT p (wsm p r X Y X' Y' Z m).2) X Y Z).2.2 X Y (jnR p (twT p (wsm p r X Y X' Y' Z m).2) X Y Z) X' Y')).1) ((pd p (f1 p (wsm p r X Y X' Y' Z m) X' Y') (lj p (jnT p (twT p (wsm p r X Y X' Y' Z m).2) X Y Z).2.2 X Y (jnR p (twT p (wsm p r X Y X' Y' Z m).2) X Y Z) X' Y')).2)) H30.out.1 1 rfl rfl rfl rfl Try.sizeOf49 rfl (Nat.le_of_ble_eq_true rfl)) ?_
      have H31 : Hid (Mm (w30.setCells γ2_3 0 (l2 ((pd p (f1 p (wsm p r X Y X' Y' Z m) X' Y') (lj p (jnT p (twT p (wsm p r X Y X' Y' Z m).2) X Y Z).2.2 X Y (jnR p (twT p (wsm p r X Y X' Y' Z m).2) X Y Z) X' Y')).1) ((pd p (f1 p (wsm p r X Y X' Y' Z m) X' Y') (lj p (jnT p (twT p (wsm p r X Y X' Y' Z m).2) X Y Z).2.2 X Y (jnR p (twT p (wsm p r X Y X' Y' Z m).2) X Y Z) X' Y')).2))) [(γ17_6, tr ((twT p (wsm p r X Y X' Y' Z m).2).1) ((twT p (wsm p r X Y X' Y' Z m).2).2.1) ((twT p (wsm p r X Y X' Y' Z m).2).2.2)), (γ2_3, l2 ((pd p (f1 p (wsm p r X Y X' Y' Z m) X' Y') (lj p (jnT p (twT p (wsm p r X Y X' Y' Z m).2) X Y Z).2.2 X Y (jnR p (twT p (wsm p r X Y X' Y' Z m).2) X Y Z) X' Y')).1) ((pd p (f1 p (wsm p r X Y X' Y' Z m) X' Y') (lj p (jnT p (twT p (wsm p r X Y X' Y' Z m).2) X Y Z).2.2 X Y (jnR p (twT p (wsm p r X Y X' Y' Z m).2) X Y Z) X' Y')).2)), (γ2_4, tr ((jnT p (twT p (wsm p r X Y X' Y' Z m).2) X Y Z).1) ((jnT p (twT p (wsm p r X Y X' Y' Z m).2) X Y Z).2.1) ((jnT p (twT p (wsm p r X Y X' Y' Z m).2) X Y Z).2.2)), (γ1_0, kd p r c gx gy), (γ1_1, pt X Y Z), (γ1_2, pt X' Y' Z'), (γ1_3, l2 0 0)] ∧ Below w.heap.size w (w30.setCells γ2_3 0 (l2 ((pd p (f1 p (wsm p r X Y X' Y' Z m) X' Y') (lj p (jnT p (twT p (wsm p r X Y X' Y' Z m).2) X Y Z).2.2 X Y (jnR p (twT p (wsm p r X Y X' Y' Z m).2) X Y Z) X' Y')).1) ((pd p (f1 p (wsm p r X Y X' Y' Z m) X' Y') (lj p (jnT p (twT p (wsm p r X Y X' Y' Z m).2) X Y Z).2.2 X Y (jnR p (twT p (wsm p r X Y X' Y' Z m).2) X Y Z) X' Y')).2)))) := ⟨H30.out.1.put 1 (off := 0) (vs := l2 ((pd p (f1 p (wsm p r X Y X' Y' Z m) X' Y') (lj p (jnT p (twT p (wsm p r X Y X' Y' Z m).2) X Y Z).2.2 X Y (jnR p (twT p (wsm p r X Y X' Y' Z m).2) X Y Z) X' Y')).1) ((pd p (f1 p (wsm p r X Y X' Y' Z m) X' Y') (lj p (jnT p (twT p (wsm p r X Y X' Y' Z m).2) X Y Z).2.2 X Y (jnR p (twT p (wsm p r X Y X' Y' Z m).2) X Y Z) X' Y')).2)) rfl (Nat.le_of_ble_eq_true rfl), below_setCells _ o2_3.out _ _ _ H30.out.2⟩
      clear H30
      generalize hgw : World.setCells _ _ _ _ = w31 at H31 ⊢
      clear hgw
      refine rest_nil (block_normal (then_normal ?_))
      refine walk_seqB 2 [.quiet (.int .i64 ((j : Nat) : Int)), .quiet (.int .i64 (((bl r : Nat) : Int) - 2 - ((m + 1 : Nat) : Int)))] H31 ?ho23 ?he23
      case ho23 => exact ak (fun _ => ⟨rfl, fun _ _ => rfl⟩) (ak (by refine fun γ => ⟨rfl, fun w' h => ?_⟩; clear h; go_simp; rw [IntKind.wrap_i64]; omega) trivial)
      intro _ w32 H32
      clear H31
      refine rest_at (l := [2]) rfl ?_
      refine rest_set (d := 9) rfl rfl rfl rfl ?_
      simp only [Act.put, sa, sz, ss]
      refine rest_nil (then_normal ?_)
      exact ⟨m + 1, ⟨(slotfn [undef, undef, undef, undef, undef, undef, undef, undef, undef, undef, PT γ17_6 0, U (jnR p (twT p (wsm p r X Y X' Y' Z m).2) X Y Z), undef, undef, undef, undef, undef, undef, undef, .int .i64 ((j : Nat) : Int), .bool true, .int .i64 ((j : Nat) : Int), .int .i64 (((bl r : Nat) : Int) - 2 - ((m + 1 : Nat) : Int)), .tuple #[.agg (tr ((twT p (wsm p r X Y X' Y' Z m).2).1) ((twT p (wsm p r X Y X' Y' Z m).2).2.1) ((twT p (wsm p r X Y X' Y' Z m).2).2.2)).toArray, U (tR p (wsm p r X Y X' Y' Z m).2.1 (wsm p r X Y X' Y' Z m).2.2.2)], .agg (kd p r c gx gy).toArray, .agg (tc (wsm p r X Y X' Y' Z m).2).toArray, .tuple #[.agg (tr ((twT p (wsm p r X Y X' Y' Z m).2).1) ((twT p (wsm p r X Y X' Y' Z m).2).2.1) ((twT p (wsm p r X Y X' Y' Z m).2).2.2)).toArray, U (tR p (wsm p r X Y X' Y' Z m).2.1 (wsm p r X Y X' Y' Z m).2.2.2)], .agg (tr ((twT p (wsm p r X Y X' Y' Z m).2).1) ((twT p (wsm p r X Y X' Y' Z m).2).2.1) ((twT p (wsm p r X Y X' Y' Z m).2).2.2)).toArray, U (tR p (wsm p r X Y X' Y' Z m).2.1 (wsm p r X Y X' Y' Z m).2.2.2), .agg (kd p r c gx gy).toArray, .agg (kd p r c gx gy).toArray, .agg (lc (wsm p r X Y X' Y' Z m).1).toArray, .agg (lc (wsm p r X Y X' Y' Z m).1).toArray, .agg (l2 ((pd p (wsm p r X Y X' Y' Z m).1 (wsm p r X Y X' Y' Z m).1).1) ((pd p (wsm p r X Y X' Y' Z m).1 (wsm p r X Y X' Y' Z m).1).2)).toArray, .agg (kd p r c gx gy).toArray, .agg (tc (wsm p r X Y X' Y' Z m).2).toArray, .agg (tr ((twT p (wsm p r X Y X' Y' Z m).2).1) ((twT p (wsm p r X Y X' Y' Z m).2).2.1) ((twT p (wsm p r X Y X' Y' Z m).2).2.2)).toArray, U (tR p (wsm p r X Y X' Y' Z m).2.1 (wsm p r X Y X' Y' Z m).2.2.2), .agg (pt X' Y' Z').toArray, .agg (l2 ((lw p (wsm p r X Y X' Y' Z m).2 (twT p (wsm p r X Y X' Y' Z m).2).2.2 (tR p (wsm p r X Y X' Y' Z m).2.1 (wsm p r X Y X' Y' Z m).2.2.2) X' Y').1) ((lw p (wsm p r X Y X' Y' Z m).2 (twT p (wsm p r X Y X' Y' Z m).2).2.2 (tR p (wsm p r X Y X' Y' Z m).2.1 (wsm p r X Y X' Y' Z m).2.2.2) X' Y').2)).toArray, .agg (l2 ((f1 p (wsm p r X Y X' Y' Z m) X' Y').1) ((f1 p (wsm p r X Y X' Y' Z m) X' Y').2)).toArray, .agg (tr ((twT p (wsm p r X Y X' Y' Z m).2).1) ((twT p (wsm p r X Y X' Y' Z m).2).2.1) ((twT p (wsm p r X Y X' Y' Z m).2).2.2)).toArray, PT γ1_0 1, U r, .int .i64 ((j : Nat) : Int), U (r / 2 ^ j), U (r / 2 ^ j % 2), .bool false, .bool false, .agg (kd p r c gx gy).toArray, .agg (tr ((twT p (wsm p r X Y X' Y' Z m).2).1) ((twT p (wsm p r X Y X' Y' Z m).2).2.1) ((twT p (wsm p r X Y X' Y' Z m).2).2.2)).toArray, .agg (pt X Y Z).toArray, .bool false, .bool false, .tuple #[.agg (tr ((jnT p (twT p (wsm p r X Y X' Y' Z m).2) X Y Z).1) ((jnT p (twT p (wsm p r X Y X' Y' Z m).2) X Y Z).2.1) ((jnT p (twT p (wsm p r X Y X' Y' Z m).2) X Y Z).2.2)).toArray, U (jnR p (twT p (wsm p r X Y X' Y' Z m).2) X Y Z)], .agg (kd p r c gx gy).toArray, .agg (tr ((twT p (wsm p r X Y X' Y' Z m).2).1) ((twT p (wsm p r X Y X' Y' Z m).2).2.1) ((twT p (wsm p r X Y X' Y' Z m).2).2.2)).toArray, .agg (pt X Y Z).toArray, .tuple #[.agg (tr ((jnT p (twT p (wsm p r X Y X' Y' Z m).2) X Y Z).1) ((jnT p (twT p (wsm p r X Y X' Y' Z m).2) X Y Z).2.1) ((jnT p (twT p (wsm p r X Y X' Y' Z m).2) X Y Z).2.2)).toArray, U (jnR p (twT p (wsm p r X Y X' Y' Z m).2) X Y Z)], .agg (tr ((jnT p (twT p (wsm p r X Y X' Y' Z m).2) X Y Z).1) ((jnT p (twT p (wsm p r X Y X' Y' Z m).2) X Y Z).2.1) ((jnT p (twT p (wsm p r X Y X' Y' Z m).2) X Y Z).2.2)).toArray, U (jnR p (twT p (wsm p r X Y X' Y' Z m).2) X Y Z), .agg (kd p r c gx gy).toArray, .agg (l2 ((f1 p (wsm p r X Y X' Y' Z m) X' Y').1) ((f1 p (wsm p r X Y X' Y' Z m) X' Y').2)).toArray, .agg (kd p r c gx gy).toArray, .agg (tr ((jnT p (twT p (wsm p r X Y X' Y' Z m).2) X Y Z).1) ((jnT p (twT p (wsm p r X Y X' Y' Z m).2) X Y Z).2.1) ((jnT p (twT p (wsm p r X Y X' Y' Z m).2) X Y Z).2.2)).toArray, .agg (pt X Y Z).toArray, U (jnR p (twT p (wsm p r X Y X' Y' Z m).2) X Y Z), .agg (pt X' Y' Z').toArray, .agg (l2 ((lj p (jnT p (twT p (wsm p r X Y X' Y' Z m).2) X Y Z).2.2 X Y (jnR p (twT p (wsm p r X Y X' Y' Z m).2) X Y Z) X' Y').1) ((lj p (jnT p (twT p (wsm p r X Y X' Y' Z m).2) X Y Z).2.2 X Y (jnR p (twT p (wsm p r X Y X' Y' Z m).2) X Y Z) X' Y').2)).toArray, .agg (l2 ((pd p (f1 p (wsm p r X Y X' Y' Z m) X' Y') (lj p (jnT p (twT p (wsm p r X Y X' Y' Z m).2) X Y Z).2.2 X Y (jnR p (twT p (wsm p r X Y X' Y' Z m).2) X Y Z) X' Y')).1) ((pd p (f1 p (wsm p r X Y X' Y' Z m) X' Y') (lj p (jnT p (twT p (wsm p r X Y X' Y' Z m).2) X Y Z).2.2 X Y (jnR p (twT p (wsm p r X Y X' Y' Z m).2) X Y Z) X' Y')).2)).toArray]), rfl, ⟨by rw [show wsm p r X Y X' Y' Z (m + 1) = _ from st_g p X Y X' Y' Z _ (wsm p r X Y X' Y' Z m) (by rw [← hj]; omega) hs]; exact H32.out.1.pick [1, 2, 3, 4, 5, 6] rfl (by decide), H32.out.2⟩, by omega⟩, by omega⟩
  have hm : m = bl r - 1 := by omega
  subst hm
  refine wp_seq (wp_seq ?_)
  refine walk_seqB 2 [.quiet (.int .i64 (((bl r : Nat) : Int) - 2 - ((bl r - 1 : Nat) : Int))), .quiet (.bool false)] H4 ?ho24 ?he24
  case ho24 => exact ak (fun _ => ⟨rfl, fun _ _ => rfl⟩) (ak (by refine fun γ => ⟨rfl, fun w' h => ?_⟩; clear h; go_simp; omega) trivial)
  intro _ w33 H33
  clear H4
  refine rest0 rfl (then_normal (wp_cond_false rfl ?_))
  refine wp_exit ?_
  repeat refine then_exit ?_
  refine block_exit ?_
  refine then_normal (wp_seq ?_)
  refine walk_seqB 1 [.quiet (.agg (lc (wsm p r X Y X' Y' Z (bl r - 1)).1).toArray)] H33 ?ho25 ?he25
  case ho25 => exact ak (fun γ => ⟨rfl, fun w' h => ex_loadT h 0 rfl rfl rfl Try.isAgg49 Try.sizeOf49 rfl rfl⟩) trivial
  intro _ w34 H34
  clear H33
  refine rest_at (l := [1]) rfl ?_
  refine rest_store rfl rfl rfl (ex_storeT (vs := lc (wsm p r X Y X' Y' Z (bl r - 1)).1) H34.out.1 5 rfl rfl rfl rfl Try.sizeOf49 rfl (Nat.le_of_ble_eq_true rfl)) ?_
  have H35 : Hid (Mm (w34.setCells γ1_3 0 (lc (wsm p r X Y X' Y' Z (bl r - 1)).1)) [(γ2_3, lc (wsm p r X Y X' Y' Z (bl r - 1)).1), (γ2_4, tc (wsm p r X Y X' Y' Z (bl r - 1)).2), (γ1_0, kd p r c gx gy), (γ1_1, pt X Y Z), (γ1_2, pt X' Y' Z'), (γ1_3, lc (wsm p r X Y X' Y' Z (bl r - 1)).1)] ∧ Below w.heap.size w (w34.setCells γ1_3 0 (lc (wsm p r X Y X' Y' Z (bl r - 1)).1))) := ⟨H34.out.1.put 5 (off := 0) (vs := lc (wsm p r X Y X' Y' Z (bl r - 1)).1) rfl (Nat.le_of_ble_eq_true rfl), below_setCells _ o1_3.out _ _ _ H34.out.2⟩
  clear H34
  generalize hgw : World.setCells _ _ _ _ = w35 at H35 ⊢
  clear hgw
  refine rest_nil (then_normal (wp_ret ?_))
  repeat (first | refine then_ret ?_ | refine block_ret ?_)
  have hf0 := var_T H35.out.1 5 rfl Try.isAgg49 Try.sizeOf49 rfl
  refine bodyPost_ret (v := .agg (lc (wsm p r X Y X' Y' Z (bl r - 1)).1).toArray) (by simp [results, Try.results62, asAddr, hf0]) rfl ?_
  exact ⟨rfl, H35.out.2⟩
end
end Rg
end Go.Proofs.Ytjmbgchoioepjaa
end
section
namespace Go.Proofs.Ytjmbgchoioepjaa
namespace NT
/-- A prime. -/
def Prm (p : Nat) : Prop := 1 < p ∧ ∀ d, d ∣ p → d = 1 ∨ d = p
theorem Prm.cop {p : Nat} (h : Prm p) {a : Nat} (ha : ¬ p ∣ a) : Nat.Coprime p a := by
  rcases h.2 (Nat.gcd p a) (Nat.gcd_dvd_left p a) with h1 | h1
  · exact h1
  · exact absurd (h1 ▸ Nat.gcd_dvd_right p a) ha
theorem Prm.mul {p a b : Nat} (h : Prm p) (hd : p ∣ a * b) : p ∣ a ∨ p ∣ b := by
  by_cases ha : p ∣ a
  · exact Or.inl ha
  · exact Or.inr ((h.cop ha).dvd_of_dvd_mul_left hd)
theorem Prm.pos {p : Nat} (h : Prm p) : 0 < p := by have := h.1; omega
/-- Each number above 1 has a prime that divides it. -/
theorem prm_dvd (n : Nat) (h : 1 < n) : ∃ q, Prm q ∧ q ∣ n := by
  induction n using Nat.strongRecOn with
  | ind n ih =>
    by_cases hp : ∃ d, d ∣ n ∧ d ≠ 1 ∧ d ≠ n
    · obtain ⟨d, hd, h1, h2⟩ := hp
      have hle := Nat.le_of_dvd (by omega) hd
      have h0 : d ≠ 0 := by
        intro e; rw [e] at hd; have := Nat.eq_zero_of_zero_dvd hd; omega
      obtain ⟨q, hq, hqd⟩ := ih d (by omega) (by omega)
      exact ⟨q, hq, Nat.dvd_trans hqd hd⟩
    · refine ⟨n, ⟨h, ?_⟩, Nat.dvd_refl n⟩
      intro d hd
      by_cases h1 : d = 1
      · exact Or.inl h1
      · by_cases h2 : d = n
        · exact Or.inr h2
        · exact absurd ⟨d, hd, h1, h2⟩ hp
/-! Binomials. -/
def ch : Nat → Nat → Nat
  | _, 0 => 1
  | 0, _ + 1 => 0
  | n + 1, k + 1 => ch n k + ch n (k + 1)
theorem ch_zero (n : Nat) : ch n 0 = 1 := by cases n <;> rfl
theorem ch_big (n : Nat) : ∀ k, n < k → ch n k = 0 := by
  induction n with
  | zero => intro k hk; cases k with
    | zero => omega
    | succ k => rfl
  | succ n ih => intro k hk; cases k with
    | zero => omega
    | succ k => show ch n k + ch n (k + 1) = 0; rw [ih k (by omega), ih (k + 1) (by omega)]
theorem ch_self (n : Nat) : ch n n = 1 := by
  induction n with
  | zero => rfl
  | succ n ih => show ch n n + ch n (n + 1) = 1; rw [ih, ch_big n (n + 1) (by omega)]
theorem ch_absorb (n : Nat) : ∀ k, (k + 1) * ch (n + 1) (k + 1) = (n + 1) * ch n k := by
  induction n with
  | zero =>
    intro k
    cases k with
    | zero => rfl
    | succ k =>
      rw [ch_big 1 (k + 1 + 1) (by omega), ch_big 0 (k + 1) (by omega)]; omega
  | succ n ih =>
    intro k
    cases k with
    | zero =>
      have h := ih 0
      show (0 + 1) * (ch (n + 1) 0 + ch (n + 1) (0 + 1)) = _
      rw [Nat.mul_add, h, ch_zero, ch_zero]; omega
    | succ k =>
      have h1 := ih k
      have h2 := ih (k + 1)
      show (k + 1 + 1) * (ch (n + 1) (k + 1) + ch (n + 1) (k + 1 + 1)) = (n + 1 + 1) * (ch (n + 1) (k + 1))
      rw [Nat.mul_add, h2]
      have e : ch (n + 1) (k + 1) = ch n k + ch n (k + 1) := rfl
      rw [Nat.add_mul (k + 1) 1, h1, Nat.add_mul (n + 1) 1 (ch (n + 1) (k + 1))]
      have e' : (n + 1) * ch (n + 1) (k + 1) = (n + 1) * ch n k + (n + 1) * ch n (k + 1) := by rw [e, Nat.mul_add]
      omega
theorem ch_dvd {p : Nat} (hp : Prm p) (k : Nat) (h0 : 0 < k) (hk : k < p) : p ∣ ch p k := by
  obtain ⟨k, rfl⟩ : ∃ j, k = j + 1 := ⟨k - 1, by omega⟩
  obtain ⟨n, rfl⟩ : ∃ j, p = j + 1 := ⟨p - 1, by omega⟩
  have h : n + 1 ∣ (k + 1) * ch (n + 1) (k + 1) := ⟨ch n k, ch_absorb n k⟩
  rcases hp.mul h with h1 | h1
  · have := Nat.le_of_dvd (by omega) h1; omega
  · exact h1
def sm (f : Nat → Nat) : Nat → Nat
  | 0 => 0
  | n + 1 => sm f n + f n
theorem sm_first (f : Nat → Nat) (n : Nat) : sm f (n + 1) = f 0 + sm (fun k => f (k + 1)) n := by
  induction n with
  | zero => simp [sm]
  | succ n ih => rw [sm, ih]; simp only [sm]; omega
theorem sm_add (f g : Nat → Nat) (n : Nat) : sm (fun k => f k + g k) n = sm f n + sm g n := by
  induction n with
  | zero => rfl
  | succ n ih => simp only [sm]; rw [ih]; omega
theorem sm_mul (f : Nat → Nat) (c n : Nat) : sm (fun k => c * f k) n = c * sm f n := by
  induction n with
  | zero => rfl
  | succ n ih => simp only [sm]; rw [ih, Nat.mul_add]
theorem sm_congr (f g : Nat → Nat) (n : Nat) (h : ∀ k, k < n → f k = g k) : sm f n = sm g n := by
  induction n with
  | zero => rfl
  | succ n ih => simp only [sm]; rw [ih (fun k hk => h k (by omega)), h n (by omega)]
theorem sm_dvd (f : Nat → Nat) (p n : Nat) (h : ∀ k, k < n → p ∣ f k) : p ∣ sm f n := by
  induction n with
  | zero => exact Nat.dvd_zero p
  | succ n ih => exact Nat.dvd_add (ih (fun k hk => h k (by omega))) (h n (by omega))
theorem binom (a n : Nat) : (a + 1) ^ n = sm (fun k => ch n k * a ^ k) (n + 1) := by
  induction n with
  | zero => simp [sm, ch]
  | succ n ih =>
    rw [Nat.pow_succ, ih, Nat.mul_add, Nat.mul_one]
    rw [sm_first (fun k => ch (n + 1) k * a ^ k) (n + 1)]
    have e : ∀ k, ch (n + 1) (k + 1) * a ^ (k + 1) = a * (ch n k * a ^ k) + ch n (k + 1) * a ^ (k + 1) := by
      intro k
      show (ch n k + ch n (k + 1)) * a ^ (k + 1) = _
      rw [Nat.add_mul, Nat.pow_succ]
      congr 1
      rw [Nat.mul_comm (a ^ k) a, Nat.mul_left_comm]
    have e1 : sm (fun k => ch (n + 1) (k + 1) * a ^ (k + 1)) (n + 1)
        = a * sm (fun k => ch n k * a ^ k) (n + 1) + sm (fun k => ch n (k + 1) * a ^ (k + 1)) (n + 1) := by
      rw [← sm_mul, ← sm_add]
      exact sm_congr _ _ _ (fun k _ => e k)
    rw [e1]
    have e2 : sm (fun k => ch n k * a ^ k) (n + 1) = 1 + sm (fun k => ch n (k + 1) * a ^ (k + 1)) (n + 1) := by
      rw [sm_first (fun k => ch n k * a ^ k) n]
      have : sm (fun k => ch n (k + 1) * a ^ (k + 1)) (n + 1) = sm (fun k => ch n (k + 1) * a ^ (k + 1)) n + ch n (n + 1) * a ^ (n + 1) := rfl
      rw [this, ch_big n (n + 1) (by omega), ch_zero]
      simp
    rw [ch_zero, Nat.pow_zero, Nat.mul_comm _ a]
    omega
theorem dream {p : Nat} (hp : Prm p) (a : Nat) : (a + 1) ^ p % p = (a ^ p + 1) % p := by
  obtain ⟨n, rfl⟩ : ∃ j, p = j + 1 := ⟨p - 1, by have := hp.1; omega⟩
  rw [binom, sm, sm_first]
  obtain ⟨c, hc⟩ := sm_dvd (fun k => ch (n + 1) (k + 1) * a ^ (k + 1)) (n + 1) n
    (fun k hk => Nat.dvd_trans (ch_dvd hp (k + 1) (by omega) (by omega)) (Nat.dvd_mul_right _ _))
  rw [hc, ch_self, ch_zero, Nat.pow_zero]
  have : 1 * 1 + (n + 1) * c + 1 * a ^ (n + 1) = (a ^ (n + 1) + 1) + (n + 1) * c := by omega
  rw [this, Nat.add_mul_mod_self_left]
theorem fermat {p : Nat} (hp : Prm p) (a : Nat) : a ^ p % p = a % p := by
  induction a with
  | zero => rw [Nat.zero_pow hp.pos]
  | succ a ih => rw [dream hp, Nat.add_mod, ih, ← Nat.add_mod]
theorem fermat1 {p : Nat} (hp : Prm p) (a : Nat) (ha : ¬ p ∣ a) : a ^ (p - 1) % p = 1 := by
  have h := fermat hp a
  obtain ⟨n, rfl⟩ : ∃ j, p = j + 1 := ⟨p - 1, by have := hp.1; omega⟩
  rw [Nat.add_sub_cancel]
  rw [Nat.pow_succ] at h
  have hn : 0 < n := by have := hp.1; omega
  have h1 : 1 ≤ a ^ n := Nat.one_le_iff_ne_zero.mpr (fun e => by
    rcases Nat.pow_eq_zero.mp e with ⟨e1, -⟩
    rw [e1] at ha; exact ha (Nat.dvd_zero _))
  have h2 : n + 1 ∣ (a ^ n - 1) * a := by
    rw [Nat.sub_mul, Nat.one_mul]
    exact Nat.dvd_of_mod_eq_zero (Nat.sub_mod_eq_zero_of_mod_eq h)
  rcases hp.mul h2 with h3 | h3
  · obtain ⟨c, hc⟩ := h3
    have : a ^ n = 1 + (n + 1) * c := by omega
    rw [this, Nat.add_mul_mod_self_left, Nat.mod_eq_of_lt hp.1]
  · exact absurd h3 ha
/-! Orders. -/
theorem least (P : Nat → Prop) (n : Nat) (h : P n) : ∃ m, P m ∧ ∀ k, k < m → ¬ P k := by
  induction n using Nat.strongRecOn with
  | ind n ih =>
    by_cases hk : ∃ k, k < n ∧ P k
    · obtain ⟨k, h1, h2⟩ := hk
      exact ih k h1 h2
    · exact ⟨n, h, fun k h1 h2 => hk ⟨k, h1, h2⟩⟩
theorem order {d : Nat} (hd : Prm d) (a : Nat) (ha : ¬ d ∣ a) :
    ∃ e, e ∣ d - 1 ∧ a ^ e % d = 1 ∧ ∀ m, a ^ m % d = 1 → e ∣ m := by
  obtain ⟨e, ⟨h0, h1⟩, h2⟩ := least (fun e => 0 < e ∧ a ^ e % d = 1) (d - 1) ⟨by have := hd.1; omega, fermat1 hd a ha⟩
  have h3 : ∀ m, a ^ m % d = 1 → e ∣ m := by
    intro m hm
    by_cases hr : m % e = 0
    · exact Nat.dvd_of_mod_eq_zero hr
    · exfalso
      refine h2 (m % e) (Nat.mod_lt _ h0) ⟨by omega, ?_⟩
      have e1 : a ^ m = (a ^ e) ^ (m / e) * a ^ (m % e) := by
        rw [← Nat.pow_mul, ← Nat.pow_add, Nat.div_add_mod]
      rw [e1, Nat.mul_mod, Nat.pow_mod, h1, Nat.one_pow, Nat.mod_eq_of_lt hd.1, Nat.one_mul, Nat.mod_mod] at hm
      exact hm
  exact ⟨e, h3 _ (fermat1 hd a ha), h1, h3⟩
/-- Pocklington: each prime that divides N leaves 1 by F. -/
theorem pock {N M F a d : Nat} (qs : List Nat) (hM : N = M + 1) (hF : F ∣ M) (hd : Prm d) (hdN : d ∣ N) (h1 : a ^ M % N = 1)
    (hc : ∀ t, (∀ q, q ∈ qs → Nat.Coprime q t) → Nat.Coprime F t)
    (hq : ∀ q, q ∈ qs → Prm q ∧ q ∣ M ∧ Nat.Coprime (a ^ (M / q) % N + M) N) : F ∣ d - 1 := by
  have hmod : ∀ x, x % N % d = x % d := fun x => Nat.mod_mod_of_dvd x hdN
  have h1d : a ^ M % d = 1 := by rw [← hmod, h1, Nat.mod_eq_of_lt hd.1]
  have hM0 : M ≠ 0 := by
    intro e; rw [e] at hM; rw [hM] at hdN; have := Nat.dvd_one.mp hdN; have := hd.1; omega
  have ha : ¬ d ∣ a := by
    intro h
    have h2 : d ∣ a ^ M := Nat.dvd_trans h (by
      obtain ⟨k, hk⟩ : ∃ k, M = k + 1 := ⟨M - 1, by omega⟩
      rw [hk, Nat.pow_succ]; exact Nat.dvd_mul_left _ _)
    have := Nat.mod_eq_zero_of_dvd h2
    omega
  obtain ⟨e, h2, h3, h4⟩ := order hd a ha
  obtain ⟨t, ht⟩ := h4 M h1d
  have hcop : Nat.Coprime F t := by
    refine hc t (fun q hqm => ?_)
    obtain ⟨g1, g2, g3⟩ := hq q hqm
    refine g1.cop (fun hqt => ?_)
    obtain ⟨s, hs⟩ := hqt
    have g4 : M / q = e * s := by
      rw [ht, hs, Nat.mul_left_comm, Nat.mul_div_cancel_left _ g1.pos]
    have g5 : a ^ (M / q) % d = 1 := by
      rw [g4, Nat.pow_mul, Nat.pow_mod, h3, Nat.one_pow, Nat.mod_eq_of_lt hd.1]
    have g6 : d ∣ a ^ (M / q) % N + M := by
      refine Nat.dvd_of_mod_eq_zero ?_
      rw [Nat.add_mod, hmod, g5, ← Nat.mod_eq_of_lt hd.1, ← Nat.add_mod, Nat.add_comm 1 M, ← hM]
      exact Nat.mod_eq_zero_of_dvd hdN
    have g7 := Nat.dvd_gcd g6 hdN
    rw [g3] at g7
    have := Nat.dvd_one.mp g7; have := hd.1; omega
  have h5 : F ∣ e := hcop.dvd_of_dvd_mul_right (ht ▸ hF)
  exact Nat.dvd_trans h5 h2
/-- A number whose prime divisors all leave 1 by F, F F above it, is prime. -/
theorem prm_of {N F : Nat} (hN : 1 < N) (hF : N < F * F) (h : ∀ d, Prm d → d ∣ N → F ∣ d - 1) : Prm N := by
  obtain ⟨d, hd, hdN⟩ := prm_dvd N hN
  by_cases e : d = N
  · exact e ▸ hd
  · exfalso
    obtain ⟨c, hc⟩ := hdN
    have hc1 : 1 < c := by
      rcases c with _ | _ | c
      · omega
      · omega
      · omega
    obtain ⟨d', hd', hdc⟩ := prm_dvd c hc1
    have g1 : F ≤ d - 1 := Nat.le_of_dvd (by have := hd.1; omega) (h d hd ⟨c, hc⟩)
    have g2 : F ≤ d' - 1 := Nat.le_of_dvd (by have := hd'.1; omega) (h d' hd' (Nat.dvd_trans hdc ⟨d, by rw [hc, Nat.mul_comm]⟩))
    have g3 := Nat.le_of_dvd (by omega) hdc
    have g4 : F * F ≤ d * c := Nat.mul_le_mul (by omega) (by omega)
    omega
/-! Powers by squaring, for the kernel. -/
def pm (N : Nat) : Nat → Nat → Nat → Nat → Nat
  | 0, _, _, acc => acc
  | f + 1, b, e, acc => pm N f (b * b % N) (e / 2) (if e % 2 = 1 then acc * b % N else acc)
theorem pm_spec (N : Nat) (f : Nat) : ∀ b e acc, e < 2 ^ f → pm N f b e acc % N = acc * b ^ e % N := by
  induction f with
  | zero =>
    intro b e acc h
    have : e = 0 := by simpa using h
    rw [this, Nat.pow_zero, Nat.mul_one]; rfl
  | succ f ih =>
    intro b e acc h
    show pm N f (b * b % N) (e / 2) (if e % 2 = 1 then acc * b % N else acc) % N = _
    rw [ih _ _ _ (by rw [Nat.pow_succ] at h; omega)]
    have h1 : (b * b % N) ^ (e / 2) % N = b ^ (2 * (e / 2)) % N := by
      rw [← Nat.pow_mod, Nat.pow_mul, Nat.pow_two]
    rw [Nat.mul_mod, h1, ← Nat.mul_mod]
    by_cases he : e % 2 = 1
    · rw [if_pos he, Nat.mul_mod, Nat.mod_mod, ← Nat.mul_mod, Nat.mul_assoc, ← Nat.pow_add_one']
      have : 2 * (e / 2) + 1 = e := by omega
      rw [this]
    · rw [if_neg he]
      have : 2 * (e / 2) = e := by omega
      rw [this]
theorem pm_spec2 (N g h b e acc : Nat) (hh : e < 2 ^ g * 2 ^ h) : pm N (g + h) b e acc % N = acc * b ^ e % N :=
  pm_spec N (g + h) b e acc (by rw [Nat.pow_add]; exact hh)
theorem pm_eq {N a e c : Nat} (h : e < 2 ^ 256 * 2 ^ 256 ∧ pm N 512 a e 1 % N = c) : a ^ e % N = c := by
  have := pm_spec2 N 256 256 a e 1 h.1
  rw [Nat.one_mul] at this
  rw [← this]; exact h.2
theorem cop_pm {N a e M : Nat} (h : e < 2 ^ 256 * 2 ^ 256 ∧ Nat.gcd (pm N 512 a e 1 % N + M) N = 1) : Nat.Coprime (a ^ e % N + M) N := by
  have := pm_eq (N := N) (a := a) (e := e) ⟨h.1, rfl⟩
  rw [this]; exact h.2
/-! Trial division. -/
def tr (n : Nat) : Nat → Nat → Bool
  | 0, _ => true
  | f + 1, d => if n % d = 0 then false else tr n f (d + 1)
theorem tr_spec (n : Nat) (f : Nat) : ∀ d, tr n f d = true → ∀ c, d ≤ c → c < d + f → ¬ c ∣ n := by
  induction f with
  | zero => intro d _ c h1 h2; omega
  | succ f ih =>
    intro d h c h1 h2 hc
    unfold tr at h
    by_cases h0 : n % d = 0
    · rw [if_pos h0] at h; exact absurd h (by decide)
    · rw [if_neg h0] at h
      by_cases e : c = d
      · rw [e] at hc; exact h0 (Nat.mod_eq_zero_of_dvd hc)
      · exact ih (d + 1) h c (by omega) (by omega) hc
theorem prm_trial (n f : Nat) (h1 : 1 < n) (h2 : n < (f + 2) * (f + 2)) (h : n < 4 ∨ tr n f 2 = true) : Prm n := by
  refine ⟨h1, fun d hd => ?_⟩
  obtain ⟨c, hc⟩ := hd
  rcases h with h | h
  · have hd2 : d = 1 ∨ d = n := by
      have hle := Nat.le_of_dvd (by omega) (⟨c, hc⟩ : d ∣ n)
      have h0 : d ≠ 0 := by
        intro e; rw [e, Nat.zero_mul] at hc; omega
      rcases d with _ | _ | _ | d
      · exact absurd rfl h0
      · left; rfl
      · right
        have : n = 2 ∨ n = 3 := by omega
        rcases this with e | e
        · omega
        · omega
      · right; omega
    exact hd2
  · have key : ∀ x y, n = x * y → x ≤ y → x = 1 ∨ x = 0 := by
      intro x y e hle
      rcases Nat.lt_or_ge x 2 with g | g
      · omega
      · exfalso
        refine tr_spec n f 2 h x g ?_ ⟨y, e⟩
        rcases Nat.lt_or_ge x (2 + f) with g2 | g2
        · exact g2
        · exfalso
          have : (f + 2) * (f + 2) ≤ x * y := Nat.mul_le_mul (by omega) (by omega)
          omega
    rcases Nat.le_total d c with hle | hle
    · rcases key d c hc hle with e | e
      · exact Or.inl e
      · rw [e, Nat.zero_mul] at hc; omega
    · rcases key c d (by rw [hc, Nat.mul_comm]) hle with e | e
      · right; rw [hc, e, Nat.mul_one]
      · rw [e, Nat.mul_zero] at hc; omega
theorem pockp {N M F a d : Nat} (qs : List Nat) (hM : N = M + 1) (hF : F ∣ M) (hd : Prm d) (hdN : d ∣ N) (h1 : M < 2 ^ 256 * 2 ^ 256 ∧ pm N 512 a M 1 % N = 1)
    (hc : ∀ t, (∀ q, q ∈ qs → Nat.Coprime q t) → Nat.Coprime F t)
    (hq : ∀ q, q ∈ qs → Prm q ∧ q ∣ M ∧ M / q < 2 ^ 256 * 2 ^ 256 ∧ Nat.gcd (pm N 512 a (M / q) 1 % N + M) N = 1) : F ∣ d - 1 :=
  pock qs hM hF hd hdN (pm_eq h1) hc (fun q h => ⟨(hq q h).1, (hq q h).2.1, cop_pm (hq q h).2.2⟩)
theorem prm_786251 : Prm 786251 := prm_trial 786251 887 (by decide) (by decide) (by decide +kernel)
theorem prm_376631 : Prm 376631 := prm_trial 376631 614 (by decide) (by decide) (by decide +kernel)
theorem prm_10056583 : Prm 10056583 := prm_trial 10056583 3172 (by decide) (by decide) (by decide +kernel)
theorem fac_192153584101141037 : ∀ d, Prm d → d ∣ 192153584101141037 → 3787620911873 ∣ d - 1 := by
  intro d hd hdN
  refine pockp (N := 192153584101141037) (M := 192153584101141036) (F := 3787620911873) (a := 2) [376631, 10056583] (by decide) (by decide +kernel) hd hdN (by decide +kernel) ?_ ?_
  · intro t h
    have e : 3787620911873 = (376631 * 10056583) := by decide
    rw [e]
    exact Nat.Coprime.mul_left ((h 376631 (by decide))) ((h 10056583 (by decide)))
  · intro q hq
    simp only [List.mem_cons, List.not_mem_nil, or_false] at hq
    rcases hq with rfl | rfl
    · exact ⟨prm_376631, by decide +kernel, by decide +kernel⟩
    · exact ⟨prm_10056583, by decide +kernel, by decide +kernel⟩
theorem prm_192153584101141037 : Prm 192153584101141037 := prm_of (by decide) (by decide) fac_192153584101141037
theorem fac_1152921504606846223 : ∀ d, Prm d → d ∣ 1152921504606846223 → 192153584101141037 ∣ d - 1 := by
  intro d hd hdN
  refine pockp (N := 1152921504606846223) (M := 1152921504606846222) (F := 192153584101141037) (a := 2) [192153584101141037] (by decide) (by decide +kernel) hd hdN (by decide +kernel) ?_ ?_
  · intro t h
    have e : 192153584101141037 = 192153584101141037 := by decide
    rw [e]
    exact (h 192153584101141037 (by decide))
  · intro q hq
    simp only [List.mem_cons, List.not_mem_nil, or_false] at hq
    subst hq
    · exact ⟨prm_192153584101141037, by decide +kernel, by decide +kernel⟩
theorem prm_1152921504606846223 : Prm 1152921504606846223 := prm_of (by decide) (by decide) fac_1152921504606846223
theorem sq_mod {p z : Nat} (hp : Prm p) (h : z * z % p = 1) : z % p = 1 ∨ (z + 1) % p = 0 := by
  have h1 : 1 ≤ z := by
    rcases Nat.eq_zero_or_pos z with e | e
    · rw [e, Nat.mul_zero, Nat.zero_mod] at h; cases h
    · exact e
  have h2 : p ∣ (z - 1) * (z + 1) := by
    have e : (z - 1) * (z + 1) = z * z - 1 := by
      obtain ⟨y, rfl⟩ : ∃ y, z = y + 1 := ⟨z - 1, by omega⟩
      rw [Nat.add_sub_cancel]
      have : (y + 1) * (y + 1) = y * (y + 1 + 1) + 1 := by grind
      omega
    rw [e]
    refine Nat.dvd_of_mod_eq_zero (Nat.sub_mod_eq_zero_of_mod_eq ?_)
    rw [h, Nat.mod_eq_of_lt hp.1]
  rcases hp.mul h2 with h3 | h3
  · left
    obtain ⟨c, hc⟩ := h3
    rw [show z = 1 + p * c by omega, Nat.add_mul_mod_self_left, Nat.mod_eq_of_lt hp.1]
  · right; exact Nat.mod_eq_zero_of_dvd h3
/-- By a prime that leaves 3 by 4 the power is the number or the negated one. -/
theorem half_pow {p a j : Nat} (hp : Prm p) (h4 : p + 1 = 4 * (j + 1)) (ha : ¬ p ∣ a) : a ^ (2 * j + 2) % p = a % p ∨ (a ^ (2 * j + 2) + a) % p = 0 := by
  have hz : a ^ (2 * j + 1) * a ^ (2 * j + 1) % p = 1 := by
    rw [← Nat.pow_add, show 2 * j + 1 + (2 * j + 1) = p - 1 by omega]
    exact fermat1 hp a ha
  have e : a ^ (2 * j + 2) = a ^ (2 * j + 1) * a := by rw [show 2 * j + 2 = 2 * j + 1 + 1 by omega, Nat.pow_succ]
  rw [e]
  rcases sq_mod hp hz with h | h
  · left
    rw [Nat.mul_mod, h, Nat.one_mul, Nat.mod_mod]
  · right
    rw [show a ^ (2 * j + 1) * a + a = (a ^ (2 * j + 1) + 1) * a by rw [Nat.add_mul, Nat.one_mul], Nat.mul_mod, h, Nat.zero_mul, Nat.zero_mod]
theorem even_pow {p a b : Nat} (h : (a + b) % p = 0) (k : Nat) : a ^ (2 * k) % p = b ^ (2 * k) % p := by
  rw [Nat.pow_mul, Nat.pow_mul, Nat.pow_mod, Nat.pow_mod (b ^ 2)]
  congr 2
  rw [Nat.pow_two, Nat.pow_two]
  have e : a * a + b * (a + b) = b * b + a * (a + b) := by grind
  have e1 : (a * a + b * (a + b)) % p = a * a % p := by rw [Nat.add_mod, Nat.mul_mod b, h, Nat.mul_zero, Nat.zero_mod, Nat.add_zero, Nat.mod_mod]
  have e2 : (b * b + a * (a + b)) % p = b * b % p := by rw [Nat.add_mod, Nat.mul_mod a, h, Nat.mul_zero, Nat.zero_mod, Nat.add_zero, Nat.mod_mod]
  rw [← e1, ← e2, e]
end NT
end Go.Proofs.Ytjmbgchoioepjaa
end
