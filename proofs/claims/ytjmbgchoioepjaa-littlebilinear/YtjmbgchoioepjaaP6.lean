/- Texts of the proof, joined. -/
import Derived.Test.YtjmbgchoioepjaaP5
section
namespace Go.Proofs.Ytjmbgchoioepjaa
open Go.RowKit
namespace Rg
abbrev E2 : Type := Nat × Nat
abbrev lc (a : E2) : List Value := l2 a.1 a.2
structure Lt2 (p : Nat) (a : E2) : Prop where
  x : a.1 < p
  y : a.2 < p
def t2 (p a b c d : Nat) : Nat := (a * b + c * d) % p
theorem t2_lt {p a b c d : Nat} (hp : Pr p) : t2 p a b c d < p := Nat.mod_lt _ (zero_lt hp)
/-- Products and powers of numbers of two parts. -/
def pd (p : Nat) (a b : E2) : E2 := (t2 p a.1 b.1 (mi p 0 a.2) b.2, t2 p a.1 b.2 a.2 b.1)
theorem pd_lt {p : Nat} (hp : Pr p) (a b : E2) : Lt2 p (pd p a b) := ⟨t2_lt hp, t2_lt hp⟩
def rsf (p : Nat) : Nat → E2 → E2 → Nat → E2
  | 0, all, _, _ => all
  | f + 1, all, a, n => if n = 0 then all else rsf p f (if n % 2 = 1 then pd p all a else all) (pd p a a) (n / 2)
def rs (p : Nat) (all a : E2) (n : Nat) : E2 := rsf p 64 all a n
theorem rsf_up (p : Nat) : ∀ (f : Nat) (all a : E2) (n : Nat), n < 2 ^ f → rsf p f all a n = rsf p (f + 1) all a n
  | 0, all, a, n, h => by
    have : n = 0 := by omega
    subst this
    rfl
  | f + 1, all, a, n, h => by
    rw [rsf, rsf]
    split
    · rfl
    · exact rsf_up p f _ _ (n / 2) (by rw [Nat.pow_succ] at h; omega)
theorem rs_zero (p : Nat) (all a : E2) : rs p all a 0 = all := rfl
theorem rs_odd (p : Nat) (all a : E2) (n : Nat) (hn : n < 18446744073709551616) (h : n % 2 = 1) : rs p (pd p all a) (pd p a a) (n / 2) = rs p all a n := by
  have e := rsf_up p 63 (pd p all a) (pd p a a) (n / 2) (by rw [show 2 ^ 63 = 9223372036854775808 by decide]; omega)
  unfold rs
  rw [← e]
  have : rsf p 64 all a n = if n = 0 then all else rsf p 63 (if n % 2 = 1 then pd p all a else all) (pd p a a) (n / 2) := rfl
  rw [this, if_neg (by omega), if_pos h]
theorem rs_even (p : Nat) (all a : E2) (n : Nat) (hn : n < 18446744073709551616) (h : ¬ n % 2 = 1) (h0 : 0 < n) : rs p all (pd p a a) (n / 2) = rs p all a n := by
  have e := rsf_up p 63 all (pd p a a) (n / 2) (by rw [show 2 ^ 63 = 9223372036854775808 by decide]; omega)
  unfold rs
  rw [← e]
  have : rsf p 64 all a n = if n = 0 then all else rsf p 63 (if n % 2 = 1 then pd p all a else all) (pd p a a) (n / 2) := rfl
  rw [this, if_neg (by omega), if_neg h]
theorem rsf_lt {p : Nat} (hp : Pr p) : ∀ (f : Nat) (all a : E2) (n : Nat), Lt2 p all → Lt2 p (rsf p f all a n)
  | 0, _, _, _, h => h
  | f + 1, all, a, n, h => by
    rw [rsf]
    split
    · exact h
    · refine rsf_lt hp f _ _ _ ?_
      split
      · exact pd_lt hp _ _
      · exact h
theorem rs_lt {p : Nat} (hp : Pr p) {all : E2} (a : E2) (n : Nat) (h : Lt2 p all) : Lt2 p (rs p all a n) := rsf_lt hp 64 _ _ _ h
/-- Lines. -/
def lw (p : Nat) (t : T3) (nz ri X Y : Nat) : E2 := (t2 p ri (pl p (tm p X (tm p t.2.2 t.2.2)) t.1) 1 (mi p 0 (tm p 2 (tm p t.2.1 t.2.1))), tm p Y (tm p nz (tm p t.2.2 t.2.2)))
def lj (p sz X Y ri X' Y' : Nat) : E2 := (t2 p ri (pl p X' X) (mi p 0 Y) sz, tm p Y' sz)
def sx (p : Nat) (t : T3) (X : Nat) : Bool := decide (tm p X (tm p t.2.2 t.2.2) = t.1)
/-- A step of the walk. -/
def f1 (p : Nat) (s : E2 × T3) (X' Y' : Nat) : E2 := pd p (pd p s.1 s.1) (lw p s.2 (twT p s.2).2.2 (tR p s.2.1 s.2.2.2) X' Y')
def st (p X Y X' Y' : Nat) (Z : Bool) (bit : Nat) (s : E2 × T3) : E2 × T3 :=
  if bit = 0 ∨ sx p (twT p s.2) X = true then (f1 p s X' Y', twT p s.2)
  else (pd p (f1 p s X' Y') (lj p (jnT p (twT p s.2) X Y Z).2.2 X Y (jnR p (twT p s.2) X Y Z) X' Y'), jnT p (twT p s.2) X Y Z)
def wsm (p r X Y X' Y' : Nat) (Z : Bool) : Nat → E2 × T3
  | 0 => ((1, 0), tO X Y Z)
  | m + 1 => st p X Y X' Y' Z (r / 2 ^ (bl r - 1 - 1 - m) % 2) (wsm p r X Y X' Y' Z m)
def wk (p r X Y X' Y' : Nat) (Z : Bool) : E2 := (wsm p r X Y X' Y' Z (bl r - 1)).1
structure LtS (p : Nat) (s : E2 × T3) : Prop where
  f : Lt2 p s.1
  t : Lt3 p s.2
theorem st_lt {p : Nat} (hp : Pr p) {X Y X' Y' : Nat} {Z : Bool} (hX : X < p) (hY : Y < p) (bit : Nat) (s : E2 × T3) : LtS p (st p X Y X' Y' Z bit s) := by
  unfold st
  split
  · exact ⟨pd_lt hp _ _, tw_lt hp _⟩
  · exact ⟨pd_lt hp _ _, jn_lt hp (tw_lt hp _) hX hY⟩
theorem ws_lt {p : Nat} (hp : Pr p) {r X Y X' Y' : Nat} {Z : Bool} (hX : X < p) (hY : Y < p) : ∀ m, LtS p (wsm p r X Y X' Y' Z m)
  | 0 => ⟨⟨one_lt hp, zero_lt hp⟩, tO_lt hp hX hY⟩
  | _ + 1 => st_lt hp hX hY _ _
/-- The last power. -/
def ls (p c : Nat) (f : E2) : E2 := rs p (1, 0) (pd p (pd p (f.1, mi p 0 f.2) (f.1, mi p 0 f.2)) (pw p (t2 p f.1 f.1 f.2 f.2) (p - 2), 0)) c
/-- The number of two points. -/
def pr (p r c X Y X' Y' : Nat) (Z Z' : Bool) : E2 := if Z = true ∨ Z' = true then (1, 0) else ls p c (wk p r X Y X' Y' Z)
theorem add_lo (m n : Nat) (w : World) : (callFunc 84 #[U (m % 18446744073709551616), U (n % 18446744073709551616), U 0]).run Try.prog w = .ok (.value (.tuple #[U ((m + n) % 18446744073709551616), U ((m % 18446744073709551616 + n % 18446744073709551616) / 18446744073709551616)])) w := by
  have h := add64' ((m % 18446744073709551616 : Nat) : Int) ((n % 18446744073709551616 : Nat) : Int) 0 (by omega) (by omega) (by omega) (by omega) w
  have e1 : addLo ((m % 18446744073709551616 : Nat) : Int) ((n % 18446744073709551616 : Nat) : Int) 0 = (((m + n) % 18446744073709551616 : Nat) : Int) := by unfold addLo; omega
  have e2 : addHi ((m % 18446744073709551616 : Nat) : Int) ((n % 18446744073709551616 : Nat) : Int) 0 = (((m % 18446744073709551616 + n % 18446744073709551616) / 18446744073709551616 : Nat) : Int) := by unfold addHi; omega
  rw [e1, e2] at h
  exact h
theorem add_hi (m n : Nat) (hs : m + n < 18446744073709551616 * 18446744073709551616) (w : World) : (callFunc 84 #[U (m / 18446744073709551616), U (n / 18446744073709551616), U ((m % 18446744073709551616 + n % 18446744073709551616) / 18446744073709551616)]).run Try.prog w = .ok (.value (.tuple #[U ((m + n) / 18446744073709551616), U 0])) w := by
  have h := add64' ((m / 18446744073709551616 : Nat) : Int) ((n / 18446744073709551616 : Nat) : Int) (((m % 18446744073709551616 + n % 18446744073709551616) / 18446744073709551616 : Nat) : Int) (by omega) (by omega) (by omega) (by omega) w
  have e1 : addLo ((m / 18446744073709551616 : Nat) : Int) ((n / 18446744073709551616 : Nat) : Int) (((m % 18446744073709551616 + n % 18446744073709551616) / 18446744073709551616 : Nat) : Int) = (((m + n) / 18446744073709551616 : Nat) : Int) := by unfold addLo; omega
  have e2 : addHi ((m / 18446744073709551616 : Nat) : Int) ((n / 18446744073709551616 : Nat) : Int) (((m % 18446744073709551616 + n % 18446744073709551616) / 18446744073709551616 : Nat) : Int) = ((0 : Nat) : Int) := by unfold addHi; omega
  rw [e1, e2] at h
  exact h
theorem sum_small {p a b c d : Nat} (hp : Pr p) (ha : a < p) (hb : b < p) (hc : c < p) (hd : d < p) : a * b + c * d < 18446744073709551616 * 18446744073709551616 := by
  have h1 : a * b ≤ 1152921504606846976 * 1152921504606846976 := Nat.mul_le_mul (by have := hp.hi; omega) (by have := hp.hi; omega)
  have h2 : c * d ≤ 1152921504606846976 * 1152921504606846976 := Nat.mul_le_mul (by have := hp.hi; omega) (by have := hp.hi; omega)
  omega
theorem Mm.pick {w : World} {l : List (Nat × List Value)} (h : Mm w l) (js : List Nat) {l' : List (Nat × List Value)} (e : js.map (fun i => l[i]?) = l'.map some) (hn : js.Pairwise (· ≠ ·)) : Mm w l' := by
  have hpw := List.pairwise_iff_getElem.1 h.nd
  have hlen : js.length = l'.length := by
    have := congrArg List.length e
    simpa using this
  have at_ : ∀ (k : Nat) (hk : k < l'.length), l[js[k]'(by omega)]? = some l'[k] := fun k hk => by
    have h2 : (js.map (fun i => l[i]?))[k]? = (l'.map some)[k]? := by rw [e]
    rw [List.getElem?_map, List.getElem?_map, List.getElem?_eq_getElem (show k < js.length by omega), List.getElem?_eq_getElem hk] at h2
    simpa using h2
  refine ⟨fun p hp => ?_, List.pairwise_iff_getElem.2 fun i j hi hj hij => ?_⟩
  · obtain ⟨k, hk, ek⟩ := List.getElem_of_mem hp
    have := at_ k hk
    rw [ek] at this
    exact h.blk p (List.mem_of_getElem? this)
  · have h1 := at_ i hi
    have h2 := at_ j hj
    have hne : js[i]'(by omega) ≠ js[j]'(by omega) := (List.pairwise_iff_getElem.1 hn) i j (by omega) (by omega) hij
    obtain ⟨q1, e1⟩ := List.getElem?_eq_some_iff.1 h1
    obtain ⟨q2, e2⟩ := List.getElem?_eq_some_iff.1 h2
    rw [← e1, ← e2]
    rcases Nat.lt_or_gt_of_ne hne with hl | hl
    · exact hpw _ _ q1 q2 hl
    · exact (hpw _ _ q2 q1 hl).symm
theorem call63 : ∀ args w, (callFunc 63 args).run Try.prog w = .ok (.enter 63 args) w := by intro args w; go_simp
theorem call65 : ∀ args w, (callFunc 65 args).run Try.prog w = .ok (.enter 65 args) w := by intro args w; go_simp
theorem call78 : ∀ args w, (callFunc 78 args).run Try.prog w = .ok (.enter 78 args) w := by intro args w; go_simp
theorem call79 : ∀ args w, (callFunc 79 args).run Try.prog w = .ok (.enter 79 args) w := by intro args w; go_simp
theorem call80 : ∀ args w, (callFunc 80 args).run Try.prog w = .ok (.enter 80 args) w := by intro args w; go_simp
theorem call81 : ∀ args w, (callFunc 81 args).run Try.prog w = .ok (.enter 81 args) w := by intro args w; go_simp
section
variable {p r c gx gy : Nat}
set_option maxRecDepth 100000 in
theorem twoTimes_any (hp : Pr p) (a b m d : Nat) (ha : a < p) (hb : b < p) (hm0 : m < p) (hd : d < p) (w : World) :
    Calls Try.prog 78 #[.agg (kd p r c gx gy).toArray, U a, U b, U m, U d] w fun e w' => e = .returned (U (t2 p a b m d)) ∧ Below w.heap.size w w' := by
  have H0 : Hid (_ ∧ _) := ⟨Mm.nil w, Below.refl w.heap.size w⟩
  go_enter Try.func78, Try.ntmps78
  refine wp_seq ?_
  refine walk_seqA 2 [.made (kd p r c gx gy) 72, .quiet (U 0)] (sB H0) ?ho1 ?he1
  case ho1 => exact ak (fun γ => ⟨rfl, fun w' => ex_boxT rfl rfl⟩) (ak (fun _ => ⟨rfl, fun _ _ => rfl⟩) trivial)
  intro γ w1 l hM hl
  have H1 : Hid (Mm w1 [(γ 0, kd p r c gx gy)] ∧ _) := growB H0 hM (Nat.le_refl _) hl [0] rfl (by decide)
  have o1_0 := ownB H0 hM (Nat.le_refl _) hl (i := 0) rfl
  clear hM hl l
  generalize γ 0 = γ1_0 at H1 o1_0 ⊢
  clear γ
  refine rest0 rfl (then_normal (wp_seq ?_))
  refine walk_seqB 8 [.quiet (U a), .quiet (U b), .call (.tuple #[U (a * b / 18446744073709551616), U (a * b % 18446744073709551616)]), .quiet (.tuple #[U (a * b / 18446744073709551616), U (a * b % 18446744073709551616)]), .quiet (U (a * b / 18446744073709551616)), .quiet (U (a * b % 18446744073709551616)), .quiet (U (a * b / 18446744073709551616)), .quiet (U (a * b % 18446744073709551616))] H1 ?ho2 ?he2
  case ho2 => exact ak (fun _ => ⟨rfl, fun _ _ => rfl⟩) (ak (fun _ => ⟨rfl, fun _ _ => rfl⟩) (ak (fun γ => ⟨rfl, fun w' h => ⟨75, #[U a, U b], exec_call rfl call75 rfl (mpn rfl), mul_in a b (by have := hp.hi; omega) (by have := hp.hi; omega) w'⟩⟩) (ak (fun _ => ⟨rfl, fun _ _ => rfl⟩) (ak (by refine fun γ => ⟨rfl, fun w' h => ?_⟩; clear h; go_simp) (ak (by refine fun γ => ⟨rfl, fun w' h => ?_⟩; clear h; go_simp) (ak (fun _ => ⟨rfl, fun _ _ => rfl⟩) (ak (fun _ => ⟨rfl, fun _ _ => rfl⟩) trivial)))))))
  intro _ w2 H2
  clear H1
  refine rest0 rfl (then_normal (wp_seq ?_))
  refine walk_seqB 8 [.quiet (U m), .quiet (U d), .call (.tuple #[U (m * d / 18446744073709551616), U (m * d % 18446744073709551616)]), .quiet (.tuple #[U (m * d / 18446744073709551616), U (m * d % 18446744073709551616)]), .quiet (U (m * d / 18446744073709551616)), .quiet (U (m * d % 18446744073709551616)), .quiet (U (m * d / 18446744073709551616)), .quiet (U (m * d % 18446744073709551616))] H2 ?ho3 ?he3
  case ho3 => exact ak (fun _ => ⟨rfl, fun _ _ => rfl⟩) (ak (fun _ => ⟨rfl, fun _ _ => rfl⟩) (ak (fun γ => ⟨rfl, fun w' h => ⟨75, #[U m, U d], exec_call rfl call75 rfl (mpn rfl), mul_in m d (by have := hp.hi; omega) (by have := hp.hi; omega) w'⟩⟩) (ak (fun _ => ⟨rfl, fun _ _ => rfl⟩) (ak (by refine fun γ => ⟨rfl, fun w' h => ?_⟩; clear h; go_simp) (ak (by refine fun γ => ⟨rfl, fun w' h => ?_⟩; clear h; go_simp) (ak (fun _ => ⟨rfl, fun _ _ => rfl⟩) (ak (fun _ => ⟨rfl, fun _ _ => rfl⟩) trivial)))))))
  intro _ w3 H3
  clear H2
  refine rest0 rfl (then_normal (wp_seq ?_))
  refine walk_seqB 6 [.quiet (U (a * b % 18446744073709551616)), .quiet (U (m * d % 18446744073709551616)), .quiet (.tuple #[U ((a * b + m * d) % 18446744073709551616), U ((a * b % 18446744073709551616 + m * d % 18446744073709551616) / 18446744073709551616)]), .quiet (.tuple #[U ((a * b + m * d) % 18446744073709551616), U ((a * b % 18446744073709551616 + m * d % 18446744073709551616) / 18446744073709551616)]), .quiet (U ((a * b + m * d) % 18446744073709551616)), .quiet (U ((a * b % 18446744073709551616 + m * d % 18446744073709551616) / 18446744073709551616))] H3 ?ho4 ?he4
  case ho4 => exact ak (fun _ => ⟨rfl, fun _ _ => rfl⟩) (ak (fun _ => ⟨rfl, fun _ _ => rfl⟩) (ak (fun γ => ⟨rfl, fun w' h => ex_extern rfl (add_lo (a * b) (m * d) w') rfl (mpn rfl)⟩) (ak (fun _ => ⟨rfl, fun _ _ => rfl⟩) (ak (by refine fun γ => ⟨rfl, fun w' h => ?_⟩; clear h; go_simp) (ak (by refine fun γ => ⟨rfl, fun w' h => ?_⟩; clear h; go_simp) trivial)))))
  intro _ w4 H4
  clear H3
  refine rest_at (l := [6, 7]) rfl ?_
  refine rest_set (d := 12) rfl rfl rfl rfl ?_
  simp only [Act.put, sa, sz, ss]
  refine rest_set (d := 15) rfl rfl rfl rfl ?_
  simp only [Act.put, sa, sz, ss]
  refine rest_nil (then_normal (wp_seq ?_))
  refine walk_seqB 7 [.quiet (U (a * b / 18446744073709551616)), .quiet (U (m * d / 18446744073709551616)), .quiet (U ((a * b % 18446744073709551616 + m * d % 18446744073709551616) / 18446744073709551616)), .quiet (.tuple #[U ((a * b + m * d) / 18446744073709551616), U 0]), .quiet (.tuple #[U ((a * b + m * d) / 18446744073709551616), U 0]), .quiet (U ((a * b + m * d) / 18446744073709551616)), .quiet (U 0)] H4 ?ho5 ?he5
  case ho5 => exact ak (fun _ => ⟨rfl, fun _ _ => rfl⟩) (ak (fun _ => ⟨rfl, fun _ _ => rfl⟩) (ak (fun _ => ⟨rfl, fun _ _ => rfl⟩) (ak (fun γ => ⟨rfl, fun w' h => ex_extern rfl (add_hi (a * b) (m * d) (sum_small hp ha hb hm0 hd) w') rfl (mpn rfl)⟩) (ak (fun _ => ⟨rfl, fun _ _ => rfl⟩) (ak (by refine fun γ => ⟨rfl, fun w' h => ?_⟩; clear h; go_simp) (ak (by refine fun γ => ⟨rfl, fun w' h => ?_⟩; clear h; go_simp) trivial))))))
  intro _ w5 H5
  clear H4
  refine rest_at (l := [7]) rfl ?_
  refine rest_set (d := 11) rfl rfl rfl rfl ?_
  simp only [Act.put, sa, sz, ss]
  refine rest_nil (then_normal (wp_seq ?_))
  refine walk_seqB 6 [.quiet (U ((a * b + m * d) / 18446744073709551616)), .quiet (U ((a * b + m * d) % 18446744073709551616)), .quiet (PT γ1_0 0), .quiet (U p), .call (U ((a * b + m * d) % p)), .quiet (U ((a * b + m * d) % p))] H5 ?ho6 ?he6
  case ho6 => exact ak (fun _ => ⟨rfl, fun _ _ => rfl⟩) (ak (fun _ => ⟨rfl, fun _ _ => rfl⟩) (ak (by refine fun γ => ⟨rfl, fun w' h => ?_⟩; clear h; go_simp) (ak (fun γ => ⟨rfl, fun w' h => ex_loadC h 0 rfl rfl rfl Try.isAgg23 rfl⟩) (ak (fun γ => ⟨rfl, fun w' h => ⟨76, #[U ((a * b + m * d) / 18446744073709551616), U ((a * b + m * d) % 18446744073709551616), U p], exec_call rfl call76 rfl (mpn rfl), rem_in hp (a * b + m * d) w'⟩⟩) (ak (fun _ => ⟨rfl, fun _ _ => rfl⟩) trivial)))))
  intro _ w6 H6
  clear H5
  refine rest0 rfl (then_normal (wp_ret ?_))
  repeat (first | refine then_ret ?_ | refine block_ret ?_)
  refine bodyPost_ret (v := U ((a * b + m * d) % p)) (by simp [results, Try.results78, go_sem, *]) rfl ?_
  exact ⟨rfl, H6.out.2⟩
set_option maxHeartbeats 1000000 in
set_option maxRecDepth 100000 in
theorem product_any (hp : Pr p) (a b : E2) (ha : Lt2 p a) (hb : Lt2 p b) (w : World) :
    Calls Try.prog 63 #[.agg (kd p r c gx gy).toArray, .agg (l2 a.1 a.2).toArray, .agg (l2 b.1 b.2).toArray] w fun e w' => e = .returned (V (lc (pd p a b))) ∧ Below w.heap.size w w' := by
  have H0 : Hid (_ ∧ _) := ⟨Mm.nil w, Below.refl w.heap.size w⟩
  go_enter Try.func63, Try.ntmps63
  refine wp_seq ?_
  refine walk_seqA 4 [.made (kd p r c gx gy) 72, .made (l2 a.1 a.2) 49, .made (l2 b.1 b.2) 49, .made (l2 0 0) 49] (sB H0) ?ho1 ?he1
  case ho1 => exact ak (fun γ => ⟨rfl, fun w' => ex_boxT rfl rfl⟩) (ak (fun γ => ⟨rfl, fun w' => ex_boxT rfl rfl⟩) (ak (fun γ => ⟨rfl, fun w' => ex_boxT rfl rfl⟩) (ak (fun γ => ⟨rfl, fun w' => ex_made49 rfl⟩) trivial)))
  intro γ w1 l hM hl
  have H1 : Hid (Mm w1 [(γ 0, kd p r c gx gy), (γ 1, l2 a.1 a.2), (γ 2, l2 b.1 b.2), (γ 3, l2 0 0)] ∧ _) := growB H0 hM (Nat.le_refl _) hl [0, 1, 2, 3] rfl (by decide)
  have o1_0 := ownB H0 hM (Nat.le_refl _) hl (i := 0) rfl
  have o1_1 := ownB H0 hM (Nat.le_refl _) hl (i := 1) rfl
  have o1_2 := ownB H0 hM (Nat.le_refl _) hl (i := 2) rfl
  have o1_3 := ownB H0 hM (Nat.le_refl _) hl (i := 3) rfl
  clear hM hl l
  generalize γ 0 = γ1_0 at H1 o1_0 ⊢
  generalize γ 1 = γ1_1 at H1 o1_1 ⊢
  generalize γ 2 = γ1_2 at H1 o1_2 ⊢
  generalize γ 3 = γ1_3 at H1 o1_3 ⊢
  clear γ
  refine rest0 rfl (then_normal (wp_seq ?_))
  refine walk_anyB 23 [.quiet (.agg (kd p r c gx gy).toArray), .quiet (PT γ1_1 0), .quiet (U a.1), .quiet (PT γ1_2 0), .quiet (U b.1), .quiet (.agg (kd p r c gx gy).toArray), .quiet (PT γ1_1 1), .quiet (U a.2), .call (U (mi p 0 a.2)), .quiet (PT γ1_2 1), .quiet (U b.2), .call (U (t2 p a.1 b.1 (mi p 0 a.2) b.2)), .quiet (.agg (kd p r c gx gy).toArray), .quiet (PT γ1_1 0), .quiet (U a.1), .quiet (PT γ1_2 1), .quiet (U b.2), .quiet (PT γ1_1 1), .quiet (U a.2), .quiet (PT γ1_2 0), .quiet (U b.1), .call (U (t2 p a.1 b.2 a.2 b.1)), .quiet (.agg (l2 (t2 p a.1 b.1 (mi p 0 a.2) b.2) (t2 p a.1 b.2 a.2 b.1)).toArray)] H1 ?ho2 ?he2
  case ho2 => exact ak (fun γ => ⟨rfl, fun w' h => ex_loadT h 0 rfl rfl rfl Try.isAgg72 Try.sizeOf72 rfl rfl⟩) (ak (by refine fun γ => ⟨rfl, fun w' h => ?_⟩; clear h; go_simp) (ak (fun γ => ⟨rfl, fun w' h => ex_loadC h 1 rfl rfl rfl Try.isAgg23 rfl⟩) (ak (by refine fun γ => ⟨rfl, fun w' h => ?_⟩; clear h; go_simp) (ak (fun γ => ⟨rfl, fun w' h => ex_loadC h 2 rfl rfl rfl Try.isAgg23 rfl⟩) (ak (fun γ => ⟨rfl, fun w' h => ex_loadT h 0 rfl rfl rfl Try.isAgg72 Try.sizeOf72 rfl rfl⟩) (ak (by refine fun γ => ⟨rfl, fun w' h => ?_⟩; clear h; go_simp) (ak (fun γ => ⟨rfl, fun w' h => ex_loadC h 1 rfl rfl rfl Try.isAgg23 rfl⟩) (ak (fun γ => ⟨rfl, fun w' h => ⟨48, #[.agg (kd p r c gx gy).toArray, U 0, U a.2], exec_call rfl call48 rfl (mpn rfl), minus_any hp 0 a.2 (zero_lt hp) ha.y w'⟩⟩) (ak (by refine fun γ => ⟨rfl, fun w' h => ?_⟩; clear h; go_simp) (ak (fun γ => ⟨rfl, fun w' h => ex_loadC h 2 rfl rfl rfl Try.isAgg23 rfl⟩) (ak (fun γ => ⟨rfl, fun w' h => ⟨78, #[.agg (kd p r c gx gy).toArray, U a.1, U b.1, U (mi p 0 a.2), U b.2], exec_call rfl call78 rfl (mpn rfl), twoTimes_any hp a.1 b.1 (mi p 0 a.2) b.2 ha.x hb.x (mi_lt hp) hb.y w'⟩⟩) (ak (fun γ => ⟨rfl, fun w' h => ex_loadT h 0 rfl rfl rfl Try.isAgg72 Try.sizeOf72 rfl rfl⟩) (ak (by refine fun γ => ⟨rfl, fun w' h => ?_⟩; clear h; go_simp) (ak (fun γ => ⟨rfl, fun w' h => ex_loadC h 1 rfl rfl rfl Try.isAgg23 rfl⟩) (ak (by refine fun γ => ⟨rfl, fun w' h => ?_⟩; clear h; go_simp) (ak (fun γ => ⟨rfl, fun w' h => ex_loadC h 2 rfl rfl rfl Try.isAgg23 rfl⟩) (ak (by refine fun γ => ⟨rfl, fun w' h => ?_⟩; clear h; go_simp) (ak (fun γ => ⟨rfl, fun w' h => ex_loadC h 1 rfl rfl rfl Try.isAgg23 rfl⟩) (ak (by refine fun γ => ⟨rfl, fun w' h => ?_⟩; clear h; go_simp) (ak (fun γ => ⟨rfl, fun w' h => ex_loadC h 2 rfl rfl rfl Try.isAgg23 rfl⟩) (ak (fun γ => ⟨rfl, fun w' h => ⟨78, #[.agg (kd p r c gx gy).toArray, U a.1, U b.2, U a.2, U b.1], exec_call rfl call78 rfl (mpn rfl), twoTimes_any hp a.1 b.2 a.2 b.1 ha.x hb.y ha.y hb.x w'⟩⟩) (ak (fun γ => ⟨rfl, fun w' _ => ex_build49_01 rfl rfl rfl⟩) trivial))))))))))))))))))))))
  intro _ w2 H2
  clear H1
  refine rest_at (l := [23]) rfl ?_
  refine rest_store rfl rfl rfl (ex_storeT (vs := l2 (t2 p a.1 b.1 (mi p 0 a.2) b.2) (t2 p a.1 b.2 a.2 b.1)) H2.out.1 3 rfl rfl rfl rfl Try.sizeOf49 rfl (Nat.le_of_ble_eq_true rfl)) ?_
  have H3 : Hid (Mm (w2.setCells γ1_3 0 (l2 (t2 p a.1 b.1 (mi p 0 a.2) b.2) (t2 p a.1 b.2 a.2 b.1))) [(γ1_0, kd p r c gx gy), (γ1_1, l2 a.1 a.2), (γ1_2, l2 b.1 b.2), (γ1_3, l2 (t2 p a.1 b.1 (mi p 0 a.2) b.2) (t2 p a.1 b.2 a.2 b.1))] ∧ Below w.heap.size w (w2.setCells γ1_3 0 (l2 (t2 p a.1 b.1 (mi p 0 a.2) b.2) (t2 p a.1 b.2 a.2 b.1)))) := ⟨H2.out.1.put 3 (off := 0) (vs := l2 (t2 p a.1 b.1 (mi p 0 a.2) b.2) (t2 p a.1 b.2 a.2 b.1)) rfl (Nat.le_of_ble_eq_true rfl), below_setCells _ o1_3.out _ _ _ H2.out.2⟩
  clear H2
  generalize hgw : World.setCells _ _ _ _ = w3 at H3 ⊢
  clear hgw
  refine rest_nil (then_normal (wp_ret ?_))
  repeat (first | refine then_ret ?_ | refine block_ret ?_)
  have hf0 := var_T H3.out.1 3 rfl Try.isAgg49 Try.sizeOf49 rfl
  refine bodyPost_ret (v := .agg (l2 (t2 p a.1 b.1 (mi p 0 a.2) b.2) (t2 p a.1 b.2 a.2 b.1)).toArray) (by simp [results, Try.results63, asAddr, hf0]) rfl ?_
  exact ⟨rfl, H3.out.2⟩
set_option maxRecDepth 100000 in
theorem left_any (hp : Pr p) (a : E2) (w : World) :
    Calls Try.prog 64 #[.agg (kd p r c gx gy).toArray, .agg (l2 a.1 a.2).toArray] w fun e w' => e = .returned (V (l2 (a.1 % p) (a.2 % p))) ∧ Below w.heap.size w w' := by
  have H0 : Hid (_ ∧ _) := ⟨Mm.nil w, Below.refl w.heap.size w⟩
  go_enter Try.func64, Try.ntmps64
  refine wp_seq ?_
  refine walk_seqA 3 [.made (kd p r c gx gy) 72, .made (l2 a.1 a.2) 49, .made (l2 0 0) 49] (sB H0) ?ho1 ?he1
  case ho1 => exact ak (fun γ => ⟨rfl, fun w' => ex_boxT rfl rfl⟩) (ak (fun γ => ⟨rfl, fun w' => ex_boxT rfl rfl⟩) (ak (fun γ => ⟨rfl, fun w' => ex_made49 rfl⟩) trivial))
  intro γ w1 l hM hl
  have H1 : Hid (Mm w1 [(γ 0, kd p r c gx gy), (γ 1, l2 a.1 a.2), (γ 2, l2 0 0)] ∧ _) := growB H0 hM (Nat.le_refl _) hl [0, 1, 2] rfl (by decide)
  have o1_0 := ownB H0 hM (Nat.le_refl _) hl (i := 0) rfl
  have o1_1 := ownB H0 hM (Nat.le_refl _) hl (i := 1) rfl
  have o1_2 := ownB H0 hM (Nat.le_refl _) hl (i := 2) rfl
  clear hM hl l
  generalize γ 0 = γ1_0 at H1 o1_0 ⊢
  generalize γ 1 = γ1_1 at H1 o1_1 ⊢
  generalize γ 2 = γ1_2 at H1 o1_2 ⊢
  clear γ
  refine rest0 rfl (then_normal (wp_seq ?_))
  refine walk_anyB 11 [.quiet (PT γ1_1 0), .quiet (U a.1), .quiet (PT γ1_0 0), .quiet (U p), .quiet (U (a.1 % p)), .quiet (PT γ1_1 1), .quiet (U a.2), .quiet (PT γ1_0 0), .quiet (U p), .quiet (U (a.2 % p)), .quiet (.agg (l2 (a.1 % p) (a.2 % p)).toArray)] H1 ?ho2 ?he2
  case ho2 => exact ak (by refine fun γ => ⟨rfl, fun w' h => ?_⟩; clear h; go_simp) (ak (fun γ => ⟨rfl, fun w' h => ex_loadC h 1 rfl rfl rfl Try.isAgg23 rfl⟩) (ak (by refine fun γ => ⟨rfl, fun w' h => ?_⟩; clear h; go_simp) (ak (fun γ => ⟨rfl, fun w' h => ex_loadC h 0 rfl rfl rfl Try.isAgg23 rfl⟩) (ak (fun γ => ⟨rfl, fun w' _ => ex_remU (Nat.ne_of_gt (zero_lt hp)) rfl rfl rfl⟩) (ak (by refine fun γ => ⟨rfl, fun w' h => ?_⟩; clear h; go_simp) (ak (fun γ => ⟨rfl, fun w' h => ex_loadC h 1 rfl rfl rfl Try.isAgg23 rfl⟩) (ak (by refine fun γ => ⟨rfl, fun w' h => ?_⟩; clear h; go_simp) (ak (fun γ => ⟨rfl, fun w' h => ex_loadC h 0 rfl rfl rfl Try.isAgg23 rfl⟩) (ak (fun γ => ⟨rfl, fun w' _ => ex_remU (Nat.ne_of_gt (zero_lt hp)) rfl rfl rfl⟩) (ak (fun γ => ⟨rfl, fun w' _ => ex_build49_01 rfl rfl rfl⟩) trivial))))))))))
  intro _ w2 H2
  clear H1
  refine rest_at (l := [11]) rfl ?_
  refine rest_store rfl rfl rfl (ex_storeT (vs := l2 (a.1 % p) (a.2 % p)) H2.out.1 2 rfl rfl rfl rfl Try.sizeOf49 rfl (Nat.le_of_ble_eq_true rfl)) ?_
  have H3 : Hid (Mm (w2.setCells γ1_2 0 (l2 (a.1 % p) (a.2 % p))) [(γ1_0, kd p r c gx gy), (γ1_1, l2 a.1 a.2), (γ1_2, l2 (a.1 % p) (a.2 % p))] ∧ Below w.heap.size w (w2.setCells γ1_2 0 (l2 (a.1 % p) (a.2 % p)))) := ⟨H2.out.1.put 2 (off := 0) (vs := l2 (a.1 % p) (a.2 % p)) rfl (Nat.le_of_ble_eq_true rfl), below_setCells _ o1_2.out _ _ _ H2.out.2⟩
  clear H2
  generalize hgw : World.setCells _ _ _ _ = w3 at H3 ⊢
  clear hgw
  refine rest_nil (then_normal (wp_ret ?_))
  repeat (first | refine then_ret ?_ | refine block_ret ?_)
  have hf0 := var_T H3.out.1 2 rfl Try.isAgg49 Try.sizeOf49 rfl
  refine bodyPost_ret (v := .agg (l2 (a.1 % p) (a.2 % p)).toArray) (by simp [results, Try.results64, asAddr, hf0]) rfl ?_
  exact ⟨rfl, H3.out.2⟩
set_option maxHeartbeats 1000000 in
set_option maxRecDepth 100000 in
theorem raised_any (hp : Pr p) (a : E2) (ha : Lt2 p a) (n : Nat) (hn : n < 18446744073709551616) (w : World) :
    Calls Try.prog 65 #[.agg (kd p r c gx gy).toArray, .agg (l2 a.1 a.2).toArray, U n] w fun e w' => e = .returned (V (lc (rs p (1, 0) a n))) ∧ Below w.heap.size w w' := by
  have H0 : Hid (_ ∧ _) := ⟨Mm.nil w, Below.refl w.heap.size w⟩
  go_enter Try.func65, Try.ntmps65
  refine wp_seq ?_
  refine walk_seqA 3 [.made (kd p r c gx gy) 72, .made (l2 a.1 a.2) 49, .made (l2 0 0) 49] (sB H0) ?ho1 ?he1
  case ho1 => exact ak (fun γ => ⟨rfl, fun w' => ex_boxT rfl rfl⟩) (ak (fun γ => ⟨rfl, fun w' => ex_boxT rfl rfl⟩) (ak (fun γ => ⟨rfl, fun w' => ex_made49 rfl⟩) trivial))
  intro γ w1 l hM hl
  have H1 : Hid (Mm w1 [(γ 0, kd p r c gx gy), (γ 1, l2 a.1 a.2), (γ 2, l2 0 0)] ∧ _) := growB H0 hM (Nat.le_refl _) hl [0, 1, 2] rfl (by decide)
  have o1_0 := ownB H0 hM (Nat.le_refl _) hl (i := 0) rfl
  have o1_1 := ownB H0 hM (Nat.le_refl _) hl (i := 1) rfl
  have o1_2 := ownB H0 hM (Nat.le_refl _) hl (i := 2) rfl
  clear hM hl l
  generalize γ 0 = γ1_0 at H1 o1_0 ⊢
  generalize γ 1 = γ1_1 at H1 o1_1 ⊢
  generalize γ 2 = γ1_2 at H1 o1_2 ⊢
  clear γ
  refine rest0 rfl (then_normal (wp_seq ?_))
  refine walk_seqA 3 [.quiet (.agg (l2 1 0).toArray), .made (l2 0 0) 49, .laid 1 (l2 0 0) (l2 1 0)] (sB H1) ?ho2 ?he2 (hL := ?hL2)
  case hL2 => exact ⟨⟨_, rfl⟩, trivial⟩
  case ho2 => exact ak (fun γ => ⟨rfl, fun w' _ => ex_build49_0 rfl rfl⟩) (ak (fun γ => ⟨rfl, fun w' => ex_made49 rfl⟩) (ak (fun γ => ⟨rfl, rfl, rfl, fun w' h => ex_laidT h rfl rfl Try.sizeOf49 rfl rfl rfl⟩) trivial))
  intro γ w2 l hM hl
  have H2 : Hid (Mm w2 [(γ 1, l2 1 0), (γ1_0, kd p r c gx gy), (γ1_1, l2 a.1 a.2), (γ1_2, l2 0 0)] ∧ _) := growB H1 hM (Nat.le_refl _) hl [1] rfl (by decide)
  have o2_1 := ownB H1 hM (Nat.le_refl _) hl (i := 1) rfl
  clear hM hl l H1
  generalize γ 1 = γ2_1 at H2 o2_1 ⊢
  clear γ
  refine rest0 rfl (then_normal (wp_seq (wp_block ?_)))
  refine loop_ghost (α := E2 × E2 × Nat) (fun z a' w' => ∃ s0 : Nat → Value, a' = ⟨#[.agg (kd p r c gx gy).toArray, .agg (l2 a.1 a.2).toArray, U z.2.2, PT γ1_0 0, PT γ1_1 0, undef, PT γ1_2 0, PT γ2_1 0, .agg (l2 1 0).toArray, s0 9, s0 10, s0 11, s0 12, s0 13, s0 14, s0 15, s0 16, s0 17, s0 18, s0 19, s0 20, s0 21, s0 22, s0 23, undef], []⟩ ∧ (Mm w' [(γ2_1, lc z.1), (γ1_0, kd p r c gx gy), (γ1_1, lc z.2.1), (γ1_2, l2 0 0)] ∧ Below w.heap.size w w') ∧ (Lt2 p z.1 ∧ Lt2 p z.2.1 ∧ z.2.2 < 18446744073709551616 ∧ rs p z.1 z.2.1 z.2.2 = rs p (1, 0) a n)) (fun z => z.2.2) ((1, 0), a, n) ?st0 ?rd0
  case st0 => exact ⟨(slotfn [undef, undef, undef, undef, undef, undef, undef, undef, undef, undef, undef, undef, undef, undef, undef, undef, undef, undef, undef, undef, undef, undef, undef, undef]), rfl, ⟨H2.out.1, H2.out.2⟩, ⟨⟨one_lt hp, zero_lt hp⟩, ha, hn, rfl⟩⟩
  intro z a' w3 hI
  obtain ⟨s0, rfl, hMB, hk0⟩ := hI
  have H3 : Hid (_ ∧ _) := hMB
  clear hMB H2
  by_cases hlt : 0 < z.2.2
  · have hrd : True := trivial
    clear hrd
    obtain ⟨hz1, hz2, hz3, hz4⟩ := hk0
    by_cases ho : z.2.2 % 2 = 1
    · have hrd : True := trivial
      clear hrd
      refine wp_seq (wp_seq ?_)
      refine walk_seqB 2 [.quiet (U z.2.2), .quiet (.bool true)] H3 ?ho3 ?he3
      case ho3 => exact ak (fun _ => ⟨rfl, fun _ _ => rfl⟩) (ak (fun γ => ⟨rfl, fun w' _ => ex_gtU rfl rfl rfl (decide_eq_true (hlt))⟩) trivial)
      intro _ w4 H4
      clear H3
      refine rest0 rfl (then_normal (wp_cond_true rfl ?_))
      refine wp_skip (then_normal ?_)
      refine wp_seq (wp_block ?_)
      refine wp_seq (wp_seq ?_)
      refine walk_seqB 3 [.quiet (U z.2.2), .quiet (U (z.2.2 % 2)), .quiet (.bool true)] H4 ?ho4 ?he4
      case ho4 => exact ak (fun _ => ⟨rfl, fun _ _ => rfl⟩) (ak (fun γ => ⟨rfl, fun w' _ => ex_and1 rfl (hz3) rfl rfl⟩) (ak (fun γ => ⟨rfl, fun w' _ => ex_eqU rfl rfl rfl (decide_eq_true (ho))⟩) trivial))
      intro _ w5 H5
      clear H4
      refine rest0 rfl (then_normal (wp_cond_true rfl ?_))
      refine walk_seqB 4 [.quiet (.agg (kd p r c gx gy).toArray), .quiet (.agg (lc z.1).toArray), .quiet (.agg (lc z.2.1).toArray), .call (.agg (l2 ((pd p z.1 z.2.1).1) ((pd p z.1 z.2.1).2)).toArray)] H5 ?ho5 ?he5
      case ho5 => exact ak (fun γ => ⟨rfl, fun w' h => ex_loadT h 1 rfl rfl rfl Try.isAgg72 Try.sizeOf72 rfl rfl⟩) (ak (fun γ => ⟨rfl, fun w' h => ex_loadT h 0 rfl rfl rfl Try.isAgg49 Try.sizeOf49 rfl rfl⟩) (ak (fun γ => ⟨rfl, fun w' h => ex_loadT h 2 rfl rfl rfl Try.isAgg49 Try.sizeOf49 rfl rfl⟩) (ak (fun γ => ⟨rfl, fun w' h => ⟨63, #[.agg (kd p r c gx gy).toArray, .agg (lc z.1).toArray, .agg (lc z.2.1).toArray], exec_call rfl call63 rfl (mpn rfl), product_any hp z.1 z.2.1 hz1 hz2 w'⟩⟩) trivial)))
      intro _ w6 H6
      clear H5
      refine rest_at (l := [4]) rfl ?_
      refine rest_store rfl rfl rfl (ex_storeT (vs := l2 ((pd p z.1 z.2.1).1) ((pd p z.1 z.2.1).2)) H6.out.1 0 rfl rfl rfl rfl Try.sizeOf49 rfl (Nat.le_of_ble_eq_true rfl)) ?_
      have H7 : Hid (Mm (w6.setCells γ2_1 0 (l2 ((pd p z.1 z.2.1).1) ((pd p z.1 z.2.1).2))) [(γ2_1, l2 ((pd p z.1 z.2.1).1) ((pd p z.1 z.2.1).2)), (γ1_0, kd p r c gx gy), (γ1_1, lc z.2.1), (γ1_2, l2 0 0)] ∧ Below w.heap.size w (w6.setCells γ2_1 0 (l2 ((pd p z.1 z.2.1).1) ((pd p z.1 z.2.1).2)))) := ⟨H6.out.1.put 0 (off := 0) (vs := l2 ((pd p z.1 z.2.1).1) ((pd p z.1 z.2.1).2)) rfl (Nat.le_of_ble_eq_true rfl), below_setCells _ o2_1.out _ _ _ H6.out.2⟩
      clear H6
      generalize hgw : World.setCells _ _ _ _ = w7 at H7 ⊢
      clear hgw
      refine rest_nil (then_normal ?_)
      refine walk_seqB 4 [.quiet (.agg (kd p r c gx gy).toArray), .quiet (.agg (lc z.2.1).toArray), .quiet (.agg (lc z.2.1).toArray), .call (.agg (l2 ((pd p z.2.1 z.2.1).1) ((pd p z.2.1 z.2.1).2)).toArray)] H7 ?ho6 ?he6
      case ho6 => exact ak (fun γ => ⟨rfl, fun w' h => ex_loadT h 1 rfl rfl rfl Try.isAgg72 Try.sizeOf72 rfl rfl⟩) (ak (fun γ => ⟨rfl, fun w' h => ex_loadT h 2 rfl rfl rfl Try.isAgg49 Try.sizeOf49 rfl rfl⟩) (ak (fun γ => ⟨rfl, fun w' h => ex_loadT h 2 rfl rfl rfl Try.isAgg49 Try.sizeOf49 rfl rfl⟩) (ak (fun γ => ⟨rfl, fun w' h => ⟨63, #[.agg (kd p r c gx gy).toArray, .agg (lc z.2.1).toArray, .agg (lc z.2.1).toArray], exec_call rfl call63 rfl (mpn rfl), product_any hp z.2.1 z.2.1 hz2 hz2 w'⟩⟩) trivial)))
      intro _ w8 H8
      clear H7
      refine rest_at (l := [4]) rfl ?_
      refine rest_store rfl rfl rfl (ex_storeT (vs := l2 ((pd p z.2.1 z.2.1).1) ((pd p z.2.1 z.2.1).2)) H8.out.1 2 rfl rfl rfl rfl Try.sizeOf49 rfl (Nat.le_of_ble_eq_true rfl)) ?_
      have H9 : Hid (Mm (w8.setCells γ1_1 0 (l2 ((pd p z.2.1 z.2.1).1) ((pd p z.2.1 z.2.1).2))) [(γ2_1, l2 ((pd p z.1 z.2.1).1) ((pd p z.1 z.2.1).2)), (γ1_0, kd p r c gx gy), (γ1_1, l2 ((pd p z.2.1 z.2.1).1) ((pd p z.2.1 z.2.1).2)), (γ1_2, l2 0 0)] ∧ Below w.heap.size w (w8.setCells γ1_1 0 (l2 ((pd p z.2.1 z.2.1).1) ((pd p z.2.1 z.2.1).2)))) := ⟨H8.out.1.put 2 (off := 0) (vs := l2 ((pd p z.2.1 z.2.1).1) ((pd p z.2.1 z.2.1).2)) rfl (Nat.le_of_ble_eq_true rfl), below_setCells _ o1_1.out _ _ _ H8.out.2⟩
      clear H8
      generalize hgw : World.setCells _ _ _ _ = w9 at H9 ⊢
      clear hgw
      refine rest_nil (block_normal (then_normal ?_))
      refine walk_seqB 2 [.quiet (U z.2.2), .quiet (U (z.2.2 / 2))] H9 ?ho7 ?he7
      case ho7 => exact ak (fun _ => ⟨rfl, fun _ _ => rfl⟩) (ak (fun γ => ⟨rfl, fun w' _ => ex_shr1 rfl rfl rfl⟩) trivial)
      intro _ w10 H10
      clear H9
      refine rest_at (l := [2]) rfl ?_
      refine rest_set (d := 2) rfl rfl rfl rfl ?_
      simp only [Act.put, sa, sz, ss]
      refine rest_nil (then_normal ?_)
      exact ⟨(pd p z.1 z.2.1, pd p z.2.1 z.2.1, z.2.2 / 2), ⟨(slotfn [undef, undef, undef, undef, undef, undef, undef, undef, undef, U z.2.2, .bool true, U z.2.2, U (z.2.2 / 2), U z.2.2, U (z.2.2 % 2), .bool true, .agg (kd p r c gx gy).toArray, .agg (lc z.1).toArray, .agg (lc z.2.1).toArray, .agg (l2 ((pd p z.1 z.2.1).1) ((pd p z.1 z.2.1).2)).toArray, .agg (kd p r c gx gy).toArray, .agg (lc z.2.1).toArray, .agg (lc z.2.1).toArray, .agg (l2 ((pd p z.2.1 z.2.1).1) ((pd p z.2.1 z.2.1).2)).toArray]), rfl, ⟨H10.out.1, H10.out.2⟩, ⟨pd_lt hp _ _, pd_lt hp _ _, Nat.lt_of_le_of_lt (Nat.div_le_self _ _) hz3, (rs_odd p _ _ _ hz3 ho).trans hz4⟩⟩, Nat.div_lt_self hlt (by decide)⟩
    · have hrd : True := trivial
      clear hrd
      refine wp_seq (wp_seq ?_)
      refine walk_seqB 2 [.quiet (U z.2.2), .quiet (.bool true)] H3 ?ho8 ?he8
      case ho8 => exact ak (fun _ => ⟨rfl, fun _ _ => rfl⟩) (ak (fun γ => ⟨rfl, fun w' _ => ex_gtU rfl rfl rfl (decide_eq_true (hlt))⟩) trivial)
      intro _ w11 H11
      clear H3
      refine rest0 rfl (then_normal (wp_cond_true rfl ?_))
      refine wp_skip (then_normal ?_)
      refine wp_seq (wp_block ?_)
      refine wp_seq (wp_seq ?_)
      refine walk_seqB 3 [.quiet (U z.2.2), .quiet (U (z.2.2 % 2)), .quiet (.bool false)] H11 ?ho9 ?he9
      case ho9 => exact ak (fun _ => ⟨rfl, fun _ _ => rfl⟩) (ak (fun γ => ⟨rfl, fun w' _ => ex_and1 rfl (hz3) rfl rfl⟩) (ak (fun γ => ⟨rfl, fun w' _ => ex_eqU rfl rfl rfl (decide_eq_false (ho))⟩) trivial))
      intro _ w12 H12
      clear H11
      refine rest0 rfl (then_normal (wp_cond_false rfl ?_))
      refine wp_skip (then_normal ?_)
      refine walk_seqB 4 [.quiet (.agg (kd p r c gx gy).toArray), .quiet (.agg (lc z.2.1).toArray), .quiet (.agg (lc z.2.1).toArray), .call (.agg (l2 ((pd p z.2.1 z.2.1).1) ((pd p z.2.1 z.2.1).2)).toArray)] H12 ?ho10 ?he10
      case ho10 => exact ak (fun γ => ⟨rfl, fun w' h => ex_loadT h 1 rfl rfl rfl Try.isAgg72 Try.sizeOf72 rfl rfl⟩) (ak (fun γ => ⟨rfl, fun w' h => ex_loadT h 2 rfl rfl rfl Try.isAgg49 Try.sizeOf49 rfl rfl⟩) (ak (fun γ => ⟨rfl, fun w' h => ex_loadT h 2 rfl rfl rfl Try.isAgg49 Try.sizeOf49 rfl rfl⟩) (ak (fun γ => ⟨rfl, fun w' h => ⟨63, #[.agg (kd p r c gx gy).toArray, .agg (lc z.2.1).toArray, .agg (lc z.2.1).toArray], exec_call rfl call63 rfl (mpn rfl), product_any hp z.2.1 z.2.1 hz2 hz2 w'⟩⟩) trivial)))
      intro _ w13 H13
      clear H12
      refine rest_at (l := [4]) rfl ?_
      refine rest_store rfl rfl rfl (ex_storeT (vs := l2 ((pd p z.2.1 z.2.1).1) ((pd p z.2.1 z.2.1).2)) H13.out.1 2 rfl rfl rfl rfl Try.sizeOf49 rfl (Nat.le_of_ble_eq_true rfl)) ?_
      have H14 : Hid (Mm (w13.setCells γ1_1 0 (l2 ((pd p z.2.1 z.2.1).1) ((pd p z.2.1 z.2.1).2))) [(γ2_1, lc z.1), (γ1_0, kd p r c gx gy), (γ1_1, l2 ((pd p z.2.1 z.2.1).1) ((pd p z.2.1 z.2.1).2)), (γ1_2, l2 0 0)] ∧ Below w.heap.size w (w13.setCells γ1_1 0 (l2 ((pd p z.2.1 z.2.1).1) ((pd p z.2.1 z.2.1).2)))) := ⟨H13.out.1.put 2 (off := 0) (vs := l2 ((pd p z.2.1 z.2.1).1) ((pd p z.2.1 z.2.1).2)) rfl (Nat.le_of_ble_eq_true rfl), below_setCells _ o1_1.out _ _ _ H13.out.2⟩
      clear H13
      generalize hgw : World.setCells _ _ _ _ = w14 at H14 ⊢
      clear hgw
      refine rest_nil (block_normal (then_normal ?_))
      refine walk_seqB 2 [.quiet (U z.2.2), .quiet (U (z.2.2 / 2))] H14 ?ho11 ?he11
      case ho11 => exact ak (fun _ => ⟨rfl, fun _ _ => rfl⟩) (ak (fun γ => ⟨rfl, fun w' _ => ex_shr1 rfl rfl rfl⟩) trivial)
      intro _ w15 H15
      clear H14
      refine rest_at (l := [2]) rfl ?_
      refine rest_set (d := 2) rfl rfl rfl rfl ?_
      simp only [Act.put, sa, sz, ss]
      refine rest_nil (then_normal ?_)
      exact ⟨(z.1, pd p z.2.1 z.2.1, z.2.2 / 2), ⟨(slotfn [undef, undef, undef, undef, undef, undef, undef, undef, undef, U z.2.2, .bool true, U z.2.2, U (z.2.2 / 2), U z.2.2, U (z.2.2 % 2), .bool false, s0 16, s0 17, s0 18, s0 19, .agg (kd p r c gx gy).toArray, .agg (lc z.2.1).toArray, .agg (lc z.2.1).toArray, .agg (l2 ((pd p z.2.1 z.2.1).1) ((pd p z.2.1 z.2.1).2)).toArray]), rfl, ⟨H15.out.1, H15.out.2⟩, ⟨hz1, pd_lt hp _ _, Nat.lt_of_le_of_lt (Nat.div_le_self _ _) hz3, (rs_even p _ _ _ hz3 ho hlt).trans hz4⟩⟩, Nat.div_lt_self hlt (by decide)⟩
  obtain ⟨hz1, hz2, hz3, hz4⟩ := hk0
  refine wp_seq (wp_seq ?_)
  refine walk_seqB 2 [.quiet (U z.2.2), .quiet (.bool false)] H3 ?ho12 ?he12
  case ho12 => exact ak (fun _ => ⟨rfl, fun _ _ => rfl⟩) (ak (fun γ => ⟨rfl, fun w' _ => ex_gtU rfl rfl rfl (decide_eq_false (hlt))⟩) trivial)
  intro _ w16 H16
  clear H3
  refine rest0 rfl (then_normal (wp_cond_false rfl ?_))
  refine wp_exit ?_
  repeat refine then_exit ?_
  refine block_exit ?_
  refine then_normal (wp_seq ?_)
  refine walk_seqB 1 [.quiet (.agg (lc z.1).toArray)] H16 ?ho13 ?he13
  case ho13 => exact ak (fun γ => ⟨rfl, fun w' h => ex_loadT h 0 rfl rfl rfl Try.isAgg49 Try.sizeOf49 rfl rfl⟩) trivial
  intro _ w17 H17
  clear H16
  refine rest_at (l := [1]) rfl ?_
  refine rest_store rfl rfl rfl (ex_storeT (vs := lc z.1) H17.out.1 3 rfl rfl rfl rfl Try.sizeOf49 rfl (Nat.le_of_ble_eq_true rfl)) ?_
  have H18 : Hid (Mm (w17.setCells γ1_2 0 (lc z.1)) [(γ2_1, lc z.1), (γ1_0, kd p r c gx gy), (γ1_1, lc z.2.1), (γ1_2, lc z.1)] ∧ Below w.heap.size w (w17.setCells γ1_2 0 (lc z.1))) := ⟨H17.out.1.put 3 (off := 0) (vs := lc z.1) rfl (Nat.le_of_ble_eq_true rfl), below_setCells _ o1_2.out _ _ _ H17.out.2⟩
  clear H17
  generalize hgw : World.setCells _ _ _ _ = w18 at H18 ⊢
  clear hgw
  refine rest_nil (then_normal (wp_ret ?_))
  repeat (first | refine then_ret ?_ | refine block_ret ?_)
  have hf0 := var_T H18.out.1 3 rfl Try.isAgg49 Try.sizeOf49 rfl
  refine bodyPost_ret (v := .agg (lc z.1).toArray) (by simp [results, Try.results65, asAddr, hf0]) rfl ?_
  exact ⟨by rw [← hz4, show z.2.2 = 0 by omega, rs_zero], H18.out.2⟩
set_option maxRecDepth 100000 in
theorem sameX_any (hp : Pr p) (t : T3) (ht : Lt3 p t) (X Y : Nat) (Z : Bool) (hX : X < p) (w : World) :
    Calls Try.prog 80 #[.agg (kd p r c gx gy).toArray, .agg (tr t.1 t.2.1 t.2.2).toArray, .agg (pt X Y Z).toArray] w fun e w' => e = .returned (.bool (sx p t X)) ∧ Below w.heap.size w w' := by
  have H0 : Hid (_ ∧ _) := ⟨Mm.nil w, Below.refl w.heap.size w⟩
  go_enter Try.func80, Try.ntmps80
  refine wp_seq ?_
  refine walk_seqA 4 [.made (kd p r c gx gy) 72, .made (tr t.1 t.2.1 t.2.2) 77, .made (pt X Y Z) 25, .quiet (.bool false)] (sB H0) ?ho1 ?he1
  case ho1 => exact ak (fun γ => ⟨rfl, fun w' => ex_boxT rfl rfl⟩) (ak (fun γ => ⟨rfl, fun w' => ex_boxT rfl rfl⟩) (ak (fun γ => ⟨rfl, fun w' => ex_boxT rfl rfl⟩) (ak (fun _ => ⟨rfl, fun _ _ => rfl⟩) trivial)))
  intro γ w1 l hM hl
  have H1 : Hid (Mm w1 [(γ 0, kd p r c gx gy), (γ 1, tr t.1 t.2.1 t.2.2), (γ 2, pt X Y Z)] ∧ _) := growB H0 hM (Nat.le_refl _) hl [0, 1, 2] rfl (by decide)
  have o1_0 := ownB H0 hM (Nat.le_refl _) hl (i := 0) rfl
  have o1_1 := ownB H0 hM (Nat.le_refl _) hl (i := 1) rfl
  have o1_2 := ownB H0 hM (Nat.le_refl _) hl (i := 2) rfl
  clear hM hl l
  generalize γ 0 = γ1_0 at H1 o1_0 ⊢
  generalize γ 1 = γ1_1 at H1 o1_1 ⊢
  generalize γ 2 = γ1_2 at H1 o1_2 ⊢
  clear γ
  refine rest0 rfl (then_normal (wp_seq ?_))
  refine walk_anyB 14 [.quiet (.agg (kd p r c gx gy).toArray), .quiet (PT γ1_2 0), .quiet (U X), .quiet (.agg (kd p r c gx gy).toArray), .quiet (PT γ1_1 2), .quiet (U t.2.2), .quiet (PT γ1_1 2), .quiet (U t.2.2), .call (U (tm p t.2.2 t.2.2)), .call (U (tm p X (tm p t.2.2 t.2.2))), .quiet (PT γ1_1 0), .quiet (U t.1), .quiet (.bool (decide (tm p X (tm p t.2.2 t.2.2) = t.1))), .quiet (.bool (decide (tm p X (tm p t.2.2 t.2.2) = t.1)))] H1 ?ho2 ?he2
  case ho2 => exact ak (fun γ => ⟨rfl, fun w' h => ex_loadT h 0 rfl rfl rfl Try.isAgg72 Try.sizeOf72 rfl rfl⟩) (ak (by refine fun γ => ⟨rfl, fun w' h => ?_⟩; clear h; go_simp) (ak (fun γ => ⟨rfl, fun w' h => ex_loadC h 2 rfl rfl rfl Try.isAgg23 rfl⟩) (ak (fun γ => ⟨rfl, fun w' h => ex_loadT h 0 rfl rfl rfl Try.isAgg72 Try.sizeOf72 rfl rfl⟩) (ak (by refine fun γ => ⟨rfl, fun w' h => ?_⟩; clear h; go_simp) (ak (fun γ => ⟨rfl, fun w' h => ex_loadC h 1 rfl rfl rfl Try.isAgg23 rfl⟩) (ak (by refine fun γ => ⟨rfl, fun w' h => ?_⟩; clear h; go_simp) (ak (fun γ => ⟨rfl, fun w' h => ex_loadC h 1 rfl rfl rfl Try.isAgg23 rfl⟩) (ak (fun γ => ⟨rfl, fun w' h => ⟨69, #[.agg (kd p r c gx gy).toArray, U t.2.2, U t.2.2], exec_call rfl call69 rfl (mpn rfl), times_any hp t.2.2 t.2.2 ht.z ht.z w'⟩⟩) (ak (fun γ => ⟨rfl, fun w' h => ⟨69, #[.agg (kd p r c gx gy).toArray, U X, U (tm p t.2.2 t.2.2)], exec_call rfl call69 rfl (mpn rfl), times_any hp X (tm p t.2.2 t.2.2) hX (tm_lt hp) w'⟩⟩) (ak (by refine fun γ => ⟨rfl, fun w' h => ?_⟩; clear h; go_simp) (ak (fun γ => ⟨rfl, fun w' h => ex_loadC h 1 rfl rfl rfl Try.isAgg23 rfl⟩) (ak (fun γ => ⟨rfl, fun w' _ => ex_eqU rfl rfl rfl rfl⟩) (ak (fun _ => ⟨rfl, fun _ _ => rfl⟩) trivial)))))))))))))
  intro _ w2 H2
  clear H1
  refine rest0 rfl (then_normal (wp_ret ?_))
  repeat (first | refine then_ret ?_ | refine block_ret ?_)
  refine bodyPost_ret (v := .bool (decide (tm p X (tm p t.2.2 t.2.2) = t.1))) (by simp [results, Try.results80, go_sem, *]) rfl ?_
  exact ⟨rfl, H2.out.2⟩
set_option maxHeartbeats 1000000 in
set_option maxRecDepth 100000 in
theorem lineT_any (hp : Pr p) (t : T3) (ht : Lt3 p t) (nx ny nz : Nat) (hnz : nz < p) (ri : Nat) (hri : ri < p) (X Y : Nat) (Z : Bool) (hX : X < p) (hY : Y < p) (w : World) :
    Calls Try.prog 79 #[.agg (kd p r c gx gy).toArray, .agg (tr t.1 t.2.1 t.2.2).toArray, .agg (tr nx ny nz).toArray, U ri, .agg (pt X Y Z).toArray] w fun e w' => e = .returned (V (lc (lw p t nz ri X Y))) ∧ Below w.heap.size w w' := by
  have H0 : Hid (_ ∧ _) := ⟨Mm.nil w, Below.refl w.heap.size w⟩
  go_enter Try.func79, Try.ntmps79
  refine wp_seq ?_
  refine walk_seqA 5 [.made (kd p r c gx gy) 72, .made (tr t.1 t.2.1 t.2.2) 77, .made (tr nx ny nz) 77, .made (pt X Y Z) 25, .made (l2 0 0) 49] (sB H0) ?ho1 ?he1
  case ho1 => exact ak (fun γ => ⟨rfl, fun w' => ex_boxT rfl rfl⟩) (ak (fun γ => ⟨rfl, fun w' => ex_boxT rfl rfl⟩) (ak (fun γ => ⟨rfl, fun w' => ex_boxT rfl rfl⟩) (ak (fun γ => ⟨rfl, fun w' => ex_boxT rfl rfl⟩) (ak (fun γ => ⟨rfl, fun w' => ex_made49 rfl⟩) trivial))))
  intro γ w1 l hM hl
  have H1 : Hid (Mm w1 [(γ 0, kd p r c gx gy), (γ 1, tr t.1 t.2.1 t.2.2), (γ 2, tr nx ny nz), (γ 3, pt X Y Z), (γ 4, l2 0 0)] ∧ _) := growB H0 hM (Nat.le_refl _) hl [0, 1, 2, 3, 4] rfl (by decide)
  have o1_0 := ownB H0 hM (Nat.le_refl _) hl (i := 0) rfl
  have o1_1 := ownB H0 hM (Nat.le_refl _) hl (i := 1) rfl
  have o1_2 := ownB H0 hM (Nat.le_refl _) hl (i := 2) rfl
  have o1_3 := ownB H0 hM (Nat.le_refl _) hl (i := 3) rfl
  have o1_4 := ownB H0 hM (Nat.le_refl _) hl (i := 4) rfl
  clear hM hl l
  generalize γ 0 = γ1_0 at H1 o1_0 ⊢
  generalize γ 1 = γ1_1 at H1 o1_1 ⊢
  generalize γ 2 = γ1_2 at H1 o1_2 ⊢
  generalize γ 3 = γ1_3 at H1 o1_3 ⊢
  generalize γ 4 = γ1_4 at H1 o1_4 ⊢
  clear γ
  refine rest0 rfl (then_normal (wp_seq ?_))
  refine walk_seqB 7 [.quiet (.agg (kd p r c gx gy).toArray), .quiet (PT γ1_1 2), .quiet (U t.2.2), .quiet (PT γ1_1 2), .quiet (U t.2.2), .call (U (tm p t.2.2 t.2.2)), .quiet (U (tm p t.2.2 t.2.2))] H1 ?ho2 ?he2
  case ho2 => exact ak (fun γ => ⟨rfl, fun w' h => ex_loadT h 0 rfl rfl rfl Try.isAgg72 Try.sizeOf72 rfl rfl⟩) (ak (by refine fun γ => ⟨rfl, fun w' h => ?_⟩; clear h; go_simp) (ak (fun γ => ⟨rfl, fun w' h => ex_loadC h 1 rfl rfl rfl Try.isAgg23 rfl⟩) (ak (by refine fun γ => ⟨rfl, fun w' h => ?_⟩; clear h; go_simp) (ak (fun γ => ⟨rfl, fun w' h => ex_loadC h 1 rfl rfl rfl Try.isAgg23 rfl⟩) (ak (fun γ => ⟨rfl, fun w' h => ⟨69, #[.agg (kd p r c gx gy).toArray, U t.2.2, U t.2.2], exec_call rfl call69 rfl (mpn rfl), times_any hp t.2.2 t.2.2 ht.z ht.z w'⟩⟩) (ak (fun _ => ⟨rfl, fun _ _ => rfl⟩) trivial))))))
  intro _ w2 H2
  clear H1
  refine rest0 rfl (then_normal (wp_seq ?_))
  refine walk_anyB 10 [.quiet (.agg (kd p r c gx gy).toArray), .quiet (.agg (kd p r c gx gy).toArray), .quiet (PT γ1_3 0), .quiet (U X), .quiet (U (tm p t.2.2 t.2.2)), .call (U (tm p X (tm p t.2.2 t.2.2))), .quiet (PT γ1_1 0), .quiet (U t.1), .call (U (pl p (tm p X (tm p t.2.2 t.2.2)) t.1)), .quiet (U (pl p (tm p X (tm p t.2.2 t.2.2)) t.1))] H2 ?ho3 ?he3
  case ho3 => exact ak (fun γ => ⟨rfl, fun w' h => ex_loadT h 0 rfl rfl rfl Try.isAgg72 Try.sizeOf72 rfl rfl⟩) (ak (fun γ => ⟨rfl, fun w' h => ex_loadT h 0 rfl rfl rfl Try.isAgg72 Try.sizeOf72 rfl rfl⟩) (ak (by refine fun γ => ⟨rfl, fun w' h => ?_⟩; clear h; go_simp) (ak (fun γ => ⟨rfl, fun w' h => ex_loadC h 3 rfl rfl rfl Try.isAgg23 rfl⟩) (ak (fun _ => ⟨rfl, fun _ _ => rfl⟩) (ak (fun γ => ⟨rfl, fun w' h => ⟨69, #[.agg (kd p r c gx gy).toArray, U X, U (tm p t.2.2 t.2.2)], exec_call rfl call69 rfl (mpn rfl), times_any hp X (tm p t.2.2 t.2.2) hX (tm_lt hp) w'⟩⟩) (ak (by refine fun γ => ⟨rfl, fun w' h => ?_⟩; clear h; go_simp) (ak (fun γ => ⟨rfl, fun w' h => ex_loadC h 1 rfl rfl rfl Try.isAgg23 rfl⟩) (ak (fun γ => ⟨rfl, fun w' h => ⟨71, #[.agg (kd p r c gx gy).toArray, U (tm p X (tm p t.2.2 t.2.2)), U t.1], exec_call rfl call71 rfl (mpn rfl), plus_any hp (tm p X (tm p t.2.2 t.2.2)) t.1 (tm_lt hp) ht.x w'⟩⟩) (ak (fun _ => ⟨rfl, fun _ _ => rfl⟩) trivial)))))))))
  intro _ w3 H3
  clear H2
  refine rest0 rfl (then_normal (wp_seq ?_))
  refine walk_anyB 13 [.quiet (.agg (kd p r c gx gy).toArray), .quiet (.agg (kd p r c gx gy).toArray), .quiet (PT γ1_1 1), .quiet (U t.2.1), .quiet (PT γ1_1 1), .quiet (U t.2.1), .call (U (tm p t.2.1 t.2.1)), .quiet (U (2 * (tm p t.2.1 t.2.1))), .quiet (PT γ1_0 0), .quiet (U p), .quiet (U (tm p 2 (tm p t.2.1 t.2.1))), .call (U (mi p 0 (tm p 2 (tm p t.2.1 t.2.1)))), .quiet (U (mi p 0 (tm p 2 (tm p t.2.1 t.2.1))))] H3 ?ho4 ?he4
  case ho4 => exact ak (fun γ => ⟨rfl, fun w' h => ex_loadT h 0 rfl rfl rfl Try.isAgg72 Try.sizeOf72 rfl rfl⟩) (ak (fun γ => ⟨rfl, fun w' h => ex_loadT h 0 rfl rfl rfl Try.isAgg72 Try.sizeOf72 rfl rfl⟩) (ak (by refine fun γ => ⟨rfl, fun w' h => ?_⟩; clear h; go_simp) (ak (fun γ => ⟨rfl, fun w' h => ex_loadC h 1 rfl rfl rfl Try.isAgg23 rfl⟩) (ak (by refine fun γ => ⟨rfl, fun w' h => ?_⟩; clear h; go_simp) (ak (fun γ => ⟨rfl, fun w' h => ex_loadC h 1 rfl rfl rfl Try.isAgg23 rfl⟩) (ak (fun γ => ⟨rfl, fun w' h => ⟨69, #[.agg (kd p r c gx gy).toArray, U t.2.1, U t.2.1], exec_call rfl call69 rfl (mpn rfl), times_any hp t.2.1 t.2.1 ht.y ht.y w'⟩⟩) (ak (fun γ => ⟨rfl, fun w' _ => ex_mulU (small_mul hp (by decide) (tm_lt hp)) rfl rfl rfl⟩) (ak (by refine fun γ => ⟨rfl, fun w' h => ?_⟩; clear h; go_simp) (ak (fun γ => ⟨rfl, fun w' h => ex_loadC h 0 rfl rfl rfl Try.isAgg23 rfl⟩) (ak (fun γ => ⟨rfl, fun w' _ => ex_remU (Nat.ne_of_gt (zero_lt hp)) rfl rfl rfl⟩) (ak (fun γ => ⟨rfl, fun w' h => ⟨48, #[.agg (kd p r c gx gy).toArray, U 0, U (tm p 2 (tm p t.2.1 t.2.1))], exec_call rfl call48 rfl (mpn rfl), minus_any hp 0 (tm p 2 (tm p t.2.1 t.2.1)) (zero_lt hp) (tm_lt hp) w'⟩⟩) (ak (fun _ => ⟨rfl, fun _ _ => rfl⟩) trivial))))))))))))
  intro _ w4 H4
  clear H3
  refine rest0 rfl (then_normal (wp_seq ?_))
  refine walk_anyB 15 [.quiet (.agg (kd p r c gx gy).toArray), .quiet (U ri), .quiet (U (pl p (tm p X (tm p t.2.2 t.2.2)) t.1)), .quiet (U (mi p 0 (tm p 2 (tm p t.2.1 t.2.1)))), .call (U (t2 p ri (pl p (tm p X (tm p t.2.2 t.2.2)) t.1) 1 (mi p 0 (tm p 2 (tm p t.2.1 t.2.1))))), .quiet (.agg (kd p r c gx gy).toArray), .quiet (PT γ1_3 1), .quiet (U Y), .quiet (.agg (kd p r c gx gy).toArray), .quiet (PT γ1_2 2), .quiet (U nz), .quiet (U (tm p t.2.2 t.2.2)), .call (U (tm p nz (tm p t.2.2 t.2.2))), .call (U (tm p Y (tm p nz (tm p t.2.2 t.2.2)))), .quiet (.agg (l2 (t2 p ri (pl p (tm p X (tm p t.2.2 t.2.2)) t.1) 1 (mi p 0 (tm p 2 (tm p t.2.1 t.2.1)))) (tm p Y (tm p nz (tm p t.2.2 t.2.2)))).toArray)] H4 ?ho5 ?he5
  case ho5 => exact ak (fun γ => ⟨rfl, fun w' h => ex_loadT h 0 rfl rfl rfl Try.isAgg72 Try.sizeOf72 rfl rfl⟩) (ak (fun _ => ⟨rfl, fun _ _ => rfl⟩) (ak (fun _ => ⟨rfl, fun _ _ => rfl⟩) (ak (fun _ => ⟨rfl, fun _ _ => rfl⟩) (ak (fun γ => ⟨rfl, fun w' h => ⟨78, #[.agg (kd p r c gx gy).toArray, U ri, U (pl p (tm p X (tm p t.2.2 t.2.2)) t.1), U 1, U (mi p 0 (tm p 2 (tm p t.2.1 t.2.1)))], exec_call rfl call78 rfl (mpn rfl), twoTimes_any hp ri (pl p (tm p X (tm p t.2.2 t.2.2)) t.1) 1 (mi p 0 (tm p 2 (tm p t.2.1 t.2.1))) hri (pl_lt hp) (one_lt hp) (mi_lt hp) w'⟩⟩) (ak (fun γ => ⟨rfl, fun w' h => ex_loadT h 0 rfl rfl rfl Try.isAgg72 Try.sizeOf72 rfl rfl⟩) (ak (by refine fun γ => ⟨rfl, fun w' h => ?_⟩; clear h; go_simp) (ak (fun γ => ⟨rfl, fun w' h => ex_loadC h 3 rfl rfl rfl Try.isAgg23 rfl⟩) (ak (fun γ => ⟨rfl, fun w' h => ex_loadT h 0 rfl rfl rfl Try.isAgg72 Try.sizeOf72 rfl rfl⟩) (ak (by refine fun γ => ⟨rfl, fun w' h => ?_⟩; clear h; go_simp) (ak (fun γ => ⟨rfl, fun w' h => ex_loadC h 2 rfl rfl rfl Try.isAgg23 rfl⟩) (ak (fun _ => ⟨rfl, fun _ _ => rfl⟩) (ak (fun γ => ⟨rfl, fun w' h => ⟨69, #[.agg (kd p r c gx gy).toArray, U nz, U (tm p t.2.2 t.2.2)], exec_call rfl call69 rfl (mpn rfl), times_any hp nz (tm p t.2.2 t.2.2) hnz (tm_lt hp) w'⟩⟩) (ak (fun γ => ⟨rfl, fun w' h => ⟨69, #[.agg (kd p r c gx gy).toArray, U Y, U (tm p nz (tm p t.2.2 t.2.2))], exec_call rfl call69 rfl (mpn rfl), times_any hp Y (tm p nz (tm p t.2.2 t.2.2)) hY (tm_lt hp) w'⟩⟩) (ak (fun γ => ⟨rfl, fun w' _ => ex_build49_01 rfl rfl rfl⟩) trivial))))))))))))))
  intro _ w5 H5
  clear H4
  refine rest_at (l := [15]) rfl ?_
  refine rest_store rfl rfl rfl (ex_storeT (vs := l2 (t2 p ri (pl p (tm p X (tm p t.2.2 t.2.2)) t.1) 1 (mi p 0 (tm p 2 (tm p t.2.1 t.2.1)))) (tm p Y (tm p nz (tm p t.2.2 t.2.2)))) H5.out.1 4 rfl rfl rfl rfl Try.sizeOf49 rfl (Nat.le_of_ble_eq_true rfl)) ?_
  have H6 : Hid (Mm (w5.setCells γ1_4 0 (l2 (t2 p ri (pl p (tm p X (tm p t.2.2 t.2.2)) t.1) 1 (mi p 0 (tm p 2 (tm p t.2.1 t.2.1)))) (tm p Y (tm p nz (tm p t.2.2 t.2.2))))) [(γ1_0, kd p r c gx gy), (γ1_1, tr t.1 t.2.1 t.2.2), (γ1_2, tr nx ny nz), (γ1_3, pt X Y Z), (γ1_4, l2 (t2 p ri (pl p (tm p X (tm p t.2.2 t.2.2)) t.1) 1 (mi p 0 (tm p 2 (tm p t.2.1 t.2.1)))) (tm p Y (tm p nz (tm p t.2.2 t.2.2))))] ∧ Below w.heap.size w (w5.setCells γ1_4 0 (l2 (t2 p ri (pl p (tm p X (tm p t.2.2 t.2.2)) t.1) 1 (mi p 0 (tm p 2 (tm p t.2.1 t.2.1)))) (tm p Y (tm p nz (tm p t.2.2 t.2.2)))))) := ⟨H5.out.1.put 4 (off := 0) (vs := l2 (t2 p ri (pl p (tm p X (tm p t.2.2 t.2.2)) t.1) 1 (mi p 0 (tm p 2 (tm p t.2.1 t.2.1)))) (tm p Y (tm p nz (tm p t.2.2 t.2.2)))) rfl (Nat.le_of_ble_eq_true rfl), below_setCells _ o1_4.out _ _ _ H5.out.2⟩
  clear H5
  generalize hgw : World.setCells _ _ _ _ = w6 at H6 ⊢
  clear hgw
  refine rest_nil (then_normal (wp_ret ?_))
  repeat (first | refine then_ret ?_ | refine block_ret ?_)
  have hf0 := var_T H6.out.1 4 rfl Try.isAgg49 Try.sizeOf49 rfl
  refine bodyPost_ret (v := .agg (l2 (t2 p ri (pl p (tm p X (tm p t.2.2 t.2.2)) t.1) 1 (mi p 0 (tm p 2 (tm p t.2.1 t.2.1)))) (tm p Y (tm p nz (tm p t.2.2 t.2.2)))).toArray) (by simp [results, Try.results79, asAddr, hf0]) rfl ?_
  exact ⟨rfl, H6.out.2⟩
set_option maxHeartbeats 1000000 in
set_option maxRecDepth 100000 in
theorem lineJ_any (hp : Pr p) (a1 a2 s3 : Nat) (hs3 : s3 < p) (X Y : Nat) (Z : Bool) (hX : X < p) (hY : Y < p) (ri : Nat) (hri : ri < p) (X' Y' : Nat) (Z' : Bool) (hX' : X' < p) (hY' : Y' < p) (w : World) :
    Calls Try.prog 81 #[.agg (kd p r c gx gy).toArray, .agg (tr a1 a2 s3).toArray, .agg (pt X Y Z).toArray, U ri, .agg (pt X' Y' Z').toArray] w fun e w' => e = .returned (V (lc (lj p s3 X Y ri X' Y'))) ∧ Below w.heap.size w w' := by
  have H0 : Hid (_ ∧ _) := ⟨Mm.nil w, Below.refl w.heap.size w⟩
  go_enter Try.func81, Try.ntmps81
  refine wp_seq ?_
  refine walk_seqA 5 [.made (kd p r c gx gy) 72, .made (tr a1 a2 s3) 77, .made (pt X Y Z) 25, .made (pt X' Y' Z') 25, .made (l2 0 0) 49] (sB H0) ?ho1 ?he1
  case ho1 => exact ak (fun γ => ⟨rfl, fun w' => ex_boxT rfl rfl⟩) (ak (fun γ => ⟨rfl, fun w' => ex_boxT rfl rfl⟩) (ak (fun γ => ⟨rfl, fun w' => ex_boxT rfl rfl⟩) (ak (fun γ => ⟨rfl, fun w' => ex_boxT rfl rfl⟩) (ak (fun γ => ⟨rfl, fun w' => ex_made49 rfl⟩) trivial))))
  intro γ w1 l hM hl
  have H1 : Hid (Mm w1 [(γ 0, kd p r c gx gy), (γ 1, tr a1 a2 s3), (γ 2, pt X Y Z), (γ 3, pt X' Y' Z'), (γ 4, l2 0 0)] ∧ _) := growB H0 hM (Nat.le_refl _) hl [0, 1, 2, 3, 4] rfl (by decide)
  have o1_0 := ownB H0 hM (Nat.le_refl _) hl (i := 0) rfl
  have o1_1 := ownB H0 hM (Nat.le_refl _) hl (i := 1) rfl
  have o1_2 := ownB H0 hM (Nat.le_refl _) hl (i := 2) rfl
  have o1_3 := ownB H0 hM (Nat.le_refl _) hl (i := 3) rfl
  have o1_4 := ownB H0 hM (Nat.le_refl _) hl (i := 4) rfl
  clear hM hl l
  generalize γ 0 = γ1_0 at H1 o1_0 ⊢
  generalize γ 1 = γ1_1 at H1 o1_1 ⊢
  generalize γ 2 = γ1_2 at H1 o1_2 ⊢
  generalize γ 3 = γ1_3 at H1 o1_3 ⊢
  generalize γ 4 = γ1_4 at H1 o1_4 ⊢
  clear γ
  refine rest0 rfl (then_normal (wp_seq ?_))
  refine walk_anyB 22 [.quiet (.agg (kd p r c gx gy).toArray), .quiet (U ri), .quiet (.agg (kd p r c gx gy).toArray), .quiet (PT γ1_3 0), .quiet (U X'), .quiet (PT γ1_2 0), .quiet (U X), .call (U (pl p X' X)), .quiet (.agg (kd p r c gx gy).toArray), .quiet (PT γ1_2 1), .quiet (U Y), .call (U (mi p 0 Y)), .quiet (PT γ1_1 2), .quiet (U s3), .call (U (t2 p ri (pl p X' X) (mi p 0 Y) s3)), .quiet (.agg (kd p r c gx gy).toArray), .quiet (PT γ1_3 1), .quiet (U Y'), .quiet (PT γ1_1 2), .quiet (U s3), .call (U (tm p Y' s3)), .quiet (.agg (l2 (t2 p ri (pl p X' X) (mi p 0 Y) s3) (tm p Y' s3)).toArray)] H1 ?ho2 ?he2
  case ho2 => exact ak (fun γ => ⟨rfl, fun w' h => ex_loadT h 0 rfl rfl rfl Try.isAgg72 Try.sizeOf72 rfl rfl⟩) (ak (fun _ => ⟨rfl, fun _ _ => rfl⟩) (ak (fun γ => ⟨rfl, fun w' h => ex_loadT h 0 rfl rfl rfl Try.isAgg72 Try.sizeOf72 rfl rfl⟩) (ak (by refine fun γ => ⟨rfl, fun w' h => ?_⟩; clear h; go_simp) (ak (fun γ => ⟨rfl, fun w' h => ex_loadC h 3 rfl rfl rfl Try.isAgg23 rfl⟩) (ak (by refine fun γ => ⟨rfl, fun w' h => ?_⟩; clear h; go_simp) (ak (fun γ => ⟨rfl, fun w' h => ex_loadC h 2 rfl rfl rfl Try.isAgg23 rfl⟩) (ak (fun γ => ⟨rfl, fun w' h => ⟨71, #[.agg (kd p r c gx gy).toArray, U X', U X], exec_call rfl call71 rfl (mpn rfl), plus_any hp X' X hX' hX w'⟩⟩) (ak (fun γ => ⟨rfl, fun w' h => ex_loadT h 0 rfl rfl rfl Try.isAgg72 Try.sizeOf72 rfl rfl⟩) (ak (by refine fun γ => ⟨rfl, fun w' h => ?_⟩; clear h; go_simp) (ak (fun γ => ⟨rfl, fun w' h => ex_loadC h 2 rfl rfl rfl Try.isAgg23 rfl⟩) (ak (fun γ => ⟨rfl, fun w' h => ⟨48, #[.agg (kd p r c gx gy).toArray, U 0, U Y], exec_call rfl call48 rfl (mpn rfl), minus_any hp 0 Y (zero_lt hp) hY w'⟩⟩) (ak (by refine fun γ => ⟨rfl, fun w' h => ?_⟩; clear h; go_simp) (ak (fun γ => ⟨rfl, fun w' h => ex_loadC h 1 rfl rfl rfl Try.isAgg23 rfl⟩) (ak (fun γ => ⟨rfl, fun w' h => ⟨78, #[.agg (kd p r c gx gy).toArray, U ri, U (pl p X' X), U (mi p 0 Y), U s3], exec_call rfl call78 rfl (mpn rfl), twoTimes_any hp ri (pl p X' X) (mi p 0 Y) s3 hri (pl_lt hp) (mi_lt hp) hs3 w'⟩⟩) (ak (fun γ => ⟨rfl, fun w' h => ex_loadT h 0 rfl rfl rfl Try.isAgg72 Try.sizeOf72 rfl rfl⟩) (ak (by refine fun γ => ⟨rfl, fun w' h => ?_⟩; clear h; go_simp) (ak (fun γ => ⟨rfl, fun w' h => ex_loadC h 3 rfl rfl rfl Try.isAgg23 rfl⟩) (ak (by refine fun γ => ⟨rfl, fun w' h => ?_⟩; clear h; go_simp) (ak (fun γ => ⟨rfl, fun w' h => ex_loadC h 1 rfl rfl rfl Try.isAgg23 rfl⟩) (ak (fun γ => ⟨rfl, fun w' h => ⟨69, #[.agg (kd p r c gx gy).toArray, U Y', U s3], exec_call rfl call69 rfl (mpn rfl), times_any hp Y' s3 hY' hs3 w'⟩⟩) (ak (fun γ => ⟨rfl, fun w' _ => ex_build49_01 rfl rfl rfl⟩) trivial)))))))))))))))))))))
  intro _ w2 H2
  clear H1
  refine rest_at (l := [22]) rfl ?_
  refine rest_store rfl rfl rfl (ex_storeT (vs := l2 (t2 p ri (pl p X' X) (mi p 0 Y) s3) (tm p Y' s3)) H2.out.1 4 rfl rfl rfl rfl Try.sizeOf49 rfl (Nat.le_of_ble_eq_true rfl)) ?_
  have H3 : Hid (Mm (w2.setCells γ1_4 0 (l2 (t2 p ri (pl p X' X) (mi p 0 Y) s3) (tm p Y' s3))) [(γ1_0, kd p r c gx gy), (γ1_1, tr a1 a2 s3), (γ1_2, pt X Y Z), (γ1_3, pt X' Y' Z'), (γ1_4, l2 (t2 p ri (pl p X' X) (mi p 0 Y) s3) (tm p Y' s3))] ∧ Below w.heap.size w (w2.setCells γ1_4 0 (l2 (t2 p ri (pl p X' X) (mi p 0 Y) s3) (tm p Y' s3)))) := ⟨H2.out.1.put 4 (off := 0) (vs := l2 (t2 p ri (pl p X' X) (mi p 0 Y) s3) (tm p Y' s3)) rfl (Nat.le_of_ble_eq_true rfl), below_setCells _ o1_4.out _ _ _ H2.out.2⟩
  clear H2
  generalize hgw : World.setCells _ _ _ _ = w3 at H3 ⊢
  clear hgw
  refine rest_nil (then_normal (wp_ret ?_))
  repeat (first | refine then_ret ?_ | refine block_ret ?_)
  have hf0 := var_T H3.out.1 4 rfl Try.isAgg49 Try.sizeOf49 rfl
  refine bodyPost_ret (v := .agg (l2 (t2 p ri (pl p X' X) (mi p 0 Y) s3) (tm p Y' s3)).toArray) (by simp [results, Try.results81, asAddr, hf0]) rfl ?_
  exact ⟨rfl, H3.out.2⟩
set_option maxHeartbeats 1000000 in
set_option maxRecDepth 100000 in
theorem last_any (hp : Pr p) (f : E2) (hf : Lt2 p f) (hc : c < 18446744073709551616) (w : World) :
    Calls Try.prog 61 #[.agg (kd p r c gx gy).toArray, .agg (l2 f.1 f.2).toArray] w fun e w' => e = .returned (V (lc (ls p c f))) ∧ Below w.heap.size w w' := by
  have H0 : Hid (_ ∧ _) := ⟨Mm.nil w, Below.refl w.heap.size w⟩
  go_enter Try.func61, Try.ntmps61
  refine wp_seq ?_
  refine walk_seqA 3 [.made (kd p r c gx gy) 72, .made (l2 f.1 f.2) 49, .made (l2 0 0) 49] (sB H0) ?ho1 ?he1
  case ho1 => exact ak (fun γ => ⟨rfl, fun w' => ex_boxT rfl rfl⟩) (ak (fun γ => ⟨rfl, fun w' => ex_boxT rfl rfl⟩) (ak (fun γ => ⟨rfl, fun w' => ex_made49 rfl⟩) trivial))
  intro γ w1 l hM hl
  have H1 : Hid (Mm w1 [(γ 0, kd p r c gx gy), (γ 1, l2 f.1 f.2), (γ 2, l2 0 0)] ∧ _) := growB H0 hM (Nat.le_refl _) hl [0, 1, 2] rfl (by decide)
  have o1_0 := ownB H0 hM (Nat.le_refl _) hl (i := 0) rfl
  have o1_1 := ownB H0 hM (Nat.le_refl _) hl (i := 1) rfl
  have o1_2 := ownB H0 hM (Nat.le_refl _) hl (i := 2) rfl
  clear hM hl l
  generalize γ 0 = γ1_0 at H1 o1_0 ⊢
  generalize γ 1 = γ1_1 at H1 o1_1 ⊢
  generalize γ 2 = γ1_2 at H1 o1_2 ⊢
  clear γ
  refine rest0 rfl (then_normal (wp_seq ?_))
  refine walk_anyA 9 [.quiet (PT γ1_1 0), .quiet (U f.1), .quiet (.agg (kd p r c gx gy).toArray), .quiet (PT γ1_1 1), .quiet (U f.2), .call (U (mi p 0 f.2)), .quiet (.agg (l2 f.1 (mi p 0 f.2)).toArray), .made (l2 0 0) 49, .laid 7 (l2 0 0) (l2 f.1 (mi p 0 f.2))] (sB H1) ?ho2 ?he2 (hL := ?hL2)
  case hL2 => exact ⟨⟨_, rfl⟩, trivial⟩
  case ho2 => exact ak (by refine fun γ => ⟨rfl, fun w' h => ?_⟩; clear h; go_simp) (ak (fun γ => ⟨rfl, fun w' h => ex_loadC h 1 rfl rfl rfl Try.isAgg23 rfl⟩) (ak (fun γ => ⟨rfl, fun w' h => ex_loadT h 0 rfl rfl rfl Try.isAgg72 Try.sizeOf72 rfl rfl⟩) (ak (by refine fun γ => ⟨rfl, fun w' h => ?_⟩; clear h; go_simp) (ak (fun γ => ⟨rfl, fun w' h => ex_loadC h 1 rfl rfl rfl Try.isAgg23 rfl⟩) (ak (fun γ => ⟨rfl, fun w' h => ⟨48, #[.agg (kd p r c gx gy).toArray, U 0, U f.2], exec_call rfl call48 rfl (mpn rfl), minus_any hp 0 f.2 (zero_lt hp) hf.y w'⟩⟩) (ak (fun γ => ⟨rfl, fun w' _ => ex_build49_01 rfl rfl rfl⟩) (ak (fun γ => ⟨rfl, fun w' => ex_made49 rfl⟩) (ak (fun γ => ⟨rfl, rfl, rfl, fun w' h => ex_laidT h rfl rfl Try.sizeOf49 rfl rfl rfl⟩) trivial))))))))
  intro γ w2 l hM hl
  have H2 : Hid (Mm w2 [(γ 7, l2 f.1 (mi p 0 f.2)), (γ1_0, kd p r c gx gy), (γ1_1, l2 f.1 f.2), (γ1_2, l2 0 0)] ∧ _) := growB H1 hM (Nat.le_refl _) hl [7] rfl (by decide)
  have o2_7 := ownB H1 hM (Nat.le_refl _) hl (i := 7) rfl
  clear hM hl l H1
  generalize γ 7 = γ2_7 at H2 o2_7 ⊢
  clear γ
  refine rest0 rfl (then_normal (wp_seq ?_))
  refine walk_anyB 13 [.quiet (.agg (kd p r c gx gy).toArray), .quiet (.agg (kd p r c gx gy).toArray), .quiet (PT γ1_1 0), .quiet (U f.1), .quiet (PT γ1_1 0), .quiet (U f.1), .quiet (PT γ1_1 1), .quiet (U f.2), .quiet (PT γ1_1 1), .quiet (U f.2), .call (U (t2 p f.1 f.1 f.2 f.2)), .call (U (pw p (t2 p f.1 f.1 f.2 f.2) (p - 2))), .quiet (U (pw p (t2 p f.1 f.1 f.2 f.2) (p - 2)))] H2 ?ho3 ?he3
  case ho3 => exact ak (fun γ => ⟨rfl, fun w' h => ex_loadT h 1 rfl rfl rfl Try.isAgg72 Try.sizeOf72 rfl rfl⟩) (ak (fun γ => ⟨rfl, fun w' h => ex_loadT h 1 rfl rfl rfl Try.isAgg72 Try.sizeOf72 rfl rfl⟩) (ak (by refine fun γ => ⟨rfl, fun w' h => ?_⟩; clear h; go_simp) (ak (fun γ => ⟨rfl, fun w' h => ex_loadC h 2 rfl rfl rfl Try.isAgg23 rfl⟩) (ak (by refine fun γ => ⟨rfl, fun w' h => ?_⟩; clear h; go_simp) (ak (fun γ => ⟨rfl, fun w' h => ex_loadC h 2 rfl rfl rfl Try.isAgg23 rfl⟩) (ak (by refine fun γ => ⟨rfl, fun w' h => ?_⟩; clear h; go_simp) (ak (fun γ => ⟨rfl, fun w' h => ex_loadC h 2 rfl rfl rfl Try.isAgg23 rfl⟩) (ak (by refine fun γ => ⟨rfl, fun w' h => ?_⟩; clear h; go_simp) (ak (fun γ => ⟨rfl, fun w' h => ex_loadC h 2 rfl rfl rfl Try.isAgg23 rfl⟩) (ak (fun γ => ⟨rfl, fun w' h => ⟨78, #[.agg (kd p r c gx gy).toArray, U f.1, U f.1, U f.2, U f.2], exec_call rfl call78 rfl (mpn rfl), twoTimes_any hp f.1 f.1 f.2 f.2 hf.x hf.x hf.y hf.y w'⟩⟩) (ak (fun γ => ⟨rfl, fun w' h => ⟨72, #[.agg (kd p r c gx gy).toArray, U (t2 p f.1 f.1 f.2 f.2)], exec_call rfl call72 rfl (mpn rfl), inverse_any hp (t2 p f.1 f.1 f.2 f.2) (t2_lt hp) w'⟩⟩) (ak (fun _ => ⟨rfl, fun _ _ => rfl⟩) trivial))))))))))))
  intro _ w3 H3
  clear H2
  refine rest0 rfl (then_normal (wp_seq ?_))
  refine walk_anyB 12 [.quiet (.agg (kd p r c gx gy).toArray), .quiet (.agg (kd p r c gx gy).toArray), .quiet (.agg (kd p r c gx gy).toArray), .quiet (.agg (l2 f.1 (mi p 0 f.2)).toArray), .quiet (.agg (l2 f.1 (mi p 0 f.2)).toArray), .call (.agg (l2 ((pd p (f.1, mi p 0 f.2) (f.1, mi p 0 f.2)).1) ((pd p (f.1, mi p 0 f.2) (f.1, mi p 0 f.2)).2)).toArray), .quiet (U (pw p (t2 p f.1 f.1 f.2 f.2) (p - 2))), .quiet (.agg (l2 (pw p (t2 p f.1 f.1 f.2 f.2) (p - 2)) 0).toArray), .call (.agg (l2 ((pd p (pd p (f.1, mi p 0 f.2) (f.1, mi p 0 f.2)) (pw p (t2 p f.1 f.1 f.2 f.2) (p - 2), 0)).1) ((pd p (pd p (f.1, mi p 0 f.2) (f.1, mi p 0 f.2)) (pw p (t2 p f.1 f.1 f.2 f.2) (p - 2), 0)).2)).toArray), .quiet (PT γ1_0 2), .quiet (U c), .call (.agg (l2 ((rs p (1, 0) (pd p (pd p (f.1, mi p 0 f.2) (f.1, mi p 0 f.2)) (pw p (t2 p f.1 f.1 f.2 f.2) (p - 2), 0)) c).1) ((rs p (1, 0) (pd p (pd p (f.1, mi p 0 f.2) (f.1, mi p 0 f.2)) (pw p (t2 p f.1 f.1 f.2 f.2) (p - 2), 0)) c).2)).toArray)] H3 ?ho4 ?he4
  case ho4 => exact ak (fun γ => ⟨rfl, fun w' h => ex_loadT h 1 rfl rfl rfl Try.isAgg72 Try.sizeOf72 rfl rfl⟩) (ak (fun γ => ⟨rfl, fun w' h => ex_loadT h 1 rfl rfl rfl Try.isAgg72 Try.sizeOf72 rfl rfl⟩) (ak (fun γ => ⟨rfl, fun w' h => ex_loadT h 1 rfl rfl rfl Try.isAgg72 Try.sizeOf72 rfl rfl⟩) (ak (fun γ => ⟨rfl, fun w' h => ex_loadT h 0 rfl rfl rfl Try.isAgg49 Try.sizeOf49 rfl rfl⟩) (ak (fun γ => ⟨rfl, fun w' h => ex_loadT h 0 rfl rfl rfl Try.isAgg49 Try.sizeOf49 rfl rfl⟩) (ak (fun γ => ⟨rfl, fun w' h => ⟨63, #[.agg (kd p r c gx gy).toArray, .agg (l2 f.1 (mi p 0 f.2)).toArray, .agg (l2 f.1 (mi p 0 f.2)).toArray], exec_call rfl call63 rfl (mpn rfl), product_any hp (f.1, mi p 0 f.2) (f.1, mi p 0 f.2) ⟨hf.x, mi_lt hp⟩ ⟨hf.x, mi_lt hp⟩ w'⟩⟩) (ak (fun _ => ⟨rfl, fun _ _ => rfl⟩) (ak (fun γ => ⟨rfl, fun w' _ => ex_build49_0 rfl rfl⟩) (ak (fun γ => ⟨rfl, fun w' h => ⟨63, #[.agg (kd p r c gx gy).toArray, .agg (l2 ((pd p (f.1, mi p 0 f.2) (f.1, mi p 0 f.2)).1) ((pd p (f.1, mi p 0 f.2) (f.1, mi p 0 f.2)).2)).toArray, .agg (l2 (pw p (t2 p f.1 f.1 f.2 f.2) (p - 2)) 0).toArray], exec_call rfl call63 rfl (mpn rfl), product_any hp (pd p (f.1, mi p 0 f.2) (f.1, mi p 0 f.2)) (pw p (t2 p f.1 f.1 f.2 f.2) (p - 2), 0) (pd_lt hp _ _) ⟨pw_lt hp, zero_lt hp⟩ w'⟩⟩) (ak (by refine fun γ => ⟨rfl, fun w' h => ?_⟩; clear h; go_simp) (ak (fun γ => ⟨rfl, fun w' h => ex_loadC h 1 rfl rfl rfl Try.isAgg23 rfl⟩) (ak (fun γ => ⟨rfl, fun w' h => ⟨65, #[.agg (kd p r c gx gy).toArray, .agg (l2 ((pd p (pd p (f.1, mi p 0 f.2) (f.1, mi p 0 f.2)) (pw p (t2 p f.1 f.1 f.2 f.2) (p - 2), 0)).1) ((pd p (pd p (f.1, mi p 0 f.2) (f.1, mi p 0 f.2)) (pw p (t2 p f.1 f.1 f.2 f.2) (p - 2), 0)).2)).toArray, U c], exec_call rfl call65 rfl (mpn rfl), raised_any hp (pd p (pd p (f.1, mi p 0 f.2) (f.1, mi p 0 f.2)) (pw p (t2 p f.1 f.1 f.2 f.2) (p - 2), 0)) (pd_lt hp _ _) c hc w'⟩⟩) trivial)))))))))))
  intro _ w4 H4
  clear H3
  refine rest_at (l := [12]) rfl ?_
  refine rest_store rfl rfl rfl (ex_storeT (vs := l2 ((rs p (1, 0) (pd p (pd p (f.1, mi p 0 f.2) (f.1, mi p 0 f.2)) (pw p (t2 p f.1 f.1 f.2 f.2) (p - 2), 0)) c).1) ((rs p (1, 0) (pd p (pd p (f.1, mi p 0 f.2) (f.1, mi p 0 f.2)) (pw p (t2 p f.1 f.1 f.2 f.2) (p - 2), 0)) c).2)) H4.out.1 3 rfl rfl rfl rfl Try.sizeOf49 rfl (Nat.le_of_ble_eq_true rfl)) ?_
  have H5 : Hid (Mm (w4.setCells γ1_2 0 (l2 ((rs p (1, 0) (pd p (pd p (f.1, mi p 0 f.2) (f.1, mi p 0 f.2)) (pw p (t2 p f.1 f.1 f.2 f.2) (p - 2), 0)) c).1) ((rs p (1, 0) (pd p (pd p (f.1, mi p 0 f.2) (f.1, mi p 0 f.2)) (pw p (t2 p f.1 f.1 f.2 f.2) (p - 2), 0)) c).2))) [(γ2_7, l2 f.1 (mi p 0 f.2)), (γ1_0, kd p r c gx gy), (γ1_1, l2 f.1 f.2), (γ1_2, l2 ((rs p (1, 0) (pd p (pd p (f.1, mi p 0 f.2) (f.1, mi p 0 f.2)) (pw p (t2 p f.1 f.1 f.2 f.2) (p - 2), 0)) c).1) ((rs p (1, 0) (pd p (pd p (f.1, mi p 0 f.2) (f.1, mi p 0 f.2)) (pw p (t2 p f.1 f.1 f.2 f.2) (p - 2), 0)) c).2))] ∧ Below w.heap.size w (w4.setCells γ1_2 0 (l2 ((rs p (1, 0) (pd p (pd p (f.1, mi p 0 f.2) (f.1, mi p 0 f.2)) (pw p (t2 p f.1 f.1 f.2 f.2) (p - 2), 0)) c).1) ((rs p (1, 0) (pd p (pd p (f.1, mi p 0 f.2) (f.1, mi p 0 f.2)) (pw p (t2 p f.1 f.1 f.2 f.2) (p - 2), 0)) c).2)))) := ⟨H4.out.1.put 3 (off := 0) (vs := l2 ((rs p (1, 0) (pd p (pd p (f.1, mi p 0 f.2) (f.1, mi p 0 f.2)) (pw p (t2 p f.1 f.1 f.2 f.2) (p - 2), 0)) c).1) ((rs p (1, 0) (pd p (pd p (f.1, mi p 0 f.2) (f.1, mi p 0 f.2)) (pw p (t2 p f.1 f.1 f.2 f.2) (p - 2), 0)) c).2)) rfl (Nat.le_of_ble_eq_true rfl), below_setCells _ o1_2.out _ _ _ H4.out.2⟩
  clear H4
  generalize hgw : World.setCells _ _ _ _ = w5 at H5 ⊢
  clear hgw
  refine rest_nil (then_normal (wp_ret ?_))
  repeat (first | refine then_ret ?_ | refine block_ret ?_)
  have hf0 := var_T H5.out.1 3 rfl Try.isAgg49 Try.sizeOf49 rfl
  refine bodyPost_ret (v := .agg (l2 ((rs p (1, 0) (pd p (pd p (f.1, mi p 0 f.2) (f.1, mi p 0 f.2)) (pw p (t2 p f.1 f.1 f.2 f.2) (p - 2), 0)) c).1) ((rs p (1, 0) (pd p (pd p (f.1, mi p 0 f.2) (f.1, mi p 0 f.2)) (pw p (t2 p f.1 f.1 f.2 f.2) (p - 2), 0)) c).2)).toArray) (by simp [results, Try.results61, asAddr, hf0]) rfl ?_
  exact ⟨rfl, H5.out.2⟩
theorem sx_is (hp : Pr p) (t : T3) (ht : Lt3 p t) (X Y : Nat) (Z : Bool) (hX : X < p) (v : Bool) (h : sx p t X = v) (w : World) : Calls Try.prog 80 #[.agg (kd p r c gx gy).toArray, .agg (tr t.1 t.2.1 t.2.2).toArray, .agg (pt X Y Z).toArray] w fun e w' => e = .returned (.bool v) ∧ Below w.heap.size w w' := by
  rw [← h]
  exact sameX_any hp t ht X Y Z hX w
theorem sx_cases (n : Nat) (v : Bool) : n = 0 ∨ (n ≠ 0 ∧ v = true) ∨ (n ≠ 0 ∧ v = false) := by
  cases v <;> by_cases h : n = 0 <;> simp [h]
theorem st_0 (p X Y X' Y' : Nat) (Z : Bool) (bit : Nat) (s : E2 × T3) (h : bit = 0) : st p X Y X' Y' Z bit s = (f1 p s X' Y', twT p s.2) := by unfold st; rw [if_pos (Or.inl h)]
theorem st_s (p X Y X' Y' : Nat) (Z : Bool) (bit : Nat) (s : E2 × T3) (h : sx p (twT p s.2) X = true) : st p X Y X' Y' Z bit s = (f1 p s X' Y', twT p s.2) := by unfold st; rw [if_pos (Or.inr h)]
theorem st_g (p X Y X' Y' : Nat) (Z : Bool) (bit : Nat) (s : E2 × T3) (h : bit ≠ 0) (h2 : sx p (twT p s.2) X = false) : st p X Y X' Y' Z bit s = (pd p (f1 p s X' Y') (lj p (jnT p (twT p s.2) X Y Z).2.2 X Y (jnR p (twT p s.2) X Y Z) X' Y'), jnT p (twT p s.2) X Y Z) := by
  unfold st; rw [if_neg (by rw [h2]; simp [h])]
theorem jnR_lt (hp : Pr p) {t : T3} {X Y : Nat} {Z : Bool} : jnR p t X Y Z < p := by
  unfold jnR
  split
  · exact zero_lt hp
  · split
    · exact zero_lt hp
    · split
      · exact pl_lt hp
      · exact mi_lt hp
set_option maxHeartbeats 2000000 in
set_option maxRecDepth 100000 in
theorem walked_any (hp : Pr p) (hr : r < 18446744073709551616) (X Y : Nat) (Z : Bool) (hX : X < p) (hY : Y < p) (X' Y' : Nat) (Z' : Bool) (hX' : X' < p) (hY' : Y' < p) (w : World) :
    Calls Try.prog 62 #[.agg (kd p r c gx gy).toArray, .agg (pt X Y Z).toArray, .agg (pt X' Y' Z').toArray] w fun e w' => e = .returned (V (lc (wk p r X Y X' Y' Z))) ∧ Below w.heap.size w w' := by
  have H0 : Hid (_ ∧ _) := ⟨Mm.nil w, Below.refl w.heap.size w⟩
  go_enter Try.func62, Try.ntmps62
  refine wp_seq ?_
  refine walk_seqA 4 [.made (kd p r c gx gy) 72, .made (pt X Y Z) 25, .made (pt X' Y' Z') 25, .made (l2 0 0) 49] (sB H0) ?ho1 ?he1
  case ho1 => exact ak (fun γ => ⟨rfl, fun w' => ex_boxT rfl rfl⟩) (ak (fun γ => ⟨rfl, fun w' => ex_boxT rfl rfl⟩) (ak (fun γ => ⟨rfl, fun w' => ex_boxT rfl rfl⟩) (ak (fun γ => ⟨rfl, fun w' => ex_made49 rfl⟩) trivial)))
  intro γ w1 l hM hl
  have H1 : Hid (Mm w1 [(γ 0, kd p r c gx gy), (γ 1, pt X Y Z), (γ 2, pt X' Y' Z'), (γ 3, l2 0 0)] ∧ _) := growB H0 hM (Nat.le_refl _) hl [0, 1, 2, 3] rfl (by decide)
  have o1_0 := ownB H0 hM (Nat.le_refl _) hl (i := 0) rfl
  have o1_1 := ownB H0 hM (Nat.le_refl _) hl (i := 1) rfl
  have o1_2 := ownB H0 hM (Nat.le_refl _) hl (i := 2) rfl
  have o1_3 := ownB H0 hM (Nat.le_refl _) hl (i := 3) rfl
  clear hM hl l
  generalize γ 0 = γ1_0 at H1 o1_0 ⊢
  generalize γ 1 = γ1_1 at H1 o1_1 ⊢
  generalize γ 2 = γ1_2 at H1 o1_2 ⊢
  generalize γ 3 = γ1_3 at H1 o1_3 ⊢
  clear γ
  refine rest0 rfl (then_normal (wp_seq ?_))
  refine walk_seqA 7 [.quiet (.agg (l2 1 0).toArray), .quiet (.agg (pt X Y Z).toArray), .call (.agg (tr ((tO X Y Z).1) ((tO X Y Z).2.1) ((tO X Y Z).2.2)).toArray), .made (l2 0 0) 49, .made (tr 0 0 0) 77, .laid 3 (l2 0 0) (l2 1 0), .laid 4 (tr 0 0 0) (tr ((tO X Y Z).1) ((tO X Y Z).2.1) ((tO X Y Z).2.2))] (sB H1) ?ho2 ?he2 (hL := ?hL2)
  case hL2 => exact ⟨⟨_, rfl⟩, ⟨_, rfl⟩, trivial⟩
  case ho2 => exact ak (fun γ => ⟨rfl, fun w' _ => ex_build49_0 rfl rfl⟩) (ak (fun γ => ⟨rfl, fun w' h => ex_loadT h 1 rfl rfl rfl Try.isAgg25 Try.sizeOf25 rfl rfl⟩) (ak (fun γ => ⟨rfl, fun w' h => ⟨45, #[.agg (pt X Y Z).toArray], exec_call rfl call45 rfl (mpn rfl), tripleOf_any X Y Z w'⟩⟩) (ak (fun γ => ⟨rfl, fun w' => ex_made49 rfl⟩) (ak (fun γ => ⟨rfl, fun w' => ex_made77 rfl⟩) (ak (fun γ => ⟨rfl, rfl, rfl, fun w' h => ex_laidT h rfl rfl Try.sizeOf49 rfl rfl rfl⟩) (ak (fun γ => ⟨rfl, rfl, rfl, fun w' h => ex_laidT h rfl rfl Try.sizeOf77 rfl rfl rfl⟩) trivial))))))
  intro γ w2 l hM hl
  have H2 : Hid (Mm w2 [(γ 3, l2 1 0), (γ 4, tr ((tO X Y Z).1) ((tO X Y Z).2.1) ((tO X Y Z).2.2)), (γ1_0, kd p r c gx gy), (γ1_1, pt X Y Z), (γ1_2, pt X' Y' Z'), (γ1_3, l2 0 0)] ∧ _) := growB H1 hM (Nat.le_refl _) hl [3, 4] rfl (by decide)
  have o2_3 := ownB H1 hM (Nat.le_refl _) hl (i := 3) rfl
  have o2_4 := ownB H1 hM (Nat.le_refl _) hl (i := 4) rfl
  clear hM hl l H1
  generalize γ 3 = γ2_3 at H2 o2_3 ⊢
  generalize γ 4 = γ2_4 at H2 o2_4 ⊢
  clear γ
  refine rest0 rfl (then_normal (wp_seq (wp_seq ?_)))
  refine walk_seqB 5 [.quiet (PT γ1_0 1), .quiet (U r), .call (.int .i64 ((bl r : Nat) : Int)), .quiet (.int .i64 (((bl r : Nat) : Int) - 2)), .quiet (.int .i64 (((bl r : Nat) : Int) - 2))] H2 ?ho3 ?he3
  case ho3 => exact ak (by refine fun γ => ⟨rfl, fun w' h => ?_⟩; clear h; go_simp) (ak (fun γ => ⟨rfl, fun w' h => ex_loadC h 2 rfl rfl rfl Try.isAgg23 rfl⟩) (ak (fun γ => ⟨rfl, fun w' h => ⟨57, #[U r], exec_call rfl call57 rfl (mpn rfl), len_in r hr w'⟩⟩) (ak (by refine fun γ => ⟨rfl, fun w' h => ?_⟩; clear h; have hbl := bl_le_of r 64 hr; go_simp; rw [IntKind.wrap_i64]; omega) (ak (fun _ => ⟨rfl, fun _ _ => rfl⟩) trivial))))
  intro _ w3 H3
  clear H2
  refine rest0 rfl (then_normal (wp_block ?_))
  refine loop_ghost (α := Nat) (fun m a' w' => ∃ s0 : Nat → Value, a' = ⟨#[.agg (kd p r c gx gy).toArray, .agg (pt X Y Z).toArray, .agg (pt X' Y' Z').toArray, PT γ1_0 0, PT γ1_1 0, PT γ1_2 0, PT γ1_3 0, PT γ2_3 0, PT γ2_4 0, .int .i64 (((bl r : Nat) : Int) - 2 - ((m : Nat) : Int)), s0 10, s0 11, .agg (l2 1 0).toArray, .agg (pt X Y Z).toArray, .agg (tr ((tO X Y Z).1) ((tO X Y Z).2.1) ((tO X Y Z).2.2)).toArray, PT γ1_0 1, U r, .int .i64 ((bl r : Nat) : Int), .int .i64 (((bl r : Nat) : Int) - 2), s0 19, s0 20, s0 21, s0 22, s0 23, s0 24, s0 25, s0 26, s0 27, s0 28, s0 29, s0 30, s0 31, s0 32, s0 33, s0 34, s0 35, s0 36, s0 37, s0 38, s0 39, s0 40, s0 41, s0 42, s0 43, s0 44, s0 45, s0 46, s0 47, s0 48, s0 49, s0 50, s0 51, s0 52, s0 53, s0 54, s0 55, s0 56, s0 57, s0 58, s0 59, s0 60, s0 61, s0 62, s0 63, s0 64, s0 65, s0 66, s0 67, s0 68, s0 69, undef], []⟩ ∧ (Mm w' [(γ2_3, lc (wsm p r X Y X' Y' Z m).1), (γ2_4, tc (wsm p r X Y X' Y' Z m).2), (γ1_0, kd p r c gx gy), (γ1_1, pt X Y Z), (γ1_2, pt X' Y' Z'), (γ1_3, l2 0 0)] ∧ Below w.heap.size w w') ∧ m ≤ bl r - 1) (fun m => (bl r - 1) - m) 0 ?st0 ?rd0
  case st0 => exact ⟨(slotfn [undef, undef, undef, undef, undef, undef, undef, undef, undef, undef, undef, undef, undef, undef, undef, undef, undef, undef, undef, undef, undef, undef, undef, undef, undef, undef, undef, undef, undef, undef, undef, undef, undef, undef, undef, undef, undef, undef, undef, undef, undef, undef, undef, undef, undef, undef, undef, undef, undef, undef, undef, undef, undef, undef, undef, undef, undef, undef, undef, undef, undef, undef, undef, undef, undef, undef, undef, undef, undef, undef]), by rw [show (((bl r : Nat) : Int) - 2 - ((0 : Nat) : Int)) = ((bl r : Nat) : Int) - 2 by omega]; rfl, ⟨H3.out.1, H3.out.2⟩, Nat.zero_le _⟩
  intro m a' w4 hI
  obtain ⟨s0, rfl, hMB, hk0⟩ := hI
  have H4 : Hid (_ ∧ _) := hMB
  clear hMB H3
  by_cases hlt : m < bl r - 1
  · have hrd : True := trivial
    clear hrd
    obtain ⟨j, hj⟩ : ∃ j, j = bl r - 1 - 1 - m := ⟨_, rfl⟩
    have hjb : j < 64 := by have := bl_le_of r 64 hr; omega
    have hw := ws_lt hp (r := r) (X' := X') (Y' := Y') (Z := Z) hX hY m
    rw [show (((bl r : Nat) : Int) - 2 - ((m : Nat) : Int)) = ((j : Nat) : Int) by omega]
    rcases sx_cases (r / 2 ^ j % 2) (sx p (twT p (wsm p r X Y X' Y' Z m).2) X) with hb | ⟨hb, hs⟩ | ⟨hb, hs⟩
    · have hrd : True := trivial
      clear hrd
      refine wp_seq (wp_seq ?_)
      refine walk_seqB 2 [.quiet (.int .i64 ((j : Nat) : Int)), .quiet (.bool true)] H4 ?ho4 ?he4
      case ho4 => exact ak (fun _ => ⟨rfl, fun _ _ => rfl⟩) (ak (by refine fun γ => ⟨rfl, fun w' h => ?_⟩; clear h; go_simp) trivial)
      intro _ w5 H5
      clear H4
      refine rest0 rfl (then_normal (wp_cond_true rfl ?_))
      refine wp_skip (then_normal ?_)
      refine wp_seq (wp_block (wp_seq ?_))
      refine walk_seqA 9 [.quiet (.agg (kd p r c gx gy).toArray), .quiet (.agg (tc (wsm p r X Y X' Y' Z m).2).toArray), .call (.tuple #[.agg (tr ((twT p (wsm p r X Y X' Y' Z m).2).1) ((twT p (wsm p r X Y X' Y' Z m).2).2.1) ((twT p (wsm p r X Y X' Y' Z m).2).2.2)).toArray, U (tR p (wsm p r X Y X' Y' Z m).2.1 (wsm p r X Y X' Y' Z m).2.2.2)]), .quiet (.tuple #[.agg (tr ((twT p (wsm p r X Y X' Y' Z m).2).1) ((twT p (wsm p r X Y X' Y' Z m).2).2.1) ((twT p (wsm p r X Y X' Y' Z m).2).2.2)).toArray, U (tR p (wsm p r X Y X' Y' Z m).2.1 (wsm p r X Y X' Y' Z m).2.2.2)]), .quiet (.agg (tr ((twT p (wsm p r X Y X' Y' Z m).2).1) ((twT p (wsm p r X Y X' Y' Z m).2).2.1) ((twT p (wsm p r X Y X' Y' Z m).2).2.2)).toArray), .quiet (U (tR p (wsm p r X Y X' Y' Z m).2.1 (wsm p r X Y X' Y' Z m).2.2.2)), .made (tr 0 0 0) 77, .laid 6 (tr 0 0 0) (tr ((twT p (wsm p r X Y X' Y' Z m).2).1) ((twT p (wsm p r X Y X' Y' Z m).2).2.1) ((twT p (wsm p r X Y X' Y' Z m).2).2.2)), .quiet (U (tR p (wsm p r X Y X' Y' Z m).2.1 (wsm p r X Y X' Y' Z m).2.2.2))] (sB H5) ?ho5 ?he5 (hL := ?hL5)
      case hL5 => exact ⟨⟨_, rfl⟩, trivial⟩
      case ho5 => exact ak (fun γ => ⟨rfl, fun w' h => ex_loadT h 2 rfl rfl rfl Try.isAgg72 Try.sizeOf72 rfl rfl⟩) (ak (fun γ => ⟨rfl, fun w' h => ex_loadT h 1 rfl rfl rfl Try.isAgg77 Try.sizeOf77 rfl rfl⟩) (ak (fun γ => ⟨rfl, fun w' h => ⟨70, #[.agg (kd p r c gx gy).toArray, .agg (tc (wsm p r X Y X' Y' Z m).2).toArray], exec_call rfl call70 rfl (mpn rfl), twice_any hp (wsm p r X Y X' Y' Z m).2 hw.t w'⟩⟩) (ak (fun _ => ⟨rfl, fun _ _ => rfl⟩) (ak (by refine fun γ => ⟨rfl, fun w' h => ?_⟩; clear h; go_simp) (ak (by refine fun γ => ⟨rfl, fun w' h => ?_⟩; clear h; go_simp) (ak (fun γ => ⟨rfl, fun w' => ex_made77 rfl⟩) (ak (fun γ => ⟨rfl, rfl, rfl, fun w' h => ex_laidT h rfl rfl Try.sizeOf77 rfl rfl rfl⟩) (ak (fun _ => ⟨rfl, fun _ _ => rfl⟩) trivial))))))))
      intro γ w6 l hM hl
      have H6 : Hid (Mm w6 [(γ 6, tr ((twT p (wsm p r X Y X' Y' Z m).2).1) ((twT p (wsm p r X Y X' Y' Z m).2).2.1) ((twT p (wsm p r X Y X' Y' Z m).2).2.2)), (γ2_3, lc (wsm p r X Y X' Y' Z m).1), (γ2_4, tc (wsm p r X Y X' Y' Z m).2), (γ1_0, kd p r c gx gy), (γ1_1, pt X Y Z), (γ1_2, pt X' Y' Z'), (γ1_3, l2 0 0)] ∧ _) := growB H5 hM (Nat.le_refl _) hl [6] rfl (by decide)
      have o5_6 := ownB H5 hM (Nat.le_refl _) hl (i := 6) rfl
      clear hM hl l H5
      generalize γ 6 = γ5_6 at H6 o5_6 ⊢
      clear γ
      refine rest0 rfl (then_normal (wp_seq ?_))
      refine walk_anyB 12 [.quiet (.agg (kd p r c gx gy).toArray), .quiet (.agg (kd p r c gx gy).toArray), .quiet (.agg (lc (wsm p r X Y X' Y' Z m).1).toArray), .quiet (.agg (lc (wsm p r X Y X' Y' Z m).1).toArray), .call (.agg (l2 ((pd p (wsm p r X Y X' Y' Z m).1 (wsm p r X Y X' Y' Z m).1).1) ((pd p (wsm p r X Y X' Y' Z m).1 (wsm p r X Y X' Y' Z m).1).2)).toArray), .quiet (.agg (kd p r c gx gy).toArray), .quiet (.agg (tc (wsm p r X Y X' Y' Z m).2).toArray), .quiet (.agg (tr ((twT p (wsm p r X Y X' Y' Z m).2).1) ((twT p (wsm p r X Y X' Y' Z m).2).2.1) ((twT p (wsm p r X Y X' Y' Z m).2).2.2)).toArray), .quiet (U (tR p (wsm p r X Y X' Y' Z m).2.1 (wsm p r X Y X' Y' Z m).2.2.2)), .quiet (.agg (pt X' Y' Z').toArray), .call (.agg (l2 ((lw p (wsm p r X Y X' Y' Z m).2 (twT p (wsm p r X Y X' Y' Z m).2).2.2 (tR p (wsm p r X Y X' Y' Z m).2.1 (wsm p r X Y X' Y' Z m).2.2.2) X' Y').1) ((lw p (wsm p r X Y X' Y' Z m).2 (twT p (wsm p r X Y X' Y' Z m).2).2.2 (tR p (wsm p r X Y X' Y' Z m).2.1 (wsm p r X Y X' Y' Z m).2.2.2) X' Y').2)).toArray), .call (.agg (l2 ((f1 p (wsm p r X Y X' Y' Z m) X' Y').1) ((f1 p (wsm p r X Y X' Y' Z m) X' Y').2)).toArray)] H6 ?ho6 ?he6
      case ho6 => exact ak (fun γ => ⟨rfl, fun w' h => ex_loadT h 3 rfl rfl rfl Try.isAgg72 Try.sizeOf72 rfl rfl⟩) (ak (fun γ => ⟨rfl, fun w' h => ex_loadT h 3 rfl rfl rfl Try.isAgg72 Try.sizeOf72 rfl rfl⟩) (ak (fun γ => ⟨rfl, fun w' h => ex_loadT h 1 rfl rfl rfl Try.isAgg49 Try.sizeOf49 rfl rfl⟩) (ak (fun γ => ⟨rfl, fun w' h => ex_loadT h 1 rfl rfl rfl Try.isAgg49 Try.sizeOf49 rfl rfl⟩) (ak (fun γ => ⟨rfl, fun w' h => ⟨63, #[.agg (kd p r c gx gy).toArray, .agg (lc (wsm p r X Y X' Y' Z m).1).toArray, .agg (lc (wsm p r X Y X' Y' Z m).1).toArray], exec_call rfl call63 rfl (mpn rfl), product_any hp (wsm p r X Y X' Y' Z m).1 (wsm p r X Y X' Y' Z m).1 hw.f hw.f w'⟩⟩) (ak (fun γ => ⟨rfl, fun w' h => ex_loadT h 3 rfl rfl rfl Try.isAgg72 Try.sizeOf72 rfl rfl⟩) (ak (fun γ => ⟨rfl, fun w' h => ex_loadT h 2 rfl rfl rfl Try.isAgg77 Try.sizeOf77 rfl rfl⟩) (ak (fun γ => ⟨rfl, fun w' h => ex_loadT h 0 rfl rfl rfl Try.isAgg77 Try.sizeOf77 rfl rfl⟩) (ak (fun _ => ⟨rfl, fun _ _ => rfl⟩) (ak (fun γ => ⟨rfl, fun w' h => ex_loadT h 5 rfl rfl rfl Try.isAgg25 Try.sizeOf25 rfl rfl⟩) (ak (fun γ => ⟨rfl, fun w' h => ⟨79, #[.agg (kd p r c gx gy).toArray, .agg (tc (wsm p r X Y X' Y' Z m).2).toArray, .agg (tr ((twT p (wsm p r X Y X' Y' Z m).2).1) ((twT p (wsm p r X Y X' Y' Z m).2).2.1) ((twT p (wsm p r X Y X' Y' Z m).2).2.2)).toArray, U (tR p (wsm p r X Y X' Y' Z m).2.1 (wsm p r X Y X' Y' Z m).2.2.2), .agg (pt X' Y' Z').toArray], exec_call rfl call79 rfl (mpn rfl), lineT_any hp (wsm p r X Y X' Y' Z m).2 hw.t _ _ _ (tw_lt hp _).z _ (pl_lt hp) X' Y' Z' hX' hY' w'⟩⟩) (ak (fun γ => ⟨rfl, fun w' h => ⟨63, #[.agg (kd p r c gx gy).toArray, .agg (l2 ((pd p (wsm p r X Y X' Y' Z m).1 (wsm p r X Y X' Y' Z m).1).1) ((pd p (wsm p r X Y X' Y' Z m).1 (wsm p r X Y X' Y' Z m).1).2)).toArray, .agg (l2 ((lw p (wsm p r X Y X' Y' Z m).2 (twT p (wsm p r X Y X' Y' Z m).2).2.2 (tR p (wsm p r X Y X' Y' Z m).2.1 (wsm p r X Y X' Y' Z m).2.2.2) X' Y').1) ((lw p (wsm p r X Y X' Y' Z m).2 (twT p (wsm p r X Y X' Y' Z m).2).2.2 (tR p (wsm p r X Y X' Y' Z m).2.1 (wsm p r X Y X' Y' Z m).2.2.2) X' Y').2)).toArray], exec_call rfl call63 rfl (mpn rfl), product_any hp (pd p (wsm p r X Y X' Y' Z m).1 (wsm p r X Y X' Y' Z m).1) (lw p (wsm p r X Y X' Y' Z m).2 (twT p (wsm p r X Y X' Y' Z m).2).2.2 (tR p (wsm p r X Y X' Y' Z m).2.1 (wsm p r X Y X' Y' Z m).2.2.2) X' Y') (pd_lt hp _ _) ⟨t2_lt hp, tm_lt hp⟩ w'⟩⟩) trivial)))))))))))
      intro _ w7 H7
      clear H6
      refine rest_at (l := [12]) rfl ?_
      refine rest_store rfl rfl rfl (ex_storeT (vs := l2 ((f1 p (wsm p r X Y X' Y' Z m) X' Y').1) ((f1 p (wsm p r X Y X' Y' Z m) X' Y').2)) H7.out.1 1 rfl rfl rfl rfl Try.sizeOf49 rfl (Nat.le_of_ble_eq_true rfl)) ?_
      have H8 : Hid (Mm (w7.setCells γ2_3 0 (l2 ((f1 p (wsm p r X Y X' Y' Z m) X' Y').1) ((f1 p (wsm p r X Y X' Y' Z m) X' Y').2))) [(γ5_6, tr ((twT p (wsm p r X Y X' Y' Z m).2).1) ((twT p (wsm p r X Y X' Y' Z m).2).2.1) ((twT p (wsm p r X Y X' Y' Z m).2).2.2)), (γ2_3, l2 ((f1 p (wsm p r X Y X' Y' Z m) X' Y').1) ((f1 p (wsm p r X Y X' Y' Z m) X' Y').2)), (γ2_4, tc (wsm p r X Y X' Y' Z m).2), (γ1_0, kd p r c gx gy), (γ1_1, pt X Y Z), (γ1_2, pt X' Y' Z'), (γ1_3, l2 0 0)] ∧ Below w.heap.size w (w7.setCells γ2_3 0 (l2 ((f1 p (wsm p r X Y X' Y' Z m) X' Y').1) ((f1 p (wsm p r X Y X' Y' Z m) X' Y').2)))) := ⟨H7.out.1.put 1 (off := 0) (vs := l2 ((f1 p (wsm p r X Y X' Y' Z m) X' Y').1) ((f1 p (wsm p r X Y X' Y' Z m) X' Y').2)) rfl (Nat.le_of_ble_eq_true rfl), below_setCells _ o2_3.out _ _ _ H7.out.2⟩
      clear H7
      generalize hgw : World.setCells _ _ _ _ = w8 at H8 ⊢
      clear hgw
      refine rest_nil (then_normal (wp_seq ?_))
      refine walk_seqB 1 [.quiet (.agg (tr ((twT p (wsm p r X Y X' Y' Z m).2).1) ((twT p (wsm p r X Y X' Y' Z m).2).2.1) ((twT p (wsm p r X Y X' Y' Z m).2).2.2)).toArray)] H8 ?ho7 ?he7
      case ho7 => exact ak (fun γ => ⟨rfl, fun w' h => ex_loadT h 0 rfl rfl rfl Try.isAgg77 Try.sizeOf77 rfl rfl⟩) trivial
      intro _ w9 H9
      clear H8
      refine rest_at (l := [1]) rfl ?_
      refine rest_store rfl rfl rfl (ex_storeT (vs := tr ((twT p (wsm p r X Y X' Y' Z m).2).1) ((twT p (wsm p r X Y X' Y' Z m).2).2.1) ((twT p (wsm p r X Y X' Y' Z m).2).2.2)) H9.out.1 2 rfl rfl rfl rfl Try.sizeOf77 rfl (Nat.le_of_ble_eq_true rfl)) ?_
      have H10 : Hid (Mm (w9.setCells γ2_4 0 (tr ((twT p (wsm p r X Y X' Y' Z m).2).1) ((twT p (wsm p r X Y X' Y' Z m).2).2.1) ((twT p (wsm p r X Y X' Y' Z m).2).2.2))) [(γ5_6, tr ((twT p (wsm p r X Y X' Y' Z m).2).1) ((twT p (wsm p r X Y X' Y' Z m).2).2.1) ((twT p (wsm p r X Y X' Y' Z m).2).2.2)), (γ2_3, l2 ((f1 p (wsm p r X Y X' Y' Z m) X' Y').1) ((f1 p (wsm p r X Y X' Y' Z m) X' Y').2)), (γ2_4, tr ((twT p (wsm p r X Y X' Y' Z m).2).1) ((twT p (wsm p r X Y X' Y' Z m).2).2.1) ((twT p (wsm p r X Y X' Y' Z m).2).2.2)), (γ1_0, kd p r c gx gy), (γ1_1, pt X Y Z), (γ1_2, pt X' Y' Z'), (γ1_3, l2 0 0)] ∧ Below w.heap.size w (w9.setCells γ2_4 0 (tr ((twT p (wsm p r X Y X' Y' Z m).2).1) ((twT p (wsm p r X Y X' Y' Z m).2).2.1) ((twT p (wsm p r X Y X' Y' Z m).2).2.2)))) := ⟨H9.out.1.put 2 (off := 0) (vs := tr ((twT p (wsm p r X Y X' Y' Z m).2).1) ((twT p (wsm p r X Y X' Y' Z m).2).2.1) ((twT p (wsm p r X Y X' Y' Z m).2).2.2)) rfl (Nat.le_of_ble_eq_true rfl), below_setCells _ o2_4.out _ _ _ H9.out.2⟩
      clear H9
      generalize hgw : World.setCells _ _ _ _ = w10 at H10 ⊢
      clear hgw
      refine rest_nil (then_normal ?_)
      refine wp_seq (wp_seq ?_)
      refine walk_seqB 12 [.quiet (PT γ1_0 1), .quiet (U r), .quiet (.int .i64 ((j : Nat) : Int)), .quiet (U (r / 2 ^ j)), .quiet (U (r / 2 ^ j % 2)), .quiet (.bool true), .quiet (.bool true), .gone, .gone, .gone, .gone, .quiet (.bool true)] H10 ?ho8 ?he8
      case ho8 => exact ak (by refine fun γ => ⟨rfl, fun w' h => ?_⟩; clear h; go_simp) (ak (fun γ => ⟨rfl, fun w' h => ex_loadC h 3 rfl rfl rfl Try.isAgg23 rfl⟩) (ak (fun _ => ⟨rfl, fun _ _ => rfl⟩) (ak (fun γ => ⟨rfl, fun w' _ => ex_shrU (hjb) rfl rfl rfl⟩) (ak (fun γ => ⟨rfl, fun w' _ => ex_and1 rfl (Nat.lt_of_le_of_lt (Nat.div_le_self _ _) hr) rfl rfl⟩) (ak (fun γ => ⟨rfl, fun w' _ => ex_eqU rfl rfl rfl (decide_eq_true (hb))⟩) (ak (fun _ => ⟨rfl, fun _ _ => rfl⟩) (ak (fun γ => rfl) (ak (fun γ => rfl) (ak (fun γ => rfl) (ak (fun γ => rfl) (ak (by refine fun γ => ⟨rfl, fun w' h => ?_⟩; clear h; go_simp) trivial)))))))))))
      intro _ w11 H11
      clear H10
      refine rest0 rfl (then_normal (wp_cond_true rfl ?_))
      refine wp_exit ?_
      repeat refine then_exit ?_
      refine block_exit ?_
      refine then_normal ?_
      refine walk_seqB 2 [.quiet (.int .i64 ((j : Nat) : Int)), .quiet (.int .i64 (((bl r : Nat) : Int) - 2 - ((m + 1 : Nat) : Int)))] H11 ?ho9 ?he9
      case ho9 => exact ak (fun _ => ⟨rfl, fun _ _ => rfl⟩) (ak (by refine fun γ => ⟨rfl, fun w' h => ?_⟩; clear h; go_simp; rw [IntKind.wrap_i64]; omega) trivial)
      intro _ w12 H12
      clear H11
      refine rest_at (l := [2]) rfl ?_
      refine rest_set (d := 9) rfl rfl rfl rfl ?_
      simp only [Act.put, sa, sz, ss]
      refine rest_nil (then_normal ?_)
      exact ⟨m + 1, ⟨(slotfn [undef, undef, undef, undef, undef, undef, undef, undef, undef, undef, PT γ5_6 0, U (tR p (wsm p r X Y X' Y' Z m).2.1 (wsm p r X Y X' Y' Z m).2.2.2), undef, undef, undef, undef, undef, undef, undef, .int .i64 ((j : Nat) : Int), .bool true, .int .i64 ((j : Nat) : Int), .int .i64 (((bl r : Nat) : Int) - 2 - ((m + 1 : Nat) : Int)), .tuple #[.agg (tr ((twT p (wsm p r X Y X' Y' Z m).2).1) ((twT p (wsm p r X Y X' Y' Z m).2).2.1) ((twT p (wsm p r X Y X' Y' Z m).2).2.2)).toArray, U (tR p (wsm p r X Y X' Y' Z m).2.1 (wsm p r X Y X' Y' Z m).2.2.2)], .agg (kd p r c gx gy).toArray, .agg (tc (wsm p r X Y X' Y' Z m).2).toArray, .tuple #[.agg (tr ((twT p (wsm p r X Y X' Y' Z m).2).1) ((twT p (wsm p r X Y X' Y' Z m).2).2.1) ((twT p (wsm p r X Y X' Y' Z m).2).2.2)).toArray, U (tR p (wsm p r X Y X' Y' Z m).2.1 (wsm p r X Y X' Y' Z m).2.2.2)], .agg (tr ((twT p (wsm p r X Y X' Y' Z m).2).1) ((twT p (wsm p r X Y X' Y' Z m).2).2.1) ((twT p (wsm p r X Y X' Y' Z m).2).2.2)).toArray, U (tR p (wsm p r X Y X' Y' Z m).2.1 (wsm p r X Y X' Y' Z m).2.2.2), .agg (kd p r c gx gy).toArray, .agg (kd p r c gx gy).toArray, .agg (lc (wsm p r X Y X' Y' Z m).1).toArray, .agg (lc (wsm p r X Y X' Y' Z m).1).toArray, .agg (l2 ((pd p (wsm p r X Y X' Y' Z m).1 (wsm p r X Y X' Y' Z m).1).1) ((pd p (wsm p r X Y X' Y' Z m).1 (wsm p r X Y X' Y' Z m).1).2)).toArray, .agg (kd p r c gx gy).toArray, .agg (tc (wsm p r X Y X' Y' Z m).2).toArray, .agg (tr ((twT p (wsm p r X Y X' Y' Z m).2).1) ((twT p (wsm p r X Y X' Y' Z m).2).2.1) ((twT p (wsm p r X Y X' Y' Z m).2).2.2)).toArray, U (tR p (wsm p r X Y X' Y' Z m).2.1 (wsm p r X Y X' Y' Z m).2.2.2), .agg (pt X' Y' Z').toArray, .agg (l2 ((lw p (wsm p r X Y X' Y' Z m).2 (twT p (wsm p r X Y X' Y' Z m).2).2.2 (tR p (wsm p r X Y X' Y' Z m).2.1 (wsm p r X Y X' Y' Z m).2.2.2) X' Y').1) ((lw p (wsm p r X Y X' Y' Z m).2 (twT p (wsm p r X Y X' Y' Z m).2).2.2 (tR p (wsm p r X Y X' Y' Z m).2.1 (wsm p r X Y X' Y' Z m).2.2.2) X' Y').2)).toArray, .agg (l2 ((f1 p (wsm p r X Y X' Y' Z m) X' Y').1) ((f1 p (wsm p r X Y X' Y' Z m) X' Y').2)).toArray, .agg (tr ((twT p (wsm p r X Y X' Y' Z m).2).1) ((twT p (wsm p r X Y X' Y' Z m).2).2.1) ((twT p (wsm p r X Y X' Y' Z m).2).2.2)).toArray, PT γ1_0 1, U r, .int .i64 ((j : Nat) : Int), U (r / 2 ^ j), U (r / 2 ^ j % 2), .bool true, .bool true, undef, undef, undef, undef, .bool true, s0 54, s0 55, s0 56, s0 57, s0 58, s0 59, s0 60, s0 61, s0 62, s0 63, s0 64, s0 65, s0 66, s0 67, s0 68, s0 69]), rfl, ⟨by rw [show wsm p r X Y X' Y' Z (m + 1) = _ from st_0 p X Y X' Y' Z _ (wsm p r X Y X' Y' Z m) (by rw [← hj]; exact hb)]; exact H12.out.1.pick [1, 2, 3, 4, 5, 6] rfl (by decide), H12.out.2⟩, by omega⟩, by omega⟩
    · have hrd : True := trivial
      clear hrd
      refine wp_seq (wp_seq ?_)
      refine walk_seqB 2 [.quiet (.int .i64 ((j : Nat) : Int)), .quiet (.bool true)] H4 ?ho10 ?he10
      case ho10 => exact ak (fun _ => ⟨rfl, fun _ _ => rfl⟩) (ak (by refine fun γ => ⟨rfl, fun w' h => ?_⟩; clear h; go_simp) trivial)
      intro _ w13 H13
      clear H4
      refine rest0 rfl (then_normal (wp_cond_true rfl ?_))
      refine wp_skip (then_normal ?_)
      refine wp_seq (wp_block (wp_seq ?_))
      refine walk_seqA 9 [.quiet (.agg (kd p r c gx gy).toArray), .quiet (.agg (tc (wsm p r X Y X' Y' Z m).2).toArray), .call (.tuple #[.agg (tr ((twT p (wsm p r X Y X' Y' Z m).2).1) ((twT p (wsm p r X Y X' Y' Z m).2).2.1) ((twT p (wsm p r X Y X' Y' Z m).2).2.2)).toArray, U (tR p (wsm p r X Y X' Y' Z m).2.1 (wsm p r X Y X' Y' Z m).2.2.2)]), .quiet (.tuple #[.agg (tr ((twT p (wsm p r X Y X' Y' Z m).2).1) ((twT p (wsm p r X Y X' Y' Z m).2).2.1) ((twT p (wsm p r X Y X' Y' Z m).2).2.2)).toArray, U (tR p (wsm p r X Y X' Y' Z m).2.1 (wsm p r X Y X' Y' Z m).2.2.2)]), .quiet (.agg (tr ((twT p (wsm p r X Y X' Y' Z m).2).1) ((twT p (wsm p r X Y X' Y' Z m).2).2.1) ((twT p (wsm p r X Y X' Y' Z m).2).2.2)).toArray), .quiet (U (tR p (wsm p r X Y X' Y' Z m).2.1 (wsm p r X Y X' Y' Z m).2.2.2)), .made (tr 0 0 0) 77, .laid 6 (tr 0 0 0) (tr ((twT p (wsm p r X Y X' Y' Z m).2).1) ((twT p (wsm p r X Y X' Y' Z m).2).2.1) ((twT p (wsm p r X Y X' Y' Z m).2).2.2)), .quiet (U (tR p (wsm p r X Y X' Y' Z m).2.1 (wsm p r X Y X' Y' Z m).2.2.2))] (sB H13) ?ho11 ?he11 (hL := ?hL11)
      case hL11 => exact ⟨⟨_, rfl⟩, trivial⟩
      case ho11 => exact ak (fun γ => ⟨rfl, fun w' h => ex_loadT h 2 rfl rfl rfl Try.isAgg72 Try.sizeOf72 rfl rfl⟩) (ak (fun γ => ⟨rfl, fun w' h => ex_loadT h 1 rfl rfl rfl Try.isAgg77 Try.sizeOf77 rfl rfl⟩) (ak (fun γ => ⟨rfl, fun w' h => ⟨70, #[.agg (kd p r c gx gy).toArray, .agg (tc (wsm p r X Y X' Y' Z m).2).toArray], exec_call rfl call70 rfl (mpn rfl), twice_any hp (wsm p r X Y X' Y' Z m).2 hw.t w'⟩⟩) (ak (fun _ => ⟨rfl, fun _ _ => rfl⟩) (ak (by refine fun γ => ⟨rfl, fun w' h => ?_⟩; clear h; go_simp) (ak (by refine fun γ => ⟨rfl, fun w' h => ?_⟩; clear h; go_simp) (ak (fun γ => ⟨rfl, fun w' => ex_made77 rfl⟩) (ak (fun γ => ⟨rfl, rfl, rfl, fun w' h => ex_laidT h rfl rfl Try.sizeOf77 rfl rfl rfl⟩) (ak (fun _ => ⟨rfl, fun _ _ => rfl⟩) trivial))))))))
      intro γ w14 l hM hl
      have H14 : Hid (Mm w14 [(γ 6, tr ((twT p (wsm p r X Y X' Y' Z m).2).1) ((twT p (wsm p r X Y X' Y' Z m).2).2.1) ((twT p (wsm p r X Y X' Y' Z m).2).2.2)), (γ2_3, lc (wsm p r X Y X' Y' Z m).1), (γ2_4, tc (wsm p r X Y X' Y' Z m).2), (γ1_0, kd p r c gx gy), (γ1_1, pt X Y Z), (γ1_2, pt X' Y' Z'), (γ1_3, l2 0 0)] ∧ _) := growB H13 hM (Nat.le_refl _) hl [6] rfl (by decide)
      have o11_6 := ownB H13 hM (Nat.le_refl _) hl (i := 6) rfl
      clear hM hl l H13
      generalize γ 6 = γ11_6 at H14 o11_6 ⊢
      clear γ
      refine rest0 rfl (then_normal (wp_seq ?_))
      refine walk_anyB 12 [.quiet (.agg (kd p r c gx gy).toArray), .quiet (.agg (kd p r c gx gy).toArray), .quiet (.agg (lc (wsm p r X Y X' Y' Z m).1).toArray), .quiet (.agg (lc (wsm p r X Y X' Y' Z m).1).toArray), .call (.agg (l2 ((pd p (wsm p r X Y X' Y' Z m).1 (wsm p r X Y X' Y' Z m).1).1) ((pd p (wsm p r X Y X' Y' Z m).1 (wsm p r X Y X' Y' Z m).1).2)).toArray), .quiet (.agg (kd p r c gx gy).toArray), .quiet (.agg (tc (wsm p r X Y X' Y' Z m).2).toArray), .quiet (.agg (tr ((twT p (wsm p r X Y X' Y' Z m).2).1) ((twT p (wsm p r X Y X' Y' Z m).2).2.1) ((twT p (wsm p r X Y X' Y' Z m).2).2.2)).toArray), .quiet (U (tR p (wsm p r X Y X' Y' Z m).2.1 (wsm p r X Y X' Y' Z m).2.2.2)), .quiet (.agg (pt X' Y' Z').toArray), .call (.agg (l2 ((lw p (wsm p r X Y X' Y' Z m).2 (twT p (wsm p r X Y X' Y' Z m).2).2.2 (tR p (wsm p r X Y X' Y' Z m).2.1 (wsm p r X Y X' Y' Z m).2.2.2) X' Y').1) ((lw p (wsm p r X Y X' Y' Z m).2 (twT p (wsm p r X Y X' Y' Z m).2).2.2 (tR p (wsm p r X Y X' Y' Z m).2.1 (wsm p r X Y X' Y' Z m).2.2.2) X' Y').2)).toArray), .call (.agg (l2 ((f1 p (wsm p r X Y X' Y' Z m) X' Y').1) ((f1 p (wsm p r X Y X' Y' Z m) X' Y').2)).toArray)] H14 ?ho12 ?he12
      case ho12 => exact ak (fun γ => ⟨rfl, fun w' h => ex_loadT h 3 rfl rfl rfl Try.isAgg72 Try.sizeOf72 rfl rfl⟩) (ak (fun γ => ⟨rfl, fun w' h => ex_loadT h 3 rfl rfl rfl Try.isAgg72 Try.sizeOf72 rfl rfl⟩) (ak (fun γ => ⟨rfl, fun w' h => ex_loadT h 1 rfl rfl rfl Try.isAgg49 Try.sizeOf49 rfl rfl⟩) (ak (fun γ => ⟨rfl, fun w' h => ex_loadT h 1 rfl rfl rfl Try.isAgg49 Try.sizeOf49 rfl rfl⟩) (ak (fun γ => ⟨rfl, fun w' h => ⟨63, #[.agg (kd p r c gx gy).toArray, .agg (lc (wsm p r X Y X' Y' Z m).1).toArray, .agg (lc (wsm p r X Y X' Y' Z m).1).toArray], exec_call rfl call63 rfl (mpn rfl), product_any hp (wsm p r X Y X' Y' Z m).1 (wsm p r X Y X' Y' Z m).1 hw.f hw.f w'⟩⟩) (ak (fun γ => ⟨rfl, fun w' h => ex_loadT h 3 rfl rfl rfl Try.isAgg72 Try.sizeOf72 rfl rfl⟩) (ak (fun γ => ⟨rfl, fun w' h => ex_loadT h 2 rfl rfl rfl Try.isAgg77 Try.sizeOf77 rfl rfl⟩) (ak (fun γ => ⟨rfl, fun w' h => ex_loadT h 0 rfl rfl rfl Try.isAgg77 Try.sizeOf77 rfl rfl⟩) (ak (fun _ => ⟨rfl, fun _ _ => rfl⟩) (ak (fun γ => ⟨rfl, fun w' h => ex_loadT h 5 rfl rfl rfl Try.isAgg25 Try.sizeOf25 rfl rfl⟩) (ak (fun γ => ⟨rfl, fun w' h => ⟨79, #[.agg (kd p r c gx gy).toArray, .agg (tc (wsm p r X Y X' Y' Z m).2).toArray, .agg (tr ((twT p (wsm p r X Y X' Y' Z m).2).1) ((twT p (wsm p r X Y X' Y' Z m).2).2.1) ((twT p (wsm p r X Y X' Y' Z m).2).2.2)).toArray, U (tR p (wsm p r X Y X' Y' Z m).2.1 (wsm p r X Y X' Y' Z m).2.2.2), .agg (pt X' Y' Z').toArray], exec_call rfl call79 rfl (mpn rfl), lineT_any hp (wsm p r X Y X' Y' Z m).2 hw.t _ _ _ (tw_lt hp _).z _ (pl_lt hp) X' Y' Z' hX' hY' w'⟩⟩) (ak (fun γ => ⟨rfl, fun w' h => ⟨63, #[.agg (kd p r c gx gy).toArray, .agg (l2 ((pd p (wsm p r X Y X' Y' Z m).1 (wsm p r X Y X' Y' Z m).1).1) ((pd p (wsm p r X Y X' Y' Z m).1 (wsm p r X Y X' Y' Z m).1).2)).toArray, .agg (l2 ((lw p (wsm p r X Y X' Y' Z m).2 (twT p (wsm p r X Y X' Y' Z m).2).2.2 (tR p (wsm p r X Y X' Y' Z m).2.1 (wsm p r X Y X' Y' Z m).2.2.2) X' Y').1) ((lw p (wsm p r X Y X' Y' Z m).2 (twT p (wsm p r X Y X' Y' Z m).2).2.2 (tR p (wsm p r X Y X' Y' Z m).2.1 (wsm p r X Y X' Y' Z m).2.2.2) X' Y').2)).toArray], exec_call rfl call63 rfl (mpn rfl), product_any hp (pd p (wsm p r X Y X' Y' Z m).1 (wsm p r X Y X' Y' Z m).1) (lw p (wsm p r X Y X' Y' Z m).2 (twT p (wsm p r X Y X' Y' Z m).2).2.2 (tR p (wsm p r X Y X' Y' Z m).2.1 (wsm p r X Y X' Y' Z m).2.2.2) X' Y') (pd_lt hp _ _) ⟨t2_lt hp, tm_lt hp⟩ w'⟩⟩) trivial)))))))))))
      intro _ w15 H15
      clear H14
      refine rest_at (l := [12]) rfl ?_
      refine rest_store rfl rfl rfl (ex_storeT (vs := l2 ((f1 p (wsm p r X Y X' Y' Z m) X' Y').1) ((f1 p (wsm p r X Y X' Y' Z m) X' Y').2)) H15.out.1 1 rfl rfl rfl rfl Try.sizeOf49 rfl (Nat.le_of_ble_eq_true rfl)) ?_
      have H16 : Hid (Mm (w15.setCells γ2_3 0 (l2 ((f1 p (wsm p r X Y X' Y' Z m) X' Y').1) ((f1 p (wsm p r X Y X' Y' Z m) X' Y').2))) [(γ11_6, tr ((twT p (wsm p r X Y X' Y' Z m).2).1) ((twT p (wsm p r X Y X' Y' Z m).2).2.1) ((twT p (wsm p r X Y X' Y' Z m).2).2.2)), (γ2_3, l2 ((f1 p (wsm p r X Y X' Y' Z m) X' Y').1) ((f1 p (wsm p r X Y X' Y' Z m) X' Y').2)), (γ2_4, tc (wsm p r X Y X' Y' Z m).2), (γ1_0, kd p r c gx gy), (γ1_1, pt X Y Z), (γ1_2, pt X' Y' Z'), (γ1_3, l2 0 0)] ∧ Below w.heap.size w (w15.setCells γ2_3 0 (l2 ((f1 p (wsm p r X Y X' Y' Z m) X' Y').1) ((f1 p (wsm p r X Y X' Y' Z m) X' Y').2)))) := ⟨H15.out.1.put 1 (off := 0) (vs := l2 ((f1 p (wsm p r X Y X' Y' Z m) X' Y').1) ((f1 p (wsm p r X Y X' Y' Z m) X' Y').2)) rfl (Nat.le_of_ble_eq_true rfl), below_setCells _ o2_3.out _ _ _ H15.out.2⟩
      clear H15
      generalize hgw : World.setCells _ _ _ _ = w16 at H16 ⊢
      clear hgw
      refine rest_nil (then_normal (wp_seq ?_))
      refine walk_seqB 1 [.quiet (.agg (tr ((twT p (wsm p r X Y X' Y' Z m).2).1) ((twT p (wsm p r X Y X' Y' Z m).2).2.1) ((twT p (wsm p r X Y X' Y' Z m).2).2.2)).toArray)] H16 ?ho13 ?he13
      case ho13 => exact ak (fun γ => ⟨rfl, fun w' h => ex_loadT h 0 rfl rfl rfl Try.isAgg77 Try.sizeOf77 rfl rfl⟩) trivial
      intro _ w17 H17
      clear H16
      refine rest_at (l := [1]) rfl ?_
      refine rest_store rfl rfl rfl (ex_storeT (vs := tr ((twT p (wsm p r X Y X' Y' Z m).2).1) ((twT p (wsm p r X Y X' Y' Z m).2).2.1) ((twT p (wsm p r X Y X' Y' Z m).2).2.2)) H17.out.1 2 rfl rfl rfl rfl Try.sizeOf77 rfl (Nat.le_of_ble_eq_true rfl)) ?_
      have H18 : Hid (Mm (w17.setCells γ2_4 0 (tr ((twT p (wsm p r X Y X' Y' Z m).2).1) ((twT p (wsm p r X Y X' Y' Z m).2).2.1) ((twT p (wsm p r X Y X' Y' Z m).2).2.2))) [(γ11_6, tr ((twT p (wsm p r X Y X' Y' Z m).2).1) ((twT p (wsm p r X Y X' Y' Z m).2).2.1) ((twT p (wsm p r X Y X' Y' Z m).2).2.2)), (γ2_3, l2 ((f1 p (wsm p r X Y X' Y' Z m) X' Y').1) ((f1 p (wsm p r X Y X' Y' Z m) X' Y').2)), (γ2_4, tr ((twT p (wsm p r X Y X' Y' Z m).2).1) ((twT p (wsm p r X Y X' Y' Z m).2).2.1) ((twT p (wsm p r X Y X' Y' Z m).2).2.2)), (γ1_0, kd p r c gx gy), (γ1_1, pt X Y Z), (γ1_2, pt X' Y' Z'), (γ1_3, l2 0 0)] ∧ Below w.heap.size w (w17.setCells γ2_4 0 (tr ((twT p (wsm p r X Y X' Y' Z m).2).1) ((twT p (wsm p r X Y X' Y' Z m).2).2.1) ((twT p (wsm p r X Y X' Y' Z m).2).2.2)))) := ⟨H17.out.1.put 2 (off := 0) (vs := tr ((twT p (wsm p r X Y X' Y' Z m).2).1) ((twT p (wsm p r X Y X' Y' Z m).2).2.1) ((twT p (wsm p r X Y X' Y' Z m).2).2.2)) rfl (Nat.le_of_ble_eq_true rfl), below_setCells _ o2_4.out _ _ _ H17.out.2⟩
      clear H17
      generalize hgw : World.setCells _ _ _ _ = w18 at H18 ⊢
      clear hgw
      refine rest_nil (then_normal ?_)
      refine wp_seq (wp_seq ?_)
      refine walk_seqB 12 [.quiet (PT γ1_0 1), .quiet (U r), .quiet (.int .i64 ((j : Nat) : Int)), .quiet (U (r / 2 ^ j)), .quiet (U (r / 2 ^ j % 2)), .quiet (.bool false), .quiet (.bool false), .quiet (.agg (kd p r c gx gy).toArray), .quiet (.agg (tr ((twT p (wsm p r X Y X' Y' Z m).2).1) ((twT p (wsm p r X Y X' Y' Z m).2).2.1) ((twT p (wsm p r X Y X' Y' Z m).2).2.2)).toArray), .quiet (.agg (pt X Y Z).toArray), .call (.bool true), .quiet (.bool true)] H18 ?ho14 ?he14
      case ho14 => exact ak (by refine fun γ => ⟨rfl, fun w' h => ?_⟩; clear h; go_simp) (ak (fun γ => ⟨rfl, fun w' h => ex_loadC h 3 rfl rfl rfl Try.isAgg23 rfl⟩) (ak (fun _ => ⟨rfl, fun _ _ => rfl⟩) (ak (fun γ => ⟨rfl, fun w' _ => ex_shrU (hjb) rfl rfl rfl⟩) (ak (fun γ => ⟨rfl, fun w' _ => ex_and1 rfl (Nat.lt_of_le_of_lt (Nat.div_le_self _ _) hr) rfl rfl⟩) (ak (fun γ => ⟨rfl, fun w' _ => ex_eqU rfl rfl rfl (decide_eq_false (hb))⟩) (ak (fun _ => ⟨rfl, fun _ _ => rfl⟩) (ak (fun γ => ⟨rfl, fun w' h => ex_loadT h 3 rfl rfl rfl Try.isAgg72 Try.sizeOf72 rfl rfl⟩) (ak (fun γ => ⟨rfl, fun w' h => ex_loadT h 2 rfl rfl rfl Try.isAgg77 Try.sizeOf77 rfl rfl⟩) (ak (fun γ => ⟨rfl, fun w' h => ex_loadT h 4 rfl rfl rfl Try.isAgg25 Try.sizeOf25 rfl rfl⟩) (ak (fun γ => ⟨rfl, fun w' h => ⟨80, #[.agg (kd p r c gx gy).toArray, .agg (tr ((twT p (wsm p r X Y X' Y' Z m).2).1) ((twT p (wsm p r X Y X' Y' Z m).2).2.1) ((twT p (wsm p r X Y X' Y' Z m).2).2.2)).toArray, .agg (pt X Y Z).toArray], exec_call rfl call80 rfl (mpn rfl), sx_is hp (twT p (wsm p r X Y X' Y' Z m).2) (tw_lt hp _) X Y Z hX _ hs w'⟩⟩) (ak (by refine fun γ => ⟨rfl, fun w' h => ?_⟩; clear h; go_simp) trivial)))))))))))
      intro _ w19 H19
      clear H18
      refine rest0 rfl (then_normal (wp_cond_true rfl ?_))
      refine wp_exit ?_
      repeat refine then_exit ?_
      refine block_exit ?_
      refine then_normal ?_
      refine walk_seqB 2 [.quiet (.int .i64 ((j : Nat) : Int)), .quiet (.int .i64 (((bl r : Nat) : Int) - 2 - ((m + 1 : Nat) : Int)))] H19 ?ho15 ?he15
      case ho15 => exact ak (fun _ => ⟨rfl, fun _ _ => rfl⟩) (ak (by refine fun γ => ⟨rfl, fun w' h => ?_⟩; clear h; go_simp; rw [IntKind.wrap_i64]; omega) trivial)
      intro _ w20 H20
      clear H19
      refine rest_at (l := [2]) rfl ?_
      refine rest_set (d := 9) rfl rfl rfl rfl ?_
      simp only [Act.put, sa, sz, ss]
      refine rest_nil (then_normal ?_)
      exact ⟨m + 1, ⟨(slotfn [undef, undef, undef, undef, undef, undef, undef, undef, undef, undef, PT γ11_6 0, U (tR p (wsm p r X Y X' Y' Z m).2.1 (wsm p r X Y X' Y' Z m).2.2.2), undef, undef, undef, undef, undef, undef, undef, .int .i64 ((j : Nat) : Int), .bool true, .int .i64 ((j : Nat) : Int), .int .i64 (((bl r : Nat) : Int) - 2 - ((m + 1 : Nat) : Int)), .tuple #[.agg (tr ((twT p (wsm p r X Y X' Y' Z m).2).1) ((twT p (wsm p r X Y X' Y' Z m).2).2.1) ((twT p (wsm p r X Y X' Y' Z m).2).2.2)).toArray, U (tR p (wsm p r X Y X' Y' Z m).2.1 (wsm p r X Y X' Y' Z m).2.2.2)], .agg (kd p r c gx gy).toArray, .agg (tc (wsm p r X Y X' Y' Z m).2).toArray, .tuple #[.agg (tr ((twT p (wsm p r X Y X' Y' Z m).2).1) ((twT p (wsm p r X Y X' Y' Z m).2).2.1) ((twT p (wsm p r X Y X' Y' Z m).2).2.2)).toArray, U (tR p (wsm p r X Y X' Y' Z m).2.1 (wsm p r X Y X' Y' Z m).2.2.2)], .agg (tr ((twT p (wsm p r X Y X' Y' Z m).2).1) ((twT p (wsm p r X Y X' Y' Z m).2).2.1) ((twT p (wsm p r X Y X' Y' Z m).2).2.2)).toArray, U (tR p (wsm p r X Y X' Y' Z m).2.1 (wsm p r X Y X' Y' Z m).2.2.2), .agg (kd p r c gx gy).toArray, .agg (kd p r c gx gy).toArray, .agg (lc (wsm p r X Y X' Y' Z m).1).toArray, .agg (lc (wsm p r X Y X' Y' Z m).1).toArray, .agg (l2 ((pd p (wsm p r X Y X' Y' Z m).1 (wsm p r X Y X' Y' Z m).1).1) ((pd p (wsm p r X Y X' Y' Z m).1 (wsm p r X Y X' Y' Z m).1).2)).toArray, .agg (kd p r c gx gy).toArray, .agg (tc (wsm p r X Y X' Y' Z m).2).toArray, .agg (tr ((twT p (wsm p r X Y X' Y' Z m).2).1) ((twT p (wsm p r X Y X' Y' Z m).2).2.1) ((twT p (wsm p r X Y X' Y' Z m).2).2.2)).toArray, U (tR p (wsm p r X Y X' Y' Z m).2.1 (wsm p r X Y X' Y' Z m).2.2.2), .agg (pt X' Y' Z').toArray, .agg (l2 ((lw p (wsm p r X Y X' Y' Z m).2 (twT p (wsm p r X Y X' Y' Z m).2).2.2 (tR p (wsm p r X Y X' Y' Z m).2.1 (wsm p r X Y X' Y' Z m).2.2.2) X' Y').1) ((lw p (wsm p r X Y X' Y' Z m).2 (twT p (wsm p r X Y X' Y' Z m).2).2.2 (tR p (wsm p r X Y X' Y' Z m).2.1 (wsm p r X Y X' Y' Z m).2.2.2) X' Y').2)).toArray, .agg (l2 ((f1 p (wsm p r X Y X' Y' Z m) X' Y').1) ((f1 p (wsm p r X Y X' Y' Z m) X' Y').2)).toArray, .agg (tr ((twT p (wsm p r X Y X' Y' Z m).2).1) ((twT p (wsm p r X Y X' Y' Z m).2).2.1) ((twT p (wsm p r X Y X' Y' Z m).2).2.2)).toArray, PT γ1_0 1, U r, .int .i64 ((j : Nat) : Int), U (r / 2 ^ j), U (r / 2 ^ j % 2), .bool false, .bool false, .agg (kd p r c gx gy).toArray, .agg (tr ((twT p (wsm p r X Y X' Y' Z m).2).1) ((twT p (wsm p r X Y X' Y' Z m).2).2.1) ((twT p (wsm p r X Y X' Y' Z m).2).2.2)).toArray, .agg (pt X Y Z).toArray, .bool true, .bool true, s0 54, s0 55, s0 56, s0 57, s0 58, s0 59, s0 60, s0 61, s0 62, s0 63, s0 64, s0 65, s0 66, s0 67, s0 68, s0 69]), rfl, ⟨by rw [show wsm p r X Y X' Y' Z (m + 1) = _ from st_s p X Y X' Y' Z _ (wsm p r X Y X' Y' Z m) hs]; exact H20.out.1.pick [1, 2, 3, 4, 5, 6] rfl (by decide), H20.out.2⟩, by omega⟩, by omega⟩
    · have hrd : True := trivial
      clear hrd
      refine wp_seq (wp_seq ?_)
      refine walk_seqB 2 [.quiet (.int .i64 ((j : Nat) : Int)), .quiet (.bool true)] H4 ?ho16 ?he16
      case ho16 => exact ak (fun _ => ⟨rfl, fun _ _ => rfl⟩) (ak (by refine fun γ => ⟨rfl, fun w' h => ?_⟩; clear h; go_simp) trivial)
      intro _ w21 H21
      clear H4
      refine rest0 rfl (then_normal (wp_cond_true rfl ?_))
      refine wp_skip (then_normal ?_)
      refine wp_seq (wp_block (wp_seq ?_))
      refine walk_seqA 9 [.quiet (.agg (kd p r c gx gy).toArray), .quiet (.agg (tc (wsm p r X Y X' Y' Z m).2).toArray), .call (.tuple #[.agg (tr ((twT p (wsm p r X Y X' Y' Z m).2).1) ((twT p (wsm p r X Y X' Y' Z m).2).2.1) ((twT p (wsm p r X Y X' Y' Z m).2).2.2)).toArray, U (tR p (wsm p r X Y X' Y' Z m).2.1 (wsm p r X Y X' Y' Z m).2.2.2)]), .quiet (.tuple #[.agg (tr ((twT p (wsm p r X Y X' Y' Z m).2).1) ((twT p (wsm p r X Y X' Y' Z m).2).2.1) ((twT p (wsm p r X Y X' Y' Z m).2).2.2)).toArray, U (tR p (wsm p r X Y X' Y' Z m).2.1 (wsm p r X Y X' Y' Z m).2.2.2)]), .quiet (.agg (tr ((twT p (wsm p r X Y X' Y' Z m).2).1) ((twT p (wsm p r X Y X' Y' Z m).2).2.1) ((twT p (wsm p r X Y X' Y' Z m).2).2.2)).toArray), .quiet (U (tR p (wsm p r X Y X' Y' Z m).2.1 (wsm p r X Y X' Y' Z m).2.2.2)), .made (tr 0 0 0) 77, .laid 6 (tr 0 0 0) (tr ((twT p (wsm p r X Y X' Y' Z m).2).1) ((twT p (wsm p r X Y X' Y' Z m).2).2.1) ((twT p (wsm p r X Y X' Y' Z m).2).2.2)), .quiet (U (tR p (wsm p r X Y X' Y' Z m).2.1 (wsm p r X Y X' Y' Z m).2.2.2))] (sB H21) ?ho17 ?he17 (hL := ?hL17)
      case hL17 => exact ⟨⟨_, rfl⟩, trivial⟩
      case ho17 => exact ak (fun γ => ⟨rfl, fun w' h => ex_loadT h 2 rfl rfl rfl Try.isAgg72 Try.sizeOf72 rfl rfl⟩) (ak (fun γ => ⟨rfl, fun w' h => ex_loadT h 1 rfl rfl rfl Try.isAgg77 Try.sizeOf77 rfl rfl⟩) (ak (fun γ => ⟨rfl, fun w' h => ⟨70, #[.agg (kd p r c gx gy).toArray, .agg (tc (wsm p r X Y X' Y' Z m).2).toArray], exec_call rfl call70 rfl (mpn rfl), twice_any hp (wsm p r X Y X' Y' Z m).2 hw.t w'⟩⟩) (ak (fun _ => ⟨rfl, fun _ _ => rfl⟩) (ak (by refine fun γ => ⟨rfl, fun w' h => ?_⟩; clear h; go_simp) (ak (by refine fun γ => ⟨rfl, fun w' h => ?_⟩; clear h; go_simp) (ak (fun γ => ⟨rfl, fun w' => ex_made77 rfl⟩) (ak (fun γ => ⟨rfl, rfl, rfl, fun w' h => ex_laidT h rfl rfl Try.sizeOf77 rfl rfl rfl⟩) (ak (fun _ => ⟨rfl, fun _ _ => rfl⟩) trivial))))))))
      intro γ w22 l hM hl
      have H22 : Hid (Mm w22 [(γ 6, tr ((twT p (wsm p r X Y X' Y' Z m).2).1) ((twT p (wsm p r X Y X' Y' Z m).2).2.1) ((twT p (wsm p r X Y X' Y' Z m).2).2.2)), (γ2_3, lc (wsm p r X Y X' Y' Z m).1), (γ2_4, tc (wsm p r X Y X' Y' Z m).2), (γ1_0, kd p r c gx gy), (γ1_1, pt X Y Z), (γ1_2, pt X' Y' Z'), (γ1_3, l2 0 0)] ∧ _) := growB H21 hM (Nat.le_refl _) hl [6] rfl (by decide)
      have o17_6 := ownB H21 hM (Nat.le_refl _) hl (i := 6) rfl
      clear hM hl l H21
      generalize γ 6 = γ17_6 at H22 o17_6 ⊢
      clear γ
      refine rest0 rfl (then_normal (wp_seq ?_))
      refine walk_anyB 12 [.quiet (.agg (kd p r c gx gy).toArray), .quiet (.agg (kd p r c gx gy).toArray), .quiet (.agg (lc (wsm p r X Y X' Y' Z m).1).toArray), .quiet (.agg (lc (wsm p r X Y X' Y' Z m).1).toArray), .call (.agg (l2 ((pd p (wsm p r X Y X' Y' Z m).1 (wsm p r X Y X' Y' Z m).1).1) ((pd p (wsm p r X Y X' Y' Z m).1 (wsm p r X Y X' Y' Z m).1).2)).toArray), .quiet (.agg (kd p r c gx gy).toArray), .quiet (.agg (tc (wsm p r X Y X' Y' Z m).2).toArray), .quiet (.agg (tr ((twT p (wsm p r X Y X' Y' Z m).2).1) ((twT p (wsm p r X Y X' Y' Z m).2).2.1) ((twT p (wsm p r X Y X' Y' Z m).2).2.2)).toArray), .quiet (U (tR p (wsm p r X Y X' Y' Z m).2.1 (wsm p r X Y X' Y' Z m).2.2.2)), .quiet (.agg (pt X' Y' Z').toArray), .call (.agg (l2 ((lw p (wsm p r X Y X' Y' Z m).2 (twT p (wsm p r X Y X' Y' Z m).2).2.2 (tR p (wsm p r X Y X' Y' Z m).2.1 (wsm p r X Y X' Y' Z m).2.2.2) X' Y').1) ((lw p (wsm p r X Y X' Y' Z m).2 (twT p (wsm p r X Y X' Y' Z m).2).2.2 (tR p (wsm p r X Y X' Y' Z m).2.1 (wsm p r X Y X' Y' Z m).2.2.2) X' Y').2)).toArray), .call (.agg (l2 ((f1 p (wsm p r X Y X' Y' Z m) X' Y').1) ((f1 p (wsm p r X Y X' Y' Z m) X' Y').2)).toArray)] H22 ?ho18 ?he18
      case ho18 => exact ak (fun γ => ⟨rfl, fun w' h => ex_loadT h 3 rfl rfl rfl Try.isAgg72 Try.sizeOf72 rfl rfl⟩) (ak (fun γ => ⟨rfl, fun w' h => ex_loadT h 3 rfl rfl rfl Try.isAgg72 Try.sizeOf72 rfl rfl⟩) (ak (fun γ => ⟨rfl, fun w' h => ex_loadT h 1 rfl rfl rfl Try.isAgg49 Try.sizeOf49 rfl rfl⟩) (ak (fun γ => ⟨rfl, fun w' h => ex_loadT h 1 rfl rfl rfl Try.isAgg49 Try.sizeOf49 rfl rfl⟩) (ak (fun γ => ⟨rfl, fun w' h => ⟨63, #[.agg (kd p r c gx gy).toArray, .agg (lc (wsm p r X Y X' Y' Z m).1).toArray, .agg (lc (wsm p r X Y X' Y' Z m).1).toArray], exec_call rfl call63 rfl (mpn rfl), product_any hp (wsm p r X Y X' Y' Z m).1 (wsm p r X Y X' Y' Z m).1 hw.f hw.f w'⟩⟩) (ak (fun γ => ⟨rfl, fun w' h => ex_loadT h 3 rfl rfl rfl Try.isAgg72 Try.sizeOf72 rfl rfl⟩) (ak (fun γ => ⟨rfl, fun w' h => ex_loadT h 2 rfl rfl rfl Try.isAgg77 Try.sizeOf77 rfl rfl⟩) (ak (fun γ => ⟨rfl, fun w' h => ex_loadT h 0 rfl rfl rfl Try.isAgg77 Try.sizeOf77 rfl rfl⟩) (ak (fun _ => ⟨rfl, fun _ _ => rfl⟩) (ak (fun γ => ⟨rfl, fun w' h => ex_loadT h 5 rfl rfl rfl Try.isAgg25 Try.sizeOf25 rfl rfl⟩) (ak (fun γ => ⟨rfl, fun w' h => ⟨79, #[.agg (kd p r c gx gy).toArray, .agg (tc (wsm p r X Y X' Y' Z m).2).toArray, .agg (tr ((twT p (wsm p r X Y X' Y' Z m).2).1) ((twT p (wsm p r X Y X' Y' Z m).2).2.1) ((twT p (wsm p r X Y X' Y' Z m).2).2.2)).toArray, U (tR p (wsm p r X Y X' Y' Z m).2.1 (wsm p r X Y X' Y' Z m).2.2.2), .agg (pt X' Y' Z').toArray], exec_call rfl call79 rfl (mpn rfl), lineT_any hp (wsm p r X Y X' Y' Z m).2 hw.t _ _ _ (tw_lt hp _).z _ (pl_lt hp) X' Y' Z' hX' hY' w'⟩⟩) (ak (fun γ => ⟨rfl, fun w' h => ⟨63, #[.agg (kd p r c gx gy).toArray, .agg (l2 ((pd p (wsm p r X Y X' Y' Z m).1 (wsm p r X Y X' Y' Z m).1).1) ((pd p (wsm p r X Y X' Y' Z m).1 (wsm p r X Y X' Y' Z m).1).2)).toArray, .agg (l2 ((lw p (wsm p r X Y X' Y' Z m).2 (twT p (wsm p r X Y X' Y' Z m).2).2.2 (tR p (wsm p r X Y X' Y' Z m).2.1 (wsm p r X Y X' Y' Z m).2.2.2) X' Y').1) ((lw p (wsm p r X Y X' Y' Z m).2 (twT p (wsm p r X Y X' Y' Z m).2).2.2 (tR p (wsm p r X Y X' Y' Z m).2.1 (wsm p r X Y X' Y' Z m).2.2.2) X' Y').2)).toArray], exec_call rfl call63 rfl (mpn rfl), product_any hp (pd p (wsm p r X Y X' Y' Z m).1 (wsm p r X Y X' Y' Z m).1) (lw p (wsm p r X Y X' Y' Z m).2 (twT p (wsm p r X Y X' Y' Z m).2).2.2 (tR p (wsm p r X Y X' Y' Z m).2.1 (wsm p r X Y X' Y' Z m).2.2.2) X' Y') (pd_lt hp _ _) ⟨t2_lt hp, tm_lt hp⟩ w'⟩⟩) trivial)))))))))))
      intro _ w23 H23
      clear H22
      refine rest_at (l := [12]) rfl ?_
      refine rest_store rfl rfl rfl (ex_storeT (vs := l2 ((f1 p (wsm p r X Y X' Y' Z m) X' Y').1) ((f1 p (wsm p r X Y X' Y' Z m) X' Y').2)) H23.out.1 1 rfl rfl rfl rfl Try.sizeOf49 rfl (Nat.le_of_ble_eq_true rfl)) ?_
      have H24 : Hid (Mm (w23.setCells γ2_3 0 (l2 ((f1 p (wsm p r X Y X' Y' Z m) X' Y').1) ((f1 p (wsm p r X Y X' Y' Z m) X' Y').2))) [(γ17_6, tr ((twT p (wsm p r X Y X' Y' Z m).2).1) ((twT p (wsm p r X Y X' Y' Z m).2).2.1) ((twT p (wsm p r X Y X' Y' Z m).2).2.2)), (γ2_3, l2 ((f1 p (wsm p r X Y X' Y' Z m) X' Y').1) ((f1 p (wsm p r X Y X' Y' Z m) X' Y').2)), (γ2_4, tc (wsm p r X Y X' Y' Z m).2), (γ1_0, kd p r c gx gy), (γ1_1, pt X Y Z), (γ1_2, pt X' Y' Z'), (γ1_3, l2 0 0)] ∧ Below w.heap.size w (w23.setCells γ2_3 0 (l2 ((f1 p (wsm p r X Y X' Y' Z m) X' Y').1) ((f1 p (wsm p r X Y X' Y' Z m) X' Y').2)))) := ⟨H23.out.1.put 1 (off := 0) (vs := l2 ((f1 p (wsm p r X Y X' Y' Z m) X' Y').1) ((f1 p (wsm p r X Y X' Y' Z m) X' Y').2)) rfl (Nat.le_of_ble_eq_true rfl), below_setCells _ o2_3.out _ _ _ H23.out.2⟩
      clear H23
      generalize hgw : World.setCells _ _ _ _ = w24 at H24 ⊢
      clear hgw
      refine rest_nil (then_normal (wp_seq ?_))
      refine walk_seqB 1 [.quiet (.agg (tr ((twT p (wsm p r X Y X' Y' Z m).2).1) ((twT p (wsm p r X Y X' Y' Z m).2).2.1) ((twT p (wsm p r X Y X' Y' Z m).2).2.2)).toArray)] H24 ?ho19 ?he19
      case ho19 => exact ak (fun γ => ⟨rfl, fun w' h => ex_loadT h 0 rfl rfl rfl Try.isAgg77 Try.sizeOf77 rfl rfl⟩) trivial
      intro _ w25 H25
      clear H24
      refine rest_at (l := [1]) rfl ?_
      refine rest_store rfl rfl rfl (ex_storeT (vs := tr ((twT p (wsm p r X Y X' Y' Z m).2).1) ((twT p (wsm p r X Y X' Y' Z m).2).2.1) ((twT p (wsm p r X Y X' Y' Z m).2).2.2)) H25.out.1 2 rfl rfl rfl rfl Try.sizeOf77 rfl (Nat.le_of_ble_eq_true rfl)) ?_
      have H26 : Hid (Mm (w25.setCells γ2_4 0 (tr ((twT p (wsm p r X Y X' Y' Z m).2).1) ((twT p (wsm p r X Y X' Y' Z m).2).2.1) ((twT p (wsm p r X Y X' Y' Z m).2).2.2))) [(γ17_6, tr ((twT p (wsm p r X Y X' Y' Z m).2).1) ((twT p (wsm p r X Y X' Y' Z m).2).2.1) ((twT p (wsm p r X Y X' Y' Z m).2).2.2)), (γ2_3, l2 ((f1 p (wsm p r X Y X' Y' Z m) X' Y').1) ((f1 p (wsm p r X Y X' Y' Z m) X' Y').2)), (γ2_4, tr ((twT p (wsm p r X Y X' Y' Z m).2).1) ((twT p (wsm p r X Y X' Y' Z m).2).2.1) ((twT p (wsm p r X Y X' Y' Z m).2).2.2)), (γ1_0, kd p r c gx gy), (γ1_1, pt X Y Z), (γ1_2, pt X' Y' Z'), (γ1_3, l2 0 0)] ∧ Below w.heap.size w (w25.setCells γ2_4 0 (tr ((twT p (wsm p r X Y X' Y' Z m).2).1) ((twT p (wsm p r X Y X' Y' Z m).2).2.1) ((twT p (wsm p r X Y X' Y' Z m).2).2.2)))) := ⟨H25.out.1.put 2 (off := 0) (vs := tr ((twT p (wsm p r X Y X' Y' Z m).2).1) ((twT p (wsm p r X Y X' Y' Z m).2).2.1) ((twT p (wsm p r X Y X' Y' Z m).2).2.2)) rfl (Nat.le_of_ble_eq_true rfl), below_setCells _ o2_4.out _ _ _ H25.out.2⟩
      clear H25
      generalize hgw : World.setCells _ _ _ _ = w26 at H26 ⊢
      clear hgw
      refine rest_nil (then_normal ?_)
      refine wp_seq (wp_seq ?_)
      refine walk_seqB 12 [.quiet (PT γ1_0 1), .quiet (U r), .quiet (.int .i64 ((j : Nat) : Int)), .quiet (U (r / 2 ^ j)), .quiet (U (r / 2 ^ j % 2)), .quiet (.bool false), .quiet (.bool false), .quiet (.agg (kd p r c gx gy).toArray), .quiet (.agg (tr ((twT p (wsm p r X Y X' Y' Z m).2).1) ((twT p (wsm p r X Y X' Y' Z m).2).2.1) ((twT p (wsm p r X Y X' Y' Z m).2).2.2)).toArray), .quiet (.agg (pt X Y Z).toArray), .call (.bool false), .quiet (.bool false)] H26 ?ho20 ?he20
      case ho20 => exact ak (by refine fun γ => ⟨rfl, fun w' h => ?_⟩; clear h; go_simp) (ak (fun γ => ⟨rfl, fun w' h => ex_loadC h 3 rfl rfl rfl Try.isAgg23 rfl⟩) (ak (fun _ => ⟨rfl, fun _ _ => rfl⟩) (ak (fun γ => ⟨rfl, fun w' _ => ex_shrU (hjb) rfl rfl rfl⟩) (ak (fun γ => ⟨rfl, fun w' _ => ex_and1 rfl (Nat.lt_of_le_of_lt (Nat.div_le_self _ _) hr) rfl rfl⟩) (ak (fun γ => ⟨rfl, fun w' _ => ex_eqU rfl rfl rfl (decide_eq_false (hb))⟩) (ak (fun _ => ⟨rfl, fun _ _ => rfl⟩) (ak (fun γ => ⟨rfl, fun w' h => ex_loadT h 3 rfl rfl rfl Try.isAgg72 Try.sizeOf72 rfl rfl⟩) (ak (fun γ => ⟨rfl, fun w' h => ex_loadT h 2 rfl rfl rfl Try.isAgg77 Try.sizeOf77 rfl rfl⟩) (ak (fun γ => ⟨rfl, fun w' h => ex_loadT h 4 rfl rfl rfl Try.isAgg25 Try.sizeOf25 rfl rfl⟩) (ak (fun γ => ⟨rfl, fun w' h => ⟨80, #[.agg (kd p r c gx gy).toArray, .agg (tr ((twT p (wsm p r X Y X' Y' Z m).2).1) ((twT p (wsm p r X Y X' Y' Z m).2).2.1) ((twT p (wsm p r X Y X' Y' Z m).2).2.2)).toArray, .agg (pt X Y Z).toArray], exec_call rfl call80 rfl (mpn rfl), sx_is hp (twT p (wsm p r X Y X' Y' Z m).2) (tw_lt hp _) X Y Z hX _ hs w'⟩⟩) (ak (by refine fun γ => ⟨rfl, fun w' h => ?_⟩; clear h; go_simp) trivial)))))))))))
      intro _ w27 H27
      clear H26
      refine rest0 rfl (then_normal (wp_cond_false rfl ?_))
      refine wp_skip (then_normal (wp_seq ?_))
      refine walk_seqB 7 [.quiet (.agg (kd p r c gx gy).toArray), .quiet (.agg (tr ((twT p (wsm p r X Y X' Y' Z m).2).1) ((twT p (wsm p r X Y X' Y' Z m).2).2.1) ((twT p (wsm p r X Y X' Y' Z m).2).2.2)).toArray), .quiet (.agg (pt X Y Z).toArray), .call (.tuple #[.agg (tr ((jnT p (twT p (wsm p r X Y X' Y' Z m).2) X Y Z).1) ((jnT p (twT p (wsm p r X Y X' Y' Z m).2) X Y Z).2.1) ((jnT p (twT p (wsm p r X Y X' Y' Z m).2) X Y Z).2.2)).toArray, U (jnR p (twT p (wsm p r X Y X' Y' Z m).2) X Y Z)]), .quiet (.tuple #[.agg (tr ((jnT p (twT p (wsm p r X Y X' Y' Z m).2) X Y Z).1) ((jnT p (twT p (wsm p r X Y X' Y' Z m).2) X Y Z).2.1) ((jnT p (twT p (wsm p r X Y X' Y' Z m).2) X Y Z).2.2)).toArray, U (jnR p (twT p (wsm p r X Y X' Y' Z m).2) X Y Z)]), .quiet (.agg (tr ((jnT p (twT p (wsm p r X Y X' Y' Z m).2) X Y Z).1) ((jnT p (twT p (wsm p r X Y X' Y' Z m).2) X Y Z).2.1) ((jnT p (twT p (wsm p r X Y X' Y' Z m).2) X Y Z).2.2)).toArray), .quiet (U (jnR p (twT p (wsm p r X Y X' Y' Z m).2) X Y Z))] H27 ?ho21 ?he21
      case ho21 => exact ak (fun γ => ⟨rfl, fun w' h => ex_loadT h 3 rfl rfl rfl Try.isAgg72 Try.sizeOf72 rfl rfl⟩) (ak (fun γ => ⟨rfl, fun w' h => ex_loadT h 2 rfl rfl rfl Try.isAgg77 Try.sizeOf77 rfl rfl⟩) (ak (fun γ => ⟨rfl, fun w' h => ex_loadT h 4 rfl rfl rfl Try.isAgg25 Try.sizeOf25 rfl rfl⟩) (ak (fun γ => ⟨rfl, fun w' h => ⟨44, #[.agg (kd p r c gx gy).toArray, .agg (tr ((twT p (wsm p r X Y X' Y' Z m).2).1) ((twT p (wsm p r X Y X' Y' Z m).2).2.1) ((twT p (wsm p r X Y X' Y' Z m).2).2.2)).toArray, .agg (pt X Y Z).toArray], exec_call rfl call44 rfl (mpn rfl), joined_any hp (twT p (wsm p r X Y X' Y' Z m).2) (tw_lt hp _) X Y Z hX hY w'⟩⟩) (ak (fun _ => ⟨rfl, fun _ _ => rfl⟩) (ak (by refine fun γ => ⟨rfl, fun w' h => ?_⟩; clear h; go_simp) (ak (by refine fun γ => ⟨rfl, fun w' h => ?_⟩; clear h; go_simp) trivial))))))
      intro _ w28 H28
      clear H27
      refine rest_at (l := [7, 8]) rfl ?_
      refine rest_store rfl rfl rfl (ex_storeT (vs := tr ((jnT p (twT p (wsm p r X Y X' Y' Z m).2) X Y Z).1) ((jnT p (twT p (wsm p r X Y X' Y' Z m).2) X Y Z).2.1) ((jnT p (twT p (wsm p r X Y X' Y' Z m).2) X Y Z).2.2)) H28.out.1 2 rfl rfl rfl rfl Try.sizeOf77 rfl (Nat.le_of_ble_eq_true rfl)) ?_
      have H29 : Hid (Mm (w28.setCells γ2_4 0 (tr ((jnT p (twT p (wsm p r X Y X' Y' Z m).2) X Y Z).1) ((jnT p (twT p (wsm p r X Y X' Y' Z m).2) X Y Z).2.1) ((jnT p (twT p (wsm p r X Y X' Y' Z m).2) X Y Z).2.2))) [(γ17_6, tr ((twT p (wsm p r X Y X' Y' Z m).2).1) ((twT p (wsm p r X Y X' Y' Z m).2).2.1) ((twT p (wsm p r X Y X' Y' Z m).2).2.2)), (γ2_3, l2 ((f1 p (wsm p r X Y X' Y' Z m) X' Y').1) ((f1 p (wsm p r X Y X' Y' Z m) X' Y').2)), (γ2_4, tr ((jnT p (twT p (wsm p r X Y X' Y' Z m).2) X Y Z).1) ((jnT p (twT p (wsm p r X Y X' Y' Z m).2) X Y Z).2.1) ((jnT p (twT p (wsm p r X Y X' Y' Z m).2) X Y Z).2.2)), (γ1_0, kd p r c gx gy), (γ1_1, pt X Y Z), (γ1_2, pt X' Y' Z'), (γ1_3, l2 0 0)] ∧ Below w.heap.size w (w28.setCells γ2_4 0 (tr ((jnT p (twT p (wsm p r X Y X' Y' Z m).2) X Y Z).1) ((jnT p (twT p (wsm p r X Y X' Y' Z m).2) X Y Z).2.1) ((jnT p (twT p (wsm p r X Y X' Y' Z m).2) X Y Z).2.2)))) := ⟨H28.out.1.put 2 (off := 0) (vs := tr ((jnT p (twT p (wsm p r X Y X' Y' Z m).2) X Y Z).1) ((jnT p (twT p (wsm p r X Y X' Y' Z m).2) X Y Z).2.1) ((jnT p (twT p (wsm p r X Y X' Y' Z m).2) X Y Z).2.2)) rfl (Nat.le_of_ble_eq_true rfl), below_setCells _ o2_4.out _ _ _ H28.out.2⟩
      clear H28
      generalize hgw : World.setCells _ _ _ _ = w29 at H29 ⊢
      clear hgw
      refine rest_set (d := 11) rfl rfl rfl rfl ?_
      simp only [Act.put, sa, sz, ss]
      refine rest_nil (then_normal ?_)
      refine walk_anyB 9 [.quiet (.agg (kd p r c gx gy).toArray), .quiet (.agg (l2 ((f1 p (wsm p r X Y X' Y' Z m) X' Y').1) ((f1 p (wsm p r X Y X' Y' Z m) X' Y').2)).toArray), .quiet (.agg (kd p r c gx gy).toArray), .quiet (.agg (tr ((jnT p (twT p (wsm p r X Y X' Y' Z m).2) X Y Z).1) ((jnT p (twT p (wsm p r X Y X' Y' Z m).2) X Y Z).2.1) ((jnT p (twT p (wsm p r X Y X' Y' Z m).2) X Y Z).2.2)).toArray), .quiet (.agg (pt X Y Z).toArray), .quiet (U (jnR p (twT p (wsm p r X Y X' Y' Z m).2) X Y Z)), .quiet (.agg (pt X' Y' Z').toArray), .call (.agg (l2 ((lj p (jnT p (twT p (wsm p r X Y X' Y' Z m).2) X Y Z).2.2 X Y (jnR p (twT p (wsm p r X Y X' Y' Z m).2) X Y Z) X' Y').1) ((lj p (jnT p (twT p (wsm p r X Y X' Y' Z m).2) X Y Z).2.2 X Y (jnR p (twT p (wsm p r X Y X' Y' Z m).2) X Y Z) X' Y').2)).toArray), .call (.agg (l2 ((pd p (f1 p (wsm p r X Y X' Y' Z m) X' Y') (lj p (jnT p (twT p (wsm p r X Y X' Y' Z m).2) X Y Z).2.2 X Y (jnR p (twT p (wsm p r X Y X' Y' Z m).2) X Y Z) X' Y')).1) ((pd p (f1 p (wsm p r X Y X' Y' Z m) X' Y') (lj p (jnT p (twT p (wsm p r X Y X' Y' Z m).2) X Y Z).2.2 X Y (jnR p (twT p (wsm p r X Y X' Y' Z m).2) X Y Z) X' Y')).2)).toArray)] H29 ?ho22 ?he22
      case ho22 => exact ak (fun γ => ⟨rfl, fun w' h => ex_loadT h 3 rfl rfl rfl Try.isAgg72 Try.sizeOf72 rfl rfl⟩) (ak (fun γ => ⟨rfl, fun w' h => ex_loadT h 1 rfl rfl rfl Try.isAgg49 Try.sizeOf49 rfl rfl⟩) (ak (fun γ => ⟨rfl, fun w' h => ex_loadT h 3 rfl rfl rfl Try.isAgg72 Try.sizeOf72 rfl rfl⟩) (ak (fun γ => ⟨rfl, fun w' h => ex_loadT h 2 rfl rfl rfl Try.isAgg77 Try.sizeOf77 rfl rfl⟩) (ak (fun γ => ⟨rfl, fun w' h => ex_loadT h 4 rfl rfl rfl Try.isAgg25 Try.sizeOf25 rfl rfl⟩) (ak (fun _ => ⟨rfl, fun _ _ => rfl⟩) (ak (fun γ => ⟨rfl, fun w' h => ex_loadT h 5 rfl rfl rfl Try.isAgg25 Try.sizeOf25 rfl rfl⟩) (ak (fun γ => ⟨rfl, fun w' h => ⟨81, #[.agg (kd p r c gx gy).toArray, .agg (tr ((jnT p (twT p (wsm p r X Y X' Y' Z m).2) X Y Z).1) ((jnT p (twT p (wsm p r X Y X' Y' Z m).2) X Y Z).2.1) ((jnT p (twT p (wsm p r X Y X' Y' Z m).2) X Y Z).2.2)).toArray, .agg (pt X Y Z).toArray, U (jnR p (twT p (wsm p r X Y X' Y' Z m).2) X Y Z), .agg (pt X' Y' Z').toArray], exec_call rfl call81 rfl (mpn rfl), lineJ_any hp _ _ _ (jn_lt hp (tw_lt hp _) hX hY).z X Y Z hX hY _ (jnR_lt hp) X' Y' Z' hX' hY' w'⟩⟩) (ak (fun γ => ⟨rfl, fun w' h => ⟨63, #[.agg (kd p r c gx gy).toArray, .agg (l2 ((f1 p (wsm p r X Y X' Y' Z m) X' Y').1) ((f1 p (wsm p r X Y X' Y' Z m) X' Y').2)).toArray, .agg (l2 ((lj p (jnT p (twT p (wsm p r X Y X' Y' Z m).2) X Y Z).2.2 X Y (jnR p (twT p (wsm p r X Y X' Y' Z m).2) X Y Z) X' Y').1) ((lj p (jnT p (twT p (wsm p r X Y X' Y' Z m).2) X Y Z).2.2 X Y (jnR p (twT p (wsm p r X Y X' Y' Z m).2) X Y Z) X' Y').2)).toArray], exec_call rfl call63 rfl (mpn rfl), product_any hp (f1 p (wsm p r X Y X' Y' Z m) X' Y') (lj p (jnT p (twT p (wsm p r X Y X' Y' Z m).2) X Y Z).2.2 X Y (jnR p (twT p (wsm p r X Y X' Y' Z m).2) X Y Z) X' Y') (pd_lt hp _ _) ⟨t2_lt hp, tm_lt hp⟩ w'⟩⟩) trivial))))))))
      intro _ w30 H30
      clear H29
      refine rest_at (l := [9]) rfl ?_
      refine rest_store rfl rfl rfl (ex_storeT (vs := l2 ((pd p (f1 p (wsm p r X Y X' Y' Z m) X' Y') (lj p (jnT p (twT p (wsm p r X Y X' Y' Z m).2) X Y Z).2.2 X Y (jnR p (twT p (wsm p r X Y X' Y' Z m).2) X Y Z) X' Y')).1) ((pd p (f1 p (wsm p r X Y X' Y' Z m) X' Y') (lj p (jnT p (twT p (wsm p r X Y X' Y' Z m).2) X Y Z).2.2 X Y (jnR p (twT p (wsm p r X Y X' Y' Z m).2) X Y Z) X' Y')).2)) H30.out.1 1 rfl rfl rfl rfl Try.sizeOf49 rfl (Nat.le_of_ble_eq_true rfl)) ?_
      have H31 : Hid (Mm (w30.setCells γ2_3 0 (l2 ((pd p (f1 p (wsm p r X Y X' Y' Z m) X' Y') (lj p (jnT p (twT p (wsm p r X Y X' Y' Z m).2) X Y Z).2.2 X Y (jnR p (twT p (wsm p r X Y X' Y' Z m).2) X Y Z) X' Y')).1) ((pd p (f1 p (wsm p r X Y X' Y' Z m) X' Y') (lj p (jnT p (twT p (wsm p r X Y X' Y' Z m).2) X Y Z).2.2 X Y (jnR p (twT p (wsm p r X Y X' Y' Z m).2) X Y Z) X' Y')).2))) [(γ17_6, tr ((twT p (wsm p r X Y X' Y' Z m).2).1) ((twT p (wsm p r X Y X' Y' Z m).2).2.1) ((twT p (wsm p r X Y X' Y' Z m).2).2.2)), (γ2_3, l2 ((pd p (f1 p (wsm p r X Y X' Y' Z m) X' Y') (lj p (jnT p (twT p (wsm p r X Y X' Y' Z m).2) X Y Z).2.2 X Y (jnR p (twT p (wsm p r X Y X' Y' Z m).2) X Y Z) X' Y')).1) ((pd p (f1 p (wsm p r X Y X' Y' Z m) X' Y') (lj p (jnT p (twT p (wsm p r X Y X' Y' Z m).2) X Y Z).2.2 X Y (jnR p (twT p (wsm p r X Y X' Y' Z m).2) X Y Z) X' Y')).2)), (γ2_4, tr ((jnT p (twT p (wsm p r X Y X' Y' Z m).2) X Y Z).1) ((jnT p (twT p (wsm p r X Y X' Y' Z m).2) X Y Z).2.1) ((jnT p (twT p (wsm p r X Y X' Y' Z m).2) X Y Z).2.2)), (γ1_0, kd p r c gx gy), (γ1_1, pt X Y Z), (γ1_2, pt X' Y' Z'), (γ1_3, l2 0 0)] ∧ Below w.heap.size w (w30.setCells γ2_3 0 (l2 ((pd p (f1 p (wsm p r X Y X' Y' Z m) X' Y') (lj p (jnT p (twT p (wsm p r X Y X' Y' Z m).2) X Y Z).2.2 X Y (jnR p (twT p (wsm p r X Y X' Y' Z m).2) X Y Z) X' Y')).1) ((pd p (f1 p (wsm p r X Y X' Y' Z m) X' Y') (lj p (jnT p (twT p (wsm p r X Y X' Y' Z m).2) X Y Z).2.2 X Y (jnR p (twT p (wsm p r X Y X' Y' Z m).2) X Y Z) X' Y')).2)))) := ⟨H30.out.1.put 1 (off := 0) (vs := l2 ((pd p (f1 p (wsm p r X Y X' Y' Z m) X' Y') (lj p (jnT p (twT p (wsm p r X Y X' Y' Z m).2) X Y Z).2.2 X Y (jnR p (twT p (wsm p r X Y X' Y' Z m).2) X Y Z) X' Y')).1) ((pd p (f1 p (wsm p r X Y X' Y' Z m) X' Y') (lj p (jnT p (twT p (wsm p r X Y X' Y' Z m).2) X Y Z).2.2 X Y (jnR p (twT p (wsm p r X Y X' Y' Z m).2) X Y Z) X' Y')).2)) rfl (Nat.le_of_ble_eq_true rfl), below_setCells _ o2_3.out _ _ _ H30.out.2⟩
      clear H30
      generalize hgw : World.setCells _ _ _ _ = w31 at H31 ⊢
      clear hgw
      refine rest_nil (block_normal (then_normal ?_))
      refine walk_seqB 2 [.quiet (.int .i64 ((j : Nat) : Int)), .quiet (.int .i64 (((bl r : Nat) : Int) - 2 - ((m + 1 : Nat) : Int)))] H31 ?ho23 ?he23
      case ho23 => exact ak (fun _ => ⟨rfl, fun _ _ => rfl⟩) (ak (by refine fun γ => ⟨rfl, fun w' h => ?_⟩; clear h; go_simp; rw [IntKind.wrap_i64]; omega) trivial)
      intro _ w32 H32
      clear H31
      refine rest_at (l := [2]) rfl ?_
      refine rest_set (d := 9) rfl rfl rfl rfl ?_
      simp only [Act.put, sa, sz, ss]
      refine rest_nil (then_normal ?_)
      exact ⟨m + 1, ⟨(slotfn [undef, undef, undef, undef, undef, undef, undef, undef, undef, undef, PT γ17_6 0, U (jnR p (twT p (wsm p r X Y X' Y' Z m).2) X Y Z), undef, undef, undef, undef, undef, undef, undef, .int .i64 ((j : Nat) : Int), .bool true, .int .i64 ((j : Nat) : Int), .int .i64 (((bl r : Nat) : Int) - 2 - ((m + 1 : Nat) : Int)), .tuple #[.agg (tr ((twT p (wsm p r X Y X' Y' Z m).2).1) ((twT p (wsm p r X Y X' Y' Z m).2).2.1) ((twT p (wsm p r X Y X' Y' Z m).2).2.2)).toArray, U (tR p (wsm p r X Y X' Y' Z m).2.1 (wsm p r X Y X' Y' Z m).2.2.2)], .agg (kd p r c gx gy).toArray, .agg (tc (wsm p r X Y X' Y' Z m).2).toArray, .tuple #[.agg (tr ((twT p (wsm p r X Y X' Y' Z m).2).1) ((twT p (wsm p r X Y X' Y' Z m).2).2.1) ((twT p (wsm p r X Y X' Y' Z m).2).2.2)).toArray, U (tR p (wsm p r X Y X' Y' Z m).2.1 (wsm p r X Y X' Y' Z m).2.2.2)], .agg (tr ((twT p (wsm p r X Y X' Y' Z m).2).1) ((twT p (wsm p r X Y X' Y' Z m).2).2.1) ((twT p (wsm p r X Y X' Y' Z m).2).2.2)).toArray, U (tR p (wsm p r X Y X' Y' Z m).2.1 (wsm p r X Y X' Y' Z m).2.2.2), .agg (kd p r c gx gy).toArray, .agg (kd p r c gx gy).toArray, .agg (lc (wsm p r X Y X' Y' Z m).1).toArray, .agg (lc (wsm p r X Y X' Y' Z m).1).toArray, .agg (l2 ((pd p (wsm p r X Y X' Y' Z m).1 (wsm p r X Y X' Y' Z m).1).1) ((pd p (wsm p r X Y X' Y' Z m).1 (wsm p r X Y X' Y' Z m).1).2)).toArray, .agg (kd p r c gx gy).toArray, .agg (tc (wsm p r X Y X' Y' Z m).2).toArray, .agg (tr ((twT p (wsm p r X Y X' Y' Z m).2).1) ((twT p (wsm p r X Y X' Y' Z m).2).2.1) ((twT p (wsm p r X Y X' Y' Z m).2).2.2)).toArray, U (tR p (wsm p r X Y X' Y' Z m).2.1 (wsm p r X Y X' Y' Z m).2.2.2), .agg (pt X' Y' Z').toArray, .agg (l2 ((lw p (wsm p r X Y X' Y' Z m).2 (twT p (wsm p r X Y X' Y' Z m).2).2.2 (tR p (wsm p r X Y X' Y' Z m).2.1 (wsm p r X Y X' Y' Z m).2.2.2) X' Y').1) ((lw p (wsm p r X Y X' Y' Z m).2 (twT p (wsm p r X Y X' Y' Z m).2).2.2 (tR p (wsm p r X Y X' Y' Z m).2.1 (wsm p r X Y X' Y' Z m).2.2.2) X' Y').2)).toArray, .agg (l2 ((f1 p (wsm p r X Y X' Y' Z m) X' Y').1) ((f1 p (wsm p r X Y X' Y' Z m) X' Y').2)).toArray, .agg (tr ((twT p (wsm p r X Y X' Y' Z m).2).1) ((twT p (wsm p r X Y X' Y' Z m).2).2.1) ((twT p (wsm p r X Y X' Y' Z m).2).2.2)).toArray, PT γ1_0 1, U r, .int .i64 ((j : Nat) : Int), U (r / 2 ^ j), U (r / 2 ^ j % 2), .bool false, .bool false, .agg (kd p r c gx gy).toArray, .agg (tr ((twT p (wsm p r X Y X' Y' Z m).2).1) ((twT p (wsm p r X Y X' Y' Z m).2).2.1) ((twT p (wsm p r X Y X' Y' Z m).2).2.2)).toArray, .agg (pt X Y Z).toArray, .bool false, .bool false, .tuple #[.agg (tr ((jnT p (twT p (wsm p r X Y X' Y' Z m).2) X Y Z).1) ((jnT p (twT p (wsm p r X Y X' Y' Z m).2) X Y Z).2.1) ((jnT p (twT p (wsm p r X Y X' Y' Z m).2) X Y Z).2.2)).toArray, U (jnR p (twT p (wsm p r X Y X' Y' Z m).2) X Y Z)], .agg (kd p r c gx gy).toArray, .agg (tr ((twT p (wsm p r X Y X' Y' Z m).2).1) ((twT p (wsm p r X Y X' Y' Z m).2).2.1) ((twT p (wsm p r X Y X' Y' Z m).2).2.2)).toArray, .agg (pt X Y Z).toArray, .tuple #[.agg (tr ((jnT p (twT p (wsm p r X Y X' Y' Z m).2) X Y Z).1) ((jnT p (twT p (wsm p r X Y X' Y' Z m).2) X Y Z).2.1) ((jnT p (twT p (wsm p r X Y X' Y' Z m).2) X Y Z).2.2)).toArray, U (jnR p (twT p (wsm p r X Y X' Y' Z m).2) X Y Z)], .agg (tr ((jnT p (twT p (wsm p r X Y X' Y' Z m).2) X Y Z).1) ((jnT p (twT p (wsm p r X Y X' Y' Z m).2) X Y Z).2.1) ((jnT p (twT p (wsm p r X Y X' Y' Z m).2) X Y Z).2.2)).toArray, U (jnR p (twT p (wsm p r X Y X' Y' Z m).2) X Y Z), .agg (kd p r c gx gy).toArray, .agg (l2 ((f1 p (wsm p r X Y X' Y' Z m) X' Y').1) ((f1 p (wsm p r X Y X' Y' Z m) X' Y').2)).toArray, .agg (kd p r c gx gy).toArray, .agg (tr ((jnT p (twT p (wsm p r X Y X' Y' Z m).2) X Y Z).1) ((jnT p (twT p (wsm p r X Y X' Y' Z m).2) X Y Z).2.1) ((jnT p (twT p (wsm p r X Y X' Y' Z m).2) X Y Z).2.2)).toArray, .agg (pt X Y Z).toArray, U (jnR p (twT p (wsm p r X Y X' Y' Z m).2) X Y Z), .agg (pt X' Y' Z').toArray, .agg (l2 ((lj p (jnT p (twT p (wsm p r X Y X' Y' Z m).2) X Y Z).2.2 X Y (jnR p (twT p (wsm p r X Y X' Y' Z m).2) X Y Z) X' Y').1) ((lj p (jnT p (twT p (wsm p r X Y X' Y' Z m).2) X Y Z).2.2 X Y (jnR p (twT p (wsm p r X Y X' Y' Z m).2) X Y Z) X' Y').2)).toArray, .agg (l2 ((pd p (f1 p (wsm p r X Y X' Y' Z m) X' Y') (lj p (jnT p (twT p (wsm p r X Y X' Y' Z m).2) X Y Z).2.2 X Y (jnR p (twT p (wsm p r X Y X' Y' Z m).2) X Y Z) X' Y')).1) ((pd p (f1 p (wsm p r X Y X' Y' Z m) X' Y') (lj p (jnT p (twT p (wsm p r X Y X' Y' Z m).2) X Y Z).2.2 X Y (jnR p (twT p (wsm p r X Y X' Y' Z m).2) X Y Z) X' Y')).2)).toArray]), rfl, ⟨by rw [show wsm p r X Y X' Y' Z (m + 1) = _ from st_g p X Y X' Y' Z _ (wsm p r X Y X' Y' Z m) (by rw [← hj]; omega) hs]; exact H32.out.1.pick [1, 2, 3, 4, 5, 6] rfl (by decide), H32.out.2⟩, by omega⟩, by omega⟩
  have hm : m = bl r - 1 := by omega
  subst hm
  refine wp_seq (wp_seq ?_)
  refine walk_seqB 2 [.quiet (.int .i64 (((bl r : Nat) : Int) - 2 - ((bl r - 1 : Nat) : Int))), .quiet (.bool false)] H4 ?ho24 ?he24
  case ho24 => exact ak (fun _ => ⟨rfl, fun _ _ => rfl⟩) (ak (by refine fun γ => ⟨rfl, fun w' h => ?_⟩; clear h; go_simp; omega) trivial)
  intro _ w33 H33
  clear H4
  refine rest0 rfl (then_normal (wp_cond_false rfl ?_))
  refine wp_exit ?_
  repeat refine then_exit ?_
  refine block_exit ?_
  refine then_normal (wp_seq ?_)
  refine walk_seqB 1 [.quiet (.agg (lc (wsm p r X Y X' Y' Z (bl r - 1)).1).toArray)] H33 ?ho25 ?he25
  case ho25 => exact ak (fun γ => ⟨rfl, fun w' h => ex_loadT h 0 rfl rfl rfl Try.isAgg49 Try.sizeOf49 rfl rfl⟩) trivial
  intro _ w34 H34
  clear H33
  refine rest_at (l := [1]) rfl ?_
  refine rest_store rfl rfl rfl (ex_storeT (vs := lc (wsm p r X Y X' Y' Z (bl r - 1)).1) H34.out.1 5 rfl rfl rfl rfl Try.sizeOf49 rfl (Nat.le_of_ble_eq_true rfl)) ?_
  have H35 : Hid (Mm (w34.setCells γ1_3 0 (lc (wsm p r X Y X' Y' Z (bl r - 1)).1)) [(γ2_3, lc (wsm p r X Y X' Y' Z (bl r - 1)).1), (γ2_4, tc (wsm p r X Y X' Y' Z (bl r - 1)).2), (γ1_0, kd p r c gx gy), (γ1_1, pt X Y Z), (γ1_2, pt X' Y' Z'), (γ1_3, lc (wsm p r X Y X' Y' Z (bl r - 1)).1)] ∧ Below w.heap.size w (w34.setCells γ1_3 0 (lc (wsm p r X Y X' Y' Z (bl r - 1)).1))) := ⟨H34.out.1.put 5 (off := 0) (vs := lc (wsm p r X Y X' Y' Z (bl r - 1)).1) rfl (Nat.le_of_ble_eq_true rfl), below_setCells _ o1_3.out _ _ _ H34.out.2⟩
  clear H34
  generalize hgw : World.setCells _ _ _ _ = w35 at H35 ⊢
  clear hgw
  refine rest_nil (then_normal (wp_ret ?_))
  repeat (first | refine then_ret ?_ | refine block_ret ?_)
  have hf0 := var_T H35.out.1 5 rfl Try.isAgg49 Try.sizeOf49 rfl
  refine bodyPost_ret (v := .agg (lc (wsm p r X Y X' Y' Z (bl r - 1)).1).toArray) (by simp [results, Try.results62, asAddr, hf0]) rfl ?_
  exact ⟨rfl, H35.out.2⟩
end
end Rg
end Go.Proofs.Ytjmbgchoioepjaa
end
section
namespace Go.Proofs.Ytjmbgchoioepjaa
open Go.RowKit
namespace Rg
open NT
section
variable {p : Nat} [NeZero p]
def phq (p : Nat) [NeZero p] (a : E2) : Q2 p := (ph p a.1, ph p a.2)
theorem ph_t2 (a b c d : Nat) : ph p (t2 p a b c d) = ph p a * ph p b + ph p c * ph p d := by
  have : ph p (t2 p a b c d) = ph p (a * b + c * d) := by
    apply Fin.ext
    rw [ph_val, ph_val]
    unfold t2
    rw [Nat.mod_mod]
  rw [this, ph_add, ph_mul, ph_mul]
theorem phq_pd {a : E2} (b : E2) (ha : a.2 < p) : phq p (pd p a b) = qm (phq p a) (phq p b) := by
  unfold phq pd qm
  rw [ph_t2, ph_t2, ph_mi0 _ ha]
  exact q_ext (by simp only; grind) rfl
theorem phq_inj {a b : E2} (ha : Lt2 p a) (hb : Lt2 p b) (h : phq p a = phq p b) : a = b :=
  Prod.ext (ph_inj ha.x hb.x (congrArg Prod.fst h)) (ph_inj ha.y hb.y (congrArg Prod.snd h))
theorem phq_one : phq p (1, 0) = (1, 0) := rfl
omit [NeZero p] in
theorem one_lt2 (hp : Pr p) : Lt2 p (1, 0) := ⟨one_lt hp, zero_lt hp⟩
/-- The document's power. -/
def po (p : Nat) (a : E2) : Nat → E2
  | 0 => (1, 0)
  | n + 1 => pd p (po p a n) a
omit [NeZero p] in
theorem po_lt (hp : Pr p) (a : E2) : ∀ n, Lt2 p (po p a n)
  | 0 => one_lt2 hp
  | _ + 1 => pd_lt hp _ _
theorem phq_po (hp : Pr p) (a : E2) : ∀ n, phq p (po p a n) = qp (phq p a) n
  | 0 => rfl
  | n + 1 => by rw [po, phq_pd a (po_lt hp a n).y, phq_po hp a n, qp]
theorem phq_rsf (hp : Pr p) : ∀ (f : Nat) (all a : E2) (n : Nat), n < 2 ^ f → Lt2 p all → Lt2 p a → phq p (rsf p f all a n) = qm (phq p all) (qp (phq p a) n)
  | 0, all, a, n, h, _, _ => by
    have : n = 0 := by omega
    subst this
    exact (qm_one _).symm
  | f + 1, all, a, n, h, h1, h2 => by
    rw [rsf]
    split
    · rename_i h0
      rw [h0]
      exact (qm_one _).symm
    · rw [phq_rsf hp f _ _ (n / 2) (by rw [Nat.pow_succ] at h; omega) (by split; exact pd_lt hp _ _; exact h1) (pd_lt hp _ _), phq_pd a h2.y]
      have e : qp (qm (phq p a) (phq p a)) (n / 2) = qp (phq p a) (n / 2 + n / 2) := by rw [qp_qm, qp_add]
      rw [e]
      split
      · rw [phq_pd a h1.y, qm_assoc]
        congr 1
        rw [qm_comm, ← qp, show (n / 2 + n / 2).succ = n by omega]
      · rw [show n / 2 + n / 2 = n by omega]
theorem rs_po (hp : Pr p) {a : E2} (ha : Lt2 p a) (n : Nat) (hn : n < 18446744073709551616) : rs p (1, 0) a n = po p a n := by
  refine phq_inj (rs_lt hp a n (one_lt2 hp)) (po_lt hp _ _) ?_
  unfold rs
  rw [phq_rsf hp 64 (1, 0) a n hn (one_lt2 hp) ha, phq_po hp, phq_one, one_qm]
/-- The last power takes factors of the field away. -/
theorem ls_po (F : Fd p) {f g : E2} (hf : Lt2 p f) {x : Fin p} (hx : x ≠ 0) (e : phq p f = qm (x, 0) (phq p g)) (c : Nat) (hc : c < 18446744073709551616) : ls p c f = po p (po p g (p - 1)) c := by
  have hp := F.pr
  unfold ls
  rw [rs_po hp (pd_lt hp _ _) c hc]
  congr 1
  refine phq_inj (pd_lt hp _ _) (po_lt hp _ _) ?_
  rw [phq_po hp, ← qc_scal F hx, ← e, phq_pd _ (pd_lt hp _ _).y, phq_pd _ (mi_lt hp)]
  unfold qc
  have e1 : phq p (f.1, mi p 0 f.2) = ((phq p f).1, - (phq p f).2) := q_ext rfl (by show ph p (mi p 0 f.2) = _; rw [ph_mi0 _ hf.y]; rfl)
  have e2 : phq p (pw p (t2 p f.1 f.1 f.2 f.2) (p - 2), 0) = (iv ((phq p f).1 * (phq p f).1 + (phq p f).2 * (phq p f).2), 0) := by
    refine q_ext ?_ rfl
    show ph p (pw p (t2 p f.1 f.1 f.2 f.2) (p - 2)) = iv _
    have e3 : (phq p f).1 * (phq p f).1 + (phq p f).2 * (phq p f).2 = ph p (t2 p f.1 f.1 f.2 f.2) := (ph_t2 _ _ _ _).symm
    rw [e3]
    unfold iv
    rw [ph_val, Nat.mod_eq_of_lt (t2_lt hp)]
  rw [e1, e2]
end
end Rg
end Go.Proofs.Ytjmbgchoioepjaa
end
section
namespace Go.Proofs.Ytjmbgchoioepjaa
open Go.RowKit
namespace Rg
open NT
/-- The document's lines and walk. -/
def dl (p : Nat) (t : P3) (m X' Y' : Nat) : E2 := (mi p (tm p m (pl p X' t.1)) t.2.1, Y')
def df (p : Nat) (s : E2 × P3) (X' Y' : Nat) : E2 := pd p (pd p s.1 s.1) (dl p s.2 (dS p s.2 s.2) X' Y')
def dst (p X Y X' Y' bit : Nat) (s : E2 × P3) : E2 × P3 :=
  if bit = 1 ∧ (dA p s.2 s.2).1 ≠ X then (pd p (df p s X' Y') (dl p (dA p s.2 s.2) (dS p (dA p s.2 s.2) (X, Y, false)) X' Y'), dA p (dA p s.2 s.2) (X, Y, false)) else (df p s X' Y', dA p s.2 s.2)
def dws (p r X Y X' Y' : Nat) : Nat → E2 × P3
  | 0 => ((1, 0), (X, Y, false))
  | m + 1 => dst p X Y X' Y' (r / 2 ^ (bl r - 1 - 1 - m) % 2) (dws p r X Y X' Y' m)
section
variable {p : Nat} [NeZero p]
theorem phq_dl (_hp : Pr p) {t : P3} (ht : LtP p t) (m X' Y' : Nat) : phq p (dl p t m X' Y') = (ph p m * (ph p X' + ph p t.1) - ph p t.2.1, ph p Y') := by
  unfold phq dl
  exact q_ext (by simp only; rw [ph_mi _ _ ht.y, ph_tm, ph_pl]) rfl
theorem line_w {x y z m X Y ri TX TY nz : Fin p} (h1 : TX = x * z * z) (h2 : TY = y * z * z * z) (hm : 2 * y * m = 3 * (x * x) + 1) (hr : ri = 3 * (TX * TX) + z * z * (z * z)) (hn : nz = 2 * (TY * z)) :
    ((ri * (X * (z * z) + TX) + 1 * - (2 * (TY * TY)), Y * (nz * (z * z))) : Q2 p) = qm (nz * (z * z), 0) (m * (X + x) - y, Y) := by
  subst h1 h2 hr hn
  exact q_ext (by simp only [qm]; grind) (by simp only [qm]; grind)
theorem line_j {x y z m X Y X' Y' TX TY s u : Fin p} (h1 : TX = x * z * z) (h2 : TY = y * z * z * z) (hm : Y = y + m * (X - x)) (hs : s = Y * (z * (z * z)) - TY) (hu : u = X * (z * z) - TX) :
    ((s * (X' + X) + - Y * (z * u), Y' * (z * u)) : Q2 p) = qm (z * u, 0) (m * (X' + x) - y, Y') := by
  subst h1 h2 hs hu
  exact q_ext (by simp only [qm]; grind) (by simp only [qm]; grind)
theorem qm_sc (x s : Fin p) (a b : Q2 p) : qm (qm (qm (x, 0) a) (qm (x, 0) a)) (qm (s, 0) b) = qm (x * x * s, 0) (qm (qm a a) b) := q_ext (by simp only [qm]; grind) (by simp only [qm]; grind)
theorem qm_sc2 (x s : Fin p) (a b : Q2 p) : qm (qm (x, 0) a) (qm (s, 0) b) = qm (x * s, 0) (qm a b) := q_ext (by simp only [qm]; grind) (by simp only [qm]; grind)
/-- A doubling step. -/
theorem step_w (F : Fd p) {T : T3} {t : P3} (hR : Rep p T t) (ht : On p t) (hz : t.2.2 = false) (hn : ¬ t = (t.1, mi p 0 t.2.1, t.2.2)) {f g : E2} (hf : Lt2 p f) (hg : Lt2 p g) {x : Fin p} (hx : x ≠ 0) (e : phq p f = qm (x, 0) (phq p g)) (X' Y' : Nat) :
    ∃ x' : Fin p, x' ≠ 0 ∧ phq p (f1 p (f, T) X' Y') = qm (x', 0) (phq p (df p (g, t) X' Y')) := by
  have hp := F.pr
  obtain ⟨h1, h2, h3⟩ := hR.nz hz
  obtain ⟨_, _, hm⟩ := slope_of hp F.prm ht ht hz hz hn
  have hm' : 2 * ph p t.2.1 * ph p (dS p t t) = 3 * (ph p t.1 * ph p t.1) + 1 := by
    generalize ph p (dS p t t) = m at *
    generalize ph p t.1 = u at *
    grind
  have hy : ph p t.2.1 + ph p t.2.1 ≠ 0 := fun e => hn (neg_of hp ht e)
  have hl : phq p (lw p T (twT p T).2.2 (tR p T.1 T.2.2) X' Y') = qm (ph p (twT p T).2.2 * (ph p T.2.2 * ph p T.2.2), 0) (phq p (dl p t (dS p t t) X' Y')) := by
    rw [phq_dl hp ht.lt]
    have hnz : ph p (twT p T).2.2 = 2 * (ph p T.2.1 * ph p T.2.2) := by
      unfold twT
      rw [ph_tm, ph_tm, ph_2]
    have hri : ph p (tR p T.1 T.2.2) = 3 * (ph p T.1 * ph p T.1) + ph p T.2.2 * ph p T.2.2 * (ph p T.2.2 * ph p T.2.2) := by
      unfold tR
      rw [ph_pl, ph_tm, ph_tm, ph_tm, ph_tm, ph_3]
    rw [← line_w h2 h3 hm' hri hnz]
    unfold phq lw
    refine q_ext ?_ ?_
    · simp only
      rw [ph_t2, ph_pl, ph_tm, ph_tm, ph_mi0 _ (tm_lt hp), ph_tm, ph_tm, ph_one, ph_2]
    · simp only
      rw [ph_tm, ph_tm, ph_tm]
  refine ⟨x * x * (ph p (twT p T).2.2 * (ph p T.2.2 * ph p T.2.2)), ?_, ?_⟩
  · refine fp_ne F.prm (fp_ne F.prm hx hx) (fp_ne F.prm ?_ (fp_ne F.prm h1 h1))
    have e2 : ph p (twT p T).2.2 = (ph p t.2.1 + ph p t.2.1) * (ph p T.2.2 * ph p T.2.2 * (ph p T.2.2 * ph p T.2.2)) := by
      unfold twT
      rw [ph_tm, ph_tm, ph_2, h3]
      generalize ph p t.2.1 = y
      generalize ph p T.2.2 = z
      grind
    rw [e2]
    exact fp_ne F.prm hy (fp_ne F.prm (fp_ne F.prm h1 h1) (fp_ne F.prm h1 h1))
  · unfold f1 df
    rw [phq_pd _ (pd_lt hp _ _).y, phq_pd _ hf.y, phq_pd _ (pd_lt hp _ _).y, phq_pd _ hg.y]
    show qm (qm (phq p f) (phq p f)) (phq p (lw p T (twT p T).2.2 (tR p T.1 T.2.2) X' Y')) = _
    rw [hl, e, qm_sc]
/-- A joining step. -/
theorem step_j (F : Fd p) {T : T3} {t : P3} (hR : Rep p T t) (ht : On p t) (hz : t.2.2 = false) {X Y : Nat} (hP : On p (X, Y, false)) (hX : t.1 ≠ X) {f g : E2} (hf : Lt2 p f) (hg : Lt2 p g) {x : Fin p} (hx : x ≠ 0) (e : phq p f = qm (x, 0) (phq p g)) (X' Y' : Nat) :
    ∃ x' : Fin p, x' ≠ 0 ∧ phq p (pd p f (lj p (jnT p T X Y false).2.2 X Y (jnR p T X Y false) X' Y')) = qm (x', 0) (phq p (pd p g (dl p t (dS p t (X, Y, false)) X' Y'))) := by
  have hp := F.pr
  obtain ⟨h1, h2, h3⟩ := hR.nz hz
  have hn : ¬ t = (X, mi p 0 Y, false) := fun h => hX (congrArg Prod.fst h)
  obtain ⟨_, hm, _⟩ := slope_of hp F.prm ht hP hz rfl hn
  have hz0 : T.2.2 ≠ 0 := fun h => h1 (by rw [h]; rfl)
  have hu : ph p (jU p T.1 T.2.2 X) ≠ 0 := by
    rw [ph_jU hR.lt, h2]
    have e1 : ph p X * (ph p T.2.2 * ph p T.2.2) - ph p t.1 * ph p T.2.2 * ph p T.2.2 = (ph p X - ph p t.1) * (ph p T.2.2 * ph p T.2.2) := by grind
    rw [e1]
    refine fp_ne F.prm (fun h => hX (ph_inj ht.lt.x hP.lt.x ?_)) (fp_ne F.prm h1 h1)
    show ph p t.1 = ph p X
    grind
  have hj : ¬ (jU p T.1 T.2.2 X = 0 ∧ jS p T.2.1 T.2.2 Y = 0) := fun h => hu (by rw [h.1]; rfl)
  have e1 : (jnT p T X Y false).2.2 = tm p T.2.2 (jU p T.1 T.2.2 X) := by
    unfold jnT
    rw [if_neg (by decide), if_neg hz0, if_neg hj]
  have e2 : jnR p T X Y false = jS p T.2.1 T.2.2 Y := by
    unfold jnR
    rw [if_neg (by decide), if_neg hz0, if_neg hj]
  rw [e1, e2]
  have hl : phq p (lj p (tm p T.2.2 (jU p T.1 T.2.2 X)) X Y (jS p T.2.1 T.2.2 Y) X' Y') = qm (ph p T.2.2 * ph p (jU p T.1 T.2.2 X), 0) (phq p (dl p t (dS p t (X, Y, false)) X' Y')) := by
    rw [phq_dl hp ht.lt, ← line_j (X := ph p X) (Y := ph p Y) (X' := ph p X') (Y' := ph p Y') h2 h3 hm (ph_jS hR.lt Y) (ph_jU hR.lt X)]
    unfold phq lj
    refine q_ext ?_ ?_
    · simp only
      rw [ph_t2, ph_pl, ph_mi0 _ hP.lt.y, ph_tm]
    · simp only
      rw [ph_tm, ph_tm]
  refine ⟨x * (ph p T.2.2 * ph p (jU p T.1 T.2.2 X)), fp_ne F.prm hx (fp_ne F.prm h1 hu), ?_⟩
  rw [phq_pd _ hf.y, phq_pd _ hg.y, hl, e, qm_sc2]
theorem sx_iff (hp : Pr p) (hq : Prm p) {T : T3} {t : P3} (hR : Rep p T t) (ht : On p t) (hz : t.2.2 = false) {X : Nat} (hX : X < p) : sx p T X = true ↔ t.1 = X := by
  obtain ⟨h1, h2, _⟩ := hR.nz hz
  unfold sx
  rw [decide_eq_true_iff]
  constructor
  · intro h
    have e := congrArg (ph p) h
    rw [ph_tm, ph_tm, h2] at e
    refine ph_inj ht.lt.x hX (fp_cancel hq (fp_ne hq h1 h1) ?_)
    grind
  · intro h
    refine ph_inj (tm_lt hp) hR.lt.x ?_
    rw [ph_tm, ph_tm, h2, h]
    grind
/-! The order. -/
omit [NeZero p] in
theorem dN_00 : ∀ n, dN p (0, 0, true) n = (0, 0, true)
  | 0 => rfl
  | n + 1 => by rw [dN, dN_00 n, dA_zl]
omit [NeZero p] in
theorem dN_one (a : P3) : dN p a 1 = a := dA_zl a
theorem dN_ne (F : Fd p) {r : Nat} (hr : Prm r) {a : P3} (ha : On p a) (hz : a.2.2 = false) (h0 : dN p a r = (0, 0, true)) {n : Nat} (hn : 0 < n) (hnr : n < r) : (dN p a n).2.2 = false := by
  cases h : (dN p a n).2.2
  · rfl
  · exfalso
    have e := (dN_on F ha n).zr h
    have hf := fermat1 hr n (fun hd => by have := Nat.le_of_dvd hn hd; omega)
    have e1 : n * n ^ (r - 2) = n ^ (r - 1) := by rw [Nat.mul_comm, ← Nat.pow_succ, show (r - 2).succ = r - 1 by omega]
    have e2 := dN_mul F ha n (n ^ (r - 2))
    rw [e, dN_00, e1, ← Nat.div_add_mod (n ^ (r - 1)) r, hf, dN_add F ha, ← dN_mul F ha, h0, dN_00, dA_zl, dN_one] at e2
    rw [← e2] at hz
    cases hz
end
end Rg
end Go.Proofs.Ytjmbgchoioepjaa
end
section
namespace Go.Proofs.Ytjmbgchoioepjaa
open Go.RowKit
namespace Rg
open NT
section
variable {p : Nat} [NeZero p]
theorem neg_dbl (F : Fd p) {a : P3} (ha : On p a) (n : Nat) (hz : (dN p a n).2.2 = false) (h2 : (dN p a (n + n)).2.2 = false) : ¬ dN p a n = ((dN p a n).1, mi p 0 (dN p a n).2.1, (dN p a n).2.2) := fun h => by
  have e := dA_neg (p := p) hz hz h
  rw [← dN_add F ha] at e
  rw [e] at h2
  cases h2
/-- A point with P's first part is P or its negated one. -/
theorem same_X (F : Fd p) {a b : P3} (ha : On p a) (hb : On p b) (hz : a.2.2 = false) (hy : b.2.2 = false) (h : a.1 = b.1) : a = b ∨ dA p a b = (0, 0, true) := by
  have h1 := ha.cv hz
  have h2 := hb.cv hy
  rw [h] at h1
  have e : (ph p a.2.1 - ph p b.2.1) * (ph p a.2.1 + ph p b.2.1) = 0 := by grind
  rcases fp_mul F.prm e with e | e
  · exact .inl (p3_eq h (ph_inj ha.lt.y hb.lt.y (by grind)) (by rw [hz, hy]))
  · refine .inr (dA_neg hz hy (p3_eq h (ph_inj ha.lt.y (mi_lt F.pr) ?_) (by show a.2.2 = b.2.2; rw [hz, hy])))
    rw [ph_mi0 _ hb.lt.y]
    grind
theorem pw_top {r : Nat} (hr : r ≠ 0) : r / 2 ^ (bl r - 1) = 1 := by
  have h1 := bl_le r hr
  have h2 := bl_lt r
  have h3 := bl_pos r hr
  rw [show bl r = bl r - 1 + 1 by omega, Nat.pow_succ] at h2
  generalize 2 ^ (bl r - 1) = q at *
  have hq : 0 < q := by
    rcases Nat.eq_zero_or_pos q with h | h
    · rw [h] at h2; omega
    · exact h
  refine Nat.le_antisymm ?_ ((Nat.le_div_iff_mul_le hq).2 (by omega))
  exact Nat.le_of_lt_succ ((Nat.div_lt_iff_lt_mul hq).2 (by omega))
structure Wi (p r X Y X' Y' m : Nat) [NeZero p] : Prop where
  f : ∃ x : Fin p, x ≠ 0 ∧ phq p (wsm p r X Y X' Y' false m).1 = qm (x, 0) (phq p (dws p r X Y X' Y' m).1)
  l : Lt2 p (dws p r X Y X' Y' m).1
  t : m < bl r - 1 → Rep p (wsm p r X Y X' Y' false m).2 (dws p r X Y X' Y' m).2 ∧ (dws p r X Y X' Y' m).2 = dN p (X, Y, false) (r / 2 ^ (bl r - 1 - m))
theorem walk_is (F : Fd p) {r : Nat} (hr : Prm r) (hodd : r % 2 = 1) {X Y : Nat} (hP : On p (X, Y, false)) (h0 : dN p (X, Y, false) r = (0, 0, true)) (X' Y' : Nat) : ∀ m, m ≤ bl r - 1 → Wi p r X Y X' Y' m
  | 0, _ => by
    refine ⟨⟨1, fun h => ?_, ?_⟩, one_lt2 F.pr, fun _ => ⟨rep_tO F.pr hP, ?_⟩⟩
    · have := congrArg Fin.val h
      have h1 := one_lt F.pr
      rw [show (1 : Fin p).val = 1 % p from rfl, Nat.mod_eq_of_lt h1, show (0 : Fin p).val = 0 from Nat.zero_mod p] at this
      cases this
    · rw [one_qm]; rfl
    · rw [Nat.sub_zero, pw_top (by have := hr.1; omega), dN_one]; rfl
  | m + 1, hm => by
    have hp := F.pr
    have I := walk_is F hr hodd hP h0 X' Y' m (by omega)
    obtain ⟨hR, ht⟩ := I.t (by omega)
    obtain ⟨x, hx, hf⟩ := I.f
    have hL := (ws_lt hp (r := r) (X' := X') (Y' := Y') (Z := false) hP.lt.x hP.lt.y m).f
    have hL2 := I.l
    -- the numbers
    have hr0 : r ≠ 0 := by have := hr.1; omega
    have en : r / 2 ^ (bl r - 1 - m) = r / 2 ^ (bl r - 1 - 1 - m) / 2 := by rw [show bl r - 1 - m = bl r - 1 - 1 - m + 1 by omega, Nat.pow_succ, Nat.div_div_eq_div_mul]
    have hn1 : r / 2 ^ (bl r - 1 - m) ≥ 1 := by
      have := pw_top hr0
      have h3 : 2 ^ (bl r - 1 - m) ≤ 2 ^ (bl r - 1) := Nat.pow_le_pow_right (by decide) (by omega)
      have h4 : r / 2 ^ (bl r - 1) ≤ r / 2 ^ (bl r - 1 - m) := Nat.div_le_div_left h3 (Nat.two_pow_pos _)
      omega
    have hle : r / 2 ^ (bl r - 1 - 1 - m) ≤ r := Nat.div_le_self _ _
    have hlast : m + 1 < bl r - 1 → r / 2 ^ (bl r - 1 - 1 - m) < r := fun h => Nat.div_lt_self (by omega) (Nat.one_lt_two_pow (by omega))
    have hno : ¬ m + 1 < bl r - 1 → r / 2 ^ (bl r - 1 - 1 - m) = r := fun h => by rw [show bl r - 1 - 1 - m = 0 by omega, Nat.pow_zero, Nat.div_one]
    have eW : wsm p r X Y X' Y' false (m + 1) = st p X Y X' Y' false (r / 2 ^ (bl r - 1 - 1 - m) % 2) (wsm p r X Y X' Y' false m) := rfl
    have eD : dws p r X Y X' Y' (m + 1) = dst p X Y X' Y' (r / 2 ^ (bl r - 1 - 1 - m) % 2) (dws p r X Y X' Y' m) := rfl
    have eE : bl r - 1 - (m + 1) = bl r - 1 - 1 - m := by omega
    rw [en] at ht hn1
    generalize hN : r / 2 ^ (bl r - 1 - 1 - m) = N at *
    generalize hs : wsm p r X Y X' Y' false m = S at *
    generalize hd : dws p r X Y X' Y' m = D at *
    obtain ⟨f, T⟩ := S
    obtain ⟨g, t⟩ := D
    simp only at hR ht hf hL hL2
    have hlt2 : N / 2 + N / 2 < r := by
      by_cases h : m + 1 < bl r - 1
      · have := hlast h; omega
      · have := hno h; omega
    have hot : On p t := by rw [ht]; exact dN_on F hP _
    have hz : t.2.2 = false := by rw [ht]; exact dN_ne F hr hP rfl h0 (by omega) (by omega)
    have e2 : dA p t t = dN p (X, Y, false) (N / 2 + N / 2) := by rw [dN_add F hP, ← ht]
    have hz2 : (dA p t t).2.2 = false := by rw [e2]; exact dN_ne F hr hP rfl h0 (by omega) hlt2
    have hng : ¬ t = (t.1, mi p 0 t.2.1, t.2.2) := by
      have := neg_dbl F hP (N / 2) (by rw [← ht]; exact hz) (by rw [← e2]; exact hz2)
      rw [← ht] at this
      exact this
    obtain ⟨hR2, hot2⟩ := tw_rep hp F.prm hR hot
    obtain ⟨x2, hx2, hf2⟩ := step_w F hR hot hz hng hL hL2 hx hf X' Y'
    have hsx := sx_iff hp F.prm hR2 hot2 hz2 hP.lt.x
    have hl1 : Lt2 p (f1 p (f, T) X' Y') := pd_lt hp _ _
    have hl2 : Lt2 p (df p (g, t) X' Y') := pd_lt hp _ _
    by_cases hb : N % 2 = 1 ∧ (dA p t t).1 ≠ X
    · have eS : st p X Y X' Y' false (N % 2) (f, T) = (pd p (f1 p (f, T) X' Y') (lj p (jnT p (twT p T) X Y false).2.2 X Y (jnR p (twT p T) X Y false) X' Y'), jnT p (twT p T) X Y false) := by
        refine st_g p X Y X' Y' false _ (f, T) (by omega) ?_
        cases h : sx p (twT p T) X
        · rfl
        · exact absurd (hsx.1 h) hb.2
      have eT : dst p X Y X' Y' (N % 2) (g, t) = (pd p (df p (g, t) X' Y') (dl p (dA p t t) (dS p (dA p t t) (X, Y, false)) X' Y'), dA p (dA p t t) (X, Y, false)) := by unfold dst; rw [if_pos hb]
      refine ⟨?_, ?_, fun _ => ⟨?_, ?_⟩⟩
      · rw [eW, eD, eS, eT]
        exact step_j F hR2 hot2 hz2 hP hb.2 hl1 hl2 hx2 hf2 X' Y'
      · rw [eD, eT]
        exact pd_lt hp _ _
      · rw [eW, eD, eS, eT]
        exact (jn_rep hp F.prm hR2 hot2 hP).1
      · rw [eD, eT, eE, hN]
        show dA p (dA p t t) (X, Y, false) = _
        rw [e2, ← show dN p (X, Y, false) (N / 2 + N / 2 + 1) = dA p (dN p (X, Y, false) (N / 2 + N / 2)) (X, Y, false) from rfl, show N / 2 + N / 2 + 1 = N by omega]
    · have eS : st p X Y X' Y' false (N % 2) (f, T) = (f1 p (f, T) X' Y', twT p T) := by
        by_cases h1 : N % 2 = 0
        · exact st_0 p X Y X' Y' false _ (f, T) h1
        · refine st_s p X Y X' Y' false _ (f, T) (hsx.2 ?_)
          by_cases h2 : (dA p t t).1 = X
          · exact h2
          · exact absurd ⟨by omega, h2⟩ hb
      have eT : dst p X Y X' Y' (N % 2) (g, t) = (df p (g, t) X' Y', dA p t t) := by unfold dst; rw [if_neg hb]
      refine ⟨?_, ?_, fun hlm => ⟨?_, ?_⟩⟩
      · rw [eW, eD, eS, eT]
        exact ⟨x2, hx2, hf2⟩
      · rw [eD, eT]
        exact hl2
      · rw [eW, eD, eS, eT]
        exact hR2
      · rw [eD, eT, eE, hN]
        show dA p t t = _
        by_cases h1 : N % 2 = 0
        · rw [e2, show N / 2 + N / 2 = N by omega]
        · exfalso
          have hX : (dA p t t).1 = X := by
            by_cases h2 : (dA p t t).1 = X
            · exact h2
            · exact absurd ⟨by omega, h2⟩ hb
          have hNr := hlast hlm
          rcases same_X F hot2 hP hz2 rfl hX with h | h
          · have e3 : dA p (X, Y, false) (dN p (X, Y, false) (N / 2 + N / 2 - 1)) = dA p (X, Y, false) (0, 0, true) := by
              rw [dA_zr hP]
              have := dN_add F hP 1 (N / 2 + N / 2 - 1)
              rw [dN_one, show 1 + (N / 2 + N / 2 - 1) = N / 2 + N / 2 by omega, ← e2, h] at this
              exact this.symm
            have e4 := dA_cancel F hP (dN_on F hP _) (on_zero' hp) e3
            have e5 := dN_ne F hr hP rfl h0 (n := N / 2 + N / 2 - 1) (by omega) (by omega)
            rw [e4] at e5
            cases e5
          · rw [e2] at h
            have e5 := dN_ne F hr hP rfl h0 (n := N / 2 + N / 2 + 1) (by omega) (by omega)
            rw [show dN p (X, Y, false) (N / 2 + N / 2 + 1) = dA p (dN p (X, Y, false) (N / 2 + N / 2)) (X, Y, false) from rfl, h] at e5
            cases e5
/-- The document's number of two points. -/
def dpr (p r c X Y X' Y' : Nat) (Z Z' : Bool) : E2 := if Z = true ∨ Z' = true then (1, 0) else po p (po p (dws p r X Y X' Y' (bl r - 1)).1 (p - 1)) c
theorem pr_is (F : Fd p) {r : Nat} (hr : Prm r) (hodd : r % 2 = 1) {X Y : Nat} {Z : Bool} (hP : On p (X, Y, Z)) (h0 : dN p (X, Y, Z) r = (0, 0, true)) (X' Y' : Nat) (Z' : Bool) (c : Nat) (hc : c < 18446744073709551616) : pr p r c X Y X' Y' Z Z' = dpr p r c X Y X' Y' Z Z' := by
  unfold pr dpr
  split
  · rfl
  · rename_i h
    have hZ : Z = false := by
      cases Z
      · rfl
      · exact absurd (.inl rfl) h
    subst hZ
    obtain ⟨⟨x, hx, e⟩, _, _⟩ := walk_is F hr hodd hP h0 X' Y' (bl r - 1) (Nat.le_refl _)
    exact ls_po F (ws_lt F.pr hP.lt.x hP.lt.y _).f hx e c hc
end
end Rg
end Go.Proofs.Ytjmbgchoioepjaa
end
section
namespace Go.Proofs.Ytjmbgchoioepjaa
open Go.RowKit
namespace Rg
open NT
section
variable {p : Nat} [NeZero p]
theorem sub0 {a b : Fin p} (h : a - b = 0) : a = b := by grind -lia
theorem mul0 {a b : Fin p} (h : a = 0) : a * b = 0 := by rw [h]; grind -lia
theorem mul0r {a b : Fin p} (h : b = 0) : a * b = 0 := by rw [h]; grind -lia
/-- Two lines that meet at x4, y4's negated one and at it. -/
theorem ln_prod (x y x4 y4 m k : Fin p) (c : y * y = x * x * x + x) (c4 : y4 * y4 = x4 * x4 * x4 + x4) :
    (y + y4 - m * (x - x4)) * (y - y4 - k * (x - x4)) = (x - x4) * (x * x + x * x4 + x4 * x4 + 1 + (m - k) * y4 + m * k * (x - x4) - (m + k) * y) := by grind -lia
theorem ln_zero (hq : Prm p) {x y x4 y4 m k : Fin p} (c : y * y = x * x * x + x) (c4 : y4 * y4 = x4 * x4 * x4 + x4) (hx : x ≠ x4) (h : (y + y4 - m * (x - x4)) * (y - y4 - k * (x - x4)) = 0) :
    x * x + x * x4 + x4 * x4 + 1 + (m - k) * y4 + m * k * (x - x4) = (m + k) * y := by
  rw [ln_prod x y x4 y4 m k c c4] at h
  rcases fp_mul hq h with h | h
  · exact absurd (sub0 h) hx
  · exact sub0 h
/-- The same at the turned point: both lines' product is X + x4 times this. -/
def wq (X Y x4 y4 m k : Fin p) : Q2 p := (m * k * (X + x4) + (k - m) * y4 - (X * X - X * x4 + x4 * x4 + 1), (m + k) * Y)
theorem wq_is (X Y x4 y4 m k : Fin p) (c : Y * Y = X * X * X + X) (c4 : y4 * y4 = x4 * x4 * x4 + x4) :
    qm (m * (X + x4) + y4, Y) (k * (X + x4) - y4, Y) = qs (X + x4) (wq X Y x4 y4 m k) := q_ext (by simp only [qm, qs, wq]; grind -lia) (by simp only [qm, qs, wq]; grind -lia)
theorem cub1 (x1 y1 x2 x3 m : Fin p) (rAB : 2 * y1 * m + m * m * (x2 - x1) = x1 * x1 + x1 * x2 + x2 * x2 + 1) : (x3 - x2) * (x3 - (m * m - x1 - x2)) = x3 * x3 + x3 * x1 + x1 * x1 + 1 - 2 * y1 * m - m * m * (x3 - x1) := by grind -lia
theorem cub2 (x1 y1 x3 m : Fin p) : (x3 - x1) * (x3 * x3 + x3 * x1 + x1 * x1 + 1 - 2 * y1 * m - m * m * (x3 - x1)) = (x3 * x3 * x3 + x3 - (y1 + m * (x3 - x1)) * (y1 + m * (x3 - x1))) - (x1 * x1 * x1 + x1 - y1 * y1) := by grind -lia
theorem cub (x1 y1 x2 x3 m : Fin p) (c1 : y1 * y1 = x1 * x1 * x1 + x1) (c3 : (y1 + m * (x3 - x1)) * (y1 + m * (x3 - x1)) = x3 * x3 * x3 + x3) (rAB : 2 * y1 * m + m * m * (x2 - x1) = x1 * x1 + x1 * x2 + x2 * x2 + 1) : (x3 - x1) * ((x3 - x2) * (x3 - (m * m - x1 - x2))) = 0 := by
  rw [cub1 x1 y1 x2 x3 m rAB, cub2, c1, c3]
  clear c1 c3 rAB
  grind -lia
theorem line_third (hq : Prm p) {x1 y1 x2 x3 y3 x4 m : Fin p} (c1 : y1 * y1 = x1 * x1 * x1 + x1) (c3 : y3 * y3 = x3 * x3 * x3 + x3) (rAB : 2 * y1 * m + m * m * (x2 - x1) = x1 * x1 + x1 * x2 + x2 * x2 + 1) (e4 : x4 = m * m - x1 - x2) (h : y3 = y1 + m * (x3 - x1)) : x3 = x1 ∨ x3 = x2 ∨ x3 = x4 := by
  rw [h] at c3
  have e := cub x1 y1 x2 x3 m c1 c3 rAB
  rw [← e4] at e
  rcases fp_mul hq e with e | e
  · exact .inl (sub0 e)
  · rcases fp_mul hq e with e | e
    · exact .inr (.inl (sub0 e))
    · exact .inr (.inr (sub0 e))
theorem l_a {y1 y4 m d : Fin p} (h : y4 = m * d - y1) : y1 + y4 - m * d = 0 := by grind -lia
theorem l_b {x1 y1 x2 y2 x4 y4 m : Fin p} (hB : y2 = y1 + m * (x2 - x1)) (f4 : y4 = m * (x1 - x4) - y1) : y2 + y4 - m * (x2 - x4) = 0 := by grind -lia
theorem l_c {y3 y4 k d : Fin p} (h : y3 = y4 + k * d) : y3 - y4 - k * d = 0 := by grind -lia
theorem l_d {x1 y1 x5 y5 l : Fin p} (h : y5 = y1 + l * (x5 - x1)) : y1 - y5 - l * (x1 - x5) = 0 := by grind -lia
theorem l_g {x y x4 y4 x5 y5 m k n l s u v : Fin p} (a : x * x + x * x4 + x4 * x4 + 1 + (m - k) * y4 + m * k * (x - x4) = (m + k) * y) (b : x * x + x * x5 + x5 * x5 + 1 + (n - l) * y5 + n * l * (x - x5) = (n + l) * y)
    (hs : s = m + k - n - l) (hu : u = x4 + m * k - x5 - n * l) (hv : v = (x4 * x4 + (m - k) * y4 - m * k * x4) - (x5 * x5 + (n - l) * y5 - n * l * x5)) : u * x + v = s * y := by
  subst hs hu hv
  grind -lia
theorem l_w {X Y x4 y4 x5 y5 m k n l s u v : Fin p} (hs : s = m + k - n - l) (hu : u = x4 + m * k - x5 - n * l) (hv : v = (x4 * x4 + (m - k) * y4 - m * k * x4) - (x5 * x5 + (n - l) * y5 - n * l * x5)) (s0 : s = 0) (u0 : u = 0) (v0 : v = 0) : wq X Y x4 y4 m k = wq X Y x5 y5 n l := by
  subst hs hu hv
  unfold wq
  exact q_ext (by simp only; grind -lia) (by simp only; grind -lia)
theorem l_v {s u v x y : Fin p} (g : u * x + v = s * y) (hu : u = 0) (hs : s = 0) : v = 0 := by
  subst hu hs
  grind -lia
end
end Rg
end Go.Proofs.Ytjmbgchoioepjaa
end
section
namespace Go.Proofs.Ytjmbgchoioepjaa
open Go.RowKit
namespace Rg
section
variable {p : Nat} [NeZero p]
/-- Three values of a line, by the sums of the three places. -/
def tv (a b c d e1 e2 e3 : Fin p) : Q2 p :=
  ((a * (a * a - 3 * (c * c))) * e3 + (b * (a * a - c * c) - 2 * (a * c * d)) * e2 + (a * (b * b - d * d) - 2 * (b * c * d)) * e1 + b * (b * b - 3 * (d * d)),
   (c * (3 * (a * a) - c * c)) * e3 + (d * (a * a - c * c) + 2 * (a * b * c)) * e2 + (c * (b * b - d * d) + 2 * (a * b * d)) * e1 + d * (3 * (b * b) - d * d))
theorem tv_is (a b c d x y z : Fin p) : qm (qm (a * x + b, c * x + d) (a * y + b, c * y + d)) (a * z + b, c * z + d) = tv a b c d (x + y + z) (x * y + x * z + y * z) (x * y * z) := q_ext (by simp only [qm, tv]; grind -lia (ringSteps := 100000)) (by simp only [qm, tv]; grind -lia (ringSteps := 100000))
/-- What one line gives at the other's points is, but for i and conjugation, what that gives at the first one's. -/
theorem recip (m n k l x y z X Y Z : Fin p) (s1 : x + y + z = m * m) (s2 : x * y + x * z + y * z = 1 - 2 * (m * n)) (s3 : x * y * z = n * n) (t1 : X + Y + Z = k * k) (t2 : X * Y + X * Z + Y * Z = 1 - 2 * (k * l)) (t3 : X * Y * Z = l * l) :
    tv k (- l) m n (x + y + z) (x * y + x * z + y * z) (x * y * z) = ((tv m (- n) k l (X + Y + Z) (X * Y + X * Z + Y * Z) (X * Y * Z)).2, (tv m (- n) k l (X + Y + Z) (X * Y + X * Z + Y * Z) (X * Y * Z)).1) := by
  rw [s1, s2, s3, t1, t2, t3]
  exact q_ext (by simp only [tv]; grind -lia (ringSteps := 100000)) (by simp only [tv]; grind -lia (ringSteps := 100000))
end
end Rg
end Go.Proofs.Ytjmbgchoioepjaa
end
section
namespace Go.Proofs.Ytjmbgchoioepjaa
open Go.RowKit
namespace Rg
open NT
section
variable {p : Nat} [NeZero p]
def cj (a : Q2 p) : Q2 p := (a.1, - a.2)
def Un (a : Q2 p) : Prop := qm a (cj a) = (1, 0)
theorem cj_qm (a b : Q2 p) : cj (qm a b) = qm (cj a) (cj b) := q_ext (by simp only [cj, qm]; grind -lia) (by simp only [cj, qm]; grind -lia)
theorem Un.one : Un ((1, 0) : Q2 p) := q_ext (by simp only [cj, qm]; grind -lia) (by simp only [cj, qm]; grind -lia)
theorem Un.mul {a b : Q2 p} (ha : Un a) (hb : Un b) : Un (qm a b) := by
  unfold Un at *
  rw [cj_qm, qm_four, ha, hb, qm_one]
theorem Un.inv {a : Q2 p} (ha : Un a) : Un (cj a) := by
  unfold Un at *
  have : cj (cj a) = a := q_ext rfl (by simp only [cj]; grind -lia)
  rw [this, qm_comm]
  exact ha
theorem Un.cancel {w a b : Q2 p} (hw : Un w) (h : qm w a = qm w b) : a = b := by
  unfold Un at hw
  have e : qm (qm w (cj w)) a = qm (qm w (cj w)) b := by rw [qm_comm w, qm_assoc, qm_assoc, h]
  rw [hw, one_qm, one_qm] at e
  exact e
theorem Un.pow {a : Q2 p} (ha : Un a) : ∀ n, Un (qp a n)
  | 0 => Un.one
  | n + 1 => (Un.pow ha n).mul ha
/-- The power p - 1. -/
def kp (u : Q2 p) : Q2 p := qp u (p - 1)
theorem kp_mul (a b : Q2 p) : kp (qm a b) = qm (kp a) (kp b) := qp_qm a b _
theorem kp_sc (F : Fd p) {x : Fin p} (hx : x ≠ 0) (a : Q2 p) : kp (qs x a) = kp a := by
  have e : qs x a = qm (x, 0) a := q_ext (by simp only [qs, qm]; grind -lia) (by simp only [qs, qm]; grind -lia)
  unfold kp
  rw [e, qp_qm, qp_scal F hx, one_qm]
theorem kp_un (F : Fd p) {u : Q2 p} (hu : u ≠ (0, 0)) : Un (kp u) := by
  have h1 := F.pr.lo
  have e1 : cj (kp u) = qp u ((p - 1) * p) := by rw [← qp_mul, qp_p F]; rfl
  have e2 : qm u (qm (kp u) (cj (kp u))) = qm u (1, 0) := by
    rw [e1, qm_one]
    unfold kp
    rw [← qp_add, qm_comm, ← qp, show ((p - 1) + (p - 1) * p).succ = p * p by
      obtain ⟨q, rfl⟩ : ∃ q, p = q + 1 := ⟨p - 1, by omega⟩
      simp only [Nat.add_sub_cancel]
      rw [Nat.succ_eq_add_one]
      rw [Nat.mul_add, Nat.add_mul, Nat.mul_one, Nat.one_mul, Nat.mul_add, Nat.mul_one]
      omega, ← qp_mul, qp_p F, qp_p F]
    exact q_ext rfl (by simp only; grind -lia)
  exact qm_cancel F hu e2
/-- What has norm 1 gives 1 to the power p + 1. -/
theorem Un.whole (F : Fd p) {a : Q2 p} (ha : Un a) : qp a (p + 1) = (1, 0) := by
  rw [qp_add, qp_p F, qp_one, qm_comm]
  exact ha
theorem qm_swap {P Q T U V : Q2 p} (e : qm U V = qm P T) : qm (qm P Q) T = qm (qm U Q) V := by
  rw [qm_assoc, qm_comm Q T, ← qm_assoc, ← e, qm_assoc, qm_comm V Q, ← qm_assoc]
/-- A symmetric cocycle on a set of points that is closed under the sum. -/
structure Coc (S : P3 → Prop) (h : P3 → P3 → Q2 p) : Prop where
  on : ∀ a, S a → On p a
  add : ∀ a b, S a → S b → S (dA p a b)
  un : ∀ a b, S a → S b → Un (h a b)
  sym : ∀ a b, S a → S b → h a b = h b a
  coc : ∀ a b c, S a → S b → S c → qm (h a b) (h (dA p a b) c) = qm (h b c) (h a (dA p b c))
  zl : ∀ a, S a → h (0, 0, true) a = (1, 0)
theorem Coc.four (F : Fd p) {S : P3 → Prop} {h : P3 → P3 → Q2 p} (C : Coc S h) {a b A B : P3} (ha : S a) (hb : S b) (hA : S A) (hB : S B) :
    qm (qm (h a b) (h (dA p a b) (dA p A B))) (h A B) = qm (qm (h a A) (h b B)) (h (dA p a A) (dA p b B)) := by
  have e1 := C.coc a b (dA p A B) ha hb (C.add _ _ hA hB)
  have e2 := C.coc b A B hb hA hB
  have e3 := C.coc a A (dA p b B) ha hA (C.add _ _ hb hB)
  have e4 := C.coc A b B hA hb hB
  have f1 : dA p A (dA p b B) = dA p b (dA p A B) := by
    rw [← dA_assoc F (C.on _ hA) (C.on _ hb) (C.on _ hB), dA_comm F (C.on _ hA) (C.on _ hb), dA_assoc F (C.on _ hb) (C.on _ hA) (C.on _ hB)]
  have f2 : dA p b A = dA p A b := dA_comm F (C.on _ hb) (C.on _ hA)
  rw [C.sym b A hb hA, f2] at e2
  rw [f1] at e3
  rw [e1, qm_assoc, qm_comm (h a (dA p b (dA p A B))), ← qm_assoc, qm_comm (h b (dA p A B)), ← e2, e4]
  rw [qm_comm (h b B) (h A (dA p b B))]
  exact qm_swap e3
/-- The product along the multiples. -/
def fr (h : P3 → P3 → Q2 p) (a : P3) : Nat → Q2 p
  | 0 => (1, 0)
  | n + 1 => qm (fr h a n) (h (dN p a n) a)
theorem dN_S {S : P3 → Prop} {h : P3 → P3 → Q2 p} (C : Coc S h) (h0 : S (0, 0, true)) {a : P3} (ha : S a) : ∀ n, S (dN p a n)
  | 0 => h0
  | n + 1 => C.add _ _ (dN_S C h0 ha n) ha
theorem dN_sum (F : Fd p) {a b : P3} (ha : On p a) (hb : On p b) : ∀ n, dN p (dA p a b) n = dA p (dN p a n) (dN p b n)
  | 0 => (dA_zl _).symm
  | n + 1 => by
    have oa := dN_on F ha n
    have ob := dN_on F hb n
    rw [dN, dN, dN, dN_sum F ha hb n, dA_assoc F oa ob (on_add F.pr F.prm ha hb), ← dA_assoc F ob ha hb, dA_comm F ob ha, dA_assoc F ha ob hb, ← dA_assoc F oa ha (on_add F.pr F.prm ob hb)]
/-- The product along the multiples of a sum. -/
theorem fr_sum (F : Fd p) {S : P3 → Prop} {h : P3 → P3 → Q2 p} (C : Coc S h) (h0 : S (0, 0, true)) {a b : P3} (ha : S a) (hb : S b) : ∀ n, qm (fr h (dA p a b) n) (qp (h a b) n) = qm (qm (fr h a n) (fr h b n)) (h (dN p a n) (dN p b n))
  | 0 => by
    show qm (1, 0) (1, 0) = qm (qm (1, 0) (1, 0)) (h (0, 0, true) (0, 0, true))
    rw [C.zl _ h0, qm_one, qm_one]
  | n + 1 => by
    have e := fr_sum F C h0 ha hb n
    have g := C.four F (dN_S C h0 ha n) (dN_S C h0 hb n) ha hb
    rw [fr, qp, fr, fr, qm_four, e, dN_sum F (C.on _ ha) (C.on _ hb), qm_assoc (qm (fr h a n) (fr h b n)), ← qm_assoc (h (dN p a n) (dN p b n)), g, dN, dN, ← qm_assoc, qm_four]
end
end Rg
end Go.Proofs.Ytjmbgchoioepjaa
end
section
namespace Go.Proofs.Ytjmbgchoioepjaa
open Go.RowKit
namespace Rg
open NT
section
variable {p : Nat} [NeZero p]
/-- The line of two points at the turned point of X, Y; 1 where it is vertical. -/
def hr (X Y : Fin p) (a b : P3) : Q2 p := if a.2.2 = true ∨ b.2.2 = true ∨ (dA p a b).2.2 = true then (1, 0) else (ph p (dS p a b) * (X + ph p a.1) - ph p a.2.1, Y)
theorem hr_f {X Y : Fin p} {a b : P3} (ha : a.2.2 = false) (hb : b.2.2 = false) (h : (dA p a b).2.2 = false) : hr X Y a b = (ph p (dS p a b) * (X + ph p a.1) - ph p a.2.1, Y) := by
  unfold hr
  rw [if_neg (by rw [ha, hb, h]; decide)]
theorem hr_ne (F : Fd p) {X Y : Fin p} (hY : Y ≠ 0) (a b : P3) : hr X Y a b ≠ (0, 0) := by
  unfold hr
  split
  · intro e
    have e1 : (1 : Fin p) = 0 := congrArg Prod.fst e
    have := congrArg Fin.val e1
    have h1 := one_lt F.pr
    rw [show (1 : Fin p).val = 1 % p from rfl, Nat.mod_eq_of_lt h1, show (0 : Fin p).val = 0 from Nat.zero_mod p] at this
    cases this
  · intro e
    exact hY (congrArg Prod.snd e)
omit [NeZero p] in
theorem not_neg {a b : P3} (ha : a.2.2 = false) (hb : b.2.2 = false) (h : (dA p a b).2.2 = false) : ¬ a = (b.1, mi p 0 b.2.1, b.2.2) := fun e => by
  rw [dA_neg ha hb e] at h
  cases h
theorem x_of_ne (F : Fd p) {a b : P3} (ha : On p a) (hb : On p b) (za : a.2.2 = false) (zb : b.2.2 = false) (h : (dA p a b).2.2 = false) (hn : a ≠ b) : ph p a.1 ≠ ph p b.1 := fun e => by
  rcases same_X F ha hb za zb (ph_inj ha.lt.x hb.lt.x e) with h1 | h1
  · exact hn h1
  · rw [h1] at h
    cases h
theorem hr_sym (F : Fd p) (X Y : Fin p) {a b : P3} (ha : On p a) (hb : On p b) : hr X Y a b = hr X Y b a := by
  by_cases hn : a = b
  · rw [hn]
  · by_cases h : a.2.2 = true ∨ b.2.2 = true ∨ (dA p a b).2.2 = true
    · have h' : b.2.2 = true ∨ a.2.2 = true ∨ (dA p b a).2.2 = true := by
        rw [dA_comm F hb ha]
        rcases h with h | h | h
        · exact .inr (.inl h)
        · exact .inl h
        · exact .inr (.inr h)
      unfold hr
      rw [if_pos h, if_pos h']
    · have za : a.2.2 = false := by simpa using fun k => h (.inl k)
      have zb : b.2.2 = false := by simpa using fun k => h (.inr (.inl k))
      have zd : (dA p a b).2.2 = false := by simpa using fun k => h (.inr (.inr k))
      have zd' : (dA p b a).2.2 = false := by rw [dA_comm F hb ha]; exact zd
      obtain ⟨_, h1, _⟩ := slope_of F.pr F.prm ha hb za zb (not_neg za zb zd)
      obtain ⟨_, h2, _⟩ := slope_of F.pr F.prm hb ha zb za (not_neg zb za zd')
      have hx := x_of_ne F ha hb za zb zd hn
      rw [hr_f za zb zd, hr_f zb za zd']
      generalize ph p (dS p a b) = m at *
      generalize ph p (dS p b a) = k at *
      generalize ph p a.1 = x1 at *
      generalize ph p b.1 = x2 at *
      generalize ph p a.2.1 = y1 at *
      generalize ph p b.2.1 = y2 at *
      have e : (x2 - x1) * (m - k) = 0 := by
        clear hx
        grind -lia
      rcases fp_mul F.prm e with e | e
      · exact absurd (sub0 e).symm hx
      · have e := sub0 e
        subst e
        refine q_ext ?_ rfl
        clear hx
        simp only
        grind -lia
theorem l_up {X x1 y1 x4 y4 m : Fin p} (f4 : y4 = m * (x1 - x4) - y1) : m * (X + x1) - y1 = m * (X + x4) + y4 := by grind -lia
theorem l_dn {X x1 y1 x5 y5 l : Fin p} (hE : y5 = y1 + l * (x5 - x1)) : l * (X + x1) - y1 = l * (X + x5) - y5 := by grind -lia
/-- Three points in general position. -/
structure Gen (p : Nat) [NeZero p] (a b c : P3) : Prop where
  za : a.2.2 = false
  zb : b.2.2 = false
  zc : c.2.2 = false
  zd : (dA p a b).2.2 = false
  ze : (dA p b c).2.2 = false
  zs : (dA p (dA p a b) c).2.2 = false
  d12 : ph p a.1 ≠ ph p b.1
  d23 : ph p b.1 ≠ ph p c.1
  d13 : ph p a.1 ≠ ph p c.1
  d14 : ph p a.1 ≠ ph p (dA p a b).1
  d24 : ph p b.1 ≠ ph p (dA p a b).1
  d34 : ph p c.1 ≠ ph p (dA p a b).1
  d15 : ph p a.1 ≠ ph p (dA p b c).1
  d25 : ph p b.1 ≠ ph p (dA p b c).1
  d35 : ph p c.1 ≠ ph p (dA p b c).1
end
end Rg
end Go.Proofs.Ytjmbgchoioepjaa
end
