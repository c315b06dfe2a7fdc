/- Texts of the proof, joined. -/
import Derived.Test.YtaomlijondiaoaaGreatDoorP2
set_option maxRecDepth 100000
section
namespace Go.Proofs.YtaomlijondiaoaaGreatDoor
open Go.RowKit
namespace Rg
theorem ex_shl {ρ : Operand → Value} {o : Oper} {x y : Operand} {a : Int} {k : Nat} {w : World} (ho : o.op = .binOp .shl 22 x y 3) (hx : ρ x = .int .u64 a) (hy : ρ y = .int .i64 ((k : Nat) : Int)) (hk : k ≤ 64) :
  (execOp ρ o).run Tryz.prog w = .ok (.value (.int .u64 (IntKind.u64.wrap (a * 2 ^ k)))) w := by
 simp only [execOp, ho, hx, hy]
 clear ho hx hy
 go_simp
theorem ex_shr {ρ : Operand → Value} {o : Oper} {x y : Operand} {a : Int} {k : Nat} {w : World} (ho : o.op = .binOp .shr 22 x y 3) (hx : ρ x = .int .u64 a) (hy : ρ y = .int .i64 ((k : Nat) : Int)) (hk : k ≤ 64) :
  (execOp ρ o).run Tryz.prog w = .ok (.value (.int .u64 (a / 2 ^ k))) w := by
 simp only [execOp, ho, hx, hy]
 clear ho hx hy
 go_simp
theorem ex_or {ρ : Operand → Value} {o : Oper} {x y : Operand} {a b : Int} {w : World} (ho : o.op = .binOp .or 22 x y 22) (hx : ρ x = .int .u64 a) (hy : ρ y = .int .u64 b) :
  (execOp ρ o).run Tryz.prog w = .ok (.value (.int .u64 (bits .or .u64 a b))) w := by
 simp only [execOp, ho, hx, hy]
 clear ho hx hy
 go_simp
set_option maxHeartbeats 400000 in
theorem guessM_any (h l t : Nat) (hl : l < 18446744073709551616) (ht : t < 18446744073709551616) (w : World) :
  Calls Tryz.prog 178 #[.int .u64 h, .int .u64 l, .int .u64 t] w (Rt w (.int .u64 ((gs h l t : Nat) : Int))) := by
 unfold gs
 by_cases c : t ≤ h
 ·rw [if_pos c]
  clear hl ht
  go_enter Tryz.func178, Tryz.ntmps178
  go_wp2
  go_ret
  exact ⟨rfl, Below.refl _ _⟩
 ·rw [if_neg c]
  have hc := fun w => div64_any h l t (by omega) ht hl w
  generalize (h * 18446744073709551616 + l) / t = q at hc ⊢
  have HC : Hid _ := hc
  clear hc hl ht
  go_enter Tryz.func178, Tryz.ntmps178
  go_wp2_with (go_at_call 181; refine (HC.out _).mono ?_; rintro e w' ⟨rr, rfl, hb⟩)
  go_ret
  obtain ⟨k, rfl⟩ := hb
  exact ⟨rfl, below_drewN (Below.refl _ _) k⟩
abbrev lec (b : Nat) (f : Nat → Int) : List Value := [.int .u64 (wd b 0), .int .u64 (wd b 1), .int .u64 (wd b 2), .int .u64 (wd b 3), .int .u64 (wd b 4), .int .u64 (wd b 5), .int .u64 (f 0), .int .u64 (f 1), .int .u64 (f 2), .int .u64 (f 3), .int .u64 (f 4), .int .u64 (f 5)]
theorem lec_hi {b : Nat} {f : Nat → Int} {j : Nat} (hj : j < 6) : (lec b f)[6 + j]? = some (.int .u64 (f j)) := by
 match j, hj with
 | 0, _ => rfl
 | 1, _ => rfl
 | 2, _ => rfl
 | 3, _ => rfl
 | 4, _ => rfl
 | 5, _ => rfl
theorem lec_lo {b : Nat} {f : Nat → Int} {j : Nat} (hj : j < 6) : (lec b f)[0 + j]? = some (.int .u64 (wd b j)) := by
 match j, hj with
 | 0, _ => rfl
 | 1, _ => rfl
 | 2, _ => rfl
 | 3, _ => rfl
 | 4, _ => rfl
 | 5, _ => rfl
theorem lec_put {b : Nat} {f : Nat → Int} {j : Nat} {v : Int} (hj : j < 6) : patch (lec b f) (6 + j) [.int .u64 v] = lec b (upd f j v) := by
 match j, hj with
 | 0, _ => rfl
 | 1, _ => rfl
 | 2, _ => rfl
 | 3, _ => rfl
 | 4, _ => rfl
 | 5, _ => rfl
theorem lec_bd {b : Nat} {f : Nat → Int} {j : Nat} (hj : j < 6) : 6 + j < (lec b f).length := by
 show 6 + j < 12
 omega
theorem lec_congr {b : Nat} {f g : Nat → Int} (h : ∀ j, j < 6 → f j = g j) : lec b f = lec b g := by
 unfold lec
 rw [h 0 (by decide), h 1 (by decide), h 2 (by decide), h 3 (by decide), h 4 (by decide), h 5 (by decide)]
/-! Words of a number that is shifted by at most a word. -/
theorem sh_bits (a n k : Nat) (hn : n ≤ 64) : ((a >>> (64 * (k + 1)) % 2 ^ 64) <<< n) % 2 ^ 64 ||| (a >>> (64 * k) % 2 ^ 64) >>> (64 - n) = (a <<< n) >>> (64 * (k + 1)) % 2 ^ 64 := by
 apply Nat.eq_of_testBit_eq
 intro i
 simp only [Nat.testBit_or, Nat.testBit_mod_two_pow, Nat.testBit_shiftLeft, Nat.testBit_shiftRight]
 by_cases hi : i < 64
 ·have e1 : n ≤ 64 * (k + 1) + i := by omega
  by_cases ht : n ≤ i
  ·have e2 : 64 * (k + 1) + (i - n) = 64 * (k + 1) + i - n := by omega
   have e3 : i - n < 64 := by omega
   have e4 : ¬ 64 - n + i < 64 := by omega
   simp [hi, ht, e1, e2, e3, e4]
  ·have e4 : 64 - n + i < 64 := by omega
   have e5 : 64 * k + (64 - n + i) = 64 * (k + 1) + i - n := by omega
   simp [hi, ht, e1, e4, e5]
 ·have e4 : ¬ 64 - n + i < 64 := by omega
  simp [hi, e4]
theorem sh_word (a n k : Nat) (hn : n ≤ 64) : bits .or .u64 (IntKind.u64.wrap (wd a (k + 1) * 2 ^ n)) (wd a k / 2 ^ (64 - n)) = wd (a * 2 ^ n) (k + 1) := by
 rw [wd_shr, wrap_shl, wd_shr, div_shr, wd_shr, ← Nat.shiftLeft_eq, ← sh_bits a n k hn]
 refine bits_or_u64_nat _ _ (Nat.mod_lt _ (by decide)) ?_
 rw [Nat.shiftRight_eq_div_pow]
 exact Nat.lt_of_le_of_lt (Nat.div_le_self _ _) (Nat.mod_lt _ (by decide))
theorem sh_low (a n : Nat) : IntKind.u64.wrap (wd a 0 * 2 ^ n) = wd (a * 2 ^ n) 0 := by
 rw [wd_shr, wrap_shl, wd_shr, Nat.mul_zero, Nat.shiftRight_zero, Nat.shiftRight_zero, Nat.shiftLeft_eq, Nat.mod_mul_mod]
theorem wd_last (a j : Nat) (h : a < 2 ^ (64 * (j + 1))) : wd a j = ((a / 2 ^ (64 * j) : Nat) : Int) := by
 unfold wd
 rw [Nat.mod_eq_of_lt]
 rw [Nat.div_lt_iff_lt_mul (pow_pos' j), Nat.mul_comm, ← pow_step]
 exact h
theorem sh_topj (a n j : Nat) (ha : a < 2 ^ (64 * (j + 1))) (hn : n ≤ 64) : wd a j / 2 ^ (64 - n) = ((a * 2 ^ n / 2 ^ (64 * (j + 1)) : Nat) : Int) := by
 rw [wd_last a j ha, div_shr, Nat.shiftRight_eq_div_pow, Nat.div_div_eq_div_mul]
 congr 1
 have hW : 18446744073709551616 = 2 ^ (64 - n) * 2 ^ n := by
  rw [← Nat.pow_add, Nat.sub_add_cancel hn]
 rw [pow_step j, hW, ← Nat.mul_assoc, Nat.mul_div_mul_right _ _ (Nat.two_pow_pos n)]
theorem big_j (j : Nat) (hj : j = 5) : big = 2 ^ (64 * (j + 1)) := by
 obtain ⟨m, hm, e⟩ := big_pow
 rw [e, show m = j + 1 by omega]
theorem sh_top (a n : Nat) (ha : a < big) (hn : n ≤ 64) : wd a 5 / 2 ^ (64 - n) = ((a * 2 ^ n / big : Nat) : Int) := by
 obtain ⟨j, hj⟩ : ∃ j, j = 5 := ⟨5, rfl⟩
 rw [big_j j hj] at ha ⊢
 rw [← hj]
 exact sh_topj a n j ha hn
def shf (a n k m : Nat) : Int := if 5 - k < m then wd (a * 2 ^ n) m else wd a m
theorem shf_at {a n k m b : Nat} (hm : m ≤ 5 - k) (h6 : m < 6) : (lec b (shf a n k))[6 + m]? = some (.int .u64 (wd a m)) := by
 rw [lec_hi h6]
 unfold shf
 rw [if_neg (by omega)]
theorem shf_step {a n k b : Nat} {v : Int} (hk : k < 5) (h : v = wd (a * 2 ^ n) (5 - k)) : lec b (upd (shf a n k) (5 - k) v) = lec b (shf a n (k + 1)) := lec_congr fun j _ => by
 unfold upd shf
 by_cases h1 : j = 5 - k
 ·subst h1; rw [if_pos rfl, if_pos (by omega), h]
 ·rw [if_neg h1]
  by_cases h2 : 5 - k < j
  ·rw [if_pos h2, if_pos (by omega)]
  ·rw [if_neg h2, if_neg (by omega)]
theorem shf_start (a n b : Nat) : lec b (wd a) = lec b (shf a n 0) := lec_congr fun j hj => by
 unfold shf
 rw [if_neg (by omega)]
theorem lec_put0 {b : Nat} {f : Nat → Int} {v : Int} : patch (lec b f) 6 [.int .u64 v] = lec b (upd f 0 v) := rfl
theorem shf_end (a n b : Nat) : lec b (upd (shf a n 5) 0 (IntKind.u64.wrap (wd a 0 * 2 ^ n))) = lec b (wd (a * 2 ^ n % big)) := lec_congr fun j hj => by
 rw [wd_mod _ _ hj]
 unfold upd shf
 by_cases h1 : j = 0
 ·subst h1; rw [if_pos rfl, sh_low]
 ·rw [if_neg h1, if_pos (by omega)]
set_option maxHeartbeats 1000000 in
theorem shift_gen (g b L i : Nat) (hi : i ≤ 64) (w : World) (hm : Mm w [(g, lec b (wd L))]) :
  Calls Tryz.prog 176 #[PT g 0, .int .i64 ((i : Nat) : Int)] w fun e w' => e = .returned (.int .u64 (wd L 5 / 2 ^ (64 - i))) ∧ Mm w' [(g, lec b (wd (L * 2 ^ i % big)))] ∧ Kp g w w' := by
 have H0 : Hid (_ ∧ _) := ⟨hm, Kp.refl g w⟩
 clear hm
 go_enter Tryz.func176, Tryz.ntmps176
 refine wp_seq ?_
 refine zC 1 [.quiet (.int .u64 0)] (sB H0) ?ho1 ?he1
 case ho1 => exact ar trivial
 intro γ w1 l hM hl
 have H1 := zQ H0 hM.below
 clear hM hl l γ
 refine rN (wp_seq ?_)
 refine zC 1 [.quiet (.int .i64 5)] (sB H1) ?ho2 ?he2
 case ho2 => exact ar trivial
 intro γ w2 l hM hl
 have H2 := zQ H1 hM.below
 clear hM hl l H1 γ
 refine rN (wp_seq ?_)
 refine zC 10 [.quiet (PT g 0), .quiet (.int .i64 5), .quiet (PT g 0), .quiet (PT g 6), .quiet (PT g 11), .quiet (.int .u64 (wd L 5)), .quiet (.int .i64 ((i : Nat) : Int)), .quiet (.int .i64 ((64 - i : Nat) : Int)), .quiet (.int .u64 ((wd L 5) / 2 ^ (64 - i))), .quiet (.int .u64 ((wd L 5) / 2 ^ (64 - i)))] (sB H2) ?ho3 ?he3
 case ho3 => exact ar (ar (ag (ag (ag (aq (fun w' h => yG h 0 rfl rfl rfl rfl) (ar (ak (by refine fun γ => ⟨rfl, fun w' h => ?_⟩; clear h; go_simp; rw [IntKind.wrap_i64]; omega) (ak (fun γ => ⟨rfl, fun w' _ => ex_shr rfl rfl rfl (Nat.sub_le 64 i)⟩) (ar trivial)))))))))
 intro γ w3 l hM hl
 have H3 := zQ H2 hM.below
 clear hM hl l H2 γ
 refine rN (wp_seq (wp_seq ?_))
 refine zC 2 [.quiet (.int .i64 5), .quiet (.int .i64 5)] (sB H3) ?ho4 ?he4
 case ho4 => exact ar (ar trivial)
 intro γ w4 l hM hl
 have H4 := zQ H3 hM.below
 clear hM hl l H3 γ
 refine rN (wp_block ?_)
 refine loop_ghost (α := Nat) (fun k a' w' => ∃ s0 : Nat → Value, a' = ⟨#[PT g 0, .int .i64 ((i : Nat) : Int), ud, ud, .int .u64 0, .int .i64 5, .int .u64 ((wd L 5) / 2 ^ (64 - i)), .int .i64 ((5 - k : Nat) : Int), PT g 0, .int .i64 5, PT g 0, PT g 6, PT g 11, .int .u64 (wd L 5), .int .i64 ((i : Nat) : Int), .int .i64 ((64 - i : Nat) : Int), .int .u64 ((wd L 5) / 2 ^ (64 - i)), .int .i64 5, s0 18, s0 19, s0 20, s0 21, s0 22, s0 23, s0 24, s0 25, s0 26, s0 27, s0 28, s0 29, s0 30, s0 31, s0 32, s0 33, s0 34, s0 35, s0 36, s0 37, s0 38, s0 39, s0 40, s0 41, s0 42, s0 43, s0 44, s0 45, ud, ud, ud, ud, ud, ud, ud, ud, ud, ud, ud], []⟩ ∧ (Mm w' [(g, lec b (shf L i k))] ∧ Kp g w w') ∧ k ≤ 5) (fun k => 5 - k) 0 ?st0 ?rd0
 case st0 => exact ⟨(slotfn [ud, ud, ud, ud, ud, ud, ud, ud, ud, ud, ud, ud, ud, ud, ud, ud, ud, ud, ud, ud, ud, ud, ud, ud, ud, ud, ud, ud, ud, ud, ud, ud, ud, ud, ud, ud, ud, ud, ud, ud, ud, ud, ud, ud, ud, ud]), rfl, ⟨H4.out.1.at0 (shf_start L i b), H4.out.2⟩, by omega⟩
 intro k a' w5 hI
 obtain ⟨s0, rfl, hMB, hk0⟩ := hI
 have H5 : Hid (_ ∧ _) := hMB
 clear hMB H4
 by_cases hlt : k < 5
 ·have hrd : True := trivial
  clear hrd
  obtain ⟨m, hm⟩ : ∃ m, 5 - k = m + 1 := ⟨4 - k, by omega⟩
  have hm6 : m + 1 < 6 := by omega
  have hm5 : m < 6 := by omega
  have hk1 : m + 1 ≤ 5 - k := by omega
  have hk2 : m ≤ 5 - k := by omega
  refine wp_seq (wp_seq ?_)
  refine zC 2 [.quiet (.int .i64 ((5 - k : Nat) : Int)), .quiet (.bool true)] (sB H5) ?ho5 ?he5
  case ho5 => exact ar (ak (by refine fun γ => ⟨rfl, fun w' h => ?_⟩; clear h; go_simp <;> omega) trivial)
  intro γ w6 l hM hl
  have H6 := zQ H5 hM.below
  clear hM hl l H5 γ
  refine rN (wp_cond_true rfl ?_)
  refine wp_skip (zA ?_)
  refine wp_seq (wp_block ?_)
  refine walk_put (by kernel_rfl) 24 [] [.quiet (PT g 0), .quiet (.int .i64 ((5 - k : Nat) : Int)), .quiet (PT g 0), .quiet (.int .i64 ((5 - k : Nat) : Int)), .quiet (PT g 0), .quiet (PT g 6), .quiet (PT g (6 + (5 - k))), .quiet (.int .u64 (wd L (5 - k))), .quiet (.int .i64 ((i : Nat) : Int)), .quiet (.int .u64 (IntKind.u64.wrap ((wd L (5 - k)) * 2 ^ i))), .quiet (PT g 0), .quiet (.int .i64 ((5 - k : Nat) : Int)), .quiet (.int .i64 ((m : Nat) : Int)), .quiet (PT g 0), .quiet (PT g 6), .quiet (PT g (6 + m)), .quiet (.int .u64 (wd L m)), .quiet (.int .i64 ((i : Nat) : Int)), .quiet (.int .i64 ((64 - i : Nat) : Int)), .quiet (.int .u64 ((wd L m) / 2 ^ (64 - i))), .quiet (.int .u64 (bits .or .u64 (IntKind.u64.wrap ((wd L (5 - k)) * 2 ^ i)) ((wd L m) / 2 ^ (64 - i)))), .quiet (PT g 0), .quiet (PT g 6), .quiet (PT g (6 + (5 - k)))] _ ?pre6 ?F6 _ ?hpre6 (fun γ => ?hF6) (by kernel_rfl) rfl ?hL6 (sB H6) ?ho6 ?hla6 ?he6
  case hpre6 => simp only [tk, tz]; rfl
  case hF6 => simp only [fill, Kind.val, Act.put, sa, sz, ss]; rfl
  case hL6 => exact trivial
  case ho6 =>
   refine ar ?_
   refine ar ?_
   refine ar ?_
   refine ar ?_
   refine ag ?_
   refine ag ?_
   refine ak (fun γ => ⟨rfl, fun w' _ => yE rfl rfl rfl (Nat.lt_of_le_of_lt (Nat.sub_le 5 k) (by decide))⟩) ?_
   refine aq (fun w' h => yG h 0 rfl rfl rfl (shf_at (Nat.le_refl _) (Nat.lt_of_le_of_lt (Nat.sub_le 5 k) (by decide)))) ?_
   refine ar ?_
   refine ak (fun γ => ⟨rfl, fun w' _ => ex_shl rfl rfl rfl hi⟩) ?_
   refine ar ?_
   refine ar ?_
   refine ak (by refine fun γ => ⟨rfl, fun w' h => ?_⟩; clear h; go_simp; rw [IntKind.wrap_i64]; omega) ?_
   refine ag ?_
   refine ag ?_
   refine ak (fun γ => ⟨rfl, fun w' _ => yE rfl rfl rfl hm5⟩) ?_
   refine aq (fun w' h => yG h 0 rfl rfl rfl (shf_at hk2 hm5)) ?_
   refine ar ?_
   refine ak (by refine fun γ => ⟨rfl, fun w' h => ?_⟩; clear h; go_simp; rw [IntKind.wrap_i64]; omega) ?_
   refine ak (fun γ => ⟨rfl, fun w' _ => ex_shr rfl rfl rfl (Nat.sub_le 64 i)⟩) ?_
   refine ak (fun γ => ⟨rfl, fun w' _ => ex_or rfl rfl rfl⟩) ?_
   refine ag ?_
   refine ag ?_
   refine ak (fun γ => ⟨rfl, fun w' _ => yE rfl rfl rfl (Nat.lt_of_le_of_lt (Nat.sub_le 5 k) (by decide))⟩) ?_
   exact trivial
  case hla6 => exact trivial
  intro γ w7 l hM hl
  have H7 := zQ H6 hM.below
  clear hM hl l H6 γ
  refine ⟨_, ex_storeI H7.out.1 0 rfl rfl Tryz.sizeOf22 rfl rfl (lec_bd (Nat.lt_of_le_of_lt (Nat.sub_le 5 k) (by decide))), ?_⟩
  have H8 : Hid (Mm (w7.setCells g (6 + (5 - k)) [.int .u64 (bits .or .u64 (IntKind.u64.wrap ((wd L (5 - k)) * 2 ^ i)) ((wd L m) / 2 ^ (64 - i)))]) [(g, lec b (shf L i (k + 1)))] ∧ Kp g w (w7.setCells g (6 + (5 - k)) [.int .u64 (bits .or .u64 (IntKind.u64.wrap ((wd L (5 - k)) * 2 ^ i)) ((wd L m) / 2 ^ (64 - i)))])) := ⟨by
   have h := H7.out.1.put 0 (off := (6 + (5 - k))) (vs := [.int .u64 (bits .or .u64 (IntKind.u64.wrap ((wd L (5 - k)) * 2 ^ i)) ((wd L m) / 2 ^ (64 - i)))]) rfl (lec_bd (Nat.lt_of_le_of_lt (Nat.sub_le 5 k) (by decide)))
   rw [lec_put (Nat.lt_of_le_of_lt (Nat.sub_le 5 k) (by decide)), shf_step hlt (by rw [hm]; exact sh_word L i m hi)] at h
   exact h, H7.out.2.put (Or.inl rfl)⟩
  clear H7
  generalize hgw : World.setCells _ _ _ _ = w8 at H8 ⊢
  clear hgw
  refine rest0 rfl ?_
  refine zH (zA ?_)
  refine zC 2 [.quiet (.int .i64 ((5 - k : Nat) : Int)), .quiet (.int .i64 ((5 - (k + 1) : Nat) : Int))] (sB H8) ?ho7 ?he7
  case ho7 => exact ar (ak (by refine fun γ => ⟨rfl, fun w' h => ?_⟩; clear h; go_simp; rw [IntKind.wrap_i64]; omega) trivial)
  intro γ w9 l hM hl
  have H9 := zQ H8 hM.below
  clear hM hl l H8 γ
  refine zF (l := [2]) rfl ?_
  refine zG (d := 7) rfl rfl rfl rfl ?_
  simp only [Act.put, sa, sz, ss]
  refine zE (zA ?_)
  exact ⟨k + 1, ⟨(slotfn [ud, ud, ud, ud, ud, ud, ud, ud, ud, ud, ud, ud, ud, ud, ud, ud, ud, ud, .int .i64 ((5 - k : Nat) : Int), .bool true, .int .i64 ((5 - k : Nat) : Int), .int .i64 ((5 - (k + 1) : Nat) : Int), PT g 0, .int .i64 ((5 - k : Nat) : Int), PT g 0, .int .i64 ((5 - k : Nat) : Int), PT g 0, PT g 6, PT g (6 + (5 - k)), .int .u64 (wd L (5 - k)), .int .i64 ((i : Nat) : Int), .int .u64 (IntKind.u64.wrap ((wd L (5 - k)) * 2 ^ i)), PT g 0, .int .i64 ((5 - k : Nat) : Int), .int .i64 ((m : Nat) : Int), PT g 0, PT g 6, PT g (6 + m), .int .u64 (wd L m), .int .i64 ((i : Nat) : Int), .int .i64 ((64 - i : Nat) : Int), .int .u64 ((wd L m) / 2 ^ (64 - i)), .int .u64 (bits .or .u64 (IntKind.u64.wrap ((wd L (5 - k)) * 2 ^ i)) ((wd L m) / 2 ^ (64 - i))), PT g 0, PT g 6, PT g (6 + (5 - k))]), rfl, ⟨H9.out.1, H9.out.2⟩, by omega⟩, by omega⟩
 have hk5 : k = 5 := by omega
 subst hk5
 refine wp_seq (wp_seq ?_)
 refine zC 2 [.quiet (.int .i64 ((5 - 5 : Nat) : Int)), .quiet (.bool false)] (sB H5) ?ho8 ?he8
 case ho8 => exact ar (ak (by refine fun γ => ⟨rfl, fun w' h => ?_⟩; clear h; go_simp <;> omega) trivial)
 intro γ w10 l hM hl
 have H10 := zQ H5 hM.below
 clear hM hl l H5 γ
 refine rN (wp_cond_false rfl ?_)
 refine wp_exit ?_
 repeat refine zY ?_
 refine zT ?_
 refine zA (wp_seq ?_)
 refine walk_put (by kernel_rfl) 10 [] [.quiet (PT g 0), .quiet (PT g 0), .quiet (PT g 6), .quiet (PT g 6), .quiet (.int .u64 (wd L 0)), .quiet (.int .i64 ((i : Nat) : Int)), .quiet (.int .u64 (IntKind.u64.wrap ((wd L 0) * 2 ^ i))), .quiet (PT g 0), .quiet (PT g 6), .quiet (PT g 6)] _ ?pre9 ?F9 _ ?hpre9 (fun γ => ?hF9) (by kernel_rfl) rfl trivial (sB H10) ?ho9 ?hla9 ?he9
 case hpre9 => simp only [tk, tz]; rfl
 case hF9 => simp only [fill, Kind.val, Act.put, sa, sz, ss]; rfl
 case ho9 =>
  refine ar ?_
  refine ag ?_
  refine ag ?_
  refine ag ?_
  refine aq (fun w' h => yG h 0 rfl rfl rfl rfl) ?_
  refine ar ?_
  refine ak (fun γ => ⟨rfl, fun w' _ => ex_shl rfl rfl rfl hi⟩) ?_
  refine ag ?_
  refine ag ?_
  refine ag ?_
  exact trivial
 case hla9 => exact trivial
 intro γ w11 l hM hl
 have H11 := zQ H10 hM.below
 clear hM hl l H10 γ
 refine ⟨_, ex_storeI H11.out.1 0 rfl rfl Tryz.sizeOf22 rfl rfl (Nat.le_of_ble_eq_true rfl), ?_⟩
 have H12 : Hid (Mm (w11.setCells g 6 [.int .u64 (IntKind.u64.wrap ((wd L 0) * 2 ^ i))]) [(g, lec b (wd (L * 2 ^ i % big)))] ∧ Kp g w (w11.setCells g 6 [.int .u64 (IntKind.u64.wrap ((wd L 0) * 2 ^ i))])) := ⟨by
  have h := H11.out.1.put 0 (off := 6) (vs := [.int .u64 (IntKind.u64.wrap ((wd L 0) * 2 ^ i))]) rfl (Nat.le_of_ble_eq_true rfl)
  rw [lec_put0, shf_end] at h
  exact h, H11.out.2.put (Or.inl rfl)⟩
 clear H11
 generalize hgw : World.setCells _ _ _ _ = w12 at H12 ⊢
 clear hgw
 refine rN (wp_seq ?_)
 refine zC 2 [.quiet (.int .u64 ((wd L 5) / 2 ^ (64 - i))), .quiet (.int .u64 ((wd L 5) / 2 ^ (64 - i)))] (sB H12) ?ho10 ?he10
 case ho10 => exact ar (ar trivial)
 intro γ w13 l hM hl
 have H13 := zQ H12 hM.below
 clear hM hl l H12 γ
 refine rN (wp_ret ?_)
 repeat (first | refine zM ?_ | refine zI ?_)
 refine bodyPost_ret (v := .int .u64 ((wd L 5) / 2 ^ (64 - i))) (by simp [results, Tryz.results176, go_sem, *]) rfl ?_
 exact ⟨rfl, H13.out.1.one 0 rfl, H13.out.2⟩
theorem shiftL_any (g b L i : Nat) (hi : i ≤ 64) (hL : L < big) (w : World) (hm : Mm w [(g, lec b (wd L))]) :
  Calls Tryz.prog 176 #[PT g 0, .int .i64 ((i : Nat) : Int)] w fun e w' => e = .returned (.int .u64 ((L * 2 ^ i / big : Nat) : Int)) ∧ Mm w' [(g, lec b (wd (L * 2 ^ i % big)))] ∧ Kp g w w' := by
 have h := shift_gen g b L i hi w hm
 rw [sh_top L i hL hi] at h
 exact h
theorem call71 : ∀ args w, (callFunc 71 args).run Tryz.prog w = .ok (.enter 71 args) w := by intro args w; go_simp
theorem call128 : ∀ args w, (callFunc 128 args).run Tryz.prog w = .ok (.enter 128 args) w := by intro args w; go_simp
theorem call37 : ∀ args w, (callFunc 37 args).run Tryz.prog w = .ok (.enter 37 args) w := by intro args w; go_simp
theorem okLt {n : Nat} (ok : Ok n) (x : Nat) : x % n < big := Nat.lt_trans (Nat.mod_lt _ ok.pos) ok.big
theorem pow_is (k : Nat) (h : k = 64 * 6) : 2 ^ k = big := by subst h; exact big_eq.symm
theorem call126 : ∀ args w, (callFunc 126 args).run Tryz.prog w = .ok (.enter 126 args) w := by intro args w; go_simp
theorem call83 : ∀ args w, (callFunc 83 args).run Tryz.prog w = .ok (.enter 83 args) w := by intro args w; go_simp
theorem call84 : ∀ args w, (callFunc 84 args).run Tryz.prog w = .ok (.enter 84 args) w := by intro args w; go_simp
theorem call133 : ∀ args w, (callFunc 133 args).run Tryz.prog w = .ok (.enter 133 args) w := by intro args w; go_simp
theorem call125 : ∀ args w, (callFunc 125 args).run Tryz.prog w = .ok (.enter 125 args) w := by intro args w; go_simp
theorem n_gen (g n o s  : Nat)
  (c0 : ∀ w, Mm w [(g, zZ n o s)] → Calls Tryz.prog 125 #[PT g 0] w (Rt w (.bool true))) (w : World) (hm : Mm w [(g, zZ n o s)]) :
  Calls Tryz.prog 179 #[PT g 0] w (Rt w (N n)) := by
 have H0 : Hid (_ ∧ _) := ⟨hm, Below.refl w.heap.size w⟩
 clear hm
 have C0 : Hid _ := c0
 clear c0
 go_enter Tryz.func179, Tryz.ntmps179
 refine wp_seq ?_
 refine zC 1 [.made zero6 24] (sB H0) ?ho1 ?he1
 case ho1 => exact am (zJ rfl) trivial
 intro γ w1 l hM hl
 have M1 : Mm w1 [(γ 0, zero6), (g, zZ n o s)] := H0.out.1.grow hM (Nat.le_refl _) hl [0] rfl (by decide)
 have B1 : Below w.heap.size w w1 := H0.out.2.trans ((hM.below).mono H0.out.2.size)
 have o1_0 : Hid (w.heap.size ≤ γ 0) := Nat.le_trans H0.out.2.size (hM.fin (Nat.le_refl _) hl (i := 0) rfl).2.1
 clear hM hl l
 generalize γ 0 = γ1_0 at M1 o1_0 ⊢
 clear γ
 have H1 : Hid (_ ∧ _) := ⟨M1, B1⟩
 clear M1 B1
 refine rN (wp_seq (wp_seq ?_))
 refine zC 3 [.quiet (PT g 0), .call (.bool true), .quiet (.bool false)] (sB H1) ?ho2 ?he2
 case ho2 => exact ar (ac (fun w' h => eC call125 (C0.out w' (h.one 1 rfl))) (ag trivial))
 intro γ w2 l hM hl
 have M2 : Mm w2 [(γ1_0, zero6), (g, zZ n o s)] := H1.out.1.grow hM (Nat.le_refl _) hl [] rfl (by decide)
 have B2 : Below w.heap.size w w2 := H1.out.2.trans ((hM.below).mono H1.out.2.size)
 clear hM hl l H1
 clear γ
 have H2 : Hid (_ ∧ _) := ⟨M2, B2⟩
 clear M2 B2
 refine rN (wp_cond_false rfl ?_)
 refine wp_skip (zA (wp_seq ?_))
 refine zC 4 [.quiet (PT g 0), .quiet (PT g 0), .quiet (PT g 0), .quiet (N n)] (sB H2) ?ho3 ?he3
 case ho3 => exact ar (ag (ag (bN 1 trivial)))
 intro γ w3 l hM hl
 have M3 : Mm w3 [(γ1_0, zero6), (g, zZ n o s)] := H2.out.1.grow hM (Nat.le_refl _) hl [] rfl (by decide)
 have B3 : Below w.heap.size w w3 := H2.out.2.trans ((hM.below).mono H2.out.2.size)
 clear hM hl l H2
 clear γ
 have H3 : Hid (_ ∧ _) := ⟨M3, B3⟩
 clear M3 B3
 refine zF (l := [4]) rfl ?_
 refine sG rfl (fun h => zO h 0 rfl rfl rfl rfl (Nat.le_of_ble_eq_true rfl)) 0 [(_, zD n), _] H3 o1_0 fun w4 H4 => ?_
 clear H3
 refine zE (zA (wp_ret ?_))
 repeat (first | refine zM ?_ | refine zI ?_)
 have c0 := H4.out.1.get 0 rfl 0 rfl
 have c1 := H4.out.1.get 0 rfl 1 rfl
 have c2 := H4.out.1.get 0 rfl 2 rfl
 have c3 := H4.out.1.get 0 rfl 3 rfl
 have c4 := H4.out.1.get 0 rfl 4 rfl
 have c5 := H4.out.1.get 0 rfl 5 rfl
 refine bodyPost_ret (v := N n) (by simp [results, Tryz.results179, go_sem, *]) rfl ?_
 exact ⟨rfl, H4.out.2⟩
theorem reduce_1 (g n o s a : Nat)
  (c0 : ∀ w, Mm w [(g, zZ n o s)] → Calls Tryz.prog 125 #[PT g 0] w (Rt w (.bool true)))
  (c1 : ∀ w, Calls Tryz.prog 133 #[N a, N n] w (Rt w (.int .i64 (-1)))) (w : World) (hm : Mm w [(g, zZ n o s)]) :
  Calls Tryz.prog 126 #[PT g 0, N a] w (Rt w (N a)) := by
 have H0 : Hid (_ ∧ _) := ⟨hm, Below.refl w.heap.size w⟩
 clear hm
 have C0 : Hid _ := c0
 have C1 : Hid _ := c1
 clear c0 c1
 go_enter Tryz.func126, Tryz.ntmps126
 refine wp_seq ?_
 refine zC 2 [.made (zD a) 24, .made zero6 24] (sB H0) ?ho1 ?he1
 case ho1 => exact am (yF rfl rfl) (am (zJ rfl) trivial)
 intro γ w1 l hM hl
 have M1 : Mm w1 [(γ 0, zD a), (γ 1, zero6), (g, zZ n o s)] := H0.out.1.grow hM (Nat.le_refl _) hl [0, 1] rfl (by decide)
 have B1 : Below w.heap.size w w1 := H0.out.2.trans ((hM.below).mono H0.out.2.size)
 have o1_0 : Hid (w.heap.size ≤ γ 0) := Nat.le_trans H0.out.2.size (hM.fin (Nat.le_refl _) hl (i := 0) rfl).2.1
 have o1_1 : Hid (w.heap.size ≤ γ 1) := Nat.le_trans H0.out.2.size (hM.fin (Nat.le_refl _) hl (i := 1) rfl).2.1
 clear hM hl l
 generalize γ 0 = γ1_0 at M1 o1_0 ⊢
 generalize γ 1 = γ1_1 at M1 o1_1 ⊢
 clear γ
 have H1 : Hid (_ ∧ _) := ⟨M1, B1⟩
 clear M1 B1
 refine rN (wp_seq (wp_seq ?_))
 refine zC 3 [.quiet (PT g 0), .call (.bool true), .quiet (.bool false)] (sB H1) ?ho2 ?he2
 case ho2 => exact ar (ac (fun w' h => eC call125 (C0.out w' (h.one 2 rfl))) (ag trivial))
 intro γ w2 l hM hl
 have M2 : Mm w2 [(γ1_0, zD a), (γ1_1, zero6), (g, zZ n o s)] := H1.out.1.grow hM (Nat.le_refl _) hl [] rfl (by decide)
 have B2 : Below w.heap.size w w2 := H1.out.2.trans ((hM.below).mono H1.out.2.size)
 clear hM hl l H1
 clear γ
 have H2 : Hid (_ ∧ _) := ⟨M2, B2⟩
 clear M2 B2
 refine rN (wp_cond_false rfl ?_)
 refine wp_skip (zA ?_)
 refine wp_seq (wp_seq ?_)
 refine zS 7 [.quiet (N a), .quiet (PT g 0), .quiet (PT g 0), .quiet (PT g 0), .quiet (N n), .call (.int .i64 (-1)), .quiet (.bool true)] (sB H2) ?ho3 ?he3
 case ho3 => exact bN 0 (ar (ag (ag (bN 2 (ac (fun w' h => eC call133 (C1.out w')) (ag trivial))))))
 intro γ w3 l hM hl
 have M3 : Mm w3 [(γ1_0, zD a), (γ1_1, zero6), (g, zZ n o s)] := H2.out.1.grow hM (Nat.le_refl _) hl [] rfl (by decide)
 have B3 : Below w.heap.size w w3 := H2.out.2.trans ((hM.below).mono H2.out.2.size)
 clear hM hl l H2
 clear γ
 have H3 : Hid (_ ∧ _) := ⟨M3, B3⟩
 clear M3 B3
 refine rN (wp_cond_true rfl (wp_seq ?_))
 refine zC 1 [.quiet (N a)] (sB H3) ?ho4 ?he4
 case ho4 => exact bN 0 trivial
 intro γ w4 l hM hl
 have M4 : Mm w4 [(γ1_0, zD a), (γ1_1, zero6), (g, zZ n o s)] := H3.out.1.grow hM (Nat.le_refl _) hl [] rfl (by decide)
 have B4 : Below w.heap.size w w4 := H3.out.2.trans ((hM.below).mono H3.out.2.size)
 clear hM hl l H3
 clear γ
 have H4 : Hid (_ ∧ _) := ⟨M4, B4⟩
 clear M4 B4
 refine zF (l := [1]) rfl ?_
 refine sG rfl (fun h => zO h 1 rfl rfl rfl rfl (Nat.le_of_ble_eq_true rfl)) 1 [_, (_, zD a), _] H4 o1_1 fun w5 H5 => ?_
 clear H4
 refine zE (zA (wp_ret ?_))
 repeat (first | refine zM ?_ | refine zI ?_)
 have c0 := H5.out.1.get 1 rfl 0 rfl
 have c1 := H5.out.1.get 1 rfl 1 rfl
 have c2 := H5.out.1.get 1 rfl 2 rfl
 have c3 := H5.out.1.get 1 rfl 3 rfl
 have c4 := H5.out.1.get 1 rfl 4 rfl
 have c5 := H5.out.1.get 1 rfl 5 rfl
 refine bodyPost_ret (v := N a) (by simp [results, Tryz.results126, go_sem, *]) rfl ?_
 exact ⟨rfl, H5.out.2⟩
theorem reduce_2 (g n o s a r : Nat) (c : Int) (hc : ¬ c < 0)
  (c0 : ∀ w, Mm w [(g, zZ n o s)] → Calls Tryz.prog 125 #[PT g 0] w (Rt w (.bool true)))
  (c1 : ∀ w, Calls Tryz.prog 133 #[N a, N n] w (Rt w (.int .i64 c)))
  (c2 : ∀ w, Calls Tryz.prog 127 #[N a, N n] w (Rt w (.tuple #[N r, .bool false])))
  (c3 : ∀ w, Calls Tryz.prog 133 #[N r, N n] w (Rt w (.int .i64 (-1)))) (w : World) (hm : Mm w [(g, zZ n o s)]) :
  Calls Tryz.prog 126 #[PT g 0, N a] w (Rt w (N r)) := by
 have H0 : Hid (_ ∧ _) := ⟨hm, Below.refl w.heap.size w⟩
 clear hm
 have C0 : Hid _ := c0
 have C1 : Hid _ := c1
 have C2 : Hid _ := c2
 have C3 : Hid _ := c3
 clear c0 c1 c2 c3
 go_enter Tryz.func126, Tryz.ntmps126
 refine wp_seq ?_
 refine zC 2 [.made (zD a) 24, .made zero6 24] (sB H0) ?ho1 ?he1
 case ho1 => exact am (yF rfl rfl) (am (zJ rfl) trivial)
 intro γ w1 l hM hl
 have M1 : Mm w1 [(γ 0, zD a), (γ 1, zero6), (g, zZ n o s)] := H0.out.1.grow hM (Nat.le_refl _) hl [0, 1] rfl (by decide)
 have B1 : Below w.heap.size w w1 := H0.out.2.trans ((hM.below).mono H0.out.2.size)
 have o1_0 : Hid (w.heap.size ≤ γ 0) := Nat.le_trans H0.out.2.size (hM.fin (Nat.le_refl _) hl (i := 0) rfl).2.1
 have o1_1 : Hid (w.heap.size ≤ γ 1) := Nat.le_trans H0.out.2.size (hM.fin (Nat.le_refl _) hl (i := 1) rfl).2.1
 clear hM hl l
 generalize γ 0 = γ1_0 at M1 o1_0 ⊢
 generalize γ 1 = γ1_1 at M1 o1_1 ⊢
 clear γ
 have H1 : Hid (_ ∧ _) := ⟨M1, B1⟩
 clear M1 B1
 refine rN (wp_seq (wp_seq ?_))
 refine zC 3 [.quiet (PT g 0), .call (.bool true), .quiet (.bool false)] (sB H1) ?ho2 ?he2
 case ho2 => exact ar (ac (fun w' h => eC call125 (C0.out w' (h.one 2 rfl))) (ag trivial))
 intro γ w2 l hM hl
 have M2 : Mm w2 [(γ1_0, zD a), (γ1_1, zero6), (g, zZ n o s)] := H1.out.1.grow hM (Nat.le_refl _) hl [] rfl (by decide)
 have B2 : Below w.heap.size w w2 := H1.out.2.trans ((hM.below).mono H1.out.2.size)
 clear hM hl l H1
 clear γ
 have H2 : Hid (_ ∧ _) := ⟨M2, B2⟩
 clear M2 B2
 refine rN (wp_cond_false rfl ?_)
 refine wp_skip (zA ?_)
 refine wp_seq (wp_seq ?_)
 refine zS 7 [.quiet (N a), .quiet (PT g 0), .quiet (PT g 0), .quiet (PT g 0), .quiet (N n), .call (.int .i64 c), .quiet (.bool false)] (sB H2) ?ho3 ?he3
 case ho3 => exact bN 0 (ar (ag (ag (bN 2 (ac (fun w' h => eC call133 (C1.out w')) (ag trivial))))))
 intro γ w3 l hM hl
 have M3 : Mm w3 [(γ1_0, zD a), (γ1_1, zero6), (g, zZ n o s)] := H2.out.1.grow hM (Nat.le_refl _) hl [] rfl (by decide)
 have B3 : Below w.heap.size w w3 := H2.out.2.trans ((hM.below).mono H2.out.2.size)
 clear hM hl l H2
 clear γ
 have H3 : Hid (_ ∧ _) := ⟨M3, B3⟩
 clear M3 B3
 refine rN (wp_cond_false rfl ?_)
 refine wp_skip (zA (wp_seq ?_))
 refine zS 12 [.quiet (N a), .quiet (PT g 0), .quiet (PT g 0), .quiet (PT g 0), .quiet (N n), .call (.tuple #[N r, .bool false]), .quiet (.tuple #[N r, .bool false]), .quiet (N r), .quiet (.bool false), .made zero6 24, .laid 9 zero6 (zD r), .quiet (.bool false)] (sB H3) ?ho4 ?he4 (hL := ?hL4)
 case hL4 => exact ⟨⟨_, rfl⟩, trivial⟩
 case ho4 => exact bN 0 (ar (ag (ag (bN 2 (ac (fun w' h => eC call127 (C2.out w')) (ar (ag (ag (am (zJ rfl) (ak (fun γ => ⟨rfl, rfl, rfl, fun w' h => zN h rfl rfl rfl⟩) (ar trivial)))))))))))
 intro γ w4 l hM hl
 have M4 : Mm w4 [(γ 9, zD r), (γ1_0, zD a), (γ1_1, zero6), (g, zZ n o s)] := H3.out.1.grow hM (Nat.le_refl _) hl [9] rfl (by decide)
 have B4 : Below w.heap.size w w4 := H3.out.2.trans ((hM.below).mono H3.out.2.size)
 have o4_9 : Hid (w.heap.size ≤ γ 9) := Nat.le_trans H3.out.2.size (hM.fin (Nat.le_refl _) hl (i := 9) rfl).2.1
 clear hM hl l H3
 generalize γ 9 = γ4_9 at M4 o4_9 ⊢
 clear γ
 have H4 : Hid (_ ∧ _) := ⟨M4, B4⟩
 clear M4 B4
 refine rN (wp_seq (wp_seq ?_))
 refine zS 7 [.quiet (N r), .quiet (PT g 0), .quiet (PT g 0), .quiet (PT g 0), .quiet (N n), .call (.int .i64 (-1)), .quiet (.bool true)] (sB H4) ?ho5 ?he5
 case ho5 => exact bN 0 (ar (ag (ag (bN 3 (ac (fun w' h => eC call133 (C3.out w')) (ag trivial))))))
 intro γ w5 l hM hl
 have M5 : Mm w5 [(γ4_9, zD r), (γ1_0, zD a), (γ1_1, zero6), (g, zZ n o s)] := H4.out.1.grow hM (Nat.le_refl _) hl [] rfl (by decide)
 have B5 : Below w.heap.size w w5 := H4.out.2.trans ((hM.below).mono H4.out.2.size)
 clear hM hl l H4
 clear γ
 have H5 : Hid (_ ∧ _) := ⟨M5, B5⟩
 clear M5 B5
 refine rN (wp_cond_true rfl (wp_seq ?_))
 refine zC 1 [.quiet (N r)] (sB H5) ?ho6 ?he6
 case ho6 => exact bN 0 trivial
 intro γ w6 l hM hl
 have M6 : Mm w6 [(γ4_9, zD r), (γ1_0, zD a), (γ1_1, zero6), (g, zZ n o s)] := H5.out.1.grow hM (Nat.le_refl _) hl [] rfl (by decide)
 have B6 : Below w.heap.size w w6 := H5.out.2.trans ((hM.below).mono H5.out.2.size)
 clear hM hl l H5
 clear γ
 have H6 : Hid (_ ∧ _) := ⟨M6, B6⟩
 clear M6 B6
 refine zF (l := [1]) rfl ?_
 refine sG rfl (fun h => zO h 2 rfl rfl rfl rfl (Nat.le_of_ble_eq_true rfl)) 2 [_, _, (_, zD r), _] H6 o1_1 fun w7 H7 => ?_
 clear H6
 refine zE (zA (wp_ret ?_))
 repeat (first | refine zM ?_ | refine zI ?_)
 have c0 := H7.out.1.get 2 rfl 0 rfl
 have c1 := H7.out.1.get 2 rfl 1 rfl
 have c2 := H7.out.1.get 2 rfl 2 rfl
 have c3 := H7.out.1.get 2 rfl 3 rfl
 have c4 := H7.out.1.get 2 rfl 4 rfl
 have c5 := H7.out.1.get 2 rfl 5 rfl
 refine bodyPost_ret (v := N r) (by simp [results, Tryz.results126, go_sem, *]) rfl ?_
 exact ⟨rfl, H7.out.2⟩
theorem reduce_3 (g n o s a r x : Nat) (c d : Int) (hc : ¬ c < 0) (hd : ¬ d < 0)
  (c0 : ∀ w, Mm w [(g, zZ n o s)] → Calls Tryz.prog 125 #[PT g 0] w (Rt w (.bool true)))
  (c1 : ∀ w, Calls Tryz.prog 133 #[N a, N n] w (Rt w (.int .i64 c)))
  (c2 : ∀ w, Calls Tryz.prog 127 #[N a, N n] w (Rt w (.tuple #[N r, .bool false])))
  (c3 : ∀ w, Calls Tryz.prog 133 #[N r, N n] w (Rt w (.int .i64 d)))
  (c4 : ∀ w, Mm w [(g, zZ n o s)] → Calls Tryz.prog 128 #[PT g 0, N r, N o] w (Rt w (N x))) (w : World) (hm : Mm w [(g, zZ n o s)]) :
  Calls Tryz.prog 126 #[PT g 0, N a] w (Rt w (N x)) := by
 have H0 : Hid (_ ∧ _) := ⟨hm, Below.refl w.heap.size w⟩
 clear hm
 have C0 : Hid _ := c0
 have C1 : Hid _ := c1
 have C2 : Hid _ := c2
 have C3 : Hid _ := c3
 have C4 : Hid _ := c4
 clear c0 c1 c2 c3 c4
 go_enter Tryz.func126, Tryz.ntmps126
 refine wp_seq ?_
 refine zC 2 [.made (zD a) 24, .made zero6 24] (sB H0) ?ho1 ?he1
 case ho1 => exact am (yF rfl rfl) (am (zJ rfl) trivial)
 intro γ w1 l hM hl
 have M1 : Mm w1 [(γ 0, zD a), (γ 1, zero6), (g, zZ n o s)] := H0.out.1.grow hM (Nat.le_refl _) hl [0, 1] rfl (by decide)
 have B1 : Below w.heap.size w w1 := H0.out.2.trans ((hM.below).mono H0.out.2.size)
 have o1_0 : Hid (w.heap.size ≤ γ 0) := Nat.le_trans H0.out.2.size (hM.fin (Nat.le_refl _) hl (i := 0) rfl).2.1
 have o1_1 : Hid (w.heap.size ≤ γ 1) := Nat.le_trans H0.out.2.size (hM.fin (Nat.le_refl _) hl (i := 1) rfl).2.1
 clear hM hl l
 generalize γ 0 = γ1_0 at M1 o1_0 ⊢
 generalize γ 1 = γ1_1 at M1 o1_1 ⊢
 clear γ
 have H1 : Hid (_ ∧ _) := ⟨M1, B1⟩
 clear M1 B1
 refine rN (wp_seq (wp_seq ?_))
 refine zC 3 [.quiet (PT g 0), .call (.bool true), .quiet (.bool false)] (sB H1) ?ho2 ?he2
 case ho2 => exact ar (ac (fun w' h => eC call125 (C0.out w' (h.one 2 rfl))) (ag trivial))
 intro γ w2 l hM hl
 have M2 : Mm w2 [(γ1_0, zD a), (γ1_1, zero6), (g, zZ n o s)] := H1.out.1.grow hM (Nat.le_refl _) hl [] rfl (by decide)
 have B2 : Below w.heap.size w w2 := H1.out.2.trans ((hM.below).mono H1.out.2.size)
 clear hM hl l H1
 clear γ
 have H2 : Hid (_ ∧ _) := ⟨M2, B2⟩
 clear M2 B2
 refine rN (wp_cond_false rfl ?_)
 refine wp_skip (zA ?_)
 refine wp_seq (wp_seq ?_)
 refine zS 7 [.quiet (N a), .quiet (PT g 0), .quiet (PT g 0), .quiet (PT g 0), .quiet (N n), .call (.int .i64 c), .quiet (.bool false)] (sB H2) ?ho3 ?he3
 case ho3 => exact bN 0 (ar (ag (ag (bN 2 (ac (fun w' h => eC call133 (C1.out w')) (ag trivial))))))
 intro γ w3 l hM hl
 have M3 : Mm w3 [(γ1_0, zD a), (γ1_1, zero6), (g, zZ n o s)] := H2.out.1.grow hM (Nat.le_refl _) hl [] rfl (by decide)
 have B3 : Below w.heap.size w w3 := H2.out.2.trans ((hM.below).mono H2.out.2.size)
 clear hM hl l H2
 clear γ
 have H3 : Hid (_ ∧ _) := ⟨M3, B3⟩
 clear M3 B3
 refine rN (wp_cond_false rfl ?_)
 refine wp_skip (zA (wp_seq ?_))
 refine zS 12 [.quiet (N a), .quiet (PT g 0), .quiet (PT g 0), .quiet (PT g 0), .quiet (N n), .call (.tuple #[N r, .bool false]), .quiet (.tuple #[N r, .bool false]), .quiet (N r), .quiet (.bool false), .made zero6 24, .laid 9 zero6 (zD r), .quiet (.bool false)] (sB H3) ?ho4 ?he4 (hL := ?hL4)
 case hL4 => exact ⟨⟨_, rfl⟩, trivial⟩
 case ho4 => exact bN 0 (ar (ag (ag (bN 2 (ac (fun w' h => eC call127 (C2.out w')) (ar (ag (ag (am (zJ rfl) (ak (fun γ => ⟨rfl, rfl, rfl, fun w' h => zN h rfl rfl rfl⟩) (ar trivial)))))))))))
 intro γ w4 l hM hl
 have M4 : Mm w4 [(γ 9, zD r), (γ1_0, zD a), (γ1_1, zero6), (g, zZ n o s)] := H3.out.1.grow hM (Nat.le_refl _) hl [9] rfl (by decide)
 have B4 : Below w.heap.size w w4 := H3.out.2.trans ((hM.below).mono H3.out.2.size)
 have o4_9 : Hid (w.heap.size ≤ γ 9) := Nat.le_trans H3.out.2.size (hM.fin (Nat.le_refl _) hl (i := 9) rfl).2.1
 clear hM hl l H3
 generalize γ 9 = γ4_9 at M4 o4_9 ⊢
 clear γ
 have H4 : Hid (_ ∧ _) := ⟨M4, B4⟩
 clear M4 B4
 refine rN (wp_seq (wp_seq ?_))
 refine zS 7 [.quiet (N r), .quiet (PT g 0), .quiet (PT g 0), .quiet (PT g 0), .quiet (N n), .call (.int .i64 d), .quiet (.bool false)] (sB H4) ?ho5 ?he5
 case ho5 => exact bN 0 (ar (ag (ag (bN 3 (ac (fun w' h => eC call133 (C3.out w')) (ag trivial))))))
 intro γ w5 l hM hl
 have M5 : Mm w5 [(γ4_9, zD r), (γ1_0, zD a), (γ1_1, zero6), (g, zZ n o s)] := H4.out.1.grow hM (Nat.le_refl _) hl [] rfl (by decide)
 have B5 : Below w.heap.size w w5 := H4.out.2.trans ((hM.below).mono H4.out.2.size)
 clear hM hl l H4
 clear γ
 have H5 : Hid (_ ∧ _) := ⟨M5, B5⟩
 clear M5 B5
 refine rN (wp_cond_false rfl ?_)
 refine wp_skip (zA (wp_seq ?_))
 refine zS 7 [.quiet (PT g 0), .quiet (N r), .quiet (PT g 0), .quiet (PT g 0), .quiet (PT g 7), .quiet (N o), .call (N x)] (sB H5) ?ho6 ?he6
 case ho6 => exact ar (bN 0 (ar (ag (ag (bN 3 (ac (fun w' h => eC call128 (C4.out w' (h.one 3 rfl))) trivial))))))
 intro γ w6 l hM hl
 have M6 : Mm w6 [(γ4_9, zD r), (γ1_0, zD a), (γ1_1, zero6), (g, zZ n o s)] := H5.out.1.grow hM (Nat.le_refl _) hl [] rfl (by decide)
 have B6 : Below w.heap.size w w6 := H5.out.2.trans ((hM.below).mono H5.out.2.size)
 clear hM hl l H5
 clear γ
 have H6 : Hid (_ ∧ _) := ⟨M6, B6⟩
 clear M6 B6
 refine zF (l := [7]) rfl ?_
 refine sG rfl (fun h => zO h 2 rfl rfl rfl rfl (Nat.le_of_ble_eq_true rfl)) 2 [_, _, (_, zD x), _] H6 o1_1 fun w7 H7 => ?_
 clear H6
 refine zE (zA (wp_ret ?_))
 repeat (first | refine zM ?_ | refine zI ?_)
 have c0 := H7.out.1.get 2 rfl 0 rfl
 have c1 := H7.out.1.get 2 rfl 1 rfl
 have c2 := H7.out.1.get 2 rfl 2 rfl
 have c3 := H7.out.1.get 2 rfl 3 rfl
 have c4 := H7.out.1.get 2 rfl 4 rfl
 have c5 := H7.out.1.get 2 rfl 5 rfl
 refine bodyPost_ret (v := N x) (by simp [results, Tryz.results126, go_sem, *]) rfl ?_
 exact ⟨rfl, H7.out.2⟩
theorem add_1 (g n o s a b u r : Nat)
  (c0 : ∀ w, Mm w [(g, zZ n o s)] → Calls Tryz.prog 125 #[PT g 0] w (Rt w (.bool true)))
  (c1 : ∀ w, Calls Tryz.prog 37 #[N a, N b] w (Rt w (.tuple #[N u, .bool false])))
  (c2 : ∀ w, Mm w [(g, zZ n o s)] → Calls Tryz.prog 126 #[PT g 0, N u] w (Rt w (N r))) (w : World) (hm : Mm w [(g, zZ n o s)]) :
  Calls Tryz.prog 83 #[PT g 0, N a, N b] w (Rt w (N r)) := by
 have H0 : Hid (_ ∧ _) := ⟨hm, Below.refl w.heap.size w⟩
 clear hm
 have C0 : Hid _ := c0
 have C1 : Hid _ := c1
 have C2 : Hid _ := c2
 clear c0 c1 c2
 go_enter Tryz.func83, Tryz.ntmps83
 refine wp_seq ?_
 refine zC 3 [.made (zD a) 24, .made (zD b) 24, .made zero6 24] (sB H0) ?ho1 ?he1
 case ho1 => exact am (yF rfl rfl) (am (yF rfl rfl) (am (zJ rfl) trivial))
 intro γ w1 l hM hl
 have M1 : Mm w1 [(γ 0, zD a), (γ 1, zD b), (γ 2, zero6), (g, zZ n o s)] := H0.out.1.grow hM (Nat.le_refl _) hl [0, 1, 2] rfl (by decide)
 have B1 : Below w.heap.size w w1 := H0.out.2.trans ((hM.below).mono H0.out.2.size)
 have o1_0 : Hid (w.heap.size ≤ γ 0) := Nat.le_trans H0.out.2.size (hM.fin (Nat.le_refl _) hl (i := 0) rfl).2.1
 have o1_1 : Hid (w.heap.size ≤ γ 1) := Nat.le_trans H0.out.2.size (hM.fin (Nat.le_refl _) hl (i := 1) rfl).2.1
 have o1_2 : Hid (w.heap.size ≤ γ 2) := Nat.le_trans H0.out.2.size (hM.fin (Nat.le_refl _) hl (i := 2) rfl).2.1
 clear hM hl l
 generalize γ 0 = γ1_0 at M1 o1_0 ⊢
 generalize γ 1 = γ1_1 at M1 o1_1 ⊢
 generalize γ 2 = γ1_2 at M1 o1_2 ⊢
 clear γ
 have H1 : Hid (_ ∧ _) := ⟨M1, B1⟩
 clear M1 B1
 refine rN (wp_seq (wp_seq ?_))
 refine zC 3 [.quiet (PT g 0), .call (.bool true), .quiet (.bool false)] (sB H1) ?ho2 ?he2
 case ho2 => exact ar (ac (fun w' h => eC call125 (C0.out w' (h.one 3 rfl))) (ag trivial))
 intro γ w2 l hM hl
 have M2 : Mm w2 [(γ1_0, zD a), (γ1_1, zD b), (γ1_2, zero6), (g, zZ n o s)] := H1.out.1.grow hM (Nat.le_refl _) hl [] rfl (by decide)
 have B2 : Below w.heap.size w w2 := H1.out.2.trans ((hM.below).mono H1.out.2.size)
 clear hM hl l H1
 clear γ
 have H2 : Hid (_ ∧ _) := ⟨M2, B2⟩
 clear M2 B2
 refine rN (wp_cond_false rfl ?_)
 refine wp_skip (zA (wp_seq ?_))
 refine zC 9 [.quiet (N a), .quiet (N b), .call (.tuple #[N u, .bool false]), .quiet (.tuple #[N u, .bool false]), .quiet (N u), .quiet (.bool false), .made zero6 24, .laid 6 zero6 (zD u), .quiet (.bool false)] (sB H2) ?ho3 ?he3 (hL := ?hL3)
 case hL3 => exact ⟨⟨_, rfl⟩, trivial⟩
 case ho3 => exact bN 0 (bN 1 (ac (fun w' h => eC call37 (C1.out w')) (ar (ag (ag (am (zJ rfl) (ak (fun γ => ⟨rfl, rfl, rfl, fun w' h => zN h rfl rfl rfl⟩) (ar trivial))))))))
 intro γ w3 l hM hl
 have M3 : Mm w3 [(γ 6, zD u), (γ1_0, zD a), (γ1_1, zD b), (γ1_2, zero6), (g, zZ n o s)] := H2.out.1.grow hM (Nat.le_refl _) hl [6] rfl (by decide)
 have B3 : Below w.heap.size w w3 := H2.out.2.trans ((hM.below).mono H2.out.2.size)
 have o3_6 : Hid (w.heap.size ≤ γ 6) := Nat.le_trans H2.out.2.size (hM.fin (Nat.le_refl _) hl (i := 6) rfl).2.1
 clear hM hl l H2
 generalize γ 6 = γ3_6 at M3 o3_6 ⊢
 clear γ
 have H3 : Hid (_ ∧ _) := ⟨M3, B3⟩
 clear M3 B3
 refine rN (wp_seq (wp_seq ?_))
 refine zC 1 [.quiet (.bool false)] (sB H3) ?ho4 ?he4
 case ho4 => exact ar trivial
 intro γ w4 l hM hl
 have M4 : Mm w4 [(γ3_6, zD u), (γ1_0, zD a), (γ1_1, zD b), (γ1_2, zero6), (g, zZ n o s)] := H3.out.1.grow hM (Nat.le_refl _) hl [] rfl (by decide)
 have B4 : Below w.heap.size w w4 := H3.out.2.trans ((hM.below).mono H3.out.2.size)
 clear hM hl l H3
 clear γ
 have H4 : Hid (_ ∧ _) := ⟨M4, B4⟩
 clear M4 B4
 refine rN (wp_cond_false rfl ?_)
 refine wp_skip (zA (wp_seq ?_))
 refine zC 3 [.quiet (PT g 0), .quiet (N u), .call (N r)] (sB H4) ?ho5 ?he5
 case ho5 => exact ar (bN 0 (ac (fun w' h => eC call126 (C2.out w' (h.one 4 rfl))) trivial))
 intro γ w5 l hM hl
 have M5 : Mm w5 [(γ3_6, zD u), (γ1_0, zD a), (γ1_1, zD b), (γ1_2, zero6), (g, zZ n o s)] := H4.out.1.grow hM (Nat.le_refl _) hl [] rfl (by decide)
 have B5 : Below w.heap.size w w5 := H4.out.2.trans ((hM.below).mono H4.out.2.size)
 clear hM hl l H4
 clear γ
 have H5 : Hid (_ ∧ _) := ⟨M5, B5⟩
 clear M5 B5
 refine zF (l := [3]) rfl ?_
 refine sG rfl (fun h => zO h 3 rfl rfl rfl rfl (Nat.le_of_ble_eq_true rfl)) 3 [_, _, _, (_, zD r), _] H5 o1_2 fun w6 H6 => ?_
 clear H5
 refine zE (zA (wp_ret ?_))
 repeat (first | refine zM ?_ | refine zI ?_)
 have c0 := H6.out.1.get 3 rfl 0 rfl
 have c1 := H6.out.1.get 3 rfl 1 rfl
 have c2 := H6.out.1.get 3 rfl 2 rfl
 have c3 := H6.out.1.get 3 rfl 3 rfl
 have c4 := H6.out.1.get 3 rfl 4 rfl
 have c5 := H6.out.1.get 3 rfl 5 rfl
 refine bodyPost_ret (v := N r) (by simp [results, Tryz.results83, go_sem, *]) rfl ?_
 exact ⟨rfl, H6.out.2⟩
theorem add_2 (g n o s a b u x y v r : Nat)
  (c0 : ∀ w, Mm w [(g, zZ n o s)] → Calls Tryz.prog 125 #[PT g 0] w (Rt w (.bool true)))
  (c1 : ∀ w, Calls Tryz.prog 37 #[N a, N b] w (Rt w (.tuple #[N u, .bool true])))
  (c2 : ∀ w, Mm w [(g, zZ n o s)] → Calls Tryz.prog 126 #[PT g 0, N a] w (Rt w (N x)))
  (c3 : ∀ w, Mm w [(g, zZ n o s)] → Calls Tryz.prog 126 #[PT g 0, N b] w (Rt w (N y)))
  (c4 : ∀ w, Calls Tryz.prog 37 #[N x, N y] w (Rt w (.tuple #[N v, .bool false])))
  (c5 : ∀ w, Mm w [(g, zZ n o s)] → Calls Tryz.prog 126 #[PT g 0, N v] w (Rt w (N r))) (w : World) (hm : Mm w [(g, zZ n o s)]) :
  Calls Tryz.prog 83 #[PT g 0, N a, N b] w (Rt w (N r)) := by
 have H0 : Hid (_ ∧ _) := ⟨hm, Below.refl w.heap.size w⟩
 clear hm
 have C0 : Hid _ := c0
 have C1 : Hid _ := c1
 have C2 : Hid _ := c2
 have C3 : Hid _ := c3
 have C4 : Hid _ := c4
 have C5 : Hid _ := c5
 clear c0 c1 c2 c3 c4 c5
 go_enter Tryz.func83, Tryz.ntmps83
 refine wp_seq ?_
 refine zC 3 [.made (zD a) 24, .made (zD b) 24, .made zero6 24] (sB H0) ?ho1 ?he1
 case ho1 => exact am (yF rfl rfl) (am (yF rfl rfl) (am (zJ rfl) trivial))
 intro γ w1 l hM hl
 have M1 : Mm w1 [(γ 0, zD a), (γ 1, zD b), (γ 2, zero6), (g, zZ n o s)] := H0.out.1.grow hM (Nat.le_refl _) hl [0, 1, 2] rfl (by decide)
 have B1 : Below w.heap.size w w1 := H0.out.2.trans ((hM.below).mono H0.out.2.size)
 have o1_0 : Hid (w.heap.size ≤ γ 0) := Nat.le_trans H0.out.2.size (hM.fin (Nat.le_refl _) hl (i := 0) rfl).2.1
 have o1_1 : Hid (w.heap.size ≤ γ 1) := Nat.le_trans H0.out.2.size (hM.fin (Nat.le_refl _) hl (i := 1) rfl).2.1
 have o1_2 : Hid (w.heap.size ≤ γ 2) := Nat.le_trans H0.out.2.size (hM.fin (Nat.le_refl _) hl (i := 2) rfl).2.1
 clear hM hl l
 generalize γ 0 = γ1_0 at M1 o1_0 ⊢
 generalize γ 1 = γ1_1 at M1 o1_1 ⊢
 generalize γ 2 = γ1_2 at M1 o1_2 ⊢
 clear γ
 have H1 : Hid (_ ∧ _) := ⟨M1, B1⟩
 clear M1 B1
 refine rN (wp_seq (wp_seq ?_))
 refine zC 3 [.quiet (PT g 0), .call (.bool true), .quiet (.bool false)] (sB H1) ?ho2 ?he2
 case ho2 => exact ar (ac (fun w' h => eC call125 (C0.out w' (h.one 3 rfl))) (ag trivial))
 intro γ w2 l hM hl
 have M2 : Mm w2 [(γ1_0, zD a), (γ1_1, zD b), (γ1_2, zero6), (g, zZ n o s)] := H1.out.1.grow hM (Nat.le_refl _) hl [] rfl (by decide)
 have B2 : Below w.heap.size w w2 := H1.out.2.trans ((hM.below).mono H1.out.2.size)
 clear hM hl l H1
 clear γ
 have H2 : Hid (_ ∧ _) := ⟨M2, B2⟩
 clear M2 B2
 refine rN (wp_cond_false rfl ?_)
 refine wp_skip (zA (wp_seq ?_))
 refine zC 9 [.quiet (N a), .quiet (N b), .call (.tuple #[N u, .bool true]), .quiet (.tuple #[N u, .bool true]), .quiet (N u), .quiet (.bool true), .made zero6 24, .laid 6 zero6 (zD u), .quiet (.bool true)] (sB H2) ?ho3 ?he3 (hL := ?hL3)
 case hL3 => exact ⟨⟨_, rfl⟩, trivial⟩
 case ho3 => exact bN 0 (bN 1 (ac (fun w' h => eC call37 (C1.out w')) (ar (ag (ag (am (zJ rfl) (ak (fun γ => ⟨rfl, rfl, rfl, fun w' h => zN h rfl rfl rfl⟩) (ar trivial))))))))
 intro γ w3 l hM hl
 have M3 : Mm w3 [(γ 6, zD u), (γ1_0, zD a), (γ1_1, zD b), (γ1_2, zero6), (g, zZ n o s)] := H2.out.1.grow hM (Nat.le_refl _) hl [6] rfl (by decide)
 have B3 : Below w.heap.size w w3 := H2.out.2.trans ((hM.below).mono H2.out.2.size)
 have o3_6 : Hid (w.heap.size ≤ γ 6) := Nat.le_trans H2.out.2.size (hM.fin (Nat.le_refl _) hl (i := 6) rfl).2.1
 clear hM hl l H2
 generalize γ 6 = γ3_6 at M3 o3_6 ⊢
 clear γ
 have H3 : Hid (_ ∧ _) := ⟨M3, B3⟩
 clear M3 B3
 refine rN (wp_seq (wp_seq ?_))
 refine zC 1 [.quiet (.bool true)] (sB H3) ?ho4 ?he4
 case ho4 => exact ar trivial
 intro γ w4 l hM hl
 have M4 : Mm w4 [(γ3_6, zD u), (γ1_0, zD a), (γ1_1, zD b), (γ1_2, zero6), (g, zZ n o s)] := H3.out.1.grow hM (Nat.le_refl _) hl [] rfl (by decide)
 have B4 : Below w.heap.size w w4 := H3.out.2.trans ((hM.below).mono H3.out.2.size)
 clear hM hl l H3
 clear γ
 have H4 : Hid (_ ∧ _) := ⟨M4, B4⟩
 clear M4 B4
 refine rN (wp_cond_true rfl ?_)
 refine walk_put (by kernel_rfl) 10 [9] [.quiet (PT g 0), .quiet (N a), .call (N x), .quiet (PT g 0), .quiet (N b), .call (N y), .call (.tuple #[N v, .bool false]), .quiet (.tuple #[N v, .bool false]), .quiet (N v), .quiet (.bool false)] _ ?pre5 ?F5 _ ?hpre5 (fun γ => ?hF5) (by kernel_rfl) rfl trivial (sB H4) ?ho5 ?hla5 ?he5
 case hpre5 => simp only [tk, tz]; rfl
 case hF5 => simp only [fill, Kind.val, Act.put, sa, sz, ss]; rfl
 case ho5 =>
  refine ar ?_
  refine bN 1 ?_
  refine ak (fun γ => ⟨rfl, fun w' h => eC call126 (C2.out w' (h.one 4 rfl))⟩) ?_
  refine ar ?_
  refine bN 2 ?_
  refine ak (fun γ => ⟨rfl, fun w' h => eC call126 (C3.out w' (h.one 4 rfl))⟩) ?_
  refine ak (fun γ => ⟨rfl, fun w' h => eC call37 (C4.out w')⟩) ?_
  refine ar ?_
  refine ag ?_
  refine ag ?_
  exact trivial
 case hla5 => exact ⟨⟨_, _, rfl, rfl, fun γ => ⟨rfl, fun w' => by go_simp⟩⟩, trivial⟩
 intro γ w5 l hM hl
 have M5 : Mm w5 [(γ3_6, zD u), (γ1_0, zD a), (γ1_1, zD b), (γ1_2, zero6), (g, zZ n o s)] := H4.out.1.grow hM (Nat.le_refl _) hl [] rfl (by decide)
 have B5 : Below w.heap.size w w5 := H4.out.2.trans ((hM.below).mono H4.out.2.size)
 clear hM hl l H4
 clear γ
 have H5 : Hid (_ ∧ _) := ⟨M5, B5⟩
 clear M5 B5
 refine ⟨_, zO H5.out.1 0 rfl rfl rfl rfl (Nat.le_of_ble_eq_true rfl), ?_⟩
 have H6 : Hid (Mm (w5.setCells γ3_6 0 (zD v)) [(γ3_6, zD v), (γ1_0, zD a), (γ1_1, zD b), (γ1_2, zero6), (g, zZ n o s)] ∧ Below w.heap.size w (w5.setCells γ3_6 0 (zD v))) := ⟨H5.out.1.put 0 (off := 0) (vs := zD v) rfl (Nat.le_of_ble_eq_true rfl), yA _ o3_6.out _ _ _ H5.out.2⟩
 clear H5
 generalize hgw : World.setCells _ _ _ _ = w6 at H6 ⊢
 clear hgw
 refine rN (wp_seq ?_)
 refine zC 3 [.quiet (PT g 0), .quiet (N v), .call (N r)] (sB H6) ?ho6 ?he6
 case ho6 => exact ar (bN 0 (ac (fun w' h => eC call126 (C5.out w' (h.one 4 rfl))) trivial))
 intro γ w7 l hM hl
 have M7 : Mm w7 [(γ3_6, zD v), (γ1_0, zD a), (γ1_1, zD b), (γ1_2, zero6), (g, zZ n o s)] := H6.out.1.grow hM (Nat.le_refl _) hl [] rfl (by decide)
 have B7 : Below w.heap.size w w7 := H6.out.2.trans ((hM.below).mono H6.out.2.size)
 clear hM hl l H6
 clear γ
 have H7 : Hid (_ ∧ _) := ⟨M7, B7⟩
 clear M7 B7
 refine zF (l := [3]) rfl ?_
 refine sG rfl (fun h => zO h 3 rfl rfl rfl rfl (Nat.le_of_ble_eq_true rfl)) 3 [_, _, _, (_, zD r), _] H7 o1_2 fun w8 H8 => ?_
 clear H7
 refine zE (zA (wp_ret ?_))
 repeat (first | refine zM ?_ | refine zI ?_)
 have c0 := H8.out.1.get 3 rfl 0 rfl
 have c1 := H8.out.1.get 3 rfl 1 rfl
 have c2 := H8.out.1.get 3 rfl 2 rfl
 have c3 := H8.out.1.get 3 rfl 3 rfl
 have c4 := H8.out.1.get 3 rfl 4 rfl
 have c5 := H8.out.1.get 3 rfl 5 rfl
 refine bodyPost_ret (v := N r) (by simp [results, Tryz.results83, go_sem, *]) rfl ?_
 exact ⟨rfl, H8.out.2⟩
theorem sub_1 (g n o s a b u r : Nat)
  (c0 : ∀ w, Mm w [(g, zZ n o s)] → Calls Tryz.prog 125 #[PT g 0] w (Rt w (.bool true)))
  (c1 : ∀ w, Calls Tryz.prog 127 #[N a, N b] w (Rt w (.tuple #[N u, .bool false])))
  (c2 : ∀ w, Mm w [(g, zZ n o s)] → Calls Tryz.prog 126 #[PT g 0, N u] w (Rt w (N r))) (w : World) (hm : Mm w [(g, zZ n o s)]) :
  Calls Tryz.prog 84 #[PT g 0, N a, N b] w (Rt w (N r)) := by
 have H0 : Hid (_ ∧ _) := ⟨hm, Below.refl w.heap.size w⟩
 clear hm
 have C0 : Hid _ := c0
 have C1 : Hid _ := c1
 have C2 : Hid _ := c2
 clear c0 c1 c2
 go_enter Tryz.func84, Tryz.ntmps84
 refine wp_seq ?_
 refine zC 3 [.made (zD a) 24, .made (zD b) 24, .made zero6 24] (sB H0) ?ho1 ?he1
 case ho1 => exact am (yF rfl rfl) (am (yF rfl rfl) (am (zJ rfl) trivial))
 intro γ w1 l hM hl
 have M1 : Mm w1 [(γ 0, zD a), (γ 1, zD b), (γ 2, zero6), (g, zZ n o s)] := H0.out.1.grow hM (Nat.le_refl _) hl [0, 1, 2] rfl (by decide)
 have B1 : Below w.heap.size w w1 := H0.out.2.trans ((hM.below).mono H0.out.2.size)
 have o1_0 : Hid (w.heap.size ≤ γ 0) := Nat.le_trans H0.out.2.size (hM.fin (Nat.le_refl _) hl (i := 0) rfl).2.1
 have o1_1 : Hid (w.heap.size ≤ γ 1) := Nat.le_trans H0.out.2.size (hM.fin (Nat.le_refl _) hl (i := 1) rfl).2.1
 have o1_2 : Hid (w.heap.size ≤ γ 2) := Nat.le_trans H0.out.2.size (hM.fin (Nat.le_refl _) hl (i := 2) rfl).2.1
 clear hM hl l
 generalize γ 0 = γ1_0 at M1 o1_0 ⊢
 generalize γ 1 = γ1_1 at M1 o1_1 ⊢
 generalize γ 2 = γ1_2 at M1 o1_2 ⊢
 clear γ
 have H1 : Hid (_ ∧ _) := ⟨M1, B1⟩
 clear M1 B1
 refine rN (wp_seq (wp_seq ?_))
 refine zC 3 [.quiet (PT g 0), .call (.bool true), .quiet (.bool false)] (sB H1) ?ho2 ?he2
 case ho2 => exact ar (ac (fun w' h => eC call125 (C0.out w' (h.one 3 rfl))) (ag trivial))
 intro γ w2 l hM hl
 have M2 : Mm w2 [(γ1_0, zD a), (γ1_1, zD b), (γ1_2, zero6), (g, zZ n o s)] := H1.out.1.grow hM (Nat.le_refl _) hl [] rfl (by decide)
 have B2 : Below w.heap.size w w2 := H1.out.2.trans ((hM.below).mono H1.out.2.size)
 clear hM hl l H1
 clear γ
 have H2 : Hid (_ ∧ _) := ⟨M2, B2⟩
 clear M2 B2
 refine rN (wp_cond_false rfl ?_)
 refine wp_skip (zA (wp_seq ?_))
 refine zC 9 [.quiet (N a), .quiet (N b), .call (.tuple #[N u, .bool false]), .quiet (.tuple #[N u, .bool false]), .quiet (N u), .quiet (.bool false), .made zero6 24, .laid 6 zero6 (zD u), .quiet (.bool false)] (sB H2) ?ho3 ?he3 (hL := ?hL3)
 case hL3 => exact ⟨⟨_, rfl⟩, trivial⟩
 case ho3 => exact bN 0 (bN 1 (ac (fun w' h => eC call127 (C1.out w')) (ar (ag (ag (am (zJ rfl) (ak (fun γ => ⟨rfl, rfl, rfl, fun w' h => zN h rfl rfl rfl⟩) (ar trivial))))))))
 intro γ w3 l hM hl
 have M3 : Mm w3 [(γ 6, zD u), (γ1_0, zD a), (γ1_1, zD b), (γ1_2, zero6), (g, zZ n o s)] := H2.out.1.grow hM (Nat.le_refl _) hl [6] rfl (by decide)
 have B3 : Below w.heap.size w w3 := H2.out.2.trans ((hM.below).mono H2.out.2.size)
 have o3_6 : Hid (w.heap.size ≤ γ 6) := Nat.le_trans H2.out.2.size (hM.fin (Nat.le_refl _) hl (i := 6) rfl).2.1
 clear hM hl l H2
 generalize γ 6 = γ3_6 at M3 o3_6 ⊢
 clear γ
 have H3 : Hid (_ ∧ _) := ⟨M3, B3⟩
 clear M3 B3
 refine rN (wp_seq (wp_seq ?_))
 refine zC 2 [.quiet (.bool false), .quiet (.bool true)] (sB H3) ?ho4 ?he4
 case ho4 => exact ar (ag trivial)
 intro γ w4 l hM hl
 have M4 : Mm w4 [(γ3_6, zD u), (γ1_0, zD a), (γ1_1, zD b), (γ1_2, zero6), (g, zZ n o s)] := H3.out.1.grow hM (Nat.le_refl _) hl [] rfl (by decide)
 have B4 : Below w.heap.size w w4 := H3.out.2.trans ((hM.below).mono H3.out.2.size)
 clear hM hl l H3
 clear γ
 have H4 : Hid (_ ∧ _) := ⟨M4, B4⟩
 clear M4 B4
 refine rN (wp_cond_true rfl (wp_seq ?_))
 refine zC 3 [.quiet (PT g 0), .quiet (N u), .call (N r)] (sB H4) ?ho5 ?he5
 case ho5 => exact ar (bN 0 (ac (fun w' h => eC call126 (C2.out w' (h.one 4 rfl))) trivial))
 intro γ w5 l hM hl
 have M5 : Mm w5 [(γ3_6, zD u), (γ1_0, zD a), (γ1_1, zD b), (γ1_2, zero6), (g, zZ n o s)] := H4.out.1.grow hM (Nat.le_refl _) hl [] rfl (by decide)
 have B5 : Below w.heap.size w w5 := H4.out.2.trans ((hM.below).mono H4.out.2.size)
 clear hM hl l H4
 clear γ
 have H5 : Hid (_ ∧ _) := ⟨M5, B5⟩
 clear M5 B5
 refine zF (l := [3]) rfl ?_
 refine sG rfl (fun h => zO h 3 rfl rfl rfl rfl (Nat.le_of_ble_eq_true rfl)) 3 [_, _, _, (_, zD r), _] H5 o1_2 fun w6 H6 => ?_
 clear H5
 refine zE (zA (wp_ret ?_))
 repeat (first | refine zM ?_ | refine zI ?_)
 have c0 := H6.out.1.get 3 rfl 0 rfl
 have c1 := H6.out.1.get 3 rfl 1 rfl
 have c2 := H6.out.1.get 3 rfl 2 rfl
 have c3 := H6.out.1.get 3 rfl 3 rfl
 have c4 := H6.out.1.get 3 rfl 4 rfl
 have c5 := H6.out.1.get 3 rfl 5 rfl
 refine bodyPost_ret (v := N r) (by simp [results, Tryz.results84, go_sem, *]) rfl ?_
 exact ⟨rfl, H6.out.2⟩
theorem sub_2 (g n o s a b u r : Nat)
  (c0 : ∀ w, Mm w [(g, zZ n o s)] → Calls Tryz.prog 125 #[PT g 0] w (Rt w (.bool true)))
  (c1 : ∀ w, Calls Tryz.prog 127 #[N a, N b] w (Rt w (.tuple #[N u, .bool true])))
  (c2 : ∀ w, Calls Tryz.prog 37 #[N u, N n] w (Rt w (.tuple #[N r, .bool true]))) (w : World) (hm : Mm w [(g, zZ n o s)]) :
  Calls Tryz.prog 84 #[PT g 0, N a, N b] w (Rt w (N r)) := by
 have H0 : Hid (_ ∧ _) := ⟨hm, Below.refl w.heap.size w⟩
 clear hm
 have C0 : Hid _ := c0
 have C1 : Hid _ := c1
 have C2 : Hid _ := c2
 clear c0 c1 c2
 go_enter Tryz.func84, Tryz.ntmps84
 refine wp_seq ?_
 refine zC 3 [.made (zD a) 24, .made (zD b) 24, .made zero6 24] (sB H0) ?ho1 ?he1
 case ho1 => exact am (yF rfl rfl) (am (yF rfl rfl) (am (zJ rfl) trivial))
 intro γ w1 l hM hl
 have M1 : Mm w1 [(γ 0, zD a), (γ 1, zD b), (γ 2, zero6), (g, zZ n o s)] := H0.out.1.grow hM (Nat.le_refl _) hl [0, 1, 2] rfl (by decide)
 have B1 : Below w.heap.size w w1 := H0.out.2.trans ((hM.below).mono H0.out.2.size)
 have o1_0 : Hid (w.heap.size ≤ γ 0) := Nat.le_trans H0.out.2.size (hM.fin (Nat.le_refl _) hl (i := 0) rfl).2.1
 have o1_1 : Hid (w.heap.size ≤ γ 1) := Nat.le_trans H0.out.2.size (hM.fin (Nat.le_refl _) hl (i := 1) rfl).2.1
 have o1_2 : Hid (w.heap.size ≤ γ 2) := Nat.le_trans H0.out.2.size (hM.fin (Nat.le_refl _) hl (i := 2) rfl).2.1
 clear hM hl l
 generalize γ 0 = γ1_0 at M1 o1_0 ⊢
 generalize γ 1 = γ1_1 at M1 o1_1 ⊢
 generalize γ 2 = γ1_2 at M1 o1_2 ⊢
 clear γ
 have H1 : Hid (_ ∧ _) := ⟨M1, B1⟩
 clear M1 B1
 refine rN (wp_seq (wp_seq ?_))
 refine zC 3 [.quiet (PT g 0), .call (.bool true), .quiet (.bool false)] (sB H1) ?ho2 ?he2
 case ho2 => exact ar (ac (fun w' h => eC call125 (C0.out w' (h.one 3 rfl))) (ag trivial))
 intro γ w2 l hM hl
 have M2 : Mm w2 [(γ1_0, zD a), (γ1_1, zD b), (γ1_2, zero6), (g, zZ n o s)] := H1.out.1.grow hM (Nat.le_refl _) hl [] rfl (by decide)
 have B2 : Below w.heap.size w w2 := H1.out.2.trans ((hM.below).mono H1.out.2.size)
 clear hM hl l H1
 clear γ
 have H2 : Hid (_ ∧ _) := ⟨M2, B2⟩
 clear M2 B2
 refine rN (wp_cond_false rfl ?_)
 refine wp_skip (zA (wp_seq ?_))
 refine zC 9 [.quiet (N a), .quiet (N b), .call (.tuple #[N u, .bool true]), .quiet (.tuple #[N u, .bool true]), .quiet (N u), .quiet (.bool true), .made zero6 24, .laid 6 zero6 (zD u), .quiet (.bool true)] (sB H2) ?ho3 ?he3 (hL := ?hL3)
 case hL3 => exact ⟨⟨_, rfl⟩, trivial⟩
 case ho3 => exact bN 0 (bN 1 (ac (fun w' h => eC call127 (C1.out w')) (ar (ag (ag (am (zJ rfl) (ak (fun γ => ⟨rfl, rfl, rfl, fun w' h => zN h rfl rfl rfl⟩) (ar trivial))))))))
 intro γ w3 l hM hl
 have M3 : Mm w3 [(γ 6, zD u), (γ1_0, zD a), (γ1_1, zD b), (γ1_2, zero6), (g, zZ n o s)] := H2.out.1.grow hM (Nat.le_refl _) hl [6] rfl (by decide)
 have B3 : Below w.heap.size w w3 := H2.out.2.trans ((hM.below).mono H2.out.2.size)
 have o3_6 : Hid (w.heap.size ≤ γ 6) := Nat.le_trans H2.out.2.size (hM.fin (Nat.le_refl _) hl (i := 6) rfl).2.1
 clear hM hl l H2
 generalize γ 6 = γ3_6 at M3 o3_6 ⊢
 clear γ
 have H3 : Hid (_ ∧ _) := ⟨M3, B3⟩
 clear M3 B3
 refine rN (wp_seq (wp_seq ?_))
 refine zC 2 [.quiet (.bool true), .quiet (.bool false)] (sB H3) ?ho4 ?he4
 case ho4 => exact ar (ag trivial)
 intro γ w4 l hM hl
 have M4 : Mm w4 [(γ3_6, zD u), (γ1_0, zD a), (γ1_1, zD b), (γ1_2, zero6), (g, zZ n o s)] := H3.out.1.grow hM (Nat.le_refl _) hl [] rfl (by decide)
 have B4 : Below w.heap.size w w4 := H3.out.2.trans ((hM.below).mono H3.out.2.size)
 clear hM hl l H3
 clear γ
 have H4 : Hid (_ ∧ _) := ⟨M4, B4⟩
 clear M4 B4
 refine rN (wp_cond_false rfl ?_)
 refine wp_skip (zA (wp_seq ?_))
 refine zS 12 [.quiet (N u), .quiet (PT g 0), .quiet (PT g 0), .quiet (PT g 0), .quiet (N n), .call (.tuple #[N r, .bool true]), .quiet (.tuple #[N r, .bool true]), .quiet (N r), .quiet (.bool true), .made zero6 24, .laid 9 zero6 (zD r), .quiet (.bool true)] (sB H4) ?ho5 ?he5 (hL := ?hL5)
 case hL5 => exact ⟨⟨_, rfl⟩, trivial⟩
 case ho5 => exact bN 0 (ar (ag (ag (bN 4 (ac (fun w' h => eC call37 (C2.out w')) (ar (ag (ag (am (zJ rfl) (ak (fun γ => ⟨rfl, rfl, rfl, fun w' h => zN h rfl rfl rfl⟩) (ar trivial)))))))))))
 intro γ w5 l hM hl
 have M5 : Mm w5 [(γ 9, zD r), (γ3_6, zD u), (γ1_0, zD a), (γ1_1, zD b), (γ1_2, zero6), (g, zZ n o s)] := H4.out.1.grow hM (Nat.le_refl _) hl [9] rfl (by decide)
 have B5 : Below w.heap.size w w5 := H4.out.2.trans ((hM.below).mono H4.out.2.size)
 have o5_9 : Hid (w.heap.size ≤ γ 9) := Nat.le_trans H4.out.2.size (hM.fin (Nat.le_refl _) hl (i := 9) rfl).2.1
 clear hM hl l H4
 generalize γ 9 = γ5_9 at M5 o5_9 ⊢
 clear γ
 have H5 : Hid (_ ∧ _) := ⟨M5, B5⟩
 clear M5 B5
 refine rN (wp_seq (wp_seq ?_))
 refine zC 1 [.quiet (.bool true)] (sB H5) ?ho6 ?he6
 case ho6 => exact ar trivial
 intro γ w6 l hM hl
 have M6 : Mm w6 [(γ5_9, zD r), (γ3_6, zD u), (γ1_0, zD a), (γ1_1, zD b), (γ1_2, zero6), (g, zZ n o s)] := H5.out.1.grow hM (Nat.le_refl _) hl [] rfl (by decide)
 have B6 : Below w.heap.size w w6 := H5.out.2.trans ((hM.below).mono H5.out.2.size)
 clear hM hl l H5
 clear γ
 have H6 : Hid (_ ∧ _) := ⟨M6, B6⟩
 clear M6 B6
 refine rN (wp_cond_true rfl (wp_seq ?_))
 refine zC 1 [.quiet (N r)] (sB H6) ?ho7 ?he7
 case ho7 => exact bN 0 trivial
 intro γ w7 l hM hl
 have M7 : Mm w7 [(γ5_9, zD r), (γ3_6, zD u), (γ1_0, zD a), (γ1_1, zD b), (γ1_2, zero6), (g, zZ n o s)] := H6.out.1.grow hM (Nat.le_refl _) hl [] rfl (by decide)
 have B7 : Below w.heap.size w w7 := H6.out.2.trans ((hM.below).mono H6.out.2.size)
 clear hM hl l H6
 clear γ
 have H7 : Hid (_ ∧ _) := ⟨M7, B7⟩
 clear M7 B7
 refine zF (l := [1]) rfl ?_
 refine sG rfl (fun h => zO h 4 rfl rfl rfl rfl (Nat.le_of_ble_eq_true rfl)) 4 [_, _, _, _, (_, zD r), _] H7 o1_2 fun w8 H8 => ?_
 clear H7
 refine zE (zA (wp_ret ?_))
 repeat (first | refine zM ?_ | refine zI ?_)
 have c0 := H8.out.1.get 4 rfl 0 rfl
 have c1 := H8.out.1.get 4 rfl 1 rfl
 have c2 := H8.out.1.get 4 rfl 2 rfl
 have c3 := H8.out.1.get 4 rfl 3 rfl
 have c4 := H8.out.1.get 4 rfl 4 rfl
 have c5 := H8.out.1.get 4 rfl 5 rfl
 refine bodyPost_ret (v := N r) (by simp [results, Tryz.results84, go_sem, *]) rfl ?_
 exact ⟨rfl, H8.out.2⟩
theorem sub_3 (g n o s a b u v x y r : Nat)
  (c0 : ∀ w, Mm w [(g, zZ n o s)] → Calls Tryz.prog 125 #[PT g 0] w (Rt w (.bool true)))
  (c1 : ∀ w, Calls Tryz.prog 127 #[N a, N b] w (Rt w (.tuple #[N u, .bool true])))
  (c2 : ∀ w, Calls Tryz.prog 37 #[N u, N n] w (Rt w (.tuple #[N v, .bool false])))
  (c3 : ∀ w, Mm w [(g, zZ n o s)] → Calls Tryz.prog 126 #[PT g 0, N b] w (Rt w (N x)))
  (c4 : ∀ w, Calls Tryz.prog 127 #[N n, N x] w (Rt w (.tuple #[N y, .bool false])))
  (c5 : ∀ w, Mm w [(g, zZ n o s)] → Calls Tryz.prog 83 #[PT g 0, N a, N y] w (Rt w (N r))) (w : World) (hm : Mm w [(g, zZ n o s)]) :
  Calls Tryz.prog 84 #[PT g 0, N a, N b] w (Rt w (N r)) := by
 have H0 : Hid (_ ∧ _) := ⟨hm, Below.refl w.heap.size w⟩
 clear hm
 have C0 : Hid _ := c0
 have C1 : Hid _ := c1
 have C2 : Hid _ := c2
 have C3 : Hid _ := c3
 have C4 : Hid _ := c4
 have C5 : Hid _ := c5
 clear c0 c1 c2 c3 c4 c5
 go_enter Tryz.func84, Tryz.ntmps84
 refine wp_seq ?_
 refine zC 3 [.made (zD a) 24, .made (zD b) 24, .made zero6 24] (sB H0) ?ho1 ?he1
 case ho1 => exact am (yF rfl rfl) (am (yF rfl rfl) (am (zJ rfl) trivial))
 intro γ w1 l hM hl
 have M1 : Mm w1 [(γ 0, zD a), (γ 1, zD b), (γ 2, zero6), (g, zZ n o s)] := H0.out.1.grow hM (Nat.le_refl _) hl [0, 1, 2] rfl (by decide)
 have B1 : Below w.heap.size w w1 := H0.out.2.trans ((hM.below).mono H0.out.2.size)
 have o1_0 : Hid (w.heap.size ≤ γ 0) := Nat.le_trans H0.out.2.size (hM.fin (Nat.le_refl _) hl (i := 0) rfl).2.1
 have o1_1 : Hid (w.heap.size ≤ γ 1) := Nat.le_trans H0.out.2.size (hM.fin (Nat.le_refl _) hl (i := 1) rfl).2.1
 have o1_2 : Hid (w.heap.size ≤ γ 2) := Nat.le_trans H0.out.2.size (hM.fin (Nat.le_refl _) hl (i := 2) rfl).2.1
 clear hM hl l
 generalize γ 0 = γ1_0 at M1 o1_0 ⊢
 generalize γ 1 = γ1_1 at M1 o1_1 ⊢
 generalize γ 2 = γ1_2 at M1 o1_2 ⊢
 clear γ
 have H1 : Hid (_ ∧ _) := ⟨M1, B1⟩
 clear M1 B1
 refine rN (wp_seq (wp_seq ?_))
 refine zC 3 [.quiet (PT g 0), .call (.bool true), .quiet (.bool false)] (sB H1) ?ho2 ?he2
 case ho2 => exact ar (ac (fun w' h => eC call125 (C0.out w' (h.one 3 rfl))) (ag trivial))
 intro γ w2 l hM hl
 have M2 : Mm w2 [(γ1_0, zD a), (γ1_1, zD b), (γ1_2, zero6), (g, zZ n o s)] := H1.out.1.grow hM (Nat.le_refl _) hl [] rfl (by decide)
 have B2 : Below w.heap.size w w2 := H1.out.2.trans ((hM.below).mono H1.out.2.size)
 clear hM hl l H1
 clear γ
 have H2 : Hid (_ ∧ _) := ⟨M2, B2⟩
 clear M2 B2
 refine rN (wp_cond_false rfl ?_)
 refine wp_skip (zA (wp_seq ?_))
 refine zC 9 [.quiet (N a), .quiet (N b), .call (.tuple #[N u, .bool true]), .quiet (.tuple #[N u, .bool true]), .quiet (N u), .quiet (.bool true), .made zero6 24, .laid 6 zero6 (zD u), .quiet (.bool true)] (sB H2) ?ho3 ?he3 (hL := ?hL3)
 case hL3 => exact ⟨⟨_, rfl⟩, trivial⟩
 case ho3 => exact bN 0 (bN 1 (ac (fun w' h => eC call127 (C1.out w')) (ar (ag (ag (am (zJ rfl) (ak (fun γ => ⟨rfl, rfl, rfl, fun w' h => zN h rfl rfl rfl⟩) (ar trivial))))))))
 intro γ w3 l hM hl
 have M3 : Mm w3 [(γ 6, zD u), (γ1_0, zD a), (γ1_1, zD b), (γ1_2, zero6), (g, zZ n o s)] := H2.out.1.grow hM (Nat.le_refl _) hl [6] rfl (by decide)
 have B3 : Below w.heap.size w w3 := H2.out.2.trans ((hM.below).mono H2.out.2.size)
 have o3_6 : Hid (w.heap.size ≤ γ 6) := Nat.le_trans H2.out.2.size (hM.fin (Nat.le_refl _) hl (i := 6) rfl).2.1
 clear hM hl l H2
 generalize γ 6 = γ3_6 at M3 o3_6 ⊢
 clear γ
 have H3 : Hid (_ ∧ _) := ⟨M3, B3⟩
 clear M3 B3
 refine rN (wp_seq (wp_seq ?_))
 refine zC 2 [.quiet (.bool true), .quiet (.bool false)] (sB H3) ?ho4 ?he4
 case ho4 => exact ar (ag trivial)
 intro γ w4 l hM hl
 have M4 : Mm w4 [(γ3_6, zD u), (γ1_0, zD a), (γ1_1, zD b), (γ1_2, zero6), (g, zZ n o s)] := H3.out.1.grow hM (Nat.le_refl _) hl [] rfl (by decide)
 have B4 : Below w.heap.size w w4 := H3.out.2.trans ((hM.below).mono H3.out.2.size)
 clear hM hl l H3
 clear γ
 have H4 : Hid (_ ∧ _) := ⟨M4, B4⟩
 clear M4 B4
 refine rN (wp_cond_false rfl ?_)
 refine wp_skip (zA (wp_seq ?_))
 refine zS 12 [.quiet (N u), .quiet (PT g 0), .quiet (PT g 0), .quiet (PT g 0), .quiet (N n), .call (.tuple #[N v, .bool false]), .quiet (.tuple #[N v, .bool false]), .quiet (N v), .quiet (.bool false), .made zero6 24, .laid 9 zero6 (zD v), .quiet (.bool false)] (sB H4) ?ho5 ?he5 (hL := ?hL5)
 case hL5 => exact ⟨⟨_, rfl⟩, trivial⟩
 case ho5 => exact bN 0 (ar (ag (ag (bN 4 (ac (fun w' h => eC call37 (C2.out w')) (ar (ag (ag (am (zJ rfl) (ak (fun γ => ⟨rfl, rfl, rfl, fun w' h => zN h rfl rfl rfl⟩) (ar trivial)))))))))))
 intro γ w5 l hM hl
 have M5 : Mm w5 [(γ 9, zD v), (γ3_6, zD u), (γ1_0, zD a), (γ1_1, zD b), (γ1_2, zero6), (g, zZ n o s)] := H4.out.1.grow hM (Nat.le_refl _) hl [9] rfl (by decide)
 have B5 : Below w.heap.size w w5 := H4.out.2.trans ((hM.below).mono H4.out.2.size)
 have o5_9 : Hid (w.heap.size ≤ γ 9) := Nat.le_trans H4.out.2.size (hM.fin (Nat.le_refl _) hl (i := 9) rfl).2.1
 clear hM hl l H4
 generalize γ 9 = γ5_9 at M5 o5_9 ⊢
 clear γ
 have H5 : Hid (_ ∧ _) := ⟨M5, B5⟩
 clear M5 B5
 refine rN (wp_seq (wp_seq ?_))
 refine zC 1 [.quiet (.bool false)] (sB H5) ?ho6 ?he6
 case ho6 => exact ar trivial
 intro γ w6 l hM hl
 have M6 : Mm w6 [(γ5_9, zD v), (γ3_6, zD u), (γ1_0, zD a), (γ1_1, zD b), (γ1_2, zero6), (g, zZ n o s)] := H5.out.1.grow hM (Nat.le_refl _) hl [] rfl (by decide)
 have B6 : Below w.heap.size w w6 := H5.out.2.trans ((hM.below).mono H5.out.2.size)
 clear hM hl l H5
 clear γ
 have H6 : Hid (_ ∧ _) := ⟨M6, B6⟩
 clear M6 B6
 refine rN (wp_cond_false rfl ?_)
 refine wp_skip (zA (wp_seq ?_))
 refine zS 14 [.quiet (PT g 0), .quiet (PT g 0), .quiet (PT g 0), .quiet (N n), .quiet (PT g 0), .quiet (N b), .call (N x), .call (.tuple #[N y, .bool false]), .quiet (.tuple #[N y, .bool false]), .quiet (N y), .quiet (.bool false), .made zero6 24, .laid 11 zero6 (zD y), .quiet (.bool false)] (sB H6) ?ho7 ?he7 (hL := ?hL7)
 case hL7 => exact ⟨⟨_, rfl⟩, trivial⟩
 case ho7 => exact ar (ag (ag (bN 5 (ar (bN 3 (ac (fun w' h => eC call126 (C3.out w' (h.one 5 rfl))) (ac (fun w' h => eC call127 (C4.out w')) (ar (ag (ag (am (zJ rfl) (ak (fun γ => ⟨rfl, rfl, rfl, fun w' h => zN h rfl rfl rfl⟩) (ar trivial)))))))))))))
 intro γ w7 l hM hl
 have M7 : Mm w7 [(γ 11, zD y), (γ5_9, zD v), (γ3_6, zD u), (γ1_0, zD a), (γ1_1, zD b), (γ1_2, zero6), (g, zZ n o s)] := H6.out.1.grow hM (Nat.le_refl _) hl [11] rfl (by decide)
 have B7 : Below w.heap.size w w7 := H6.out.2.trans ((hM.below).mono H6.out.2.size)
 have o7_11 : Hid (w.heap.size ≤ γ 11) := Nat.le_trans H6.out.2.size (hM.fin (Nat.le_refl _) hl (i := 11) rfl).2.1
 clear hM hl l H6
 generalize γ 11 = γ7_11 at M7 o7_11 ⊢
 clear γ
 have H7 : Hid (_ ∧ _) := ⟨M7, B7⟩
 clear M7 B7
 refine rN (wp_seq ?_)
 refine zC 4 [.quiet (PT g 0), .quiet (N a), .quiet (N y), .call (N r)] (sB H7) ?ho8 ?he8
 case ho8 => exact ar (bN 3 (bN 0 (ac (fun w' h => eC call83 (C5.out w' (h.one 6 rfl))) trivial)))
 intro γ w8 l hM hl
 have M8 : Mm w8 [(γ7_11, zD y), (γ5_9, zD v), (γ3_6, zD u), (γ1_0, zD a), (γ1_1, zD b), (γ1_2, zero6), (g, zZ n o s)] := H7.out.1.grow hM (Nat.le_refl _) hl [] rfl (by decide)
 have B8 : Below w.heap.size w w8 := H7.out.2.trans ((hM.below).mono H7.out.2.size)
 clear hM hl l H7
 clear γ
 have H8 : Hid (_ ∧ _) := ⟨M8, B8⟩
 clear M8 B8
 refine zF (l := [4]) rfl ?_
 refine sG rfl (fun h => zO h 5 rfl rfl rfl rfl (Nat.le_of_ble_eq_true rfl)) 5 [_, _, _, _, _, (_, zD r), _] H8 o1_2 fun w9 H9 => ?_
 clear H8
 refine zE (zA (wp_ret ?_))
 repeat (first | refine zM ?_ | refine zI ?_)
 have c0 := H9.out.1.get 5 rfl 0 rfl
 have c1 := H9.out.1.get 5 rfl 1 rfl
 have c2 := H9.out.1.get 5 rfl 2 rfl
 have c3 := H9.out.1.get 5 rfl 3 rfl
 have c4 := H9.out.1.get 5 rfl 4 rfl
 have c5 := H9.out.1.get 5 rfl 5 rfl
 refine bodyPost_ret (v := N r) (by simp [results, Tryz.results84, go_sem, *]) rfl ?_
 exact ⟨rfl, H9.out.2⟩
theorem neg_gen (g n o s a r : Nat)
  (c0 : ∀ w, Mm w [(g, zZ n o s)] → Calls Tryz.prog 84 #[PT g 0, N 0, N a] w (Rt w (N r))) (w : World) (hm : Mm w [(g, zZ n o s)]) :
  Calls Tryz.prog 131 #[PT g 0, N a] w (Rt w (N r)) := by
 have H0 : Hid (_ ∧ _) := ⟨hm, Below.refl w.heap.size w⟩
 clear hm
 have C0 : Hid _ := c0
 clear c0
 go_enter Tryz.func131, Tryz.ntmps131
 refine wp_seq ?_
 refine zC 2 [.made (zD a) 24, .made zero6 24] (sB H0) ?ho1 ?he1
 case ho1 => exact am (yF rfl rfl) (am (zJ rfl) trivial)
 intro γ w1 l hM hl
 have M1 : Mm w1 [(γ 0, zD a), (γ 1, zero6), (g, zZ n o s)] := H0.out.1.grow hM (Nat.le_refl _) hl [0, 1] rfl (by decide)
 have B1 : Below w.heap.size w w1 := H0.out.2.trans ((hM.below).mono H0.out.2.size)
 have o1_0 : Hid (w.heap.size ≤ γ 0) := Nat.le_trans H0.out.2.size (hM.fin (Nat.le_refl _) hl (i := 0) rfl).2.1
 have o1_1 : Hid (w.heap.size ≤ γ 1) := Nat.le_trans H0.out.2.size (hM.fin (Nat.le_refl _) hl (i := 1) rfl).2.1
 clear hM hl l
 generalize γ 0 = γ1_0 at M1 o1_0 ⊢
 generalize γ 1 = γ1_1 at M1 o1_1 ⊢
 clear γ
 have H1 : Hid (_ ∧ _) := ⟨M1, B1⟩
 clear M1 B1
 refine rN (wp_seq ?_)
 refine zC 4 [.quiet (PT g 0), .quiet (N 0), .quiet (N a), .call (N r)] (sB H1) ?ho2 ?he2
 case ho2 => exact ar (ak (by refine fun γ => ⟨rfl, fun w' h => ?_⟩; clear h; exact ex_zero6 rfl) (bN 0 (ac (fun w' h => eC call84 (C0.out w' (h.one 2 rfl))) trivial)))
 intro γ w2 l hM hl
 have M2 : Mm w2 [(γ1_0, zD a), (γ1_1, zero6), (g, zZ n o s)] := H1.out.1.grow hM (Nat.le_refl _) hl [] rfl (by decide)
 have B2 : Below w.heap.size w w2 := H1.out.2.trans ((hM.below).mono H1.out.2.size)
 clear hM hl l H1
 clear γ
 have H2 : Hid (_ ∧ _) := ⟨M2, B2⟩
 clear M2 B2
 refine zF (l := [4]) rfl ?_
 refine sG rfl (fun h => zO h 1 rfl rfl rfl rfl (Nat.le_of_ble_eq_true rfl)) 1 [_, (_, zD r), _] H2 o1_1 fun w3 H3 => ?_
 clear H2
 refine zE (zA (wp_ret ?_))
 repeat (first | refine zM ?_ | refine zI ?_)
 have c0 := H3.out.1.get 1 rfl 0 rfl
 have c1 := H3.out.1.get 1 rfl 1 rfl
 have c2 := H3.out.1.get 1 rfl 2 rfl
 have c3 := H3.out.1.get 1 rfl 3 rfl
 have c4 := H3.out.1.get 1 rfl 4 rfl
 have c5 := H3.out.1.get 1 rfl 5 rfl
 refine bodyPost_ret (v := N r) (by simp [results, Tryz.results131, go_sem, *]) rfl ?_
 exact ⟨rfl, H3.out.2⟩
theorem mul_gen (g n o s a b p r : Nat)
  (c0 : ∀ w, Mm w [(g, zZ n o s)] → Calls Tryz.prog 125 #[PT g 0] w (Rt w (.bool true)))
  (c1 : ∀ w, Mm w [(g, zZ n o s)] → Calls Tryz.prog 128 #[PT g 0, N a, N s] w (Rt w (N p)))
  (c2 : ∀ w, Mm w [(g, zZ n o s)] → Calls Tryz.prog 128 #[PT g 0, N b, N p] w (Rt w (N r))) (w : World) (hm : Mm w [(g, zZ n o s)]) :
  Calls Tryz.prog 85 #[PT g 0, N a, N b] w (Rt w (N r)) := by
 have H0 : Hid (_ ∧ _) := ⟨hm, Below.refl w.heap.size w⟩
 clear hm
 have C0 : Hid _ := c0
 have C1 : Hid _ := c1
 have C2 : Hid _ := c2
 clear c0 c1 c2
 go_enter Tryz.func85, Tryz.ntmps85
 refine wp_seq ?_
 refine zC 3 [.made (zD a) 24, .made (zD b) 24, .made zero6 24] (sB H0) ?ho1 ?he1
 case ho1 => exact am (yF rfl rfl) (am (yF rfl rfl) (am (zJ rfl) trivial))
 intro γ w1 l hM hl
 have M1 : Mm w1 [(γ 0, zD a), (γ 1, zD b), (γ 2, zero6), (g, zZ n o s)] := H0.out.1.grow hM (Nat.le_refl _) hl [0, 1, 2] rfl (by decide)
 have B1 : Below w.heap.size w w1 := H0.out.2.trans ((hM.below).mono H0.out.2.size)
 have o1_0 : Hid (w.heap.size ≤ γ 0) := Nat.le_trans H0.out.2.size (hM.fin (Nat.le_refl _) hl (i := 0) rfl).2.1
 have o1_1 : Hid (w.heap.size ≤ γ 1) := Nat.le_trans H0.out.2.size (hM.fin (Nat.le_refl _) hl (i := 1) rfl).2.1
 have o1_2 : Hid (w.heap.size ≤ γ 2) := Nat.le_trans H0.out.2.size (hM.fin (Nat.le_refl _) hl (i := 2) rfl).2.1
 clear hM hl l
 generalize γ 0 = γ1_0 at M1 o1_0 ⊢
 generalize γ 1 = γ1_1 at M1 o1_1 ⊢
 generalize γ 2 = γ1_2 at M1 o1_2 ⊢
 clear γ
 have H1 : Hid (_ ∧ _) := ⟨M1, B1⟩
 clear M1 B1
 refine rN (wp_seq (wp_seq ?_))
 refine zC 3 [.quiet (PT g 0), .call (.bool true), .quiet (.bool false)] (sB H1) ?ho2 ?he2
 case ho2 => exact ar (ac (fun w' h => eC call125 (C0.out w' (h.one 3 rfl))) (ag trivial))
 intro γ w2 l hM hl
 have M2 : Mm w2 [(γ1_0, zD a), (γ1_1, zD b), (γ1_2, zero6), (g, zZ n o s)] := H1.out.1.grow hM (Nat.le_refl _) hl [] rfl (by decide)
 have B2 : Below w.heap.size w w2 := H1.out.2.trans ((hM.below).mono H1.out.2.size)
 clear hM hl l H1
 clear γ
 have H2 : Hid (_ ∧ _) := ⟨M2, B2⟩
 clear M2 B2
 refine rN (wp_cond_false rfl ?_)
 refine wp_skip (zA (wp_seq ?_))
 refine zS 10 [.quiet (PT g 0), .quiet (N b), .quiet (PT g 0), .quiet (N a), .quiet (PT g 0), .quiet (PT g 0), .quiet (PT g 13), .quiet (N s), .call (N p), .call (N r)] (sB H2) ?ho3 ?he3
 case ho3 => exact ar (bN 1 (ar (bN 0 (ar (ag (ag (bN 3 (ac (fun w' h => eC call128 (C1.out w' (h.one 3 rfl))) (ac (fun w' h => eC call128 (C2.out w' (h.one 3 rfl))) trivial)))))))))
 intro γ w3 l hM hl
 have M3 : Mm w3 [(γ1_0, zD a), (γ1_1, zD b), (γ1_2, zero6), (g, zZ n o s)] := H2.out.1.grow hM (Nat.le_refl _) hl [] rfl (by decide)
 have B3 : Below w.heap.size w w3 := H2.out.2.trans ((hM.below).mono H2.out.2.size)
 clear hM hl l H2
 clear γ
 have H3 : Hid (_ ∧ _) := ⟨M3, B3⟩
 clear M3 B3
 refine zF (l := [10]) rfl ?_
 refine sG rfl (fun h => zO h 2 rfl rfl rfl rfl (Nat.le_of_ble_eq_true rfl)) 2 [_, _, (_, zD r), _] H3 o1_2 fun w4 H4 => ?_
 clear H3
 refine zE (zA (wp_ret ?_))
 repeat (first | refine zM ?_ | refine zI ?_)
 have c0 := H4.out.1.get 2 rfl 0 rfl
 have c1 := H4.out.1.get 2 rfl 1 rfl
 have c2 := H4.out.1.get 2 rfl 2 rfl
 have c3 := H4.out.1.get 2 rfl 3 rfl
 have c4 := H4.out.1.get 2 rfl 4 rfl
 have c5 := H4.out.1.get 2 rfl 5 rfl
 refine bodyPost_ret (v := N r) (by simp [results, Tryz.results85, go_sem, *]) rfl ?_
 exact ⟨rfl, H4.out.2⟩
theorem mont_one {n : Nat} (ok : Ok n) (x : Nat) : mont n x (big % n) = x % n := by
 refine Cg.eq_mod (n := n) ((mont_cg n _ _).trans ?_) (mont_lt _ _ _ ok.pos)
 have h1 := ((Cg.mod n big).mulL x).mulR (ri n)
 refine h1.trans ?_
 have h2 := (ri_big n ok.odd).mulL x
 rw [Nat.mul_one, ← Nat.mul_assoc] at h2
 exact h2
theorem mont_big {n : Nat} (ok : Ok n) (x y : Nat) : mont n x (y * big % n) = x * y % n := by
 refine Cg.eq_mod (n := n) ((mont_cg n _ _).trans ?_) (mont_lt _ _ _ ok.pos)
 have h1 := ((Cg.mod n (y * big)).mulL x).mulR (ri n)
 refine h1.trans ?_
 have h2 := (ri_big n ok.odd).mulL (x * y)
 rw [Nat.mul_one] at h2
 have e : x * (y * big) * ri n = x * y * (big * ri n) := by simp only [Nat.mul_assoc]
 rw [e]
 exact h2
def subm (n a b : Nat) : Nat := (a + (n - b % n)) % n
theorem subm_ge {n a b : Nat} (hn : 0 < n) (h : b ≤ a) : (a - b) % n = subm n a b := by
 unfold subm
 have h1 := Nat.div_add_mod b n
 have h2 := Nat.mod_lt b hn
 have e : a + (n - b % n) = (a - b) + n * (b / n + 1) := by rw [Nat.mul_add]; omega
 rw [e, Nat.add_mul_mod_self_left]
theorem subm_lt {n a b : Nat} (hn : 0 < n) (h : a < b) (h2 : b ≤ a + n) : a + n - b = subm n a b := by
 unfold subm
 have h1 := Nat.div_add_mod b n
 have h3 := Nat.mod_lt b hn
 have e : a + (n - b % n) = (a + n - b) + n * (b / n) := by omega
 rw [e, Nat.add_mul_mod_self_left, Nat.mod_eq_of_lt (by omega)]
theorem subm_lt_n {n : Nat} (hn : 0 < n) (a b : Nat) : subm n a b < n := Nat.mod_lt _ hn
theorem cmp_ge {a n : Nat} (h : ¬ a < n) : ¬ cmpv a n < 0 := by unfold cmpv; rw [if_neg h]; split <;> omega
theorem cmp_lt {a n : Nat} (h : a < n) : cmpv a n = -1 := by unfold cmpv; rw [if_neg (by omega), if_pos h]
theorem madeC {g n : Nat} (ok : Ok n) (w : World) (hm : Mm w [(g, yB n)]) : Calls Tryz.prog 125 #[PT g 0] w (Rt w (.bool true)) := made_any g n _ _ ok w hm
theorem n_any {g n : Nat} (ok : Ok n) (w : World) (hm : Mm w [(g, yB n)]) : Calls Tryz.prog 179 #[PT g 0] w (Rt w (N n)) := n_gen g n _ _ (fun w hm => madeC ok w hm) w hm
theorem reduce_any {g n : Nat} (ok : Ok n) {a : Nat} (ha : a < big) (w : World) (hm : Mm w [(g, yB n)]) : Calls Tryz.prog 126 #[PT g 0, N a] w (Rt w (N (a % n))) := by
 have hn := ok.big
 by_cases h : a < n
 ·have c := fun w => compare_any a n ha hn w
  rw [cmp_lt h] at c
  rw [Nat.mod_eq_of_lt h]
  exact reduce_1 g n _ _ a (fun w hm => madeC ok w hm) c w hm
 ·have c := fun w => compare_any a n ha hn w
  have cs := fun w => sub_any a n ha hn w
  rw [decide_eq_false h, show a + big - n = a - n + big by omega, Nat.add_mod_right, Nat.mod_eq_of_lt (show a - n < big by omega)] at cs
  have e : a % n = (a - n) % n := Nat.mod_eq_sub_mod (by omega)
  have c2 := fun w => compare_any (a - n) n (by omega) hn w
  by_cases h2 : a - n < n
  ·rw [cmp_lt h2] at c2
   rw [e, Nat.mod_eq_of_lt h2]
   exact reduce_2 g n _ _ a _ _ (cmp_ge h) (fun w hm => madeC ok w hm) c cs c2 w hm
  ·have cp := fun w hm => product_any g n (big % n) (big * big % n) (a - n) (big % n) ok (by omega) (Nat.mod_lt _ ok.pos) w hm
   rw [mont_one ok] at cp
   rw [e]
   exact reduce_3 g n _ _ a _ _ _ _ (cmp_ge h) (cmp_ge h2) (fun w hm => madeC ok w hm) c cs c2 cp w hm
theorem addm_any {g n : Nat} (ok : Ok n) {a b : Nat} (ha : a < big) (hb : b < big) (w : World) (hm : Mm w [(g, yB n)]) : Calls Tryz.prog 83 #[PT g 0, N a, N b] w (Rt w (N ((a + b) % n))) := by
 have c := fun w => add_any a b ha hb w
 by_cases h : big ≤ a + b
 ·rw [decide_eq_true h] at c
  have h1 := Nat.mod_lt a ok.pos
  have h2 := Nat.mod_lt b ok.pos
  have h3 := ok.top
  have c2 := fun w => add_any (a % n) (b % n) (okLt ok a) (okLt ok b) w
  rw [decide_eq_false (by omega), Nat.mod_eq_of_lt (show a % n + b % n < big by omega)] at c2
  have c3 := fun w hm => reduce_any (g := g) ok (show a % n + b % n < big by omega) w hm
  rw [← Nat.add_mod] at c3
  exact add_2 g n _ _ a b _ _ _ _ _ (fun w hm => madeC ok w hm) c (fun w hm => reduce_any ok ha w hm) (fun w hm => reduce_any ok hb w hm) c2 c3 w hm
 ·rw [decide_eq_false h, Nat.mod_eq_of_lt (show a + b < big by omega)] at c
  exact add_1 g n _ _ a b _ _ (fun w hm => madeC ok w hm) c (fun w hm => reduce_any ok (by omega) w hm) w hm
theorem mulm_any {g n : Nat} (ok : Ok n) {a b : Nat} (ha : a < big) (hb : b < big) (w : World) (hm : Mm w [(g, yB n)]) : Calls Tryz.prog 85 #[PT g 0, N a, N b] w (Rt w (N (a * b % n))) := by
 have cp := fun w hm => product_any g n (big % n) (big * big % n) a (big * big % n) ok ha (Nat.mod_lt _ ok.pos) w hm
 rw [mont_big ok] at cp
 have c := fun w hm => product_any g n (big % n) (big * big % n) b (a * big % n) ok hb (Nat.mod_lt _ ok.pos) w hm
 rw [mont_big ok, Nat.mul_comm b a] at c
 exact mul_gen g n _ _ a b _ _ (fun w hm => madeC ok w hm) cp c w hm
theorem subm_any {g n : Nat} (ok : Ok n) {a b : Nat} (ha : a < big) (hb : b < big) (w : World) (hm : Mm w [(g, yB n)]) : Calls Tryz.prog 84 #[PT g 0, N a, N b] w (Rt w (N (subm n a b))) := by
 have c := fun w => sub_any a b ha hb w
 have hn := ok.big
 have h3 := ok.top
 by_cases h : a < b
 ·rw [decide_eq_true h, Nat.mod_eq_of_lt (show a + big - b < big by omega)] at c
  have c2 := fun w => add_any (a + big - b) n (by omega) hn w
  by_cases h2 : b ≤ a + n
  ·rw [decide_eq_true (show big ≤ a + big - b + n by omega), show a + big - b + n = (a + n - b) + big by omega, Nat.add_mod_right, Nat.mod_eq_of_lt (show a + n - b < big by omega), subm_lt ok.pos h h2] at c2
   exact sub_2 g n _ _ a b _ _ (fun w hm => madeC ok w hm) c c2 w hm
  ·rw [decide_eq_false (show ¬ big ≤ a + big - b + n by omega)] at c2
   have h1 := Nat.mod_lt b ok.pos
   have c3 := fun w => sub_any n (b % n) hn (okLt ok b) w
   rw [decide_eq_false (by omega), show n + big - b % n = n - b % n + big by omega, Nat.add_mod_right, Nat.mod_eq_of_lt (show n - b % n < big by omega)] at c3
   exact sub_3 g n _ _ a b _ _ _ _ _ (fun w hm => madeC ok w hm) c c2 (fun w hm => reduce_any ok hb w hm) c3 (fun w hm => addm_any ok ha (by omega) w hm) w hm
 ·rw [decide_eq_false h, show a + big - b = a - b + big by omega, Nat.add_mod_right, Nat.mod_eq_of_lt (show a - b < big by omega)] at c
  have c2 := fun w hm => reduce_any (g := g) ok (show a - b < big by omega) w hm
  rw [subm_ge ok.pos (by omega)] at c2
  exact sub_1 g n _ _ a b _ _ (fun w hm => madeC ok w hm) c c2 w hm
theorem negm_any {g n : Nat} (ok : Ok n) {a : Nat} (ha : a < big) (w : World) (hm : Mm w [(g, yB n)]) : Calls Tryz.prog 131 #[PT g 0, N a] w (Rt w (N (subm n 0 a))) :=
 neg_gen g n _ _ a _ (fun w hm => subm_any ok big_pos ha w hm) w hm
theorem call122 : ∀ args w, (callFunc 122 args).run Tryz.prog w = .ok (.enter 122 args) w := by intro args w; go_simp
theorem call123 : ∀ args w, (callFunc 123 args).run Tryz.prog w = .ok (.enter 123 args) w := by intro args w; go_simp
abbrev modv (n o s : Nat) : Value := .agg (zZ n o s).toArray
theorem ex_build39 {ρ : Operand → Value} {o : Oper} {x y : Operand} {n : Nat} {w : World} (ho : o.op = .build 155 #[(0, x), (1, y)]) (hx : ρ x = N n) (hy : ρ y = .int .u64 (wrapZ (wd n 0))) : (execOp ρ o).run Tryz.prog w = .ok (.value (modv n 0 0)) w := by
 simp only [execOp, ho]
 go_simp
 simp [wd_zero]
theorem ex_box39 {ρ : Operand → Value} {o : Oper} {x : Operand} {n : Nat} {w : World} (ho : o.op = .box 155 x) (hx : ρ x = modv n 0 0) :
  (execOp ρ o).run Tryz.prog w = .ok (.value (.pointer (some ⟨w.heap.size, 0, none⟩))) (w.alloc (.cells (zZ n 0 0).toArray 155)) := by
 simp only [execOp, ho, hx]
 go_simp
theorem word_mod (n : Nat) : (wd n 0).tmod 2 = ((n % 2 : Nat) : Int) := by
 have h0 : wd n 0 = ((n % 18446744073709551616 : Nat) : Int) := by unfold wd; rw [Nat.mul_zero, Nat.pow_zero, Nat.div_one]
 rw [h0]
 rw [Int.tmod_eq_emod_of_nonneg (by omega)]; omega
theorem len_ok {n : Nat} (ok : Ok n) : ¬ (382 : Int) < (bl n : Nat) := by
 have h := ok.top
 obtain ⟨m, hm, e⟩ := big_pow
 have h5 : big = 4 * 2 ^ (64 * m - 2) := by
  rw [e]
  have : 64 * m = 2 + (64 * m - 2) := by omega
  rw [this, Nat.pow_add, show 2 + (64 * m - 2) - 2 = 64 * m - 2 by omega]
 have := bl_le_of n (64 * m - 2) (by omega)
 omega
end Rg
end Go.Proofs.YtaomlijondiaoaaGreatDoor
end
section
namespace Go.Proofs.YtaomlijondiaoaaGreatDoor
open Go.RowKit
end Go.Proofs.YtaomlijondiaoaaGreatDoor
end
section
namespace Go.Proofs.YtaomlijondiaoaaGreatDoor
open Go.RowKit
namespace Rg
theorem call36 : ∀ args w, (callFunc 36 args).run Tryz.prog w = .ok (.enter 36 args) w := by intro args w; go_simp
theorem call161 : ∀ args w, (callFunc 161 args).run Tryz.prog w = .ok (.enter 161 args) w := by intro args w; go_simp
theorem call171 : ∀ args w, (callFunc 171 args).run Tryz.prog w = .ok (.enter 171 args) w := by intro args w; go_simp
theorem ex_loadI {ρ : Operand → Value} {o : Oper} {x : Operand} {g off : Nat} {v : Value} {cs : List Value} {w : World} {l : List (Nat × List Value)} (h : Mm w l) (k : Nat) (hk : l[k]? = some (g, cs)) (ho : o.op = .load 3 x) (hx : ρ x = PT g off) (hc : cs[off]? = some v) :
  (execOp ρ o).run Tryz.prog w = .ok (.value v) w := by
 have c0 := h.cell (List.mem_of_getElem? hk) hc
 clear h hk hc
 simp only [execOp, ho, hx]
 go_simp
theorem ex_loadB {ρ : Operand → Value} {o : Oper} {x : Operand} {g off : Nat} {v : Value} {cs : List Value} {w : World} {l : List (Nat × List Value)} (h : Mm w l) (k : Nat) (hk : l[k]? = some (g, cs)) (ho : o.op = .load 4 x) (hx : ρ x = PT g off) (hc : cs[off]? = some v) :
  (execOp ρ o).run Tryz.prog w = .ok (.value v) w := by
 have c0 := h.cell (List.mem_of_getElem? hk) hc
 clear h hk hc
 simp only [execOp, ho, hx]
 go_simp
def dtab : List Value := Lib.deBruijn64tab.map fun k => .int .u8 ((k : Nat) : Int)
theorem tab_at {w : World} (h : Mm w [(0, dtab)]) : TabAt 0 Lib.deBruijn64tab w := fun j hj => by
 refine h.get 0 rfl j ?_
 unfold dtab
 rw [List.getElem?_map, List.getElem?_eq_getElem hj, Option.map_some, List.getD_eq_getElem?_getD, List.getElem?_eq_getElem hj, Option.getD_some]
theorem tz_word (x : Nat) (hx : x < 18446744073709551616) (w : World) (ht : Mm w [(0, dtab)]) : Calls Tryz.prog 171 #[.int .u64 x] w (Rt w (.int .i64 (Lib.ctz 64 x))) :=
 (Any7.bits_TrailingZeros64 Tryz.lays29 x hx w (fun _ => tab_at ht)).mono fun _ _ ⟨h1, h2⟩ => ⟨h1, h2 ▸ Below.refl _ _⟩
abbrev wkc (o r u v : Nat) (h : Int) (t : Bool) : List Value := [.int .u64 (wd o 0), .int .u64 (wd o 1), .int .u64 (wd o 2), .int .u64 (wd o 3), .int .u64 (wd o 4), .int .u64 (wd o 5), .int .u64 (wd r 0), .int .u64 (wd r 1), .int .u64 (wd r 2), .int .u64 (wd r 3), .int .u64 (wd r 4), .int .u64 (wd r 5), .int .u64 (wd u 0), .int .u64 (wd u 1), .int .u64 (wd u 2), .int .u64 (wd u 3), .int .u64 (wd u 4), .int .u64 (wd u 5), .int .u64 (wd v 0), .int .u64 (wd v 1), .int .u64 (wd v 2), .int .u64 (wd v 3), .int .u64 (wd v 4), .int .u64 (wd v 5), .int .i64 h, .bool t]
theorem trailing_gen (r m c : Nat) (hm6 : m < 6) (hc64 : c ≤ 64) (hz0 : ∀ j, j < m → wd r j = 0) (hm0 : wd r m ≠ 0)
  (c72 : ∀ w, Mm w [(0, dtab)] → Calls Tryz.prog 171 #[.int .u64 (wd r m)] w (Rt w (.int .i64 ((c : Nat) : Int)))) (w : World) (hm : Mm w [(0, dtab)]) :
  Calls Tryz.prog 161 #[N r] w (Rt w (.int .i64 ((64 * m + c : Nat) : Int))) := by
 have H0 : Hid (_ ∧ _) := ⟨hm, Below.refl w.heap.size w⟩
 clear hm
 have C72 : Hid _ := c72
 have HZ : Hid _ := hz0
 have HM : Hid _ := hm0
 clear c72 hz0 hm0
 go_enter Tryz.func161, Tryz.ntmps161
 refine wp_seq ?_
 refine zC 2 [.made (zD r) 24, .quiet (.int .i64 0)] (sB H0) ?ho1 ?he1
 case ho1 => exact am (yF rfl rfl) (ar trivial)
 intro γ w1 l hM hl
 have H1 : Hid (Mm w1 ([(γ 0, zD r)] ++ _) ∧ _) := wB H0 hM hl [0]
 have o1_0 := vB H0 hM hl 0
 clear hM hl l
 generalize γ 0 = γ1_0 at H1 o1_0 ⊢
 clear γ
 refine rN (wp_seq (wp_seq ?_))
 refine zB 2 [.quiet (N r), .quiet (.int .i64 0)] H1 ?ho2 ?he2
 case ho2 => exact bN 0 (ar trivial)
 intro _ w2 H2
 clear H1
 refine rN (wp_block ?_)
 refine loop_ghost (α := Nat) (fun i a' w' => ∃ s0 : Nat → Value, a' = ⟨#[N r, PT γ1_0 0, s0 2, s0 3, s0 4, N r, .int .i64 ((i : Nat) : Int), s0 7, s0 8, s0 9, s0 10, s0 11, s0 12, s0 13, s0 14, s0 15, s0 16, s0 17], []⟩ ∧ (Mm w' [(γ1_0, zD r), (0, dtab)] ∧ Below w.heap.size w w') ∧ i ≤ m) (fun i => m - i) 0 ?st0 ?rd0
 case st0 => exact ⟨(slotfn [ud, ud, .int .i64 0, ud, ud, ud, ud, ud, ud, ud, ud, ud, ud, ud, ud, ud, ud, ud]), rfl, ⟨H2.out.1, H2.out.2⟩, by omega⟩
 intro i a' w3 hI
 obtain ⟨s0, rfl, hMB, hk0⟩ := hI
 have H3 : Hid (_ ∧ _) := hMB
 clear hMB H2
 have hi6 : i < 6 := by omega
 by_cases hz : wd r i = 0
 ·have hrd : True := trivial
  clear hrd
  have hz' : wd r i = 0 := hz
  refine wp_seq ?_
  refine zB 1 [.quiet (.bool true)] H3 ?ho3 ?he3
  case ho3 => exact ak (by refine fun γ => ⟨rfl, fun w' h => ?_⟩; clear h; go_simp <;> omega) trivial
  intro _ w4 H4
  clear H3
  refine rN (wp_seq ?_)
  refine wp_cond_true rfl (wp_skip ?_)
  refine zA (wp_seq ?_)
  refine wp_block (wp_seq ?_)
  refine zB 4 [.quiet (.int .i64 ((i : Nat) : Int)), .quiet (.int .u64 (wd r i)), .quiet (.int .i64 ((i : Nat) : Int)), .quiet (.int .u64 (wd r i))] H4 ?ho4 ?he4
  case ho4 => exact ar (ak (fun γ => ⟨rfl, fun w' _ => ex_index6 rfl rfl rfl hi6⟩) (ar (ar trivial)))
  intro _ w5 H5
  clear H4
  refine rN (wp_seq ?_)
  refine zB 2 [.quiet (.int .u64 (wd r i)), .quiet (.bool false)] H5 ?ho5 ?he5
  case ho5 => exact ar (ak (by refine fun γ => ⟨rfl, fun w' h => ?_⟩; clear h; go_simp <;> omega) trivial)
  intro _ w6 H6
  clear H5
  refine rN (wp_cond_false rfl ?_)
  refine wp_skip (zH (zA ?_))
  refine zB 1 [.quiet (.int .i64 ((i + 1 : Nat) : Int))] H6 ?ho6 ?he6
  case ho6 => exact ak (by refine fun γ => ⟨rfl, fun w' h => ?_⟩; clear h; go_simp; rw [IntKind.wrap_i64]; omega) trivial
  intro _ w7 H7
  clear H6
  refine zF (l := [1]) rfl ?_
  refine zG (d := 6) rfl rfl rfl rfl ?_
  simp only [Act.put, sa, sz, ss]
  refine zE (zA ?_)
  exact ⟨i + 1, ⟨(slotfn [ud, ud, s0 2, .int .i64 ((i : Nat) : Int), .int .u64 (wd r i), ud, ud, .bool true, .int .i64 ((i : Nat) : Int), .int .u64 (wd r i), .int .u64 (wd r i), .bool false, s0 12, s0 13, s0 14, s0 15, s0 16, .int .i64 ((i + 1 : Nat) : Int)]), rfl, ⟨H7.out.1, H7.out.2⟩, by have h1 : i ≠ m := fun e => HM.out (e ▸ hz'); omega⟩, by have h1 : i ≠ m := fun e => HM.out (e ▸ hz'); omega⟩
 ·have hrd : True := trivial
  clear hrd
  have hij : i = m := by
   apply Classical.byContradiction
   intro hne
   exact hz (HZ.out i (by omega))
  subst hij
  refine wp_seq ?_
  refine zB 1 [.quiet (.bool true)] H3 ?ho7 ?he7
  case ho7 => exact ak (by refine fun γ => ⟨rfl, fun w' h => ?_⟩; clear h; go_simp <;> omega) trivial
  intro _ w8 H8
  clear H3
  refine rN (wp_seq ?_)
  refine wp_cond_true rfl (wp_skip ?_)
  refine zA (wp_seq ?_)
  refine wp_block (wp_seq ?_)
  refine zB 4 [.quiet (.int .i64 ((i : Nat) : Int)), .quiet (.int .u64 (wd r i)), .quiet (.int .i64 ((i : Nat) : Int)), .quiet (.int .u64 (wd r i))] H8 ?ho8 ?he8
  case ho8 => exact ar (ak (fun γ => ⟨rfl, fun w' _ => ex_index6 rfl rfl rfl hi6⟩) (ar (ar trivial)))
  intro _ w9 H9
  clear H8
  refine rN (wp_seq ?_)
  refine zB 2 [.quiet (.int .u64 (wd r i)), .quiet (.bool true)] H9 ?ho9 ?he9
  case ho9 => exact ar (ak (by refine fun γ => ⟨rfl, fun w' h => ?_⟩; clear h; go_simp <;> omega) trivial)
  intro _ w10 H10
  clear H9
  refine rN (wp_cond_true rfl (wp_seq ?_))
  refine zB 6 [.quiet (.int .i64 ((i : Nat) : Int)), .quiet (.int .i64 ((64 * i : Nat) : Int)), .quiet (.int .u64 (wd r i)), .call (.int .i64 ((c : Nat) : Int)), .quiet (.int .i64 ((64 * i + c : Nat) : Int)), .quiet (.int .i64 ((64 * i + c : Nat) : Int))] H10 ?ho10 ?he10
  case ho10 => exact ar (ak (by refine fun γ => ⟨rfl, fun w' h => ?_⟩; clear h; go_simp; rw [IntKind.wrap_i64]; omega) (ar (ac (fun w' h => eC call171 (C72.out w' (h.one 1 rfl))) (ak (by refine fun γ => ⟨rfl, fun w' h => ?_⟩; clear h; go_simp; rw [IntKind.wrap_i64]; omega) (ar trivial)))))
  intro _ w11 H11
  clear H10
  refine rN (wp_ret ?_)
  repeat (first | refine zM ?_ | refine zI ?_)
  refine bodyPost_ret (v := .int .i64 ((64 * i + c : Nat) : Int)) (by simp [results, Tryz.results161, go_sem, *]) rfl ?_
  exact ⟨rfl, H11.out.2⟩
theorem halve_gen (g o r u v k r' u' : Nat) (h : Int) (t : Bool) (hk : k < 384) (h0 : 0 ≤ h) (h1 : h < 10000)
  (c66 : ∀ w, Mm w [(0, dtab)] → Calls Tryz.prog 161 #[N r] w (Rt w (.int .i64 ((k : Nat) : Int))))
  (c53 : ∀ w, Calls Tryz.prog 36 #[N r, .int .i64 (-((k : Nat) : Int))] w (Rt w (N r')))
  (d53 : ∀ w, Calls Tryz.prog 36 #[N u, .int .i64 ((k : Nat) : Int)] w (Rt w (N u'))) (w : World) (hm : Mm w [(g, wkc o r u v h t), (0, dtab)]) :
  Calls Tryz.prog 129 #[PT g 0] w fun e w' => e = .returned (.tuple #[]) ∧ Mm w' [(g, wkc o r' u' v (h + ((k : Nat) : Int)) t)] ∧ Kp g w w' := by
 have H0 : Hid (_ ∧ _) := ⟨hm, Kp.refl g w⟩
 clear hm
 have C66 : Hid _ := c66
 have C53 : Hid _ := c53
 have D53 : Hid _ := d53
 clear c66 c53 d53
 go_enter Tryz.func129, Tryz.ntmps129
 refine wp_seq ?_
 refine zC 6 [.quiet (PT g 0), .quiet (PT g 0), .quiet (PT g 6), .quiet (N r), .call (.int .i64 ((k : Nat) : Int)), .quiet (.int .i64 ((k : Nat) : Int))] (sB H0) ?ho1 ?he1
 case ho1 => exact ar (ak (by refine fun γ => ⟨rfl, fun w' hh => ?_⟩; clear hh; go_simp) (ak (by refine fun γ => ⟨rfl, fun w' hh => ?_⟩; clear hh; go_simp) (ak (fun γ => ⟨rfl, fun w' hh => ex_load6 hh 0 rfl rfl rfl rfl⟩) (ak (fun γ => ⟨rfl, fun w' hh => eC call161 (C66.out w' (hh.one 1 rfl))⟩) (ar trivial)))))
 intro γ w1 l hM hl
 have H1 := zQ H0 hM.below
 clear hM hl l γ
 refine rN (wp_seq ?_)
 refine zC 10 [.quiet (PT g 0), .quiet (PT g 0), .quiet (PT g 0), .quiet (PT g 6), .quiet (N r), .quiet (.int .i64 ((k : Nat) : Int)), .quiet (.int .i64 (-((k : Nat) : Int))), .call (N r'), .quiet (PT g 0), .quiet (PT g 6)] (sB H1) ?ho2 ?he2
 case ho2 => exact ar (ar (ak (by refine fun γ => ⟨rfl, fun w' hh => ?_⟩; clear hh; go_simp) (ak (by refine fun γ => ⟨rfl, fun w' hh => ?_⟩; clear hh; go_simp) (ak (fun γ => ⟨rfl, fun w' hh => ex_load6 hh 0 rfl rfl rfl rfl⟩) (ar (ak (by refine fun γ => ⟨rfl, fun w' hh => ?_⟩; clear hh; go_simp; rw [IntKind.wrap_i64]; omega) (ak (fun γ => ⟨rfl, fun w' hh => eC call36 (C53.out w')⟩) (ak (by refine fun γ => ⟨rfl, fun w' hh => ?_⟩; clear hh; go_simp) (ak (by refine fun γ => ⟨rfl, fun w' hh => ?_⟩; clear hh; go_simp) trivial)))))))))
 intro γ w2 l hM hl
 have H2 := zQ H1 hM.below
 clear hM hl l H1 γ
 refine zF (l := [10]) rfl ?_
 refine sH rfl (fun h => zO h 0 rfl rfl rfl rfl (Nat.le_of_ble_eq_true rfl)) 0 [(_, wkc o r' u v h t), _] H2 (Or.inl rfl) fun w3 H3 => ?_
 clear H2
 refine zE (zA (wp_seq ?_))
 refine zC 9 [.quiet (PT g 0), .quiet (PT g 0), .quiet (PT g 0), .quiet (PT g 12), .quiet (N u), .quiet (.int .i64 ((k : Nat) : Int)), .call (N u'), .quiet (PT g 0), .quiet (PT g 12)] (sB H3) ?ho3 ?he3
 case ho3 => exact ar (ar (ak (by refine fun γ => ⟨rfl, fun w' hh => ?_⟩; clear hh; go_simp) (ak (by refine fun γ => ⟨rfl, fun w' hh => ?_⟩; clear hh; go_simp) (ak (fun γ => ⟨rfl, fun w' hh => ex_load6 hh 0 rfl rfl rfl rfl⟩) (ar (ak (fun γ => ⟨rfl, fun w' hh => eC call36 (D53.out w')⟩) (ak (by refine fun γ => ⟨rfl, fun w' hh => ?_⟩; clear hh; go_simp) (ak (by refine fun γ => ⟨rfl, fun w' hh => ?_⟩; clear hh; go_simp) trivial))))))))
 intro γ w4 l hM hl
 have H4 := zQ H3 hM.below
 clear hM hl l H3 γ
 refine zF (l := [9]) rfl ?_
 refine sH rfl (fun h => zO h 0 rfl rfl rfl rfl (Nat.le_of_ble_eq_true rfl)) 0 [(_, wkc o r' u' v h t), _] H4 (Or.inl rfl) fun w5 H5 => ?_
 clear H4
 refine zE (zA ?_)
 refine zC 8 [.quiet (PT g 0), .quiet (PT g 0), .quiet (PT g 24), .quiet (.int .i64 h), .quiet (.int .i64 ((k : Nat) : Int)), .quiet (.int .i64 (h + ((k : Nat) : Int))), .quiet (PT g 0), .quiet (PT g 24)] (sB H5) ?ho4 ?he4
 case ho4 => exact ar (ak (by refine fun γ => ⟨rfl, fun w' hh => ?_⟩; clear hh; go_simp) (ak (by refine fun γ => ⟨rfl, fun w' hh => ?_⟩; clear hh; go_simp) (ak (fun γ => ⟨rfl, fun w' hh => ex_loadI hh 0 rfl rfl rfl rfl⟩) (ar (ak (by refine fun γ => ⟨rfl, fun w' hh => ?_⟩; clear hh; go_simp; rw [IntKind.wrap_i64]; omega) (ak (by refine fun γ => ⟨rfl, fun w' hh => ?_⟩; clear hh; go_simp) (ak (by refine fun γ => ⟨rfl, fun w' hh => ?_⟩; clear hh; go_simp) trivial)))))))
 intro γ w6 l hM hl
 have H6 := zQ H5 hM.below
 clear hM hl l H5 γ
 refine zF (l := [8]) rfl ?_
 refine sH rfl (fun h => ex_storeI h 0 rfl rfl Tryz.sizeOf3 rfl rfl (Nat.le_of_ble_eq_true rfl)) 0 [(_, wkc o r' u' v (h + ((k : Nat) : Int)) t), _] H6 (Or.inl rfl) fun w7 H7 => ?_
 clear H6
 refine zE ?_
 refine bodyPost_end (v := .tuple #[]) (by simp [results, Tryz.results129, go_sem]) rfl ?_
 exact ⟨rfl, H7.out.1.one 0 rfl, H7.out.2⟩
theorem subtract_1 (g o r u v x y : Nat) (h : Int) (t : Bool)
  (c31 : ∀ w, Calls Tryz.prog 133 #[N r, N o] w (Rt w (.int .i64 (-1))))
  (c40 : ∀ w, Calls Tryz.prog 127 #[N o, N r] w (Rt w (.tuple #[N x, .bool false])))
  (c45 : ∀ w, Calls Tryz.prog 37 #[N u, N v] w (Rt w (.tuple #[N y, .bool false]))) (w : World) (hm : Mm w [(g, wkc o r u v h t)]) :
  Calls Tryz.prog 130 #[PT g 0] w fun e w' => e = .returned (.tuple #[]) ∧ Mm w' [(g, wkc r x v y h (!t))] ∧ Kp g w w' := by
 have H0 : Hid (_ ∧ _) := ⟨hm, Kp.refl g w⟩
 clear hm
 have C31 : Hid _ := c31
 have C40 : Hid _ := c40
 have C45 : Hid _ := c45
 clear c31 c40 c45
 go_enter Tryz.func130, Tryz.ntmps130
 refine wp_seq (wp_seq ?_)
 refine zS 10 [.quiet (PT g 0), .quiet (PT g 0), .quiet (PT g 6), .quiet (N r), .quiet (PT g 0), .quiet (PT g 0), .quiet (PT g 0), .quiet (N o), .call (.int .i64 (-1)), .quiet (.bool true)] (sB H0) ?ho1 ?he1
 case ho1 => exact ar (ak (by refine fun γ => ⟨rfl, fun w' hh => ?_⟩; clear hh; go_simp) (ak (by refine fun γ => ⟨rfl, fun w' hh => ?_⟩; clear hh; go_simp) (ak (fun γ => ⟨rfl, fun w' hh => ex_load6 hh 0 rfl rfl rfl rfl⟩) (ar (ak (by refine fun γ => ⟨rfl, fun w' hh => ?_⟩; clear hh; go_simp) (ak (by refine fun γ => ⟨rfl, fun w' hh => ?_⟩; clear hh; go_simp) (ak (fun γ => ⟨rfl, fun w' hh => ex_load6 hh 0 rfl rfl rfl rfl⟩) (ak (fun γ => ⟨rfl, fun w' hh => eC call133 (C31.out w')⟩) (ak (by refine fun γ => ⟨rfl, fun w' hh => ?_⟩; clear hh; go_simp) trivial)))))))))
 intro γ w1 l hM hl
 have H1 := zQ H0 hM.below
 clear hM hl l γ
 refine rN (wp_cond_true rfl (wp_seq ?_))
 refine walk_put (by kernel_rfl) 12 [1] [.quiet (PT g 0), .quiet (PT g 0), .quiet (PT g 0), .quiet (PT g 0), .quiet (PT g 6), .quiet (N r), .quiet (PT g 0), .quiet (PT g 0), .quiet (PT g 0), .quiet (N o), .quiet (PT g 0), .quiet (PT g 0)] _ ?pre2 ?F2 _ ?hpre2 (fun γ => ?hF2) (by kernel_rfl) rfl trivial (sB H1) ?ho2 ?hla2 ?he2
 case hpre2 => simp only [tk, tz]; rfl
 case hF2 => simp only [fill, Kind.val, Act.put, sa, sz, ss]; rfl
 case ho2 =>
  refine ar ?_
  refine ar ?_
  refine ar ?_
  refine ak (by refine fun γ => ⟨rfl, fun w' hh => ?_⟩; clear hh; go_simp) ?_
  refine ak (by refine fun γ => ⟨rfl, fun w' hh => ?_⟩; clear hh; go_simp) ?_
  refine ak (fun γ => ⟨rfl, fun w' hh => ex_load6 hh 0 rfl rfl rfl rfl⟩) ?_
  refine ar ?_
  refine ak (by refine fun γ => ⟨rfl, fun w' hh => ?_⟩; clear hh; go_simp) ?_
  refine ak (by refine fun γ => ⟨rfl, fun w' hh => ?_⟩; clear hh; go_simp) ?_
  refine ak (fun γ => ⟨rfl, fun w' hh => ex_load6 hh 0 rfl rfl rfl rfl⟩) ?_
  refine ak (by refine fun γ => ⟨rfl, fun w' hh => ?_⟩; clear hh; go_simp) ?_
  refine ak (by refine fun γ => ⟨rfl, fun w' hh => ?_⟩; clear hh; go_simp) ?_
  exact trivial
 case hla2 => exact ⟨⟨_, _, rfl, rfl, fun γ => ⟨rfl, fun w' => by first | rfl | go_simp⟩⟩, trivial⟩
 intro γ w2 l hM hl
 have H2 := zQ H1 hM.below
 clear hM hl l H1 γ
 refine ⟨_, zO H2.out.1 0 rfl rfl rfl rfl (Nat.le_of_ble_eq_true rfl), ?_⟩
 have H3 : Hid (Mm (w2.setCells g 0 (zD r)) [(g, wkc r r u v h t)] ∧ Kp g w (w2.setCells g 0 (zD r))) := ⟨H2.out.1.put 0 (off := 0) (vs := zD r) rfl (Nat.le_of_ble_eq_true rfl), H2.out.2.put (Or.inl rfl)⟩
 clear H2
 generalize hgw : World.setCells _ _ _ _ = w3 at H3 ⊢
 clear hgw
 refine zF (l := [13, 14, 15]) rfl ?_
 refine zG (d := 24) (v := PT g 0) (w' := w3) rfl rfl rfl (by go_simp) ?_
 simp only [Act.put, sa, sz, ss]
 refine zG (d := 25) (v := PT g 6) (w' := w3) rfl rfl rfl (by go_simp) ?_
 simp only [Act.put, sa, sz, ss]
 refine sH rfl (fun h => zO h 0 rfl rfl rfl rfl (Nat.le_of_ble_eq_true rfl)) 0 [(_, wkc r o u v h t)] H3 (Or.inl rfl) fun w4 H4 => ?_
 clear H3
 refine zE (zA (wp_seq ?_))
 refine walk_put (by kernel_rfl) 12 [1] [.quiet (PT g 0), .quiet (PT g 0), .quiet (PT g 0), .quiet (PT g 0), .quiet (PT g 18), .quiet (N v), .quiet (PT g 0), .quiet (PT g 0), .quiet (PT g 12), .quiet (N u), .quiet (PT g 0), .quiet (PT g 12)] _ ?pre3 ?F3 _ ?hpre3 (fun γ => ?hF3) (by kernel_rfl) rfl trivial (sB H4) ?ho3 ?hla3 ?he3
 case hpre3 => simp only [tk, tz]; rfl
 case hF3 => simp only [fill, Kind.val, Act.put, sa, sz, ss]; rfl
 case ho3 =>
  refine ar ?_
  refine ar ?_
  refine ar ?_
  refine ak (by refine fun γ => ⟨rfl, fun w' hh => ?_⟩; clear hh; go_simp) ?_
  refine ak (by refine fun γ => ⟨rfl, fun w' hh => ?_⟩; clear hh; go_simp) ?_
  refine ak (fun γ => ⟨rfl, fun w' hh => ex_load6 hh 0 rfl rfl rfl rfl⟩) ?_
  refine ar ?_
  refine ak (by refine fun γ => ⟨rfl, fun w' hh => ?_⟩; clear hh; go_simp) ?_
  refine ak (by refine fun γ => ⟨rfl, fun w' hh => ?_⟩; clear hh; go_simp) ?_
  refine ak (fun γ => ⟨rfl, fun w' hh => ex_load6 hh 0 rfl rfl rfl rfl⟩) ?_
  refine ak (by refine fun γ => ⟨rfl, fun w' hh => ?_⟩; clear hh; go_simp) ?_
  refine ak (by refine fun γ => ⟨rfl, fun w' hh => ?_⟩; clear hh; go_simp) ?_
  exact trivial
 case hla3 => exact ⟨⟨_, _, rfl, rfl, fun γ => ⟨rfl, fun w' => by first | rfl | go_simp⟩⟩, trivial⟩
 intro γ w5 l hM hl
 have H5 := zQ H4 hM.below
 clear hM hl l H4 γ
 refine ⟨_, zO H5.out.1 0 rfl rfl rfl rfl (Nat.le_of_ble_eq_true rfl), ?_⟩
 have H6 : Hid (Mm (w5.setCells g 12 (zD v)) [(g, wkc r o v v h t)] ∧ Kp g w (w5.setCells g 12 (zD v))) := ⟨H5.out.1.put 0 (off := 12) (vs := zD v) rfl (Nat.le_of_ble_eq_true rfl), H5.out.2.put (Or.inl rfl)⟩
 clear H5
 generalize hgw : World.setCells _ _ _ _ = w6 at H6 ⊢
 clear hgw
 refine zF (l := [13, 14, 15]) rfl ?_
 refine zG (d := 38) (v := PT g 0) (w' := w6) rfl rfl rfl (by go_simp) ?_
 simp only [Act.put, sa, sz, ss]
 refine zG (d := 39) (v := PT g 18) (w' := w6) rfl rfl rfl (by go_simp) ?_
 simp only [Act.put, sa, sz, ss]
 refine sH rfl (fun h => zO h 0 rfl rfl rfl rfl (Nat.le_of_ble_eq_true rfl)) 0 [(_, wkc r o v u h t)] H6 (Or.inl rfl) fun w7 H7 => ?_
 clear H6
 refine zE (zA ?_)
 refine zC 8 [.quiet (PT g 0), .quiet (PT g 0), .quiet (PT g 0), .quiet (PT g 25), .quiet (.bool t), .quiet (.bool (!t)), .quiet (PT g 0), .quiet (PT g 25)] (sB H7) ?ho4 ?he4
 case ho4 => exact ar (ar (ak (by refine fun γ => ⟨rfl, fun w' hh => ?_⟩; clear hh; go_simp) (ak (by refine fun γ => ⟨rfl, fun w' hh => ?_⟩; clear hh; go_simp) (ak (fun γ => ⟨rfl, fun w' hh => ex_loadB hh 0 rfl rfl rfl rfl⟩) (ak (by refine fun γ => ⟨rfl, fun w' hh => ?_⟩; clear hh; go_simp) (ak (by refine fun γ => ⟨rfl, fun w' hh => ?_⟩; clear hh; go_simp) (ak (by refine fun γ => ⟨rfl, fun w' hh => ?_⟩; clear hh; go_simp) trivial)))))))
 intro γ w8 l hM hl
 have H8 := zQ H7 hM.below
 clear hM hl l H7 γ
 refine zF (l := [8]) rfl ?_
 refine sH rfl (fun h => ex_storeB h 0 rfl rfl Tryz.sizeOf4 rfl rfl (Nat.le_of_ble_eq_true rfl)) 0 [(_, wkc r o v u h (!t))] H8 (Or.inl rfl) fun w9 H9 => ?_
 clear H8
 refine zE (zA (wp_seq ?_))
 refine walk_put (by kernel_rfl) 15 [12] [.quiet (PT g 0), .quiet (PT g 0), .quiet (PT g 0), .quiet (PT g 6), .quiet (N o), .quiet (PT g 0), .quiet (PT g 0), .quiet (PT g 0), .quiet (N r), .call (.tuple #[N x, .bool false]), .quiet (.tuple #[N x, .bool false]), .quiet (N x), .quiet (.bool false), .quiet (PT g 0), .quiet (PT g 6)] _ ?pre5 ?F5 _ ?hpre5 (fun γ => ?hF5) (by kernel_rfl) rfl trivial (sB H9) ?ho5 ?hla5 ?he5
 case hpre5 => simp only [tk, tz]; rfl
 case hF5 => simp only [fill, Kind.val, Act.put, sa, sz, ss]; rfl
 case ho5 =>
  refine ar ?_
  refine ar ?_
  refine ak (by refine fun γ => ⟨rfl, fun w' hh => ?_⟩; clear hh; go_simp) ?_
  refine ak (by refine fun γ => ⟨rfl, fun w' hh => ?_⟩; clear hh; go_simp) ?_
  refine ak (fun γ => ⟨rfl, fun w' hh => ex_load6 hh 0 rfl rfl rfl rfl⟩) ?_
  refine ar ?_
  refine ak (by refine fun γ => ⟨rfl, fun w' hh => ?_⟩; clear hh; go_simp) ?_
  refine ak (by refine fun γ => ⟨rfl, fun w' hh => ?_⟩; clear hh; go_simp) ?_
  refine ak (fun γ => ⟨rfl, fun w' hh => ex_load6 hh 0 rfl rfl rfl rfl⟩) ?_
  refine ak (fun γ => ⟨rfl, fun w' hh => eC call127 (C40.out w')⟩) ?_
  refine ar ?_
  refine ak (by refine fun γ => ⟨rfl, fun w' hh => ?_⟩; clear hh; go_simp) ?_
  refine ak (by refine fun γ => ⟨rfl, fun w' hh => ?_⟩; clear hh; go_simp) ?_
  refine ak (by refine fun γ => ⟨rfl, fun w' hh => ?_⟩; clear hh; go_simp) ?_
  refine ak (by refine fun γ => ⟨rfl, fun w' hh => ?_⟩; clear hh; go_simp) ?_
  exact trivial
 case hla5 => exact ⟨⟨_, _, rfl, rfl, fun γ => ⟨rfl, fun w' => by first | rfl | go_simp⟩⟩, trivial⟩
 intro γ w10 l hM hl
 have H10 := zQ H9 hM.below
 clear hM hl l H9 γ
 refine ⟨_, zO H10.out.1 0 rfl rfl rfl rfl (Nat.le_of_ble_eq_true rfl), ?_⟩
 have H11 : Hid (Mm (w10.setCells g 6 (zD x)) [(g, wkc r x v u h (!t))] ∧ Kp g w (w10.setCells g 6 (zD x))) := ⟨H10.out.1.put 0 (off := 6) (vs := zD x) rfl (Nat.le_of_ble_eq_true rfl), H10.out.2.put (Or.inl rfl)⟩
 clear H10
 generalize hgw : World.setCells _ _ _ _ = w11 at H11 ⊢
 clear hgw
 refine rN ?_
 refine walk_put (by kernel_rfl) 15 [12] [.quiet (PT g 0), .quiet (PT g 0), .quiet (PT g 0), .quiet (PT g 18), .quiet (N u), .quiet (PT g 0), .quiet (PT g 0), .quiet (PT g 12), .quiet (N v), .call (.tuple #[N y, .bool false]), .quiet (.tuple #[N y, .bool false]), .quiet (N y), .quiet (.bool false), .quiet (PT g 0), .quiet (PT g 18)] _ ?pre6 ?F6 _ ?hpre6 (fun γ => ?hF6) (by kernel_rfl) rfl trivial (sB H11) ?ho6 ?hla6 ?he6
 case hpre6 => simp only [tk, tz]; rfl
 case hF6 => simp only [fill, Kind.val, Act.put, sa, sz, ss]; rfl
 case ho6 =>
  refine ar ?_
  refine ar ?_
  refine ak (by refine fun γ => ⟨rfl, fun w' hh => ?_⟩; clear hh; go_simp) ?_
  refine ak (by refine fun γ => ⟨rfl, fun w' hh => ?_⟩; clear hh; go_simp) ?_
  refine ak (fun γ => ⟨rfl, fun w' hh => ex_load6 hh 0 rfl rfl rfl rfl⟩) ?_
  refine ar ?_
  refine ak (by refine fun γ => ⟨rfl, fun w' hh => ?_⟩; clear hh; go_simp) ?_
  refine ak (by refine fun γ => ⟨rfl, fun w' hh => ?_⟩; clear hh; go_simp) ?_
  refine ak (fun γ => ⟨rfl, fun w' hh => ex_load6 hh 0 rfl rfl rfl rfl⟩) ?_
  refine ak (fun γ => ⟨rfl, fun w' hh => eC call37 (C45.out w')⟩) ?_
  refine ar ?_
  refine ak (by refine fun γ => ⟨rfl, fun w' hh => ?_⟩; clear hh; go_simp) ?_
  refine ak (by refine fun γ => ⟨rfl, fun w' hh => ?_⟩; clear hh; go_simp) ?_
  refine ak (by refine fun γ => ⟨rfl, fun w' hh => ?_⟩; clear hh; go_simp) ?_
  refine ak (by refine fun γ => ⟨rfl, fun w' hh => ?_⟩; clear hh; go_simp) ?_
  exact trivial
 case hla6 => exact ⟨⟨_, _, rfl, rfl, fun γ => ⟨rfl, fun w' => by first | rfl | go_simp⟩⟩, trivial⟩
 intro γ w12 l hM hl
 have H12 := zQ H11 hM.below
 clear hM hl l H11 γ
 refine ⟨_, zO H12.out.1 0 rfl rfl rfl rfl (Nat.le_of_ble_eq_true rfl), ?_⟩
 have H13 : Hid (Mm (w12.setCells g 18 (zD y)) [(g, wkc r x v y h (!t))] ∧ Kp g w (w12.setCells g 18 (zD y))) := ⟨H12.out.1.put 0 (off := 18) (vs := zD y) rfl (Nat.le_of_ble_eq_true rfl), H12.out.2.put (Or.inl rfl)⟩
 clear H12
 generalize hgw : World.setCells _ _ _ _ = w13 at H13 ⊢
 clear hgw
 refine rest0 rfl ?_
 refine bodyPost_end (v := .tuple #[]) (by simp [results, Tryz.results130, go_sem]) rfl ?_
 exact ⟨rfl, H13.out.1.one 0 rfl, H13.out.2⟩
theorem subtract_2 (g o r u v x y : Nat) (h : Int) (t : Bool) (c : Int) (hc : ¬ c < 0)
  (c31 : ∀ w, Calls Tryz.prog 133 #[N r, N o] w (Rt w (.int .i64 c)))
  (c40 : ∀ w, Calls Tryz.prog 127 #[N r, N o] w (Rt w (.tuple #[N x, .bool false])))
  (c45 : ∀ w, Calls Tryz.prog 37 #[N v, N u] w (Rt w (.tuple #[N y, .bool false]))) (w : World) (hm : Mm w [(g, wkc o r u v h t)]) :
  Calls Tryz.prog 130 #[PT g 0] w fun e w' => e = .returned (.tuple #[]) ∧ Mm w' [(g, wkc o x u y h t)] ∧ Kp g w w' := by
 have H0 : Hid (_ ∧ _) := ⟨hm, Kp.refl g w⟩
 clear hm
 have C31 : Hid _ := c31
 have C40 : Hid _ := c40
 have C45 : Hid _ := c45
 clear c31 c40 c45
 go_enter Tryz.func130, Tryz.ntmps130
 refine wp_seq (wp_seq ?_)
 refine zS 10 [.quiet (PT g 0), .quiet (PT g 0), .quiet (PT g 6), .quiet (N r), .quiet (PT g 0), .quiet (PT g 0), .quiet (PT g 0), .quiet (N o), .call (.int .i64 c), .quiet (.bool false)] (sB H0) ?ho1 ?he1
 case ho1 => exact ar (ak (by refine fun γ => ⟨rfl, fun w' hh => ?_⟩; clear hh; go_simp) (ak (by refine fun γ => ⟨rfl, fun w' hh => ?_⟩; clear hh; go_simp) (ak (fun γ => ⟨rfl, fun w' hh => ex_load6 hh 0 rfl rfl rfl rfl⟩) (ar (ak (by refine fun γ => ⟨rfl, fun w' hh => ?_⟩; clear hh; go_simp) (ak (by refine fun γ => ⟨rfl, fun w' hh => ?_⟩; clear hh; go_simp) (ak (fun γ => ⟨rfl, fun w' hh => ex_load6 hh 0 rfl rfl rfl rfl⟩) (ak (fun γ => ⟨rfl, fun w' hh => eC call133 (C31.out w')⟩) (ak (by refine fun γ => ⟨rfl, fun w' hh => ?_⟩; clear hh; go_simp) trivial)))))))))
 intro γ w1 l hM hl
 have H1 := zQ H0 hM.below
 clear hM hl l γ
 refine rN (wp_cond_false rfl ?_)
 refine wp_skip (zA (wp_seq ?_))
 refine walk_put (by kernel_rfl) 15 [12] [.quiet (PT g 0), .quiet (PT g 0), .quiet (PT g 0), .quiet (PT g 6), .quiet (N r), .quiet (PT g 0), .quiet (PT g 0), .quiet (PT g 0), .quiet (N o), .call (.tuple #[N x, .bool false]), .quiet (.tuple #[N x, .bool false]), .quiet (N x), .quiet (.bool false), .quiet (PT g 0), .quiet (PT g 6)] _ ?pre2 ?F2 _ ?hpre2 (fun γ => ?hF2) (by kernel_rfl) rfl trivial (sB H1) ?ho2 ?hla2 ?he2
 case hpre2 => simp only [tk, tz]; rfl
 case hF2 => simp only [fill, Kind.val, Act.put, sa, sz, ss]; rfl
 case ho2 =>
  refine ar ?_
  refine ar ?_
  refine ak (by refine fun γ => ⟨rfl, fun w' hh => ?_⟩; clear hh; go_simp) ?_
  refine ak (by refine fun γ => ⟨rfl, fun w' hh => ?_⟩; clear hh; go_simp) ?_
  refine ak (fun γ => ⟨rfl, fun w' hh => ex_load6 hh 0 rfl rfl rfl rfl⟩) ?_
  refine ar ?_
  refine ak (by refine fun γ => ⟨rfl, fun w' hh => ?_⟩; clear hh; go_simp) ?_
  refine ak (by refine fun γ => ⟨rfl, fun w' hh => ?_⟩; clear hh; go_simp) ?_
  refine ak (fun γ => ⟨rfl, fun w' hh => ex_load6 hh 0 rfl rfl rfl rfl⟩) ?_
  refine ak (fun γ => ⟨rfl, fun w' hh => eC call127 (C40.out w')⟩) ?_
  refine ar ?_
  refine ak (by refine fun γ => ⟨rfl, fun w' hh => ?_⟩; clear hh; go_simp) ?_
  refine ak (by refine fun γ => ⟨rfl, fun w' hh => ?_⟩; clear hh; go_simp) ?_
  refine ak (by refine fun γ => ⟨rfl, fun w' hh => ?_⟩; clear hh; go_simp) ?_
  refine ak (by refine fun γ => ⟨rfl, fun w' hh => ?_⟩; clear hh; go_simp) ?_
  exact trivial
 case hla2 => exact ⟨⟨_, _, rfl, rfl, fun γ => ⟨rfl, fun w' => by first | rfl | go_simp⟩⟩, trivial⟩
 intro γ w2 l hM hl
 have H2 := zQ H1 hM.below
 clear hM hl l H1 γ
 refine ⟨_, zO H2.out.1 0 rfl rfl rfl rfl (Nat.le_of_ble_eq_true rfl), ?_⟩
 have H3 : Hid (Mm (w2.setCells g 6 (zD x)) [(g, wkc o x u v h t)] ∧ Kp g w (w2.setCells g 6 (zD x))) := ⟨H2.out.1.put 0 (off := 6) (vs := zD x) rfl (Nat.le_of_ble_eq_true rfl), H2.out.2.put (Or.inl rfl)⟩
 clear H2
 generalize hgw : World.setCells _ _ _ _ = w3 at H3 ⊢
 clear hgw
 refine rN ?_
 refine walk_put (by kernel_rfl) 15 [12] [.quiet (PT g 0), .quiet (PT g 0), .quiet (PT g 0), .quiet (PT g 18), .quiet (N v), .quiet (PT g 0), .quiet (PT g 0), .quiet (PT g 12), .quiet (N u), .call (.tuple #[N y, .bool false]), .quiet (.tuple #[N y, .bool false]), .quiet (N y), .quiet (.bool false), .quiet (PT g 0), .quiet (PT g 18)] _ ?pre3 ?F3 _ ?hpre3 (fun γ => ?hF3) (by kernel_rfl) rfl trivial (sB H3) ?ho3 ?hla3 ?he3
 case hpre3 => simp only [tk, tz]; rfl
 case hF3 => simp only [fill, Kind.val, Act.put, sa, sz, ss]; rfl
 case ho3 =>
  refine ar ?_
  refine ar ?_
  refine ak (by refine fun γ => ⟨rfl, fun w' hh => ?_⟩; clear hh; go_simp) ?_
  refine ak (by refine fun γ => ⟨rfl, fun w' hh => ?_⟩; clear hh; go_simp) ?_
  refine ak (fun γ => ⟨rfl, fun w' hh => ex_load6 hh 0 rfl rfl rfl rfl⟩) ?_
  refine ar ?_
  refine ak (by refine fun γ => ⟨rfl, fun w' hh => ?_⟩; clear hh; go_simp) ?_
  refine ak (by refine fun γ => ⟨rfl, fun w' hh => ?_⟩; clear hh; go_simp) ?_
  refine ak (fun γ => ⟨rfl, fun w' hh => ex_load6 hh 0 rfl rfl rfl rfl⟩) ?_
  refine ak (fun γ => ⟨rfl, fun w' hh => eC call37 (C45.out w')⟩) ?_
  refine ar ?_
  refine ak (by refine fun γ => ⟨rfl, fun w' hh => ?_⟩; clear hh; go_simp) ?_
  refine ak (by refine fun γ => ⟨rfl, fun w' hh => ?_⟩; clear hh; go_simp) ?_
  refine ak (by refine fun γ => ⟨rfl, fun w' hh => ?_⟩; clear hh; go_simp) ?_
  refine ak (by refine fun γ => ⟨rfl, fun w' hh => ?_⟩; clear hh; go_simp) ?_
  exact trivial
 case hla3 => exact ⟨⟨_, _, rfl, rfl, fun γ => ⟨rfl, fun w' => by first | rfl | go_simp⟩⟩, trivial⟩
 intro γ w4 l hM hl
 have H4 := zQ H3 hM.below
 clear hM hl l H3 γ
 refine ⟨_, zO H4.out.1 0 rfl rfl rfl rfl (Nat.le_of_ble_eq_true rfl), ?_⟩
 have H5 : Hid (Mm (w4.setCells g 18 (zD y)) [(g, wkc o x u y h t)] ∧ Kp g w (w4.setCells g 18 (zD y))) := ⟨H4.out.1.put 0 (off := 18) (vs := zD y) rfl (Nat.le_of_ble_eq_true rfl), H4.out.2.put (Or.inl rfl)⟩
 clear H4
 generalize hgw : World.setCells _ _ _ _ = w5 at H5 ⊢
 clear hgw
 refine rest0 rfl ?_
 refine bodyPost_end (v := .tuple #[]) (by simp [results, Tryz.results130, go_sem]) rfl ?_
 exact ⟨rfl, H5.out.1.one 0 rfl, H5.out.2⟩
structure WS where
 o : Nat
 r : Nat
 u : Nat
 v : Nat
 h : Nat
 t : Bool
structure WI (n a : Nat) (z : WS) : Prop where
 odd : z.o % 2 = 1
 sum : z.o * z.v + z.r * z.u = n
 un : z.u < n
 vpos : 1 ≤ z.v
 rn : z.r ≤ n
 gcd : Nat.gcd z.o z.r = Nat.gcd n a
 hb : 2 ^ z.h * (z.o * z.r) ≤ n * n
 hb1 : 2 ^ z.h ≤ n * n
 c1 : if z.t = true then Cg n (z.o * 2 ^ z.h) (z.u * a) else Cg n (z.o * 2 ^ z.h + z.u * a) 0
 c2 : if z.t = true then Cg n (z.r * 2 ^ z.h + z.v * a) 0 else Cg n (z.r * 2 ^ z.h) (z.v * a)
theorem WI.start {n a : Nat} (ok : Ok n) : WI n a ⟨n, a % n, 0, 1, 0, false⟩ := by
 have h3 := ok.three
 have hl := Nat.mod_lt a ok.pos
 refine ⟨ok.odd, by simp, ok.pos, Nat.le_refl _, Nat.le_of_lt hl, ?_, ?_, ?_, ?_, ?_⟩
 ·show Nat.gcd n (a % n) = Nat.gcd n a
  rw [Nat.gcd_comm n (a % n), ← Nat.gcd_rec, Nat.gcd_comm]
 ·show 2 ^ 0 * (n * (a % n)) ≤ n * n
  rw [Nat.pow_zero, Nat.one_mul]
  exact Nat.mul_le_mul_left _ (Nat.le_of_lt hl)
 ·show 2 ^ 0 ≤ n * n
  have := Nat.mul_le_mul h3 h3
  rw [Nat.pow_zero]; omega
 ·show Cg n (n * 2 ^ 0 + 0 * a) 0
  rw [Nat.pow_zero, Nat.zero_mul, Nat.add_zero, Nat.mul_one]
  have := Cg.zero n 1
  rwa [Nat.one_mul] at this
 ·show Cg n (a % n * 2 ^ 0) (1 * a)
  rw [Nat.pow_zero, Nat.mul_one, Nat.one_mul]
  exact Cg.mod n a
theorem gcd_halve {o r1 k : Nat} (ho : o % 2 = 1) : Nat.gcd o (r1 * 2 ^ k) = Nat.gcd o r1 := by
 have hc : Nat.Coprime o (2 ^ k) := by
  apply Nat.Coprime.pow_right
  rw [Nat.coprime_comm]
  show Nat.gcd 2 o = 1
  rw [Nat.gcd_rec, ho]
  rfl
 exact Nat.Coprime.gcd_mul_right_cancel_right r1 hc.symm
theorem gcd_less {o r1 : Nat} (h : r1 ≤ o) : Nat.gcd r1 (o - r1) = Nat.gcd o r1 := by
 rw [Nat.gcd_comm o r1]
 have e : o = (o - r1) + r1 := by omega
 generalize o - r1 = d at e ⊢
 rw [e, Nat.gcd_add_self_right]
theorem WI.facts {n a o r u v h k r1 : Nat} {t : Bool} (I : WI n a ⟨o, r, u, v, h, t⟩) (hr : r ≠ 0) (er : r = r1 * 2 ^ k) : 1 ≤ r1 ∧ 1 ≤ o ∧ o ≤ n ∧ r1 ≤ n ∧ o * v + r1 * (u * 2 ^ k) = n ∧ u * 2 ^ k < n ∧ v + u * 2 ^ k ≤ n := by
 have hs := I.sum
 have hv := I.vpos
 have ho := I.odd
 have hrn := I.rn
 simp only at hs hv ho hrn
 have h1 : 1 ≤ r1 := by
  rcases Nat.eq_zero_or_pos r1 with e | e
  ·rw [e, Nat.zero_mul] at er; exact absurd er hr
  ·exact e
 have ho1 : 1 ≤ o := by omega
 have h2 : o * 1 ≤ o * v := Nat.mul_le_mul_left o hv
 have e1 : r * u = r1 * (u * 2 ^ k) := by rw [er, Nat.mul_assoc, Nat.mul_comm (2 ^ k)]
 rw [e1] at hs
 have h3 : 1 * (u * 2 ^ k) ≤ r1 * (u * 2 ^ k) := Nat.mul_le_mul_right _ h1
 have h4 : r1 * 1 ≤ r1 * 2 ^ k := Nat.mul_le_mul_left r1 (Nat.two_pow_pos k)
 have h5 : 1 * v ≤ o * v := Nat.mul_le_mul_right _ ho1
 refine ⟨h1, ho1, by omega, by omega, hs, by omega, by omega⟩
theorem cg_scale {n x y : Nat} (h : Cg n x y) (k : Nat) : Cg n (x * 2 ^ k) (y * 2 ^ k) := h.mulR _
theorem WI.conf {n a o r u v h k r1 : Nat} {t : Bool} (I : WI n a ⟨o, r, u, v, h, t⟩) (er : r = r1 * 2 ^ k) :
  (if t = true then Cg n (o * 2 ^ (h + k)) (u * 2 ^ k * a) else Cg n (o * 2 ^ (h + k) + u * 2 ^ k * a) 0) ∧ (if t = true then Cg n (r1 * 2 ^ (h + k) + v * a) 0 else Cg n (r1 * 2 ^ (h + k)) (v * a)) := by
 have h1 := I.c1
 have h2 := I.c2
 simp only at h1 h2
 have e1 : o * 2 ^ (h + k) = o * 2 ^ h * 2 ^ k := by rw [Nat.pow_add, Nat.mul_assoc]
 have e2 : u * 2 ^ k * a = u * a * 2 ^ k := Nat.mul_right_comm ..
 have e3 : r1 * 2 ^ (h + k) = r * 2 ^ h := by rw [er, Nat.pow_add, Nat.mul_assoc, Nat.mul_comm (2 ^ h)]
 rw [e1, e2, e3]
 refine ⟨?_, h2⟩
 cases t with
 | true => exact cg_scale h1 k
 | false =>
  have h3 := cg_scale h1 k
  rw [Nat.zero_mul, Nat.add_mul] at h3
  exact h3
theorem WI.next {n a o r u v h k r1 : Nat} {t : Bool} (I : WI n a ⟨o, r, u, v, h, t⟩) (hr : r ≠ 0) (er : r = r1 * 2 ^ k) (h1 : r1 % 2 = 1) :
  (r1 < o → WI n a ⟨r1, o - r1, v, u * 2 ^ k + v, h + k, !t⟩) ∧ (¬ r1 < o → WI n a ⟨o, r1 - o, u * 2 ^ k, v + u * 2 ^ k, h + k, t⟩) := by
 obtain ⟨p1, p2, p3, p4, p5, p6, p7⟩ := I.facts hr er
 obtain ⟨q1, q2⟩ := I.conf er
 have hv := I.vpos
 have ho := I.odd
 have hg := I.gcd
 have hb := I.hb
 simp only at hv ho hg hb
 rw [er, gcd_halve ho] at hg
 have eb : 2 ^ (h + k) * (o * r1) = 2 ^ h * (o * r) := by
  rw [er, Nat.pow_add]; simp only [Nat.mul_assoc, Nat.mul_comm, Nat.mul_left_comm]
 have hb2 : 2 ^ (h + k) * (o * r1) ≤ n * n := by rw [eb]; exact hb
 have hor : 1 ≤ o * r1 := Nat.mul_pos p2 p1
 have hb1 : 2 ^ (h + k) ≤ n * n := Nat.le_trans (by have := Nat.mul_le_mul_left (2 ^ (h + k)) hor; omega) hb2
 generalize hH : 2 ^ (h + k) = H at q1 q2 hb2 hb1
 generalize hU : u * 2 ^ k = U at q1 q2 p5 p6 p7 ⊢
 constructor
 ·intro hl
  refine ⟨h1, ?_, ?_, by show 1 ≤ U + v; omega, by show o - r1 ≤ n; omega, ?_, ?_, by show 2 ^ (h + k) ≤ n * n; rw [hH]; exact hb1, ?_, ?_⟩
  ·show r1 * (U + v) + (o - r1) * v = n
   have e : r1 * v + (o - r1) * v = o * v := by rw [← Nat.add_mul, show r1 + (o - r1) = o by omega]
   rw [Nat.mul_add]; omega
  ·show v < n
   rcases Nat.eq_zero_or_pos U with e | e
   ·rw [e, Nat.mul_zero, Nat.add_zero] at p5
    have : 2 * v ≤ o * v := Nat.mul_le_mul_right _ (by omega)
    omega
   ·have h5 : 1 * v ≤ o * v := Nat.mul_le_mul_right _ p2
    have h6 : 1 * 1 ≤ r1 * U := Nat.mul_le_mul p1 e
    omega
  ·show Nat.gcd r1 (o - r1) = Nat.gcd n a
   rw [gcd_less (by omega), hg]
  ·show 2 ^ (h + k) * (r1 * (o - r1)) ≤ n * n
   rw [hH]
   refine Nat.le_trans (Nat.mul_le_mul_left H ?_) hb2
   rw [Nat.mul_comm o r1]
   exact Nat.mul_le_mul_left r1 (by omega)
  ·cases t with
   | true =>
    show Cg n (r1 * 2 ^ (h + k) + v * a) 0
    rw [hH]; exact q2
   | false =>
    show Cg n (r1 * 2 ^ (h + k)) (v * a)
    rw [hH]; exact q2
  ·have e : (o - r1) * H + r1 * H = o * H := by rw [← Nat.add_mul, show o - r1 + r1 = o by omega]
   cases t with
   | true =>
    show Cg n ((o - r1) * 2 ^ (h + k)) ((U + v) * a)
    rw [hH, Nat.add_mul]
    have s1 : Cg n ((o - r1) * H + (r1 * H + v * a)) ((o - r1) * H + 0) := Cg.addL _ q2
    rw [Nat.add_zero, ← Nat.add_assoc, e] at s1
    exact s1.symm.trans (Cg.addR _ q1)
   | false =>
    show Cg n ((o - r1) * 2 ^ (h + k) + (U + v) * a) 0
    rw [hH, Nat.add_mul]
    have s1 : Cg n ((o - r1) * H + U * a + r1 * H) ((o - r1) * H + U * a + v * a) := Cg.addL _ q2
    have e2 : (o - r1) * H + U * a + r1 * H = o * H + U * a := by omega
    rw [e2] at s1
    have s2 := s1.symm.trans q1
    rwa [Nat.add_assoc] at s2
 ·intro hl
  refine ⟨ho, ?_, p6, by show 1 ≤ v + U; omega, by show r1 - o ≤ n; omega, ?_, ?_, by show 2 ^ (h + k) ≤ n * n; rw [hH]; exact hb1, ?_, ?_⟩
  ·show o * (v + U) + (r1 - o) * U = n
   have e : o * U + (r1 - o) * U = r1 * U := by rw [← Nat.add_mul, show o + (r1 - o) = r1 by omega]
   rw [Nat.mul_add]; omega
  ·show Nat.gcd o (r1 - o) = Nat.gcd n a
   rw [gcd_less (by omega), Nat.gcd_comm, hg]
  ·show 2 ^ (h + k) * (o * (r1 - o)) ≤ n * n
   rw [hH]
   exact Nat.le_trans (Nat.mul_le_mul_left H (Nat.mul_le_mul_left o (by omega))) hb2
  ·cases t with
   | true =>
    show Cg n (o * 2 ^ (h + k)) (U * a)
    rw [hH]; exact q1
   | false =>
    show Cg n (o * 2 ^ (h + k) + U * a) 0
    rw [hH]; exact q1
  ·have e : (r1 - o) * H + o * H = r1 * H := by rw [← Nat.add_mul, show r1 - o + o = r1 by omega]
   cases t with
   | true =>
    show Cg n ((r1 - o) * 2 ^ (h + k) + (v + U) * a) 0
    rw [hH, Nat.add_mul]
    have s1 : Cg n ((r1 - o) * H + v * a + o * H) ((r1 - o) * H + v * a + U * a) := Cg.addL _ q1
    have e2 : (r1 - o) * H + v * a + o * H = r1 * H + v * a := by omega
    rw [e2] at s1
    have s2 := s1.symm.trans q2
    rwa [Nat.add_assoc] at s2
   | false =>
    show Cg n ((r1 - o) * 2 ^ (h + k)) ((v + U) * a)
    rw [hH, Nat.add_mul]
    have s1 : Cg n ((r1 - o) * H + (o * H + U * a)) ((r1 - o) * H + 0) := Cg.addL _ q1
    rw [Nat.add_zero, ← Nat.add_assoc, e] at s1
    exact s1.symm.trans (Cg.addR _ q2)
def dv (n a i : Nat) : Nat := a * hf n ^ i % n
theorem end_true {n a o u v h : Nat} (ok : Ok n) (I : WI n a ⟨o, 0, u, v, h, true⟩) (ho : o = 1) : dv n u h * a % n = 1 := by
 have h1 := I.c1
 simp only [if_true] at h1
 rw [ho, Nat.one_mul] at h1
 have s : Cg n (dv n u h * a) 1 := by
  have s1 : Cg n (dv n u h * a) (u * hf n ^ h * a) := (Cg.mod _ _).mulR a
  rw [Nat.mul_right_comm] at s1
  exact s1.trans ((h1.symm.mulR _).trans (hf_pow n h ok.odd))
 unfold Cg at s
 rw [s, Nat.mod_eq_of_lt (by have := ok.three; omega)]
theorem end_false {n a o u v h : Nat} (ok : Ok n) (I : WI n a ⟨o, 0, u, v, h, false⟩) (ho : o = 1) : dv n (subm n 0 u) h * a % n = 1 := by
 have h1 := I.c1
 simp only [Bool.false_eq_true, if_false] at h1
 rw [ho, Nat.one_mul] at h1
 have hu := I.un
 simp only at hu
 have h2 : Cg n (subm n 0 u * a) (2 ^ h) := by
  have e1 : Cg n (subm n 0 u + u) 0 := by
   unfold subm
   rw [Nat.zero_add, Nat.mod_eq_of_lt hu]
   refine ((Cg.mod n (n - u)).addR u).trans ?_
   rw [show n - u + u = 1 * n by omega]
   exact Cg.zero n 1
  have e2 := e1.mulR a
  rw [Nat.zero_mul, Nat.add_mul] at e2
  have e3 : Cg n (subm n 0 u * a + (u * a + 2 ^ h)) (subm n 0 u * a + 0) := Cg.addL _ (by rw [Nat.add_comm]; exact h1)
  rw [Nat.add_zero, ← Nat.add_assoc] at e3
  have e4 := e2.addR (2 ^ h)
  rw [Nat.zero_add] at e4
  exact e3.symm.trans e4
 have s : Cg n (dv n (subm n 0 u) h * a) 1 := by
  have s1 : Cg n (dv n (subm n 0 u) h * a) (subm n 0 u * hf n ^ h * a) := (Cg.mod _ _).mulR a
  rw [Nat.mul_right_comm] at s1
  exact s1.trans ((h2.mulR _).trans (hf_pow n h ok.odd))
 unfold Cg at s
 rw [s, Nat.mod_eq_of_lt (by have := ok.three; omega)]
theorem WI.hlt {n a : Nat} {z : WS} (ok : Ok n) (I : WI n a z) : z.h < 768 := by
 have h1 := I.hb1
 have h2 := ok.top
 obtain ⟨m, hm, e⟩ := big_pow
 rcases Nat.lt_or_ge z.h 768 with h' | h'
 ·exact h'
 ·have h3 : 2 ^ (64 * m + 64 * m) ≤ 2 ^ z.h := Nat.pow_le_pow_right (by decide) (by omega)
  rw [Nat.pow_add, ← e] at h3
  have h4 : n * n < big * big := Nat.mul_lt_mul_of_lt_of_lt ok.big ok.big
  omega
theorem first_word (r : Nat) : ∀ m, r % 2 ^ (64 * m) ≠ 0 → ∃ i, i < m ∧ (∀ j, j < i → wd r j = 0) ∧ wd r i ≠ 0 := by
 intro m
 induction m with
 | zero => intro h; rw [Nat.mul_zero, Nat.pow_zero, Nat.mod_one] at h; exact absurd rfl h
 | succ m ih =>
  intro h
  by_cases h0 : r % 2 ^ (64 * m) = 0
  ·by_cases h1 : wd r m = 0
   ·exfalso
    apply h
    rw [mod_step, h0]
    have : wn r m = 0 := by have := wd_wn r m; omega
    rw [this]; simp
   ·refine ⟨m, by omega, fun j hj => ?_, h1⟩
    unfold wd
    have e : 2 ^ (64 * m) = 2 ^ (64 * j) * (18446744073709551616 * 2 ^ (64 * (m - j - 1))) := by
     have : 64 * m = 64 * j + (64 + 64 * (m - j - 1)) := by omega
     rw [this, Nat.pow_add, Nat.pow_add]
    obtain ⟨q, hq⟩ := Nat.dvd_of_mod_eq_zero h0
    rw [hq, e, Nat.mul_assoc, Nat.mul_div_cancel_left _ (pow_pos' j), Nat.mul_assoc, Nat.mul_mod_right]
    rfl
  ·obtain ⟨i, h1, h2, h3⟩ := ih h0
   exact ⟨i, by omega, h2, h3⟩
theorem low_zero (r : Nat) : ∀ m, (∀ j, j < m → wd r j = 0) → r % 2 ^ (64 * m) = 0 := by
 intro m
 induction m with
 | zero => intro _; rw [Nat.mul_zero, Nat.pow_zero, Nat.mod_one]
 | succ m ih =>
  intro h
  have : wn r m = 0 := by have := wd_wn r m; have := h m (by omega); omega
  rw [mod_step, ih (fun j hj => h j (by omega)), this]; simp
theorem trailing_any {r : Nat} (hr : r < big) (h0 : r ≠ 0) : ∃ k r1, k < 384 ∧ r = r1 * 2 ^ k ∧ r1 % 2 = 1 ∧ ∀ w, Mm w [(0, dtab)] → Calls Tryz.prog 161 #[N r] w (Rt w (.int .i64 ((k : Nat) : Int))) := by
 obtain ⟨m, hm, hz, hx⟩ := first_word r 6 (by rw [← big_eq, Nat.mod_eq_of_lt hr]; exact h0)
 have hx0 : wn r m ≠ 0 := by have := wd_wn r m; omega
 have hxl := wn_lt r m
 have hct : Lib.ctz 64 (wn r m) = Lib.ctzFrom 64 (wn r m) := by unfold Lib.ctz; rw [if_neg hx0]
 obtain ⟨q, hq, hc⟩ := Lib.ctzFrom_spec 64 (wn r m) (by omega) hxl
 rw [← hct] at hq hc
 generalize hcd : Lib.ctz 64 (wn r m) = c at hq hc
 have hlow := low_zero r m hz
 have hdm := Nat.div_add_mod r (2 ^ (64 * m))
 rw [hlow, Nat.add_zero] at hdm
 have hR := Nat.div_add_mod (r / 2 ^ (64 * m)) 18446744073709551616
 have hR2 : r / 2 ^ (64 * m) % 18446744073709551616 = wn r m := rfl
 rw [hR2] at hR
 obtain ⟨d, hd⟩ : ∃ d, 64 = c + (d + 1) := ⟨64 - c - 1, by omega⟩
 have h64 : 18446744073709551616 = 2 ^ c * (2 ^ d * 2) := by
  rw [← Nat.pow_succ, ← Nat.pow_add, ← hd]
 refine ⟨64 * m + c, 2 ^ d * 2 * (r / 2 ^ (64 * m) / 18446744073709551616) + (2 * q + 1), by omega, ?_, ?_, fun w ht => ?_⟩
 ·have e : r / 2 ^ (64 * m) = (2 ^ d * 2 * (r / 2 ^ (64 * m) / 18446744073709551616) + (2 * q + 1)) * 2 ^ c := by
   have e1 : 18446744073709551616 * (r / 2 ^ (64 * m) / 18446744073709551616) = 2 ^ d * 2 * (r / 2 ^ (64 * m) / 18446744073709551616) * 2 ^ c := by
    generalize r / 2 ^ (64 * m) / 18446744073709551616 = y
    rw [h64, Nat.mul_assoc (2 ^ c), Nat.mul_comm (2 ^ c)]
   rw [Nat.add_mul, ← e1, Nat.mul_comm (2 * q + 1), ← hq]
   exact hR.symm
  rw [Nat.pow_add, Nat.mul_comm (2 ^ (64 * m)), ← Nat.mul_assoc, ← e, Nat.mul_comm]
  exact hdm.symm
 ·rw [Nat.mul_right_comm]; omega
 ·refine trailing_gen r m c hm (by omega) hz hx (fun w ht => ?_) w ht
  have := tz_word (wn r m) hxl w ht
  rw [hcd] at this
  exact this
theorem dbp_1 (g n o s a K j : Nat) (hK : K < 1000) (hj : j = 0) (f : Nat → Nat) (f0 : f 0 = a)
  (co : ∀ w, Calls Tryz.prog 71 #[.int .u64 1] w (Rt w (N 1)))
  (cf : ∀ k w, Mm w [(g, zZ n o s)] → Calls Tryz.prog 128 #[PT g 0, N 1, N (f k)] w (Rt w (N (f (k + 1))))) (w : World) (hm : Mm w [(g, zZ n o s)]) :
  Calls Tryz.prog 132 #[PT g 0, N a, .int .i64 ((384 * K + j : Nat) : Int)] w (Rt w (N (f K))) := by
 have H0 : Hid (_ ∧ _) := ⟨hm, Below.refl w.heap.size w⟩
 clear hm
 have CO : Hid _ := co
 have CF : Hid _ := cf
 have F0 : Hid _ := f0
 clear co cf f0
 go_enter Tryz.func132, Tryz.ntmps132
 refine wp_seq ?_
 refine zC 2 [.made (zD a) 24, .made zero6 24] (sB H0) ?ho1 ?he1
 case ho1 => exact am (yF rfl rfl) (am (zJ rfl) trivial)
 intro γ w1 l hM hl
 have H1 : Hid (Mm w1 ([(γ 0, zD a), (γ 1, zero6)] ++ _) ∧ _) := wB H0 hM hl [0, 1]
 have o1_0 := vB H0 hM hl 0
 have o1_1 := vB H0 hM hl 1
 clear hM hl l
 generalize γ 0 = γ1_0 at H1 o1_0 ⊢
 generalize γ 1 = γ1_1 at H1 o1_1 ⊢
 clear γ
 refine rN (wp_seq (wp_block ?_))
 refine loop_ghost (α := Nat) (fun k a' w' => ∃ s0 : Nat → Value, a' = ⟨#[PT g 0, N a, .int .i64 ((384 * (K - k) + j : Nat) : Int), ud, PT γ1_0 0, ud, PT γ1_1 0, s0 7, s0 8, s0 9, s0 10, s0 11, s0 12, s0 13, s0 14, ud, ud, ud, ud, ud, ud, ud, ud, ud, ud], []⟩ ∧ (Mm w' [(γ1_0, zD (f k)), (γ1_1, zero6), (g, zZ n o s)] ∧ Below w.heap.size w w') ∧ k ≤ K) (fun k => K - k) 0 ?st0 ?rd0
 case st0 => exact ⟨(slotfn [ud, ud, ud, ud, ud, ud, ud, ud, ud, ud, ud, ud, ud, ud, ud]), rfl, ⟨H1.out.1.at0 (by rw [F0.out]), H1.out.2⟩, by omega⟩
 intro k a' w2 hI
 obtain ⟨s0, rfl, hMB, hk0⟩ := hI
 have H2 : Hid (_ ∧ _) := hMB
 clear hMB H1
 by_cases hlt : k < K
 ·have hrd : True := trivial
  clear hrd
  refine wp_seq (wp_seq ?_)
  refine zB 2 [.quiet (.int .i64 ((384 * (K - k) + j : Nat) : Int)), .quiet (.bool true)] H2 ?ho2 ?he2
  case ho2 => exact ar (ak (by refine fun γ => ⟨rfl, fun w' h => ?_⟩; clear h; go_simp <;> omega) trivial)
  intro _ w3 H3
  clear H2
  refine rN (wp_cond_true rfl ?_)
  refine wp_skip (zA ?_)
  refine wp_block (wp_seq ?_)
  refine zP 4 [.quiet (PT g 0), .call (N 1), .quiet (N (f k)), .call (N (f (k + 1)))] H3 ?ho3 ?he3
  case ho3 => exact ar (ac (fun w' h => eC call71 (CO.out w')) (bN 0 (ac (fun w' h => eC call128 (CF.out k w' (h.one 2 rfl))) trivial)))
  intro _ w4 H4
  clear H3
  refine zF (l := [4]) rfl ?_
  refine sG rfl (fun h => zO h 0 rfl rfl rfl rfl (Nat.le_of_ble_eq_true rfl)) 0 [(_, zD (f (k + 1))), _, _] H4 o1_0 fun w5 H5 => ?_
  clear H4
  refine zE (zA ?_)
  refine zB 2 [.quiet (.int .i64 ((384 * (K - k) + j : Nat) : Int)), .quiet (.int .i64 ((384 * (K - (k + 1)) + j : Nat) : Int))] H5 ?ho4 ?he4
  case ho4 => exact ar (ak (by refine fun γ => ⟨rfl, fun w' h => ?_⟩; clear h; go_simp; rw [IntKind.wrap_i64]; omega) trivial)
  intro _ w6 H6
  clear H5
  refine zF (l := [2]) rfl ?_
  refine zG (d := 2) rfl rfl rfl rfl ?_
  simp only [Act.put, sa, sz, ss]
  refine zE (zH (zA ?_))
  exact ⟨k + 1, ⟨(slotfn [ud, ud, ud, ud, ud, ud, ud, .int .i64 ((384 * (K - k) + j : Nat) : Int), .bool true, PT g 0, N 1, N (f k), N (f (k + 1)), .int .i64 ((384 * (K - k) + j : Nat) : Int), .int .i64 ((384 * (K - (k + 1)) + j : Nat) : Int)]), rfl, ⟨H6.out.1, H6.out.2⟩, by omega⟩, by omega⟩
 have hkK : k = K := by omega
 subst hkK
 refine wp_seq (wp_seq ?_)
 refine zB 2 [.quiet (.int .i64 ((384 * (k - k) + j : Nat) : Int)), .quiet (.bool false)] H2 ?ho5 ?he5
 case ho5 => exact ar (ak (by refine fun γ => ⟨rfl, fun w' h => ?_⟩; clear h; go_simp <;> omega) trivial)
 intro _ w7 H7
 clear H2
 refine rN (wp_cond_false rfl ?_)
 refine wp_exit ?_
 repeat refine zY ?_
 refine zT ?_
 refine zA (wp_seq (wp_seq ?_))
 refine zB 2 [.quiet (.int .i64 ((384 * (k - k) + j : Nat) : Int)), .quiet (.bool true)] H7 ?ho6 ?he6
 case ho6 => exact ar (ak (by refine fun γ => ⟨rfl, fun w' h => ?_⟩; clear h; go_simp <;> omega) trivial)
 intro _ w8 H8
 clear H7
 refine rN (wp_cond_true rfl (wp_seq ?_))
 refine zB 1 [.quiet (N (f k))] H8 ?ho7 ?he7
 case ho7 => exact bN 0 trivial
 intro _ w9 H9
 clear H8
 refine zF (l := [1]) rfl ?_
 refine sG rfl (fun h => zO h 1 rfl rfl rfl rfl (Nat.le_of_ble_eq_true rfl)) 1 [_, (_, zD (f k)), _] H9 o1_1 fun w10 H10 => ?_
 clear H9
 refine zE (zA (wp_ret ?_))
 repeat (first | refine zM ?_ | refine zI ?_)
 have c0 := H10.out.1.get 1 rfl 0 rfl
 have c1 := H10.out.1.get 1 rfl 1 rfl
 have c2 := H10.out.1.get 1 rfl 2 rfl
 have c3 := H10.out.1.get 1 rfl 3 rfl
 have c4 := H10.out.1.get 1 rfl 4 rfl
 have c5 := H10.out.1.get 1 rfl 5 rfl
 refine bodyPost_ret (v := N (f k)) (by simp [results, Tryz.results132, go_sem, *]) rfl ?_
 exact ⟨rfl, H10.out.2⟩
theorem dbp_2 (g n o s a K j y x : Nat) (hK : K < 1000) (hj : 0 < j) (hj4 : j < 384) (f : Nat → Nat) (f0 : f 0 = a)
  (co : ∀ w, Calls Tryz.prog 71 #[.int .u64 1] w (Rt w (N 1)))
  (cf : ∀ k w, Mm w [(g, zZ n o s)] → Calls Tryz.prog 128 #[PT g 0, N 1, N (f k)] w (Rt w (N (f (k + 1)))))
  (ch : ∀ w, Calls Tryz.prog 36 #[N 1, .int .i64 ((384 - j : Nat) : Int)] w (Rt w (N y)))
  (cx : ∀ w, Mm w [(g, zZ n o s)] → Calls Tryz.prog 128 #[PT g 0, N y, N (f K)] w (Rt w (N x))) (w : World) (hm : Mm w [(g, zZ n o s)]) :
  Calls Tryz.prog 132 #[PT g 0, N a, .int .i64 ((384 * K + j : Nat) : Int)] w (Rt w (N x)) := by
 have H0 : Hid (_ ∧ _) := ⟨hm, Below.refl w.heap.size w⟩
 clear hm
 have CO : Hid _ := co
 have CF : Hid _ := cf
 have F0 : Hid _ := f0
 clear co cf f0
 have CH : Hid _ := ch
 have CX : Hid _ := cx
 clear ch cx
 go_enter Tryz.func132, Tryz.ntmps132
 refine wp_seq ?_
 refine zC 2 [.made (zD a) 24, .made zero6 24] (sB H0) ?ho1 ?he1
 case ho1 => exact am (yF rfl rfl) (am (zJ rfl) trivial)
 intro γ w1 l hM hl
 have H1 : Hid (Mm w1 ([(γ 0, zD a), (γ 1, zero6)] ++ _) ∧ _) := wB H0 hM hl [0, 1]
 have o1_0 := vB H0 hM hl 0
 have o1_1 := vB H0 hM hl 1
 clear hM hl l
 generalize γ 0 = γ1_0 at H1 o1_0 ⊢
 generalize γ 1 = γ1_1 at H1 o1_1 ⊢
 clear γ
 refine rN (wp_seq (wp_block ?_))
 refine loop_ghost (α := Nat) (fun k a' w' => ∃ s0 : Nat → Value, a' = ⟨#[PT g 0, N a, .int .i64 ((384 * (K - k) + j : Nat) : Int), ud, PT γ1_0 0, ud, PT γ1_1 0, s0 7, s0 8, s0 9, s0 10, s0 11, s0 12, s0 13, s0 14, ud, ud, ud, ud, ud, ud, ud, ud, ud, ud], []⟩ ∧ (Mm w' [(γ1_0, zD (f k)), (γ1_1, zero6), (g, zZ n o s)] ∧ Below w.heap.size w w') ∧ k ≤ K) (fun k => K - k) 0 ?st0 ?rd0
 case st0 => exact ⟨(slotfn [ud, ud, ud, ud, ud, ud, ud, ud, ud, ud, ud, ud, ud, ud, ud]), rfl, ⟨H1.out.1.at0 (by rw [F0.out]), H1.out.2⟩, by omega⟩
 intro k a' w2 hI
 obtain ⟨s0, rfl, hMB, hk0⟩ := hI
 have H2 : Hid (_ ∧ _) := hMB
 clear hMB H1
 by_cases hlt : k < K
 ·have hrd : True := trivial
  clear hrd
  refine wp_seq (wp_seq ?_)
  refine zB 2 [.quiet (.int .i64 ((384 * (K - k) + j : Nat) : Int)), .quiet (.bool true)] H2 ?ho2 ?he2
  case ho2 => exact ar (ak (by refine fun γ => ⟨rfl, fun w' h => ?_⟩; clear h; go_simp <;> omega) trivial)
  intro _ w3 H3
  clear H2
  refine rN (wp_cond_true rfl ?_)
  refine wp_skip (zA ?_)
  refine wp_block (wp_seq ?_)
  refine zP 4 [.quiet (PT g 0), .call (N 1), .quiet (N (f k)), .call (N (f (k + 1)))] H3 ?ho3 ?he3
  case ho3 => exact ar (ac (fun w' h => eC call71 (CO.out w')) (bN 0 (ac (fun w' h => eC call128 (CF.out k w' (h.one 2 rfl))) trivial)))
  intro _ w4 H4
  clear H3
  refine zF (l := [4]) rfl ?_
  refine sG rfl (fun h => zO h 0 rfl rfl rfl rfl (Nat.le_of_ble_eq_true rfl)) 0 [(_, zD (f (k + 1))), _, _] H4 o1_0 fun w5 H5 => ?_
  clear H4
  refine zE (zA ?_)
  refine zB 2 [.quiet (.int .i64 ((384 * (K - k) + j : Nat) : Int)), .quiet (.int .i64 ((384 * (K - (k + 1)) + j : Nat) : Int))] H5 ?ho4 ?he4
  case ho4 => exact ar (ak (by refine fun γ => ⟨rfl, fun w' h => ?_⟩; clear h; go_simp; rw [IntKind.wrap_i64]; omega) trivial)
  intro _ w6 H6
  clear H5
  refine zF (l := [2]) rfl ?_
  refine zG (d := 2) rfl rfl rfl rfl ?_
  simp only [Act.put, sa, sz, ss]
  refine zE (zH (zA ?_))
  exact ⟨k + 1, ⟨(slotfn [ud, ud, ud, ud, ud, ud, ud, .int .i64 ((384 * (K - k) + j : Nat) : Int), .bool true, PT g 0, N 1, N (f k), N (f (k + 1)), .int .i64 ((384 * (K - k) + j : Nat) : Int), .int .i64 ((384 * (K - (k + 1)) + j : Nat) : Int)]), rfl, ⟨H6.out.1, H6.out.2⟩, by omega⟩, by omega⟩
 have hkK : k = K := by omega
 subst hkK
 refine wp_seq (wp_seq ?_)
 refine zB 2 [.quiet (.int .i64 ((384 * (k - k) + j : Nat) : Int)), .quiet (.bool false)] H2 ?ho5 ?he5
 case ho5 => exact ar (ak (by refine fun γ => ⟨rfl, fun w' h => ?_⟩; clear h; go_simp <;> omega) trivial)
 intro _ w7 H7
 clear H2
 refine rN (wp_cond_false rfl ?_)
 refine wp_exit ?_
 repeat refine zY ?_
 refine zT ?_
 refine zA (wp_seq (wp_seq ?_))
 refine zB 2 [.quiet (.int .i64 ((384 * (k - k) + j : Nat) : Int)), .quiet (.bool false)] H7 ?ho6 ?he6
 case ho6 => exact ar (ak (by refine fun γ => ⟨rfl, fun w' h => ?_⟩; clear h; go_simp <;> omega) trivial)
 intro _ w8 H8
 clear H7
 refine rN (wp_cond_false rfl ?_)
 refine wp_skip (zA (wp_seq ?_))
 refine zP 7 [.quiet (PT g 0), .call (N 1), .quiet (.int .i64 ((384 * (k - k) + j : Nat) : Int)), .quiet (.int .i64 ((384 - j : Nat) : Int)), .call (N y), .quiet (N (f k)), .call (N x)] H8 ?ho7 ?he7
 case ho7 => exact ar (ac (fun w' h => eC call71 (CO.out w')) (ar (ak (by refine fun γ => ⟨rfl, fun w' h => ?_⟩; clear h; go_simp; rw [IntKind.wrap_i64]; omega) (ac (fun w' h => eC call36 (CH.out w')) (bN 0 (ac (fun w' h => eC call128 (CX.out w' (h.one 2 rfl))) trivial))))))
 intro _ w9 H9
 clear H8
 refine zF (l := [7]) rfl ?_
 refine sG rfl (fun h => zO h 1 rfl rfl rfl rfl (Nat.le_of_ble_eq_true rfl)) 1 [_, (_, zD x), _] H9 o1_1 fun w10 H10 => ?_
 clear H9
 refine zE (zA (wp_ret ?_))
 repeat (first | refine zM ?_ | refine zI ?_)
 have c0 := H10.out.1.get 1 rfl 0 rfl
 have c1 := H10.out.1.get 1 rfl 1 rfl
 have c2 := H10.out.1.get 1 rfl 2 rfl
 have c3 := H10.out.1.get 1 rfl 3 rfl
 have c4 := H10.out.1.get 1 rfl 4 rfl
 have c5 := H10.out.1.get 1 rfl 5 rfl
 refine bodyPost_ret (v := N x) (by simp [results, Tryz.results132, go_sem, *]) rfl ?_
 exact ⟨rfl, H10.out.2⟩
theorem dbp_any {g n : Nat} (ok : Ok n) {a i : Nat} (ha : a < n) (hi : i < 768) (w : World) (hm : Mm w [(g, yB n)]) :
  Calls Tryz.prog 132 #[PT g 0, N a, .int .i64 ((i : Nat) : Int)] w (Rt w (N (dv n a i))) := by
 have hdm := Nat.div_add_mod i 384
 generalize i / 384 = K at hdm
 have hjl := Nat.mod_lt i (show 0 < 384 by decide)
 generalize i % 384 = j at hdm hjl
 have hl : ∀ k, a * ri n ^ k % n < n := fun k => Nat.mod_lt _ ok.pos
 have cf : ∀ k w, Mm w [(g, yB n)] → Calls Tryz.prog 128 #[PT g 0, N 1, N (a * ri n ^ k % n)] w (Rt w (N (a * ri n ^ (k + 1) % n))) := fun k w hm => by
  have h := product_any g n (big % n) (big * big % n) 1 (a * ri n ^ k % n) ok (small_big 1 (by decide)) (hl k) w hm
  have e : mont n 1 (a * ri n ^ k % n) = a * ri n ^ (k + 1) % n := by
   refine Cg.eq_mod (n := n) ((mont_cg n _ _).trans ?_) (mont_lt _ _ _ ok.pos)
   rw [Nat.one_mul, Nat.pow_succ, ← Nat.mul_assoc]
   exact (Cg.mod _ _).mulR _
  rw [e] at h
  exact h
 have f0 : a * ri n ^ 0 % n = a := by rw [Nat.pow_zero, Nat.mul_one, Nat.mod_eq_of_lt ha]
 rw [← hdm]
 have er : ∀ K, ri n ^ K = hf n ^ (384 * K) := fun K => by
  unfold ri
  obtain ⟨e, he⟩ : ∃ e, e = 64 * 6 := ⟨_, rfl⟩
  rw [← he, show 384 * K = e * K by rw [he], Nat.pow_mul]
 by_cases hj : j = 0
 ·have h := dbp_1 g n _ _ a K j (by omega) hj (fun k => a * ri n ^ k % n) f0 (fun w => of_any 1 (by decide) w) cf w hm
  have e : dv n a (384 * K + j) = a * ri n ^ K % n := by unfold dv; rw [hj, Nat.add_zero, er]
  rw [e]
  exact h
 ·have ch := fun w => shift_up 1 (384 - j) (by omega) w
  have hy : 1 * 2 ^ (384 - j) % big = 2 ^ (384 - j) := by
   rw [Nat.one_mul]
   refine Nat.mod_eq_of_lt ?_
   obtain ⟨m, hm, e⟩ := big_pow
   rw [e]
   exact Nat.pow_lt_pow_right (by decide) (by omega)
  rw [hy] at ch
  have hyb : 2 ^ (384 - j) < big := by rw [← hy]; exact Nat.mod_lt _ big_pos
  have cx := fun w hm => product_any g n (big % n) (big * big % n) (2 ^ (384 - j)) (a * ri n ^ K % n) ok hyb (hl K) w hm
  have e : mont n (2 ^ (384 - j)) (a * ri n ^ K % n) = dv n a (384 * K + j) := by
   refine Cg.eq_mod (n := n) ((mont_cg n _ _).trans ?_) (mont_lt _ _ _ ok.pos)
   have h1 := ((Cg.mod n (a * ri n ^ K)).mulL (2 ^ (384 - j))).mulR (ri n)
   refine h1.trans ?_
   have h2 := (hf_pow n (384 - j) ok.odd).mulL (a * ri n ^ K * hf n ^ j)
   rw [Nat.mul_one] at h2
   have e1 : 2 ^ (384 - j) * (a * ri n ^ K) * ri n = a * ri n ^ K * hf n ^ j * (2 ^ (384 - j) * hf n ^ (384 - j)) := by
    have e2 : ri n = hf n ^ j * hf n ^ (384 - j) := by
     have := er 1
     rw [Nat.pow_one, Nat.mul_one] at this
     rw [this, ← Nat.pow_add]
     congr 1
     omega
    generalize ri n ^ K = z
    rw [e2]
    simp only [Nat.mul_assoc, Nat.mul_comm, Nat.mul_left_comm]
   rw [e1]
   refine h2.trans ?_
   rw [er, Nat.mul_assoc, ← Nat.pow_add]
   exact Cg.refl _ _
  rw [e] at cx
  exact dbp_2 g n _ _ a K j _ _ (by omega) (by omega) hjl (fun k => a * ri n ^ k % n) f0 (fun w => of_any 1 (by decide) w) cf ch cx w hm
theorem call131 : ∀ args w, (callFunc 131 args).run Tryz.prog w = .ok (.enter 131 args) w := by intro args w; go_simp
theorem call129 : ∀ args w, (callFunc 129 args).run Tryz.prog w = .ok (.enter 129 args) w := by intro args w; go_simp
theorem call130 : ∀ args w, (callFunc 130 args).run Tryz.prog w = .ok (.enter 130 args) w := by intro args w; go_simp
theorem call132 : ∀ args w, (callFunc 132 args).run Tryz.prog w = .ok (.enter 132 args) w := by intro args w; go_simp
abbrev zero26 : List Value := [.int .u64 0, .int .u64 0, .int .u64 0, .int .u64 0, .int .u64 0, .int .u64 0, .int .u64 0, .int .u64 0, .int .u64 0, .int .u64 0, .int .u64 0, .int .u64 0, .int .u64 0, .int .u64 0, .int .u64 0, .int .u64 0, .int .u64 0, .int .u64 0, .int .u64 0, .int .u64 0, .int .u64 0, .int .u64 0, .int .u64 0, .int .u64 0, .int .i64 0, .bool false]
abbrev wkv (o r u v : Nat) (h : Int) (t : Bool) : Value := .agg (wkc o r u v h t).toArray
theorem ex_made58 {ρ : Operand → Value} {o : Oper} {w : World} (ho : o.op = .alloc 158) :
  (execOp ρ o).run Tryz.prog w = .ok (.value (.pointer (some ⟨w.heap.size, 0, none⟩))) (w.alloc (.cells zero26.toArray 158)) := by
 simp only [execOp, ho]
 go_simp
theorem ex_build58 {ρ : Operand → Value} {o : Oper} {x y z : Operand} {n r z0 c1 : Nat} {w : World} (h0 : z0 = 0) (ho : o.op = .build 158 #[(0, x), (1, y), (3, z)]) (hx : ρ x = N n) (hy : ρ y = N r) (hz : ρ z = N c1) : (execOp ρ o).run Tryz.prog w = .ok (.value (wkv n r z0 c1 0 false)) w := by
 subst h0
 simp only [execOp, ho]
 go_simp
 simp [wd_zero]
theorem ex_laidT {ρ : Operand → Value} {o : Oper} {x y : Operand} {g : Nat} {t : TypeId} {zs cs : List Value} {w : World} (hb : Blk w g zs) (hl : zs.length = cs.length) (h1 : cs.all Value.oneCell' = true) (hs : ∀ w, (sizeOf t).run Tryz.prog w = .ok cs.length w) (ho : o.op = .store t x y) (hx : ρ x = .pointer (some ⟨g, 0, none⟩)) (hy : ρ y = .agg cs.toArray) :
  (execOp ρ o).run Tryz.prog w = .ok .skip (w.setCells g 0 cs) := by
 have hk : ∀ k, k < cs.length → ∃ u, zs[k]? = some u := fun k hk => ⟨_, List.getElem?_eq_getElem (by omega)⟩
 have hst := run_storeCells_cells (P := Tryz.prog) g 0 cs 0 w (fun k hkl => by
  obtain ⟨u, hu⟩ := hk k hkl
  rw [show 0 + 0 + k = k by omega, (hb k u hu).1]; rfl) (fun k hkl => by
  obtain ⟨u, hu⟩ := hk k hkl
  rw [show 0 + 0 + k = k by omega]; exact (hb k u hu).2) (List.all_eq_true.1 h1)
 clear hb hk h1 hl
 simp only [execOp, ho, hx, hy]
 go_simp
theorem ex_laid58 {ρ : Operand → Value} {o : Oper} {x y : Operand} {g n r u v : Nat} {h : Int} {t : Bool} {w : World} (hb : Blk w g zero26) (ho : o.op = .store 158 x y) (hx : ρ x = .pointer (some ⟨g, 0, none⟩)) (hy : ρ y = wkv n r u v h t) :
  (execOp ρ o).run Tryz.prog w = .ok .skip (w.setCells g 0 (wkc n r u v h t)) := ex_laidT hb rfl rfl Tryz.sizeOf158 ho hx hy
theorem shift_neg' (a m : Nat) (ha : a < big) (h : m < 384) (w : World) :
  Calls Tryz.prog 36 #[N a, .int .i64 (-((m : Nat) : Int))] w (Rt w (N (a / 2 ^ m))) := by
 by_cases h0 : m = 0
 ·subst h0
  have := shift_up a 0 (by decide) w
  rw [Nat.pow_zero, Nat.mul_one, Nat.mod_eq_of_lt ha] at this
  rw [Nat.pow_zero, Nat.div_one]
  exact this
 ·have := shift_down a (-(m : Int)) ha (by omega) (by omega) w
  rw [show (- -(m : Int)).toNat = m by omega] at this
  exact this
set_option maxHeartbeats 4000000 in
theorem inv_good {g n a : Nat} (ok : Ok n) (ha : a < big) (hg : Nat.gcd n a = 1) (w : World) (hm : Mm w [(g, yB n), (0, dtab)]) :
  Calls Tryz.prog 86 #[PT g 0, N a] w fun e w' => ∃ x, e = .returned (.tuple #[N x, .int .i64 0]) ∧ x < n ∧ x * a % n = 1 ∧ Below w.heap.size w w' := by
 have H0 : Hid (_ ∧ _) := ⟨hm, Below.refl w.heap.size w⟩
 clear hm
 obtain ⟨r0, hr0⟩ : ∃ r0, r0 = a % n := ⟨_, rfl⟩
 have cm := fun w hm => madeC (g := g) ok w hm
 have cr := fun w hm => reduce_any (g := g) ok ha w hm
 rw [← hr0] at cr
 have CM : Hid _ := cm
 have CR : Hid _ := cr
 obtain ⟨z0, hz0⟩ : ∃ z0, z0 = 0 := ⟨_, rfl⟩
 obtain ⟨c1, hc1⟩ : ∃ c1, c1 = 1 := ⟨_, rfl⟩
 have HC1 : Hid _ := hc1
 have CO : Hid (∀ w, Calls Tryz.prog 71 #[.int .u64 1] w (Rt w (N c1))) := fun w => by
  have h := of_any 1 (by decide) w
  rw [HC1.out]
  exact h
 have HZ0 : Hid _ := hz0
 have HR : Hid _ := hr0
 clear cm cr hr0 ha hz0 hc1
 go_enter Tryz.func86, Tryz.ntmps86
 refine wp_seq ?_
 refine zC 3 [.made (zD a) 24, .made zero6 24, .quiet (.int .i64 0)] (sB H0) ?ho1 ?he1
 case ho1 => exact am (yF rfl rfl) (am (zJ rfl) (ar trivial))
 intro γ w1 l hM hl
 have H1 : Hid (Mm w1 ([(γ 0, zD a), (γ 1, zero6)] ++ _) ∧ _) := wB H0 hM hl [0, 1]
 have o1_0 := vB H0 hM hl 0
 have o1_1 := vB H0 hM hl 1
 clear hM hl l
 generalize γ 0 = γ1_0 at H1 o1_0 ⊢
 generalize γ 1 = γ1_1 at H1 o1_1 ⊢
 clear γ
 refine rN (wp_seq (wp_seq ?_))
 refine zB 3 [.quiet (PT g 0), .call (.bool true), .quiet (.bool false)] H1 ?ho2 ?he2
 case ho2 => exact ar (ak (fun γ => ⟨rfl, fun w' h' => eC call125 (CM.out w' (h'.one 2 rfl))⟩) (ak (by refine fun γ => ⟨rfl, fun w' h' => ?_⟩; clear h'; go_simp) trivial))
 intro _ w2 H2
 clear H1
 refine rN (wp_cond_false rfl ?_)
 refine wp_skip (zA (wp_seq ?_))
 refine zS 11 [.quiet (PT g 0), .quiet (PT g 0), .quiet (PT g 0), .quiet (N n), .quiet (PT g 0), .quiet (N a), .call (N r0), .call (N c1), .quiet (wkv n r0 z0 c1 0 false), .made zero26 158, .laid 9 zero26 (wkc n r0 z0 c1 0 false)] (sB H2) ?ho3 ?he3 (hL := ?hL3)
 case hL3 => exact ⟨⟨_, rfl⟩, trivial⟩
 case ho3 => exact ar (ak (by refine fun γ => ⟨rfl, fun w' h' => ?_⟩; clear h'; go_simp) (ak (by refine fun γ => ⟨rfl, fun w' h' => ?_⟩; clear h'; go_simp) (ak (fun γ => ⟨rfl, fun w' h' => ex_load6 h' 2 rfl rfl rfl rfl⟩) (ar (ak (fun γ => ⟨rfl, fun w' h' => ex_load6 h' 0 rfl rfl rfl rfl⟩) (ak (fun γ => ⟨rfl, fun w' h' => eC call126 (CR.out w' (h'.one 2 rfl))⟩) (ak (fun γ => ⟨rfl, fun w' h' => eC call71 (CO.out w')⟩) (ak (fun γ => ⟨rfl, fun w' _ => ex_build58 HZ0.out rfl rfl rfl rfl⟩) (am (ex_made58 rfl) (ak (fun γ => ⟨rfl, rfl, rfl, fun w' h' => ex_laid58 h' rfl rfl rfl⟩) trivial))))))))))
 intro γ w3 l hM hl
 have H3 : Hid (Mm w3 ([(γ 9, wkc n r0 z0 c1 0 false)] ++ _) ∧ _) := wB H2 hM hl [9]
 have o3_9 := vB H2 hM hl 9
 clear hM hl l H2
 generalize γ 9 = γ3_9 at H3 o3_9 ⊢
 clear γ
 refine rN (wp_seq (wp_block ?_))
 refine loop_ghost (α := WS) (fun z a' w' => ∃ s0 : Nat → Value, a' = ⟨#[PT g 0, N a, ud, PT γ1_0 0, PT γ1_1 0, .int .i64 0, PT γ3_9 0, ud, PT g 0, .bool true, .bool false, ud, PT g 0, PT g 0, PT g 0, N n, PT g 0, N a, N r0, N c1, wkv n r0 z0 c1 0 false, s0 21, s0 22, s0 23, s0 24, s0 25, s0 26, ud, ud, ud, ud, ud, ud, ud, ud, ud, ud, ud, ud, ud, ud, ud, ud, ud, ud], []⟩ ∧ (Mm w' [(γ3_9, wkc z.o z.r z.u z.v ((z.h : Nat) : Int) z.t), (γ1_0, zD a), (γ1_1, zero6), (g, yB n), (0, dtab)] ∧ Below w.heap.size w w') ∧ WI n a z) (fun z => z.o + z.r) ⟨n, r0, z0, c1, 0, false⟩ ?st0 ?rd0
 case st0 => exact ⟨(slotfn [ud, ud, ud, ud, ud, ud, ud, ud, ud, ud, ud, ud, ud, ud, ud, ud, ud, ud, ud, ud, ud, ud, ud, ud, ud, ud, ud]), rfl, ⟨H3.out.1, H3.out.2⟩, by rw [HR.out, HZ0.out, HC1.out]; exact WI.start ok⟩
 intro z a' w4 hI
 obtain ⟨s0, rfl, hMB, hk0⟩ := hI
 have H4 : Hid (_ ∧ _) := hMB
 clear hMB H3
 by_cases hlt : z.r ≠ 0
 ·have hrd : True := trivial
  clear hrd
  obtain ⟨o, r, u, v, h, t⟩ := z
  have I : WI n a ⟨o, r, u, v, h, t⟩ := hk0
  have hrz : r ≠ 0 := hlt
  have hrb : r < big := by have h1 : r ≤ n := I.rn; have := ok.big; omega
  obtain ⟨k, r1, hk, er, hr1, ctz⟩ := trailing_any hrb hrz
  obtain ⟨p1, p2, p3, p4, p5, p6, p7⟩ := I.facts hrz er
  obtain ⟨i1, i2⟩ := I.next hrz er hr1
  have hh : h < 768 := I.hlt ok
  have hbn := ok.big
  have e0 := fun w => run_eqN r 0 hrb big_pos w
  rw [decide_eq_false hrz] at e0
  obtain ⟨U, hU⟩ : ∃ U, U = u * 2 ^ k := ⟨_, rfl⟩
  rw [← hU] at p6 p7 i1 i2
  have hun : u < n := I.un
  have c53 := fun w => shift_neg' r k hrb hk w
  rw [show r / 2 ^ k = r1 by rw [er, Nat.mul_div_cancel _ (Nat.two_pow_pos k)]] at c53
  have d53 := fun w => shift_up u k hk w
  rw [← hU, Nat.mod_eq_of_lt (show U < big by omega)] at d53
  have ch : ∀ w, Mm w [(γ3_9, wkc o r u v ((h : Nat) : Int) t), (0, dtab)] → Calls Tryz.prog 129 #[PT γ3_9 0] w fun e w' => e = .returned (.tuple #[]) ∧ Mm w' [(γ3_9, wkc o r1 U v (((h : Nat) : Int) + ((k : Nat) : Int)) t)] ∧ Kp γ3_9 w w' := fun w hm => halve_gen γ3_9 o r u v k r1 U ((h : Nat) : Int) t hk (by omega) (by omega) ctz c53 d53 w hm
  have CH : Hid _ := ch
  have I1 : Hid _ := i1
  have I2 : Hid _ := i2
  have R1 : Hid (r1 ≤ r) := (by rw [er]; exact Nat.le_mul_of_pos_right _ (Nat.two_pow_pos k) : r1 ≤ r)
  clear ch c53 d53 ctz i1 i2 er hr1 hU I hk0
  by_cases hl : r1 < o
  ·have hrd : True := trivial
   clear hrd
   have cs : ∀ w, Mm w [(γ3_9, wkc o r1 U v (((h : Nat) : Int) + ((k : Nat) : Int)) t)] → Calls Tryz.prog 130 #[PT γ3_9 0] w fun e w' => e = .returned (.tuple #[]) ∧ Mm w' [(γ3_9, wkc r1 (o - r1) v (U + v) (((h : Nat) : Int) + ((k : Nat) : Int)) (!t))] ∧ Kp γ3_9 w w' := fun w hm => by
    have c31 := fun w => compare_any r1 o (by omega) (by omega) w
    rw [cmp_lt hl] at c31
    have c40 := fun w => sub_any o r1 (by omega) (by omega) w
    rw [decide_eq_false (by omega), show o + big - r1 = o - r1 + big by omega, Nat.add_mod_right, Nat.mod_eq_of_lt (show o - r1 < big by omega)] at c40
    have c45 := fun w => add_any U v (by omega) (by omega) w
    rw [decide_eq_false (by omega), Nat.mod_eq_of_lt (show U + v < big by omega)] at c45
    exact subtract_1 γ3_9 o r1 U v _ _ (((h : Nat) : Int) + ((k : Nat) : Int)) t c31 c40 c45 w hm
   have CS : Hid _ := cs
   clear cs
   refine wp_seq (wp_seq ?_)
   refine zB 4 [.quiet (PT γ3_9 6), .quiet (N r), .quiet (N 0), .quiet (.bool true)] H4 ?ho4 ?he4
   case ho4 => exact ak (by refine fun γ => ⟨rfl, fun w' h' => ?_⟩; clear h'; go_simp) (ak (fun γ => ⟨rfl, fun w' h' => ex_load6 h' 0 rfl rfl rfl rfl⟩) (ak (by refine fun γ => ⟨rfl, fun w' h' => ?_⟩; clear h'; exact ex_zero6 rfl) (ak (fun γ => ⟨rfl, fun w' _ => exec_neq6 e0 rfl rfl rfl⟩) trivial)))
   intro _ w5 H5
   clear H4
   refine rN (wp_cond_true rfl ?_)
   refine wp_skip (zA ?_)
   refine wp_block (wp_seq ?_)
   refine zB 0 [] H5 ?ho5 ?he5
   case ho5 => exact trivial
   intro _ w6 H6
   clear H5
   refine zF (l := [0]) rfl ?_
   refine rest_enter (d := 25) (R := fun vv w' => vv = .tuple #[] ∧ Mm w' [(γ3_9, wkc o r1 U v (((h : Nat) : Int) + ((k : Nat) : Int)) t)] ∧ Kp γ3_9 w6 w') rfl rfl rfl (exec_call (args := #[PT γ3_9 0]) rfl call129 rfl (mpn rfl)) (Calls.mono (CH.out w6 (H6.out.1.two 0 4 rfl rfl (by decide))) (fun e w2 hh => ⟨_, hh.1, rfl, hh.2⟩)) ?_
   rintro _ w7 ⟨rfl, hn, hp⟩
   have H7 : Hid (Mm w7 [(γ3_9, wkc o r1 U v (((h : Nat) : Int) + ((k : Nat) : Int)) t), (γ1_0, zD a), (γ1_1, zero6), (g, yB n), (0, dtab)] ∧ Below w.heap.size w w7) := ⟨H6.out.1.change 0 rfl hp hn, Below.kp H6.out.2 hp o3_9.out H6.out.2.size⟩
   clear hn hp H6
   simp only [Act.put, sa, sz, ss]
   refine zE (zA ?_)
   refine zB 0 [] H7 ?ho6 ?he6
   case ho6 => exact trivial
   intro _ w8 H8
   clear H7
   refine zF (l := [0]) rfl ?_
   refine rest_enter (d := 26) (R := fun vv w' => vv = .tuple #[] ∧ Mm w' [(γ3_9, wkc r1 (o - r1) v (U + v) (((h : Nat) : Int) + ((k : Nat) : Int)) (!t))] ∧ Kp γ3_9 w8 w') rfl rfl rfl (exec_call (args := #[PT γ3_9 0]) rfl call130 rfl (mpn rfl)) (Calls.mono (CS.out w8 (H8.out.1.one 0 rfl)) (fun e w2 hh => ⟨_, hh.1, rfl, hh.2⟩)) ?_
   rintro _ w9 ⟨rfl, hn, hp⟩
   have H9 : Hid (Mm w9 [(γ3_9, wkc r1 (o - r1) v (U + v) (((h : Nat) : Int) + ((k : Nat) : Int)) (!t)), (γ1_0, zD a), (γ1_1, zero6), (g, yB n), (0, dtab)] ∧ Below w.heap.size w w9) := ⟨H8.out.1.change 0 rfl hp hn, Below.kp H8.out.2 hp o3_9.out H8.out.2.size⟩
   clear hn hp H8
   simp only [Act.put, sa, sz, ss]
   refine zE (zH (zA ?_))
   exact ⟨⟨r1, o - r1, v, U + v, h + k, !t⟩, ⟨(slotfn [ud, ud, ud, ud, ud, ud, ud, ud, ud, ud, ud, ud, ud, ud, ud, ud, ud, ud, ud, ud, ud, PT γ3_9 6, N r, N 0, .bool true, .tuple #[], .tuple #[]]), rfl, ⟨by rw [Int.natCast_add]; exact H9.out.1, H9.out.2⟩, I1.out hl⟩, (by show r1 + (o - r1) < o + r; have h4 : r1 ≤ r := R1.out; omega)⟩
  ·have hrd : True := trivial
   clear hrd
   have cs : ∀ w, Mm w [(γ3_9, wkc o r1 U v (((h : Nat) : Int) + ((k : Nat) : Int)) t)] → Calls Tryz.prog 130 #[PT γ3_9 0] w fun e w' => e = .returned (.tuple #[]) ∧ Mm w' [(γ3_9, wkc o (r1 - o) U (v + U) (((h : Nat) : Int) + ((k : Nat) : Int)) t)] ∧ Kp γ3_9 w w' := fun w hm => by
    have c31 := fun w => compare_any r1 o (by omega) (by omega) w
    have c40 := fun w => sub_any r1 o (by omega) (by omega) w
    rw [decide_eq_false (by omega), show r1 + big - o = r1 - o + big by omega, Nat.add_mod_right, Nat.mod_eq_of_lt (show r1 - o < big by omega)] at c40
    have c45 := fun w => add_any v U (by omega) (by omega) w
    rw [decide_eq_false (by omega), Nat.mod_eq_of_lt (show v + U < big by omega)] at c45
    exact subtract_2 γ3_9 o r1 U v _ _ (((h : Nat) : Int) + ((k : Nat) : Int)) t _ (cmp_ge hl) c31 c40 c45 w hm
   have CS : Hid _ := cs
   clear cs
   refine wp_seq (wp_seq ?_)
   refine zB 4 [.quiet (PT γ3_9 6), .quiet (N r), .quiet (N 0), .quiet (.bool true)] H4 ?ho7 ?he7
   case ho7 => exact ak (by refine fun γ => ⟨rfl, fun w' h' => ?_⟩; clear h'; go_simp) (ak (fun γ => ⟨rfl, fun w' h' => ex_load6 h' 0 rfl rfl rfl rfl⟩) (ak (by refine fun γ => ⟨rfl, fun w' h' => ?_⟩; clear h'; exact ex_zero6 rfl) (ak (fun γ => ⟨rfl, fun w' _ => exec_neq6 e0 rfl rfl rfl⟩) trivial)))
   intro _ w10 H10
   clear H4
   refine rN (wp_cond_true rfl ?_)
   refine wp_skip (zA ?_)
   refine wp_block (wp_seq ?_)
   refine zB 0 [] H10 ?ho8 ?he8
   case ho8 => exact trivial
   intro _ w11 H11
   clear H10
   refine zF (l := [0]) rfl ?_
   refine rest_enter (d := 25) (R := fun vv w' => vv = .tuple #[] ∧ Mm w' [(γ3_9, wkc o r1 U v (((h : Nat) : Int) + ((k : Nat) : Int)) t)] ∧ Kp γ3_9 w11 w') rfl rfl rfl (exec_call (args := #[PT γ3_9 0]) rfl call129 rfl (mpn rfl)) (Calls.mono (CH.out w11 (H11.out.1.two 0 4 rfl rfl (by decide))) (fun e w2 hh => ⟨_, hh.1, rfl, hh.2⟩)) ?_
   rintro _ w12 ⟨rfl, hn, hp⟩
   have H12 : Hid (Mm w12 [(γ3_9, wkc o r1 U v (((h : Nat) : Int) + ((k : Nat) : Int)) t), (γ1_0, zD a), (γ1_1, zero6), (g, yB n), (0, dtab)] ∧ Below w.heap.size w w12) := ⟨H11.out.1.change 0 rfl hp hn, Below.kp H11.out.2 hp o3_9.out H11.out.2.size⟩
   clear hn hp H11
   simp only [Act.put, sa, sz, ss]
   refine zE (zA ?_)
   refine zB 0 [] H12 ?ho9 ?he9
   case ho9 => exact trivial
   intro _ w13 H13
   clear H12
   refine zF (l := [0]) rfl ?_
   refine rest_enter (d := 26) (R := fun vv w' => vv = .tuple #[] ∧ Mm w' [(γ3_9, wkc o (r1 - o) U (v + U) (((h : Nat) : Int) + ((k : Nat) : Int)) t)] ∧ Kp γ3_9 w13 w') rfl rfl rfl (exec_call (args := #[PT γ3_9 0]) rfl call130 rfl (mpn rfl)) (Calls.mono (CS.out w13 (H13.out.1.one 0 rfl)) (fun e w2 hh => ⟨_, hh.1, rfl, hh.2⟩)) ?_
   rintro _ w14 ⟨rfl, hn, hp⟩
   have H14 : Hid (Mm w14 [(γ3_9, wkc o (r1 - o) U (v + U) (((h : Nat) : Int) + ((k : Nat) : Int)) t), (γ1_0, zD a), (γ1_1, zero6), (g, yB n), (0, dtab)] ∧ Below w.heap.size w w14) := ⟨H13.out.1.change 0 rfl hp hn, Below.kp H13.out.2 hp o3_9.out H13.out.2.size⟩
   clear hn hp H13
   simp only [Act.put, sa, sz, ss]
   refine zE (zH (zA ?_))
   exact ⟨⟨o, r1 - o, U, v + U, h + k, t⟩, ⟨(slotfn [ud, ud, ud, ud, ud, ud, ud, ud, ud, ud, ud, ud, ud, ud, ud, ud, ud, ud, ud, ud, ud, PT γ3_9 6, N r, N 0, .bool true, .tuple #[], .tuple #[]]), rfl, ⟨by rw [Int.natCast_add]; exact H14.out.1, H14.out.2⟩, I2.out hl⟩, (by show o + (r1 - o) < o + r; have h4 : r1 ≤ r := R1.out; omega)⟩
 obtain ⟨o, r, u, v, h, t⟩ := z
 have I : WI n a ⟨o, r, u, v, h, t⟩ := hk0
 have hr0 : r = 0 := Classical.byContradiction hlt
 have hh : h < 768 := I.hlt ok
 have hun : u < n := I.un
 have hog : o = Nat.gcd n a := by have h1 : Nat.gcd o r = Nat.gcd n a := I.gcd; rwa [hr0, Nat.gcd_zero_right] at h1
 have e0 := fun w => run_eqN r 0 (by rw [hr0]; exact big_pos) big_pos w
 rw [decide_eq_true hr0] at e0
 have HR0 : Hid _ := hr0
 clear hr0
 have ho1 : o = 1 := by rw [hog]; exact hg
 have e1 := fun w => run_eqN o c1 (by rw [ho1]; exact small_big 1 (by decide)) (by rw [HC1.out]; exact small_big 1 (by decide)) w
 rw [decide_eq_true (by rw [ho1, HC1.out])] at e1
 have HO : Hid _ := ho1
 clear ho1
 have II : Hid _ := I
 clear I hk0 hog hlt
 cases t
 ·have IT : Hid _ := II.out
  clear II
  have cn := fun w hm => negm_any (g := g) ok (show u < big by have := ok.big; omega) w hm
  have cd := fun w hm => dbp_any (g := g) ok (subm_lt_n ok.pos 0 u) hh w hm
  have CN : Hid _ := cn
  have CD : Hid _ := cd
  clear cn cd
  refine wp_seq (wp_seq ?_)
  refine zB 4 [.quiet (PT γ3_9 6), .quiet (N r), .quiet (N 0), .quiet (.bool false)] H4 ?ho10f ?he10f
  case ho10f => exact ak (by refine fun γ => ⟨rfl, fun w' h' => ?_⟩; clear h'; go_simp) (ak (fun γ => ⟨rfl, fun w' h' => ex_load6 h' 0 rfl rfl rfl rfl⟩) (ak (by refine fun γ => ⟨rfl, fun w' h' => ?_⟩; clear h'; exact ex_zero6 rfl) (ak (fun γ => ⟨rfl, fun w' _ => exec_neq6 e0 rfl rfl rfl⟩) trivial)))
  intro _ w15 H15
  clear H4
  refine rN (wp_cond_false rfl ?_)
  refine wp_exit ?_
  repeat refine zY ?_
  refine zT ?_
  refine zA (wp_seq (wp_seq ?_))
  refine zP 4 [.quiet (PT γ3_9 0), .quiet (N o), .call (N c1), .quiet (.bool false)] H15 ?ho11f ?he11f
  case ho11f => exact ak (by refine fun γ => ⟨rfl, fun w' h' => ?_⟩; clear h'; go_simp) (ak (fun γ => ⟨rfl, fun w' h' => ex_load6 h' 0 rfl rfl rfl rfl⟩) (ak (fun γ => ⟨rfl, fun w' h' => eC call71 (CO.out w')⟩) (ak (fun γ => ⟨rfl, fun w' _ => exec_neq6 e1 rfl rfl rfl⟩) trivial)))
  intro _ w16 H16
  clear H15
  refine rN (wp_cond_false rfl ?_)
  refine wp_skip (zA (wp_seq ?_))
  refine zC 4 [.quiet (PT γ3_9 12), .quiet (N u), .made zero6 24, .laid 2 zero6 (zD u)] (sB H16) ?ho12f ?he12f (hL := ?hL12f)
  case hL12f => exact ⟨⟨_, rfl⟩, trivial⟩
  case ho12f => exact ak (by refine fun γ => ⟨rfl, fun w' h' => ?_⟩; clear h'; go_simp) (ak (fun γ => ⟨rfl, fun w' h' => ex_load6 h' 0 rfl rfl rfl rfl⟩) (am (zJ rfl) (ak (fun γ => ⟨rfl, rfl, rfl, fun w' h' => zN h' rfl rfl rfl⟩) trivial)))
  intro γ w17 l hM hl
  have H17 : Hid (Mm w17 ([(γ 2, zD u)] ++ _) ∧ _) := wB H16 hM hl [2]
  have o12_2 := vB H16 hM hl 2
  clear hM hl l H16
  generalize γ 2 = γ12_2 at H17 o12_2 ⊢
  clear γ
  refine rN (wp_seq (wp_seq ?_))
  refine zB 3 [.quiet (PT γ3_9 25), .quiet (.bool false), .quiet (.bool true)] H17 ?ho13f ?he13f
  case ho13f => exact ak (by refine fun γ => ⟨rfl, fun w' h' => ?_⟩; clear h'; go_simp) (ak (fun γ => ⟨rfl, fun w' h' => ex_loadB h' 1 rfl rfl rfl rfl⟩) (ak (by refine fun γ => ⟨rfl, fun w' h' => ?_⟩; clear h'; go_simp) trivial))
  intro _ w18 H18
  clear H17
  refine rN (wp_cond_true rfl ?_)
  refine zB 3 [.quiet (PT g 0), .quiet (N u), .call (N (subm n 0 u))] H18 ?ho14f ?he14f
  case ho14f => exact ar (ak (fun γ => ⟨rfl, fun w' h' => ex_load6 h' 0 rfl rfl rfl rfl⟩) (ak (fun γ => ⟨rfl, fun w' h' => eC call131 (CN.out w' (h'.one 4 rfl))⟩) trivial))
  intro _ w19 H19
  clear H18
  refine zF (l := [3]) rfl ?_
  refine sG rfl (fun h => zO h 0 rfl rfl rfl rfl (Nat.le_of_ble_eq_true rfl)) 0 [(_, zD (subm n 0 u)), _, _, _, _, _] H19 o12_2 fun w20 H20 => ?_
  clear H19
  refine zE (zA (wp_seq ?_))
  refine zB 5 [.quiet (PT g 0), .quiet (N (subm n 0 u)), .quiet (PT γ3_9 24), .quiet (.int .i64 ((h : Nat) : Int)), .call (N (dv n (subm n 0 u) h))] H20 ?ho15f ?he15f
  case ho15f => exact ar (ak (fun γ => ⟨rfl, fun w' h' => ex_load6 h' 0 rfl rfl rfl rfl⟩) (ak (by refine fun γ => ⟨rfl, fun w' h' => ?_⟩; clear h'; go_simp) (ak (fun γ => ⟨rfl, fun w' h' => ex_loadI h' 1 rfl rfl rfl rfl⟩) (ak (fun γ => ⟨rfl, fun w' h' => eC call132 (CD.out w' (h'.one 4 rfl))⟩) trivial))))
  intro _ w21 H21
  clear H20
  refine zF (l := [5, 6]) rfl ?_
  refine sG rfl (fun h => zO h 3 rfl rfl rfl rfl (Nat.le_of_ble_eq_true rfl)) 3 [_, _, _, (_, zD (dv n (subm n 0 u) h)), _, _] H21 o1_1 fun w22 H22 => ?_
  clear H21
  refine zG (d := 5) rfl rfl rfl rfl ?_
  simp only [Act.put, sa, sz, ss]
  refine zE (zA (wp_ret ?_))
  repeat (first | refine zM ?_ | refine zI ?_)
  have c0 := H22.out.1.get 3 rfl 0 rfl
  have c1 := H22.out.1.get 3 rfl 1 rfl
  have c2 := H22.out.1.get 3 rfl 2 rfl
  have c3 := H22.out.1.get 3 rfl 3 rfl
  have c4 := H22.out.1.get 3 rfl 4 rfl
  have c5 := H22.out.1.get 3 rfl 5 rfl
  refine bodyPost_ret (v := .tuple #[N (dv n (subm n 0 u) h), .int .i64 0]) (by simp [results, Tryz.results86, go_sem, *]) rfl ?_
  exact ⟨_, rfl, Nat.mod_lt _ ok.pos, end_false ok (by have h3 := IT.out; rw [HR0.out] at h3; exact h3) HO.out, H22.out.2⟩
 ·have IT : Hid _ := II.out
  clear II
  have cd := fun w hm => dbp_any (g := g) ok hun hh w hm
  have CD : Hid _ := cd
  clear cd
  refine wp_seq (wp_seq ?_)
  refine zB 4 [.quiet (PT γ3_9 6), .quiet (N r), .quiet (N 0), .quiet (.bool false)] H4 ?ho10t ?he10t
  case ho10t => exact ak (by refine fun γ => ⟨rfl, fun w' h' => ?_⟩; clear h'; go_simp) (ak (fun γ => ⟨rfl, fun w' h' => ex_load6 h' 0 rfl rfl rfl rfl⟩) (ak (by refine fun γ => ⟨rfl, fun w' h' => ?_⟩; clear h'; exact ex_zero6 rfl) (ak (fun γ => ⟨rfl, fun w' _ => exec_neq6 e0 rfl rfl rfl⟩) trivial)))
  intro _ w15 H15
  clear H4
  refine rN (wp_cond_false rfl ?_)
  refine wp_exit ?_
  repeat refine zY ?_
  refine zT ?_
  refine zA (wp_seq (wp_seq ?_))
  refine zP 4 [.quiet (PT γ3_9 0), .quiet (N o), .call (N c1), .quiet (.bool false)] H15 ?ho11t ?he11t
  case ho11t => exact ak (by refine fun γ => ⟨rfl, fun w' h' => ?_⟩; clear h'; go_simp) (ak (fun γ => ⟨rfl, fun w' h' => ex_load6 h' 0 rfl rfl rfl rfl⟩) (ak (fun γ => ⟨rfl, fun w' h' => eC call71 (CO.out w')⟩) (ak (fun γ => ⟨rfl, fun w' _ => exec_neq6 e1 rfl rfl rfl⟩) trivial)))
  intro _ w16 H16
  clear H15
  refine rN (wp_cond_false rfl ?_)
  refine wp_skip (zA (wp_seq ?_))
  refine zC 4 [.quiet (PT γ3_9 12), .quiet (N u), .made zero6 24, .laid 2 zero6 (zD u)] (sB H16) ?ho12t ?he12t (hL := ?hL12t)
  case hL12t => exact ⟨⟨_, rfl⟩, trivial⟩
  case ho12t => exact ak (by refine fun γ => ⟨rfl, fun w' h' => ?_⟩; clear h'; go_simp) (ak (fun γ => ⟨rfl, fun w' h' => ex_load6 h' 0 rfl rfl rfl rfl⟩) (am (zJ rfl) (ak (fun γ => ⟨rfl, rfl, rfl, fun w' h' => zN h' rfl rfl rfl⟩) trivial)))
  intro γ w17 l hM hl
  have H17 : Hid (Mm w17 ([(γ 2, zD u)] ++ _) ∧ _) := wB H16 hM hl [2]
  have o12_2 := vB H16 hM hl 2
  clear hM hl l H16
  generalize γ 2 = γ12_2 at H17 o12_2 ⊢
  clear γ
  refine rN (wp_seq (wp_seq ?_))
  refine zB 3 [.quiet (PT γ3_9 25), .quiet (.bool true), .quiet (.bool false)] H17 ?ho13t ?he13t
  case ho13t => exact ak (by refine fun γ => ⟨rfl, fun w' h' => ?_⟩; clear h'; go_simp) (ak (fun γ => ⟨rfl, fun w' h' => ex_loadB h' 1 rfl rfl rfl rfl⟩) (ak (by refine fun γ => ⟨rfl, fun w' h' => ?_⟩; clear h'; go_simp) trivial))
  intro _ w18 H18
  clear H17
  refine rN (wp_cond_false rfl ?_)
  refine wp_skip (zA (wp_seq ?_))
  refine zB 5 [.quiet (PT g 0), .quiet (N u), .quiet (PT γ3_9 24), .quiet (.int .i64 ((h : Nat) : Int)), .call (N (dv n u h))] H18 ?ho14t ?he14t
  case ho14t => exact ar (ak (fun γ => ⟨rfl, fun w' h' => ex_load6 h' 0 rfl rfl rfl rfl⟩) (ak (by refine fun γ => ⟨rfl, fun w' h' => ?_⟩; clear h'; go_simp) (ak (fun γ => ⟨rfl, fun w' h' => ex_loadI h' 1 rfl rfl rfl rfl⟩) (ak (fun γ => ⟨rfl, fun w' h' => eC call132 (CD.out w' (h'.one 4 rfl))⟩) trivial))))
  intro _ w19 H19
  clear H18
  refine zF (l := [5, 6]) rfl ?_
  refine sG rfl (fun h => zO h 3 rfl rfl rfl rfl (Nat.le_of_ble_eq_true rfl)) 3 [_, _, _, (_, zD (dv n u h)), _, _] H19 o1_1 fun w20 H20 => ?_
  clear H19
  refine zG (d := 5) rfl rfl rfl rfl ?_
  simp only [Act.put, sa, sz, ss]
  refine zE (zA (wp_ret ?_))
  repeat (first | refine zM ?_ | refine zI ?_)
  have c0 := H20.out.1.get 3 rfl 0 rfl
  have c1 := H20.out.1.get 3 rfl 1 rfl
  have c2 := H20.out.1.get 3 rfl 2 rfl
  have c3 := H20.out.1.get 3 rfl 3 rfl
  have c4 := H20.out.1.get 3 rfl 4 rfl
  have c5 := H20.out.1.get 3 rfl 5 rfl
  refine bodyPost_ret (v := .tuple #[N (dv n u h), .int .i64 0]) (by simp [results, Tryz.results86, go_sem, *]) rfl ?_
  exact ⟨_, rfl, Nat.mod_lt _ ok.pos, end_true ok (by have h3 := IT.out; rw [HR0.out] at h3; exact h3) HO.out, H20.out.2⟩
theorem call81 : ∀ args w, (callFunc 81 args).run Tryz.prog w = .ok (.enter 81 args) w := by intro args w; go_simp
theorem call85 : ∀ args w, (callFunc 85 args).run Tryz.prog w = .ok (.enter 85 args) w := by intro args w; go_simp
theorem call86 : ∀ args w, (callFunc 86 args).run Tryz.prog w = .ok (.enter 86 args) w := by intro args w; go_simp
def invm (n a : Nat) : Nat := ((List.range n).find? fun x => x * a % n == 1).getD 0
theorem inv_unique {n a x y : Nat} (hx : x < n) (hy : y < n) (h1 : x * a % n = 1) (h2 : y * a % n = 1) : x = y := by
 have hn : 1 < n := by
  rcases Nat.lt_or_ge 1 n with h | h
  ·exact h
  ·have : x * a % n < 1 := Nat.lt_of_lt_of_le (Nat.mod_lt _ (by omega)) h
   omega
 have e1 : Cg n (x * a) 1 := by unfold Cg; rw [h1, Nat.mod_eq_of_lt hn]
 have e2 : Cg n (y * a) 1 := by unfold Cg; rw [h2, Nat.mod_eq_of_lt hn]
 have s1 := e2.mulL x
 have s2 := e1.mulL y
 rw [Nat.mul_one] at s1 s2
 have e3 : x * (y * a) = y * (x * a) := Nat.mul_left_comm ..
 rw [e3] at s1
 exact (s1.symm.trans s2).eq_of_lt hx hy
theorem invm_eq {n a x : Nat} (hx : x < n) (h1 : x * a % n = 1) : invm n a = x := by
 unfold invm
 cases hf : (List.range n).find? fun x => x * a % n == 1 with
 | none =>
  have := List.find?_eq_none.1 hf x (List.mem_range.2 hx)
  simp [h1] at this
 | some y =>
  have h2 := List.find?_some hf
  have h3 := List.mem_range.1 (List.mem_of_find?_eq_some hf)
  exact inv_unique h3 hx (by simpa using h2) h1
theorem inv_ok {g n a : Nat} (ok : Ok n) (ha : a < big) (hg : Nat.gcd n a = 1) (w : World) (hm : Mm w [(g, yB n), (0, dtab)]) :
  Calls Tryz.prog 86 #[PT g 0, N a] w (Rt w (.tuple #[N (invm n a), .int .i64 0])) := by
 refine (inv_good ok ha hg w hm).mono fun e w' h => ?_
 obtain ⟨x, rfl, hx, h1, hb⟩ := h
 rw [invm_eq hx h1]
 exact ⟨rfl, hb⟩
end Rg
end Go.Proofs.YtaomlijondiaoaaGreatDoor
end
