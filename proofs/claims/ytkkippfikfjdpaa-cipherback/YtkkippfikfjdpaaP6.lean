/- Texts of the proof, joined. -/
import Derived.Test.YtkkippfikfjdpaaP5
import Derived.ProofKit
import Derived.OpenShut
import Derived.ChangeSlices
import Derived.Test.YtkkippfikfjdpaaRows
section
namespace Go.Proofs.Ytkkippfikfjdpaa
open Go.RowKit
namespace Rg
set_option maxRecDepth 100000
def o1 (k : Nat) : Nat := 2 ^ k % 256
theorem o1_pos {k : Nat} (h : k < 8) : o1 k ≠ 0 ∧ o1 k < 256 := by
  rcases (by omega : k = 0 ∨ k = 1 ∨ k = 2 ∨ k = 3 ∨ k = 4 ∨ k = 5 ∨ k = 6 ∨ k = 7) with rfl | rfl | rfl | rfl | rfl | rfl | rfl | rfl <;> decide
theorem x8_ne {a v : Nat} (ha : a < 256) (hv : v < 256) (h0 : v ≠ 0) : x8 a v ≠ a := by
  unfold x8
  rw [Nat.mod_eq_of_lt (Nat.xor_lt_two_pow (n := 8) ha hv)]
  intro e
  apply h0
  have h1 : a ^^^ (a ^^^ v) = a ^^^ a := by rw [e]
  rwa [← Nat.xor_assoc, Nat.xor_self, Nat.zero_xor] at h1
theorem sl0_text {K N P : Nat → Nat} {n : Nat} {M : Nat → Nat} {m j : Nat} (h : j < n) : sl0 K N P n M m j = so K N 1 P j := if_pos h
theorem up_off (f : Nat → Nat) {k j : Nat} (v : Nat) (h : j ≠ k) : up f k v j = f j := if_neg h
section
variable {ρ : Operand → Value} {o : Oper} {x y : Operand} {k : Nat} {w : World}
theorem ex_shl81 (hk : k < 8) (ho : o.op = .binOp .shl 5 x y 3) (hx : ρ x = Z8 1) (hy : ρ y = .int .i64 ((k : Nat) : Int)) : (execOp ρ o).run Try.prog w = .ok (.value (Z8 (o1 k))) w := by
  rcases (by omega : k = 0 ∨ k = 1 ∨ k = 2 ∨ k = 3 ∨ k = 4 ∨ k = 5 ∨ k = 6 ∨ k = 7) with rfl | rfl | rfl | rfl | rfl | rfl | rfl | rfl <;>
    (simp only [execOp, ho, hx, hy]; kernel_rfl)
end
/-- A bit of the tag that was turned: it does not hold. -/
theorem back_tag {K N : Nat → Nat} {q mo : Pt8} {B : Nat} (h1 : q.n ≤ B / 8) (h2 : B / 8 < q.n + 16) : ¬ (∀ j, j < 16 → mt K N mo.f mo.n (up (sl0 K N q.f q.n mo.f mo.n) (0 + (B / 8)) (x8 ((sl0 K N q.f q.n mo.f mo.n) (0 + (B / 8))) (o1 (B % 8)))) ((q.n + 16) - 16) j = (up (sl0 K N q.f q.n mo.f mo.n) (0 + (B / 8)) (x8 ((sl0 K N q.f q.n mo.f mo.n) (0 + (B / 8))) (o1 (B % 8)))) (((q.n + 16) - 16) + j)) := by
  intro h
  have h3 := h (B / 8 - q.n) (by omega)
  rw [mt_cg (S := (up (sl0 K N q.f q.n mo.f mo.n) (0 + (B / 8)) (x8 ((sl0 K N q.f q.n mo.f mo.n) (0 + (B / 8))) (o1 (B % 8))))) (S' := (sl0 K N q.f q.n mo.f mo.n)) (fun j hj => up_off _ _ (by omega)), open_seal K N q.f q.n mo.f mo.n (B / 8 - q.n) (by omega), show (q.n + 16) - 16 + (B / 8 - q.n) = (0 + (B / 8)) by omega] at h3
  have h4 : (up (sl0 K N q.f q.n mo.f mo.n) (0 + (B / 8)) (x8 ((sl0 K N q.f q.n mo.f mo.n) (0 + (B / 8))) (o1 (B % 8)))) (0 + (B / 8)) = x8 ((sl0 K N q.f q.n mo.f mo.n) (0 + (B / 8))) (o1 (B % 8)) := if_pos rfl
  rw [h4] at h3
  exact x8_ne (sl0_256 _ _ _ _ _ _ _) (o1_pos (Nat.mod_lt _ (by decide))).2 (o1_pos (Nat.mod_lt _ (by decide))).1 h3.symm
theorem back_b1 {K N : Nat → Nat} {q mo : Pt8} {B : Nat} (h1 : B / 8 < q.n) (hT : ∀ j, j < 16 → mt K N mo.f mo.n (up (sl0 K N q.f q.n mo.f mo.n) (0 + (B / 8)) (x8 ((sl0 K N q.f q.n mo.f mo.n) (0 + (B / 8))) (o1 (B % 8)))) ((q.n + 16) - 16) j = (up (sl0 K N q.f q.n mo.f mo.n) (0 + (B / 8)) (x8 ((sl0 K N q.f q.n mo.f mo.n) (0 + (B / 8))) (o1 (B % 8)))) (((q.n + 16) - 16) + j)) (j : Nat) (hj : j < 16) : mt K N mo.f mo.n (up (sl0 K N q.f q.n mo.f mo.n) (0 + (B / 8)) (x8 ((sl0 K N q.f q.n mo.f mo.n) (0 + (B / 8))) (o1 (B % 8)))) q.n j = (sl0 K N q.f q.n mo.f mo.n) (q.n + j) := by
  have h := hT j hj
  rw [Nat.add_sub_cancel] at h
  rw [h]
  exact up_off _ _ (by omega)
theorem back_b2 {K N : Nat → Nat} {q mo : Pt8} {B : Nat} (h1 : B / 8 < q.n) (h : ∀ j, j < 16 → mt K N mo.f mo.n (up (sl0 K N q.f q.n mo.f mo.n) (0 + (B / 8)) (x8 ((sl0 K N q.f q.n mo.f mo.n) (0 + (B / 8))) (o1 (B % 8)))) q.n j = (sl0 K N q.f q.n mo.f mo.n) (q.n + j)) : ∀ j, j < 16 → mt K N mo.f mo.n (up (sl0 K N q.f q.n mo.f mo.n) (0 + (B / 8)) (x8 ((sl0 K N q.f q.n mo.f mo.n) (0 + (B / 8))) (o1 (B % 8)))) ((q.n + 16) - 16) j = (up (sl0 K N q.f q.n mo.f mo.n) (0 + (B / 8)) (x8 ((sl0 K N q.f q.n mo.f mo.n) (0 + (B / 8))) (o1 (B % 8)))) (((q.n + 16) - 16) + j) := fun j hj => by
  rw [Nat.add_sub_cancel, h j hj]
  exact (up_off _ _ (by omega)).symm
theorem back_c1 {K N : Nat → Nat} {q mo : Pt8} {B : Nat} (hT : ∀ j, j < 16 → mt K N (up mo.f (0 + ((B / 8) - (q.n + 16))) (x8 (mo.f (0 + ((B / 8) - (q.n + 16)))) (o1 (B % 8)))) mo.n (sl0 K N q.f q.n mo.f mo.n) ((q.n + 16) - 16) j = (sl0 K N q.f q.n mo.f mo.n) (((q.n + 16) - 16) + j)) (j : Nat) (hj : j < 16) : mt K N (up mo.f (0 + ((B / 8) - (q.n + 16))) (x8 (mo.f (0 + ((B / 8) - (q.n + 16)))) (o1 (B % 8)))) mo.n (sl0 K N q.f q.n mo.f mo.n) q.n j = (sl0 K N q.f q.n mo.f mo.n) (q.n + j) := by
  have h := hT j hj
  rwa [Nat.add_sub_cancel] at h
theorem back_c2 {K N : Nat → Nat} {q mo : Pt8} {B : Nat} (h : ∀ j, j < 16 → mt K N (up mo.f (0 + ((B / 8) - (q.n + 16))) (x8 (mo.f (0 + ((B / 8) - (q.n + 16)))) (o1 (B % 8)))) mo.n (sl0 K N q.f q.n mo.f mo.n) q.n j = (sl0 K N q.f q.n mo.f mo.n) (q.n + j)) : ∀ j, j < 16 → mt K N (up mo.f (0 + ((B / 8) - (q.n + 16))) (x8 (mo.f (0 + ((B / 8) - (q.n + 16)))) (o1 (B % 8)))) mo.n (sl0 K N q.f q.n mo.f mo.n) ((q.n + 16) - 16) j = (sl0 K N q.f q.n mo.f mo.n) (((q.n + 16) - 16) + j) := fun j hj => by
  rw [Nat.add_sub_cancel, h j hj]
theorem back_five (K N : Nat → Nat) (q mo : Pt8) (B : Nat) (_ : B < 8 * ((q.n + 16) + mo.n)) : (q.n ≤ B / 8 ∧ B / 8 < q.n + 16) ∨ (B / 8 < q.n ∧ (∀ j, j < 16 → mt K N mo.f mo.n (up (sl0 K N q.f q.n mo.f mo.n) (0 + (B / 8)) (x8 ((sl0 K N q.f q.n mo.f mo.n) (0 + (B / 8))) (o1 (B % 8)))) ((q.n + 16) - 16) j = (up (sl0 K N q.f q.n mo.f mo.n) (0 + (B / 8)) (x8 ((sl0 K N q.f q.n mo.f mo.n) (0 + (B / 8))) (o1 (B % 8)))) (((q.n + 16) - 16) + j))) ∨ (B / 8 < q.n ∧ ¬ (∀ j, j < 16 → mt K N mo.f mo.n (up (sl0 K N q.f q.n mo.f mo.n) (0 + (B / 8)) (x8 ((sl0 K N q.f q.n mo.f mo.n) (0 + (B / 8))) (o1 (B % 8)))) ((q.n + 16) - 16) j = (up (sl0 K N q.f q.n mo.f mo.n) (0 + (B / 8)) (x8 ((sl0 K N q.f q.n mo.f mo.n) (0 + (B / 8))) (o1 (B % 8)))) (((q.n + 16) - 16) + j))) ∨ (q.n + 16 ≤ B / 8 ∧ (∀ j, j < 16 → mt K N (up mo.f (0 + ((B / 8) - (q.n + 16))) (x8 (mo.f (0 + ((B / 8) - (q.n + 16)))) (o1 (B % 8)))) mo.n (sl0 K N q.f q.n mo.f mo.n) ((q.n + 16) - 16) j = (sl0 K N q.f q.n mo.f mo.n) (((q.n + 16) - 16) + j))) ∨ (q.n + 16 ≤ B / 8 ∧ ¬ (∀ j, j < 16 → mt K N (up mo.f (0 + ((B / 8) - (q.n + 16))) (x8 (mo.f (0 + ((B / 8) - (q.n + 16)))) (o1 (B % 8)))) mo.n (sl0 K N q.f q.n mo.f mo.n) ((q.n + 16) - 16) j = (sl0 K N q.f q.n mo.f mo.n) (((q.n + 16) - 16) + j))) := by
  by_cases h1 : B / 8 < q.n
  · by_cases hT : ∀ j, j < 16 → mt K N mo.f mo.n (up (sl0 K N q.f q.n mo.f mo.n) (0 + (B / 8)) (x8 ((sl0 K N q.f q.n mo.f mo.n) (0 + (B / 8))) (o1 (B % 8)))) ((q.n + 16) - 16) j = (up (sl0 K N q.f q.n mo.f mo.n) (0 + (B / 8)) (x8 ((sl0 K N q.f q.n mo.f mo.n) (0 + (B / 8))) (o1 (B % 8)))) (((q.n + 16) - 16) + j)
    · exact .inr (.inl ⟨h1, hT⟩)
    · exact .inr (.inr (.inl ⟨h1, hT⟩))
  · by_cases h2 : B / 8 < q.n + 16
    · exact .inl ⟨by omega, h2⟩
    · by_cases hT : ∀ j, j < 16 → mt K N (up mo.f (0 + ((B / 8) - (q.n + 16))) (x8 (mo.f (0 + ((B / 8) - (q.n + 16)))) (o1 (B % 8)))) mo.n (sl0 K N q.f q.n mo.f mo.n) ((q.n + 16) - 16) j = (sl0 K N q.f q.n mo.f mo.n) (((q.n + 16) - 16) + j)
      · exact .inr (.inr (.inr (.inl ⟨by omega, hT⟩)))
      · exact .inr (.inr (.inr (.inr ⟨by omega, hT⟩)))
theorem call5 : ∀ args w, (callFunc 5 args).run Try.prog w = .ok (.enter 5 args) w := by intro args w; go_simp
theorem call11 : ∀ args w, (callFunc 11 args).run Try.prog w = .ok (.enter 11 args) w := by intro args w; go_simp
theorem call24 : ∀ args w, (callFunc 24 args).run Try.prog w = .ok (.enter 24 args) w := by intro args w; go_simp
theorem call26 : ∀ args w, (callFunc 26 args).run Try.prog w = .ok (.enter 26 args) w := by intro args w; go_simp
set_option maxHeartbeats 8000000 in
set_option maxRecDepth 100000 in
theorem back_main (K N : Nat → Nat) (gk ok ck gn on cn : Nat) (hck : 32 ≤ ck) (hcn : 12 ≤ cn) (q mo : Pt8) (hq : Pok q) (hmo : Pok mo) (hNmo0 : mo.p = none → mo.cp = 0) (hfq : ∀ j, q.f j < 256) (hfmo : ∀ j, mo.f j < 256) (hlq : q.n ≤ 2000) (hlm : mo.n ≤ 2000) (z : Int) (B : Nat) (hPk : ∀ w, Calls Try.prog 24 #[.int .i64 z, .int .i64 ((8 * ((q.n + 16) + mo.n) : Nat) : Int)] w fun e w' => e = .returned (.int .i64 ((B : Nat) : Int)) ∧ Below w.heap.size w w') (hBl : B < 8 * ((q.n + 16) + mo.n)) (w : World) (hRk : Rs gk ok 32 K w) (hRn : Rs gn on 12 N w) (hRb : q.rs w) (hRm : mo.rs w) :
    Calls Try.prog 6 #[.slice (some ⟨gk, ok, none⟩) 32 ck, .slice (some ⟨gn, on, none⟩) 12 cn, .slice q.p q.n q.cp, .slice mo.p mo.n mo.cp, .int .i64 z] w fun e w' => e = .returned (.bool true) ∧ Below w.heap.size w w' := by
  have H0 : Hid (_ ∧ _) := ⟨Mm.nil w, Below.refl w.heap.size w⟩
  have RK : Hid (Rs gk ok 32 K w) := hRk
  have RN : Hid (Rs gn on 12 N w) := hRn
  have RB : Hid (q.rs w) := hRb
  have RM : Hid (mo.rs w) := hRm
  have hNmo : Hid _ := hNmo0
  have HPk : Hid _ := hPk
  clear hRk hRn hRb hRm hNmo0 hPk
  go_enter Try.func6, Try.ntmps6
  refine wp_seq ?_
  refine walk_seqB 1 [.quiet (.bool false)] H0 ?ho1 ?he1
  case ho1 => exact ak (fun _ => ⟨rfl, fun _ _ => rfl⟩) trivial
  intro _ w1 H1
  refine rest0 rfl (then_normal (wp_seq ?_))
  refine walk_seqB 2 [.call (.bool true), .quiet (.bool true)] H1 ?ho2 ?he2
  case ho2 => exact ak (fun γ => ⟨rfl, fun w' h => ⟨5, #[], exec_call rfl call5 rfl (mpn rfl), known_law w'⟩⟩) (ak (fun _ => ⟨rfl, fun _ _ => rfl⟩) trivial)
  intro _ w2 H2
  clear H1
  refine rest0 rfl (then_normal (wp_seq (wp_seq ?_)))
  refine walk_seqB 18 [.quiet (.slice (some ⟨gk, ok, none⟩) 32 ck), .quiet (.int .i64 ((32 : Nat) : Int)), .quiet (.bool false), .quiet (.bool false), .quiet (.slice (some ⟨gn, on, none⟩) 12 cn), .quiet (.int .i64 ((12 : Nat) : Int)), .quiet (.bool false), .quiet (.bool false), .quiet (.bool false), .quiet (.slice q.p q.n q.cp), .quiet (.int .i64 ((q.n : Nat) : Int)), .quiet (.bool false), .quiet (.bool false), .quiet (.bool false), .quiet (.slice mo.p mo.n mo.cp), .quiet (.int .i64 ((mo.n : Nat) : Int)), .quiet (.bool false), .quiet (.bool false)] H2 ?ho3 ?he3
  case ho3 => exact ak (fun _ => ⟨rfl, fun _ _ => rfl⟩) (ak (by refine fun γ => ⟨rfl, fun w' h => ?_⟩; clear h; go_simp) (ak (by refine fun γ => ⟨rfl, fun w' h => ?_⟩; clear h; go_simp <;> omega) (ak (fun _ => ⟨rfl, fun _ _ => rfl⟩) (ak (fun _ => ⟨rfl, fun _ _ => rfl⟩) (ak (by refine fun γ => ⟨rfl, fun w' h => ?_⟩; clear h; go_simp) (ak (by refine fun γ => ⟨rfl, fun w' h => ?_⟩; clear h; go_simp <;> omega) (ak (by refine fun γ => ⟨rfl, fun w' h => ?_⟩; clear h; go_simp) (ak (fun _ => ⟨rfl, fun _ _ => rfl⟩) (ak (fun _ => ⟨rfl, fun _ _ => rfl⟩) (ak (by refine fun γ => ⟨rfl, fun w' h => ?_⟩; clear h; go_simp) (ak (by refine fun γ => ⟨rfl, fun w' h => ?_⟩; clear h; go_simp <;> omega) (ak (by refine fun γ => ⟨rfl, fun w' h => ?_⟩; clear h; go_simp) (ak (fun _ => ⟨rfl, fun _ _ => rfl⟩) (ak (fun _ => ⟨rfl, fun _ _ => rfl⟩) (ak (by refine fun γ => ⟨rfl, fun w' h => ?_⟩; clear h; go_simp) (ak (by refine fun γ => ⟨rfl, fun w' h => ?_⟩; clear h; go_simp <;> omega) (ak (by refine fun γ => ⟨rfl, fun w' h => ?_⟩; clear h; go_simp) trivial)))))))))))))))))
  intro _ w3 H3
  clear H2
  refine rest0 rfl (then_normal (wp_cond_false rfl ?_))
  refine wp_skip (then_normal (wp_seq ?_))
  refine walk_seqB 4 [.quiet (.slice (some ⟨gk, ok, none⟩) 32 ck), .quiet (.slice (some ⟨gn, on, none⟩) 12 cn), .quiet (.slice q.p q.n q.cp), .quiet (.slice mo.p mo.n mo.cp)] H3 ?ho4 ?he4
  case ho4 => exact ak (fun _ => ⟨rfl, fun _ _ => rfl⟩) (ak (fun _ => ⟨rfl, fun _ _ => rfl⟩) (ak (fun _ => ⟨rfl, fun _ _ => rfl⟩) (ak (fun _ => ⟨rfl, fun _ _ => rfl⟩) trivial)))
  intro _ w4 H4
  clear H3
  refine rest_at (l := [4, 5, 6, 7, 8, 9]) rfl ?_
  refine rest_enter (d := 51) rfl rfl rfl (exec_call (args := #[.slice (some ⟨gk, ok, none⟩) 32 ck, .slice (some ⟨gn, on, none⟩) 12 cn, .slice q.p q.n q.cp, .slice mo.p mo.n mo.cp]) rfl call18 rfl (mpn rfl)) ((Calls.mono (PSeal_ok K N gk ok ck gn on cn hck hcn q mo hq hmo hfmo (by omega) (by omega) w4 (RK.out.below H4.out.2) (RN.out.below H4.out.2) (RB.out.below H4.out.2) (RM.out.below H4.out.2)) (fun e w2 hh => by obtain ⟨hb, g, he, h1, h2, h3⟩ := hh; exact ⟨_, he, hb, g, rfl, h1, h2, h3⟩) : Calls Try.prog 18 #[.slice (some ⟨gk, ok, none⟩) 32 ck, .slice (some ⟨gn, on, none⟩) 12 cn, .slice q.p q.n q.cp, .slice mo.p mo.n mo.cp] w4 (fun e w' => ∃ v, e = .returned v ∧ (Below w4.heap.size w4 w' ∧ ∃ g, v = .tuple #[.slice (some ⟨g, 0, none⟩) (q.n + 16) (q.n + 16), .int .i64 0] ∧ w4.heap.size ≤ g ∧ g < w'.heap.size ∧ Blk w' g (ints .u8 (sl0 K N q.f q.n mo.f mo.n) (q.n + 16)))))) ?_
  rintro _ w5 ⟨hb, γt5, rfl, hg1, hg2, hg3⟩
  have o_γt5 : Hid (w.heap.size ≤ γt5) := Nat.le_trans H4.out.2.size hg1
  have H5 : Hid (Mm w5 [(γt5, ints .u8 (sl0 K N q.f q.n mo.f mo.n) (q.n + 16))] ∧ Below w.heap.size w w5) := ⟨Mm.over H4.out.1 hg1 (H4.out.1.below hb) hg3 hg2, H4.out.2.trans (hb.mono H4.out.2.size)⟩
  clear hb hg1 hg2 hg3 H4
  simp only [Act.put, sa, sz, ss]
  refine rest_set (d := 46) (v := .tuple #[.slice (some ⟨γt5, 0, none⟩) (q.n + 16) (q.n + 16), .int .i64 0]) (w' := w5) rfl rfl rfl rfl ?_
  simp only [Act.put, sa, sz, ss]
  refine rest_set (d := 52) (v := .slice (some ⟨γt5, 0, none⟩) (q.n + 16) (q.n + 16)) (w' := w5) rfl rfl rfl (by go_simp) ?_
  simp only [Act.put, sa, sz, ss]
  refine rest_set (d := 53) (v := .int .i64 0) (w' := w5) rfl rfl rfl (by go_simp) ?_
  simp only [Act.put, sa, sz, ss]
  refine rest_set (d := 12) (v := .slice (some ⟨γt5, 0, none⟩) (q.n + 16) (q.n + 16)) (w' := w5) rfl rfl rfl rfl ?_
  simp only [Act.put, sa, sz, ss]
  refine rest_set (d := 13) (v := .int .i64 0) (w' := w5) rfl rfl rfl rfl ?_
  simp only [Act.put, sa, sz, ss]
  refine rest_nil (then_normal ?_)
  refine wp_seq (wp_seq ?_)
  refine walk_seqB 10 [.quiet (.int .i64 0), .quiet (.bool false), .quiet (.bool false), .quiet (.slice (some ⟨γt5, 0, none⟩) (q.n + 16) (q.n + 16)), .quiet (.int .i64 (((q.n + 16) : Nat) : Int)), .quiet (.slice q.p q.n q.cp), .quiet (.int .i64 ((q.n : Nat) : Int)), .quiet (.int .i64 ((q.n + 16 : Nat) : Int)), .quiet (.bool false), .quiet (.bool false)] H5 ?ho5 ?he5
  case ho5 => exact ak (fun _ => ⟨rfl, fun _ _ => rfl⟩) (ak (fun γ => ⟨rfl, fun w' _ => ex_neE (a := 0) (b := 0) rfl rfl rfl rfl⟩) (ak (fun _ => ⟨rfl, fun _ _ => rfl⟩) (ak (fun _ => ⟨rfl, fun _ _ => rfl⟩) (ak (by refine fun γ => ⟨rfl, fun w' h => ?_⟩; clear h; go_simp) (ak (fun _ => ⟨rfl, fun _ _ => rfl⟩) (ak (by refine fun γ => ⟨rfl, fun w' h => ?_⟩; clear h; go_simp) (ak (by refine fun γ => ⟨rfl, fun w' h => ?_⟩; clear h; go_simp; rw [IntKind.wrap_i64]; omega) (ak (by refine fun γ => ⟨rfl, fun w' h => ?_⟩; clear h; go_simp <;> omega) (ak (by refine fun γ => ⟨rfl, fun w' h => ?_⟩; clear h; go_simp) trivial)))))))))
  intro _ w6 H6
  clear H5
  refine rest0 rfl (then_normal (wp_cond_false rfl ?_))
  refine wp_skip (then_normal (wp_seq ?_))
  refine walk_seqB 4 [.quiet (.slice (some ⟨gk, ok, none⟩) 32 ck), .quiet (.slice (some ⟨gn, on, none⟩) 12 cn), .quiet (.slice (some ⟨γt5, 0, none⟩) (q.n + 16) (q.n + 16)), .quiet (.slice mo.p mo.n mo.cp)] H6 ?ho6 ?he6
  case ho6 => exact ak (fun _ => ⟨rfl, fun _ _ => rfl⟩) (ak (fun _ => ⟨rfl, fun _ _ => rfl⟩) (ak (fun _ => ⟨rfl, fun _ _ => rfl⟩) (ak (fun _ => ⟨rfl, fun _ _ => rfl⟩) trivial)))
  intro _ w7 H7
  clear H6
  refine rest_at (l := [4, 5, 6, 7, 8, 9]) rfl ?_
  refine rest_enter (d := 69) rfl rfl rfl (exec_call (args := #[.slice (some ⟨gk, ok, none⟩) 32 ck, .slice (some ⟨gn, on, none⟩) 12 cn, .slice (some ⟨γt5, 0, none⟩) (q.n + 16) (q.n + 16), .slice mo.p mo.n mo.cp]) rfl call20 rfl (mpn rfl)) ((Calls.mono (POpen_ok K N gk ok ck gn on cn hck hcn (sl0 K N q.f q.n mo.f mo.n) γt5 0 (q.n + 16) (q.n + 16) mo hmo (sl0_256 _ _ _ _ _ _) hfmo (by omega) (Nat.le_refl _) (by omega) (by omega) (open_seal K N q.f q.n mo.f mo.n) w7 (RK.out.below H7.out.2) (RN.out.below H7.out.2) (H7.out.1.rs 0 rfl (Nat.le_refl _)) (RM.out.below H7.out.2)) (fun e w2 hh => by obtain ⟨hb, g, he, h1, h2, h3⟩ := hh; exact ⟨_, he, hb, g, rfl, h1, h2, h3⟩) : Calls Try.prog 20 #[.slice (some ⟨gk, ok, none⟩) 32 ck, .slice (some ⟨gn, on, none⟩) 12 cn, .slice (some ⟨γt5, 0, none⟩) (q.n + 16) (q.n + 16), .slice mo.p mo.n mo.cp] w7 (fun e w' => ∃ v, e = .returned v ∧ (Below w7.heap.size w7 w' ∧ ∃ g, v = .tuple #[.slice (some ⟨g, 0, none⟩) ((q.n + 16) - 16) ((q.n + 16) - 16), .int .i64 0] ∧ w7.heap.size ≤ g ∧ g < w'.heap.size ∧ Blk w' g (ints .u8 (so K N 1 (sl0 K N q.f q.n mo.f mo.n)) ((q.n + 16) - 16)))))) ?_
  rintro _ w8 ⟨hb, γt8, rfl, hg1, hg2, hg3⟩
  have o_γt8 : Hid (w.heap.size ≤ γt8) := Nat.le_trans H7.out.2.size hg1
  have H8 : Hid (Mm w8 [(γt8, ints .u8 (so K N 1 (sl0 K N q.f q.n mo.f mo.n)) ((q.n + 16) - 16)), (γt5, ints .u8 (sl0 K N q.f q.n mo.f mo.n) (q.n + 16))] ∧ Below w.heap.size w w8) := ⟨Mm.over H7.out.1 hg1 (H7.out.1.below hb) hg3 hg2, H7.out.2.trans (hb.mono H7.out.2.size)⟩
  clear hb hg1 hg2 hg3 H7
  simp only [Act.put, sa, sz, ss]
  refine rest_set (d := 64) (v := .tuple #[.slice (some ⟨γt8, 0, none⟩) ((q.n + 16) - 16) ((q.n + 16) - 16), .int .i64 0]) (w' := w8) rfl rfl rfl rfl ?_
  simp only [Act.put, sa, sz, ss]
  refine rest_set (d := 70) (v := .slice (some ⟨γt8, 0, none⟩) ((q.n + 16) - 16) ((q.n + 16) - 16)) (w' := w8) rfl rfl rfl (by go_simp) ?_
  simp only [Act.put, sa, sz, ss]
  refine rest_set (d := 71) (v := .int .i64 0) (w' := w8) rfl rfl rfl (by go_simp) ?_
  simp only [Act.put, sa, sz, ss]
  refine rest_set (d := 14) (v := .slice (some ⟨γt8, 0, none⟩) ((q.n + 16) - 16) ((q.n + 16) - 16)) (w' := w8) rfl rfl rfl rfl ?_
  simp only [Act.put, sa, sz, ss]
  refine rest_set (d := 15) (v := .int .i64 0) (w' := w8) rfl rfl rfl rfl ?_
  simp only [Act.put, sa, sz, ss]
  refine rest_nil (then_normal (wp_seq ?_))
  refine walk_seqB 3 [.quiet (.slice (some ⟨gk, ok, none⟩) 32 ck), .quiet (.slice (some ⟨gn, on, none⟩) 12 cn), .quiet (.slice q.p q.n q.cp)] H8 ?ho7 ?he7
  case ho7 => exact ak (fun _ => ⟨rfl, fun _ _ => rfl⟩) (ak (fun _ => ⟨rfl, fun _ _ => rfl⟩) (ak (fun _ => ⟨rfl, fun _ _ => rfl⟩) trivial))
  intro _ w9 H9
  clear H8
  refine rest_at (l := [3, 4, 5, 6, 7, 8]) rfl ?_
  refine rest_enter (d := 76) rfl rfl rfl (exec_call (args := #[.slice (some ⟨gk, ok, none⟩) 32 ck, .slice (some ⟨gn, on, none⟩) 12 cn, .int .u32 7, .slice q.p q.n q.cp]) rfl call11 rfl (mpn rfl)) ((Calls.mono (PStream_ok K N gk ok ck gn on cn hck hcn 7 q (by decide) hq (by omega) w9 (RK.out.below H9.out.2) (RN.out.below H9.out.2) (RB.out.below H9.out.2)) (fun e w2 hh => by obtain ⟨hb, g, he, h1, h2, h3⟩ := hh; exact ⟨_, he, hb, g, rfl, h1, h2, h3⟩) : Calls Try.prog 11 #[.slice (some ⟨gk, ok, none⟩) 32 ck, .slice (some ⟨gn, on, none⟩) 12 cn, .int .u32 7, .slice q.p q.n q.cp] w9 (fun e w' => ∃ v, e = .returned v ∧ (Below w9.heap.size w9 w' ∧ ∃ g, v = .tuple #[.slice (some ⟨g, 0, none⟩) q.n q.n, .int .i64 0] ∧ w9.heap.size ≤ g ∧ g < w'.heap.size ∧ Blk w' g (ints .u8 (so K N 7 q.f) q.n))))) ?_
  rintro _ w10 ⟨hb, γt10, rfl, hg1, hg2, hg3⟩
  have o_γt10 : Hid (w.heap.size ≤ γt10) := Nat.le_trans H9.out.2.size hg1
  have H10 : Hid (Mm w10 [(γt10, ints .u8 (so K N 7 q.f) q.n), (γt8, ints .u8 (so K N 1 (sl0 K N q.f q.n mo.f mo.n)) ((q.n + 16) - 16)), (γt5, ints .u8 (sl0 K N q.f q.n mo.f mo.n) (q.n + 16))] ∧ Below w.heap.size w w10) := ⟨Mm.over H9.out.1 hg1 (H9.out.1.below hb) hg3 hg2, H9.out.2.trans (hb.mono H9.out.2.size)⟩
  clear hb hg1 hg2 hg3 H9
  simp only [Act.put, sa, sz, ss]
  refine rest_set (d := 72) (v := .tuple #[.slice (some ⟨γt10, 0, none⟩) q.n q.n, .int .i64 0]) (w' := w10) rfl rfl rfl rfl ?_
  simp only [Act.put, sa, sz, ss]
  refine rest_set (d := 77) (v := .slice (some ⟨γt10, 0, none⟩) q.n q.n) (w' := w10) rfl rfl rfl (by go_simp) ?_
  simp only [Act.put, sa, sz, ss]
  refine rest_set (d := 78) (v := .int .i64 0) (w' := w10) rfl rfl rfl (by go_simp) ?_
  simp only [Act.put, sa, sz, ss]
  refine rest_set (d := 16) (v := .slice (some ⟨γt10, 0, none⟩) q.n q.n) (w' := w10) rfl rfl rfl rfl ?_
  simp only [Act.put, sa, sz, ss]
  refine rest_set (d := 17) (v := .int .i64 0) (w' := w10) rfl rfl rfl rfl ?_
  simp only [Act.put, sa, sz, ss]
  refine rest_nil (then_normal (wp_seq ?_))
  refine walk_seqB 3 [.quiet (.slice (some ⟨gk, ok, none⟩) 32 ck), .quiet (.slice (some ⟨gn, on, none⟩) 12 cn), .quiet (.slice (some ⟨γt10, 0, none⟩) q.n q.n)] H10 ?ho8 ?he8
  case ho8 => exact ak (fun _ => ⟨rfl, fun _ _ => rfl⟩) (ak (fun _ => ⟨rfl, fun _ _ => rfl⟩) (ak (fun _ => ⟨rfl, fun _ _ => rfl⟩) trivial))
  intro _ w11 H11
  clear H10
  refine rest_at (l := [3, 4, 5, 6, 7, 8]) rfl ?_
  refine rest_enter (d := 83) rfl rfl rfl (exec_call (args := #[.slice (some ⟨gk, ok, none⟩) 32 ck, .slice (some ⟨gn, on, none⟩) 12 cn, .int .u32 7, .slice (some ⟨γt10, 0, none⟩) q.n q.n]) rfl call11 rfl (mpn rfl)) ((Calls.mono (PStream_ok K N gk ok ck gn on cn hck hcn 7 (pa γt10 0 q.n q.n (so K N 7 q.f)) (by decide) (pa_ok _ _ _ (Nat.le_refl _)) (by show q.n ≤ 1048576; omega) w11 (RK.out.below H11.out.2) (RN.out.below H11.out.2) (H11.out.1.rs 0 rfl (Nat.le_refl _))) (fun e w2 hh => by obtain ⟨hb, g, he, h1, h2, h3⟩ := hh; exact ⟨_, he, hb, g, rfl, h1, h2, h3⟩) : Calls Try.prog 11 #[.slice (some ⟨gk, ok, none⟩) 32 ck, .slice (some ⟨gn, on, none⟩) 12 cn, .int .u32 7, .slice (some ⟨γt10, 0, none⟩) q.n q.n] w11 (fun e w' => ∃ v, e = .returned v ∧ (Below w11.heap.size w11 w' ∧ ∃ g, v = .tuple #[.slice (some ⟨g, 0, none⟩) q.n q.n, .int .i64 0] ∧ w11.heap.size ≤ g ∧ g < w'.heap.size ∧ Blk w' g (ints .u8 (so K N 7 (so K N 7 q.f)) q.n))))) ?_
  rintro _ w12 ⟨hb, γt12, rfl, hg1, hg2, hg3⟩
  have o_γt12 : Hid (w.heap.size ≤ γt12) := Nat.le_trans H11.out.2.size hg1
  have H12 : Hid (Mm w12 [(γt12, ints .u8 (so K N 7 (so K N 7 q.f)) q.n), (γt10, ints .u8 (so K N 7 q.f) q.n), (γt8, ints .u8 (so K N 1 (sl0 K N q.f q.n mo.f mo.n)) ((q.n + 16) - 16)), (γt5, ints .u8 (sl0 K N q.f q.n mo.f mo.n) (q.n + 16))] ∧ Below w.heap.size w w12) := ⟨Mm.over H11.out.1 hg1 (H11.out.1.below hb) hg3 hg2, H11.out.2.trans (hb.mono H11.out.2.size)⟩
  clear hb hg1 hg2 hg3 H11
  simp only [Act.put, sa, sz, ss]
  refine rest_set (d := 79) (v := .tuple #[.slice (some ⟨γt12, 0, none⟩) q.n q.n, .int .i64 0]) (w' := w12) rfl rfl rfl rfl ?_
  simp only [Act.put, sa, sz, ss]
  refine rest_set (d := 84) (v := .slice (some ⟨γt12, 0, none⟩) q.n q.n) (w' := w12) rfl rfl rfl (by go_simp) ?_
  simp only [Act.put, sa, sz, ss]
  refine rest_set (d := 85) (v := .int .i64 0) (w' := w12) rfl rfl rfl (by go_simp) ?_
  simp only [Act.put, sa, sz, ss]
  refine rest_set (d := 18) (v := .slice (some ⟨γt12, 0, none⟩) q.n q.n) (w' := w12) rfl rfl rfl rfl ?_
  simp only [Act.put, sa, sz, ss]
  refine rest_set (d := 19) (v := .int .i64 0) (w' := w12) rfl rfl rfl rfl ?_
  simp only [Act.put, sa, sz, ss]
  refine rest_nil (then_normal ?_)
  refine wp_seq (wp_seq ?_)
  refine (walk_seq) 22 [.quiet (.int .i64 0), .quiet (.bool false), .quiet (.bool false), .quiet (.slice (some ⟨γt8, 0, none⟩) ((q.n + 16) - 16) ((q.n + 16) - 16)), .quiet (.slice q.p q.n q.cp), .call (.bool true), .quiet (.bool false), .quiet (.bool false), .quiet (.bool false), .quiet (.int .i64 0), .quiet (.bool false), .quiet (.bool false), .quiet (.bool false), .quiet (.int .i64 0), .quiet (.bool false), .quiet (.bool false), .quiet (.bool false), .quiet (.slice (some ⟨γt12, 0, none⟩) q.n q.n), .quiet (.slice q.p q.n q.cp), .call (.bool true), .quiet (.bool false), .quiet (.bool false)] (fun u' => Mm u' [(γt12, ints .u8 (so K N 7 (so K N 7 q.f)) q.n), (γt10, ints .u8 (so K N 7 q.f) q.n), (γt8, ints .u8 (so K N 1 (sl0 K N q.f q.n mo.f mo.n)) ((q.n + 16) - 16)), (γt5, ints .u8 (sl0 K N q.f q.n mo.f mo.n) (q.n + 16))] ∧ (Rs gk ok 32 K u' ∧ Rs gn on 12 N u' ∧ q.rs u' ∧ mo.rs u')) ?pre9 ?F9 ?hpre9 (fun γ => ?hF9) (by kernel_rfl) ?hL9 ?hS9 ?ho9 ?he9
  case hpre9 => simp only [tk, tz]; rfl
  case hF9 => simp only [fill, Kind.val, Act.put, sa, sz, ss]; rfl
  case hL9 => exact trivial
  case hS9 => exact fun w' hb => ⟨H12.out.1.below hb, ⟨RK.out.below (H12.out.2.trans (hb.mono H12.out.2.size)), RN.out.below (H12.out.2.trans (hb.mono H12.out.2.size)), RB.out.below (H12.out.2.trans (hb.mono H12.out.2.size)), RM.out.below (H12.out.2.trans (hb.mono H12.out.2.size))⟩⟩
  case ho9 =>
    refine ak (fun _ => ⟨rfl, fun _ _ => rfl⟩) ?_
    refine ak (fun γ => ⟨rfl, fun w' _ => ex_neE (a := 0) (b := 0) rfl rfl rfl rfl⟩) ?_
    refine ak (fun _ => ⟨rfl, fun _ _ => rfl⟩) ?_
    refine ak (fun _ => ⟨rfl, fun _ _ => rfl⟩) ?_
    refine ak (fun _ => ⟨rfl, fun _ _ => rfl⟩) ?_
    refine ak (fun γ => ⟨rfl, fun w' hX => have h := hX.1; ⟨15, #[.slice (some ⟨γt8, 0, none⟩) ((q.n + 16) - 16) ((q.n + 16) - 16), .slice q.p q.n q.cp], exec_call rfl call15 rfl (mpn rfl), same_pt (pa γt8 0 ((q.n + 16) - 16) ((q.n + 16) - 16) (so K N 1 (sl0 K N q.f q.n mo.f mo.n))) q (pa_ok _ _ _ (Nat.le_refl _)) hq (so_256 _ _ _ _) hfq true ⟨fun _ => ⟨Nat.add_sub_cancel _ _, fun j hj => by show so K N 1 (sl0 K N q.f q.n mo.f mo.n) j = q.f j; rw [so_cg K N 1 (sl0_text (show j < q.n from by have h9 : j < (q.n + 16) - 16 := hj; omega)), so_so hfq]⟩, fun _ => rfl⟩ w' (h.rs 2 rfl (Nat.le_refl _)) hX.2.2.2.1⟩⟩) ?_
    refine ak (by refine fun γ => ⟨rfl, fun w' h => ?_⟩; clear h; go_simp) ?_
    refine ak (by refine fun γ => ⟨rfl, fun w' h => ?_⟩; clear h; go_simp) ?_
    refine ak (fun _ => ⟨rfl, fun _ _ => rfl⟩) ?_
    refine ak (fun _ => ⟨rfl, fun _ _ => rfl⟩) ?_
    refine ak (fun γ => ⟨rfl, fun w' _ => ex_neE (a := 0) (b := 0) rfl rfl rfl rfl⟩) ?_
    refine ak (by refine fun γ => ⟨rfl, fun w' h => ?_⟩; clear h; go_simp) ?_
    refine ak (fun _ => ⟨rfl, fun _ _ => rfl⟩) ?_
    refine ak (fun _ => ⟨rfl, fun _ _ => rfl⟩) ?_
    refine ak (fun γ => ⟨rfl, fun w' _ => ex_neE (a := 0) (b := 0) rfl rfl rfl rfl⟩) ?_
    refine ak (by refine fun γ => ⟨rfl, fun w' h => ?_⟩; clear h; go_simp) ?_
    refine ak (fun _ => ⟨rfl, fun _ _ => rfl⟩) ?_
    refine ak (fun _ => ⟨rfl, fun _ _ => rfl⟩) ?_
    refine ak (fun _ => ⟨rfl, fun _ _ => rfl⟩) ?_
    refine ak (fun γ => ⟨rfl, fun w' hX => have h := hX.1; ⟨15, #[.slice (some ⟨γt12, 0, none⟩) q.n q.n, .slice q.p q.n q.cp], exec_call rfl call15 rfl (mpn rfl), same_pt (pa γt12 0 q.n q.n (so K N 7 (so K N 7 q.f))) q (pa_ok _ _ _ (Nat.le_refl _)) hq (so_256 _ _ _ _) hfq true ⟨fun _ => ⟨rfl, fun j _ => so_so hfq K N 7 j⟩, fun _ => rfl⟩ w' (h.rs 0 rfl (Nat.le_refl _)) hX.2.2.2.1⟩⟩) ?_
    refine ak (by refine fun γ => ⟨rfl, fun w' h => ?_⟩; clear h; go_simp) ?_
    refine ak (by refine fun γ => ⟨rfl, fun w' h => ?_⟩; clear h; go_simp) ?_
    exact trivial
  intro γ w13 l hM hl
  have H13 := keepB H12 hM.below
  clear hM hl l H12 γ
  refine rest0 rfl (then_normal (wp_cond_false rfl ?_))
  refine wp_skip (then_normal (wp_seq ?_))
  refine walk_seqB 8 [.quiet (.int .i64 z), .quiet (.slice (some ⟨γt5, 0, none⟩) (q.n + 16) (q.n + 16)), .quiet (.int .i64 (((q.n + 16) : Nat) : Int)), .quiet (.slice mo.p mo.n mo.cp), .quiet (.int .i64 ((mo.n : Nat) : Int)), .quiet (.int .i64 (((q.n + 16) + mo.n : Nat) : Int)), .quiet (.int .i64 ((8 * ((q.n + 16) + mo.n) : Nat) : Int)), .call (.int .i64 ((B : Nat) : Int))] H13 ?ho10 ?he10
  case ho10 => exact ak (fun _ => ⟨rfl, fun _ _ => rfl⟩) (ak (fun _ => ⟨rfl, fun _ _ => rfl⟩) (ak (by refine fun γ => ⟨rfl, fun w' h => ?_⟩; clear h; go_simp) (ak (fun _ => ⟨rfl, fun _ _ => rfl⟩) (ak (by refine fun γ => ⟨rfl, fun w' h => ?_⟩; clear h; go_simp) (ak (by refine fun γ => ⟨rfl, fun w' h => ?_⟩; clear h; go_simp; rw [IntKind.wrap_i64]; omega) (ak (by refine fun γ => ⟨rfl, fun w' h => ?_⟩; clear h; go_simp; rw [IntKind.wrap_i64]; omega) (ak (fun γ => ⟨rfl, fun w' h => ⟨24, #[.int .i64 z, .int .i64 ((8 * ((q.n + 16) + mo.n) : Nat) : Int)], exec_call rfl call24 rfl (mpn rfl), HPk.out w'⟩⟩) trivial)))))))
  intro _ w14 H14
  clear H13
  refine rest_at (l := [8]) rfl ?_
  refine rest_set (d := 4) (v := .int .i64 ((B : Nat) : Int)) (w' := w14) rfl rfl rfl rfl ?_
  simp only [Act.put, sa, sz, ss]
  refine rest_nil (then_normal (wp_seq ?_))
  refine (walk_seq) 4 [.quiet (.slice (some ⟨γt5, 0, none⟩) (q.n + 16) (q.n + 16)), .bornX (fun g x y => .slice (some ⟨g, 0, none⟩) (q.n + 16) ((q.n + 16) + x)) (ints .u8 (sl0 K N q.f q.n mo.f mo.n) (q.n + 16)), .quiet (.slice mo.p mo.n mo.cp), .bornX (fun g x y => .slice (some ⟨g, 0, none⟩) mo.n (mo.n + x)) (ints .u8 mo.f mo.n)] (fun u' => Mm u' [(γt12, ints .u8 (so K N 7 (so K N 7 q.f)) q.n), (γt10, ints .u8 (so K N 7 q.f) q.n), (γt8, ints .u8 (so K N 1 (sl0 K N q.f q.n mo.f mo.n)) ((q.n + 16) - 16)), (γt5, ints .u8 (sl0 K N q.f q.n mo.f mo.n) (q.n + 16))] ∧ (Rs gk ok 32 K u' ∧ Rs gn on 12 N u' ∧ q.rs u' ∧ mo.rs u')) ?pre11 ?F11 ?hpre11 (fun γ => ?hF11) (by kernel_rfl) ?hL11 ?hS11 ?ho11 ?he11
  case hpre11 => simp only [tk, tz]; rfl
  case hF11 => simp only [fill, Kind.val, Act.put, sa, sz, ss]; rfl
  case hL11 => exact trivial
  case hS11 => exact fun w' hb => ⟨H14.out.1.below hb, ⟨RK.out.below (H14.out.2.trans (hb.mono H14.out.2.size)), RN.out.below (H14.out.2.trans (hb.mono H14.out.2.size)), RB.out.below (H14.out.2.trans (hb.mono H14.out.2.size)), RM.out.below (H14.out.2.trans (hb.mono H14.out.2.size))⟩⟩
  case ho11 =>
    refine ak (fun _ => ⟨rfl, fun _ _ => rfl⟩) ?_
    refine ak (fun γ => ⟨rfl, fun w' hX => have h := hX.1; ⟨25, #[.slice (some ⟨γt5, 0, none⟩) (q.n + 16) (q.n + 16)], exec_call rfl call25 rfl (mpn rfl), copy_born (pa γt5 0 (q.n + 16) (q.n + 16) (sl0 K N q.f q.n mo.f mo.n)) (pa_ok _ _ _ (Nat.le_refl _)) (fun e => by cases e) (by show (q.n + 16) ≤ 1048576; omega) w' (h.rs 3 rfl (Nat.le_refl _))⟩⟩) ?_
    refine ak (fun _ => ⟨rfl, fun _ _ => rfl⟩) ?_
    refine ak (fun γ => ⟨rfl, fun w' hX => ⟨25, #[.slice mo.p mo.n mo.cp], exec_call rfl call25 rfl (mpn rfl), copy_born mo hmo hNmo.out (by omega) w' hX.2.2.2.2⟩⟩) ?_
    exact trivial
  intro γ w15 l hM hl
  have H15 : Hid (Mm w15 [(γ 1, ints .u8 (sl0 K N q.f q.n mo.f mo.n) (q.n + 16)), (γ 3, ints .u8 mo.f mo.n), (γt12, ints .u8 (so K N 7 (so K N 7 q.f)) q.n), (γt10, ints .u8 (so K N 7 q.f) q.n), (γt8, ints .u8 (so K N 1 (sl0 K N q.f q.n mo.f mo.n)) ((q.n + 16) - 16)), (γt5, ints .u8 (sl0 K N q.f q.n mo.f mo.n) (q.n + 16))] ∧ _) := growB H14 hM (Nat.le_refl _) hl [1, 3] rfl (by decide)
  have o11_1 := ownB H14 hM (Nat.le_refl _) hl (i := 1) rfl
  have o11_3 := ownB H14 hM (Nat.le_refl _) hl (i := 3) rfl
  clear hM hl l H14
  generalize γ 1 = γ11_1 at H15 o11_1 ⊢
  generalize γ 3 = γ11_3 at H15 o11_3 ⊢
  generalize γ 65537 = γ11_65537
  generalize γ 65539 = γ11_65539
  clear γ
  refine rest_at (l := [4, 5]) rfl ?_
  refine rest_set (d := 20) (v := .slice (some ⟨γ11_1, 0, none⟩) (q.n + 16) ((q.n + 16) + γ11_65537)) (w' := w15) rfl rfl rfl rfl ?_
  simp only [Act.put, sa, sz, ss]
  refine rest_set (d := 21) (v := .slice (some ⟨γ11_3, 0, none⟩) mo.n (mo.n + γ11_65539)) (w' := w15) rfl rfl rfl rfl ?_
  simp only [Act.put, sa, sz, ss]
  refine rest_nil (then_normal ?_)
  refine wp_seq (wp_seq ?_)
  rcases back_five K N q mo B hBl with ⟨h1, h2⟩ | ⟨h1, hT⟩ | ⟨h1, hT⟩ | ⟨h1, hT⟩ | ⟨h1, hT⟩
  · refine walk_seqB 5 [.quiet (.int .i64 ((B : Nat) : Int)), .quiet (.slice (some ⟨γt5, 0, none⟩) (q.n + 16) (q.n + 16)), .quiet (.int .i64 (((q.n + 16) : Nat) : Int)), .quiet (.int .i64 ((8 * (q.n + 16) : Nat) : Int)), .quiet (.bool true)] H15 ?ho12A ?he12A
    case ho12A => exact ak (fun _ => ⟨rfl, fun _ _ => rfl⟩) (ak (fun _ => ⟨rfl, fun _ _ => rfl⟩) (ak (by refine fun γ => ⟨rfl, fun w' h => ?_⟩; clear h; go_simp) (ak (by refine fun γ => ⟨rfl, fun w' h => ?_⟩; clear h; go_simp; rw [IntKind.wrap_i64]; omega) (ak (by refine fun γ => ⟨rfl, fun w' h => ?_⟩; clear h; go_simp <;> omega) trivial))))
    intro _ w16 H16
    clear H15
    refine rest0 rfl (then_normal (wp_cond_true rfl ?_))
    refine walk_anyB 13 [.quiet (.slice (some ⟨γ11_1, 0, none⟩) (q.n + 16) ((q.n + 16) + γ11_65537)), .quiet (.int .i64 ((B : Nat) : Int)), .quiet (.int .i64 ((B / 8 : Nat) : Int)), .quiet (.slice (some ⟨γ11_1, 0, none⟩) (q.n + 16) ((q.n + 16) + γ11_65537)), .quiet (.int .i64 ((B : Nat) : Int)), .quiet (.int .i64 ((B / 8 : Nat) : Int)), .quiet (PT γ11_1 (0 + (B / 8))), .quiet (Z8 ((sl0 K N q.f q.n mo.f mo.n) (0 + (B / 8)))), .quiet (.int .i64 ((B : Nat) : Int)), .quiet (.int .i64 ((B % 8 : Nat) : Int)), .quiet (Z8 (o1 (B % 8))), .quiet (Z8 (x8 ((sl0 K N q.f q.n mo.f mo.n) (0 + (B / 8))) (o1 (B % 8)))), .quiet (PT γ11_1 (0 + (B / 8)))] H16 ?ho13A ?he13A
    case ho13A => exact ak (fun _ => ⟨rfl, fun _ _ => rfl⟩) (ak (fun _ => ⟨rfl, fun _ _ => rfl⟩) (ak (fun γ => ⟨rfl, fun w' _ => ex_quo3 (a := B) (b := 8) (by omega) (by omega) rfl rfl rfl⟩) (ak (fun _ => ⟨rfl, fun _ _ => rfl⟩) (ak (fun _ => ⟨rfl, fun _ _ => rfl⟩) (ak (fun γ => ⟨rfl, fun w' _ => ex_quo3 (a := B) (b := 8) (by omega) (by omega) rfl rfl rfl⟩) (ak (fun γ => ⟨rfl, fun w' _ => ex_ixS22 (m := (q.n + 16)) (j := B / 8) rfl rfl rfl (by omega)⟩) (ak (fun γ => ⟨rfl, fun w' h => ex_loadC h 0 rfl rfl rfl Try.isAgg5 (ints_get _ _ (by omega))⟩) (ak (fun _ => ⟨rfl, fun _ _ => rfl⟩) (ak (fun γ => ⟨rfl, fun w' _ => ex_rem3 (a := B) (b := 8) (by omega) (by omega) rfl rfl rfl⟩) (ak (fun γ => ⟨rfl, fun w' _ => ex_shl81 (k := B % 8) (Nat.mod_lt _ (by decide)) rfl rfl rfl⟩) (ak (fun γ => ⟨rfl, fun w' _ => ex_xor8 rfl rfl rfl⟩) (ak (fun γ => ⟨rfl, fun w' _ => ex_ixS22 (m := (q.n + 16)) (j := B / 8) rfl rfl rfl (by omega)⟩) trivial))))))))))))
    intro _ w17 H17
    clear H16
    refine rest_at (l := [13]) rfl ?_
    refine rest_store rfl rfl rfl (ex_storeI H17.out.1 0 rfl rfl Try.sizeOf5 rfl rfl (by rw [ints_len]; omega)) ?_
    have H18 : Hid (Mm (w17.setCells γ11_1 (0 + (B / 8)) ([Z8 (x8 ((sl0 K N q.f q.n mo.f mo.n) (0 + (B / 8))) (o1 (B % 8)))])) [(γ11_1, ints .u8 (up (sl0 K N q.f q.n mo.f mo.n) (0 + (B / 8)) (x8 ((sl0 K N q.f q.n mo.f mo.n) (0 + (B / 8))) (o1 (B % 8)))) (q.n + 16)), (γ11_3, ints .u8 mo.f mo.n), (γt12, ints .u8 (so K N 7 (so K N 7 q.f)) q.n), (γt10, ints .u8 (so K N 7 q.f) q.n), (γt8, ints .u8 (so K N 1 (sl0 K N q.f q.n mo.f mo.n)) ((q.n + 16) - 16)), (γt5, ints .u8 (sl0 K N q.f q.n mo.f mo.n) (q.n + 16))] ∧ Below w.heap.size w (w17.setCells γ11_1 (0 + (B / 8)) ([Z8 (x8 ((sl0 K N q.f q.n mo.f mo.n) (0 + (B / 8))) (o1 (B % 8)))]))) := ⟨by
      have h := H17.out.1.put 0 (off := (0 + (B / 8))) (vs := [Z8 (x8 ((sl0 K N q.f q.n mo.f mo.n) (0 + (B / 8))) (o1 (B % 8)))]) rfl (by rw [ints_len]; simp only [List.length_cons, List.length_nil]; omega)
      rw [ints_patch _ _ _ _ (by omega)] at h
      exact h, below_setCells _ o11_1.out _ _ _ H17.out.2⟩
    clear H17
    generalize hgw : World.setCells _ _ _ _ = w18 at H18 ⊢
    clear hgw
    refine rest_nil (then_normal (wp_seq ?_))
    refine walk_seqB 4 [.quiet (.slice (some ⟨gk, ok, none⟩) 32 ck), .quiet (.slice (some ⟨gn, on, none⟩) 12 cn), .quiet (.slice (some ⟨γ11_1, 0, none⟩) (q.n + 16) ((q.n + 16) + γ11_65537)), .quiet (.slice (some ⟨γ11_3, 0, none⟩) mo.n (mo.n + γ11_65539))] H18 ?ho14A ?he14A
    case ho14A => exact ak (fun _ => ⟨rfl, fun _ _ => rfl⟩) (ak (fun _ => ⟨rfl, fun _ _ => rfl⟩) (ak (fun _ => ⟨rfl, fun _ _ => rfl⟩) (ak (fun _ => ⟨rfl, fun _ _ => rfl⟩) trivial)))
    intro _ w19 H19
    clear H18
    refine rest_at (l := [4, 5, 6, 7, 8, 9]) rfl ?_
    refine rest_enter (d := 162) rfl rfl rfl (exec_call (args := #[.slice (some ⟨gk, ok, none⟩) 32 ck, .slice (some ⟨gn, on, none⟩) 12 cn, .slice (some ⟨γ11_1, 0, none⟩) (q.n + 16) ((q.n + 16) + γ11_65537), .slice (some ⟨γ11_3, 0, none⟩) mo.n (mo.n + γ11_65539)]) rfl call20 rfl (mpn rfl)) ((Calls.mono (POpen_bad K N gk ok ck gn on cn hck hcn (up (sl0 K N q.f q.n mo.f mo.n) (0 + (B / 8)) (x8 ((sl0 K N q.f q.n mo.f mo.n) (0 + (B / 8))) (o1 (B % 8)))) γ11_1 0 (q.n + 16) ((q.n + 16) + γ11_65537) (pa γ11_3 0 mo.n (mo.n + γ11_65539) mo.f) (pa_ok _ _ _ (Nat.le_add_right _ _)) (up_256 (sl0_256 _ _ _ _ _ _) (Nat.mod_lt _ (by decide))) (hfmo) (by omega) (Nat.le_add_right _ _) (by omega) (by show mo.n ≤ 1048576; omega) (back_tag h1 h2) w19 (RK.out.below H19.out.2) (RN.out.below H19.out.2) (H19.out.1.rs 0 rfl (Nat.le_refl _)) (H19.out.1.rs 1 rfl (Nat.le_refl _))) (fun e w2 hh => ⟨_, hh.1, rfl, hh.2⟩) : Calls Try.prog 20 #[.slice (some ⟨gk, ok, none⟩) 32 ck, .slice (some ⟨gn, on, none⟩) 12 cn, .slice (some ⟨γ11_1, 0, none⟩) (q.n + 16) ((q.n + 16) + γ11_65537), .slice (some ⟨γ11_3, 0, none⟩) mo.n (mo.n + γ11_65539)] w19 (fun e w' => ∃ v, e = .returned v ∧ (v = .tuple #[.slice none 0 0, .int .i64 200] ∧ Below w19.heap.size w19 w')))) ?_
    rintro _ w20 ⟨rfl, hb⟩
    have H20 : Hid (Mm w20 [(γ11_1, ints .u8 (up (sl0 K N q.f q.n mo.f mo.n) (0 + (B / 8)) (x8 ((sl0 K N q.f q.n mo.f mo.n) (0 + (B / 8))) (o1 (B % 8)))) (q.n + 16)), (γ11_3, ints .u8 mo.f mo.n), (γt12, ints .u8 (so K N 7 (so K N 7 q.f)) q.n), (γt10, ints .u8 (so K N 7 q.f) q.n), (γt8, ints .u8 (so K N 1 (sl0 K N q.f q.n mo.f mo.n)) ((q.n + 16) - 16)), (γt5, ints .u8 (sl0 K N q.f q.n mo.f mo.n) (q.n + 16))] ∧ Below w.heap.size w w20) := ⟨H19.out.1.below hb, H19.out.2.trans (hb.mono H19.out.2.size)⟩
    clear hb H19
    simp only [Act.put, sa, sz, ss]
    refine rest_set (d := 157) (v := .tuple #[.slice none 0 0, .int .i64 200]) (w' := w20) rfl rfl rfl rfl ?_
    simp only [Act.put, sa, sz, ss]
    refine rest_set (d := 163) (v := .slice none 0 0) (w' := w20) rfl rfl rfl (by go_simp) ?_
    simp only [Act.put, sa, sz, ss]
    refine rest_set (d := 164) (v := .int .i64 200) (w' := w20) rfl rfl rfl (by go_simp) ?_
    simp only [Act.put, sa, sz, ss]
    refine rest_set (d := 22) (v := .slice none 0 0) (w' := w20) rfl rfl rfl rfl ?_
    simp only [Act.put, sa, sz, ss]
    refine rest_set (d := 23) (v := .int .i64 200) (w' := w20) rfl rfl rfl rfl ?_
    simp only [Act.put, sa, sz, ss]
    refine rest_nil (then_normal ?_)
    refine wp_seq (wp_seq ?_)
    refine walk_seqB 12 [.quiet (.int .i64 ((B : Nat) : Int)), .quiet (.int .i64 ((B / 8 : Nat) : Int)), .quiet (.slice q.p q.n q.cp), .quiet (.int .i64 ((q.n : Nat) : Int)), .quiet (.bool true), .quiet (.bool true), .quiet (.int .i64 ((B : Nat) : Int)), .quiet (.int .i64 ((B / 8 : Nat) : Int)), .quiet (.slice (some ⟨γt5, 0, none⟩) (q.n + 16) (q.n + 16)), .quiet (.int .i64 (((q.n + 16) : Nat) : Int)), .quiet (.bool true), .quiet (.bool true)] H20 ?ho15A ?he15A
    case ho15A => exact ak (fun _ => ⟨rfl, fun _ _ => rfl⟩) (ak (fun γ => ⟨rfl, fun w' _ => ex_quo3 (a := B) (b := 8) (by omega) (by omega) rfl rfl rfl⟩) (ak (fun _ => ⟨rfl, fun _ _ => rfl⟩) (ak (by refine fun γ => ⟨rfl, fun w' h => ?_⟩; clear h; go_simp) (ak (by refine fun γ => ⟨rfl, fun w' h => ?_⟩; clear h; go_simp <;> omega) (ak (fun _ => ⟨rfl, fun _ _ => rfl⟩) (ak (fun _ => ⟨rfl, fun _ _ => rfl⟩) (ak (fun γ => ⟨rfl, fun w' _ => ex_quo3 (a := B) (b := 8) (by omega) (by omega) rfl rfl rfl⟩) (ak (fun _ => ⟨rfl, fun _ _ => rfl⟩) (ak (by refine fun γ => ⟨rfl, fun w' h => ?_⟩; clear h; go_simp) (ak (by refine fun γ => ⟨rfl, fun w' h => ?_⟩; clear h; go_simp <;> omega) (ak (by refine fun γ => ⟨rfl, fun w' h => ?_⟩; clear h; go_simp) trivial)))))))))))
    intro _ w21 H21
    clear H20
    refine rest0 rfl (then_normal (wp_cond_true rfl (wp_seq ?_)))
    refine walk_seqB 6 [.quiet (.bool true), .quiet (.bool true), .quiet (.int .i64 200), .quiet (.bool true), .quiet (.bool true), .quiet (.bool true)] H21 ?ho16A ?he16A
    case ho16A => exact ak (fun _ => ⟨rfl, fun _ _ => rfl⟩) (ak (fun _ => ⟨rfl, fun _ _ => rfl⟩) (ak (fun _ => ⟨rfl, fun _ _ => rfl⟩) (ak (fun γ => ⟨rfl, fun w' _ => ex_eqE (a := 200) (b := 200) rfl rfl rfl rfl⟩) (ak (by refine fun γ => ⟨rfl, fun w' h => ?_⟩; clear h; go_simp) (ak (fun _ => ⟨rfl, fun _ _ => rfl⟩) trivial)))))
    intro _ w22 H22
    clear H21
    refine rest0 rfl (then_normal (wp_ret ?_))
    repeat (first | refine then_ret ?_ | refine block_ret ?_)
    refine bodyPost_ret (v := .bool true) (by simp [results, Try.results6, go_sem, *]) rfl ?_
    exact ⟨rfl, H22.out.2⟩
  · refine walk_seqB 5 [.quiet (.int .i64 ((B : Nat) : Int)), .quiet (.slice (some ⟨γt5, 0, none⟩) (q.n + 16) (q.n + 16)), .quiet (.int .i64 (((q.n + 16) : Nat) : Int)), .quiet (.int .i64 ((8 * (q.n + 16) : Nat) : Int)), .quiet (.bool true)] H15 ?ho12B1 ?he12B1
    case ho12B1 => exact ak (fun _ => ⟨rfl, fun _ _ => rfl⟩) (ak (fun _ => ⟨rfl, fun _ _ => rfl⟩) (ak (by refine fun γ => ⟨rfl, fun w' h => ?_⟩; clear h; go_simp) (ak (by refine fun γ => ⟨rfl, fun w' h => ?_⟩; clear h; go_simp; rw [IntKind.wrap_i64]; omega) (ak (by refine fun γ => ⟨rfl, fun w' h => ?_⟩; clear h; go_simp <;> omega) trivial))))
    intro _ w16 H16
    clear H15
    refine rest0 rfl (then_normal (wp_cond_true rfl ?_))
    refine walk_anyB 13 [.quiet (.slice (some ⟨γ11_1, 0, none⟩) (q.n + 16) ((q.n + 16) + γ11_65537)), .quiet (.int .i64 ((B : Nat) : Int)), .quiet (.int .i64 ((B / 8 : Nat) : Int)), .quiet (.slice (some ⟨γ11_1, 0, none⟩) (q.n + 16) ((q.n + 16) + γ11_65537)), .quiet (.int .i64 ((B : Nat) : Int)), .quiet (.int .i64 ((B / 8 : Nat) : Int)), .quiet (PT γ11_1 (0 + (B / 8))), .quiet (Z8 ((sl0 K N q.f q.n mo.f mo.n) (0 + (B / 8)))), .quiet (.int .i64 ((B : Nat) : Int)), .quiet (.int .i64 ((B % 8 : Nat) : Int)), .quiet (Z8 (o1 (B % 8))), .quiet (Z8 (x8 ((sl0 K N q.f q.n mo.f mo.n) (0 + (B / 8))) (o1 (B % 8)))), .quiet (PT γ11_1 (0 + (B / 8)))] H16 ?ho13B1 ?he13B1
    case ho13B1 => exact ak (fun _ => ⟨rfl, fun _ _ => rfl⟩) (ak (fun _ => ⟨rfl, fun _ _ => rfl⟩) (ak (fun γ => ⟨rfl, fun w' _ => ex_quo3 (a := B) (b := 8) (by omega) (by omega) rfl rfl rfl⟩) (ak (fun _ => ⟨rfl, fun _ _ => rfl⟩) (ak (fun _ => ⟨rfl, fun _ _ => rfl⟩) (ak (fun γ => ⟨rfl, fun w' _ => ex_quo3 (a := B) (b := 8) (by omega) (by omega) rfl rfl rfl⟩) (ak (fun γ => ⟨rfl, fun w' _ => ex_ixS22 (m := (q.n + 16)) (j := B / 8) rfl rfl rfl (by omega)⟩) (ak (fun γ => ⟨rfl, fun w' h => ex_loadC h 0 rfl rfl rfl Try.isAgg5 (ints_get _ _ (by omega))⟩) (ak (fun _ => ⟨rfl, fun _ _ => rfl⟩) (ak (fun γ => ⟨rfl, fun w' _ => ex_rem3 (a := B) (b := 8) (by omega) (by omega) rfl rfl rfl⟩) (ak (fun γ => ⟨rfl, fun w' _ => ex_shl81 (k := B % 8) (Nat.mod_lt _ (by decide)) rfl rfl rfl⟩) (ak (fun γ => ⟨rfl, fun w' _ => ex_xor8 rfl rfl rfl⟩) (ak (fun γ => ⟨rfl, fun w' _ => ex_ixS22 (m := (q.n + 16)) (j := B / 8) rfl rfl rfl (by omega)⟩) trivial))))))))))))
    intro _ w17 H17
    clear H16
    refine rest_at (l := [13]) rfl ?_
    refine rest_store rfl rfl rfl (ex_storeI H17.out.1 0 rfl rfl Try.sizeOf5 rfl rfl (by rw [ints_len]; omega)) ?_
    have H18 : Hid (Mm (w17.setCells γ11_1 (0 + (B / 8)) ([Z8 (x8 ((sl0 K N q.f q.n mo.f mo.n) (0 + (B / 8))) (o1 (B % 8)))])) [(γ11_1, ints .u8 (up (sl0 K N q.f q.n mo.f mo.n) (0 + (B / 8)) (x8 ((sl0 K N q.f q.n mo.f mo.n) (0 + (B / 8))) (o1 (B % 8)))) (q.n + 16)), (γ11_3, ints .u8 mo.f mo.n), (γt12, ints .u8 (so K N 7 (so K N 7 q.f)) q.n), (γt10, ints .u8 (so K N 7 q.f) q.n), (γt8, ints .u8 (so K N 1 (sl0 K N q.f q.n mo.f mo.n)) ((q.n + 16) - 16)), (γt5, ints .u8 (sl0 K N q.f q.n mo.f mo.n) (q.n + 16))] ∧ Below w.heap.size w (w17.setCells γ11_1 (0 + (B / 8)) ([Z8 (x8 ((sl0 K N q.f q.n mo.f mo.n) (0 + (B / 8))) (o1 (B % 8)))]))) := ⟨by
      have h := H17.out.1.put 0 (off := (0 + (B / 8))) (vs := [Z8 (x8 ((sl0 K N q.f q.n mo.f mo.n) (0 + (B / 8))) (o1 (B % 8)))]) rfl (by rw [ints_len]; simp only [List.length_cons, List.length_nil]; omega)
      rw [ints_patch _ _ _ _ (by omega)] at h
      exact h, below_setCells _ o11_1.out _ _ _ H17.out.2⟩
    clear H17
    generalize hgw : World.setCells _ _ _ _ = w18 at H18 ⊢
    clear hgw
    refine rest_nil (then_normal (wp_seq ?_))
    refine walk_seqB 4 [.quiet (.slice (some ⟨gk, ok, none⟩) 32 ck), .quiet (.slice (some ⟨gn, on, none⟩) 12 cn), .quiet (.slice (some ⟨γ11_1, 0, none⟩) (q.n + 16) ((q.n + 16) + γ11_65537)), .quiet (.slice (some ⟨γ11_3, 0, none⟩) mo.n (mo.n + γ11_65539))] H18 ?ho14B1 ?he14B1
    case ho14B1 => exact ak (fun _ => ⟨rfl, fun _ _ => rfl⟩) (ak (fun _ => ⟨rfl, fun _ _ => rfl⟩) (ak (fun _ => ⟨rfl, fun _ _ => rfl⟩) (ak (fun _ => ⟨rfl, fun _ _ => rfl⟩) trivial)))
    intro _ w19 H19
    clear H18
    refine rest_at (l := [4, 5, 6, 7, 8, 9]) rfl ?_
    refine rest_enter (d := 162) rfl rfl rfl (exec_call (args := #[.slice (some ⟨gk, ok, none⟩) 32 ck, .slice (some ⟨gn, on, none⟩) 12 cn, .slice (some ⟨γ11_1, 0, none⟩) (q.n + 16) ((q.n + 16) + γ11_65537), .slice (some ⟨γ11_3, 0, none⟩) mo.n (mo.n + γ11_65539)]) rfl call20 rfl (mpn rfl)) ((Calls.mono (POpen_ok K N gk ok ck gn on cn hck hcn (up (sl0 K N q.f q.n mo.f mo.n) (0 + (B / 8)) (x8 ((sl0 K N q.f q.n mo.f mo.n) (0 + (B / 8))) (o1 (B % 8)))) γ11_1 0 (q.n + 16) ((q.n + 16) + γ11_65537) (pa γ11_3 0 mo.n (mo.n + γ11_65539) mo.f) (pa_ok _ _ _ (Nat.le_add_right _ _)) (up_256 (sl0_256 _ _ _ _ _ _) (Nat.mod_lt _ (by decide))) (hfmo) (by omega) (Nat.le_add_right _ _) (by omega) (by show mo.n ≤ 1048576; omega) (hT) w19 (RK.out.below H19.out.2) (RN.out.below H19.out.2) (H19.out.1.rs 0 rfl (Nat.le_refl _)) (H19.out.1.rs 1 rfl (Nat.le_refl _))) (fun e w2 hh => by obtain ⟨hb, g, he, h1, h2, h3⟩ := hh; exact ⟨_, he, hb, g, rfl, h1, h2, h3⟩) : Calls Try.prog 20 #[.slice (some ⟨gk, ok, none⟩) 32 ck, .slice (some ⟨gn, on, none⟩) 12 cn, .slice (some ⟨γ11_1, 0, none⟩) (q.n + 16) ((q.n + 16) + γ11_65537), .slice (some ⟨γ11_3, 0, none⟩) mo.n (mo.n + γ11_65539)] w19 (fun e w' => ∃ v, e = .returned v ∧ (Below w19.heap.size w19 w' ∧ ∃ g, v = .tuple #[.slice (some ⟨g, 0, none⟩) ((q.n + 16) - 16) ((q.n + 16) - 16), .int .i64 0] ∧ w19.heap.size ≤ g ∧ g < w'.heap.size ∧ Blk w' g (ints .u8 (so K N 1 (up (sl0 K N q.f q.n mo.f mo.n) (0 + (B / 8)) (x8 ((sl0 K N q.f q.n mo.f mo.n) (0 + (B / 8))) (o1 (B % 8))))) ((q.n + 16) - 16)))))) ?_
    rintro _ w20 ⟨hb, γt20, rfl, hg1, hg2, hg3⟩
    have o_γt20 : Hid (w.heap.size ≤ γt20) := Nat.le_trans H19.out.2.size hg1
    have H20 : Hid (Mm w20 [(γt20, ints .u8 (so K N 1 (up (sl0 K N q.f q.n mo.f mo.n) (0 + (B / 8)) (x8 ((sl0 K N q.f q.n mo.f mo.n) (0 + (B / 8))) (o1 (B % 8))))) ((q.n + 16) - 16)), (γ11_1, ints .u8 (up (sl0 K N q.f q.n mo.f mo.n) (0 + (B / 8)) (x8 ((sl0 K N q.f q.n mo.f mo.n) (0 + (B / 8))) (o1 (B % 8)))) (q.n + 16)), (γ11_3, ints .u8 mo.f mo.n), (γt12, ints .u8 (so K N 7 (so K N 7 q.f)) q.n), (γt10, ints .u8 (so K N 7 q.f) q.n), (γt8, ints .u8 (so K N 1 (sl0 K N q.f q.n mo.f mo.n)) ((q.n + 16) - 16)), (γt5, ints .u8 (sl0 K N q.f q.n mo.f mo.n) (q.n + 16))] ∧ Below w.heap.size w w20) := ⟨Mm.over H19.out.1 hg1 (H19.out.1.below hb) hg3 hg2, H19.out.2.trans (hb.mono H19.out.2.size)⟩
    clear hb hg1 hg2 hg3 H19
    simp only [Act.put, sa, sz, ss]
    refine rest_set (d := 157) (v := .tuple #[.slice (some ⟨γt20, 0, none⟩) ((q.n + 16) - 16) ((q.n + 16) - 16), .int .i64 0]) (w' := w20) rfl rfl rfl rfl ?_
    simp only [Act.put, sa, sz, ss]
    refine rest_set (d := 163) (v := .slice (some ⟨γt20, 0, none⟩) ((q.n + 16) - 16) ((q.n + 16) - 16)) (w' := w20) rfl rfl rfl (by go_simp) ?_
    simp only [Act.put, sa, sz, ss]
    refine rest_set (d := 164) (v := .int .i64 0) (w' := w20) rfl rfl rfl (by go_simp) ?_
    simp only [Act.put, sa, sz, ss]
    refine rest_set (d := 22) (v := .slice (some ⟨γt20, 0, none⟩) ((q.n + 16) - 16) ((q.n + 16) - 16)) (w' := w20) rfl rfl rfl rfl ?_
    simp only [Act.put, sa, sz, ss]
    refine rest_set (d := 23) (v := .int .i64 0) (w' := w20) rfl rfl rfl rfl ?_
    simp only [Act.put, sa, sz, ss]
    refine rest_nil (then_normal ?_)
    refine wp_seq (wp_seq ?_)
    refine walk_seqB 12 [.quiet (.int .i64 ((B : Nat) : Int)), .quiet (.int .i64 ((B / 8 : Nat) : Int)), .quiet (.slice q.p q.n q.cp), .quiet (.int .i64 ((q.n : Nat) : Int)), .quiet (.bool false), .quiet (.bool false), .gone, .gone, .gone, .gone, .gone, .quiet (.bool false)] H20 ?ho15B1 ?he15B1
    case ho15B1 => exact ak (fun _ => ⟨rfl, fun _ _ => rfl⟩) (ak (fun γ => ⟨rfl, fun w' _ => ex_quo3 (a := B) (b := 8) (by omega) (by omega) rfl rfl rfl⟩) (ak (fun _ => ⟨rfl, fun _ _ => rfl⟩) (ak (by refine fun γ => ⟨rfl, fun w' h => ?_⟩; clear h; go_simp) (ak (by refine fun γ => ⟨rfl, fun w' h => ?_⟩; clear h; go_simp <;> omega) (ak (fun _ => ⟨rfl, fun _ _ => rfl⟩) (ak (fun γ => rfl) (ak (fun γ => rfl) (ak (fun γ => rfl) (ak (fun γ => rfl) (ak (fun γ => rfl) (ak (by refine fun γ => ⟨rfl, fun w' h => ?_⟩; clear h; go_simp) trivial)))))))))))
    intro _ w21 H21
    clear H20
    refine rest0 rfl (then_normal (wp_cond_false rfl ?_))
    refine wp_skip (then_normal (wp_seq ?_))
    refine walk_seqB 7 [.quiet (.slice (some ⟨gk, ok, none⟩) 32 ck), .quiet (.slice (some ⟨gn, on, none⟩) 12 cn), .quiet (.slice (some ⟨γ11_1, 0, none⟩) (q.n + 16) ((q.n + 16) + γ11_65537)), .quiet (.slice q.p q.n q.cp), .quiet (.int .i64 ((q.n : Nat) : Int)), .quiet (.slice (some ⟨γ11_1, 0, none⟩) q.n ((q.n + 16) + γ11_65537)), .quiet (.slice (some ⟨γ11_3, 0, none⟩) mo.n (mo.n + γ11_65539))] H21 ?ho16B1 ?he16B1
    case ho16B1 => exact ak (fun _ => ⟨rfl, fun _ _ => rfl⟩) (ak (fun _ => ⟨rfl, fun _ _ => rfl⟩) (ak (fun _ => ⟨rfl, fun _ _ => rfl⟩) (ak (fun _ => ⟨rfl, fun _ _ => rfl⟩) (ak (by refine fun γ => ⟨rfl, fun w' h => ?_⟩; clear h; go_simp) (ak (fun γ => ⟨rfl, fun w' _ => ex_slH22 (l := q.n) rfl rfl rfl (by omega)⟩) (ak (fun _ => ⟨rfl, fun _ _ => rfl⟩) trivial))))))
    intro _ w22 H22
    clear H21
    refine rest_at (l := [7, 8, 9, 10, 11, 12]) rfl ?_
    refine rest_enter (d := 190) rfl rfl rfl (exec_call (args := #[.slice (some ⟨gk, ok, none⟩) 32 ck, .slice (some ⟨gn, on, none⟩) 12 cn, .slice (some ⟨γ11_1, 0, none⟩) q.n ((q.n + 16) + γ11_65537), .slice (some ⟨γ11_3, 0, none⟩) mo.n (mo.n + γ11_65539)]) rfl call26 rfl (mpn rfl)) ((Calls.mono (ltag_any K N gk ok ck gn on cn hck hcn (pa γ11_1 0 q.n ((q.n + 16) + γ11_65537) (up (sl0 K N q.f q.n mo.f mo.n) (0 + (B / 8)) (x8 ((sl0 K N q.f q.n mo.f mo.n) (0 + (B / 8))) (o1 (B % 8))))) (pa γ11_3 0 mo.n (mo.n + γ11_65539) mo.f) (pa_ok _ _ _ (by omega)) (pa_ok _ _ _ (Nat.le_add_right _ _)) (fun e => by cases e) (fun e => by cases e) (up_256 (sl0_256 _ _ _ _ _ _) (Nat.mod_lt _ (by decide))) (hfmo) (by show q.n ≤ 100000; omega) (by show mo.n ≤ 100000; omega) w22 (RK.out.below H22.out.2) (RN.out.below H22.out.2) (Rs.head (H22.out.1.rs 1 rfl (Nat.le_refl _)) (by show q.n ≤ (q.n + 16); omega)) (H22.out.1.rs 2 rfl (Nat.le_refl _))) (fun e w2 hh => by obtain ⟨hb, g, he, h1, h2, h3⟩ := hh; exact ⟨_, he, hb, g, rfl, h1, h2, h3⟩) : Calls Try.prog 26 #[.slice (some ⟨gk, ok, none⟩) 32 ck, .slice (some ⟨gn, on, none⟩) 12 cn, .slice (some ⟨γ11_1, 0, none⟩) q.n ((q.n + 16) + γ11_65537), .slice (some ⟨γ11_3, 0, none⟩) mo.n (mo.n + γ11_65539)] w22 (fun e w' => ∃ v, e = .returned v ∧ (Below w22.heap.size w22 w' ∧ ∃ g, v = .tuple #[.slice (some ⟨g, 0, none⟩) 16 16, .bool true] ∧ w22.heap.size ≤ g ∧ g < w'.heap.size ∧ Blk w' g (ints .u8 (mt K N mo.f mo.n (up (sl0 K N q.f q.n mo.f mo.n) (0 + (B / 8)) (x8 ((sl0 K N q.f q.n mo.f mo.n) (0 + (B / 8))) (o1 (B % 8)))) q.n) 16))))) ?_
    rintro _ w23 ⟨hb, γt23, rfl, hg1, hg2, hg3⟩
    have o_γt23 : Hid (w.heap.size ≤ γt23) := Nat.le_trans H22.out.2.size hg1
    have H23 : Hid (Mm w23 [(γt23, ints .u8 (mt K N mo.f mo.n (up (sl0 K N q.f q.n mo.f mo.n) (0 + (B / 8)) (x8 ((sl0 K N q.f q.n mo.f mo.n) (0 + (B / 8))) (o1 (B % 8)))) q.n) 16), (γt20, ints .u8 (so K N 1 (up (sl0 K N q.f q.n mo.f mo.n) (0 + (B / 8)) (x8 ((sl0 K N q.f q.n mo.f mo.n) (0 + (B / 8))) (o1 (B % 8))))) ((q.n + 16) - 16)), (γ11_1, ints .u8 (up (sl0 K N q.f q.n mo.f mo.n) (0 + (B / 8)) (x8 ((sl0 K N q.f q.n mo.f mo.n) (0 + (B / 8))) (o1 (B % 8)))) (q.n + 16)), (γ11_3, ints .u8 mo.f mo.n), (γt12, ints .u8 (so K N 7 (so K N 7 q.f)) q.n), (γt10, ints .u8 (so K N 7 q.f) q.n), (γt8, ints .u8 (so K N 1 (sl0 K N q.f q.n mo.f mo.n)) ((q.n + 16) - 16)), (γt5, ints .u8 (sl0 K N q.f q.n mo.f mo.n) (q.n + 16))] ∧ Below w.heap.size w w23) := ⟨Mm.over H22.out.1 hg1 (H22.out.1.below hb) hg3 hg2, H22.out.2.trans (hb.mono H22.out.2.size)⟩
    clear hb hg1 hg2 hg3 H22
    simp only [Act.put, sa, sz, ss]
    refine rest_set (d := 182) (v := .tuple #[.slice (some ⟨γt23, 0, none⟩) 16 16, .bool true]) (w' := w23) rfl rfl rfl rfl ?_
    simp only [Act.put, sa, sz, ss]
    refine rest_set (d := 191) (v := .slice (some ⟨γt23, 0, none⟩) 16 16) (w' := w23) rfl rfl rfl (by go_simp) ?_
    simp only [Act.put, sa, sz, ss]
    refine rest_set (d := 192) (v := .bool true) (w' := w23) rfl rfl rfl (by go_simp) ?_
    simp only [Act.put, sa, sz, ss]
    refine rest_set (d := 24) (v := .slice (some ⟨γt23, 0, none⟩) 16 16) (w' := w23) rfl rfl rfl rfl ?_
    simp only [Act.put, sa, sz, ss]
    refine rest_set (d := 25) (v := .bool true) (w' := w23) rfl rfl rfl rfl ?_
    simp only [Act.put, sa, sz, ss]
    refine rest_nil (then_normal (wp_seq ?_))
    refine walk_seqB 24 [.quiet (.bool true), .quiet (.bool true), .quiet (.bool true), .quiet (.bool true), .quiet (.bool true), .quiet (.int .i64 0), .quiet (.bool true), .quiet (.slice (some ⟨γt23, 0, none⟩) 16 16), .quiet (.slice (some ⟨γt5, 0, none⟩) (q.n + 16) (q.n + 16)), .quiet (.slice q.p q.n q.cp), .quiet (.int .i64 ((q.n : Nat) : Int)), .quiet (.slice (some ⟨γt5, (0 + q.n), none⟩) ((q.n + 16) - q.n) ((q.n + 16) - q.n)), .call (.bool true), .quiet (.bool true), .quiet (.bool true), .quiet (.bool true), .quiet (.int .i64 0), .quiet (.bool true), .quiet (.bool true), .gone, .gone, .quiet (.bool true), .quiet (.bool true), .quiet (.bool true)] H23 ?ho17B1 ?he17B1 (hL := ?hL17B1)
    case hL17B1 => exact trivial
    case ho17B1 => exact ak (fun _ => ⟨rfl, fun _ _ => rfl⟩) (ak (fun _ => ⟨rfl, fun _ _ => rfl⟩) (ak (fun _ => ⟨rfl, fun _ _ => rfl⟩) (ak (by refine fun γ => ⟨rfl, fun w' h => ?_⟩; clear h; go_simp) (ak (fun _ => ⟨rfl, fun _ _ => rfl⟩) (ak (fun _ => ⟨rfl, fun _ _ => rfl⟩) (ak (fun γ => ⟨rfl, fun w' _ => ex_eqE (a := 0) (b := 0) rfl rfl rfl rfl⟩) (ak (fun _ => ⟨rfl, fun _ _ => rfl⟩) (ak (fun _ => ⟨rfl, fun _ _ => rfl⟩) (ak (fun _ => ⟨rfl, fun _ _ => rfl⟩) (ak (by refine fun γ => ⟨rfl, fun w' h => ?_⟩; clear h; go_simp) (ak (fun γ => ⟨rfl, fun w' _ => ex_slT (l := q.n) rfl rfl rfl (by omega) (by omega)⟩) (ak (fun γ => ⟨rfl, fun w' h => ⟨15, #[.slice (some ⟨γt23, 0, none⟩) 16 16, .slice (some ⟨γt5, (0 + q.n), none⟩) ((q.n + 16) - q.n) ((q.n + 16) - q.n)], exec_call rfl call15 rfl (mpn rfl), same_pt (pa γt23 0 16 16 (mt K N mo.f mo.n (up (sl0 K N q.f q.n mo.f mo.n) (0 + (B / 8)) (x8 ((sl0 K N q.f q.n mo.f mo.n) (0 + (B / 8))) (o1 (B % 8)))) q.n)) (pa γt5 (0 + q.n) ((q.n + 16) - q.n) ((q.n + 16) - q.n) (fun j => (sl0 K N q.f q.n mo.f mo.n) (q.n + j))) (pa_ok _ _ _ (Nat.le_refl _)) (pa_ok _ _ _ (Nat.le_refl _)) (mt_256 _ _ _ _ _ _) (fun j => sl0_256 _ _ _ _ _ _ _) true (⟨fun _ => ⟨by show 16 = (q.n + 16) - q.n; omega, back_b1 h1 hT⟩, fun _ => rfl⟩) w' (h.rs 0 rfl (Nat.le_refl _)) ((h.rs 7 rfl (Nat.le_refl _)).part q.n)⟩⟩) (ak (by refine fun γ => ⟨rfl, fun w' h => ?_⟩; clear h; go_simp) (ak (by refine fun γ => ⟨rfl, fun w' h => ?_⟩; clear h; go_simp) (ak (fun _ => ⟨rfl, fun _ _ => rfl⟩) (ak (fun _ => ⟨rfl, fun _ _ => rfl⟩) (ak (fun γ => ⟨rfl, fun w' _ => ex_eqE (a := 0) (b := 0) rfl rfl rfl rfl⟩) (ak (fun _ => ⟨rfl, fun _ _ => rfl⟩) (ak (fun γ => rfl) (ak (fun γ => rfl) (ak (by refine fun γ => ⟨rfl, fun w' h => ?_⟩; clear h; go_simp) (ak (by refine fun γ => ⟨rfl, fun w' h => ?_⟩; clear h; go_simp) (ak (fun _ => ⟨rfl, fun _ _ => rfl⟩) trivial)))))))))))))))))))))))
    intro _ w24 H24
    clear H23
    refine rest0 rfl (then_normal (wp_ret ?_))
    repeat (first | refine then_ret ?_ | refine block_ret ?_)
    refine bodyPost_ret (v := .bool true) (by simp [results, Try.results6, go_sem, *]) rfl ?_
    exact ⟨rfl, H24.out.2⟩
  · refine walk_seqB 5 [.quiet (.int .i64 ((B : Nat) : Int)), .quiet (.slice (some ⟨γt5, 0, none⟩) (q.n + 16) (q.n + 16)), .quiet (.int .i64 (((q.n + 16) : Nat) : Int)), .quiet (.int .i64 ((8 * (q.n + 16) : Nat) : Int)), .quiet (.bool true)] H15 ?ho12B2 ?he12B2
    case ho12B2 => exact ak (fun _ => ⟨rfl, fun _ _ => rfl⟩) (ak (fun _ => ⟨rfl, fun _ _ => rfl⟩) (ak (by refine fun γ => ⟨rfl, fun w' h => ?_⟩; clear h; go_simp) (ak (by refine fun γ => ⟨rfl, fun w' h => ?_⟩; clear h; go_simp; rw [IntKind.wrap_i64]; omega) (ak (by refine fun γ => ⟨rfl, fun w' h => ?_⟩; clear h; go_simp <;> omega) trivial))))
    intro _ w16 H16
    clear H15
    refine rest0 rfl (then_normal (wp_cond_true rfl ?_))
    refine walk_anyB 13 [.quiet (.slice (some ⟨γ11_1, 0, none⟩) (q.n + 16) ((q.n + 16) + γ11_65537)), .quiet (.int .i64 ((B : Nat) : Int)), .quiet (.int .i64 ((B / 8 : Nat) : Int)), .quiet (.slice (some ⟨γ11_1, 0, none⟩) (q.n + 16) ((q.n + 16) + γ11_65537)), .quiet (.int .i64 ((B : Nat) : Int)), .quiet (.int .i64 ((B / 8 : Nat) : Int)), .quiet (PT γ11_1 (0 + (B / 8))), .quiet (Z8 ((sl0 K N q.f q.n mo.f mo.n) (0 + (B / 8)))), .quiet (.int .i64 ((B : Nat) : Int)), .quiet (.int .i64 ((B % 8 : Nat) : Int)), .quiet (Z8 (o1 (B % 8))), .quiet (Z8 (x8 ((sl0 K N q.f q.n mo.f mo.n) (0 + (B / 8))) (o1 (B % 8)))), .quiet (PT γ11_1 (0 + (B / 8)))] H16 ?ho13B2 ?he13B2
    case ho13B2 => exact ak (fun _ => ⟨rfl, fun _ _ => rfl⟩) (ak (fun _ => ⟨rfl, fun _ _ => rfl⟩) (ak (fun γ => ⟨rfl, fun w' _ => ex_quo3 (a := B) (b := 8) (by omega) (by omega) rfl rfl rfl⟩) (ak (fun _ => ⟨rfl, fun _ _ => rfl⟩) (ak (fun _ => ⟨rfl, fun _ _ => rfl⟩) (ak (fun γ => ⟨rfl, fun w' _ => ex_quo3 (a := B) (b := 8) (by omega) (by omega) rfl rfl rfl⟩) (ak (fun γ => ⟨rfl, fun w' _ => ex_ixS22 (m := (q.n + 16)) (j := B / 8) rfl rfl rfl (by omega)⟩) (ak (fun γ => ⟨rfl, fun w' h => ex_loadC h 0 rfl rfl rfl Try.isAgg5 (ints_get _ _ (by omega))⟩) (ak (fun _ => ⟨rfl, fun _ _ => rfl⟩) (ak (fun γ => ⟨rfl, fun w' _ => ex_rem3 (a := B) (b := 8) (by omega) (by omega) rfl rfl rfl⟩) (ak (fun γ => ⟨rfl, fun w' _ => ex_shl81 (k := B % 8) (Nat.mod_lt _ (by decide)) rfl rfl rfl⟩) (ak (fun γ => ⟨rfl, fun w' _ => ex_xor8 rfl rfl rfl⟩) (ak (fun γ => ⟨rfl, fun w' _ => ex_ixS22 (m := (q.n + 16)) (j := B / 8) rfl rfl rfl (by omega)⟩) trivial))))))))))))
    intro _ w17 H17
    clear H16
    refine rest_at (l := [13]) rfl ?_
    refine rest_store rfl rfl rfl (ex_storeI H17.out.1 0 rfl rfl Try.sizeOf5 rfl rfl (by rw [ints_len]; omega)) ?_
    have H18 : Hid (Mm (w17.setCells γ11_1 (0 + (B / 8)) ([Z8 (x8 ((sl0 K N q.f q.n mo.f mo.n) (0 + (B / 8))) (o1 (B % 8)))])) [(γ11_1, ints .u8 (up (sl0 K N q.f q.n mo.f mo.n) (0 + (B / 8)) (x8 ((sl0 K N q.f q.n mo.f mo.n) (0 + (B / 8))) (o1 (B % 8)))) (q.n + 16)), (γ11_3, ints .u8 mo.f mo.n), (γt12, ints .u8 (so K N 7 (so K N 7 q.f)) q.n), (γt10, ints .u8 (so K N 7 q.f) q.n), (γt8, ints .u8 (so K N 1 (sl0 K N q.f q.n mo.f mo.n)) ((q.n + 16) - 16)), (γt5, ints .u8 (sl0 K N q.f q.n mo.f mo.n) (q.n + 16))] ∧ Below w.heap.size w (w17.setCells γ11_1 (0 + (B / 8)) ([Z8 (x8 ((sl0 K N q.f q.n mo.f mo.n) (0 + (B / 8))) (o1 (B % 8)))]))) := ⟨by
      have h := H17.out.1.put 0 (off := (0 + (B / 8))) (vs := [Z8 (x8 ((sl0 K N q.f q.n mo.f mo.n) (0 + (B / 8))) (o1 (B % 8)))]) rfl (by rw [ints_len]; simp only [List.length_cons, List.length_nil]; omega)
      rw [ints_patch _ _ _ _ (by omega)] at h
      exact h, below_setCells _ o11_1.out _ _ _ H17.out.2⟩
    clear H17
    generalize hgw : World.setCells _ _ _ _ = w18 at H18 ⊢
    clear hgw
    refine rest_nil (then_normal (wp_seq ?_))
    refine walk_seqB 4 [.quiet (.slice (some ⟨gk, ok, none⟩) 32 ck), .quiet (.slice (some ⟨gn, on, none⟩) 12 cn), .quiet (.slice (some ⟨γ11_1, 0, none⟩) (q.n + 16) ((q.n + 16) + γ11_65537)), .quiet (.slice (some ⟨γ11_3, 0, none⟩) mo.n (mo.n + γ11_65539))] H18 ?ho14B2 ?he14B2
    case ho14B2 => exact ak (fun _ => ⟨rfl, fun _ _ => rfl⟩) (ak (fun _ => ⟨rfl, fun _ _ => rfl⟩) (ak (fun _ => ⟨rfl, fun _ _ => rfl⟩) (ak (fun _ => ⟨rfl, fun _ _ => rfl⟩) trivial)))
    intro _ w19 H19
    clear H18
    refine rest_at (l := [4, 5, 6, 7, 8, 9]) rfl ?_
    refine rest_enter (d := 162) rfl rfl rfl (exec_call (args := #[.slice (some ⟨gk, ok, none⟩) 32 ck, .slice (some ⟨gn, on, none⟩) 12 cn, .slice (some ⟨γ11_1, 0, none⟩) (q.n + 16) ((q.n + 16) + γ11_65537), .slice (some ⟨γ11_3, 0, none⟩) mo.n (mo.n + γ11_65539)]) rfl call20 rfl (mpn rfl)) ((Calls.mono (POpen_bad K N gk ok ck gn on cn hck hcn (up (sl0 K N q.f q.n mo.f mo.n) (0 + (B / 8)) (x8 ((sl0 K N q.f q.n mo.f mo.n) (0 + (B / 8))) (o1 (B % 8)))) γ11_1 0 (q.n + 16) ((q.n + 16) + γ11_65537) (pa γ11_3 0 mo.n (mo.n + γ11_65539) mo.f) (pa_ok _ _ _ (Nat.le_add_right _ _)) (up_256 (sl0_256 _ _ _ _ _ _) (Nat.mod_lt _ (by decide))) (hfmo) (by omega) (Nat.le_add_right _ _) (by omega) (by show mo.n ≤ 1048576; omega) (hT) w19 (RK.out.below H19.out.2) (RN.out.below H19.out.2) (H19.out.1.rs 0 rfl (Nat.le_refl _)) (H19.out.1.rs 1 rfl (Nat.le_refl _))) (fun e w2 hh => ⟨_, hh.1, rfl, hh.2⟩) : Calls Try.prog 20 #[.slice (some ⟨gk, ok, none⟩) 32 ck, .slice (some ⟨gn, on, none⟩) 12 cn, .slice (some ⟨γ11_1, 0, none⟩) (q.n + 16) ((q.n + 16) + γ11_65537), .slice (some ⟨γ11_3, 0, none⟩) mo.n (mo.n + γ11_65539)] w19 (fun e w' => ∃ v, e = .returned v ∧ (v = .tuple #[.slice none 0 0, .int .i64 200] ∧ Below w19.heap.size w19 w')))) ?_
    rintro _ w20 ⟨rfl, hb⟩
    have H20 : Hid (Mm w20 [(γ11_1, ints .u8 (up (sl0 K N q.f q.n mo.f mo.n) (0 + (B / 8)) (x8 ((sl0 K N q.f q.n mo.f mo.n) (0 + (B / 8))) (o1 (B % 8)))) (q.n + 16)), (γ11_3, ints .u8 mo.f mo.n), (γt12, ints .u8 (so K N 7 (so K N 7 q.f)) q.n), (γt10, ints .u8 (so K N 7 q.f) q.n), (γt8, ints .u8 (so K N 1 (sl0 K N q.f q.n mo.f mo.n)) ((q.n + 16) - 16)), (γt5, ints .u8 (sl0 K N q.f q.n mo.f mo.n) (q.n + 16))] ∧ Below w.heap.size w w20) := ⟨H19.out.1.below hb, H19.out.2.trans (hb.mono H19.out.2.size)⟩
    clear hb H19
    simp only [Act.put, sa, sz, ss]
    refine rest_set (d := 157) (v := .tuple #[.slice none 0 0, .int .i64 200]) (w' := w20) rfl rfl rfl rfl ?_
    simp only [Act.put, sa, sz, ss]
    refine rest_set (d := 163) (v := .slice none 0 0) (w' := w20) rfl rfl rfl (by go_simp) ?_
    simp only [Act.put, sa, sz, ss]
    refine rest_set (d := 164) (v := .int .i64 200) (w' := w20) rfl rfl rfl (by go_simp) ?_
    simp only [Act.put, sa, sz, ss]
    refine rest_set (d := 22) (v := .slice none 0 0) (w' := w20) rfl rfl rfl rfl ?_
    simp only [Act.put, sa, sz, ss]
    refine rest_set (d := 23) (v := .int .i64 200) (w' := w20) rfl rfl rfl rfl ?_
    simp only [Act.put, sa, sz, ss]
    refine rest_nil (then_normal ?_)
    refine wp_seq (wp_seq ?_)
    refine walk_seqB 12 [.quiet (.int .i64 ((B : Nat) : Int)), .quiet (.int .i64 ((B / 8 : Nat) : Int)), .quiet (.slice q.p q.n q.cp), .quiet (.int .i64 ((q.n : Nat) : Int)), .quiet (.bool false), .quiet (.bool false), .gone, .gone, .gone, .gone, .gone, .quiet (.bool false)] H20 ?ho15B2 ?he15B2
    case ho15B2 => exact ak (fun _ => ⟨rfl, fun _ _ => rfl⟩) (ak (fun γ => ⟨rfl, fun w' _ => ex_quo3 (a := B) (b := 8) (by omega) (by omega) rfl rfl rfl⟩) (ak (fun _ => ⟨rfl, fun _ _ => rfl⟩) (ak (by refine fun γ => ⟨rfl, fun w' h => ?_⟩; clear h; go_simp) (ak (by refine fun γ => ⟨rfl, fun w' h => ?_⟩; clear h; go_simp <;> omega) (ak (fun _ => ⟨rfl, fun _ _ => rfl⟩) (ak (fun γ => rfl) (ak (fun γ => rfl) (ak (fun γ => rfl) (ak (fun γ => rfl) (ak (fun γ => rfl) (ak (by refine fun γ => ⟨rfl, fun w' h => ?_⟩; clear h; go_simp) trivial)))))))))))
    intro _ w21 H21
    clear H20
    refine rest0 rfl (then_normal (wp_cond_false rfl ?_))
    refine wp_skip (then_normal (wp_seq ?_))
    refine walk_seqB 7 [.quiet (.slice (some ⟨gk, ok, none⟩) 32 ck), .quiet (.slice (some ⟨gn, on, none⟩) 12 cn), .quiet (.slice (some ⟨γ11_1, 0, none⟩) (q.n + 16) ((q.n + 16) + γ11_65537)), .quiet (.slice q.p q.n q.cp), .quiet (.int .i64 ((q.n : Nat) : Int)), .quiet (.slice (some ⟨γ11_1, 0, none⟩) q.n ((q.n + 16) + γ11_65537)), .quiet (.slice (some ⟨γ11_3, 0, none⟩) mo.n (mo.n + γ11_65539))] H21 ?ho16B2 ?he16B2
    case ho16B2 => exact ak (fun _ => ⟨rfl, fun _ _ => rfl⟩) (ak (fun _ => ⟨rfl, fun _ _ => rfl⟩) (ak (fun _ => ⟨rfl, fun _ _ => rfl⟩) (ak (fun _ => ⟨rfl, fun _ _ => rfl⟩) (ak (by refine fun γ => ⟨rfl, fun w' h => ?_⟩; clear h; go_simp) (ak (fun γ => ⟨rfl, fun w' _ => ex_slH22 (l := q.n) rfl rfl rfl (by omega)⟩) (ak (fun _ => ⟨rfl, fun _ _ => rfl⟩) trivial))))))
    intro _ w22 H22
    clear H21
    refine rest_at (l := [7, 8, 9, 10, 11, 12]) rfl ?_
    refine rest_enter (d := 190) rfl rfl rfl (exec_call (args := #[.slice (some ⟨gk, ok, none⟩) 32 ck, .slice (some ⟨gn, on, none⟩) 12 cn, .slice (some ⟨γ11_1, 0, none⟩) q.n ((q.n + 16) + γ11_65537), .slice (some ⟨γ11_3, 0, none⟩) mo.n (mo.n + γ11_65539)]) rfl call26 rfl (mpn rfl)) ((Calls.mono (ltag_any K N gk ok ck gn on cn hck hcn (pa γ11_1 0 q.n ((q.n + 16) + γ11_65537) (up (sl0 K N q.f q.n mo.f mo.n) (0 + (B / 8)) (x8 ((sl0 K N q.f q.n mo.f mo.n) (0 + (B / 8))) (o1 (B % 8))))) (pa γ11_3 0 mo.n (mo.n + γ11_65539) mo.f) (pa_ok _ _ _ (by omega)) (pa_ok _ _ _ (Nat.le_add_right _ _)) (fun e => by cases e) (fun e => by cases e) (up_256 (sl0_256 _ _ _ _ _ _) (Nat.mod_lt _ (by decide))) (hfmo) (by show q.n ≤ 100000; omega) (by show mo.n ≤ 100000; omega) w22 (RK.out.below H22.out.2) (RN.out.below H22.out.2) (Rs.head (H22.out.1.rs 0 rfl (Nat.le_refl _)) (by show q.n ≤ (q.n + 16); omega)) (H22.out.1.rs 1 rfl (Nat.le_refl _))) (fun e w2 hh => by obtain ⟨hb, g, he, h1, h2, h3⟩ := hh; exact ⟨_, he, hb, g, rfl, h1, h2, h3⟩) : Calls Try.prog 26 #[.slice (some ⟨gk, ok, none⟩) 32 ck, .slice (some ⟨gn, on, none⟩) 12 cn, .slice (some ⟨γ11_1, 0, none⟩) q.n ((q.n + 16) + γ11_65537), .slice (some ⟨γ11_3, 0, none⟩) mo.n (mo.n + γ11_65539)] w22 (fun e w' => ∃ v, e = .returned v ∧ (Below w22.heap.size w22 w' ∧ ∃ g, v = .tuple #[.slice (some ⟨g, 0, none⟩) 16 16, .bool true] ∧ w22.heap.size ≤ g ∧ g < w'.heap.size ∧ Blk w' g (ints .u8 (mt K N mo.f mo.n (up (sl0 K N q.f q.n mo.f mo.n) (0 + (B / 8)) (x8 ((sl0 K N q.f q.n mo.f mo.n) (0 + (B / 8))) (o1 (B % 8)))) q.n) 16))))) ?_
    rintro _ w23 ⟨hb, γt23, rfl, hg1, hg2, hg3⟩
    have o_γt23 : Hid (w.heap.size ≤ γt23) := Nat.le_trans H22.out.2.size hg1
    have H23 : Hid (Mm w23 [(γt23, ints .u8 (mt K N mo.f mo.n (up (sl0 K N q.f q.n mo.f mo.n) (0 + (B / 8)) (x8 ((sl0 K N q.f q.n mo.f mo.n) (0 + (B / 8))) (o1 (B % 8)))) q.n) 16), (γ11_1, ints .u8 (up (sl0 K N q.f q.n mo.f mo.n) (0 + (B / 8)) (x8 ((sl0 K N q.f q.n mo.f mo.n) (0 + (B / 8))) (o1 (B % 8)))) (q.n + 16)), (γ11_3, ints .u8 mo.f mo.n), (γt12, ints .u8 (so K N 7 (so K N 7 q.f)) q.n), (γt10, ints .u8 (so K N 7 q.f) q.n), (γt8, ints .u8 (so K N 1 (sl0 K N q.f q.n mo.f mo.n)) ((q.n + 16) - 16)), (γt5, ints .u8 (sl0 K N q.f q.n mo.f mo.n) (q.n + 16))] ∧ Below w.heap.size w w23) := ⟨Mm.over H22.out.1 hg1 (H22.out.1.below hb) hg3 hg2, H22.out.2.trans (hb.mono H22.out.2.size)⟩
    clear hb hg1 hg2 hg3 H22
    simp only [Act.put, sa, sz, ss]
    refine rest_set (d := 182) (v := .tuple #[.slice (some ⟨γt23, 0, none⟩) 16 16, .bool true]) (w' := w23) rfl rfl rfl rfl ?_
    simp only [Act.put, sa, sz, ss]
    refine rest_set (d := 191) (v := .slice (some ⟨γt23, 0, none⟩) 16 16) (w' := w23) rfl rfl rfl (by go_simp) ?_
    simp only [Act.put, sa, sz, ss]
    refine rest_set (d := 192) (v := .bool true) (w' := w23) rfl rfl rfl (by go_simp) ?_
    simp only [Act.put, sa, sz, ss]
    refine rest_set (d := 24) (v := .slice (some ⟨γt23, 0, none⟩) 16 16) (w' := w23) rfl rfl rfl rfl ?_
    simp only [Act.put, sa, sz, ss]
    refine rest_set (d := 25) (v := .bool true) (w' := w23) rfl rfl rfl rfl ?_
    simp only [Act.put, sa, sz, ss]
    refine rest_nil (then_normal (wp_seq ?_))
    refine walk_seqB 24 [.quiet (.bool true), .quiet (.bool true), .quiet (.bool true), .quiet (.bool true), .quiet (.bool true), .quiet (.int .i64 200), .quiet (.bool false), .quiet (.slice (some ⟨γt23, 0, none⟩) 16 16), .quiet (.slice (some ⟨γt5, 0, none⟩) (q.n + 16) (q.n + 16)), .quiet (.slice q.p q.n q.cp), .quiet (.int .i64 ((q.n : Nat) : Int)), .quiet (.slice (some ⟨γt5, (0 + q.n), none⟩) ((q.n + 16) - q.n) ((q.n + 16) - q.n)), .call (.bool false), .quiet (.bool true), .quiet (.bool true), .quiet (.bool true), .quiet (.int .i64 200), .quiet (.bool false), .quiet (.bool false), .quiet (.int .i64 200), .quiet (.bool true), .quiet (.bool true), .quiet (.bool true), .quiet (.bool true)] H23 ?ho17B2 ?he17B2 (hL := ?hL17B2)
    case hL17B2 => exact trivial
    case ho17B2 => exact ak (fun _ => ⟨rfl, fun _ _ => rfl⟩) (ak (fun _ => ⟨rfl, fun _ _ => rfl⟩) (ak (fun _ => ⟨rfl, fun _ _ => rfl⟩) (ak (by refine fun γ => ⟨rfl, fun w' h => ?_⟩; clear h; go_simp) (ak (fun _ => ⟨rfl, fun _ _ => rfl⟩) (ak (fun _ => ⟨rfl, fun _ _ => rfl⟩) (ak (fun γ => ⟨rfl, fun w' _ => ex_eqE (a := 200) (b := 0) rfl rfl rfl rfl⟩) (ak (fun _ => ⟨rfl, fun _ _ => rfl⟩) (ak (fun _ => ⟨rfl, fun _ _ => rfl⟩) (ak (fun _ => ⟨rfl, fun _ _ => rfl⟩) (ak (by refine fun γ => ⟨rfl, fun w' h => ?_⟩; clear h; go_simp) (ak (fun γ => ⟨rfl, fun w' _ => ex_slT (l := q.n) rfl rfl rfl (by omega) (by omega)⟩) (ak (fun γ => ⟨rfl, fun w' h => ⟨15, #[.slice (some ⟨γt23, 0, none⟩) 16 16, .slice (some ⟨γt5, (0 + q.n), none⟩) ((q.n + 16) - q.n) ((q.n + 16) - q.n)], exec_call rfl call15 rfl (mpn rfl), same_pt (pa γt23 0 16 16 (mt K N mo.f mo.n (up (sl0 K N q.f q.n mo.f mo.n) (0 + (B / 8)) (x8 ((sl0 K N q.f q.n mo.f mo.n) (0 + (B / 8))) (o1 (B % 8)))) q.n)) (pa γt5 (0 + q.n) ((q.n + 16) - q.n) ((q.n + 16) - q.n) (fun j => (sl0 K N q.f q.n mo.f mo.n) (q.n + j))) (pa_ok _ _ _ (Nat.le_refl _)) (pa_ok _ _ _ (Nat.le_refl _)) (mt_256 _ _ _ _ _ _) (fun j => sl0_256 _ _ _ _ _ _ _) false (⟨fun h => Bool.noConfusion h, fun h => absurd (back_b2 h1 h.2) hT⟩) w' (h.rs 0 rfl (Nat.le_refl _)) ((h.rs 6 rfl (Nat.le_refl _)).part q.n)⟩⟩) (ak (by refine fun γ => ⟨rfl, fun w' h => ?_⟩; clear h; go_simp) (ak (by refine fun γ => ⟨rfl, fun w' h => ?_⟩; clear h; go_simp) (ak (fun _ => ⟨rfl, fun _ _ => rfl⟩) (ak (fun _ => ⟨rfl, fun _ _ => rfl⟩) (ak (fun γ => ⟨rfl, fun w' _ => ex_eqE (a := 200) (b := 0) rfl rfl rfl rfl⟩) (ak (fun _ => ⟨rfl, fun _ _ => rfl⟩) (ak (fun _ => ⟨rfl, fun _ _ => rfl⟩) (ak (fun γ => ⟨rfl, fun w' _ => ex_eqE (a := 200) (b := 200) rfl rfl rfl rfl⟩) (ak (by refine fun γ => ⟨rfl, fun w' h => ?_⟩; clear h; go_simp) (ak (by refine fun γ => ⟨rfl, fun w' h => ?_⟩; clear h; go_simp) (ak (fun _ => ⟨rfl, fun _ _ => rfl⟩) trivial)))))))))))))))))))))))
    intro _ w24 H24
    clear H23
    refine rest0 rfl (then_normal (wp_ret ?_))
    repeat (first | refine then_ret ?_ | refine block_ret ?_)
    refine bodyPost_ret (v := .bool true) (by simp [results, Try.results6, go_sem, *]) rfl ?_
    exact ⟨rfl, H24.out.2⟩
  · refine walk_seqB 5 [.quiet (.int .i64 ((B : Nat) : Int)), .quiet (.slice (some ⟨γt5, 0, none⟩) (q.n + 16) (q.n + 16)), .quiet (.int .i64 (((q.n + 16) : Nat) : Int)), .quiet (.int .i64 ((8 * (q.n + 16) : Nat) : Int)), .quiet (.bool false)] H15 ?ho12C1 ?he12C1
    case ho12C1 => exact ak (fun _ => ⟨rfl, fun _ _ => rfl⟩) (ak (fun _ => ⟨rfl, fun _ _ => rfl⟩) (ak (by refine fun γ => ⟨rfl, fun w' h => ?_⟩; clear h; go_simp) (ak (by refine fun γ => ⟨rfl, fun w' h => ?_⟩; clear h; go_simp; rw [IntKind.wrap_i64]; omega) (ak (by refine fun γ => ⟨rfl, fun w' h => ?_⟩; clear h; go_simp <;> omega) trivial))))
    intro _ w16 H16
    clear H15
    refine rest0 rfl (then_normal (wp_cond_false rfl ?_))
    refine walk_anyB 19 [.quiet (.slice (some ⟨γ11_3, 0, none⟩) mo.n (mo.n + γ11_65539)), .quiet (.int .i64 ((B : Nat) : Int)), .quiet (.int .i64 ((B / 8 : Nat) : Int)), .quiet (.slice (some ⟨γt5, 0, none⟩) (q.n + 16) (q.n + 16)), .quiet (.int .i64 (((q.n + 16) : Nat) : Int)), .quiet (.int .i64 (((B / 8) - (q.n + 16) : Nat) : Int)), .quiet (.slice (some ⟨γ11_3, 0, none⟩) mo.n (mo.n + γ11_65539)), .quiet (.int .i64 ((B : Nat) : Int)), .quiet (.int .i64 ((B / 8 : Nat) : Int)), .quiet (.slice (some ⟨γt5, 0, none⟩) (q.n + 16) (q.n + 16)), .quiet (.int .i64 (((q.n + 16) : Nat) : Int)), .quiet (.int .i64 (((B / 8) - (q.n + 16) : Nat) : Int)), .quiet (PT γ11_3 (0 + ((B / 8) - (q.n + 16)))), .quiet (Z8 (mo.f (0 + ((B / 8) - (q.n + 16))))), .quiet (.int .i64 ((B : Nat) : Int)), .quiet (.int .i64 ((B % 8 : Nat) : Int)), .quiet (Z8 (o1 (B % 8))), .quiet (Z8 (x8 (mo.f (0 + ((B / 8) - (q.n + 16)))) (o1 (B % 8)))), .quiet (PT γ11_3 (0 + ((B / 8) - (q.n + 16))))] H16 ?ho13C1 ?he13C1
    case ho13C1 => exact ak (fun _ => ⟨rfl, fun _ _ => rfl⟩) (ak (fun _ => ⟨rfl, fun _ _ => rfl⟩) (ak (fun γ => ⟨rfl, fun w' _ => ex_quo3 (a := B) (b := 8) (by omega) (by omega) rfl rfl rfl⟩) (ak (fun _ => ⟨rfl, fun _ _ => rfl⟩) (ak (by refine fun γ => ⟨rfl, fun w' h => ?_⟩; clear h; go_simp) (ak (by refine fun γ => ⟨rfl, fun w' h => ?_⟩; clear h; go_simp; rw [IntKind.wrap_i64]; omega) (ak (fun _ => ⟨rfl, fun _ _ => rfl⟩) (ak (fun _ => ⟨rfl, fun _ _ => rfl⟩) (ak (fun γ => ⟨rfl, fun w' _ => ex_quo3 (a := B) (b := 8) (by omega) (by omega) rfl rfl rfl⟩) (ak (fun _ => ⟨rfl, fun _ _ => rfl⟩) (ak (by refine fun γ => ⟨rfl, fun w' h => ?_⟩; clear h; go_simp) (ak (by refine fun γ => ⟨rfl, fun w' h => ?_⟩; clear h; go_simp; rw [IntKind.wrap_i64]; omega) (ak (fun γ => ⟨rfl, fun w' _ => ex_ixS22 (m := mo.n) (j := (B / 8) - (q.n + 16)) rfl rfl rfl (by omega)⟩) (ak (fun γ => ⟨rfl, fun w' h => ex_loadC h 1 rfl rfl rfl Try.isAgg5 (ints_get _ _ (by omega))⟩) (ak (fun _ => ⟨rfl, fun _ _ => rfl⟩) (ak (fun γ => ⟨rfl, fun w' _ => ex_rem3 (a := B) (b := 8) (by omega) (by omega) rfl rfl rfl⟩) (ak (fun γ => ⟨rfl, fun w' _ => ex_shl81 (k := B % 8) (Nat.mod_lt _ (by decide)) rfl rfl rfl⟩) (ak (fun γ => ⟨rfl, fun w' _ => ex_xor8 rfl rfl rfl⟩) (ak (fun γ => ⟨rfl, fun w' _ => ex_ixS22 (m := mo.n) (j := (B / 8) - (q.n + 16)) rfl rfl rfl (by omega)⟩) trivial))))))))))))))))))
    intro _ w17 H17
    clear H16
    refine rest_at (l := [19]) rfl ?_
    refine rest_store rfl rfl rfl (ex_storeI H17.out.1 1 rfl rfl Try.sizeOf5 rfl rfl (by rw [ints_len]; omega)) ?_
    have H18 : Hid (Mm (w17.setCells γ11_3 (0 + ((B / 8) - (q.n + 16))) ([Z8 (x8 (mo.f (0 + ((B / 8) - (q.n + 16)))) (o1 (B % 8)))])) [(γ11_1, ints .u8 (sl0 K N q.f q.n mo.f mo.n) (q.n + 16)), (γ11_3, ints .u8 (up mo.f (0 + ((B / 8) - (q.n + 16))) (x8 (mo.f (0 + ((B / 8) - (q.n + 16)))) (o1 (B % 8)))) mo.n), (γt12, ints .u8 (so K N 7 (so K N 7 q.f)) q.n), (γt10, ints .u8 (so K N 7 q.f) q.n), (γt8, ints .u8 (so K N 1 (sl0 K N q.f q.n mo.f mo.n)) ((q.n + 16) - 16)), (γt5, ints .u8 (sl0 K N q.f q.n mo.f mo.n) (q.n + 16))] ∧ Below w.heap.size w (w17.setCells γ11_3 (0 + ((B / 8) - (q.n + 16))) ([Z8 (x8 (mo.f (0 + ((B / 8) - (q.n + 16)))) (o1 (B % 8)))]))) := ⟨by
      have h := H17.out.1.put 1 (off := (0 + ((B / 8) - (q.n + 16)))) (vs := [Z8 (x8 (mo.f (0 + ((B / 8) - (q.n + 16)))) (o1 (B % 8)))]) rfl (by rw [ints_len]; simp only [List.length_cons, List.length_nil]; omega)
      rw [ints_patch _ _ _ _ (by omega)] at h
      exact h, below_setCells _ o11_3.out _ _ _ H17.out.2⟩
    clear H17
    generalize hgw : World.setCells _ _ _ _ = w18 at H18 ⊢
    clear hgw
    refine rest_nil (then_normal (wp_seq ?_))
    refine walk_seqB 4 [.quiet (.slice (some ⟨gk, ok, none⟩) 32 ck), .quiet (.slice (some ⟨gn, on, none⟩) 12 cn), .quiet (.slice (some ⟨γ11_1, 0, none⟩) (q.n + 16) ((q.n + 16) + γ11_65537)), .quiet (.slice (some ⟨γ11_3, 0, none⟩) mo.n (mo.n + γ11_65539))] H18 ?ho14C1 ?he14C1
    case ho14C1 => exact ak (fun _ => ⟨rfl, fun _ _ => rfl⟩) (ak (fun _ => ⟨rfl, fun _ _ => rfl⟩) (ak (fun _ => ⟨rfl, fun _ _ => rfl⟩) (ak (fun _ => ⟨rfl, fun _ _ => rfl⟩) trivial)))
    intro _ w19 H19
    clear H18
    refine rest_at (l := [4, 5, 6, 7, 8, 9]) rfl ?_
    refine rest_enter (d := 162) rfl rfl rfl (exec_call (args := #[.slice (some ⟨gk, ok, none⟩) 32 ck, .slice (some ⟨gn, on, none⟩) 12 cn, .slice (some ⟨γ11_1, 0, none⟩) (q.n + 16) ((q.n + 16) + γ11_65537), .slice (some ⟨γ11_3, 0, none⟩) mo.n (mo.n + γ11_65539)]) rfl call20 rfl (mpn rfl)) ((Calls.mono (POpen_ok K N gk ok ck gn on cn hck hcn (sl0 K N q.f q.n mo.f mo.n) γ11_1 0 (q.n + 16) ((q.n + 16) + γ11_65537) (pa γ11_3 0 mo.n (mo.n + γ11_65539) (up mo.f (0 + ((B / 8) - (q.n + 16))) (x8 (mo.f (0 + ((B / 8) - (q.n + 16)))) (o1 (B % 8))))) (pa_ok _ _ _ (Nat.le_add_right _ _)) (sl0_256 _ _ _ _ _ _) (up_256 hfmo (Nat.mod_lt _ (by decide))) (by omega) (Nat.le_add_right _ _) (by omega) (by show mo.n ≤ 1048576; omega) (hT) w19 (RK.out.below H19.out.2) (RN.out.below H19.out.2) (H19.out.1.rs 0 rfl (Nat.le_refl _)) (H19.out.1.rs 1 rfl (Nat.le_refl _))) (fun e w2 hh => by obtain ⟨hb, g, he, h1, h2, h3⟩ := hh; exact ⟨_, he, hb, g, rfl, h1, h2, h3⟩) : Calls Try.prog 20 #[.slice (some ⟨gk, ok, none⟩) 32 ck, .slice (some ⟨gn, on, none⟩) 12 cn, .slice (some ⟨γ11_1, 0, none⟩) (q.n + 16) ((q.n + 16) + γ11_65537), .slice (some ⟨γ11_3, 0, none⟩) mo.n (mo.n + γ11_65539)] w19 (fun e w' => ∃ v, e = .returned v ∧ (Below w19.heap.size w19 w' ∧ ∃ g, v = .tuple #[.slice (some ⟨g, 0, none⟩) ((q.n + 16) - 16) ((q.n + 16) - 16), .int .i64 0] ∧ w19.heap.size ≤ g ∧ g < w'.heap.size ∧ Blk w' g (ints .u8 (so K N 1 (sl0 K N q.f q.n mo.f mo.n)) ((q.n + 16) - 16)))))) ?_
    rintro _ w20 ⟨hb, γt20, rfl, hg1, hg2, hg3⟩
    have o_γt20 : Hid (w.heap.size ≤ γt20) := Nat.le_trans H19.out.2.size hg1
    have H20 : Hid (Mm w20 [(γt20, ints .u8 (so K N 1 (sl0 K N q.f q.n mo.f mo.n)) ((q.n + 16) - 16)), (γ11_1, ints .u8 (sl0 K N q.f q.n mo.f mo.n) (q.n + 16)), (γ11_3, ints .u8 (up mo.f (0 + ((B / 8) - (q.n + 16))) (x8 (mo.f (0 + ((B / 8) - (q.n + 16)))) (o1 (B % 8)))) mo.n), (γt12, ints .u8 (so K N 7 (so K N 7 q.f)) q.n), (γt10, ints .u8 (so K N 7 q.f) q.n), (γt8, ints .u8 (so K N 1 (sl0 K N q.f q.n mo.f mo.n)) ((q.n + 16) - 16)), (γt5, ints .u8 (sl0 K N q.f q.n mo.f mo.n) (q.n + 16))] ∧ Below w.heap.size w w20) := ⟨Mm.over H19.out.1 hg1 (H19.out.1.below hb) hg3 hg2, H19.out.2.trans (hb.mono H19.out.2.size)⟩
    clear hb hg1 hg2 hg3 H19
    simp only [Act.put, sa, sz, ss]
    refine rest_set (d := 157) (v := .tuple #[.slice (some ⟨γt20, 0, none⟩) ((q.n + 16) - 16) ((q.n + 16) - 16), .int .i64 0]) (w' := w20) rfl rfl rfl rfl ?_
    simp only [Act.put, sa, sz, ss]
    refine rest_set (d := 163) (v := .slice (some ⟨γt20, 0, none⟩) ((q.n + 16) - 16) ((q.n + 16) - 16)) (w' := w20) rfl rfl rfl (by go_simp) ?_
    simp only [Act.put, sa, sz, ss]
    refine rest_set (d := 164) (v := .int .i64 0) (w' := w20) rfl rfl rfl (by go_simp) ?_
    simp only [Act.put, sa, sz, ss]
    refine rest_set (d := 22) (v := .slice (some ⟨γt20, 0, none⟩) ((q.n + 16) - 16) ((q.n + 16) - 16)) (w' := w20) rfl rfl rfl rfl ?_
    simp only [Act.put, sa, sz, ss]
    refine rest_set (d := 23) (v := .int .i64 0) (w' := w20) rfl rfl rfl rfl ?_
    simp only [Act.put, sa, sz, ss]
    refine rest_nil (then_normal ?_)
    refine wp_seq (wp_seq ?_)
    refine walk_seqB 12 [.quiet (.int .i64 ((B : Nat) : Int)), .quiet (.int .i64 ((B / 8 : Nat) : Int)), .quiet (.slice q.p q.n q.cp), .quiet (.int .i64 ((q.n : Nat) : Int)), .quiet (.bool true), .quiet (.bool true), .quiet (.int .i64 ((B : Nat) : Int)), .quiet (.int .i64 ((B / 8 : Nat) : Int)), .quiet (.slice (some ⟨γt5, 0, none⟩) (q.n + 16) (q.n + 16)), .quiet (.int .i64 (((q.n + 16) : Nat) : Int)), .quiet (.bool false), .quiet (.bool false)] H20 ?ho15C1 ?he15C1
    case ho15C1 => exact ak (fun _ => ⟨rfl, fun _ _ => rfl⟩) (ak (fun γ => ⟨rfl, fun w' _ => ex_quo3 (a := B) (b := 8) (by omega) (by omega) rfl rfl rfl⟩) (ak (fun _ => ⟨rfl, fun _ _ => rfl⟩) (ak (by refine fun γ => ⟨rfl, fun w' h => ?_⟩; clear h; go_simp) (ak (by refine fun γ => ⟨rfl, fun w' h => ?_⟩; clear h; go_simp <;> omega) (ak (fun _ => ⟨rfl, fun _ _ => rfl⟩) (ak (fun _ => ⟨rfl, fun _ _ => rfl⟩) (ak (fun γ => ⟨rfl, fun w' _ => ex_quo3 (a := B) (b := 8) (by omega) (by omega) rfl rfl rfl⟩) (ak (fun _ => ⟨rfl, fun _ _ => rfl⟩) (ak (by refine fun γ => ⟨rfl, fun w' h => ?_⟩; clear h; go_simp) (ak (by refine fun γ => ⟨rfl, fun w' h => ?_⟩; clear h; go_simp <;> omega) (ak (by refine fun γ => ⟨rfl, fun w' h => ?_⟩; clear h; go_simp) trivial)))))))))))
    intro _ w21 H21
    clear H20
    refine rest0 rfl (then_normal (wp_cond_false rfl ?_))
    refine wp_skip (then_normal (wp_seq ?_))
    refine walk_seqB 7 [.quiet (.slice (some ⟨gk, ok, none⟩) 32 ck), .quiet (.slice (some ⟨gn, on, none⟩) 12 cn), .quiet (.slice (some ⟨γ11_1, 0, none⟩) (q.n + 16) ((q.n + 16) + γ11_65537)), .quiet (.slice q.p q.n q.cp), .quiet (.int .i64 ((q.n : Nat) : Int)), .quiet (.slice (some ⟨γ11_1, 0, none⟩) q.n ((q.n + 16) + γ11_65537)), .quiet (.slice (some ⟨γ11_3, 0, none⟩) mo.n (mo.n + γ11_65539))] H21 ?ho16C1 ?he16C1
    case ho16C1 => exact ak (fun _ => ⟨rfl, fun _ _ => rfl⟩) (ak (fun _ => ⟨rfl, fun _ _ => rfl⟩) (ak (fun _ => ⟨rfl, fun _ _ => rfl⟩) (ak (fun _ => ⟨rfl, fun _ _ => rfl⟩) (ak (by refine fun γ => ⟨rfl, fun w' h => ?_⟩; clear h; go_simp) (ak (fun γ => ⟨rfl, fun w' _ => ex_slH22 (l := q.n) rfl rfl rfl (by omega)⟩) (ak (fun _ => ⟨rfl, fun _ _ => rfl⟩) trivial))))))
    intro _ w22 H22
    clear H21
    refine rest_at (l := [7, 8, 9, 10, 11, 12]) rfl ?_
    refine rest_enter (d := 190) rfl rfl rfl (exec_call (args := #[.slice (some ⟨gk, ok, none⟩) 32 ck, .slice (some ⟨gn, on, none⟩) 12 cn, .slice (some ⟨γ11_1, 0, none⟩) q.n ((q.n + 16) + γ11_65537), .slice (some ⟨γ11_3, 0, none⟩) mo.n (mo.n + γ11_65539)]) rfl call26 rfl (mpn rfl)) ((Calls.mono (ltag_any K N gk ok ck gn on cn hck hcn (pa γ11_1 0 q.n ((q.n + 16) + γ11_65537) (sl0 K N q.f q.n mo.f mo.n)) (pa γ11_3 0 mo.n (mo.n + γ11_65539) (up mo.f (0 + ((B / 8) - (q.n + 16))) (x8 (mo.f (0 + ((B / 8) - (q.n + 16)))) (o1 (B % 8))))) (pa_ok _ _ _ (by omega)) (pa_ok _ _ _ (Nat.le_add_right _ _)) (fun e => by cases e) (fun e => by cases e) (sl0_256 _ _ _ _ _ _) (up_256 hfmo (Nat.mod_lt _ (by decide))) (by show q.n ≤ 100000; omega) (by show mo.n ≤ 100000; omega) w22 (RK.out.below H22.out.2) (RN.out.below H22.out.2) (Rs.head (H22.out.1.rs 1 rfl (Nat.le_refl _)) (by show q.n ≤ (q.n + 16); omega)) (H22.out.1.rs 2 rfl (Nat.le_refl _))) (fun e w2 hh => by obtain ⟨hb, g, he, h1, h2, h3⟩ := hh; exact ⟨_, he, hb, g, rfl, h1, h2, h3⟩) : Calls Try.prog 26 #[.slice (some ⟨gk, ok, none⟩) 32 ck, .slice (some ⟨gn, on, none⟩) 12 cn, .slice (some ⟨γ11_1, 0, none⟩) q.n ((q.n + 16) + γ11_65537), .slice (some ⟨γ11_3, 0, none⟩) mo.n (mo.n + γ11_65539)] w22 (fun e w' => ∃ v, e = .returned v ∧ (Below w22.heap.size w22 w' ∧ ∃ g, v = .tuple #[.slice (some ⟨g, 0, none⟩) 16 16, .bool true] ∧ w22.heap.size ≤ g ∧ g < w'.heap.size ∧ Blk w' g (ints .u8 (mt K N (up mo.f (0 + ((B / 8) - (q.n + 16))) (x8 (mo.f (0 + ((B / 8) - (q.n + 16)))) (o1 (B % 8)))) mo.n (sl0 K N q.f q.n mo.f mo.n) q.n) 16))))) ?_
    rintro _ w23 ⟨hb, γt23, rfl, hg1, hg2, hg3⟩
    have o_γt23 : Hid (w.heap.size ≤ γt23) := Nat.le_trans H22.out.2.size hg1
    have H23 : Hid (Mm w23 [(γt23, ints .u8 (mt K N (up mo.f (0 + ((B / 8) - (q.n + 16))) (x8 (mo.f (0 + ((B / 8) - (q.n + 16)))) (o1 (B % 8)))) mo.n (sl0 K N q.f q.n mo.f mo.n) q.n) 16), (γt20, ints .u8 (so K N 1 (sl0 K N q.f q.n mo.f mo.n)) ((q.n + 16) - 16)), (γ11_1, ints .u8 (sl0 K N q.f q.n mo.f mo.n) (q.n + 16)), (γ11_3, ints .u8 (up mo.f (0 + ((B / 8) - (q.n + 16))) (x8 (mo.f (0 + ((B / 8) - (q.n + 16)))) (o1 (B % 8)))) mo.n), (γt12, ints .u8 (so K N 7 (so K N 7 q.f)) q.n), (γt10, ints .u8 (so K N 7 q.f) q.n), (γt8, ints .u8 (so K N 1 (sl0 K N q.f q.n mo.f mo.n)) ((q.n + 16) - 16)), (γt5, ints .u8 (sl0 K N q.f q.n mo.f mo.n) (q.n + 16))] ∧ Below w.heap.size w w23) := ⟨Mm.over H22.out.1 hg1 (H22.out.1.below hb) hg3 hg2, H22.out.2.trans (hb.mono H22.out.2.size)⟩
    clear hb hg1 hg2 hg3 H22
    simp only [Act.put, sa, sz, ss]
    refine rest_set (d := 182) (v := .tuple #[.slice (some ⟨γt23, 0, none⟩) 16 16, .bool true]) (w' := w23) rfl rfl rfl rfl ?_
    simp only [Act.put, sa, sz, ss]
    refine rest_set (d := 191) (v := .slice (some ⟨γt23, 0, none⟩) 16 16) (w' := w23) rfl rfl rfl (by go_simp) ?_
    simp only [Act.put, sa, sz, ss]
    refine rest_set (d := 192) (v := .bool true) (w' := w23) rfl rfl rfl (by go_simp) ?_
    simp only [Act.put, sa, sz, ss]
    refine rest_set (d := 24) (v := .slice (some ⟨γt23, 0, none⟩) 16 16) (w' := w23) rfl rfl rfl rfl ?_
    simp only [Act.put, sa, sz, ss]
    refine rest_set (d := 25) (v := .bool true) (w' := w23) rfl rfl rfl rfl ?_
    simp only [Act.put, sa, sz, ss]
    refine rest_nil (then_normal (wp_seq ?_))
    refine walk_seqB 24 [.quiet (.bool true), .quiet (.bool true), .quiet (.bool true), .quiet (.bool true), .quiet (.bool true), .quiet (.int .i64 0), .quiet (.bool true), .quiet (.slice (some ⟨γt23, 0, none⟩) 16 16), .quiet (.slice (some ⟨γt5, 0, none⟩) (q.n + 16) (q.n + 16)), .quiet (.slice q.p q.n q.cp), .quiet (.int .i64 ((q.n : Nat) : Int)), .quiet (.slice (some ⟨γt5, (0 + q.n), none⟩) ((q.n + 16) - q.n) ((q.n + 16) - q.n)), .call (.bool true), .quiet (.bool true), .quiet (.bool true), .quiet (.bool true), .quiet (.int .i64 0), .quiet (.bool true), .quiet (.bool true), .gone, .gone, .quiet (.bool true), .quiet (.bool true), .quiet (.bool true)] H23 ?ho17C1 ?he17C1 (hL := ?hL17C1)
    case hL17C1 => exact trivial
    case ho17C1 => exact ak (fun _ => ⟨rfl, fun _ _ => rfl⟩) (ak (fun _ => ⟨rfl, fun _ _ => rfl⟩) (ak (fun _ => ⟨rfl, fun _ _ => rfl⟩) (ak (by refine fun γ => ⟨rfl, fun w' h => ?_⟩; clear h; go_simp) (ak (fun _ => ⟨rfl, fun _ _ => rfl⟩) (ak (fun _ => ⟨rfl, fun _ _ => rfl⟩) (ak (fun γ => ⟨rfl, fun w' _ => ex_eqE (a := 0) (b := 0) rfl rfl rfl rfl⟩) (ak (fun _ => ⟨rfl, fun _ _ => rfl⟩) (ak (fun _ => ⟨rfl, fun _ _ => rfl⟩) (ak (fun _ => ⟨rfl, fun _ _ => rfl⟩) (ak (by refine fun γ => ⟨rfl, fun w' h => ?_⟩; clear h; go_simp) (ak (fun γ => ⟨rfl, fun w' _ => ex_slT (l := q.n) rfl rfl rfl (by omega) (by omega)⟩) (ak (fun γ => ⟨rfl, fun w' h => ⟨15, #[.slice (some ⟨γt23, 0, none⟩) 16 16, .slice (some ⟨γt5, (0 + q.n), none⟩) ((q.n + 16) - q.n) ((q.n + 16) - q.n)], exec_call rfl call15 rfl (mpn rfl), same_pt (pa γt23 0 16 16 (mt K N (up mo.f (0 + ((B / 8) - (q.n + 16))) (x8 (mo.f (0 + ((B / 8) - (q.n + 16)))) (o1 (B % 8)))) mo.n (sl0 K N q.f q.n mo.f mo.n) q.n)) (pa γt5 (0 + q.n) ((q.n + 16) - q.n) ((q.n + 16) - q.n) (fun j => (sl0 K N q.f q.n mo.f mo.n) (q.n + j))) (pa_ok _ _ _ (Nat.le_refl _)) (pa_ok _ _ _ (Nat.le_refl _)) (mt_256 _ _ _ _ _ _) (fun j => sl0_256 _ _ _ _ _ _ _) true (⟨fun _ => ⟨by show 16 = (q.n + 16) - q.n; omega, back_c1 hT⟩, fun _ => rfl⟩) w' (h.rs 0 rfl (Nat.le_refl _)) ((h.rs 7 rfl (Nat.le_refl _)).part q.n)⟩⟩) (ak (by refine fun γ => ⟨rfl, fun w' h => ?_⟩; clear h; go_simp) (ak (by refine fun γ => ⟨rfl, fun w' h => ?_⟩; clear h; go_simp) (ak (fun _ => ⟨rfl, fun _ _ => rfl⟩) (ak (fun _ => ⟨rfl, fun _ _ => rfl⟩) (ak (fun γ => ⟨rfl, fun w' _ => ex_eqE (a := 0) (b := 0) rfl rfl rfl rfl⟩) (ak (fun _ => ⟨rfl, fun _ _ => rfl⟩) (ak (fun γ => rfl) (ak (fun γ => rfl) (ak (by refine fun γ => ⟨rfl, fun w' h => ?_⟩; clear h; go_simp) (ak (by refine fun γ => ⟨rfl, fun w' h => ?_⟩; clear h; go_simp) (ak (fun _ => ⟨rfl, fun _ _ => rfl⟩) trivial)))))))))))))))))))))))
    intro _ w24 H24
    clear H23
    refine rest0 rfl (then_normal (wp_ret ?_))
    repeat (first | refine then_ret ?_ | refine block_ret ?_)
    refine bodyPost_ret (v := .bool true) (by simp [results, Try.results6, go_sem, *]) rfl ?_
    exact ⟨rfl, H24.out.2⟩
  · refine walk_seqB 5 [.quiet (.int .i64 ((B : Nat) : Int)), .quiet (.slice (some ⟨γt5, 0, none⟩) (q.n + 16) (q.n + 16)), .quiet (.int .i64 (((q.n + 16) : Nat) : Int)), .quiet (.int .i64 ((8 * (q.n + 16) : Nat) : Int)), .quiet (.bool false)] H15 ?ho12C2 ?he12C2
    case ho12C2 => exact ak (fun _ => ⟨rfl, fun _ _ => rfl⟩) (ak (fun _ => ⟨rfl, fun _ _ => rfl⟩) (ak (by refine fun γ => ⟨rfl, fun w' h => ?_⟩; clear h; go_simp) (ak (by refine fun γ => ⟨rfl, fun w' h => ?_⟩; clear h; go_simp; rw [IntKind.wrap_i64]; omega) (ak (by refine fun γ => ⟨rfl, fun w' h => ?_⟩; clear h; go_simp <;> omega) trivial))))
    intro _ w16 H16
    clear H15
    refine rest0 rfl (then_normal (wp_cond_false rfl ?_))
    refine walk_anyB 19 [.quiet (.slice (some ⟨γ11_3, 0, none⟩) mo.n (mo.n + γ11_65539)), .quiet (.int .i64 ((B : Nat) : Int)), .quiet (.int .i64 ((B / 8 : Nat) : Int)), .quiet (.slice (some ⟨γt5, 0, none⟩) (q.n + 16) (q.n + 16)), .quiet (.int .i64 (((q.n + 16) : Nat) : Int)), .quiet (.int .i64 (((B / 8) - (q.n + 16) : Nat) : Int)), .quiet (.slice (some ⟨γ11_3, 0, none⟩) mo.n (mo.n + γ11_65539)), .quiet (.int .i64 ((B : Nat) : Int)), .quiet (.int .i64 ((B / 8 : Nat) : Int)), .quiet (.slice (some ⟨γt5, 0, none⟩) (q.n + 16) (q.n + 16)), .quiet (.int .i64 (((q.n + 16) : Nat) : Int)), .quiet (.int .i64 (((B / 8) - (q.n + 16) : Nat) : Int)), .quiet (PT γ11_3 (0 + ((B / 8) - (q.n + 16)))), .quiet (Z8 (mo.f (0 + ((B / 8) - (q.n + 16))))), .quiet (.int .i64 ((B : Nat) : Int)), .quiet (.int .i64 ((B % 8 : Nat) : Int)), .quiet (Z8 (o1 (B % 8))), .quiet (Z8 (x8 (mo.f (0 + ((B / 8) - (q.n + 16)))) (o1 (B % 8)))), .quiet (PT γ11_3 (0 + ((B / 8) - (q.n + 16))))] H16 ?ho13C2 ?he13C2
    case ho13C2 => exact ak (fun _ => ⟨rfl, fun _ _ => rfl⟩) (ak (fun _ => ⟨rfl, fun _ _ => rfl⟩) (ak (fun γ => ⟨rfl, fun w' _ => ex_quo3 (a := B) (b := 8) (by omega) (by omega) rfl rfl rfl⟩) (ak (fun _ => ⟨rfl, fun _ _ => rfl⟩) (ak (by refine fun γ => ⟨rfl, fun w' h => ?_⟩; clear h; go_simp) (ak (by refine fun γ => ⟨rfl, fun w' h => ?_⟩; clear h; go_simp; rw [IntKind.wrap_i64]; omega) (ak (fun _ => ⟨rfl, fun _ _ => rfl⟩) (ak (fun _ => ⟨rfl, fun _ _ => rfl⟩) (ak (fun γ => ⟨rfl, fun w' _ => ex_quo3 (a := B) (b := 8) (by omega) (by omega) rfl rfl rfl⟩) (ak (fun _ => ⟨rfl, fun _ _ => rfl⟩) (ak (by refine fun γ => ⟨rfl, fun w' h => ?_⟩; clear h; go_simp) (ak (by refine fun γ => ⟨rfl, fun w' h => ?_⟩; clear h; go_simp; rw [IntKind.wrap_i64]; omega) (ak (fun γ => ⟨rfl, fun w' _ => ex_ixS22 (m := mo.n) (j := (B / 8) - (q.n + 16)) rfl rfl rfl (by omega)⟩) (ak (fun γ => ⟨rfl, fun w' h => ex_loadC h 1 rfl rfl rfl Try.isAgg5 (ints_get _ _ (by omega))⟩) (ak (fun _ => ⟨rfl, fun _ _ => rfl⟩) (ak (fun γ => ⟨rfl, fun w' _ => ex_rem3 (a := B) (b := 8) (by omega) (by omega) rfl rfl rfl⟩) (ak (fun γ => ⟨rfl, fun w' _ => ex_shl81 (k := B % 8) (Nat.mod_lt _ (by decide)) rfl rfl rfl⟩) (ak (fun γ => ⟨rfl, fun w' _ => ex_xor8 rfl rfl rfl⟩) (ak (fun γ => ⟨rfl, fun w' _ => ex_ixS22 (m := mo.n) (j := (B / 8) - (q.n + 16)) rfl rfl rfl (by omega)⟩) trivial))))))))))))))))))
    intro _ w17 H17
    clear H16
    refine rest_at (l := [19]) rfl ?_
    refine rest_store rfl rfl rfl (ex_storeI H17.out.1 1 rfl rfl Try.sizeOf5 rfl rfl (by rw [ints_len]; omega)) ?_
    have H18 : Hid (Mm (w17.setCells γ11_3 (0 + ((B / 8) - (q.n + 16))) ([Z8 (x8 (mo.f (0 + ((B / 8) - (q.n + 16)))) (o1 (B % 8)))])) [(γ11_1, ints .u8 (sl0 K N q.f q.n mo.f mo.n) (q.n + 16)), (γ11_3, ints .u8 (up mo.f (0 + ((B / 8) - (q.n + 16))) (x8 (mo.f (0 + ((B / 8) - (q.n + 16)))) (o1 (B % 8)))) mo.n), (γt12, ints .u8 (so K N 7 (so K N 7 q.f)) q.n), (γt10, ints .u8 (so K N 7 q.f) q.n), (γt8, ints .u8 (so K N 1 (sl0 K N q.f q.n mo.f mo.n)) ((q.n + 16) - 16)), (γt5, ints .u8 (sl0 K N q.f q.n mo.f mo.n) (q.n + 16))] ∧ Below w.heap.size w (w17.setCells γ11_3 (0 + ((B / 8) - (q.n + 16))) ([Z8 (x8 (mo.f (0 + ((B / 8) - (q.n + 16)))) (o1 (B % 8)))]))) := ⟨by
      have h := H17.out.1.put 1 (off := (0 + ((B / 8) - (q.n + 16)))) (vs := [Z8 (x8 (mo.f (0 + ((B / 8) - (q.n + 16)))) (o1 (B % 8)))]) rfl (by rw [ints_len]; simp only [List.length_cons, List.length_nil]; omega)
      rw [ints_patch _ _ _ _ (by omega)] at h
      exact h, below_setCells _ o11_3.out _ _ _ H17.out.2⟩
    clear H17
    generalize hgw : World.setCells _ _ _ _ = w18 at H18 ⊢
    clear hgw
    refine rest_nil (then_normal (wp_seq ?_))
    refine walk_seqB 4 [.quiet (.slice (some ⟨gk, ok, none⟩) 32 ck), .quiet (.slice (some ⟨gn, on, none⟩) 12 cn), .quiet (.slice (some ⟨γ11_1, 0, none⟩) (q.n + 16) ((q.n + 16) + γ11_65537)), .quiet (.slice (some ⟨γ11_3, 0, none⟩) mo.n (mo.n + γ11_65539))] H18 ?ho14C2 ?he14C2
    case ho14C2 => exact ak (fun _ => ⟨rfl, fun _ _ => rfl⟩) (ak (fun _ => ⟨rfl, fun _ _ => rfl⟩) (ak (fun _ => ⟨rfl, fun _ _ => rfl⟩) (ak (fun _ => ⟨rfl, fun _ _ => rfl⟩) trivial)))
    intro _ w19 H19
    clear H18
    refine rest_at (l := [4, 5, 6, 7, 8, 9]) rfl ?_
    refine rest_enter (d := 162) rfl rfl rfl (exec_call (args := #[.slice (some ⟨gk, ok, none⟩) 32 ck, .slice (some ⟨gn, on, none⟩) 12 cn, .slice (some ⟨γ11_1, 0, none⟩) (q.n + 16) ((q.n + 16) + γ11_65537), .slice (some ⟨γ11_3, 0, none⟩) mo.n (mo.n + γ11_65539)]) rfl call20 rfl (mpn rfl)) ((Calls.mono (POpen_bad K N gk ok ck gn on cn hck hcn (sl0 K N q.f q.n mo.f mo.n) γ11_1 0 (q.n + 16) ((q.n + 16) + γ11_65537) (pa γ11_3 0 mo.n (mo.n + γ11_65539) (up mo.f (0 + ((B / 8) - (q.n + 16))) (x8 (mo.f (0 + ((B / 8) - (q.n + 16)))) (o1 (B % 8))))) (pa_ok _ _ _ (Nat.le_add_right _ _)) (sl0_256 _ _ _ _ _ _) (up_256 hfmo (Nat.mod_lt _ (by decide))) (by omega) (Nat.le_add_right _ _) (by omega) (by show mo.n ≤ 1048576; omega) (hT) w19 (RK.out.below H19.out.2) (RN.out.below H19.out.2) (H19.out.1.rs 0 rfl (Nat.le_refl _)) (H19.out.1.rs 1 rfl (Nat.le_refl _))) (fun e w2 hh => ⟨_, hh.1, rfl, hh.2⟩) : Calls Try.prog 20 #[.slice (some ⟨gk, ok, none⟩) 32 ck, .slice (some ⟨gn, on, none⟩) 12 cn, .slice (some ⟨γ11_1, 0, none⟩) (q.n + 16) ((q.n + 16) + γ11_65537), .slice (some ⟨γ11_3, 0, none⟩) mo.n (mo.n + γ11_65539)] w19 (fun e w' => ∃ v, e = .returned v ∧ (v = .tuple #[.slice none 0 0, .int .i64 200] ∧ Below w19.heap.size w19 w')))) ?_
    rintro _ w20 ⟨rfl, hb⟩
    have H20 : Hid (Mm w20 [(γ11_1, ints .u8 (sl0 K N q.f q.n mo.f mo.n) (q.n + 16)), (γ11_3, ints .u8 (up mo.f (0 + ((B / 8) - (q.n + 16))) (x8 (mo.f (0 + ((B / 8) - (q.n + 16)))) (o1 (B % 8)))) mo.n), (γt12, ints .u8 (so K N 7 (so K N 7 q.f)) q.n), (γt10, ints .u8 (so K N 7 q.f) q.n), (γt8, ints .u8 (so K N 1 (sl0 K N q.f q.n mo.f mo.n)) ((q.n + 16) - 16)), (γt5, ints .u8 (sl0 K N q.f q.n mo.f mo.n) (q.n + 16))] ∧ Below w.heap.size w w20) := ⟨H19.out.1.below hb, H19.out.2.trans (hb.mono H19.out.2.size)⟩
    clear hb H19
    simp only [Act.put, sa, sz, ss]
    refine rest_set (d := 157) (v := .tuple #[.slice none 0 0, .int .i64 200]) (w' := w20) rfl rfl rfl rfl ?_
    simp only [Act.put, sa, sz, ss]
    refine rest_set (d := 163) (v := .slice none 0 0) (w' := w20) rfl rfl rfl (by go_simp) ?_
    simp only [Act.put, sa, sz, ss]
    refine rest_set (d := 164) (v := .int .i64 200) (w' := w20) rfl rfl rfl (by go_simp) ?_
    simp only [Act.put, sa, sz, ss]
    refine rest_set (d := 22) (v := .slice none 0 0) (w' := w20) rfl rfl rfl rfl ?_
    simp only [Act.put, sa, sz, ss]
    refine rest_set (d := 23) (v := .int .i64 200) (w' := w20) rfl rfl rfl rfl ?_
    simp only [Act.put, sa, sz, ss]
    refine rest_nil (then_normal ?_)
    refine wp_seq (wp_seq ?_)
    refine walk_seqB 12 [.quiet (.int .i64 ((B : Nat) : Int)), .quiet (.int .i64 ((B / 8 : Nat) : Int)), .quiet (.slice q.p q.n q.cp), .quiet (.int .i64 ((q.n : Nat) : Int)), .quiet (.bool true), .quiet (.bool true), .quiet (.int .i64 ((B : Nat) : Int)), .quiet (.int .i64 ((B / 8 : Nat) : Int)), .quiet (.slice (some ⟨γt5, 0, none⟩) (q.n + 16) (q.n + 16)), .quiet (.int .i64 (((q.n + 16) : Nat) : Int)), .quiet (.bool false), .quiet (.bool false)] H20 ?ho15C2 ?he15C2
    case ho15C2 => exact ak (fun _ => ⟨rfl, fun _ _ => rfl⟩) (ak (fun γ => ⟨rfl, fun w' _ => ex_quo3 (a := B) (b := 8) (by omega) (by omega) rfl rfl rfl⟩) (ak (fun _ => ⟨rfl, fun _ _ => rfl⟩) (ak (by refine fun γ => ⟨rfl, fun w' h => ?_⟩; clear h; go_simp) (ak (by refine fun γ => ⟨rfl, fun w' h => ?_⟩; clear h; go_simp <;> omega) (ak (fun _ => ⟨rfl, fun _ _ => rfl⟩) (ak (fun _ => ⟨rfl, fun _ _ => rfl⟩) (ak (fun γ => ⟨rfl, fun w' _ => ex_quo3 (a := B) (b := 8) (by omega) (by omega) rfl rfl rfl⟩) (ak (fun _ => ⟨rfl, fun _ _ => rfl⟩) (ak (by refine fun γ => ⟨rfl, fun w' h => ?_⟩; clear h; go_simp) (ak (by refine fun γ => ⟨rfl, fun w' h => ?_⟩; clear h; go_simp <;> omega) (ak (by refine fun γ => ⟨rfl, fun w' h => ?_⟩; clear h; go_simp) trivial)))))))))))
    intro _ w21 H21
    clear H20
    refine rest0 rfl (then_normal (wp_cond_false rfl ?_))
    refine wp_skip (then_normal (wp_seq ?_))
    refine walk_seqB 7 [.quiet (.slice (some ⟨gk, ok, none⟩) 32 ck), .quiet (.slice (some ⟨gn, on, none⟩) 12 cn), .quiet (.slice (some ⟨γ11_1, 0, none⟩) (q.n + 16) ((q.n + 16) + γ11_65537)), .quiet (.slice q.p q.n q.cp), .quiet (.int .i64 ((q.n : Nat) : Int)), .quiet (.slice (some ⟨γ11_1, 0, none⟩) q.n ((q.n + 16) + γ11_65537)), .quiet (.slice (some ⟨γ11_3, 0, none⟩) mo.n (mo.n + γ11_65539))] H21 ?ho16C2 ?he16C2
    case ho16C2 => exact ak (fun _ => ⟨rfl, fun _ _ => rfl⟩) (ak (fun _ => ⟨rfl, fun _ _ => rfl⟩) (ak (fun _ => ⟨rfl, fun _ _ => rfl⟩) (ak (fun _ => ⟨rfl, fun _ _ => rfl⟩) (ak (by refine fun γ => ⟨rfl, fun w' h => ?_⟩; clear h; go_simp) (ak (fun γ => ⟨rfl, fun w' _ => ex_slH22 (l := q.n) rfl rfl rfl (by omega)⟩) (ak (fun _ => ⟨rfl, fun _ _ => rfl⟩) trivial))))))
    intro _ w22 H22
    clear H21
    refine rest_at (l := [7, 8, 9, 10, 11, 12]) rfl ?_
    refine rest_enter (d := 190) rfl rfl rfl (exec_call (args := #[.slice (some ⟨gk, ok, none⟩) 32 ck, .slice (some ⟨gn, on, none⟩) 12 cn, .slice (some ⟨γ11_1, 0, none⟩) q.n ((q.n + 16) + γ11_65537), .slice (some ⟨γ11_3, 0, none⟩) mo.n (mo.n + γ11_65539)]) rfl call26 rfl (mpn rfl)) ((Calls.mono (ltag_any K N gk ok ck gn on cn hck hcn (pa γ11_1 0 q.n ((q.n + 16) + γ11_65537) (sl0 K N q.f q.n mo.f mo.n)) (pa γ11_3 0 mo.n (mo.n + γ11_65539) (up mo.f (0 + ((B / 8) - (q.n + 16))) (x8 (mo.f (0 + ((B / 8) - (q.n + 16)))) (o1 (B % 8))))) (pa_ok _ _ _ (by omega)) (pa_ok _ _ _ (Nat.le_add_right _ _)) (fun e => by cases e) (fun e => by cases e) (sl0_256 _ _ _ _ _ _) (up_256 hfmo (Nat.mod_lt _ (by decide))) (by show q.n ≤ 100000; omega) (by show mo.n ≤ 100000; omega) w22 (RK.out.below H22.out.2) (RN.out.below H22.out.2) (Rs.head (H22.out.1.rs 0 rfl (Nat.le_refl _)) (by show q.n ≤ (q.n + 16); omega)) (H22.out.1.rs 1 rfl (Nat.le_refl _))) (fun e w2 hh => by obtain ⟨hb, g, he, h1, h2, h3⟩ := hh; exact ⟨_, he, hb, g, rfl, h1, h2, h3⟩) : Calls Try.prog 26 #[.slice (some ⟨gk, ok, none⟩) 32 ck, .slice (some ⟨gn, on, none⟩) 12 cn, .slice (some ⟨γ11_1, 0, none⟩) q.n ((q.n + 16) + γ11_65537), .slice (some ⟨γ11_3, 0, none⟩) mo.n (mo.n + γ11_65539)] w22 (fun e w' => ∃ v, e = .returned v ∧ (Below w22.heap.size w22 w' ∧ ∃ g, v = .tuple #[.slice (some ⟨g, 0, none⟩) 16 16, .bool true] ∧ w22.heap.size ≤ g ∧ g < w'.heap.size ∧ Blk w' g (ints .u8 (mt K N (up mo.f (0 + ((B / 8) - (q.n + 16))) (x8 (mo.f (0 + ((B / 8) - (q.n + 16)))) (o1 (B % 8)))) mo.n (sl0 K N q.f q.n mo.f mo.n) q.n) 16))))) ?_
    rintro _ w23 ⟨hb, γt23, rfl, hg1, hg2, hg3⟩
    have o_γt23 : Hid (w.heap.size ≤ γt23) := Nat.le_trans H22.out.2.size hg1
    have H23 : Hid (Mm w23 [(γt23, ints .u8 (mt K N (up mo.f (0 + ((B / 8) - (q.n + 16))) (x8 (mo.f (0 + ((B / 8) - (q.n + 16)))) (o1 (B % 8)))) mo.n (sl0 K N q.f q.n mo.f mo.n) q.n) 16), (γ11_1, ints .u8 (sl0 K N q.f q.n mo.f mo.n) (q.n + 16)), (γ11_3, ints .u8 (up mo.f (0 + ((B / 8) - (q.n + 16))) (x8 (mo.f (0 + ((B / 8) - (q.n + 16)))) (o1 (B % 8)))) mo.n), (γt12, ints .u8 (so K N 7 (so K N 7 q.f)) q.n), (γt10, ints .u8 (so K N 7 q.f) q.n), (γt8, ints .u8 (so K N 1 (sl0 K N q.f q.n mo.f mo.n)) ((q.n + 16) - 16)), (γt5, ints .u8 (sl0 K N q.f q.n mo.f mo.n) (q.n + 16))] ∧ Below w.heap.size w w23) := ⟨Mm.over H22.out.1 hg1 (H22.out.1.below hb) hg3 hg2, H22.out.2.trans (hb.mono H22.out.2.size)⟩
    clear hb hg1 hg2 hg3 H22
    simp only [Act.put, sa, sz, ss]
    refine rest_set (d := 182) (v := .tuple #[.slice (some ⟨γt23, 0, none⟩) 16 16, .bool true]) (w' := w23) rfl rfl rfl rfl ?_
    simp only [Act.put, sa, sz, ss]
    refine rest_set (d := 191) (v := .slice (some ⟨γt23, 0, none⟩) 16 16) (w' := w23) rfl rfl rfl (by go_simp) ?_
    simp only [Act.put, sa, sz, ss]
    refine rest_set (d := 192) (v := .bool true) (w' := w23) rfl rfl rfl (by go_simp) ?_
    simp only [Act.put, sa, sz, ss]
    refine rest_set (d := 24) (v := .slice (some ⟨γt23, 0, none⟩) 16 16) (w' := w23) rfl rfl rfl rfl ?_
    simp only [Act.put, sa, sz, ss]
    refine rest_set (d := 25) (v := .bool true) (w' := w23) rfl rfl rfl rfl ?_
    simp only [Act.put, sa, sz, ss]
    refine rest_nil (then_normal (wp_seq ?_))
    refine walk_seqB 24 [.quiet (.bool true), .quiet (.bool true), .quiet (.bool true), .quiet (.bool true), .quiet (.bool true), .quiet (.int .i64 200), .quiet (.bool false), .quiet (.slice (some ⟨γt23, 0, none⟩) 16 16), .quiet (.slice (some ⟨γt5, 0, none⟩) (q.n + 16) (q.n + 16)), .quiet (.slice q.p q.n q.cp), .quiet (.int .i64 ((q.n : Nat) : Int)), .quiet (.slice (some ⟨γt5, (0 + q.n), none⟩) ((q.n + 16) - q.n) ((q.n + 16) - q.n)), .call (.bool false), .quiet (.bool true), .quiet (.bool true), .quiet (.bool true), .quiet (.int .i64 200), .quiet (.bool false), .quiet (.bool false), .quiet (.int .i64 200), .quiet (.bool true), .quiet (.bool true), .quiet (.bool true), .quiet (.bool true)] H23 ?ho17C2 ?he17C2 (hL := ?hL17C2)
    case hL17C2 => exact trivial
    case ho17C2 => exact ak (fun _ => ⟨rfl, fun _ _ => rfl⟩) (ak (fun _ => ⟨rfl, fun _ _ => rfl⟩) (ak (fun _ => ⟨rfl, fun _ _ => rfl⟩) (ak (by refine fun γ => ⟨rfl, fun w' h => ?_⟩; clear h; go_simp) (ak (fun _ => ⟨rfl, fun _ _ => rfl⟩) (ak (fun _ => ⟨rfl, fun _ _ => rfl⟩) (ak (fun γ => ⟨rfl, fun w' _ => ex_eqE (a := 200) (b := 0) rfl rfl rfl rfl⟩) (ak (fun _ => ⟨rfl, fun _ _ => rfl⟩) (ak (fun _ => ⟨rfl, fun _ _ => rfl⟩) (ak (fun _ => ⟨rfl, fun _ _ => rfl⟩) (ak (by refine fun γ => ⟨rfl, fun w' h => ?_⟩; clear h; go_simp) (ak (fun γ => ⟨rfl, fun w' _ => ex_slT (l := q.n) rfl rfl rfl (by omega) (by omega)⟩) (ak (fun γ => ⟨rfl, fun w' h => ⟨15, #[.slice (some ⟨γt23, 0, none⟩) 16 16, .slice (some ⟨γt5, (0 + q.n), none⟩) ((q.n + 16) - q.n) ((q.n + 16) - q.n)], exec_call rfl call15 rfl (mpn rfl), same_pt (pa γt23 0 16 16 (mt K N (up mo.f (0 + ((B / 8) - (q.n + 16))) (x8 (mo.f (0 + ((B / 8) - (q.n + 16)))) (o1 (B % 8)))) mo.n (sl0 K N q.f q.n mo.f mo.n) q.n)) (pa γt5 (0 + q.n) ((q.n + 16) - q.n) ((q.n + 16) - q.n) (fun j => (sl0 K N q.f q.n mo.f mo.n) (q.n + j))) (pa_ok _ _ _ (Nat.le_refl _)) (pa_ok _ _ _ (Nat.le_refl _)) (mt_256 _ _ _ _ _ _) (fun j => sl0_256 _ _ _ _ _ _ _) false (⟨fun h => Bool.noConfusion h, fun h => absurd (back_c2 h.2) hT⟩) w' (h.rs 0 rfl (Nat.le_refl _)) ((h.rs 6 rfl (Nat.le_refl _)).part q.n)⟩⟩) (ak (by refine fun γ => ⟨rfl, fun w' h => ?_⟩; clear h; go_simp) (ak (by refine fun γ => ⟨rfl, fun w' h => ?_⟩; clear h; go_simp) (ak (fun _ => ⟨rfl, fun _ _ => rfl⟩) (ak (fun _ => ⟨rfl, fun _ _ => rfl⟩) (ak (fun γ => ⟨rfl, fun w' _ => ex_eqE (a := 200) (b := 0) rfl rfl rfl rfl⟩) (ak (fun _ => ⟨rfl, fun _ _ => rfl⟩) (ak (fun _ => ⟨rfl, fun _ _ => rfl⟩) (ak (fun γ => ⟨rfl, fun w' _ => ex_eqE (a := 200) (b := 200) rfl rfl rfl rfl⟩) (ak (by refine fun γ => ⟨rfl, fun w' h => ?_⟩; clear h; go_simp) (ak (by refine fun γ => ⟨rfl, fun w' h => ?_⟩; clear h; go_simp) (ak (fun _ => ⟨rfl, fun _ _ => rfl⟩) trivial)))))))))))))))))))))))
    intro _ w24 H24
    clear H23
    refine rest0 rfl (then_normal (wp_ret ?_))
    repeat (first | refine then_ret ?_ | refine block_ret ?_)
    refine bodyPost_ret (v := .bool true) (by simp [results, Try.results6, go_sem, *]) rfl ?_
    exact ⟨rfl, H24.out.2⟩
end Rg
end Go.Proofs.Ytkkippfikfjdpaa
end
section
namespace Go.Proofs.Ytkkippfikfjdpaa
open Go.RowKit
namespace Rg
set_option maxRecDepth 100000
set_option maxHeartbeats 1000000 in
set_option maxRecDepth 100000 in
theorem back_k (a d q mo : Pt8) (z : Int) (h : a.n ≠ 32) (w : World) :
    Calls Try.prog 6 #[.slice a.p a.n a.cp, .slice d.p d.n d.cp, .slice q.p q.n q.cp, .slice mo.p mo.n mo.cp, .int .i64 z] w fun e w' => e = .returned (.bool true) ∧ Below w.heap.size w w' := by
  have H0 : Hid (_ ∧ _) := ⟨Mm.nil w, Below.refl w.heap.size w⟩
  go_enter Try.func6, Try.ntmps6
  refine wp_seq ?_
  refine walk_seqB 1 [.quiet (.bool false)] H0 ?ho1 ?he1
  case ho1 => exact ak (fun _ => ⟨rfl, fun _ _ => rfl⟩) trivial
  intro _ w1 H1
  refine rest0 rfl (then_normal (wp_seq ?_))
  refine walk_seqB 2 [.call (.bool true), .quiet (.bool true)] H1 ?ho2 ?he2
  case ho2 => exact ak (fun γ => ⟨rfl, fun w' h => ⟨5, #[], exec_call rfl call5 rfl (mpn rfl), known_law w'⟩⟩) (ak (fun _ => ⟨rfl, fun _ _ => rfl⟩) trivial)
  intro _ w2 H2
  clear H1
  refine rest0 rfl (then_normal (wp_seq (wp_seq ?_)))
  refine walk_seqB 18 [.quiet (.slice a.p a.n a.cp), .quiet (.int .i64 ((a.n : Nat) : Int)), .quiet (.bool true), .quiet (.bool true), .gone, .gone, .gone, .quiet (.bool true), .quiet (.bool true), .gone, .gone, .gone, .quiet (.bool true), .quiet (.bool true), .gone, .gone, .gone, .quiet (.bool true)] H2 ?ho3 ?he3
  case ho3 => exact ak (fun _ => ⟨rfl, fun _ _ => rfl⟩) (ak (by refine fun γ => ⟨rfl, fun w' h => ?_⟩; clear h; go_simp) (ak (by refine fun γ => ⟨rfl, fun w' h => ?_⟩; clear h; go_simp <;> omega) (ak (fun _ => ⟨rfl, fun _ _ => rfl⟩) (ak (fun γ => rfl) (ak (fun γ => rfl) (ak (fun γ => rfl) (ak (by refine fun γ => ⟨rfl, fun w' h => ?_⟩; clear h; go_simp) (ak (fun _ => ⟨rfl, fun _ _ => rfl⟩) (ak (fun γ => rfl) (ak (fun γ => rfl) (ak (fun γ => rfl) (ak (by refine fun γ => ⟨rfl, fun w' h => ?_⟩; clear h; go_simp) (ak (fun _ => ⟨rfl, fun _ _ => rfl⟩) (ak (fun γ => rfl) (ak (fun γ => rfl) (ak (fun γ => rfl) (ak (by refine fun γ => ⟨rfl, fun w' h => ?_⟩; clear h; go_simp) trivial)))))))))))))))))
  intro _ w3 H3
  clear H2
  refine rest0 rfl (then_normal (wp_cond_true rfl (wp_seq ?_)))
  refine walk_seqB 2 [.quiet (.bool true), .quiet (.bool true)] H3 ?ho4 ?he4
  case ho4 => exact ak (fun _ => ⟨rfl, fun _ _ => rfl⟩) (ak (fun _ => ⟨rfl, fun _ _ => rfl⟩) trivial)
  intro _ w4 H4
  clear H3
  refine rest0 rfl (then_normal (wp_ret ?_))
  repeat (first | refine then_ret ?_ | refine block_ret ?_)
  refine bodyPost_ret (v := .bool true) (by simp [results, Try.results6, go_sem, *]) rfl ?_
  exact ⟨rfl, H4.out.2⟩
set_option maxHeartbeats 1000000 in
set_option maxRecDepth 100000 in
theorem back_n (a d q mo : Pt8) (z : Int) (h0 : a.n = 32) (h : d.n ≠ 12) (w : World) :
    Calls Try.prog 6 #[.slice a.p a.n a.cp, .slice d.p d.n d.cp, .slice q.p q.n q.cp, .slice mo.p mo.n mo.cp, .int .i64 z] w fun e w' => e = .returned (.bool true) ∧ Below w.heap.size w w' := by
  have H0 : Hid (_ ∧ _) := ⟨Mm.nil w, Below.refl w.heap.size w⟩
  go_enter Try.func6, Try.ntmps6
  refine wp_seq ?_
  refine walk_seqB 1 [.quiet (.bool false)] H0 ?ho1 ?he1
  case ho1 => exact ak (fun _ => ⟨rfl, fun _ _ => rfl⟩) trivial
  intro _ w1 H1
  refine rest0 rfl (then_normal (wp_seq ?_))
  refine walk_seqB 2 [.call (.bool true), .quiet (.bool true)] H1 ?ho2 ?he2
  case ho2 => exact ak (fun γ => ⟨rfl, fun w' h => ⟨5, #[], exec_call rfl call5 rfl (mpn rfl), known_law w'⟩⟩) (ak (fun _ => ⟨rfl, fun _ _ => rfl⟩) trivial)
  intro _ w2 H2
  clear H1
  refine rest0 rfl (then_normal (wp_seq (wp_seq ?_)))
  refine walk_seqB 18 [.quiet (.slice a.p a.n a.cp), .quiet (.int .i64 ((a.n : Nat) : Int)), .quiet (.bool false), .quiet (.bool false), .quiet (.slice d.p d.n d.cp), .quiet (.int .i64 ((d.n : Nat) : Int)), .quiet (.bool true), .quiet (.bool true), .quiet (.bool true), .gone, .gone, .gone, .quiet (.bool true), .quiet (.bool true), .gone, .gone, .gone, .quiet (.bool true)] H2 ?ho3 ?he3
  case ho3 => exact ak (fun _ => ⟨rfl, fun _ _ => rfl⟩) (ak (by refine fun γ => ⟨rfl, fun w' h => ?_⟩; clear h; go_simp) (ak (by refine fun γ => ⟨rfl, fun w' h => ?_⟩; clear h; go_simp <;> omega) (ak (fun _ => ⟨rfl, fun _ _ => rfl⟩) (ak (fun _ => ⟨rfl, fun _ _ => rfl⟩) (ak (by refine fun γ => ⟨rfl, fun w' h => ?_⟩; clear h; go_simp) (ak (by refine fun γ => ⟨rfl, fun w' h => ?_⟩; clear h; go_simp <;> omega) (ak (by refine fun γ => ⟨rfl, fun w' h => ?_⟩; clear h; go_simp) (ak (fun _ => ⟨rfl, fun _ _ => rfl⟩) (ak (fun γ => rfl) (ak (fun γ => rfl) (ak (fun γ => rfl) (ak (by refine fun γ => ⟨rfl, fun w' h => ?_⟩; clear h; go_simp) (ak (fun _ => ⟨rfl, fun _ _ => rfl⟩) (ak (fun γ => rfl) (ak (fun γ => rfl) (ak (fun γ => rfl) (ak (by refine fun γ => ⟨rfl, fun w' h => ?_⟩; clear h; go_simp) trivial)))))))))))))))))
  intro _ w3 H3
  clear H2
  refine rest0 rfl (then_normal (wp_cond_true rfl (wp_seq ?_)))
  refine walk_seqB 2 [.quiet (.bool true), .quiet (.bool true)] H3 ?ho4 ?he4
  case ho4 => exact ak (fun _ => ⟨rfl, fun _ _ => rfl⟩) (ak (fun _ => ⟨rfl, fun _ _ => rfl⟩) trivial)
  intro _ w4 H4
  clear H3
  refine rest0 rfl (then_normal (wp_ret ?_))
  repeat (first | refine then_ret ?_ | refine block_ret ?_)
  refine bodyPost_ret (v := .bool true) (by simp [results, Try.results6, go_sem, *]) rfl ?_
  exact ⟨rfl, H4.out.2⟩
set_option maxHeartbeats 1000000 in
set_option maxRecDepth 100000 in
theorem back_q (a d q mo : Pt8) (z : Int) (h0 : a.n = 32) (h1 : d.n = 12) (h : 2000 < q.n) (w : World) :
    Calls Try.prog 6 #[.slice a.p a.n a.cp, .slice d.p d.n d.cp, .slice q.p q.n q.cp, .slice mo.p mo.n mo.cp, .int .i64 z] w fun e w' => e = .returned (.bool true) ∧ Below w.heap.size w w' := by
  have H0 : Hid (_ ∧ _) := ⟨Mm.nil w, Below.refl w.heap.size w⟩
  go_enter Try.func6, Try.ntmps6
  refine wp_seq ?_
  refine walk_seqB 1 [.quiet (.bool false)] H0 ?ho1 ?he1
  case ho1 => exact ak (fun _ => ⟨rfl, fun _ _ => rfl⟩) trivial
  intro _ w1 H1
  refine rest0 rfl (then_normal (wp_seq ?_))
  refine walk_seqB 2 [.call (.bool true), .quiet (.bool true)] H1 ?ho2 ?he2
  case ho2 => exact ak (fun γ => ⟨rfl, fun w' h => ⟨5, #[], exec_call rfl call5 rfl (mpn rfl), known_law w'⟩⟩) (ak (fun _ => ⟨rfl, fun _ _ => rfl⟩) trivial)
  intro _ w2 H2
  clear H1
  refine rest0 rfl (then_normal (wp_seq (wp_seq ?_)))
  refine walk_seqB 18 [.quiet (.slice a.p a.n a.cp), .quiet (.int .i64 ((a.n : Nat) : Int)), .quiet (.bool false), .quiet (.bool false), .quiet (.slice d.p d.n d.cp), .quiet (.int .i64 ((d.n : Nat) : Int)), .quiet (.bool false), .quiet (.bool false), .quiet (.bool false), .quiet (.slice q.p q.n q.cp), .quiet (.int .i64 ((q.n : Nat) : Int)), .quiet (.bool true), .quiet (.bool true), .quiet (.bool true), .gone, .gone, .gone, .quiet (.bool true)] H2 ?ho3 ?he3
  case ho3 => exact ak (fun _ => ⟨rfl, fun _ _ => rfl⟩) (ak (by refine fun γ => ⟨rfl, fun w' h => ?_⟩; clear h; go_simp) (ak (by refine fun γ => ⟨rfl, fun w' h => ?_⟩; clear h; go_simp <;> omega) (ak (fun _ => ⟨rfl, fun _ _ => rfl⟩) (ak (fun _ => ⟨rfl, fun _ _ => rfl⟩) (ak (by refine fun γ => ⟨rfl, fun w' h => ?_⟩; clear h; go_simp) (ak (by refine fun γ => ⟨rfl, fun w' h => ?_⟩; clear h; go_simp <;> omega) (ak (by refine fun γ => ⟨rfl, fun w' h => ?_⟩; clear h; go_simp) (ak (fun _ => ⟨rfl, fun _ _ => rfl⟩) (ak (fun _ => ⟨rfl, fun _ _ => rfl⟩) (ak (by refine fun γ => ⟨rfl, fun w' h => ?_⟩; clear h; go_simp) (ak (by refine fun γ => ⟨rfl, fun w' h => ?_⟩; clear h; go_simp <;> omega) (ak (by refine fun γ => ⟨rfl, fun w' h => ?_⟩; clear h; go_simp) (ak (fun _ => ⟨rfl, fun _ _ => rfl⟩) (ak (fun γ => rfl) (ak (fun γ => rfl) (ak (fun γ => rfl) (ak (by refine fun γ => ⟨rfl, fun w' h => ?_⟩; clear h; go_simp) trivial)))))))))))))))))
  intro _ w3 H3
  clear H2
  refine rest0 rfl (then_normal (wp_cond_true rfl (wp_seq ?_)))
  refine walk_seqB 2 [.quiet (.bool true), .quiet (.bool true)] H3 ?ho4 ?he4
  case ho4 => exact ak (fun _ => ⟨rfl, fun _ _ => rfl⟩) (ak (fun _ => ⟨rfl, fun _ _ => rfl⟩) trivial)
  intro _ w4 H4
  clear H3
  refine rest0 rfl (then_normal (wp_ret ?_))
  repeat (first | refine then_ret ?_ | refine block_ret ?_)
  refine bodyPost_ret (v := .bool true) (by simp [results, Try.results6, go_sem, *]) rfl ?_
  exact ⟨rfl, H4.out.2⟩
set_option maxHeartbeats 1000000 in
set_option maxRecDepth 100000 in
theorem back_m (a d q mo : Pt8) (z : Int) (h0 : a.n = 32) (h1 : d.n = 12) (h2 : q.n ≤ 2000) (h : 2000 < mo.n) (w : World) :
    Calls Try.prog 6 #[.slice a.p a.n a.cp, .slice d.p d.n d.cp, .slice q.p q.n q.cp, .slice mo.p mo.n mo.cp, .int .i64 z] w fun e w' => e = .returned (.bool true) ∧ Below w.heap.size w w' := by
  have H0 : Hid (_ ∧ _) := ⟨Mm.nil w, Below.refl w.heap.size w⟩
  go_enter Try.func6, Try.ntmps6
  refine wp_seq ?_
  refine walk_seqB 1 [.quiet (.bool false)] H0 ?ho1 ?he1
  case ho1 => exact ak (fun _ => ⟨rfl, fun _ _ => rfl⟩) trivial
  intro _ w1 H1
  refine rest0 rfl (then_normal (wp_seq ?_))
  refine walk_seqB 2 [.call (.bool true), .quiet (.bool true)] H1 ?ho2 ?he2
  case ho2 => exact ak (fun γ => ⟨rfl, fun w' h => ⟨5, #[], exec_call rfl call5 rfl (mpn rfl), known_law w'⟩⟩) (ak (fun _ => ⟨rfl, fun _ _ => rfl⟩) trivial)
  intro _ w2 H2
  clear H1
  refine rest0 rfl (then_normal (wp_seq (wp_seq ?_)))
  refine walk_seqB 18 [.quiet (.slice a.p a.n a.cp), .quiet (.int .i64 ((a.n : Nat) : Int)), .quiet (.bool false), .quiet (.bool false), .quiet (.slice d.p d.n d.cp), .quiet (.int .i64 ((d.n : Nat) : Int)), .quiet (.bool false), .quiet (.bool false), .quiet (.bool false), .quiet (.slice q.p q.n q.cp), .quiet (.int .i64 ((q.n : Nat) : Int)), .quiet (.bool false), .quiet (.bool false), .quiet (.bool false), .quiet (.slice mo.p mo.n mo.cp), .quiet (.int .i64 ((mo.n : Nat) : Int)), .quiet (.bool true), .quiet (.bool true)] H2 ?ho3 ?he3
  case ho3 => exact ak (fun _ => ⟨rfl, fun _ _ => rfl⟩) (ak (by refine fun γ => ⟨rfl, fun w' h => ?_⟩; clear h; go_simp) (ak (by refine fun γ => ⟨rfl, fun w' h => ?_⟩; clear h; go_simp <;> omega) (ak (fun _ => ⟨rfl, fun _ _ => rfl⟩) (ak (fun _ => ⟨rfl, fun _ _ => rfl⟩) (ak (by refine fun γ => ⟨rfl, fun w' h => ?_⟩; clear h; go_simp) (ak (by refine fun γ => ⟨rfl, fun w' h => ?_⟩; clear h; go_simp <;> omega) (ak (by refine fun γ => ⟨rfl, fun w' h => ?_⟩; clear h; go_simp) (ak (fun _ => ⟨rfl, fun _ _ => rfl⟩) (ak (fun _ => ⟨rfl, fun _ _ => rfl⟩) (ak (by refine fun γ => ⟨rfl, fun w' h => ?_⟩; clear h; go_simp) (ak (by refine fun γ => ⟨rfl, fun w' h => ?_⟩; clear h; go_simp <;> omega) (ak (by refine fun γ => ⟨rfl, fun w' h => ?_⟩; clear h; go_simp) (ak (fun _ => ⟨rfl, fun _ _ => rfl⟩) (ak (fun _ => ⟨rfl, fun _ _ => rfl⟩) (ak (by refine fun γ => ⟨rfl, fun w' h => ?_⟩; clear h; go_simp) (ak (by refine fun γ => ⟨rfl, fun w' h => ?_⟩; clear h; go_simp <;> omega) (ak (by refine fun γ => ⟨rfl, fun w' h => ?_⟩; clear h; go_simp) trivial)))))))))))))))))
  intro _ w3 H3
  clear H2
  refine rest0 rfl (then_normal (wp_cond_true rfl (wp_seq ?_)))
  refine walk_seqB 2 [.quiet (.bool true), .quiet (.bool true)] H3 ?ho4 ?he4
  case ho4 => exact ak (fun _ => ⟨rfl, fun _ _ => rfl⟩) (ak (fun _ => ⟨rfl, fun _ _ => rfl⟩) trivial)
  intro _ w4 H4
  clear H3
  refine rest0 rfl (then_normal (wp_ret ?_))
  repeat (first | refine then_ret ?_ | refine block_ret ?_)
  refine bodyPost_ret (v := .bool true) (by simp [results, Try.results6, go_sem, *]) rfl ?_
  exact ⟨rfl, H4.out.2⟩
theorem back_parts (a d q mo : Pt8) (ha : Pok a) (hd : Pok d) (hq : Pok q) (hmo : Pok mo) (hNm : mo.p = none → mo.cp = 0) (hfq : ∀ j, q.f j < 256) (hfm : ∀ j, mo.f j < 256) (z : Int) (hz : -9223372036854775808 ≤ z ∧ z < 9223372036854775808) (w : World) (hA : a.rs w) (hD : d.rs w) (hQ : q.rs w) (hM : mo.rs w) : Calls Try.prog 6 #[.slice a.p a.n a.cp, .slice d.p d.n d.cp, .slice q.p q.n q.cp, .slice mo.p mo.n mo.cp, .int .i64 z] w fun e w' => e = .returned (.bool true) ∧ Below w.heap.size w w' := by
  by_cases h0 : a.n = 32
  · by_cases h1 : d.n = 12
    · by_cases h2 : q.n ≤ 2000
      · by_cases h3 : mo.n ≤ 2000
        · have e0 := ha.at (by omega)
          have e1 := hd.at (by omega)
          have la := ha.le
          have ld := hd.le
          rw [e0, e1, h0, h1]
          have hA' : Rs a.gb a.o 32 a.f w := by rw [← h0]; exact hA
          have hD' : Rs d.gb d.o 12 d.f w := by rw [← h1]; exact hD
          exact back_main a.f d.f a.gb a.o a.cp d.gb d.o d.cp (by omega) (by omega) q mo hq hmo hNm hfq hfm h2 h3 z (pik z (8 * ((q.n + 16) + mo.n))) (fun w => pick_all z _ ⟨by omega, by omega⟩ hz w) (pik_lt z (by omega)) w hA' hD' hQ hM
        · exact back_m a d q mo z h0 h1 h2 (by omega) w
      · exact back_q a d q mo z h0 h1 (by omega) w
    · exact back_n a d q mo z h0 h1 w
  · exact back_k a d q mo z h0 w
theorem back_any (xs : List Int) (cx : Nat) (v0 : Value) (hx : ∀ x ∈ xs, 0 ≤ x ∧ x < 256) (ys : List Int) (cy : Nat) (v1 : Value) (hy : ∀ x ∈ ys, 0 ≤ x ∧ x < 256) (zs : List Int) (cz : Nat) (v2 : Value) (hzs : ∀ x ∈ zs, 0 ≤ x ∧ x < 256) (us : List Int) (cu : Nat) (v3 : Value) (hu : ∀ x ∈ us, 0 ≤ x ∧ x < 256) (z : Int) (hz : -9223372036854775808 ≤ z ∧ z ≤ 9223372036854775807) (w : World)
    (h0 : BSl w xs cx v0) (n0 : v0 = .slice none 0 0 ∨ ∃ a k c', v0 = .slice (some a) k c') (h1 : BSl w ys cy v1) (n1 : v1 = .slice none 0 0 ∨ ∃ a k c', v1 = .slice (some a) k c') (h2 : BSl w zs cz v2) (n2 : v2 = .slice none 0 0 ∨ ∃ a k c', v2 = .slice (some a) k c') (h3 : BSl w us cu v3) (n3' : v3 = .slice none 0 0 ∨ ∃ a k c', v3 = .slice (some a) k c') :
    Calls Try.prog 6 #[v0, v1, v2, v3, .int .i64 z] w fun e w' => e = .returned (.bool true) ∧ Below w.heap.size w w' := by
  obtain ⟨a, rfl, ha, _, hA, _, _, _⟩ := bsl_part hx h0 n0
  obtain ⟨d, rfl, hd, _, hD, _, _, _⟩ := bsl_part hy h1 n1
  obtain ⟨q, rfl, hq, _, hQ, _, eq, _⟩ := bsl_part hzs h2 n2
  obtain ⟨mo, rfl, hmo, hNm, hM, _, em, _⟩ := bsl_part hu h3 n3'
  exact back_parts a d q mo ha hd hq hmo hNm (fun j => by rw [eq]; exact lf_lt hzs j) (fun j => by rw [em]; exact lf_lt hu j) z ⟨hz.1, by omega⟩ w hA hD hQ hM
end Rg
end Go.Proofs.Ytkkippfikfjdpaa
end
section
namespace Go.Proofs.Ytkkippfikfjdpaa
open Go.ChangeShapes Go.WideShapes Go.ChangeAt Go.RowKit
theorem Try.own : ownKnob Try.prog.godebug = none := by kernel_rfl
theorem Try.laidOut : laidOutB Try.prog = true := by kernel_rfl
theorem Try.cells5 : Try.prog.cellsOf 5 = 1 := by kernel_rfl
set_option maxRecDepth 100000 in
theorem open_bytes {H : Type} {enc : TypeId × Value → H} {w : World} {base : Nat} {sp : Nat → Bool} {held : Bool} {r : Reach} {b0 : Nat} {v : Value} {d : DataW H} {ps : List MemPlace}
    (hval : Value.okWide Try.prog w r b0 22 v) (hd : DataW.Trod enc Try.prog w base sp held 22 v d ps) :
    ∃ xs c, BSl w xs c v ∧ (∀ x ∈ xs, 0 ≤ x ∧ x < 256) ∧ (v = .slice none 0 0 ∨ ∃ a k c', v = .slice (some a) k c') ∧ ∀ x ∈ ps, x.block < w.heap.size := by
  obtain ⟨a0, len, cap, rfl⟩ := okWide_slice Try.underlying22 hval
  obtain ⟨fuel, hf⟩ := hd
  rcases open_ints Try.underlying22 Try.underlying5 Try.cells5 hf with ⟨hcs, hx⟩ | ⟨a, len', cap', zs, hcs, _, hl, hm, hz, hx, hcell, hwz⟩
  · simp [Value.cells] at hcs
    obtain ⟨rfl, rfl, rfl⟩ := hcs
    simp only [Prod.mk.injEq] at hx
    obtain ⟨_, rfl⟩ := hx
    exact ⟨[], 0, .void none rfl, by simp, .inl rfl, by simp⟩
  · simp [Value.cells] at hcs
    obtain ⟨rfl, rfl, rfl⟩ := hcs
    simp only [Prod.mk.injEq] at hx
    obtain ⟨_, rfl⟩ := hx
    have hlz : len ≤ zs.length := by rw [hz]; split <;> omega
    have hps : ∀ x ∈ MemPlace.row a zs.length, x.block < w.heap.size := fun x hx => by
      obtain ⟨i, hi, rfl⟩ := MemPlace.mem_row.1 hx
      have := World.block_lt_of_cell? w _ (hcell i hi)
      obtain ⟨b, off, rfl, _⟩ := ints_at hcell (by omega)
      exact World.block_lt_of_cell? w _ (hcell 0 (by omega))
    have hb : ∀ x ∈ zs, 0 ≤ x ∧ x < 256 := fun x hx => by
      have := bounds_u8 (hwz x hx)
      omega
    by_cases h0 : len = 0
    · subst h0
      exact ⟨[], cap, .void (some a) rfl, by simp, .inr ⟨_, _, _, rfl⟩, hps⟩
    · obtain ⟨b, off, rfl, hc⟩ := ints_at hcell (by omega)
      refine ⟨zs.take len, cap, ?_, fun x hx => hb x (List.mem_of_mem_take hx), .inr ⟨_, _, _, rfl⟩, hps⟩
      have hlen : (zs.take len).length = len := by simp; omega
      have hf : BSl w (zs.take len) cap (.slice (some ⟨b, off, none⟩) (zs.take len).length cap) := .full b off (World.block_lt_of_cell? w _ (hc 0 (by omega))) (by rw [hlen]; exact hl) (fun i hi => by
        rw [hlen] at hi
        rw [hc i (by omega)]
        simp [hi])
      rw [hlen] at hf
      exact hf
section
variable {H : Type} {enc : TypeId × Value → H} {w : World} {base : Nat} {sp : Nat → Bool} {held : Bool} {r : Reach} {b0 : Nat} {v : Value} {d : DataW H} {ps : List MemPlace}
end
section
variable {H : Type} {enc : TypeId × Value → H} {P : Program} {w : World} {base : Nat} {spare : Nat → Bool} {held : Bool}
theorem trodAll_five {t0 t1 t2 t3 t4 : TypeId} {args : Array Value} {ds : List (DataW H)} {ps : List MemPlace} (h : DataW.TrodAll enc P w base spare held [t0, t1, t2, t3, t4] args.toList ds ps) :
    ∃ v0 v1 v2 v3 v4 d0 d1 d2 d3 d4 p0 p1 p2 p3 p4, args = #[v0, v1, v2, v3, v4] ∧ ds = [d0, d1, d2, d3, d4] ∧ ps = p0 ++ p1 ++ p2 ++ p3 ++ p4 ∧ DataW.Trod enc P w base spare held t0 v0 d0 p0 ∧ DataW.Trod enc P w base spare held t1 v1 d1 p1 ∧ DataW.Trod enc P w base spare held t2 v2 d2 p2 ∧ DataW.Trod enc P w base spare held t3 v3 d3 p3 ∧ DataW.Trod enc P w base spare held t4 v4 d4 p4 := by
  obtain ⟨v0, vs, d0, ds', p0, q, hargs, rfl, rfl, h0, r0⟩ := trodAll_cons h
  obtain ⟨v1, vs', d1, ds'', p1, q', rfl, rfl, rfl, h1, r1⟩ := trodAll_cons r0
  obtain ⟨v2, vs'', d2, ds3, p2, q'', rfl, rfl, rfl, h2, r2⟩ := trodAll_cons r1
  obtain ⟨v3, vs3, d3, ds4, p3, q3, rfl, rfl, rfl, h3, r3⟩ := trodAll_cons r2
  obtain ⟨v4, vs4, d4, ds5, p4, q4, rfl, rfl, rfl, h4, r4⟩ := trodAll_cons r3
  obtain ⟨rfl, rfl, rfl⟩ := trodAll_nil r4
  exact ⟨v0, v1, v2, v3, v4, d0, d1, d2, d3, d4, p0, p1, p2, p3, p4, by cases args; simp_all, rfl, by simp, h0, h1, h2, h3, h4⟩
theorem trodAll_mk5 {t0 t1 t2 t3 t4 : TypeId} {v0 v1 v2 v3 v4 : Value} {d0 d1 d2 d3 d4 : DataW H} {p0 p1 p2 p3 p4 : List MemPlace} (h0 : DataW.Trod enc P w base spare held t0 v0 d0 p0) (h1 : DataW.Trod enc P w base spare held t1 v1 d1 p1) (h2 : DataW.Trod enc P w base spare held t2 v2 d2 p2) (h3 : DataW.Trod enc P w base spare held t3 v3 d3 p3) (h4 : DataW.Trod enc P w base spare held t4 v4 d4 p4) : DataW.TrodAll enc P w base spare held [t0, t1, t2, t3, t4] [v0, v1, v2, v3, v4] [d0, d1, d2, d3, d4] (p0 ++ (p1 ++ (p2 ++ (p3 ++ p4)))) :=
  ⟨p0, _, h0, trodAll_mk4 h1 h2 h3 h4, rfl⟩
end
end Go.Proofs.Ytkkippfikfjdpaa
end
