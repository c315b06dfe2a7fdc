/- May of the document -/
import Derived.Test.YtoagmdgmbkpghaaM24
namespace Go.Proofs.Ytoagmdgmbkpghaa
open Go.RowKit
namespace Rg

theorem ex_buildx {ρ : Operand → Value} {o : Oper} {x : Operand} {c : Nat} {w : World} (hc : c < 18446744073709551616) (ho : o.op = .build 24 #[(0, x)]) (hx : ρ x = .int .u64 ((c : Nat) : Int)) : (execOp ρ o).run Try.prog w = .ok (.value (N c)) w := by
  have h1 : wd c 1 = 0 := wd_small c 0 hc
  have h2 : wd c 2 = 0 := wd_small c 1 hc
  have h3 : wd c 3 = 0 := wd_small c 2 hc
  have h4 : wd c 4 = 0 := wd_small c 3 hc
  have h5 : wd c 5 = 0 := wd_small c 4 hc
  have h0 : wd c 0 = c := wd_small0 c hc
  unfold N
  rw [h0, h1, h2, h3, h4, h5]
  simp only [execOp, ho]
  clear h0 h1 h2 h3 h4 h5
  go_simp
set_option maxRecDepth 100000 in
theorem may_1 (n : Nat) (ho : bits BinOp.and IntKind.u64 (wd n 0) 1 = 0) (w : World) :
    Calls Try.prog 5 #[N n] w fun e w' => e = .returned (.bool false) ∧ Below w.heap.size w w' := by
  have H0 : Hid (_ ∧ _) := ⟨Mm.nil w, Below.refl w.heap.size w⟩
  go_enter Try.func5, Try.ntmps5
  refine wp_seq ?_
  refine walk_seq 2 [.made (cells6 n) 24, .quiet (.bool false)] (fun w' => Mm w' []) ?pre1 ?F1 ?hpre1 (fun γ => ?hF1) (by kernel_rfl) ?hL1 ?hS1 ?ho1 ?he1
  case hpre1 =>
    simp only [List.take_succ_cons, List.take_zero]
    exact rfl
  case hF1 =>
    simp only [fill, Kind.val, Act.put, List.setIfInBounds_toArray, List.set_cons_zero, List.set_cons_succ]
    exact rfl
  case hL1 => exact trivial
  case hS1 => exact fun w' hb => H0.out.1.below hb
  case ho1 =>
    refine AllOk.cons ?_ ?_
    · exact fun γ => ⟨rfl, fun w' => ex_box6 rfl rfl⟩
    refine AllOk.cons ?_ ?_
    · exact fun γ => ⟨rfl, fun w' _ => rfl⟩
    exact trivial
  intro γ w1 l hM hl
  have M1 : Mm w1 [(γ 0, cells6 n)] := H0.out.1.grow hM (Nat.le_refl _) hl [0] rfl (by decide)
  have B1 : Below w.heap.size w w1 := H0.out.2.trans (hM.below.mono H0.out.2.size)
  have o1_0 : Hid (w.heap.size ≤ γ 0) := Nat.le_trans H0.out.2.size (hM.fin (Nat.le_refl _) hl (i := 0) rfl).2.1
  clear hM hl l
  generalize γ 0 = γ1_0 at M1 o1_0 ⊢
  clear γ
  have H1 : Hid (_ ∧ _) := ⟨M1, B1⟩
  clear M1 B1
  refine rest_at (l := []) rfl ?_
  refine rest_nil ?_
  refine then_normal ?_
  refine wp_seq ?_
  refine walk_seq 16 [.quiet (PT γ1_0 0), .quiet (.int .u64 (wd n 0)), .quiet (.int .u64 0), .quiet (.bool false), .quiet (.bool false), .gone, .gone, .gone, .quiet (.bool false), .quiet (.bool false), .gone, .gone, .gone, .gone, .quiet (.bool false), .quiet (.bool false)] (fun w' => Mm w' [(γ1_0, cells6 n)]) ?pre2 ?F2 ?hpre2 (fun γ => ?hF2) (by kernel_rfl) ?hL2 ?hS2 ?ho2 ?he2
  case hpre2 =>
    simp only [List.take_succ_cons, List.take_zero]
    exact rfl
  case hF2 =>
    simp only [fill, Kind.val, Act.put, List.setIfInBounds_toArray, List.set_cons_zero, List.set_cons_succ]
    exact rfl
  case hL2 => exact trivial
  case hS2 => exact fun w' hb => H1.out.1.below hb
  case ho2 =>
    refine AllOk.cons ?_ ?_
    · (refine fun γ => ⟨rfl, fun w' h => ?_⟩; clear h; go_simp)
    refine AllOk.cons ?_ ?_
    · exact fun γ => ⟨rfl, fun w' h => ex_load1 h 0 rfl rfl rfl rfl⟩
    refine AllOk.cons ?_ ?_
    · (refine fun γ => ⟨rfl, fun w' h => ?_⟩; clear h; go_simp)
    refine AllOk.cons ?_ ?_
    · (refine fun γ => ⟨rfl, fun w' h => ?_⟩; clear h; go_simp)
    refine AllOk.cons ?_ ?_
    · exact fun γ => ⟨rfl, fun w' _ => rfl⟩
    refine AllOk.cons ?_ ?_
    · exact fun γ => rfl
    refine AllOk.cons ?_ ?_
    · exact fun γ => rfl
    refine AllOk.cons ?_ ?_
    · exact fun γ => rfl
    refine AllOk.cons ?_ ?_
    · (refine fun γ => ⟨rfl, fun w' h => ?_⟩; clear h; go_simp)
    refine AllOk.cons ?_ ?_
    · exact fun γ => ⟨rfl, fun w' _ => rfl⟩
    refine AllOk.cons ?_ ?_
    · exact fun γ => rfl
    refine AllOk.cons ?_ ?_
    · exact fun γ => rfl
    refine AllOk.cons ?_ ?_
    · exact fun γ => rfl
    refine AllOk.cons ?_ ?_
    · exact fun γ => rfl
    refine AllOk.cons ?_ ?_
    · (refine fun γ => ⟨rfl, fun w' h => ?_⟩; clear h; go_simp)
    refine AllOk.cons ?_ ?_
    · exact fun γ => ⟨rfl, fun w' _ => rfl⟩
    exact trivial
  intro γ w2 l hM hl
  have M2 : Mm w2 [(γ1_0, cells6 n)] := H1.out.1.grow hM (Nat.le_refl _) hl [] rfl (by decide)
  have B2 : Below w.heap.size w w2 := H1.out.2.trans (hM.below.mono H1.out.2.size)
  clear hM hl l H1
  clear γ
  have H2 : Hid (_ ∧ _) := ⟨M2, B2⟩
  clear M2 B2
  refine rest_at (l := []) rfl ?_
  refine rest_nil ?_
  refine then_normal ?_
  refine wp_ret ?_
  repeat (first | refine then_ret ?_ | refine block_ret ?_)
  refine bodyPost_ret (v := .bool false) (by simp [results, Try.results5, go_sem, *]) rfl ?_
  exact ⟨rfl, H2.out.2⟩
set_option maxRecDepth 100000 in
theorem may_2 (n : Nat) (L : Int) (ho : bits BinOp.and IntKind.u64 (wd n 0) 1 = 1) (hL : ¬ L ≤ 382)
    (c37 : ∀ w, Calls Try.prog 4 #[N n] w fun e w' => e = .returned (.int .i64 L) ∧ Below w.heap.size w w') (w : World) :
    Calls Try.prog 5 #[N n] w fun e w' => e = .returned (.bool false) ∧ Below w.heap.size w w' := by
  have H0 : Hid (_ ∧ _) := ⟨Mm.nil w, Below.refl w.heap.size w⟩
  have C37 : Hid _ := c37
  clear c37
  go_enter Try.func5, Try.ntmps5
  refine wp_seq ?_
  refine walk_seq 2 [.made (cells6 n) 24, .quiet (.bool false)] (fun w' => Mm w' []) ?pre1 ?F1 ?hpre1 (fun γ => ?hF1) (by kernel_rfl) ?hL1 ?hS1 ?ho1 ?he1
  case hpre1 =>
    simp only [List.take_succ_cons, List.take_zero]
    exact rfl
  case hF1 =>
    simp only [fill, Kind.val, Act.put, List.setIfInBounds_toArray, List.set_cons_zero, List.set_cons_succ]
    exact rfl
  case hL1 => exact trivial
  case hS1 => exact fun w' hb => H0.out.1.below hb
  case ho1 =>
    refine AllOk.cons ?_ ?_
    · exact fun γ => ⟨rfl, fun w' => ex_box6 rfl rfl⟩
    refine AllOk.cons ?_ ?_
    · exact fun γ => ⟨rfl, fun w' _ => rfl⟩
    exact trivial
  intro γ w1 l hM hl
  have M1 : Mm w1 [(γ 0, cells6 n)] := H0.out.1.grow hM (Nat.le_refl _) hl [0] rfl (by decide)
  have B1 : Below w.heap.size w w1 := H0.out.2.trans (hM.below.mono H0.out.2.size)
  have o1_0 : Hid (w.heap.size ≤ γ 0) := Nat.le_trans H0.out.2.size (hM.fin (Nat.le_refl _) hl (i := 0) rfl).2.1
  clear hM hl l
  generalize γ 0 = γ1_0 at M1 o1_0 ⊢
  clear γ
  have H1 : Hid (_ ∧ _) := ⟨M1, B1⟩
  clear M1 B1
  refine rest_at (l := []) rfl ?_
  refine rest_nil ?_
  refine then_normal ?_
  refine wp_seq ?_
  refine walk_seq 16 [.quiet (PT γ1_0 0), .quiet (.int .u64 (wd n 0)), .quiet (.int .u64 1), .quiet (.bool true), .quiet (.bool true), .quiet (N n), .call (.int .i64 L), .quiet (.bool false), .quiet (.bool false), .quiet (.bool false), .gone, .gone, .gone, .gone, .quiet (.bool false), .quiet (.bool false)] (fun w' => Mm w' [(γ1_0, cells6 n)]) ?pre2 ?F2 ?hpre2 (fun γ => ?hF2) (by kernel_rfl) ?hL2 ?hS2 ?ho2 ?he2
  case hpre2 =>
    simp only [List.take_succ_cons, List.take_zero]
    exact rfl
  case hF2 =>
    simp only [fill, Kind.val, Act.put, List.setIfInBounds_toArray, List.set_cons_zero, List.set_cons_succ]
    exact rfl
  case hL2 => exact trivial
  case hS2 => exact fun w' hb => H1.out.1.below hb
  case ho2 =>
    refine AllOk.cons ?_ ?_
    · (refine fun γ => ⟨rfl, fun w' h => ?_⟩; clear h; go_simp)
    refine AllOk.cons ?_ ?_
    · exact fun γ => ⟨rfl, fun w' h => ex_load1 h 0 rfl rfl rfl rfl⟩
    refine AllOk.cons ?_ ?_
    · (refine fun γ => ⟨rfl, fun w' h => ?_⟩; clear h; go_simp)
    refine AllOk.cons ?_ ?_
    · (refine fun γ => ⟨rfl, fun w' h => ?_⟩; clear h; go_simp)
    refine AllOk.cons ?_ ?_
    · exact fun γ => ⟨rfl, fun w' _ => rfl⟩
    refine AllOk.cons ?_ ?_
    · exact fun γ => ⟨rfl, fun w' h => ex_load6 h 0 rfl rfl rfl rfl⟩
    refine AllOk.cons ?_ ?_
    · exact fun γ => ⟨rfl, fun w' h => ⟨4, #[N n], exec_call rfl call4 rfl (by simp only [List.map_toArray, List.map_cons, List.map_nil]; rfl), C37.out w'⟩⟩
    refine AllOk.cons ?_ ?_
    · (refine fun γ => ⟨rfl, fun w' h => ?_⟩; clear h; go_simp)
    refine AllOk.cons ?_ ?_
    · (refine fun γ => ⟨rfl, fun w' h => ?_⟩; clear h; go_simp)
    refine AllOk.cons ?_ ?_
    · exact fun γ => ⟨rfl, fun w' _ => rfl⟩
    refine AllOk.cons ?_ ?_
    · exact fun γ => rfl
    refine AllOk.cons ?_ ?_
    · exact fun γ => rfl
    refine AllOk.cons ?_ ?_
    · exact fun γ => rfl
    refine AllOk.cons ?_ ?_
    · exact fun γ => rfl
    refine AllOk.cons ?_ ?_
    · (refine fun γ => ⟨rfl, fun w' h => ?_⟩; clear h; go_simp)
    refine AllOk.cons ?_ ?_
    · exact fun γ => ⟨rfl, fun w' _ => rfl⟩
    exact trivial
  intro γ w2 l hM hl
  have M2 : Mm w2 [(γ1_0, cells6 n)] := H1.out.1.grow hM (Nat.le_refl _) hl [] rfl (by decide)
  have B2 : Below w.heap.size w w2 := H1.out.2.trans (hM.below.mono H1.out.2.size)
  clear hM hl l H1
  clear γ
  have H2 : Hid (_ ∧ _) := ⟨M2, B2⟩
  clear M2 B2
  refine rest_at (l := []) rfl ?_
  refine rest_nil ?_
  refine then_normal ?_
  refine wp_ret ?_
  repeat (first | refine then_ret ?_ | refine block_ret ?_)
  refine bodyPost_ret (v := .bool false) (by simp [results, Try.results5, go_sem, *]) rfl ?_
  exact ⟨rfl, H2.out.2⟩
set_option maxRecDepth 100000 in
theorem may_3 (n k3 : Nat) (L K : Int) (hk3 : k3 = 3) (ho : bits BinOp.and IntKind.u64 (wd n 0) 1 = 1) (hL : L ≤ 382)
    (c37 : ∀ w, Calls Try.prog 4 #[N n] w fun e w' => e = .returned (.int .i64 L) ∧ Below w.heap.size w w') (hK : ¬ 0 ≤ K)
    (c38 : ∀ w, Calls Try.prog 10 #[N n, N k3] w fun e w' => e = .returned (.int .i64 K) ∧ Below w.heap.size w w') (w : World) :
    Calls Try.prog 5 #[N n] w fun e w' => e = .returned (.bool false) ∧ Below w.heap.size w w' := by
  have H0 : Hid (_ ∧ _) := ⟨Mm.nil w, Below.refl w.heap.size w⟩
  have C37 : Hid _ := c37
  have C38 : Hid _ := c38
  have HK : Hid _ := hk3
  clear hk3 c37 c38
  go_enter Try.func5, Try.ntmps5
  refine wp_seq ?_
  refine walk_seq 2 [.made (cells6 n) 24, .quiet (.bool false)] (fun w' => Mm w' []) ?pre1 ?F1 ?hpre1 (fun γ => ?hF1) (by kernel_rfl) ?hL1 ?hS1 ?ho1 ?he1
  case hpre1 =>
    simp only [List.take_succ_cons, List.take_zero]
    exact rfl
  case hF1 =>
    simp only [fill, Kind.val, Act.put, List.setIfInBounds_toArray, List.set_cons_zero, List.set_cons_succ]
    exact rfl
  case hL1 => exact trivial
  case hS1 => exact fun w' hb => H0.out.1.below hb
  case ho1 =>
    refine AllOk.cons ?_ ?_
    · exact fun γ => ⟨rfl, fun w' => ex_box6 rfl rfl⟩
    refine AllOk.cons ?_ ?_
    · exact fun γ => ⟨rfl, fun w' _ => rfl⟩
    exact trivial
  intro γ w1 l hM hl
  have M1 : Mm w1 [(γ 0, cells6 n)] := H0.out.1.grow hM (Nat.le_refl _) hl [0] rfl (by decide)
  have B1 : Below w.heap.size w w1 := H0.out.2.trans (hM.below.mono H0.out.2.size)
  have o1_0 : Hid (w.heap.size ≤ γ 0) := Nat.le_trans H0.out.2.size (hM.fin (Nat.le_refl _) hl (i := 0) rfl).2.1
  clear hM hl l
  generalize γ 0 = γ1_0 at M1 o1_0 ⊢
  clear γ
  have H1 : Hid (_ ∧ _) := ⟨M1, B1⟩
  clear M1 B1
  refine rest_at (l := []) rfl ?_
  refine rest_nil ?_
  refine then_normal ?_
  refine wp_seq ?_
  refine walk_seq 16 [.quiet (PT γ1_0 0), .quiet (.int .u64 (wd n 0)), .quiet (.int .u64 1), .quiet (.bool true), .quiet (.bool true), .quiet (N n), .call (.int .i64 L), .quiet (.bool true), .quiet (.bool true), .quiet (.bool true), .quiet (N n), .quiet (N k3), .call (.int .i64 K), .quiet (.bool false), .quiet (.bool false), .quiet (.bool false)] (fun w' => Mm w' [(γ1_0, cells6 n)]) ?pre2 ?F2 ?hpre2 (fun γ => ?hF2) (by kernel_rfl) ?hL2 ?hS2 ?ho2 ?he2
  case hpre2 =>
    simp only [List.take_succ_cons, List.take_zero]
    exact rfl
  case hF2 =>
    simp only [fill, Kind.val, Act.put, List.setIfInBounds_toArray, List.set_cons_zero, List.set_cons_succ]
    exact rfl
  case hL2 => exact trivial
  case hS2 => exact fun w' hb => H1.out.1.below hb
  case ho2 =>
    refine AllOk.cons ?_ ?_
    · (refine fun γ => ⟨rfl, fun w' h => ?_⟩; clear h; go_simp)
    refine AllOk.cons ?_ ?_
    · exact fun γ => ⟨rfl, fun w' h => ex_load1 h 0 rfl rfl rfl rfl⟩
    refine AllOk.cons ?_ ?_
    · (refine fun γ => ⟨rfl, fun w' h => ?_⟩; clear h; go_simp)
    refine AllOk.cons ?_ ?_
    · (refine fun γ => ⟨rfl, fun w' h => ?_⟩; clear h; go_simp)
    refine AllOk.cons ?_ ?_
    · exact fun γ => ⟨rfl, fun w' _ => rfl⟩
    refine AllOk.cons ?_ ?_
    · exact fun γ => ⟨rfl, fun w' h => ex_load6 h 0 rfl rfl rfl rfl⟩
    refine AllOk.cons ?_ ?_
    · exact fun γ => ⟨rfl, fun w' h => ⟨4, #[N n], exec_call rfl call4 rfl (by simp only [List.map_toArray, List.map_cons, List.map_nil]; rfl), C37.out w'⟩⟩
    refine AllOk.cons ?_ ?_
    · (refine fun γ => ⟨rfl, fun w' h => ?_⟩; clear h; go_simp)
    refine AllOk.cons ?_ ?_
    · (refine fun γ => ⟨rfl, fun w' h => ?_⟩; clear h; go_simp)
    refine AllOk.cons ?_ ?_
    · exact fun γ => ⟨rfl, fun w' _ => rfl⟩
    refine AllOk.cons ?_ ?_
    · exact fun γ => ⟨rfl, fun w' h => ex_load6 h 0 rfl rfl rfl rfl⟩
    refine AllOk.cons ?_ ?_
    · exact fun γ => ⟨rfl, fun w' _ => ex_build3 HK.out rfl rfl⟩
    refine AllOk.cons ?_ ?_
    · exact fun γ => ⟨rfl, fun w' h => ⟨10, #[N n, N k3], exec_call rfl call10 rfl (by simp only [List.map_toArray, List.map_cons, List.map_nil]; rfl), C38.out w'⟩⟩
    refine AllOk.cons ?_ ?_
    · (refine fun γ => ⟨rfl, fun w' h => ?_⟩; clear h; go_simp)
    refine AllOk.cons ?_ ?_
    · (refine fun γ => ⟨rfl, fun w' h => ?_⟩; clear h; go_simp)
    refine AllOk.cons ?_ ?_
    · exact fun γ => ⟨rfl, fun w' _ => rfl⟩
    exact trivial
  intro γ w2 l hM hl
  have M2 : Mm w2 [(γ1_0, cells6 n)] := H1.out.1.grow hM (Nat.le_refl _) hl [] rfl (by decide)
  have B2 : Below w.heap.size w w2 := H1.out.2.trans (hM.below.mono H1.out.2.size)
  clear hM hl l H1
  clear γ
  have H2 : Hid (_ ∧ _) := ⟨M2, B2⟩
  clear M2 B2
  refine rest_at (l := []) rfl ?_
  refine rest_nil ?_
  refine then_normal ?_
  refine wp_ret ?_
  repeat (first | refine then_ret ?_ | refine block_ret ?_)
  refine bodyPost_ret (v := .bool false) (by simp [results, Try.results5, go_sem, *]) rfl ?_
  exact ⟨rfl, H2.out.2⟩
set_option maxRecDepth 100000 in
theorem may_4 (n k3 : Nat) (L K : Int) (hk3 : k3 = 3) (ho : bits BinOp.and IntKind.u64 (wd n 0) 1 = 1) (hL : L ≤ 382)
    (c37 : ∀ w, Calls Try.prog 4 #[N n] w fun e w' => e = .returned (.int .i64 L) ∧ Below w.heap.size w w') (hK : 0 ≤ K)
    (c38 : ∀ w, Calls Try.prog 10 #[N n, N k3] w fun e w' => e = .returned (.int .i64 K) ∧ Below w.heap.size w w') (w : World) :
    Calls Try.prog 5 #[N n] w fun e w' => e = .returned (.bool true) ∧ Below w.heap.size w w' := by
  have H0 : Hid (_ ∧ _) := ⟨Mm.nil w, Below.refl w.heap.size w⟩
  have C37 : Hid _ := c37
  have C38 : Hid _ := c38
  have HK : Hid _ := hk3
  clear hk3 c37 c38
  go_enter Try.func5, Try.ntmps5
  refine wp_seq ?_
  refine walk_seq 2 [.made (cells6 n) 24, .quiet (.bool false)] (fun w' => Mm w' []) ?pre1 ?F1 ?hpre1 (fun γ => ?hF1) (by kernel_rfl) ?hL1 ?hS1 ?ho1 ?he1
  case hpre1 =>
    simp only [List.take_succ_cons, List.take_zero]
    exact rfl
  case hF1 =>
    simp only [fill, Kind.val, Act.put, List.setIfInBounds_toArray, List.set_cons_zero, List.set_cons_succ]
    exact rfl
  case hL1 => exact trivial
  case hS1 => exact fun w' hb => H0.out.1.below hb
  case ho1 =>
    refine AllOk.cons ?_ ?_
    · exact fun γ => ⟨rfl, fun w' => ex_box6 rfl rfl⟩
    refine AllOk.cons ?_ ?_
    · exact fun γ => ⟨rfl, fun w' _ => rfl⟩
    exact trivial
  intro γ w1 l hM hl
  have M1 : Mm w1 [(γ 0, cells6 n)] := H0.out.1.grow hM (Nat.le_refl _) hl [0] rfl (by decide)
  have B1 : Below w.heap.size w w1 := H0.out.2.trans (hM.below.mono H0.out.2.size)
  have o1_0 : Hid (w.heap.size ≤ γ 0) := Nat.le_trans H0.out.2.size (hM.fin (Nat.le_refl _) hl (i := 0) rfl).2.1
  clear hM hl l
  generalize γ 0 = γ1_0 at M1 o1_0 ⊢
  clear γ
  have H1 : Hid (_ ∧ _) := ⟨M1, B1⟩
  clear M1 B1
  refine rest_at (l := []) rfl ?_
  refine rest_nil ?_
  refine then_normal ?_
  refine wp_seq ?_
  refine walk_seq 16 [.quiet (PT γ1_0 0), .quiet (.int .u64 (wd n 0)), .quiet (.int .u64 1), .quiet (.bool true), .quiet (.bool true), .quiet (N n), .call (.int .i64 L), .quiet (.bool true), .quiet (.bool true), .quiet (.bool true), .quiet (N n), .quiet (N k3), .call (.int .i64 K), .quiet (.bool true), .quiet (.bool true), .quiet (.bool true)] (fun w' => Mm w' [(γ1_0, cells6 n)]) ?pre2 ?F2 ?hpre2 (fun γ => ?hF2) (by kernel_rfl) ?hL2 ?hS2 ?ho2 ?he2
  case hpre2 =>
    simp only [List.take_succ_cons, List.take_zero]
    exact rfl
  case hF2 =>
    simp only [fill, Kind.val, Act.put, List.setIfInBounds_toArray, List.set_cons_zero, List.set_cons_succ]
    exact rfl
  case hL2 => exact trivial
  case hS2 => exact fun w' hb => H1.out.1.below hb
  case ho2 =>
    refine AllOk.cons ?_ ?_
    · (refine fun γ => ⟨rfl, fun w' h => ?_⟩; clear h; go_simp)
    refine AllOk.cons ?_ ?_
    · exact fun γ => ⟨rfl, fun w' h => ex_load1 h 0 rfl rfl rfl rfl⟩
    refine AllOk.cons ?_ ?_
    · (refine fun γ => ⟨rfl, fun w' h => ?_⟩; clear h; go_simp)
    refine AllOk.cons ?_ ?_
    · (refine fun γ => ⟨rfl, fun w' h => ?_⟩; clear h; go_simp)
    refine AllOk.cons ?_ ?_
    · exact fun γ => ⟨rfl, fun w' _ => rfl⟩
    refine AllOk.cons ?_ ?_
    · exact fun γ => ⟨rfl, fun w' h => ex_load6 h 0 rfl rfl rfl rfl⟩
    refine AllOk.cons ?_ ?_
    · exact fun γ => ⟨rfl, fun w' h => ⟨4, #[N n], exec_call rfl call4 rfl (by simp only [List.map_toArray, List.map_cons, List.map_nil]; rfl), C37.out w'⟩⟩
    refine AllOk.cons ?_ ?_
    · (refine fun γ => ⟨rfl, fun w' h => ?_⟩; clear h; go_simp)
    refine AllOk.cons ?_ ?_
    · (refine fun γ => ⟨rfl, fun w' h => ?_⟩; clear h; go_simp)
    refine AllOk.cons ?_ ?_
    · exact fun γ => ⟨rfl, fun w' _ => rfl⟩
    refine AllOk.cons ?_ ?_
    · exact fun γ => ⟨rfl, fun w' h => ex_load6 h 0 rfl rfl rfl rfl⟩
    refine AllOk.cons ?_ ?_
    · exact fun γ => ⟨rfl, fun w' _ => ex_build3 HK.out rfl rfl⟩
    refine AllOk.cons ?_ ?_
    · exact fun γ => ⟨rfl, fun w' h => ⟨10, #[N n, N k3], exec_call rfl call10 rfl (by simp only [List.map_toArray, List.map_cons, List.map_nil]; rfl), C38.out w'⟩⟩
    refine AllOk.cons ?_ ?_
    · (refine fun γ => ⟨rfl, fun w' h => ?_⟩; clear h; go_simp)
    refine AllOk.cons ?_ ?_
    · (refine fun γ => ⟨rfl, fun w' h => ?_⟩; clear h; go_simp)
    refine AllOk.cons ?_ ?_
    · exact fun γ => ⟨rfl, fun w' _ => rfl⟩
    exact trivial
  intro γ w2 l hM hl
  have M2 : Mm w2 [(γ1_0, cells6 n)] := H1.out.1.grow hM (Nat.le_refl _) hl [] rfl (by decide)
  have B2 : Below w.heap.size w w2 := H1.out.2.trans (hM.below.mono H1.out.2.size)
  clear hM hl l H1
  clear γ
  have H2 : Hid (_ ∧ _) := ⟨M2, B2⟩
  clear M2 B2
  refine rest_at (l := []) rfl ?_
  refine rest_nil ?_
  refine then_normal ?_
  refine wp_ret ?_
  repeat (first | refine then_ret ?_ | refine block_ret ?_)
  refine bodyPost_ret (v := .bool true) (by simp [results, Try.results5, go_sem, *]) rfl ?_
  exact ⟨rfl, H2.out.2⟩
end Rg
end Go.Proofs.Ytoagmdgmbkpghaa
