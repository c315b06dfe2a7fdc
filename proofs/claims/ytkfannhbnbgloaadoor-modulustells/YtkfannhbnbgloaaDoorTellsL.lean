/- M25, M26, M27, TellsL0 in one text -/
import Derived.Test.YtkfannhbnbgloaaDoorTT
import Derived.Test.YtkfannhbnbgloaaDoorL0
import Derived.Test.YtkfannhbnbgloaaDoorCards
import Derived.ChangeMaps5
import Derived.SevenTiedAt
/- May of the document -/
namespace Go.Proofs.YtkfannhbnbgloaaDoor
open Go.RowKit
namespace Rg

theorem ex_buildx {ρ : Operand → Value} {o : Oper} {x : Operand} {c : Nat} {w : World} (hc : c < 18446744073709551616) (ho : o.op = .build 24 #[(0, x)]) (hx : ρ x = .int .u64 ((c : Nat) : Int)) : (execOp ρ o).run Tryd.prog w = .ok (.value (N c)) w := by
  have h1 : wd c 1 = 0 := wd_small c 0 hc
  have h2 : wd c 2 = 0 := wd_small c 1 hc
  have h3 : wd c 3 = 0 := wd_small c 2 hc
  have h4 : wd c 4 = 0 := wd_small c 3 hc
  have h5 : wd c 5 = 0 := wd_small c 4 hc
  have h0 : wd c 0 = c := wd_small0 c hc
  unfold N
  rw [h0, h1, h2, h3, h4, h5]
  simp only [execOp, ho]
  clear h0 h1 h2 h3 h4 h5
  go_simp
set_option maxRecDepth 100000 in
theorem may_1 (n : Nat) (ho : bits BinOp.and IntKind.u64 (wd n 0) 1 = 0) (w : World) :
    Calls Tryd.prog 9 #[N n] w fun e w' => e = .returned (.bool false) ∧ Below w.heap.size w w' := by
  have H0 : Hid (_ ∧ _) := ⟨Mm.nil w, Below.refl w.heap.size w⟩
  go_enter Tryd.func9, Tryd.ntmps9
  refine wp_seq ?_
  refine walk_seq 2 [.made (cells6 n) 24, .quiet (.bool false)] (fun w' => Mm w' []) ?pre1 ?F1 ?hpre1 (fun γ => ?hF1) (by kernel_rfl) ?hL1 ?hS1 ?ho1 ?he1
  case hpre1 =>
    simp only [List.take_succ_cons, List.take_zero]
    exact rfl
  case hF1 =>
    simp only [fill, Kind.val, Act.put, List.setIfInBounds_toArray, List.set_cons_zero, List.set_cons_succ]
    exact rfl
  case hL1 => exact trivial
  case hS1 => exact fun w' hb => H0.out.1.below hb
  case ho1 =>
    refine AllOk.cons ?_ ?_
    · exact fun γ => ⟨rfl, fun w' => ex_box6 rfl rfl⟩
    refine AllOk.cons ?_ ?_
    · exact fun γ => ⟨rfl, fun w' _ => rfl⟩
    exact trivial
  intro γ w1 l hM hl
  have M1 : Mm w1 [(γ 0, cells6 n)] := H0.out.1.grow hM (Nat.le_refl _) hl [0] rfl (by decide)
  have B1 : Below w.heap.size w w1 := H0.out.2.trans (hM.below.mono H0.out.2.size)
  have o1_0 : Hid (w.heap.size ≤ γ 0) := Nat.le_trans H0.out.2.size (hM.fin (Nat.le_refl _) hl (i := 0) rfl).2.1
  clear hM hl l
  generalize γ 0 = γ1_0 at M1 o1_0 ⊢
  clear γ
  have H1 : Hid (_ ∧ _) := ⟨M1, B1⟩
  clear M1 B1
  refine rest_at (l := []) rfl ?_
  refine rest_nil ?_
  refine then_normal ?_
  refine wp_seq ?_
  refine walk_seq 16 [.quiet (PT γ1_0 0), .quiet (.int .u64 (wd n 0)), .quiet (.int .u64 0), .quiet (.bool false), .quiet (.bool false), .gone, .gone, .gone, .quiet (.bool false), .quiet (.bool false), .gone, .gone, .gone, .gone, .quiet (.bool false), .quiet (.bool false)] (fun w' => Mm w' [(γ1_0, cells6 n)]) ?pre2 ?F2 ?hpre2 (fun γ => ?hF2) (by kernel_rfl) ?hL2 ?hS2 ?ho2 ?he2
  case hpre2 =>
    simp only [List.take_succ_cons, List.take_zero]
    exact rfl
  case hF2 =>
    simp only [fill, Kind.val, Act.put, List.setIfInBounds_toArray, List.set_cons_zero, List.set_cons_succ]
    exact rfl
  case hL2 => exact trivial
  case hS2 => exact fun w' hb => H1.out.1.below hb
  case ho2 =>
    refine AllOk.cons ?_ ?_
    · (refine fun γ => ⟨rfl, fun w' h => ?_⟩; clear h; go_simp)
    refine AllOk.cons ?_ ?_
    · exact fun γ => ⟨rfl, fun w' h => ex_load1 h 0 rfl rfl rfl rfl⟩
    refine AllOk.cons ?_ ?_
    · (refine fun γ => ⟨rfl, fun w' h => ?_⟩; clear h; go_simp)
    refine AllOk.cons ?_ ?_
    · (refine fun γ => ⟨rfl, fun w' h => ?_⟩; clear h; go_simp)
    refine AllOk.cons ?_ ?_
    · exact fun γ => ⟨rfl, fun w' _ => rfl⟩
    refine AllOk.cons ?_ ?_
    · exact fun γ => rfl
    refine AllOk.cons ?_ ?_
    · exact fun γ => rfl
    refine AllOk.cons ?_ ?_
    · exact fun γ => rfl
    refine AllOk.cons ?_ ?_
    · (refine fun γ => ⟨rfl, fun w' h => ?_⟩; clear h; go_simp)
    refine AllOk.cons ?_ ?_
    · exact fun γ => ⟨rfl, fun w' _ => rfl⟩
    refine AllOk.cons ?_ ?_
    · exact fun γ => rfl
    refine AllOk.cons ?_ ?_
    · exact fun γ => rfl
    refine AllOk.cons ?_ ?_
    · exact fun γ => rfl
    refine AllOk.cons ?_ ?_
    · exact fun γ => rfl
    refine AllOk.cons ?_ ?_
    · (refine fun γ => ⟨rfl, fun w' h => ?_⟩; clear h; go_simp)
    refine AllOk.cons ?_ ?_
    · exact fun γ => ⟨rfl, fun w' _ => rfl⟩
    exact trivial
  intro γ w2 l hM hl
  have M2 : Mm w2 [(γ1_0, cells6 n)] := H1.out.1.grow hM (Nat.le_refl _) hl [] rfl (by decide)
  have B2 : Below w.heap.size w w2 := H1.out.2.trans (hM.below.mono H1.out.2.size)
  clear hM hl l H1
  clear γ
  have H2 : Hid (_ ∧ _) := ⟨M2, B2⟩
  clear M2 B2
  refine rest_at (l := []) rfl ?_
  refine rest_nil ?_
  refine then_normal ?_
  refine wp_ret ?_
  repeat (first | refine then_ret ?_ | refine block_ret ?_)
  refine bodyPost_ret (v := .bool false) (by simp [results, Tryd.results9, go_sem, *]) rfl ?_
  exact ⟨rfl, H2.out.2⟩
set_option maxRecDepth 100000 in
theorem may_2 (n : Nat) (L : Int) (ho : bits BinOp.and IntKind.u64 (wd n 0) 1 = 1) (hL : ¬ L ≤ 382)
    (c37 : ∀ w, Calls Tryd.prog 37 #[N n] w fun e w' => e = .returned (.int .i64 L) ∧ Below w.heap.size w w') (w : World) :
    Calls Tryd.prog 9 #[N n] w fun e w' => e = .returned (.bool false) ∧ Below w.heap.size w w' := by
  have H0 : Hid (_ ∧ _) := ⟨Mm.nil w, Below.refl w.heap.size w⟩
  have C37 : Hid _ := c37
  clear c37
  go_enter Tryd.func9, Tryd.ntmps9
  refine wp_seq ?_
  refine walk_seq 2 [.made (cells6 n) 24, .quiet (.bool false)] (fun w' => Mm w' []) ?pre1 ?F1 ?hpre1 (fun γ => ?hF1) (by kernel_rfl) ?hL1 ?hS1 ?ho1 ?he1
  case hpre1 =>
    simp only [List.take_succ_cons, List.take_zero]
    exact rfl
  case hF1 =>
    simp only [fill, Kind.val, Act.put, List.setIfInBounds_toArray, List.set_cons_zero, List.set_cons_succ]
    exact rfl
  case hL1 => exact trivial
  case hS1 => exact fun w' hb => H0.out.1.below hb
  case ho1 =>
    refine AllOk.cons ?_ ?_
    · exact fun γ => ⟨rfl, fun w' => ex_box6 rfl rfl⟩
    refine AllOk.cons ?_ ?_
    · exact fun γ => ⟨rfl, fun w' _ => rfl⟩
    exact trivial
  intro γ w1 l hM hl
  have M1 : Mm w1 [(γ 0, cells6 n)] := H0.out.1.grow hM (Nat.le_refl _) hl [0] rfl (by decide)
  have B1 : Below w.heap.size w w1 := H0.out.2.trans (hM.below.mono H0.out.2.size)
  have o1_0 : Hid (w.heap.size ≤ γ 0) := Nat.le_trans H0.out.2.size (hM.fin (Nat.le_refl _) hl (i := 0) rfl).2.1
  clear hM hl l
  generalize γ 0 = γ1_0 at M1 o1_0 ⊢
  clear γ
  have H1 : Hid (_ ∧ _) := ⟨M1, B1⟩
  clear M1 B1
  refine rest_at (l := []) rfl ?_
  refine rest_nil ?_
  refine then_normal ?_
  refine wp_seq ?_
  refine walk_seq 16 [.quiet (PT γ1_0 0), .quiet (.int .u64 (wd n 0)), .quiet (.int .u64 1), .quiet (.bool true), .quiet (.bool true), .quiet (N n), .call (.int .i64 L), .quiet (.bool false), .quiet (.bool false), .quiet (.bool false), .gone, .gone, .gone, .gone, .quiet (.bool false), .quiet (.bool false)] (fun w' => Mm w' [(γ1_0, cells6 n)]) ?pre2 ?F2 ?hpre2 (fun γ => ?hF2) (by kernel_rfl) ?hL2 ?hS2 ?ho2 ?he2
  case hpre2 =>
    simp only [List.take_succ_cons, List.take_zero]
    exact rfl
  case hF2 =>
    simp only [fill, Kind.val, Act.put, List.setIfInBounds_toArray, List.set_cons_zero, List.set_cons_succ]
    exact rfl
  case hL2 => exact trivial
  case hS2 => exact fun w' hb => H1.out.1.below hb
  case ho2 =>
    refine AllOk.cons ?_ ?_
    · (refine fun γ => ⟨rfl, fun w' h => ?_⟩; clear h; go_simp)
    refine AllOk.cons ?_ ?_
    · exact fun γ => ⟨rfl, fun w' h => ex_load1 h 0 rfl rfl rfl rfl⟩
    refine AllOk.cons ?_ ?_
    · (refine fun γ => ⟨rfl, fun w' h => ?_⟩; clear h; go_simp)
    refine AllOk.cons ?_ ?_
    · (refine fun γ => ⟨rfl, fun w' h => ?_⟩; clear h; go_simp)
    refine AllOk.cons ?_ ?_
    · exact fun γ => ⟨rfl, fun w' _ => rfl⟩
    refine AllOk.cons ?_ ?_
    · exact fun γ => ⟨rfl, fun w' h => ex_load6 h 0 rfl rfl rfl rfl⟩
    refine AllOk.cons ?_ ?_
    · exact fun γ => ⟨rfl, fun w' h => ⟨37, #[N n], exec_call rfl call37 rfl (by simp only [List.map_toArray, List.map_cons, List.map_nil]; rfl), C37.out w'⟩⟩
    refine AllOk.cons ?_ ?_
    · (refine fun γ => ⟨rfl, fun w' h => ?_⟩; clear h; go_simp)
    refine AllOk.cons ?_ ?_
    · (refine fun γ => ⟨rfl, fun w' h => ?_⟩; clear h; go_simp)
    refine AllOk.cons ?_ ?_
    · exact fun γ => ⟨rfl, fun w' _ => rfl⟩
    refine AllOk.cons ?_ ?_
    · exact fun γ => rfl
    refine AllOk.cons ?_ ?_
    · exact fun γ => rfl
    refine AllOk.cons ?_ ?_
    · exact fun γ => rfl
    refine AllOk.cons ?_ ?_
    · exact fun γ => rfl
    refine AllOk.cons ?_ ?_
    · (refine fun γ => ⟨rfl, fun w' h => ?_⟩; clear h; go_simp)
    refine AllOk.cons ?_ ?_
    · exact fun γ => ⟨rfl, fun w' _ => rfl⟩
    exact trivial
  intro γ w2 l hM hl
  have M2 : Mm w2 [(γ1_0, cells6 n)] := H1.out.1.grow hM (Nat.le_refl _) hl [] rfl (by decide)
  have B2 : Below w.heap.size w w2 := H1.out.2.trans (hM.below.mono H1.out.2.size)
  clear hM hl l H1
  clear γ
  have H2 : Hid (_ ∧ _) := ⟨M2, B2⟩
  clear M2 B2
  refine rest_at (l := []) rfl ?_
  refine rest_nil ?_
  refine then_normal ?_
  refine wp_ret ?_
  repeat (first | refine then_ret ?_ | refine block_ret ?_)
  refine bodyPost_ret (v := .bool false) (by simp [results, Tryd.results9, go_sem, *]) rfl ?_
  exact ⟨rfl, H2.out.2⟩
set_option maxRecDepth 100000 in
theorem may_3 (n k3 : Nat) (L K : Int) (hk3 : k3 = 3) (ho : bits BinOp.and IntKind.u64 (wd n 0) 1 = 1) (hL : L ≤ 382)
    (c37 : ∀ w, Calls Tryd.prog 37 #[N n] w fun e w' => e = .returned (.int .i64 L) ∧ Below w.heap.size w w') (hK : ¬ 0 ≤ K)
    (c38 : ∀ w, Calls Tryd.prog 38 #[N n, N k3] w fun e w' => e = .returned (.int .i64 K) ∧ Below w.heap.size w w') (w : World) :
    Calls Tryd.prog 9 #[N n] w fun e w' => e = .returned (.bool false) ∧ Below w.heap.size w w' := by
  have H0 : Hid (_ ∧ _) := ⟨Mm.nil w, Below.refl w.heap.size w⟩
  have C37 : Hid _ := c37
  have C38 : Hid _ := c38
  have HK : Hid _ := hk3
  clear hk3 c37 c38
  go_enter Tryd.func9, Tryd.ntmps9
  refine wp_seq ?_
  refine walk_seq 2 [.made (cells6 n) 24, .quiet (.bool false)] (fun w' => Mm w' []) ?pre1 ?F1 ?hpre1 (fun γ => ?hF1) (by kernel_rfl) ?hL1 ?hS1 ?ho1 ?he1
  case hpre1 =>
    simp only [List.take_succ_cons, List.take_zero]
    exact rfl
  case hF1 =>
    simp only [fill, Kind.val, Act.put, List.setIfInBounds_toArray, List.set_cons_zero, List.set_cons_succ]
    exact rfl
  case hL1 => exact trivial
  case hS1 => exact fun w' hb => H0.out.1.below hb
  case ho1 =>
    refine AllOk.cons ?_ ?_
    · exact fun γ => ⟨rfl, fun w' => ex_box6 rfl rfl⟩
    refine AllOk.cons ?_ ?_
    · exact fun γ => ⟨rfl, fun w' _ => rfl⟩
    exact trivial
  intro γ w1 l hM hl
  have M1 : Mm w1 [(γ 0, cells6 n)] := H0.out.1.grow hM (Nat.le_refl _) hl [0] rfl (by decide)
  have B1 : Below w.heap.size w w1 := H0.out.2.trans (hM.below.mono H0.out.2.size)
  have o1_0 : Hid (w.heap.size ≤ γ 0) := Nat.le_trans H0.out.2.size (hM.fin (Nat.le_refl _) hl (i := 0) rfl).2.1
  clear hM hl l
  generalize γ 0 = γ1_0 at M1 o1_0 ⊢
  clear γ
  have H1 : Hid (_ ∧ _) := ⟨M1, B1⟩
  clear M1 B1
  refine rest_at (l := []) rfl ?_
  refine rest_nil ?_
  refine then_normal ?_
  refine wp_seq ?_
  refine walk_seq 16 [.quiet (PT γ1_0 0), .quiet (.int .u64 (wd n 0)), .quiet (.int .u64 1), .quiet (.bool true), .quiet (.bool true), .quiet (N n), .call (.int .i64 L), .quiet (.bool true), .quiet (.bool true), .quiet (.bool true), .quiet (N n), .quiet (N k3), .call (.int .i64 K), .quiet (.bool false), .quiet (.bool false), .quiet (.bool false)] (fun w' => Mm w' [(γ1_0, cells6 n)]) ?pre2 ?F2 ?hpre2 (fun γ => ?hF2) (by kernel_rfl) ?hL2 ?hS2 ?ho2 ?he2
  case hpre2 =>
    simp only [List.take_succ_cons, List.take_zero]
    exact rfl
  case hF2 =>
    simp only [fill, Kind.val, Act.put, List.setIfInBounds_toArray, List.set_cons_zero, List.set_cons_succ]
    exact rfl
  case hL2 => exact trivial
  case hS2 => exact fun w' hb => H1.out.1.below hb
  case ho2 =>
    refine AllOk.cons ?_ ?_
    · (refine fun γ => ⟨rfl, fun w' h => ?_⟩; clear h; go_simp)
    refine AllOk.cons ?_ ?_
    · exact fun γ => ⟨rfl, fun w' h => ex_load1 h 0 rfl rfl rfl rfl⟩
    refine AllOk.cons ?_ ?_
    · (refine fun γ => ⟨rfl, fun w' h => ?_⟩; clear h; go_simp)
    refine AllOk.cons ?_ ?_
    · (refine fun γ => ⟨rfl, fun w' h => ?_⟩; clear h; go_simp)
    refine AllOk.cons ?_ ?_
    · exact fun γ => ⟨rfl, fun w' _ => rfl⟩
    refine AllOk.cons ?_ ?_
    · exact fun γ => ⟨rfl, fun w' h => ex_load6 h 0 rfl rfl rfl rfl⟩
    refine AllOk.cons ?_ ?_
    · exact fun γ => ⟨rfl, fun w' h => ⟨37, #[N n], exec_call rfl call37 rfl (by simp only [List.map_toArray, List.map_cons, List.map_nil]; rfl), C37.out w'⟩⟩
    refine AllOk.cons ?_ ?_
    · (refine fun γ => ⟨rfl, fun w' h => ?_⟩; clear h; go_simp)
    refine AllOk.cons ?_ ?_
    · (refine fun γ => ⟨rfl, fun w' h => ?_⟩; clear h; go_simp)
    refine AllOk.cons ?_ ?_
    · exact fun γ => ⟨rfl, fun w' _ => rfl⟩
    refine AllOk.cons ?_ ?_
    · exact fun γ => ⟨rfl, fun w' h => ex_load6 h 0 rfl rfl rfl rfl⟩
    refine AllOk.cons ?_ ?_
    · exact fun γ => ⟨rfl, fun w' _ => ex_build3 HK.out rfl rfl⟩
    refine AllOk.cons ?_ ?_
    · exact fun γ => ⟨rfl, fun w' h => ⟨38, #[N n, N k3], exec_call rfl call38 rfl (by simp only [List.map_toArray, List.map_cons, List.map_nil]; rfl), C38.out w'⟩⟩
    refine AllOk.cons ?_ ?_
    · (refine fun γ => ⟨rfl, fun w' h => ?_⟩; clear h; go_simp)
    refine AllOk.cons ?_ ?_
    · (refine fun γ => ⟨rfl, fun w' h => ?_⟩; clear h; go_simp)
    refine AllOk.cons ?_ ?_
    · exact fun γ => ⟨rfl, fun w' _ => rfl⟩
    exact trivial
  intro γ w2 l hM hl
  have M2 : Mm w2 [(γ1_0, cells6 n)] := H1.out.1.grow hM (Nat.le_refl _) hl [] rfl (by decide)
  have B2 : Below w.heap.size w w2 := H1.out.2.trans (hM.below.mono H1.out.2.size)
  clear hM hl l H1
  clear γ
  have H2 : Hid (_ ∧ _) := ⟨M2, B2⟩
  clear M2 B2
  refine rest_at (l := []) rfl ?_
  refine rest_nil ?_
  refine then_normal ?_
  refine wp_ret ?_
  repeat (first | refine then_ret ?_ | refine block_ret ?_)
  refine bodyPost_ret (v := .bool false) (by simp [results, Tryd.results9, go_sem, *]) rfl ?_
  exact ⟨rfl, H2.out.2⟩
set_option maxRecDepth 100000 in
theorem may_4 (n k3 : Nat) (L K : Int) (hk3 : k3 = 3) (ho : bits BinOp.and IntKind.u64 (wd n 0) 1 = 1) (hL : L ≤ 382)
    (c37 : ∀ w, Calls Tryd.prog 37 #[N n] w fun e w' => e = .returned (.int .i64 L) ∧ Below w.heap.size w w') (hK : 0 ≤ K)
    (c38 : ∀ w, Calls Tryd.prog 38 #[N n, N k3] w fun e w' => e = .returned (.int .i64 K) ∧ Below w.heap.size w w') (w : World) :
    Calls Tryd.prog 9 #[N n] w fun e w' => e = .returned (.bool true) ∧ Below w.heap.size w w' := by
  have H0 : Hid (_ ∧ _) := ⟨Mm.nil w, Below.refl w.heap.size w⟩
  have C37 : Hid _ := c37
  have C38 : Hid _ := c38
  have HK : Hid _ := hk3
  clear hk3 c37 c38
  go_enter Tryd.func9, Tryd.ntmps9
  refine wp_seq ?_
  refine walk_seq 2 [.made (cells6 n) 24, .quiet (.bool false)] (fun w' => Mm w' []) ?pre1 ?F1 ?hpre1 (fun γ => ?hF1) (by kernel_rfl) ?hL1 ?hS1 ?ho1 ?he1
  case hpre1 =>
    simp only [List.take_succ_cons, List.take_zero]
    exact rfl
  case hF1 =>
    simp only [fill, Kind.val, Act.put, List.setIfInBounds_toArray, List.set_cons_zero, List.set_cons_succ]
    exact rfl
  case hL1 => exact trivial
  case hS1 => exact fun w' hb => H0.out.1.below hb
  case ho1 =>
    refine AllOk.cons ?_ ?_
    · exact fun γ => ⟨rfl, fun w' => ex_box6 rfl rfl⟩
    refine AllOk.cons ?_ ?_
    · exact fun γ => ⟨rfl, fun w' _ => rfl⟩
    exact trivial
  intro γ w1 l hM hl
  have M1 : Mm w1 [(γ 0, cells6 n)] := H0.out.1.grow hM (Nat.le_refl _) hl [0] rfl (by decide)
  have B1 : Below w.heap.size w w1 := H0.out.2.trans (hM.below.mono H0.out.2.size)
  have o1_0 : Hid (w.heap.size ≤ γ 0) := Nat.le_trans H0.out.2.size (hM.fin (Nat.le_refl _) hl (i := 0) rfl).2.1
  clear hM hl l
  generalize γ 0 = γ1_0 at M1 o1_0 ⊢
  clear γ
  have H1 : Hid (_ ∧ _) := ⟨M1, B1⟩
  clear M1 B1
  refine rest_at (l := []) rfl ?_
  refine rest_nil ?_
  refine then_normal ?_
  refine wp_seq ?_
  refine walk_seq 16 [.quiet (PT γ1_0 0), .quiet (.int .u64 (wd n 0)), .quiet (.int .u64 1), .quiet (.bool true), .quiet (.bool true), .quiet (N n), .call (.int .i64 L), .quiet (.bool true), .quiet (.bool true), .quiet (.bool true), .quiet (N n), .quiet (N k3), .call (.int .i64 K), .quiet (.bool true), .quiet (.bool true), .quiet (.bool true)] (fun w' => Mm w' [(γ1_0, cells6 n)]) ?pre2 ?F2 ?hpre2 (fun γ => ?hF2) (by kernel_rfl) ?hL2 ?hS2 ?ho2 ?he2
  case hpre2 =>
    simp only [List.take_succ_cons, List.take_zero]
    exact rfl
  case hF2 =>
    simp only [fill, Kind.val, Act.put, List.setIfInBounds_toArray, List.set_cons_zero, List.set_cons_succ]
    exact rfl
  case hL2 => exact trivial
  case hS2 => exact fun w' hb => H1.out.1.below hb
  case ho2 =>
    refine AllOk.cons ?_ ?_
    · (refine fun γ => ⟨rfl, fun w' h => ?_⟩; clear h; go_simp)
    refine AllOk.cons ?_ ?_
    · exact fun γ => ⟨rfl, fun w' h => ex_load1 h 0 rfl rfl rfl rfl⟩
    refine AllOk.cons ?_ ?_
    · (refine fun γ => ⟨rfl, fun w' h => ?_⟩; clear h; go_simp)
    refine AllOk.cons ?_ ?_
    · (refine fun γ => ⟨rfl, fun w' h => ?_⟩; clear h; go_simp)
    refine AllOk.cons ?_ ?_
    · exact fun γ => ⟨rfl, fun w' _ => rfl⟩
    refine AllOk.cons ?_ ?_
    · exact fun γ => ⟨rfl, fun w' h => ex_load6 h 0 rfl rfl rfl rfl⟩
    refine AllOk.cons ?_ ?_
    · exact fun γ => ⟨rfl, fun w' h => ⟨37, #[N n], exec_call rfl call37 rfl (by simp only [List.map_toArray, List.map_cons, List.map_nil]; rfl), C37.out w'⟩⟩
    refine AllOk.cons ?_ ?_
    · (refine fun γ => ⟨rfl, fun w' h => ?_⟩; clear h; go_simp)
    refine AllOk.cons ?_ ?_
    · (refine fun γ => ⟨rfl, fun w' h => ?_⟩; clear h; go_simp)
    refine AllOk.cons ?_ ?_
    · exact fun γ => ⟨rfl, fun w' _ => rfl⟩
    refine AllOk.cons ?_ ?_
    · exact fun γ => ⟨rfl, fun w' h => ex_load6 h 0 rfl rfl rfl rfl⟩
    refine AllOk.cons ?_ ?_
    · exact fun γ => ⟨rfl, fun w' _ => ex_build3 HK.out rfl rfl⟩
    refine AllOk.cons ?_ ?_
    · exact fun γ => ⟨rfl, fun w' h => ⟨38, #[N n, N k3], exec_call rfl call38 rfl (by simp only [List.map_toArray, List.map_cons, List.map_nil]; rfl), C38.out w'⟩⟩
    refine AllOk.cons ?_ ?_
    · (refine fun γ => ⟨rfl, fun w' h => ?_⟩; clear h; go_simp)
    refine AllOk.cons ?_ ?_
    · (refine fun γ => ⟨rfl, fun w' h => ?_⟩; clear h; go_simp)
    refine AllOk.cons ?_ ?_
    · exact fun γ => ⟨rfl, fun w' _ => rfl⟩
    exact trivial
  intro γ w2 l hM hl
  have M2 : Mm w2 [(γ1_0, cells6 n)] := H1.out.1.grow hM (Nat.le_refl _) hl [] rfl (by decide)
  have B2 : Below w.heap.size w w2 := H1.out.2.trans (hM.below.mono H1.out.2.size)
  clear hM hl l H1
  clear γ
  have H2 : Hid (_ ∧ _) := ⟨M2, B2⟩
  clear M2 B2
  refine rest_at (l := []) rfl ?_
  refine rest_nil ?_
  refine then_normal ?_
  refine wp_ret ?_
  repeat (first | refine then_ret ?_ | refine block_ret ?_)
  refine bodyPost_ret (v := .bool true) (by simp [results, Tryd.results9, go_sem, *]) rfl ?_
  exact ⟨rfl, H2.out.2⟩
end Rg
end Go.Proofs.YtkfannhbnbgloaaDoor
/- The law ModulusTells, walked with contracts as premises -/
namespace Go.Proofs.YtkfannhbnbgloaaDoor
open Go.RowKit
namespace Rg
theorem call9 : ∀ args w, (callFunc 9 args).run Tryd.prog w = .ok (.enter 9 args) w := by intro args w; go_simp
theorem call10 : ∀ args w, (callFunc 10 args).run Tryd.prog w = .ok (.enter 10 args) w := by intro args w; go_simp
theorem call13 : ∀ args w, (callFunc 13 args).run Tryd.prog w = .ok (.enter 13 args) w := by intro args w; go_simp
theorem call24 : ∀ args w, (callFunc 24 args).run Tryd.prog w = .ok (.enter 24 args) w := by intro args w; go_simp
theorem call26 : ∀ args w, (callFunc 26 args).run Tryd.prog w = .ok (.enter 26 args) w := by intro args w; go_simp
set_option maxHeartbeats 4000000 in
set_option maxRecDepth 100000 in
theorem tells_bad (n a b : Nat)
    (c0 : ∀ w, Calls Tryd.prog 8 #[N n] w fun e w' => e = .returned (.tuple #[.pointer none, .int .i64 2]) ∧ Below w.heap.size w w')
    (c1 : ∀ w, Calls Tryd.prog 9 #[N n] w fun e w' => e = .returned (.bool false) ∧ Below w.heap.size w w') (w : World) (hm : Mm w [(0, dtab)]) :
    Calls Tryd.prog 3 #[N n, N a, N b] w fun e w' => e = .returned (.bool true) ∧ Below w.heap.size w w' := by
  have H0 : Hid (_ ∧ _) := ⟨hm, Below.refl w.heap.size w⟩
  clear hm
  have C0 : Hid _ := c0
  have C1 : Hid _ := c1
  clear c0 c1
  go_enter Tryd.func3, Tryd.ntmps3
  refine wp_seq ?_
  refine walk_seq 4 [.made (cells6 n) 24, .made (cells6 a) 24, .made (cells6 b) 24, .quiet (.bool false)] (fun w' => Mm w' [(0, dtab)]) ?pre1 ?F1 ?hpre1 (fun γ => ?hF1) (by kernel_rfl) ?hL1 ?hS1 ?ho1 ?he1
  case hpre1 =>
    simp only [List.take_succ_cons, List.take_zero]
    exact rfl
  case hF1 =>
    simp only [fill, Kind.val, Act.put, List.setIfInBounds_toArray, List.set_cons_zero, List.set_cons_succ]
    exact rfl
  case hL1 => exact trivial
  case hS1 => exact fun w' hb => H0.out.1.below hb
  case ho1 =>
    refine AllOk.cons ?_ ?_
    · exact fun γ => ⟨rfl, fun w' => ex_box6 rfl rfl⟩
    refine AllOk.cons ?_ ?_
    · exact fun γ => ⟨rfl, fun w' => ex_box6 rfl rfl⟩
    refine AllOk.cons ?_ ?_
    · exact fun γ => ⟨rfl, fun w' => ex_box6 rfl rfl⟩
    refine AllOk.cons ?_ ?_
    · exact fun γ => ⟨rfl, fun w' _ => rfl⟩
    exact trivial
  intro γ w1 l hM hl
  have M1 : Mm w1 [(γ 0, cells6 n), (γ 1, cells6 a), (γ 2, cells6 b), (0, dtab)] := H0.out.1.grow hM (Nat.le_refl _) hl [0, 1, 2] rfl (by decide)
  have B1 : Below w.heap.size w w1 := H0.out.2.trans (hM.below.mono H0.out.2.size)
  have o1_0 : Hid (w.heap.size ≤ γ 0) := Nat.le_trans H0.out.2.size (hM.fin (Nat.le_refl _) hl (i := 0) rfl).2.1
  have o1_1 : Hid (w.heap.size ≤ γ 1) := Nat.le_trans H0.out.2.size (hM.fin (Nat.le_refl _) hl (i := 1) rfl).2.1
  have o1_2 : Hid (w.heap.size ≤ γ 2) := Nat.le_trans H0.out.2.size (hM.fin (Nat.le_refl _) hl (i := 2) rfl).2.1
  clear hM hl l
  generalize γ 0 = γ1_0 at M1 o1_0 ⊢
  generalize γ 1 = γ1_1 at M1 o1_1 ⊢
  generalize γ 2 = γ1_2 at M1 o1_2 ⊢
  clear γ
  have H1 : Hid (_ ∧ _) := ⟨M1, B1⟩
  clear M1 B1
  refine rest_at (l := []) rfl ?_
  refine rest_nil ?_
  refine then_normal ?_
  refine wp_seq ?_
  refine walk_seq 7 [.quiet (N n), .call (.tuple #[.pointer none, .int .i64 2]), .quiet (.tuple #[.pointer none, .int .i64 2]), .quiet (.pointer none), .quiet (.int .i64 2), .quiet (.pointer none), .quiet (.int .i64 2)] (fun w' => Mm w' [(γ1_0, cells6 n), (γ1_1, cells6 a), (γ1_2, cells6 b), (0, dtab)]) ?pre2 ?F2 ?hpre2 (fun γ => ?hF2) (by kernel_rfl) ?hL2 ?hS2 ?ho2 ?he2
  case hpre2 =>
    simp only [List.take_succ_cons, List.take_zero]
    exact rfl
  case hF2 =>
    simp only [fill, Kind.val, Act.put, List.setIfInBounds_toArray, List.set_cons_zero, List.set_cons_succ]
    exact rfl
  case hL2 => exact trivial
  case hS2 => exact fun w' hb => H1.out.1.below hb
  case ho2 =>
    refine AllOk.cons ?_ ?_
    · exact fun γ => ⟨rfl, fun w' h => ex_load6 h 0 rfl rfl rfl rfl⟩
    refine AllOk.cons ?_ ?_
    · exact fun γ => ⟨rfl, fun w' h => ⟨8, #[N n], exec_call rfl call8 rfl (by simp only [List.map_toArray, List.map_cons, List.map_nil]; rfl), C0.out w'⟩⟩
    refine AllOk.cons ?_ ?_
    · exact fun γ => ⟨rfl, fun w' _ => rfl⟩
    refine AllOk.cons ?_ ?_
    · (refine fun γ => ⟨rfl, fun w' h => ?_⟩; clear h; go_simp)
    refine AllOk.cons ?_ ?_
    · (refine fun γ => ⟨rfl, fun w' h => ?_⟩; clear h; go_simp)
    refine AllOk.cons ?_ ?_
    · exact fun γ => ⟨rfl, fun w' _ => rfl⟩
    refine AllOk.cons ?_ ?_
    · exact fun γ => ⟨rfl, fun w' _ => rfl⟩
    exact trivial
  intro γ w2 l hM hl
  have M2 : Mm w2 [(γ1_0, cells6 n), (γ1_1, cells6 a), (γ1_2, cells6 b), (0, dtab)] := H1.out.1.grow hM (Nat.le_refl _) hl [] rfl (by decide)
  have B2 : Below w.heap.size w w2 := H1.out.2.trans (hM.below.mono H1.out.2.size)
  clear hM hl l H1
  clear γ
  have H2 : Hid (_ ∧ _) := ⟨M2, B2⟩
  clear M2 B2
  refine rest_at (l := []) rfl ?_
  refine rest_nil ?_
  refine then_normal ?_
  refine wp_seq ?_
  refine wp_seq ?_
  refine walk_seq 3 [.quiet (N n), .call (.bool false), .quiet (.bool true)] (fun w' => Mm w' [(γ1_0, cells6 n), (γ1_1, cells6 a), (γ1_2, cells6 b), (0, dtab)]) ?pre3 ?F3 ?hpre3 (fun γ => ?hF3) (by kernel_rfl) ?hL3 ?hS3 ?ho3 ?he3
  case hpre3 =>
    simp only [List.take_succ_cons, List.take_zero]
    exact rfl
  case hF3 =>
    simp only [fill, Kind.val, Act.put, List.setIfInBounds_toArray, List.set_cons_zero, List.set_cons_succ]
    exact rfl
  case hL3 => exact trivial
  case hS3 => exact fun w' hb => H2.out.1.below hb
  case ho3 =>
    refine AllOk.cons ?_ ?_
    · exact fun γ => ⟨rfl, fun w' h => ex_load6 h 0 rfl rfl rfl rfl⟩
    refine AllOk.cons ?_ ?_
    · exact fun γ => ⟨rfl, fun w' h => ⟨9, #[N n], exec_call rfl call9 rfl (by simp only [List.map_toArray, List.map_cons, List.map_nil]; rfl), C1.out w'⟩⟩
    refine AllOk.cons ?_ ?_
    · (refine fun γ => ⟨rfl, fun w' h => ?_⟩; clear h; go_simp)
    exact trivial
  intro γ w3 l hM hl
  have M3 : Mm w3 [(γ1_0, cells6 n), (γ1_1, cells6 a), (γ1_2, cells6 b), (0, dtab)] := H2.out.1.grow hM (Nat.le_refl _) hl [] rfl (by decide)
  have B3 : Below w.heap.size w w3 := H2.out.2.trans (hM.below.mono H2.out.2.size)
  clear hM hl l H2
  clear γ
  have H3 : Hid (_ ∧ _) := ⟨M3, B3⟩
  clear M3 B3
  refine rest_at (l := []) rfl ?_
  refine rest_nil ?_
  refine then_normal ?_
  refine wp_cond_true rfl ?_
  refine wp_seq ?_
  refine walk_seq 7 [.quiet (.pointer none), .quiet (.bool true), .quiet (.bool true), .quiet (.int .i64 2), .quiet (.bool true), .quiet (.bool true), .quiet (.bool true)] (fun w' => Mm w' [(γ1_0, cells6 n), (γ1_1, cells6 a), (γ1_2, cells6 b), (0, dtab)]) ?pre4 ?F4 ?hpre4 (fun γ => ?hF4) (by kernel_rfl) ?hL4 ?hS4 ?ho4 ?he4
  case hpre4 =>
    simp only [List.take_succ_cons, List.take_zero]
    exact rfl
  case hF4 =>
    simp only [fill, Kind.val, Act.put, List.setIfInBounds_toArray, List.set_cons_zero, List.set_cons_succ]
    exact rfl
  case hL4 => exact trivial
  case hS4 => exact fun w' hb => H3.out.1.below hb
  case ho4 =>
    refine AllOk.cons ?_ ?_
    · exact fun γ => ⟨rfl, fun w' _ => rfl⟩
    refine AllOk.cons ?_ ?_
    · (refine fun γ => ⟨rfl, fun w' h => ?_⟩; clear h; go_simp)
    refine AllOk.cons ?_ ?_
    · exact fun γ => ⟨rfl, fun w' _ => rfl⟩
    refine AllOk.cons ?_ ?_
    · exact fun γ => ⟨rfl, fun w' _ => rfl⟩
    refine AllOk.cons ?_ ?_
    · (refine fun γ => ⟨rfl, fun w' h => ?_⟩; clear h; go_simp)
    refine AllOk.cons ?_ ?_
    · (refine fun γ => ⟨rfl, fun w' h => ?_⟩; clear h; go_simp)
    refine AllOk.cons ?_ ?_
    · exact fun γ => ⟨rfl, fun w' _ => rfl⟩
    exact trivial
  intro γ w4 l hM hl
  have M4 : Mm w4 [(γ1_0, cells6 n), (γ1_1, cells6 a), (γ1_2, cells6 b), (0, dtab)] := H3.out.1.grow hM (Nat.le_refl _) hl [] rfl (by decide)
  have B4 : Below w.heap.size w w4 := H3.out.2.trans (hM.below.mono H3.out.2.size)
  clear hM hl l H3
  clear γ
  have H4 : Hid (_ ∧ _) := ⟨M4, B4⟩
  clear M4 B4
  refine rest_at (l := []) rfl ?_
  refine rest_nil ?_
  refine then_normal ?_
  refine wp_ret ?_
  repeat (first | refine then_ret ?_ | refine block_ret ?_)
  refine bodyPost_ret (v := .bool true) (by simp [results, Tryd.results3, go_sem, *]) rfl ?_
  exact ⟨rfl, H4.out.2⟩
set_option maxHeartbeats 4000000 in
set_option maxRecDepth 100000 in
theorem tells_0 (n a b sm r1 r2 r3 r4 r5 r6 r7 r8 : Nat) (hsm : sm < 18446744073709551616) (hx : bits BinOp.and IntKind.u64 (wd b 0) 1099511627775 = ((sm : Nat) : Int))
    (e_n : ∀ w, (Op.equalIn 10000 24 (N n) (N n)).run Tryd.prog w = .ok true w) (e_r1 : ∀ w, (Op.equalIn 10000 24 (N r1) (N r1)).run Tryd.prog w = .ok true w) (e_r2 : ∀ w, (Op.equalIn 10000 24 (N r2) (N r2)).run Tryd.prog w = .ok true w) (e_r3 : ∀ w, (Op.equalIn 10000 24 (N r3) (N r3)).run Tryd.prog w = .ok true w) (e_r4 : ∀ w, (Op.equalIn 10000 24 (N r4) (N r4)).run Tryd.prog w = .ok true w) (e_r5 : ∀ w, (Op.equalIn 10000 24 (N r5) (N r5)).run Tryd.prog w = .ok true w) (e_r6 : ∀ w, (Op.equalIn 10000 24 (N r6) (N r6)).run Tryd.prog w = .ok true w) (e_r7 : ∀ w, (Op.equalIn 10000 24 (N r7) (N r7)).run Tryd.prog w = .ok true w) (e_r8 : ∀ w, (Op.equalIn 10000 24 (N r8) (N r8)).run Tryd.prog w = .ok true w)
    (c0 : ∀ w, Calls Tryd.prog 8 #[N n] w fun e w' => Below w.heap.size w w' ∧ ∃ g, e = .returned (.tuple #[PT g 0, .int .i64 0]) ∧ w.heap.size ≤ g ∧ g < w'.heap.size ∧ Blk w' g (modc n))
    (c1 : ∀ w, Calls Tryd.prog 9 #[N n] w fun e w' => e = .returned (.bool true) ∧ Below w.heap.size w w')
    (c2 : ∀ g w, Mm w [(g, modc n)] → Calls Tryd.prog 10 #[PT g 0] w fun e w' => e = .returned (N n) ∧ Below w.heap.size w w')
    (c3 : ∀ g w, Mm w [(g, modc n)] → Calls Tryd.prog 11 #[PT g 0, N a] w fun e w' => e = .returned (N r1) ∧ Below w.heap.size w w')
    (c4 : ∀ w, Calls Tryd.prog 12 #[N n, N a] w fun e w' => e = .returned (N r1) ∧ Below w.heap.size w w')
    (c5 : ∀ g w, Mm w [(g, modc n)] → Calls Tryd.prog 13 #[PT g 0, N a, N b] w fun e w' => e = .returned (N r2) ∧ Below w.heap.size w w')
    (c6 : ∀ w, Calls Tryd.prog 14 #[N n, N a, N b] w fun e w' => e = .returned (N r2) ∧ Below w.heap.size w w')
    (c7 : ∀ g w, Mm w [(g, modc n)] → Calls Tryd.prog 15 #[PT g 0, N a, N b] w fun e w' => e = .returned (N r3) ∧ Below w.heap.size w w')
    (c8 : ∀ w, Calls Tryd.prog 16 #[N n, N a, N b] w fun e w' => e = .returned (N r3) ∧ Below w.heap.size w w')
    (c9 : ∀ g w, Mm w [(g, modc n)] → Calls Tryd.prog 17 #[PT g 0, N a, N b] w fun e w' => e = .returned (N r4) ∧ Below w.heap.size w w')
    (c10 : ∀ w, Calls Tryd.prog 18 #[N n, N a, N b] w fun e w' => e = .returned (N r4) ∧ Below w.heap.size w w')
    (c11 : ∀ g w, Mm w [(g, modc n)] → Calls Tryd.prog 19 #[PT g 0, N a] w fun e w' => e = .returned (N r5) ∧ Below w.heap.size w w')
    (c12 : ∀ w, Calls Tryd.prog 20 #[N n, N a] w fun e w' => e = .returned (N r5) ∧ Below w.heap.size w w')
    (c13 : ∀ g w, Mm w [(g, modc n)] → Calls Tryd.prog 21 #[PT g 0, N a, N b] w fun e w' => e = .returned (N r6) ∧ Below w.heap.size w w')
    (c14 : ∀ w, Calls Tryd.prog 22 #[N n, N a, N b] w fun e w' => e = .returned (N r6) ∧ Below w.heap.size w w')
    (c15 : ∀ g w, Mm w [(g, modc n)] → Calls Tryd.prog 25 #[PT g 0, N a, N sm] w fun e w' => e = .returned (N r7) ∧ Below w.heap.size w w')
    (c16 : ∀ w, Calls Tryd.prog 26 #[N n, N a, N sm] w fun e w' => e = .returned (N r7) ∧ Below w.heap.size w w')
    (c17 : ∀ g w, Mm w [(g, modc n), (0, dtab)] → Calls Tryd.prog 23 #[PT g 0, N a] w fun e w' => e = .returned (.tuple #[N r8, .int .i64 0]) ∧ Below w.heap.size w w')
    (c18 : ∀ w, Calls Tryd.prog 24 #[N n, N a] w fun e w' => e = .returned (.tuple #[N r8, .int .i64 0]) ∧ Below w.heap.size w w') (w : World) (hm : Mm w [(0, dtab)]) :
    Calls Tryd.prog 3 #[N n, N a, N b] w fun e w' => e = .returned (.bool true) ∧ Below w.heap.size w w' := by
  have H0 : Hid (_ ∧ _) := ⟨hm, Below.refl w.heap.size w⟩
  clear hm
  have HS : Hid _ := hsm
  clear hsm
  have C0 : Hid _ := c0
  have C1 : Hid _ := c1
  have C2 : Hid _ := c2
  have C3 : Hid _ := c3
  have C4 : Hid _ := c4
  have C5 : Hid _ := c5
  have C6 : Hid _ := c6
  have C7 : Hid _ := c7
  have C8 : Hid _ := c8
  have C9 : Hid _ := c9
  have C10 : Hid _ := c10
  have C11 : Hid _ := c11
  have C12 : Hid _ := c12
  have C13 : Hid _ := c13
  have C14 : Hid _ := c14
  have C15 : Hid _ := c15
  have C16 : Hid _ := c16
  have C17 : Hid _ := c17
  have C18 : Hid _ := c18
  clear c0 c1 c2 c3 c4 c5 c6 c7 c8 c9 c10 c11 c12 c13 c14 c15 c16 c17 c18
  go_enter Tryd.func3, Tryd.ntmps3
  refine wp_seq ?_
  refine walk_seq 4 [.made (cells6 n) 24, .made (cells6 a) 24, .made (cells6 b) 24, .quiet (.bool false)] (fun w' => Mm w' [(0, dtab)]) ?pre1 ?F1 ?hpre1 (fun γ => ?hF1) (by kernel_rfl) ?hL1 ?hS1 ?ho1 ?he1
  case hpre1 =>
    simp only [List.take_succ_cons, List.take_zero]
    exact rfl
  case hF1 =>
    simp only [fill, Kind.val, Act.put, List.setIfInBounds_toArray, List.set_cons_zero, List.set_cons_succ]
    exact rfl
  case hL1 => exact trivial
  case hS1 => exact fun w' hb => H0.out.1.below hb
  case ho1 =>
    refine AllOk.cons ?_ ?_
    · exact fun γ => ⟨rfl, fun w' => ex_box6 rfl rfl⟩
    refine AllOk.cons ?_ ?_
    · exact fun γ => ⟨rfl, fun w' => ex_box6 rfl rfl⟩
    refine AllOk.cons ?_ ?_
    · exact fun γ => ⟨rfl, fun w' => ex_box6 rfl rfl⟩
    refine AllOk.cons ?_ ?_
    · exact fun γ => ⟨rfl, fun w' _ => rfl⟩
    exact trivial
  intro γ w1 l hM hl
  have M1 : Mm w1 [(γ 0, cells6 n), (γ 1, cells6 a), (γ 2, cells6 b), (0, dtab)] := H0.out.1.grow hM (Nat.le_refl _) hl [0, 1, 2] rfl (by decide)
  have B1 : Below w.heap.size w w1 := H0.out.2.trans (hM.below.mono H0.out.2.size)
  have o1_0 : Hid (w.heap.size ≤ γ 0) := Nat.le_trans H0.out.2.size (hM.fin (Nat.le_refl _) hl (i := 0) rfl).2.1
  have o1_1 : Hid (w.heap.size ≤ γ 1) := Nat.le_trans H0.out.2.size (hM.fin (Nat.le_refl _) hl (i := 1) rfl).2.1
  have o1_2 : Hid (w.heap.size ≤ γ 2) := Nat.le_trans H0.out.2.size (hM.fin (Nat.le_refl _) hl (i := 2) rfl).2.1
  clear hM hl l
  generalize γ 0 = γ1_0 at M1 o1_0 ⊢
  generalize γ 1 = γ1_1 at M1 o1_1 ⊢
  generalize γ 2 = γ1_2 at M1 o1_2 ⊢
  clear γ
  have H1 : Hid (_ ∧ _) := ⟨M1, B1⟩
  clear M1 B1
  refine rest_at (l := []) rfl ?_
  refine rest_nil ?_
  refine then_normal ?_
  refine wp_seq ?_
  refine walk_seq 2 [.quiet (N n), .born (fun g => .tuple #[PT g 0, .int .i64 0]) (modc n)] (fun w' => Mm w' [(γ1_0, cells6 n), (γ1_1, cells6 a), (γ1_2, cells6 b), (0, dtab)]) ?pre2 ?F2 ?hpre2 (fun γ => ?hF2) (by kernel_rfl) ?hL2 ?hS2 ?ho2 ?he2
  case hpre2 =>
    simp only [List.take_succ_cons, List.take_zero]
    exact rfl
  case hF2 =>
    simp only [fill, Kind.val, Act.put, List.setIfInBounds_toArray, List.set_cons_zero, List.set_cons_succ]
    exact rfl
  case hL2 => exact trivial
  case hS2 => exact fun w' hb => H1.out.1.below hb
  case ho2 =>
    refine AllOk.cons ?_ ?_
    · exact fun γ => ⟨rfl, fun w' h => ex_load6 h 0 rfl rfl rfl rfl⟩
    refine AllOk.cons ?_ ?_
    · exact fun γ => ⟨rfl, fun w' h => ⟨8, #[N n], exec_call rfl call8 rfl (by simp only [List.map_toArray, List.map_cons, List.map_nil]; rfl), C0.out w'⟩⟩
    exact trivial
  intro γ w2 l hM hl
  have M2 : Mm w2 [(γ 1, modc n), (γ1_0, cells6 n), (γ1_1, cells6 a), (γ1_2, cells6 b), (0, dtab)] := H1.out.1.grow hM (Nat.le_refl _) hl [1] rfl (by decide)
  have B2 : Below w.heap.size w w2 := H1.out.2.trans (hM.below.mono H1.out.2.size)
  have o2_1 : Hid (w.heap.size ≤ γ 1) := Nat.le_trans H1.out.2.size (hM.fin (Nat.le_refl _) hl (i := 1) rfl).2.1
  clear hM hl l H1
  generalize γ 1 = γ2_1 at M2 o2_1 ⊢
  clear γ
  have H2 : Hid (_ ∧ _) := ⟨M2, B2⟩
  clear M2 B2
  refine rest_at (l := [2, 3, 4, 5, 6]) rfl ?_
  refine rest_set (d := 15) rfl rfl rfl rfl ?_
  simp only [Act.put, List.setIfInBounds_toArray, List.set_cons_zero, List.set_cons_succ]
  refine rest_set (d := 18) (v := PT γ2_1 0) (w' := w2) rfl rfl rfl (by go_simp) ?_
  simp only [Act.put, List.setIfInBounds_toArray, List.set_cons_zero, List.set_cons_succ]
  refine rest_set (d := 19) (v := .int .i64 0) (w' := w2) rfl rfl rfl (by go_simp) ?_
  simp only [Act.put, List.setIfInBounds_toArray, List.set_cons_zero, List.set_cons_succ]
  refine rest_set (d := 7) rfl rfl rfl rfl ?_
  simp only [Act.put, List.setIfInBounds_toArray, List.set_cons_zero, List.set_cons_succ]
  refine rest_set (d := 8) rfl rfl rfl rfl ?_
  simp only [Act.put, List.setIfInBounds_toArray, List.set_cons_zero, List.set_cons_succ]
  refine rest_nil ?_
  refine then_normal ?_
  refine wp_seq ?_
  refine wp_seq ?_
  refine walk_seq 3 [.quiet (N n), .call (.bool true), .quiet (.bool false)] (fun w' => Mm w' [(γ2_1, modc n), (γ1_0, cells6 n), (γ1_1, cells6 a), (γ1_2, cells6 b), (0, dtab)]) ?pre3 ?F3 ?hpre3 (fun γ => ?hF3) (by kernel_rfl) ?hL3 ?hS3 ?ho3 ?he3
  case hpre3 =>
    simp only [List.take_succ_cons, List.take_zero]
    exact rfl
  case hF3 =>
    simp only [fill, Kind.val, Act.put, List.setIfInBounds_toArray, List.set_cons_zero, List.set_cons_succ]
    exact rfl
  case hL3 => exact trivial
  case hS3 => exact fun w' hb => H2.out.1.below hb
  case ho3 =>
    refine AllOk.cons ?_ ?_
    · exact fun γ => ⟨rfl, fun w' h => ex_load6 h 1 rfl rfl rfl rfl⟩
    refine AllOk.cons ?_ ?_
    · exact fun γ => ⟨rfl, fun w' h => ⟨9, #[N n], exec_call rfl call9 rfl (by simp only [List.map_toArray, List.map_cons, List.map_nil]; rfl), C1.out w'⟩⟩
    refine AllOk.cons ?_ ?_
    · (refine fun γ => ⟨rfl, fun w' h => ?_⟩; clear h; go_simp)
    exact trivial
  intro γ w3 l hM hl
  have M3 : Mm w3 [(γ2_1, modc n), (γ1_0, cells6 n), (γ1_1, cells6 a), (γ1_2, cells6 b), (0, dtab)] := H2.out.1.grow hM (Nat.le_refl _) hl [] rfl (by decide)
  have B3 : Below w.heap.size w w3 := H2.out.2.trans (hM.below.mono H2.out.2.size)
  clear hM hl l H2
  clear γ
  have H3 : Hid (_ ∧ _) := ⟨M3, B3⟩
  clear M3 B3
  refine rest_at (l := []) rfl ?_
  refine rest_nil ?_
  refine then_normal ?_
  refine wp_cond_false rfl ?_
  refine wp_skip ?_
  refine then_normal ?_
  refine wp_seq ?_
  refine wp_seq ?_
  refine walk_any (by kernel_rfl) 12 [.quiet (PT γ2_1 0), .quiet (.bool false), .quiet (.bool false), .quiet (.int .i64 0), .quiet (.bool false), .quiet (.bool false), .quiet (.bool false), .quiet (PT γ2_1 0), .call (N n), .quiet (N n), .quiet (.bool false), .quiet (.bool false)] (fun w' => Mm w' [(γ2_1, modc n), (γ1_0, cells6 n), (γ1_1, cells6 a), (γ1_2, cells6 b), (0, dtab)]) ?pre4 ?F4 ?hpre4 (fun γ => ?hF4) (by kernel_rfl) ?hL4 ?hS4 ?ho4 ?he4
  case hpre4 =>
    simp only [List.take_succ_cons, List.take_zero]
    exact rfl
  case hF4 =>
    simp only [fill, Kind.val, Act.put, List.setIfInBounds_toArray, List.set_cons_zero, List.set_cons_succ]
    exact rfl
  case hL4 => exact trivial
  case hS4 => exact fun w' hb => H3.out.1.below hb
  case ho4 =>
    refine AllOk.cons ?_ ?_
    · exact fun γ => ⟨rfl, fun w' _ => rfl⟩
    refine AllOk.cons ?_ ?_
    · (refine fun γ => ⟨rfl, fun w' h => ?_⟩; clear h; go_simp)
    refine AllOk.cons ?_ ?_
    · exact fun γ => ⟨rfl, fun w' _ => rfl⟩
    refine AllOk.cons ?_ ?_
    · exact fun γ => ⟨rfl, fun w' _ => rfl⟩
    refine AllOk.cons ?_ ?_
    · (refine fun γ => ⟨rfl, fun w' h => ?_⟩; clear h; go_simp)
    refine AllOk.cons ?_ ?_
    · (refine fun γ => ⟨rfl, fun w' h => ?_⟩; clear h; go_simp)
    refine AllOk.cons ?_ ?_
    · exact fun γ => ⟨rfl, fun w' _ => rfl⟩
    refine AllOk.cons ?_ ?_
    · exact fun γ => ⟨rfl, fun w' _ => rfl⟩
    refine AllOk.cons ?_ ?_
    · exact fun γ => ⟨rfl, fun w' h => ⟨10, #[PT γ2_1 0], exec_call rfl call10 rfl (by simp only [List.map_toArray, List.map_cons, List.map_nil]; rfl), C2.out _ w' (h.one 0 rfl)⟩⟩
    refine AllOk.cons ?_ ?_
    · exact fun γ => ⟨rfl, fun w' h => ex_load6 h 1 rfl rfl rfl rfl⟩
    refine AllOk.cons ?_ ?_
    · exact fun γ => ⟨rfl, fun w' _ => exec_neq6 e_n rfl rfl rfl⟩
    refine AllOk.cons ?_ ?_
    · (refine fun γ => ⟨rfl, fun w' h => ?_⟩; clear h; go_simp)
    exact trivial
  intro γ w4 l hM hl
  have M4 : Mm w4 [(γ2_1, modc n), (γ1_0, cells6 n), (γ1_1, cells6 a), (γ1_2, cells6 b), (0, dtab)] := H3.out.1.grow hM (Nat.le_refl _) hl [] rfl (by decide)
  have B4 : Below w.heap.size w w4 := H3.out.2.trans (hM.below.mono H3.out.2.size)
  clear hM hl l H3
  clear γ
  have H4 : Hid (_ ∧ _) := ⟨M4, B4⟩
  clear M4 B4
  refine rest_at (l := []) rfl ?_
  refine rest_nil ?_
  refine then_normal ?_
  refine wp_cond_false rfl ?_
  refine wp_skip ?_
  refine then_normal ?_
  refine wp_seq ?_
  refine walk_any (by kernel_rfl) 61 [.quiet (PT γ2_1 0), .quiet (N a), .call (N r1), .quiet (N n), .quiet (N a), .call (N r1), .quiet (.bool true), .quiet (.bool true), .quiet (PT γ2_1 0), .quiet (N a), .quiet (N b), .call (N r2), .quiet (N n), .quiet (N a), .quiet (N b), .call (N r2), .quiet (.bool true), .quiet (.bool true), .quiet (.bool true), .quiet (PT γ2_1 0), .quiet (N a), .quiet (N b), .call (N r3), .quiet (N n), .quiet (N a), .quiet (N b), .call (N r3), .quiet (.bool true), .quiet (.bool true), .quiet (.bool true), .quiet (PT γ2_1 0), .quiet (N a), .quiet (N b), .call (N r4), .quiet (N n), .quiet (N a), .quiet (N b), .call (N r4), .quiet (.bool true), .quiet (.bool true), .quiet (.bool true), .quiet (PT γ2_1 0), .quiet (N a), .call (N r5), .quiet (N n), .quiet (N a), .call (N r5), .quiet (.bool true), .quiet (.bool true), .quiet (.bool true), .quiet (PT γ2_1 0), .quiet (N a), .quiet (N b), .call (N r6), .quiet (N n), .quiet (N a), .quiet (N b), .call (N r6), .quiet (.bool true), .quiet (.bool true), .quiet (.bool true)] (fun w' => Mm w' [(γ2_1, modc n), (γ1_0, cells6 n), (γ1_1, cells6 a), (γ1_2, cells6 b), (0, dtab)]) ?pre5 ?F5 ?hpre5 (fun γ => ?hF5) (by kernel_rfl) ?hL5 ?hS5 ?ho5 ?he5
  case hpre5 =>
    simp only [List.take_succ_cons, List.take_zero]
    exact rfl
  case hF5 =>
    simp only [fill, Kind.val, Act.put, List.setIfInBounds_toArray, List.set_cons_zero, List.set_cons_succ]
    exact rfl
  case hL5 => exact trivial
  case hS5 => exact fun w' hb => H4.out.1.below hb
  case ho5 =>
    refine AllOk.cons ?_ ?_
    · exact fun γ => ⟨rfl, fun w' _ => rfl⟩
    refine AllOk.cons ?_ ?_
    · exact fun γ => ⟨rfl, fun w' h => ex_load6 h 2 rfl rfl rfl rfl⟩
    refine AllOk.cons ?_ ?_
    · exact fun γ => ⟨rfl, fun w' h => ⟨11, #[PT γ2_1 0, N a], exec_call rfl call11 rfl (by simp only [List.map_toArray, List.map_cons, List.map_nil]; rfl), C3.out _ w' (h.one 0 rfl)⟩⟩
    refine AllOk.cons ?_ ?_
    · exact fun γ => ⟨rfl, fun w' h => ex_load6 h 1 rfl rfl rfl rfl⟩
    refine AllOk.cons ?_ ?_
    · exact fun γ => ⟨rfl, fun w' h => ex_load6 h 2 rfl rfl rfl rfl⟩
    refine AllOk.cons ?_ ?_
    · exact fun γ => ⟨rfl, fun w' h => ⟨12, #[N n, N a], exec_call rfl call12 rfl (by simp only [List.map_toArray, List.map_cons, List.map_nil]; rfl), C4.out w'⟩⟩
    refine AllOk.cons ?_ ?_
    · exact fun γ => ⟨rfl, fun w' _ => exec_eq6 e_r1 rfl rfl rfl⟩
    refine AllOk.cons ?_ ?_
    · exact fun γ => ⟨rfl, fun w' _ => rfl⟩
    refine AllOk.cons ?_ ?_
    · exact fun γ => ⟨rfl, fun w' _ => rfl⟩
    refine AllOk.cons ?_ ?_
    · exact fun γ => ⟨rfl, fun w' h => ex_load6 h 2 rfl rfl rfl rfl⟩
    refine AllOk.cons ?_ ?_
    · exact fun γ => ⟨rfl, fun w' h => ex_load6 h 3 rfl rfl rfl rfl⟩
    refine AllOk.cons ?_ ?_
    · exact fun γ => ⟨rfl, fun w' h => ⟨13, #[PT γ2_1 0, N a, N b], exec_call rfl call13 rfl (by simp only [List.map_toArray, List.map_cons, List.map_nil]; rfl), C5.out _ w' (h.one 0 rfl)⟩⟩
    refine AllOk.cons ?_ ?_
    · exact fun γ => ⟨rfl, fun w' h => ex_load6 h 1 rfl rfl rfl rfl⟩
    refine AllOk.cons ?_ ?_
    · exact fun γ => ⟨rfl, fun w' h => ex_load6 h 2 rfl rfl rfl rfl⟩
    refine AllOk.cons ?_ ?_
    · exact fun γ => ⟨rfl, fun w' h => ex_load6 h 3 rfl rfl rfl rfl⟩
    refine AllOk.cons ?_ ?_
    · exact fun γ => ⟨rfl, fun w' h => ⟨14, #[N n, N a, N b], exec_call rfl call14 rfl (by simp only [List.map_toArray, List.map_cons, List.map_nil]; rfl), C6.out w'⟩⟩
    refine AllOk.cons ?_ ?_
    · exact fun γ => ⟨rfl, fun w' _ => exec_eq6 e_r2 rfl rfl rfl⟩
    refine AllOk.cons ?_ ?_
    · (refine fun γ => ⟨rfl, fun w' h => ?_⟩; clear h; go_simp)
    refine AllOk.cons ?_ ?_
    · exact fun γ => ⟨rfl, fun w' _ => rfl⟩
    refine AllOk.cons ?_ ?_
    · exact fun γ => ⟨rfl, fun w' _ => rfl⟩
    refine AllOk.cons ?_ ?_
    · exact fun γ => ⟨rfl, fun w' h => ex_load6 h 2 rfl rfl rfl rfl⟩
    refine AllOk.cons ?_ ?_
    · exact fun γ => ⟨rfl, fun w' h => ex_load6 h 3 rfl rfl rfl rfl⟩
    refine AllOk.cons ?_ ?_
    · exact fun γ => ⟨rfl, fun w' h => ⟨15, #[PT γ2_1 0, N a, N b], exec_call rfl call15 rfl (by simp only [List.map_toArray, List.map_cons, List.map_nil]; rfl), C7.out _ w' (h.one 0 rfl)⟩⟩
    refine AllOk.cons ?_ ?_
    · exact fun γ => ⟨rfl, fun w' h => ex_load6 h 1 rfl rfl rfl rfl⟩
    refine AllOk.cons ?_ ?_
    · exact fun γ => ⟨rfl, fun w' h => ex_load6 h 2 rfl rfl rfl rfl⟩
    refine AllOk.cons ?_ ?_
    · exact fun γ => ⟨rfl, fun w' h => ex_load6 h 3 rfl rfl rfl rfl⟩
    refine AllOk.cons ?_ ?_
    · exact fun γ => ⟨rfl, fun w' h => ⟨16, #[N n, N a, N b], exec_call rfl call16 rfl (by simp only [List.map_toArray, List.map_cons, List.map_nil]; rfl), C8.out w'⟩⟩
    refine AllOk.cons ?_ ?_
    · exact fun γ => ⟨rfl, fun w' _ => exec_eq6 e_r3 rfl rfl rfl⟩
    refine AllOk.cons ?_ ?_
    · (refine fun γ => ⟨rfl, fun w' h => ?_⟩; clear h; go_simp)
    refine AllOk.cons ?_ ?_
    · exact fun γ => ⟨rfl, fun w' _ => rfl⟩
    refine AllOk.cons ?_ ?_
    · exact fun γ => ⟨rfl, fun w' _ => rfl⟩
    refine AllOk.cons ?_ ?_
    · exact fun γ => ⟨rfl, fun w' h => ex_load6 h 2 rfl rfl rfl rfl⟩
    refine AllOk.cons ?_ ?_
    · exact fun γ => ⟨rfl, fun w' h => ex_load6 h 3 rfl rfl rfl rfl⟩
    refine AllOk.cons ?_ ?_
    · exact fun γ => ⟨rfl, fun w' h => ⟨17, #[PT γ2_1 0, N a, N b], exec_call rfl call17 rfl (by simp only [List.map_toArray, List.map_cons, List.map_nil]; rfl), C9.out _ w' (h.one 0 rfl)⟩⟩
    refine AllOk.cons ?_ ?_
    · exact fun γ => ⟨rfl, fun w' h => ex_load6 h 1 rfl rfl rfl rfl⟩
    refine AllOk.cons ?_ ?_
    · exact fun γ => ⟨rfl, fun w' h => ex_load6 h 2 rfl rfl rfl rfl⟩
    refine AllOk.cons ?_ ?_
    · exact fun γ => ⟨rfl, fun w' h => ex_load6 h 3 rfl rfl rfl rfl⟩
    refine AllOk.cons ?_ ?_
    · exact fun γ => ⟨rfl, fun w' h => ⟨18, #[N n, N a, N b], exec_call rfl call18 rfl (by simp only [List.map_toArray, List.map_cons, List.map_nil]; rfl), C10.out w'⟩⟩
    refine AllOk.cons ?_ ?_
    · exact fun γ => ⟨rfl, fun w' _ => exec_eq6 e_r4 rfl rfl rfl⟩
    refine AllOk.cons ?_ ?_
    · (refine fun γ => ⟨rfl, fun w' h => ?_⟩; clear h; go_simp)
    refine AllOk.cons ?_ ?_
    · exact fun γ => ⟨rfl, fun w' _ => rfl⟩
    refine AllOk.cons ?_ ?_
    · exact fun γ => ⟨rfl, fun w' _ => rfl⟩
    refine AllOk.cons ?_ ?_
    · exact fun γ => ⟨rfl, fun w' h => ex_load6 h 2 rfl rfl rfl rfl⟩
    refine AllOk.cons ?_ ?_
    · exact fun γ => ⟨rfl, fun w' h => ⟨19, #[PT γ2_1 0, N a], exec_call rfl call19 rfl (by simp only [List.map_toArray, List.map_cons, List.map_nil]; rfl), C11.out _ w' (h.one 0 rfl)⟩⟩
    refine AllOk.cons ?_ ?_
    · exact fun γ => ⟨rfl, fun w' h => ex_load6 h 1 rfl rfl rfl rfl⟩
    refine AllOk.cons ?_ ?_
    · exact fun γ => ⟨rfl, fun w' h => ex_load6 h 2 rfl rfl rfl rfl⟩
    refine AllOk.cons ?_ ?_
    · exact fun γ => ⟨rfl, fun w' h => ⟨20, #[N n, N a], exec_call rfl call20 rfl (by simp only [List.map_toArray, List.map_cons, List.map_nil]; rfl), C12.out w'⟩⟩
    refine AllOk.cons ?_ ?_
    · exact fun γ => ⟨rfl, fun w' _ => exec_eq6 e_r5 rfl rfl rfl⟩
    refine AllOk.cons ?_ ?_
    · (refine fun γ => ⟨rfl, fun w' h => ?_⟩; clear h; go_simp)
    refine AllOk.cons ?_ ?_
    · exact fun γ => ⟨rfl, fun w' _ => rfl⟩
    refine AllOk.cons ?_ ?_
    · exact fun γ => ⟨rfl, fun w' _ => rfl⟩
    refine AllOk.cons ?_ ?_
    · exact fun γ => ⟨rfl, fun w' h => ex_load6 h 2 rfl rfl rfl rfl⟩
    refine AllOk.cons ?_ ?_
    · exact fun γ => ⟨rfl, fun w' h => ex_load6 h 3 rfl rfl rfl rfl⟩
    refine AllOk.cons ?_ ?_
    · exact fun γ => ⟨rfl, fun w' h => ⟨21, #[PT γ2_1 0, N a, N b], exec_call rfl call21 rfl (by simp only [List.map_toArray, List.map_cons, List.map_nil]; rfl), C13.out _ w' (h.one 0 rfl)⟩⟩
    refine AllOk.cons ?_ ?_
    · exact fun γ => ⟨rfl, fun w' h => ex_load6 h 1 rfl rfl rfl rfl⟩
    refine AllOk.cons ?_ ?_
    · exact fun γ => ⟨rfl, fun w' h => ex_load6 h 2 rfl rfl rfl rfl⟩
    refine AllOk.cons ?_ ?_
    · exact fun γ => ⟨rfl, fun w' h => ex_load6 h 3 rfl rfl rfl rfl⟩
    refine AllOk.cons ?_ ?_
    · exact fun γ => ⟨rfl, fun w' h => ⟨22, #[N n, N a, N b], exec_call rfl call22 rfl (by simp only [List.map_toArray, List.map_cons, List.map_nil]; rfl), C14.out w'⟩⟩
    refine AllOk.cons ?_ ?_
    · exact fun γ => ⟨rfl, fun w' _ => exec_eq6 e_r6 rfl rfl rfl⟩
    refine AllOk.cons ?_ ?_
    · (refine fun γ => ⟨rfl, fun w' h => ?_⟩; clear h; go_simp)
    refine AllOk.cons ?_ ?_
    · exact fun γ => ⟨rfl, fun w' _ => rfl⟩
    exact trivial
  intro γ w5 l hM hl
  have M5 : Mm w5 [(γ2_1, modc n), (γ1_0, cells6 n), (γ1_1, cells6 a), (γ1_2, cells6 b), (0, dtab)] := H4.out.1.grow hM (Nat.le_refl _) hl [] rfl (by decide)
  have B5 : Below w.heap.size w w5 := H4.out.2.trans (hM.below.mono H4.out.2.size)
  clear hM hl l H4
  clear γ
  have H5 : Hid (_ ∧ _) := ⟨M5, B5⟩
  clear M5 B5
  refine rest_at (l := []) rfl ?_
  refine rest_nil ?_
  refine then_normal ?_
  refine wp_seq ?_
  refine walk_seq 6 [.quiet (PT γ1_2 0), .quiet (.int .u64 (wd b 0)), .quiet (.int .u64 ((sm : Nat) : Int)), .quiet (N sm), .made zero6 24, .laid 4 zero6 (cells6 sm)] (fun w' => Mm w' [(γ2_1, modc n), (γ1_0, cells6 n), (γ1_1, cells6 a), (γ1_2, cells6 b), (0, dtab)]) ?pre6 ?F6 ?hpre6 (fun γ => ?hF6) (by kernel_rfl) ?hL6 ?hS6 ?ho6 ?he6
  case hpre6 =>
    simp only [List.take_succ_cons, List.take_zero]
    exact rfl
  case hF6 =>
    simp only [fill, Kind.val, Act.put, List.setIfInBounds_toArray, List.set_cons_zero, List.set_cons_succ]
    exact rfl
  case hL6 => exact ⟨⟨_, rfl⟩, trivial⟩
  case hS6 => exact fun w' hb => H5.out.1.below hb
  case ho6 =>
    refine AllOk.cons ?_ ?_
    · (refine fun γ => ⟨rfl, fun w' h => ?_⟩; clear h; go_simp)
    refine AllOk.cons ?_ ?_
    · exact fun γ => ⟨rfl, fun w' h => ex_load1 h 3 rfl rfl rfl rfl⟩
    refine AllOk.cons ?_ ?_
    · (refine fun γ => ⟨rfl, fun w' h => ?_⟩; clear h; go_simp)
    refine AllOk.cons ?_ ?_
    · exact fun γ => ⟨rfl, fun w' _ => ex_buildx HS.out rfl rfl⟩
    refine AllOk.cons ?_ ?_
    · exact fun γ => ⟨rfl, fun w' => exec_made6 rfl⟩
    refine AllOk.cons ?_ ?_
    · exact fun γ => ⟨rfl, rfl, rfl, fun w' h => exec_laid6 h rfl rfl rfl⟩
    exact trivial
  intro γ w6 l hM hl
  have M6 : Mm w6 [(γ 4, cells6 sm), (γ2_1, modc n), (γ1_0, cells6 n), (γ1_1, cells6 a), (γ1_2, cells6 b), (0, dtab)] := H5.out.1.grow hM (Nat.le_refl _) hl [4] rfl (by decide)
  have B6 : Below w.heap.size w w6 := H5.out.2.trans (hM.below.mono H5.out.2.size)
  have o6_4 : Hid (w.heap.size ≤ γ 4) := Nat.le_trans H5.out.2.size (hM.fin (Nat.le_refl _) hl (i := 4) rfl).2.1
  clear hM hl l H5
  generalize γ 4 = γ6_4 at M6 o6_4 ⊢
  clear γ
  have H6 : Hid (_ ∧ _) := ⟨M6, B6⟩
  clear M6 B6
  refine rest_at (l := []) rfl ?_
  refine rest_nil ?_
  refine then_normal ?_
  refine wp_seq ?_
  refine walk_seq 9 [.quiet (PT γ2_1 0), .quiet (N a), .call (.tuple #[N r8, .int .i64 0]), .quiet (.tuple #[N r8, .int .i64 0]), .quiet (N r8), .quiet (.int .i64 0), .made zero6 24, .laid 6 zero6 (cells6 r8), .quiet (.int .i64 0)] (fun w' => Mm w' [(γ6_4, cells6 sm), (γ2_1, modc n), (γ1_0, cells6 n), (γ1_1, cells6 a), (γ1_2, cells6 b), (0, dtab)]) ?pre7 ?F7 ?hpre7 (fun γ => ?hF7) (by kernel_rfl) ?hL7 ?hS7 ?ho7 ?he7
  case hpre7 =>
    simp only [List.take_succ_cons, List.take_zero]
    exact rfl
  case hF7 =>
    simp only [fill, Kind.val, Act.put, List.setIfInBounds_toArray, List.set_cons_zero, List.set_cons_succ]
    exact rfl
  case hL7 => exact ⟨⟨_, rfl⟩, trivial⟩
  case hS7 => exact fun w' hb => H6.out.1.below hb
  case ho7 =>
    refine AllOk.cons ?_ ?_
    · exact fun γ => ⟨rfl, fun w' _ => rfl⟩
    refine AllOk.cons ?_ ?_
    · exact fun γ => ⟨rfl, fun w' h => ex_load6 h 3 rfl rfl rfl rfl⟩
    refine AllOk.cons ?_ ?_
    · exact fun γ => ⟨rfl, fun w' h => ⟨23, #[PT γ2_1 0, N a], exec_call rfl call23 rfl (by simp only [List.map_toArray, List.map_cons, List.map_nil]; rfl), C17.out _ w' (h.two 1 5 rfl rfl (by decide))⟩⟩
    refine AllOk.cons ?_ ?_
    · exact fun γ => ⟨rfl, fun w' _ => rfl⟩
    refine AllOk.cons ?_ ?_
    · (refine fun γ => ⟨rfl, fun w' h => ?_⟩; clear h; go_simp)
    refine AllOk.cons ?_ ?_
    · (refine fun γ => ⟨rfl, fun w' h => ?_⟩; clear h; go_simp)
    refine AllOk.cons ?_ ?_
    · exact fun γ => ⟨rfl, fun w' => exec_made6 rfl⟩
    refine AllOk.cons ?_ ?_
    · exact fun γ => ⟨rfl, rfl, rfl, fun w' h => exec_laid6 h rfl rfl rfl⟩
    refine AllOk.cons ?_ ?_
    · exact fun γ => ⟨rfl, fun w' _ => rfl⟩
    exact trivial
  intro γ w7 l hM hl
  have M7 : Mm w7 [(γ 6, cells6 r8), (γ6_4, cells6 sm), (γ2_1, modc n), (γ1_0, cells6 n), (γ1_1, cells6 a), (γ1_2, cells6 b), (0, dtab)] := H6.out.1.grow hM (Nat.le_refl _) hl [6] rfl (by decide)
  have B7 : Below w.heap.size w w7 := H6.out.2.trans (hM.below.mono H6.out.2.size)
  have o7_6 : Hid (w.heap.size ≤ γ 6) := Nat.le_trans H6.out.2.size (hM.fin (Nat.le_refl _) hl (i := 6) rfl).2.1
  clear hM hl l H6
  generalize γ 6 = γ7_6 at M7 o7_6 ⊢
  clear γ
  have H7 : Hid (_ ∧ _) := ⟨M7, B7⟩
  clear M7 B7
  refine rest_at (l := []) rfl ?_
  refine rest_nil ?_
  refine then_normal ?_
  refine wp_seq ?_
  refine walk_seq 9 [.quiet (N n), .quiet (N a), .call (.tuple #[N r8, .int .i64 0]), .quiet (.tuple #[N r8, .int .i64 0]), .quiet (N r8), .quiet (.int .i64 0), .made zero6 24, .laid 6 zero6 (cells6 r8), .quiet (.int .i64 0)] (fun w' => Mm w' [(γ7_6, cells6 r8), (γ6_4, cells6 sm), (γ2_1, modc n), (γ1_0, cells6 n), (γ1_1, cells6 a), (γ1_2, cells6 b), (0, dtab)]) ?pre8 ?F8 ?hpre8 (fun γ => ?hF8) (by kernel_rfl) ?hL8 ?hS8 ?ho8 ?he8
  case hpre8 =>
    simp only [List.take_succ_cons, List.take_zero]
    exact rfl
  case hF8 =>
    simp only [fill, Kind.val, Act.put, List.setIfInBounds_toArray, List.set_cons_zero, List.set_cons_succ]
    exact rfl
  case hL8 => exact ⟨⟨_, rfl⟩, trivial⟩
  case hS8 => exact fun w' hb => H7.out.1.below hb
  case ho8 =>
    refine AllOk.cons ?_ ?_
    · exact fun γ => ⟨rfl, fun w' h => ex_load6 h 3 rfl rfl rfl rfl⟩
    refine AllOk.cons ?_ ?_
    · exact fun γ => ⟨rfl, fun w' h => ex_load6 h 4 rfl rfl rfl rfl⟩
    refine AllOk.cons ?_ ?_
    · exact fun γ => ⟨rfl, fun w' h => ⟨24, #[N n, N a], exec_call rfl call24 rfl (by simp only [List.map_toArray, List.map_cons, List.map_nil]; rfl), C18.out w'⟩⟩
    refine AllOk.cons ?_ ?_
    · exact fun γ => ⟨rfl, fun w' _ => rfl⟩
    refine AllOk.cons ?_ ?_
    · (refine fun γ => ⟨rfl, fun w' h => ?_⟩; clear h; go_simp)
    refine AllOk.cons ?_ ?_
    · (refine fun γ => ⟨rfl, fun w' h => ?_⟩; clear h; go_simp)
    refine AllOk.cons ?_ ?_
    · exact fun γ => ⟨rfl, fun w' => exec_made6 rfl⟩
    refine AllOk.cons ?_ ?_
    · exact fun γ => ⟨rfl, rfl, rfl, fun w' h => exec_laid6 h rfl rfl rfl⟩
    refine AllOk.cons ?_ ?_
    · exact fun γ => ⟨rfl, fun w' _ => rfl⟩
    exact trivial
  intro γ w8 l hM hl
  have M8 : Mm w8 [(γ 6, cells6 r8), (γ7_6, cells6 r8), (γ6_4, cells6 sm), (γ2_1, modc n), (γ1_0, cells6 n), (γ1_1, cells6 a), (γ1_2, cells6 b), (0, dtab)] := H7.out.1.grow hM (Nat.le_refl _) hl [6] rfl (by decide)
  have B8 : Below w.heap.size w w8 := H7.out.2.trans (hM.below.mono H7.out.2.size)
  have o8_6 : Hid (w.heap.size ≤ γ 6) := Nat.le_trans H7.out.2.size (hM.fin (Nat.le_refl _) hl (i := 6) rfl).2.1
  clear hM hl l H7
  generalize γ 6 = γ8_6 at M8 o8_6 ⊢
  clear γ
  have H8 : Hid (_ ∧ _) := ⟨M8, B8⟩
  clear M8 B8
  refine rest_at (l := []) rfl ?_
  refine rest_nil ?_
  refine then_normal ?_
  refine wp_seq ?_
  refine walk_any (by kernel_rfl) 23 [.quiet (.bool true), .quiet (.bool true), .quiet (PT γ2_1 0), .quiet (N a), .quiet (N sm), .call (N r7), .quiet (N n), .quiet (N a), .quiet (N sm), .call (N r7), .quiet (.bool true), .quiet (.bool true), .quiet (.bool true), .quiet (N r8), .quiet (N r8), .quiet (.bool true), .quiet (.bool true), .quiet (.bool true), .quiet (.int .i64 0), .quiet (.int .i64 0), .quiet (.bool true), .quiet (.bool true), .quiet (.bool true)] (fun w' => Mm w' [(γ8_6, cells6 r8), (γ7_6, cells6 r8), (γ6_4, cells6 sm), (γ2_1, modc n), (γ1_0, cells6 n), (γ1_1, cells6 a), (γ1_2, cells6 b), (0, dtab)]) ?pre9 ?F9 ?hpre9 (fun γ => ?hF9) (by kernel_rfl) ?hL9 ?hS9 ?ho9 ?he9
  case hpre9 =>
    simp only [List.take_succ_cons, List.take_zero]
    exact rfl
  case hF9 =>
    simp only [fill, Kind.val, Act.put, List.setIfInBounds_toArray, List.set_cons_zero, List.set_cons_succ]
    exact rfl
  case hL9 => exact trivial
  case hS9 => exact fun w' hb => H8.out.1.below hb
  case ho9 =>
    refine AllOk.cons ?_ ?_
    · exact fun γ => ⟨rfl, fun w' _ => rfl⟩
    refine AllOk.cons ?_ ?_
    · exact fun γ => ⟨rfl, fun w' _ => rfl⟩
    refine AllOk.cons ?_ ?_
    · exact fun γ => ⟨rfl, fun w' _ => rfl⟩
    refine AllOk.cons ?_ ?_
    · exact fun γ => ⟨rfl, fun w' h => ex_load6 h 5 rfl rfl rfl rfl⟩
    refine AllOk.cons ?_ ?_
    · exact fun γ => ⟨rfl, fun w' h => ex_load6 h 2 rfl rfl rfl rfl⟩
    refine AllOk.cons ?_ ?_
    · exact fun γ => ⟨rfl, fun w' h => ⟨25, #[PT γ2_1 0, N a, N sm], exec_call rfl call25 rfl (by simp only [List.map_toArray, List.map_cons, List.map_nil]; rfl), C15.out _ w' (h.one 3 rfl)⟩⟩
    refine AllOk.cons ?_ ?_
    · exact fun γ => ⟨rfl, fun w' h => ex_load6 h 4 rfl rfl rfl rfl⟩
    refine AllOk.cons ?_ ?_
    · exact fun γ => ⟨rfl, fun w' h => ex_load6 h 5 rfl rfl rfl rfl⟩
    refine AllOk.cons ?_ ?_
    · exact fun γ => ⟨rfl, fun w' h => ex_load6 h 2 rfl rfl rfl rfl⟩
    refine AllOk.cons ?_ ?_
    · exact fun γ => ⟨rfl, fun w' h => ⟨26, #[N n, N a, N sm], exec_call rfl call26 rfl (by simp only [List.map_toArray, List.map_cons, List.map_nil]; rfl), C16.out w'⟩⟩
    refine AllOk.cons ?_ ?_
    · exact fun γ => ⟨rfl, fun w' _ => exec_eq6 e_r7 rfl rfl rfl⟩
    refine AllOk.cons ?_ ?_
    · (refine fun γ => ⟨rfl, fun w' h => ?_⟩; clear h; go_simp)
    refine AllOk.cons ?_ ?_
    · exact fun γ => ⟨rfl, fun w' _ => rfl⟩
    refine AllOk.cons ?_ ?_
    · exact fun γ => ⟨rfl, fun w' h => ex_load6 h 1 rfl rfl rfl rfl⟩
    refine AllOk.cons ?_ ?_
    · exact fun γ => ⟨rfl, fun w' h => ex_load6 h 0 rfl rfl rfl rfl⟩
    refine AllOk.cons ?_ ?_
    · exact fun γ => ⟨rfl, fun w' _ => exec_eq6 e_r8 rfl rfl rfl⟩
    refine AllOk.cons ?_ ?_
    · (refine fun γ => ⟨rfl, fun w' h => ?_⟩; clear h; go_simp)
    refine AllOk.cons ?_ ?_
    · exact fun γ => ⟨rfl, fun w' _ => rfl⟩
    refine AllOk.cons ?_ ?_
    · exact fun γ => ⟨rfl, fun w' _ => rfl⟩
    refine AllOk.cons ?_ ?_
    · exact fun γ => ⟨rfl, fun w' _ => rfl⟩
    refine AllOk.cons ?_ ?_
    · (refine fun γ => ⟨rfl, fun w' h => ?_⟩; clear h; go_simp)
    refine AllOk.cons ?_ ?_
    · (refine fun γ => ⟨rfl, fun w' h => ?_⟩; clear h; go_simp)
    refine AllOk.cons ?_ ?_
    · exact fun γ => ⟨rfl, fun w' _ => rfl⟩
    exact trivial
  intro γ w9 l hM hl
  have M9 : Mm w9 [(γ8_6, cells6 r8), (γ7_6, cells6 r8), (γ6_4, cells6 sm), (γ2_1, modc n), (γ1_0, cells6 n), (γ1_1, cells6 a), (γ1_2, cells6 b), (0, dtab)] := H8.out.1.grow hM (Nat.le_refl _) hl [] rfl (by decide)
  have B9 : Below w.heap.size w w9 := H8.out.2.trans (hM.below.mono H8.out.2.size)
  clear hM hl l H8
  clear γ
  have H9 : Hid (_ ∧ _) := ⟨M9, B9⟩
  clear M9 B9
  refine rest_at (l := []) rfl ?_
  refine rest_nil ?_
  refine then_normal ?_
  refine wp_ret ?_
  repeat (first | refine then_ret ?_ | refine block_ret ?_)
  refine bodyPost_ret (v := .bool true) (by simp [results, Tryd.results3, go_sem, *]) rfl ?_
  exact ⟨rfl, H9.out.2⟩
set_option maxHeartbeats 4000000 in
set_option maxRecDepth 100000 in
theorem tells_6 (n a b sm r1 r2 r3 r4 r5 r6 r7 r8 : Nat) (hsm : sm < 18446744073709551616) (hx : bits BinOp.and IntKind.u64 (wd b 0) 1099511627775 = ((sm : Nat) : Int))
    (e_n : ∀ w, (Op.equalIn 10000 24 (N n) (N n)).run Tryd.prog w = .ok true w) (e_r1 : ∀ w, (Op.equalIn 10000 24 (N r1) (N r1)).run Tryd.prog w = .ok true w) (e_r2 : ∀ w, (Op.equalIn 10000 24 (N r2) (N r2)).run Tryd.prog w = .ok true w) (e_r3 : ∀ w, (Op.equalIn 10000 24 (N r3) (N r3)).run Tryd.prog w = .ok true w) (e_r4 : ∀ w, (Op.equalIn 10000 24 (N r4) (N r4)).run Tryd.prog w = .ok true w) (e_r5 : ∀ w, (Op.equalIn 10000 24 (N r5) (N r5)).run Tryd.prog w = .ok true w) (e_r6 : ∀ w, (Op.equalIn 10000 24 (N r6) (N r6)).run Tryd.prog w = .ok true w) (e_r7 : ∀ w, (Op.equalIn 10000 24 (N r7) (N r7)).run Tryd.prog w = .ok true w) (e_r8 : ∀ w, (Op.equalIn 10000 24 (N r8) (N r8)).run Tryd.prog w = .ok true w)
    (c0 : ∀ w, Calls Tryd.prog 8 #[N n] w fun e w' => Below w.heap.size w w' ∧ ∃ g, e = .returned (.tuple #[PT g 0, .int .i64 0]) ∧ w.heap.size ≤ g ∧ g < w'.heap.size ∧ Blk w' g (modc n))
    (c1 : ∀ w, Calls Tryd.prog 9 #[N n] w fun e w' => e = .returned (.bool true) ∧ Below w.heap.size w w')
    (c2 : ∀ g w, Mm w [(g, modc n)] → Calls Tryd.prog 10 #[PT g 0] w fun e w' => e = .returned (N n) ∧ Below w.heap.size w w')
    (c3 : ∀ g w, Mm w [(g, modc n)] → Calls Tryd.prog 11 #[PT g 0, N a] w fun e w' => e = .returned (N r1) ∧ Below w.heap.size w w')
    (c4 : ∀ w, Calls Tryd.prog 12 #[N n, N a] w fun e w' => e = .returned (N r1) ∧ Below w.heap.size w w')
    (c5 : ∀ g w, Mm w [(g, modc n)] → Calls Tryd.prog 13 #[PT g 0, N a, N b] w fun e w' => e = .returned (N r2) ∧ Below w.heap.size w w')
    (c6 : ∀ w, Calls Tryd.prog 14 #[N n, N a, N b] w fun e w' => e = .returned (N r2) ∧ Below w.heap.size w w')
    (c7 : ∀ g w, Mm w [(g, modc n)] → Calls Tryd.prog 15 #[PT g 0, N a, N b] w fun e w' => e = .returned (N r3) ∧ Below w.heap.size w w')
    (c8 : ∀ w, Calls Tryd.prog 16 #[N n, N a, N b] w fun e w' => e = .returned (N r3) ∧ Below w.heap.size w w')
    (c9 : ∀ g w, Mm w [(g, modc n)] → Calls Tryd.prog 17 #[PT g 0, N a, N b] w fun e w' => e = .returned (N r4) ∧ Below w.heap.size w w')
    (c10 : ∀ w, Calls Tryd.prog 18 #[N n, N a, N b] w fun e w' => e = .returned (N r4) ∧ Below w.heap.size w w')
    (c11 : ∀ g w, Mm w [(g, modc n)] → Calls Tryd.prog 19 #[PT g 0, N a] w fun e w' => e = .returned (N r5) ∧ Below w.heap.size w w')
    (c12 : ∀ w, Calls Tryd.prog 20 #[N n, N a] w fun e w' => e = .returned (N r5) ∧ Below w.heap.size w w')
    (c13 : ∀ g w, Mm w [(g, modc n)] → Calls Tryd.prog 21 #[PT g 0, N a, N b] w fun e w' => e = .returned (N r6) ∧ Below w.heap.size w w')
    (c14 : ∀ w, Calls Tryd.prog 22 #[N n, N a, N b] w fun e w' => e = .returned (N r6) ∧ Below w.heap.size w w')
    (c15 : ∀ g w, Mm w [(g, modc n)] → Calls Tryd.prog 25 #[PT g 0, N a, N sm] w fun e w' => e = .returned (N r7) ∧ Below w.heap.size w w')
    (c16 : ∀ w, Calls Tryd.prog 26 #[N n, N a, N sm] w fun e w' => e = .returned (N r7) ∧ Below w.heap.size w w')
    (c17 : ∀ g w, Mm w [(g, modc n), (0, dtab)] → Calls Tryd.prog 23 #[PT g 0, N a] w fun e w' => e = .returned (.tuple #[N r8, .int .i64 6]) ∧ Below w.heap.size w w')
    (c18 : ∀ w, Calls Tryd.prog 24 #[N n, N a] w fun e w' => e = .returned (.tuple #[N r8, .int .i64 6]) ∧ Below w.heap.size w w') (w : World) (hm : Mm w [(0, dtab)]) :
    Calls Tryd.prog 3 #[N n, N a, N b] w fun e w' => e = .returned (.bool true) ∧ Below w.heap.size w w' := by
  have H0 : Hid (_ ∧ _) := ⟨hm, Below.refl w.heap.size w⟩
  clear hm
  have HS : Hid _ := hsm
  clear hsm
  have C0 : Hid _ := c0
  have C1 : Hid _ := c1
  have C2 : Hid _ := c2
  have C3 : Hid _ := c3
  have C4 : Hid _ := c4
  have C5 : Hid _ := c5
  have C6 : Hid _ := c6
  have C7 : Hid _ := c7
  have C8 : Hid _ := c8
  have C9 : Hid _ := c9
  have C10 : Hid _ := c10
  have C11 : Hid _ := c11
  have C12 : Hid _ := c12
  have C13 : Hid _ := c13
  have C14 : Hid _ := c14
  have C15 : Hid _ := c15
  have C16 : Hid _ := c16
  have C17 : Hid _ := c17
  have C18 : Hid _ := c18
  clear c0 c1 c2 c3 c4 c5 c6 c7 c8 c9 c10 c11 c12 c13 c14 c15 c16 c17 c18
  go_enter Tryd.func3, Tryd.ntmps3
  refine wp_seq ?_
  refine walk_seq 4 [.made (cells6 n) 24, .made (cells6 a) 24, .made (cells6 b) 24, .quiet (.bool false)] (fun w' => Mm w' [(0, dtab)]) ?pre1 ?F1 ?hpre1 (fun γ => ?hF1) (by kernel_rfl) ?hL1 ?hS1 ?ho1 ?he1
  case hpre1 =>
    simp only [List.take_succ_cons, List.take_zero]
    exact rfl
  case hF1 =>
    simp only [fill, Kind.val, Act.put, List.setIfInBounds_toArray, List.set_cons_zero, List.set_cons_succ]
    exact rfl
  case hL1 => exact trivial
  case hS1 => exact fun w' hb => H0.out.1.below hb
  case ho1 =>
    refine AllOk.cons ?_ ?_
    · exact fun γ => ⟨rfl, fun w' => ex_box6 rfl rfl⟩
    refine AllOk.cons ?_ ?_
    · exact fun γ => ⟨rfl, fun w' => ex_box6 rfl rfl⟩
    refine AllOk.cons ?_ ?_
    · exact fun γ => ⟨rfl, fun w' => ex_box6 rfl rfl⟩
    refine AllOk.cons ?_ ?_
    · exact fun γ => ⟨rfl, fun w' _ => rfl⟩
    exact trivial
  intro γ w1 l hM hl
  have M1 : Mm w1 [(γ 0, cells6 n), (γ 1, cells6 a), (γ 2, cells6 b), (0, dtab)] := H0.out.1.grow hM (Nat.le_refl _) hl [0, 1, 2] rfl (by decide)
  have B1 : Below w.heap.size w w1 := H0.out.2.trans (hM.below.mono H0.out.2.size)
  have o1_0 : Hid (w.heap.size ≤ γ 0) := Nat.le_trans H0.out.2.size (hM.fin (Nat.le_refl _) hl (i := 0) rfl).2.1
  have o1_1 : Hid (w.heap.size ≤ γ 1) := Nat.le_trans H0.out.2.size (hM.fin (Nat.le_refl _) hl (i := 1) rfl).2.1
  have o1_2 : Hid (w.heap.size ≤ γ 2) := Nat.le_trans H0.out.2.size (hM.fin (Nat.le_refl _) hl (i := 2) rfl).2.1
  clear hM hl l
  generalize γ 0 = γ1_0 at M1 o1_0 ⊢
  generalize γ 1 = γ1_1 at M1 o1_1 ⊢
  generalize γ 2 = γ1_2 at M1 o1_2 ⊢
  clear γ
  have H1 : Hid (_ ∧ _) := ⟨M1, B1⟩
  clear M1 B1
  refine rest_at (l := []) rfl ?_
  refine rest_nil ?_
  refine then_normal ?_
  refine wp_seq ?_
  refine walk_seq 2 [.quiet (N n), .born (fun g => .tuple #[PT g 0, .int .i64 0]) (modc n)] (fun w' => Mm w' [(γ1_0, cells6 n), (γ1_1, cells6 a), (γ1_2, cells6 b), (0, dtab)]) ?pre2 ?F2 ?hpre2 (fun γ => ?hF2) (by kernel_rfl) ?hL2 ?hS2 ?ho2 ?he2
  case hpre2 =>
    simp only [List.take_succ_cons, List.take_zero]
    exact rfl
  case hF2 =>
    simp only [fill, Kind.val, Act.put, List.setIfInBounds_toArray, List.set_cons_zero, List.set_cons_succ]
    exact rfl
  case hL2 => exact trivial
  case hS2 => exact fun w' hb => H1.out.1.below hb
  case ho2 =>
    refine AllOk.cons ?_ ?_
    · exact fun γ => ⟨rfl, fun w' h => ex_load6 h 0 rfl rfl rfl rfl⟩
    refine AllOk.cons ?_ ?_
    · exact fun γ => ⟨rfl, fun w' h => ⟨8, #[N n], exec_call rfl call8 rfl (by simp only [List.map_toArray, List.map_cons, List.map_nil]; rfl), C0.out w'⟩⟩
    exact trivial
  intro γ w2 l hM hl
  have M2 : Mm w2 [(γ 1, modc n), (γ1_0, cells6 n), (γ1_1, cells6 a), (γ1_2, cells6 b), (0, dtab)] := H1.out.1.grow hM (Nat.le_refl _) hl [1] rfl (by decide)
  have B2 : Below w.heap.size w w2 := H1.out.2.trans (hM.below.mono H1.out.2.size)
  have o2_1 : Hid (w.heap.size ≤ γ 1) := Nat.le_trans H1.out.2.size (hM.fin (Nat.le_refl _) hl (i := 1) rfl).2.1
  clear hM hl l H1
  generalize γ 1 = γ2_1 at M2 o2_1 ⊢
  clear γ
  have H2 : Hid (_ ∧ _) := ⟨M2, B2⟩
  clear M2 B2
  refine rest_at (l := [2, 3, 4, 5, 6]) rfl ?_
  refine rest_set (d := 15) rfl rfl rfl rfl ?_
  simp only [Act.put, List.setIfInBounds_toArray, List.set_cons_zero, List.set_cons_succ]
  refine rest_set (d := 18) (v := PT γ2_1 0) (w' := w2) rfl rfl rfl (by go_simp) ?_
  simp only [Act.put, List.setIfInBounds_toArray, List.set_cons_zero, List.set_cons_succ]
  refine rest_set (d := 19) (v := .int .i64 0) (w' := w2) rfl rfl rfl (by go_simp) ?_
  simp only [Act.put, List.setIfInBounds_toArray, List.set_cons_zero, List.set_cons_succ]
  refine rest_set (d := 7) rfl rfl rfl rfl ?_
  simp only [Act.put, List.setIfInBounds_toArray, List.set_cons_zero, List.set_cons_succ]
  refine rest_set (d := 8) rfl rfl rfl rfl ?_
  simp only [Act.put, List.setIfInBounds_toArray, List.set_cons_zero, List.set_cons_succ]
  refine rest_nil ?_
  refine then_normal ?_
  refine wp_seq ?_
  refine wp_seq ?_
  refine walk_seq 3 [.quiet (N n), .call (.bool true), .quiet (.bool false)] (fun w' => Mm w' [(γ2_1, modc n), (γ1_0, cells6 n), (γ1_1, cells6 a), (γ1_2, cells6 b), (0, dtab)]) ?pre3 ?F3 ?hpre3 (fun γ => ?hF3) (by kernel_rfl) ?hL3 ?hS3 ?ho3 ?he3
  case hpre3 =>
    simp only [List.take_succ_cons, List.take_zero]
    exact rfl
  case hF3 =>
    simp only [fill, Kind.val, Act.put, List.setIfInBounds_toArray, List.set_cons_zero, List.set_cons_succ]
    exact rfl
  case hL3 => exact trivial
  case hS3 => exact fun w' hb => H2.out.1.below hb
  case ho3 =>
    refine AllOk.cons ?_ ?_
    · exact fun γ => ⟨rfl, fun w' h => ex_load6 h 1 rfl rfl rfl rfl⟩
    refine AllOk.cons ?_ ?_
    · exact fun γ => ⟨rfl, fun w' h => ⟨9, #[N n], exec_call rfl call9 rfl (by simp only [List.map_toArray, List.map_cons, List.map_nil]; rfl), C1.out w'⟩⟩
    refine AllOk.cons ?_ ?_
    · (refine fun γ => ⟨rfl, fun w' h => ?_⟩; clear h; go_simp)
    exact trivial
  intro γ w3 l hM hl
  have M3 : Mm w3 [(γ2_1, modc n), (γ1_0, cells6 n), (γ1_1, cells6 a), (γ1_2, cells6 b), (0, dtab)] := H2.out.1.grow hM (Nat.le_refl _) hl [] rfl (by decide)
  have B3 : Below w.heap.size w w3 := H2.out.2.trans (hM.below.mono H2.out.2.size)
  clear hM hl l H2
  clear γ
  have H3 : Hid (_ ∧ _) := ⟨M3, B3⟩
  clear M3 B3
  refine rest_at (l := []) rfl ?_
  refine rest_nil ?_
  refine then_normal ?_
  refine wp_cond_false rfl ?_
  refine wp_skip ?_
  refine then_normal ?_
  refine wp_seq ?_
  refine wp_seq ?_
  refine walk_any (by kernel_rfl) 12 [.quiet (PT γ2_1 0), .quiet (.bool false), .quiet (.bool false), .quiet (.int .i64 0), .quiet (.bool false), .quiet (.bool false), .quiet (.bool false), .quiet (PT γ2_1 0), .call (N n), .quiet (N n), .quiet (.bool false), .quiet (.bool false)] (fun w' => Mm w' [(γ2_1, modc n), (γ1_0, cells6 n), (γ1_1, cells6 a), (γ1_2, cells6 b), (0, dtab)]) ?pre4 ?F4 ?hpre4 (fun γ => ?hF4) (by kernel_rfl) ?hL4 ?hS4 ?ho4 ?he4
  case hpre4 =>
    simp only [List.take_succ_cons, List.take_zero]
    exact rfl
  case hF4 =>
    simp only [fill, Kind.val, Act.put, List.setIfInBounds_toArray, List.set_cons_zero, List.set_cons_succ]
    exact rfl
  case hL4 => exact trivial
  case hS4 => exact fun w' hb => H3.out.1.below hb
  case ho4 =>
    refine AllOk.cons ?_ ?_
    · exact fun γ => ⟨rfl, fun w' _ => rfl⟩
    refine AllOk.cons ?_ ?_
    · (refine fun γ => ⟨rfl, fun w' h => ?_⟩; clear h; go_simp)
    refine AllOk.cons ?_ ?_
    · exact fun γ => ⟨rfl, fun w' _ => rfl⟩
    refine AllOk.cons ?_ ?_
    · exact fun γ => ⟨rfl, fun w' _ => rfl⟩
    refine AllOk.cons ?_ ?_
    · (refine fun γ => ⟨rfl, fun w' h => ?_⟩; clear h; go_simp)
    refine AllOk.cons ?_ ?_
    · (refine fun γ => ⟨rfl, fun w' h => ?_⟩; clear h; go_simp)
    refine AllOk.cons ?_ ?_
    · exact fun γ => ⟨rfl, fun w' _ => rfl⟩
    refine AllOk.cons ?_ ?_
    · exact fun γ => ⟨rfl, fun w' _ => rfl⟩
    refine AllOk.cons ?_ ?_
    · exact fun γ => ⟨rfl, fun w' h => ⟨10, #[PT γ2_1 0], exec_call rfl call10 rfl (by simp only [List.map_toArray, List.map_cons, List.map_nil]; rfl), C2.out _ w' (h.one 0 rfl)⟩⟩
    refine AllOk.cons ?_ ?_
    · exact fun γ => ⟨rfl, fun w' h => ex_load6 h 1 rfl rfl rfl rfl⟩
    refine AllOk.cons ?_ ?_
    · exact fun γ => ⟨rfl, fun w' _ => exec_neq6 e_n rfl rfl rfl⟩
    refine AllOk.cons ?_ ?_
    · (refine fun γ => ⟨rfl, fun w' h => ?_⟩; clear h; go_simp)
    exact trivial
  intro γ w4 l hM hl
  have M4 : Mm w4 [(γ2_1, modc n), (γ1_0, cells6 n), (γ1_1, cells6 a), (γ1_2, cells6 b), (0, dtab)] := H3.out.1.grow hM (Nat.le_refl _) hl [] rfl (by decide)
  have B4 : Below w.heap.size w w4 := H3.out.2.trans (hM.below.mono H3.out.2.size)
  clear hM hl l H3
  clear γ
  have H4 : Hid (_ ∧ _) := ⟨M4, B4⟩
  clear M4 B4
  refine rest_at (l := []) rfl ?_
  refine rest_nil ?_
  refine then_normal ?_
  refine wp_cond_false rfl ?_
  refine wp_skip ?_
  refine then_normal ?_
  refine wp_seq ?_
  refine walk_any (by kernel_rfl) 61 [.quiet (PT γ2_1 0), .quiet (N a), .call (N r1), .quiet (N n), .quiet (N a), .call (N r1), .quiet (.bool true), .quiet (.bool true), .quiet (PT γ2_1 0), .quiet (N a), .quiet (N b), .call (N r2), .quiet (N n), .quiet (N a), .quiet (N b), .call (N r2), .quiet (.bool true), .quiet (.bool true), .quiet (.bool true), .quiet (PT γ2_1 0), .quiet (N a), .quiet (N b), .call (N r3), .quiet (N n), .quiet (N a), .quiet (N b), .call (N r3), .quiet (.bool true), .quiet (.bool true), .quiet (.bool true), .quiet (PT γ2_1 0), .quiet (N a), .quiet (N b), .call (N r4), .quiet (N n), .quiet (N a), .quiet (N b), .call (N r4), .quiet (.bool true), .quiet (.bool true), .quiet (.bool true), .quiet (PT γ2_1 0), .quiet (N a), .call (N r5), .quiet (N n), .quiet (N a), .call (N r5), .quiet (.bool true), .quiet (.bool true), .quiet (.bool true), .quiet (PT γ2_1 0), .quiet (N a), .quiet (N b), .call (N r6), .quiet (N n), .quiet (N a), .quiet (N b), .call (N r6), .quiet (.bool true), .quiet (.bool true), .quiet (.bool true)] (fun w' => Mm w' [(γ2_1, modc n), (γ1_0, cells6 n), (γ1_1, cells6 a), (γ1_2, cells6 b), (0, dtab)]) ?pre5 ?F5 ?hpre5 (fun γ => ?hF5) (by kernel_rfl) ?hL5 ?hS5 ?ho5 ?he5
  case hpre5 =>
    simp only [List.take_succ_cons, List.take_zero]
    exact rfl
  case hF5 =>
    simp only [fill, Kind.val, Act.put, List.setIfInBounds_toArray, List.set_cons_zero, List.set_cons_succ]
    exact rfl
  case hL5 => exact trivial
  case hS5 => exact fun w' hb => H4.out.1.below hb
  case ho5 =>
    refine AllOk.cons ?_ ?_
    · exact fun γ => ⟨rfl, fun w' _ => rfl⟩
    refine AllOk.cons ?_ ?_
    · exact fun γ => ⟨rfl, fun w' h => ex_load6 h 2 rfl rfl rfl rfl⟩
    refine AllOk.cons ?_ ?_
    · exact fun γ => ⟨rfl, fun w' h => ⟨11, #[PT γ2_1 0, N a], exec_call rfl call11 rfl (by simp only [List.map_toArray, List.map_cons, List.map_nil]; rfl), C3.out _ w' (h.one 0 rfl)⟩⟩
    refine AllOk.cons ?_ ?_
    · exact fun γ => ⟨rfl, fun w' h => ex_load6 h 1 rfl rfl rfl rfl⟩
    refine AllOk.cons ?_ ?_
    · exact fun γ => ⟨rfl, fun w' h => ex_load6 h 2 rfl rfl rfl rfl⟩
    refine AllOk.cons ?_ ?_
    · exact fun γ => ⟨rfl, fun w' h => ⟨12, #[N n, N a], exec_call rfl call12 rfl (by simp only [List.map_toArray, List.map_cons, List.map_nil]; rfl), C4.out w'⟩⟩
    refine AllOk.cons ?_ ?_
    · exact fun γ => ⟨rfl, fun w' _ => exec_eq6 e_r1 rfl rfl rfl⟩
    refine AllOk.cons ?_ ?_
    · exact fun γ => ⟨rfl, fun w' _ => rfl⟩
    refine AllOk.cons ?_ ?_
    · exact fun γ => ⟨rfl, fun w' _ => rfl⟩
    refine AllOk.cons ?_ ?_
    · exact fun γ => ⟨rfl, fun w' h => ex_load6 h 2 rfl rfl rfl rfl⟩
    refine AllOk.cons ?_ ?_
    · exact fun γ => ⟨rfl, fun w' h => ex_load6 h 3 rfl rfl rfl rfl⟩
    refine AllOk.cons ?_ ?_
    · exact fun γ => ⟨rfl, fun w' h => ⟨13, #[PT γ2_1 0, N a, N b], exec_call rfl call13 rfl (by simp only [List.map_toArray, List.map_cons, List.map_nil]; rfl), C5.out _ w' (h.one 0 rfl)⟩⟩
    refine AllOk.cons ?_ ?_
    · exact fun γ => ⟨rfl, fun w' h => ex_load6 h 1 rfl rfl rfl rfl⟩
    refine AllOk.cons ?_ ?_
    · exact fun γ => ⟨rfl, fun w' h => ex_load6 h 2 rfl rfl rfl rfl⟩
    refine AllOk.cons ?_ ?_
    · exact fun γ => ⟨rfl, fun w' h => ex_load6 h 3 rfl rfl rfl rfl⟩
    refine AllOk.cons ?_ ?_
    · exact fun γ => ⟨rfl, fun w' h => ⟨14, #[N n, N a, N b], exec_call rfl call14 rfl (by simp only [List.map_toArray, List.map_cons, List.map_nil]; rfl), C6.out w'⟩⟩
    refine AllOk.cons ?_ ?_
    · exact fun γ => ⟨rfl, fun w' _ => exec_eq6 e_r2 rfl rfl rfl⟩
    refine AllOk.cons ?_ ?_
    · (refine fun γ => ⟨rfl, fun w' h => ?_⟩; clear h; go_simp)
    refine AllOk.cons ?_ ?_
    · exact fun γ => ⟨rfl, fun w' _ => rfl⟩
    refine AllOk.cons ?_ ?_
    · exact fun γ => ⟨rfl, fun w' _ => rfl⟩
    refine AllOk.cons ?_ ?_
    · exact fun γ => ⟨rfl, fun w' h => ex_load6 h 2 rfl rfl rfl rfl⟩
    refine AllOk.cons ?_ ?_
    · exact fun γ => ⟨rfl, fun w' h => ex_load6 h 3 rfl rfl rfl rfl⟩
    refine AllOk.cons ?_ ?_
    · exact fun γ => ⟨rfl, fun w' h => ⟨15, #[PT γ2_1 0, N a, N b], exec_call rfl call15 rfl (by simp only [List.map_toArray, List.map_cons, List.map_nil]; rfl), C7.out _ w' (h.one 0 rfl)⟩⟩
    refine AllOk.cons ?_ ?_
    · exact fun γ => ⟨rfl, fun w' h => ex_load6 h 1 rfl rfl rfl rfl⟩
    refine AllOk.cons ?_ ?_
    · exact fun γ => ⟨rfl, fun w' h => ex_load6 h 2 rfl rfl rfl rfl⟩
    refine AllOk.cons ?_ ?_
    · exact fun γ => ⟨rfl, fun w' h => ex_load6 h 3 rfl rfl rfl rfl⟩
    refine AllOk.cons ?_ ?_
    · exact fun γ => ⟨rfl, fun w' h => ⟨16, #[N n, N a, N b], exec_call rfl call16 rfl (by simp only [List.map_toArray, List.map_cons, List.map_nil]; rfl), C8.out w'⟩⟩
    refine AllOk.cons ?_ ?_
    · exact fun γ => ⟨rfl, fun w' _ => exec_eq6 e_r3 rfl rfl rfl⟩
    refine AllOk.cons ?_ ?_
    · (refine fun γ => ⟨rfl, fun w' h => ?_⟩; clear h; go_simp)
    refine AllOk.cons ?_ ?_
    · exact fun γ => ⟨rfl, fun w' _ => rfl⟩
    refine AllOk.cons ?_ ?_
    · exact fun γ => ⟨rfl, fun w' _ => rfl⟩
    refine AllOk.cons ?_ ?_
    · exact fun γ => ⟨rfl, fun w' h => ex_load6 h 2 rfl rfl rfl rfl⟩
    refine AllOk.cons ?_ ?_
    · exact fun γ => ⟨rfl, fun w' h => ex_load6 h 3 rfl rfl rfl rfl⟩
    refine AllOk.cons ?_ ?_
    · exact fun γ => ⟨rfl, fun w' h => ⟨17, #[PT γ2_1 0, N a, N b], exec_call rfl call17 rfl (by simp only [List.map_toArray, List.map_cons, List.map_nil]; rfl), C9.out _ w' (h.one 0 rfl)⟩⟩
    refine AllOk.cons ?_ ?_
    · exact fun γ => ⟨rfl, fun w' h => ex_load6 h 1 rfl rfl rfl rfl⟩
    refine AllOk.cons ?_ ?_
    · exact fun γ => ⟨rfl, fun w' h => ex_load6 h 2 rfl rfl rfl rfl⟩
    refine AllOk.cons ?_ ?_
    · exact fun γ => ⟨rfl, fun w' h => ex_load6 h 3 rfl rfl rfl rfl⟩
    refine AllOk.cons ?_ ?_
    · exact fun γ => ⟨rfl, fun w' h => ⟨18, #[N n, N a, N b], exec_call rfl call18 rfl (by simp only [List.map_toArray, List.map_cons, List.map_nil]; rfl), C10.out w'⟩⟩
    refine AllOk.cons ?_ ?_
    · exact fun γ => ⟨rfl, fun w' _ => exec_eq6 e_r4 rfl rfl rfl⟩
    refine AllOk.cons ?_ ?_
    · (refine fun γ => ⟨rfl, fun w' h => ?_⟩; clear h; go_simp)
    refine AllOk.cons ?_ ?_
    · exact fun γ => ⟨rfl, fun w' _ => rfl⟩
    refine AllOk.cons ?_ ?_
    · exact fun γ => ⟨rfl, fun w' _ => rfl⟩
    refine AllOk.cons ?_ ?_
    · exact fun γ => ⟨rfl, fun w' h => ex_load6 h 2 rfl rfl rfl rfl⟩
    refine AllOk.cons ?_ ?_
    · exact fun γ => ⟨rfl, fun w' h => ⟨19, #[PT γ2_1 0, N a], exec_call rfl call19 rfl (by simp only [List.map_toArray, List.map_cons, List.map_nil]; rfl), C11.out _ w' (h.one 0 rfl)⟩⟩
    refine AllOk.cons ?_ ?_
    · exact fun γ => ⟨rfl, fun w' h => ex_load6 h 1 rfl rfl rfl rfl⟩
    refine AllOk.cons ?_ ?_
    · exact fun γ => ⟨rfl, fun w' h => ex_load6 h 2 rfl rfl rfl rfl⟩
    refine AllOk.cons ?_ ?_
    · exact fun γ => ⟨rfl, fun w' h => ⟨20, #[N n, N a], exec_call rfl call20 rfl (by simp only [List.map_toArray, List.map_cons, List.map_nil]; rfl), C12.out w'⟩⟩
    refine AllOk.cons ?_ ?_
    · exact fun γ => ⟨rfl, fun w' _ => exec_eq6 e_r5 rfl rfl rfl⟩
    refine AllOk.cons ?_ ?_
    · (refine fun γ => ⟨rfl, fun w' h => ?_⟩; clear h; go_simp)
    refine AllOk.cons ?_ ?_
    · exact fun γ => ⟨rfl, fun w' _ => rfl⟩
    refine AllOk.cons ?_ ?_
    · exact fun γ => ⟨rfl, fun w' _ => rfl⟩
    refine AllOk.cons ?_ ?_
    · exact fun γ => ⟨rfl, fun w' h => ex_load6 h 2 rfl rfl rfl rfl⟩
    refine AllOk.cons ?_ ?_
    · exact fun γ => ⟨rfl, fun w' h => ex_load6 h 3 rfl rfl rfl rfl⟩
    refine AllOk.cons ?_ ?_
    · exact fun γ => ⟨rfl, fun w' h => ⟨21, #[PT γ2_1 0, N a, N b], exec_call rfl call21 rfl (by simp only [List.map_toArray, List.map_cons, List.map_nil]; rfl), C13.out _ w' (h.one 0 rfl)⟩⟩
    refine AllOk.cons ?_ ?_
    · exact fun γ => ⟨rfl, fun w' h => ex_load6 h 1 rfl rfl rfl rfl⟩
    refine AllOk.cons ?_ ?_
    · exact fun γ => ⟨rfl, fun w' h => ex_load6 h 2 rfl rfl rfl rfl⟩
    refine AllOk.cons ?_ ?_
    · exact fun γ => ⟨rfl, fun w' h => ex_load6 h 3 rfl rfl rfl rfl⟩
    refine AllOk.cons ?_ ?_
    · exact fun γ => ⟨rfl, fun w' h => ⟨22, #[N n, N a, N b], exec_call rfl call22 rfl (by simp only [List.map_toArray, List.map_cons, List.map_nil]; rfl), C14.out w'⟩⟩
    refine AllOk.cons ?_ ?_
    · exact fun γ => ⟨rfl, fun w' _ => exec_eq6 e_r6 rfl rfl rfl⟩
    refine AllOk.cons ?_ ?_
    · (refine fun γ => ⟨rfl, fun w' h => ?_⟩; clear h; go_simp)
    refine AllOk.cons ?_ ?_
    · exact fun γ => ⟨rfl, fun w' _ => rfl⟩
    exact trivial
  intro γ w5 l hM hl
  have M5 : Mm w5 [(γ2_1, modc n), (γ1_0, cells6 n), (γ1_1, cells6 a), (γ1_2, cells6 b), (0, dtab)] := H4.out.1.grow hM (Nat.le_refl _) hl [] rfl (by decide)
  have B5 : Below w.heap.size w w5 := H4.out.2.trans (hM.below.mono H4.out.2.size)
  clear hM hl l H4
  clear γ
  have H5 : Hid (_ ∧ _) := ⟨M5, B5⟩
  clear M5 B5
  refine rest_at (l := []) rfl ?_
  refine rest_nil ?_
  refine then_normal ?_
  refine wp_seq ?_
  refine walk_seq 6 [.quiet (PT γ1_2 0), .quiet (.int .u64 (wd b 0)), .quiet (.int .u64 ((sm : Nat) : Int)), .quiet (N sm), .made zero6 24, .laid 4 zero6 (cells6 sm)] (fun w' => Mm w' [(γ2_1, modc n), (γ1_0, cells6 n), (γ1_1, cells6 a), (γ1_2, cells6 b), (0, dtab)]) ?pre6 ?F6 ?hpre6 (fun γ => ?hF6) (by kernel_rfl) ?hL6 ?hS6 ?ho6 ?he6
  case hpre6 =>
    simp only [List.take_succ_cons, List.take_zero]
    exact rfl
  case hF6 =>
    simp only [fill, Kind.val, Act.put, List.setIfInBounds_toArray, List.set_cons_zero, List.set_cons_succ]
    exact rfl
  case hL6 => exact ⟨⟨_, rfl⟩, trivial⟩
  case hS6 => exact fun w' hb => H5.out.1.below hb
  case ho6 =>
    refine AllOk.cons ?_ ?_
    · (refine fun γ => ⟨rfl, fun w' h => ?_⟩; clear h; go_simp)
    refine AllOk.cons ?_ ?_
    · exact fun γ => ⟨rfl, fun w' h => ex_load1 h 3 rfl rfl rfl rfl⟩
    refine AllOk.cons ?_ ?_
    · (refine fun γ => ⟨rfl, fun w' h => ?_⟩; clear h; go_simp)
    refine AllOk.cons ?_ ?_
    · exact fun γ => ⟨rfl, fun w' _ => ex_buildx HS.out rfl rfl⟩
    refine AllOk.cons ?_ ?_
    · exact fun γ => ⟨rfl, fun w' => exec_made6 rfl⟩
    refine AllOk.cons ?_ ?_
    · exact fun γ => ⟨rfl, rfl, rfl, fun w' h => exec_laid6 h rfl rfl rfl⟩
    exact trivial
  intro γ w6 l hM hl
  have M6 : Mm w6 [(γ 4, cells6 sm), (γ2_1, modc n), (γ1_0, cells6 n), (γ1_1, cells6 a), (γ1_2, cells6 b), (0, dtab)] := H5.out.1.grow hM (Nat.le_refl _) hl [4] rfl (by decide)
  have B6 : Below w.heap.size w w6 := H5.out.2.trans (hM.below.mono H5.out.2.size)
  have o6_4 : Hid (w.heap.size ≤ γ 4) := Nat.le_trans H5.out.2.size (hM.fin (Nat.le_refl _) hl (i := 4) rfl).2.1
  clear hM hl l H5
  generalize γ 4 = γ6_4 at M6 o6_4 ⊢
  clear γ
  have H6 : Hid (_ ∧ _) := ⟨M6, B6⟩
  clear M6 B6
  refine rest_at (l := []) rfl ?_
  refine rest_nil ?_
  refine then_normal ?_
  refine wp_seq ?_
  refine walk_seq 9 [.quiet (PT γ2_1 0), .quiet (N a), .call (.tuple #[N r8, .int .i64 6]), .quiet (.tuple #[N r8, .int .i64 6]), .quiet (N r8), .quiet (.int .i64 6), .made zero6 24, .laid 6 zero6 (cells6 r8), .quiet (.int .i64 6)] (fun w' => Mm w' [(γ6_4, cells6 sm), (γ2_1, modc n), (γ1_0, cells6 n), (γ1_1, cells6 a), (γ1_2, cells6 b), (0, dtab)]) ?pre7 ?F7 ?hpre7 (fun γ => ?hF7) (by kernel_rfl) ?hL7 ?hS7 ?ho7 ?he7
  case hpre7 =>
    simp only [List.take_succ_cons, List.take_zero]
    exact rfl
  case hF7 =>
    simp only [fill, Kind.val, Act.put, List.setIfInBounds_toArray, List.set_cons_zero, List.set_cons_succ]
    exact rfl
  case hL7 => exact ⟨⟨_, rfl⟩, trivial⟩
  case hS7 => exact fun w' hb => H6.out.1.below hb
  case ho7 =>
    refine AllOk.cons ?_ ?_
    · exact fun γ => ⟨rfl, fun w' _ => rfl⟩
    refine AllOk.cons ?_ ?_
    · exact fun γ => ⟨rfl, fun w' h => ex_load6 h 3 rfl rfl rfl rfl⟩
    refine AllOk.cons ?_ ?_
    · exact fun γ => ⟨rfl, fun w' h => ⟨23, #[PT γ2_1 0, N a], exec_call rfl call23 rfl (by simp only [List.map_toArray, List.map_cons, List.map_nil]; rfl), C17.out _ w' (h.two 1 5 rfl rfl (by decide))⟩⟩
    refine AllOk.cons ?_ ?_
    · exact fun γ => ⟨rfl, fun w' _ => rfl⟩
    refine AllOk.cons ?_ ?_
    · (refine fun γ => ⟨rfl, fun w' h => ?_⟩; clear h; go_simp)
    refine AllOk.cons ?_ ?_
    · (refine fun γ => ⟨rfl, fun w' h => ?_⟩; clear h; go_simp)
    refine AllOk.cons ?_ ?_
    · exact fun γ => ⟨rfl, fun w' => exec_made6 rfl⟩
    refine AllOk.cons ?_ ?_
    · exact fun γ => ⟨rfl, rfl, rfl, fun w' h => exec_laid6 h rfl rfl rfl⟩
    refine AllOk.cons ?_ ?_
    · exact fun γ => ⟨rfl, fun w' _ => rfl⟩
    exact trivial
  intro γ w7 l hM hl
  have M7 : Mm w7 [(γ 6, cells6 r8), (γ6_4, cells6 sm), (γ2_1, modc n), (γ1_0, cells6 n), (γ1_1, cells6 a), (γ1_2, cells6 b), (0, dtab)] := H6.out.1.grow hM (Nat.le_refl _) hl [6] rfl (by decide)
  have B7 : Below w.heap.size w w7 := H6.out.2.trans (hM.below.mono H6.out.2.size)
  have o7_6 : Hid (w.heap.size ≤ γ 6) := Nat.le_trans H6.out.2.size (hM.fin (Nat.le_refl _) hl (i := 6) rfl).2.1
  clear hM hl l H6
  generalize γ 6 = γ7_6 at M7 o7_6 ⊢
  clear γ
  have H7 : Hid (_ ∧ _) := ⟨M7, B7⟩
  clear M7 B7
  refine rest_at (l := []) rfl ?_
  refine rest_nil ?_
  refine then_normal ?_
  refine wp_seq ?_
  refine walk_seq 9 [.quiet (N n), .quiet (N a), .call (.tuple #[N r8, .int .i64 6]), .quiet (.tuple #[N r8, .int .i64 6]), .quiet (N r8), .quiet (.int .i64 6), .made zero6 24, .laid 6 zero6 (cells6 r8), .quiet (.int .i64 6)] (fun w' => Mm w' [(γ7_6, cells6 r8), (γ6_4, cells6 sm), (γ2_1, modc n), (γ1_0, cells6 n), (γ1_1, cells6 a), (γ1_2, cells6 b), (0, dtab)]) ?pre8 ?F8 ?hpre8 (fun γ => ?hF8) (by kernel_rfl) ?hL8 ?hS8 ?ho8 ?he8
  case hpre8 =>
    simp only [List.take_succ_cons, List.take_zero]
    exact rfl
  case hF8 =>
    simp only [fill, Kind.val, Act.put, List.setIfInBounds_toArray, List.set_cons_zero, List.set_cons_succ]
    exact rfl
  case hL8 => exact ⟨⟨_, rfl⟩, trivial⟩
  case hS8 => exact fun w' hb => H7.out.1.below hb
  case ho8 =>
    refine AllOk.cons ?_ ?_
    · exact fun γ => ⟨rfl, fun w' h => ex_load6 h 3 rfl rfl rfl rfl⟩
    refine AllOk.cons ?_ ?_
    · exact fun γ => ⟨rfl, fun w' h => ex_load6 h 4 rfl rfl rfl rfl⟩
    refine AllOk.cons ?_ ?_
    · exact fun γ => ⟨rfl, fun w' h => ⟨24, #[N n, N a], exec_call rfl call24 rfl (by simp only [List.map_toArray, List.map_cons, List.map_nil]; rfl), C18.out w'⟩⟩
    refine AllOk.cons ?_ ?_
    · exact fun γ => ⟨rfl, fun w' _ => rfl⟩
    refine AllOk.cons ?_ ?_
    · (refine fun γ => ⟨rfl, fun w' h => ?_⟩; clear h; go_simp)
    refine AllOk.cons ?_ ?_
    · (refine fun γ => ⟨rfl, fun w' h => ?_⟩; clear h; go_simp)
    refine AllOk.cons ?_ ?_
    · exact fun γ => ⟨rfl, fun w' => exec_made6 rfl⟩
    refine AllOk.cons ?_ ?_
    · exact fun γ => ⟨rfl, rfl, rfl, fun w' h => exec_laid6 h rfl rfl rfl⟩
    refine AllOk.cons ?_ ?_
    · exact fun γ => ⟨rfl, fun w' _ => rfl⟩
    exact trivial
  intro γ w8 l hM hl
  have M8 : Mm w8 [(γ 6, cells6 r8), (γ7_6, cells6 r8), (γ6_4, cells6 sm), (γ2_1, modc n), (γ1_0, cells6 n), (γ1_1, cells6 a), (γ1_2, cells6 b), (0, dtab)] := H7.out.1.grow hM (Nat.le_refl _) hl [6] rfl (by decide)
  have B8 : Below w.heap.size w w8 := H7.out.2.trans (hM.below.mono H7.out.2.size)
  have o8_6 : Hid (w.heap.size ≤ γ 6) := Nat.le_trans H7.out.2.size (hM.fin (Nat.le_refl _) hl (i := 6) rfl).2.1
  clear hM hl l H7
  generalize γ 6 = γ8_6 at M8 o8_6 ⊢
  clear γ
  have H8 : Hid (_ ∧ _) := ⟨M8, B8⟩
  clear M8 B8
  refine rest_at (l := []) rfl ?_
  refine rest_nil ?_
  refine then_normal ?_
  refine wp_seq ?_
  refine walk_any (by kernel_rfl) 23 [.quiet (.bool true), .quiet (.bool true), .quiet (PT γ2_1 0), .quiet (N a), .quiet (N sm), .call (N r7), .quiet (N n), .quiet (N a), .quiet (N sm), .call (N r7), .quiet (.bool true), .quiet (.bool true), .quiet (.bool true), .quiet (N r8), .quiet (N r8), .quiet (.bool true), .quiet (.bool true), .quiet (.bool true), .quiet (.int .i64 6), .quiet (.int .i64 6), .quiet (.bool true), .quiet (.bool true), .quiet (.bool true)] (fun w' => Mm w' [(γ8_6, cells6 r8), (γ7_6, cells6 r8), (γ6_4, cells6 sm), (γ2_1, modc n), (γ1_0, cells6 n), (γ1_1, cells6 a), (γ1_2, cells6 b), (0, dtab)]) ?pre9 ?F9 ?hpre9 (fun γ => ?hF9) (by kernel_rfl) ?hL9 ?hS9 ?ho9 ?he9
  case hpre9 =>
    simp only [List.take_succ_cons, List.take_zero]
    exact rfl
  case hF9 =>
    simp only [fill, Kind.val, Act.put, List.setIfInBounds_toArray, List.set_cons_zero, List.set_cons_succ]
    exact rfl
  case hL9 => exact trivial
  case hS9 => exact fun w' hb => H8.out.1.below hb
  case ho9 =>
    refine AllOk.cons ?_ ?_
    · exact fun γ => ⟨rfl, fun w' _ => rfl⟩
    refine AllOk.cons ?_ ?_
    · exact fun γ => ⟨rfl, fun w' _ => rfl⟩
    refine AllOk.cons ?_ ?_
    · exact fun γ => ⟨rfl, fun w' _ => rfl⟩
    refine AllOk.cons ?_ ?_
    · exact fun γ => ⟨rfl, fun w' h => ex_load6 h 5 rfl rfl rfl rfl⟩
    refine AllOk.cons ?_ ?_
    · exact fun γ => ⟨rfl, fun w' h => ex_load6 h 2 rfl rfl rfl rfl⟩
    refine AllOk.cons ?_ ?_
    · exact fun γ => ⟨rfl, fun w' h => ⟨25, #[PT γ2_1 0, N a, N sm], exec_call rfl call25 rfl (by simp only [List.map_toArray, List.map_cons, List.map_nil]; rfl), C15.out _ w' (h.one 3 rfl)⟩⟩
    refine AllOk.cons ?_ ?_
    · exact fun γ => ⟨rfl, fun w' h => ex_load6 h 4 rfl rfl rfl rfl⟩
    refine AllOk.cons ?_ ?_
    · exact fun γ => ⟨rfl, fun w' h => ex_load6 h 5 rfl rfl rfl rfl⟩
    refine AllOk.cons ?_ ?_
    · exact fun γ => ⟨rfl, fun w' h => ex_load6 h 2 rfl rfl rfl rfl⟩
    refine AllOk.cons ?_ ?_
    · exact fun γ => ⟨rfl, fun w' h => ⟨26, #[N n, N a, N sm], exec_call rfl call26 rfl (by simp only [List.map_toArray, List.map_cons, List.map_nil]; rfl), C16.out w'⟩⟩
    refine AllOk.cons ?_ ?_
    · exact fun γ => ⟨rfl, fun w' _ => exec_eq6 e_r7 rfl rfl rfl⟩
    refine AllOk.cons ?_ ?_
    · (refine fun γ => ⟨rfl, fun w' h => ?_⟩; clear h; go_simp)
    refine AllOk.cons ?_ ?_
    · exact fun γ => ⟨rfl, fun w' _ => rfl⟩
    refine AllOk.cons ?_ ?_
    · exact fun γ => ⟨rfl, fun w' h => ex_load6 h 1 rfl rfl rfl rfl⟩
    refine AllOk.cons ?_ ?_
    · exact fun γ => ⟨rfl, fun w' h => ex_load6 h 0 rfl rfl rfl rfl⟩
    refine AllOk.cons ?_ ?_
    · exact fun γ => ⟨rfl, fun w' _ => exec_eq6 e_r8 rfl rfl rfl⟩
    refine AllOk.cons ?_ ?_
    · (refine fun γ => ⟨rfl, fun w' h => ?_⟩; clear h; go_simp)
    refine AllOk.cons ?_ ?_
    · exact fun γ => ⟨rfl, fun w' _ => rfl⟩
    refine AllOk.cons ?_ ?_
    · exact fun γ => ⟨rfl, fun w' _ => rfl⟩
    refine AllOk.cons ?_ ?_
    · exact fun γ => ⟨rfl, fun w' _ => rfl⟩
    refine AllOk.cons ?_ ?_
    · (refine fun γ => ⟨rfl, fun w' h => ?_⟩; clear h; go_simp)
    refine AllOk.cons ?_ ?_
    · (refine fun γ => ⟨rfl, fun w' h => ?_⟩; clear h; go_simp)
    refine AllOk.cons ?_ ?_
    · exact fun γ => ⟨rfl, fun w' _ => rfl⟩
    exact trivial
  intro γ w9 l hM hl
  have M9 : Mm w9 [(γ8_6, cells6 r8), (γ7_6, cells6 r8), (γ6_4, cells6 sm), (γ2_1, modc n), (γ1_0, cells6 n), (γ1_1, cells6 a), (γ1_2, cells6 b), (0, dtab)] := H8.out.1.grow hM (Nat.le_refl _) hl [] rfl (by decide)
  have B9 : Below w.heap.size w w9 := H8.out.2.trans (hM.below.mono H8.out.2.size)
  clear hM hl l H8
  clear γ
  have H9 : Hid (_ ∧ _) := ⟨M9, B9⟩
  clear M9 B9
  refine rest_at (l := []) rfl ?_
  refine rest_nil ?_
  refine then_normal ?_
  refine wp_ret ?_
  repeat (first | refine then_ret ?_ | refine block_ret ?_)
  refine bodyPost_ret (v := .bool true) (by simp [results, Tryd.results3, go_sem, *]) rfl ?_
  exact ⟨rfl, H9.out.2⟩
end Rg
end Go.Proofs.YtkfannhbnbgloaaDoor
/- The law ModulusTells for any arguments -/
namespace Go.Proofs.YtkfannhbnbgloaaDoor
open Go.RowKit
namespace Rg
theorem wd_zero_nat (n : Nat) : wd n 0 = ((n % 18446744073709551616 : Nat) : Int) := by unfold wd; rw [Nat.mul_zero, Nat.pow_zero, Nat.div_one]
theorem low_bit (n : Nat) : bits BinOp.and IntKind.u64 (wd n 0) 1 = ((n % 2 : Nat) : Int) := by
  have h := bits_and_u64_nat (n % 18446744073709551616) 1 (Nat.mod_lt _ (by decide)) (by decide)
  rw [Nat.and_one_is_mod, show n % 18446744073709551616 % 2 = n % 2 by omega] at h
  rw [wd_zero_nat]
  exact h
theorem mask40 (b : Nat) : bits BinOp.and IntKind.u64 (wd b 0) 1099511627775 = ((b % 18446744073709551616 % 1099511627776 : Nat) : Int) := by
  have h := bits_and_u64_nat (b % 18446744073709551616) 1099511627775 (Nat.mod_lt _ (by decide)) (by decide)
  have e : b % 18446744073709551616 &&& 1099511627775 = b % 18446744073709551616 % 1099511627776 := Nat.and_two_pow_sub_one_eq_mod _ 40
  rw [e] at h
  rw [wd_zero_nat]
  exact h
theorem cmp_three {n : Nat} (h : 3 ≤ n) : 0 ≤ cmpv n 3 := by
  unfold cmpv
  split
  · exact Int.le_refl _
  · rw [if_neg (by omega)]; decide
theorem may_ok {n : Nat} (ok : Ok n) (w : World) : Calls Tryd.prog 9 #[N n] w fun e w' => e = .returned (.bool true) ∧ Below w.heap.size w w' := by
  have hb := low_bit n
  rw [ok.odd] at hb
  exact may_4 n 3 _ _ rfl hb (by have := len_ok ok; omega) (fun w => len_ref n ok.big w) (cmp_three ok.three) (fun w => compare_ref n 3 ok.big (small_big 3 (by decide)) w) w
theorem may_no {n : Nat} (hn : n < big) (bad : ¬ Ok n) (w : World) : Calls Tryd.prog 9 #[N n] w fun e w' => e = .returned (.bool false) ∧ Below w.heap.size w w' := by
  have hb := low_bit n
  by_cases h : n % 2 = 1
  · rw [h] at hb
    by_cases h3 : (382 : Int) < (bl n : Nat)
    · exact may_2 n _ hb (by omega) (fun w => len_ref n hn w) w
    · have h2 : n = 1 := Classical.byContradiction fun h2 => bad (ok_len h h2 h3)
      have hc : cmpv n 3 = -1 := by
        rw [h2]; decide
      exact may_3 n 3 _ _ rfl hb (by omega) (fun w => len_ref n hn w) (by rw [hc]; decide) (fun w => compare_ref n 3 hn (small_big 3 (by decide)) w) w
  · rw [show n % 2 = 0 by omega] at hb
    exact may_1 n hb w
theorem tells_any (n a b : Nat) (hn : n < big) (ha : a < big) (hb : b < big) (w : World) (hm : Mm w [(0, dtab)]) :
    Calls Tryd.prog 3 #[N n, N a, N b] w fun e w' => e = .returned (.bool true) ∧ Below w.heap.size w w' := by
  by_cases ok : Ok n
  · have l := okLt ok
    have hk := mask40 b
    have hs := Nat.mod_lt (b % 18446744073709551616) (show 0 < 1099511627776 by decide)
    generalize b % 18446744073709551616 % 1099511627776 = sm at hk hs
    have sb := small_big sm (by omega)
    have s := fun x => Nat.lt_trans (subm_lt_n ok.pos x b) ok.big
    have s' := Nat.lt_trans (subm_lt_n ok.pos 0 a) ok.big
    by_cases hg : Nat.gcd n a = 1
    · have hi : invm n a < big := Nat.lt_trans (invm_spec ok hg).1 ok.big
      exact tells_0 n a b sm _ _ _ _ _ _ _ _ (by omega) hk (eq_refl7 ok.big) (eq_refl7 (l _)) (eq_refl7 (l _)) (eq_refl7 (l _)) (eq_refl7 (s a)) (eq_refl7 s') (eq_refl7 (l _)) (eq_refl7 (l _)) (eq_refl7 hi)
        (fun w => new_ok ok w) (fun w => may_ok ok w) (fun _ w hm => n_any ok w hm)
        (fun _ w hm => reduce_any ok ha w hm) (fun w => rreduce_any ok ha w) (fun _ w hm => wide_any ok ha hb w hm) (fun w => rwide_any ok ha hb w)
        (fun _ w hm => addm_any ok ha hb w hm) (fun w => radd_any ok ha hb w) (fun _ w hm => subm_any ok ha hb w hm) (fun w => rsub_any ok ha hb w)
        (fun _ w hm => negm_any ok ha w hm) (fun w => rneg_any ok ha w) (fun _ w hm => mulm_any ok ha hb w hm) (fun w => rmul_any ok ha hb w)
        (fun _ w hm => powm_any ok ha sb w hm) (fun w => rpow_any ok ha sb w) (fun _ w hm => inv_ok ok ha hg w hm) (fun w => rinv_some ok ha hg w) w hm
    · exact tells_6 n a b sm _ _ _ _ _ _ _ _ (by omega) hk (eq_refl7 ok.big) (eq_refl7 (l _)) (eq_refl7 (l _)) (eq_refl7 (l _)) (eq_refl7 (s a)) (eq_refl7 s') (eq_refl7 (l _)) (eq_refl7 (l _)) (eq_refl7 big_pos)
        (fun w => new_ok ok w) (fun w => may_ok ok w) (fun _ w hm => n_any ok w hm)
        (fun _ w hm => reduce_any ok ha w hm) (fun w => rreduce_any ok ha w) (fun _ w hm => wide_any ok ha hb w hm) (fun w => rwide_any ok ha hb w)
        (fun _ w hm => addm_any ok ha hb w hm) (fun w => radd_any ok ha hb w) (fun _ w hm => subm_any ok ha hb w hm) (fun w => rsub_any ok ha hb w)
        (fun _ w hm => negm_any ok ha w hm) (fun w => rneg_any ok ha w) (fun _ w hm => mulm_any ok ha hb w hm) (fun w => rmul_any ok ha hb w)
        (fun _ w hm => powm_any ok ha sb w hm) (fun w => rpow_any ok ha sb w) (fun _ w hm => inv_bad ok ha hg w hm) (fun w => rinv_none ok ha hg w) w hm
  · exact tells_bad n a b (fun w => new_bad hn ok w) (fun w => may_no hn ok w) w hm
end Rg
end Go.Proofs.YtkfannhbnbgloaaDoor
/- For any arguments the law ModulusTells returns true, and they read behind the call as they read before; the listed table of math/bits reads as the program's text lays it, which the card ties to that text. -/
namespace Go.Proofs.YtkfannhbnbgloaaDoor
open Go.ChangeMaps Go.ChangeShapes Go.WideShapes Go.ChangeAt Go.RowKit
namespace Rg
set_option maxRecDepth 100000 in
theorem modulusTells_lifted (os : Os) (started : os.Started) (H : Type) (enc : TypeId × Value → H) :
    ReturnsInHanded {} Tryd.checked os 3 .any (fun w args => (Rows.modulusTellsSpec.pre enc Tryd.prog Tryd.f3 [] false w args ∧ laidMetH Tryd.prog laidL w) ∧ sizedMet enc Tryd.prog Tryd.f3 (OpenSpec.ofChange Rows.modulusTellsSpec) false w args)
      (Rows.modulusTellsSpec.post enc Tryd.prog Tryd.f3 false true false false) := by
  refine returnsInHanded_of_change_and (C := Tryd.checked) (X := fun w _ => laidMetH Tryd.prog laidL w) (fun _ _ _ hh h => h.of_heap hh) Tryd.own started (by kernel_rfl) Tryd.func3
    (ChangeSpec.witness_shaped (enc := enc) (C := Tryd.checked) (os := os) (X := fun w _ => laidMetH Tryd.prog laidL w) false (World.doorLaid Tryd.prog 400 os) #[.agg #[.int .u64 0, .int .u64 0, .int .u64 0, .int .u64 0, .int .u64 0, .int .u64 0], .agg #[.int .u64 0, .int .u64 0, .int .u64 0, .int .u64 0, .int .u64 0, .int .u64 0], .agg #[.int .u64 0, .int .u64 0, .int .u64 0, .int .u64 0, .int .u64 0, .int .u64 0]] 8 rfl (World.shaped_of_RefB (by kernel_rfl) (by kernel_rfl)) (by kernel_rfl) (by kernel_rfl) (by kernel_rfl) (door_met os _)) ?_
  intro W base args ds gs before hval0 hW _ _ hL _
  have hval : ∀ (j : Nat) t v, Tryd.f3.params[j]? = some t → args[j]? = some v → Value.okWide Tryd.prog W .any base t v := hval0
  have hW' := hW
  obtain ⟨p, q, hA0, hV, rfl, hfz, hnd⟩ := hW
  have hA : DataW.TrodAll enc Tryd.prog W 0 (fun _ => true) true Tryd.f3.params.toList args.toList ds p := hA0
  rw [Tryd.params3] at hA hval
  obtain ⟨v0, v1, v2, d0, d1, d2, p0, p1, p2, rfl, rfl, rfl, h0, h1, h2⟩ := trodAll_three hA
  obtain ⟨rfl, rfl⟩ := trodVars_none hV
  obtain ⟨a, ha, rfl, rfl⟩ := open_num (hval 0 24 v0 rfl rfl) h0
  obtain ⟨b, hb, rfl, rfl⟩ := open_num (hval 1 24 v1 rfl rfl) h1
  obtain ⟨c, hc, rfl, rfl⟩ := open_num (hval 2 24 v2 rfl rfl) h2
  clear hA0 hval0
  simp only [List.append_nil] at hW'
  refine (tells_any a b c ha hb hc W (tab_of_laid hL)).mono fun e W' ⟨he, hw⟩ => ?_
  subst he
  exact ⟨_, rfl, _, _, _, [], [], [], hW', trodAll_mk1 (shut_bool Tryd.underlying4 _), trodAll_mk3 (num_stays h0 hw) (num_stays h1 hw) (num_stays h2 hw), rfl, hw.frame _, fun h => by cases h⟩
theorem modulusTells_holds : Rows.ModulusTellsSaid :=
  OpenClaim.holds_of_wide 3 Tryd.f3 rfl rfl rfl rfl rfl rfl rfl ⟨rfl, rfl, rfl, rfl, rfl⟩ rfl rfl rfl rfl rfl (by kernel_rfl) Tryd.func3 (by kernel_rfl)
    (of_decide_eq_true (by kernel_rfl)) (by unfold Func.isWrapper; first | (rw [if_pos (by decide +kernel)]; kernel_rfl) | (rw [if_neg (by decide +kernel)]; exact ⟨rfl, rfl⟩))
    (fun os started H enc _ => modulusTells_lifted os started H enc)
end Rg
theorem modulusTellsCard_holds : Rows.ModulusTellsCardSaid :=
  Claim7.holds_tied_plain_at .later [] [.data] true (true, "44685e4d20c79b10ebd30dc56bad568e092f268cd58dad98e4844e0bb437b5e8") false
    Rg.modulusTells_holds (fun _ h => by cases h) (by kernel_rfl) (fun _ h => by cases h) modulusTells_row_tie rfl ⟨rfl, rfl⟩ (by kernel_rfl) rfl
    (fun f fn hf hfn => by
      obtain rfl : f = 3 := Option.some.inj ((show Tryd.prog.funcNamed Rows.modulusTellsRow.func = some 3 by kernel_rfl).symm.trans hf) |>.symm
      obtain rfl : fn = Tryd.f3 := (Option.some.inj (Tryd.func3.symm.trans hfn)).symm
      exact ⟨by kernel_rfl, fun j t ht => by
        rw [Tryd.params3] at ht
        have hm : t ∈ [24, 24, 24] := by simpa using Array.mem_of_getElem? ht
        have hall : ([24, 24, 24].all fun u => !Tryd.prog.wantsStandIn u) = true := by kernel_rfl
        exact (show Tryd.prog.wantsStandIn t = false by simpa using List.all_eq_true.1 hall t hm)⟩)
    (by kernel_rfl)
#print axioms modulusTellsCard_holds
end Go.Proofs.YtkfannhbnbgloaaDoor
