/- Texts of the proof, joined. -/
import Derived.Test.YtfnmahjdkmgdkaaDoorP2
section
namespace Go.Proofs.YtfnmahjdkmgdkaaDoor
open Go.RowKit
namespace Rg
set_option maxHeartbeats 400000 in
theorem mulAddM_any (a b m c : Int) (ha : 0 ≤ a) (ha' : a < 18446744073709551616) (hb : 0 ≤ b) (hb' : b < 18446744073709551616) (hm : 0 ≤ m) (hm' : m < 18446744073709551616) (hc : 0 ≤ c) (hc' : c < 18446744073709551616) (w : World) :
    Calls Tryd.prog 69 #[.int .u64 a, .int .u64 b, .int .u64 m, .int .u64 c] w fun e w' => e = .returned (.tuple #[.int .u64 (mulLo a b m c), .int .u64 (mulHi a b m c)]) ∧ w' = w := by
  obtain ⟨x, rfl⟩ := Int.eq_ofNat_of_zero_le ha
  obtain ⟨y, rfl⟩ := Int.eq_ofNat_of_zero_le hb
  have hx : x < 18446744073709551616 := by omega
  have hy : y < 18446744073709551616 := by omega
  have e1 : Hid _ := mulAdd_hi x y m c hx hy hm hm' hc hc'
  have e2 : Hid _ := mulAdd_lo x y m c
  have h1 := fun w => add64' (pLo x y) m 0 (by unfold pLo; omega) hm (by omega) (by omega) w
  have h2 := fun w => add64' (addLo (pLo x y) m 0) c 0 (by unfold addLo; omega) hc (by omega) (by omega) w
  have h3 := fun w => mul64' x y hx hy w
  have H3 : Hid _ := h3
  clear ha ha' hb hb' hm hm' hc hc' hx hy h3
  go_enter Tryd.func69, Tryd.ntmps69
  go_wp2_with (go_at_call 68; refine (H3.out _).mono ?_; rintro e w' ⟨rfl, rfl⟩)
  rw [e1.out, e2.out]
  go_ret2
  exact ⟨rfl, rfl⟩
set_option maxHeartbeats 1000000 in
set_option maxRecDepth 100000 in
theorem wrapOf_any (x : Int) (w : World) : Calls Tryd.prog 90 #[.int .u64 x] w fun e w' => e = .returned (.int .u64 (wrapZ x)) ∧ w' = w := by
  have hs : ∀ k, IntKind.u64.wrap (newts x k * IntKind.u64.wrap (2 - IntKind.u64.wrap (x * newts x k))) = newts x (k + 1) := fun k => by
    simp only [IntKind.wrap_u64, newts, newt]
  have HS : Hid _ := hs
  have he : IntKind.u64.wrap (-(newts x 5)) = wrapZ x := by rw [IntKind.wrap_u64]; rfl
  have HE : Hid _ := he
  clear hs he
  go_enter Tryd.func90, Tryd.ntmps90
  go_wp2
  go_loopw [3, 4] (fun c i wr => ∃ k : Nat, k ≤ 5 ∧ c = .int .u64 (newts x k) ∧ i = .int .i64 (3 * 2 ^ k) ∧ wr = w) (fun _ i _ => 96 - (RowKit.intOf i).toNat)
  case atStart => exact ⟨0, by omega, rfl, rfl, rfl⟩
  case round =>
    obtain ⟨k, hk, rfl, rfl, rfl⟩ := hrel
    rcases (by omega : k = 0 ∨ k = 1 ∨ k = 2 ∨ k = 3 ∨ k = 4 ∨ k = 5) with rfl | rfl | rfl | rfl | rfl | rfl
    · go_wp2
      go_roundw
      case rel => exact ⟨1, by omega, congrArg (Value.int .u64) (HS.out 0), by simp⟩
      case measure => simp [RowKit.intOf]
    · go_wp2
      go_roundw
      case rel => exact ⟨2, by omega, congrArg (Value.int .u64) (HS.out 1), by simp⟩
      case measure => simp [RowKit.intOf]
    · go_wp2
      go_roundw
      case rel => exact ⟨3, by omega, congrArg (Value.int .u64) (HS.out 2), by simp⟩
      case measure => simp [RowKit.intOf]
    · go_wp2
      go_roundw
      case rel => exact ⟨4, by omega, congrArg (Value.int .u64) (HS.out 3), by simp⟩
      case measure => simp [RowKit.intOf]
    · go_wp2
      go_roundw
      case rel => exact ⟨5, by omega, congrArg (Value.int .u64) (HS.out 4), by simp⟩
      case measure => simp [RowKit.intOf]
    · go_wp2
      rw [HE.out]
      go_ret
      exact ⟨rfl, rfl⟩
set_option maxRecDepth 100000 in
theorem below_t (g n o s a r : Nat) (c40 : ∀ w, Calls Tryd.prog 42 #[N a, N n] w fun e w' => e = .returned (.tuple #[N r, .bool true]) ∧ Below w.heap.size w w') (w : World) (hm : Mm w [(g, modx n o s)]) :
    Calls Tryd.prog 70 #[PT g 0, N a] w fun e w' => e = .returned (N a) ∧ Below w.heap.size w w' := by
  have H0 : Hid (_ ∧ _) := ⟨hm, Below.refl w.heap.size w⟩
  clear hm
  have C40 : Hid _ := c40
  clear c40
  go_enter Tryd.func70, Tryd.ntmps70
  refine wp_seq ?_
  refine walk_seqA 2 [.made (cells6 a) 24, .made zero6 24] (sB H0) ?ho1 ?he1
  case ho1 => exact ak (fun γ => ⟨rfl, fun w' => ex_box6 rfl rfl⟩) (ak (fun γ => ⟨rfl, fun w' => exec_made6 rfl⟩) trivial)
  intro γ w1 l hM hl
  have H1 : Hid (Mm w1 [(γ 0, cells6 a), (γ 1, zero6), (g, modx n o s)] ∧ _) := growB H0 hM (Nat.le_refl _) hl [0, 1] rfl (by decide)
  have o1_0 := ownB H0 hM (Nat.le_refl _) hl (i := 0) rfl
  have o1_1 := ownB H0 hM (Nat.le_refl _) hl (i := 1) rfl
  clear hM hl l
  generalize γ 0 = γ1_0 at H1 o1_0 ⊢
  generalize γ 1 = γ1_1 at H1 o1_1 ⊢
  clear γ
  refine rest0 rfl (then_normal (wp_seq ?_))
  refine walk_anyA 12 [.quiet (N a), .quiet (PT g 0), .quiet (PT g 0), .quiet (PT g 0), .quiet (N n), .call (.tuple #[N r, .bool true]), .quiet (.tuple #[N r, .bool true]), .quiet (N r), .quiet (.bool true), .made zero6 24, .laid 9 zero6 (cells6 r), .quiet (.bool true)] (sB H1) ?ho2 ?he2 (hL := ?hL2)
  case hL2 => exact ⟨⟨_, rfl⟩, trivial⟩
  case ho2 => exact ak (fun γ => ⟨rfl, fun w' h => ex_load6 h 0 rfl rfl rfl rfl⟩) (ak (fun _ => ⟨rfl, fun _ _ => rfl⟩) (ak (by refine fun γ => ⟨rfl, fun w' h => ?_⟩; clear h; go_simp) (ak (by refine fun γ => ⟨rfl, fun w' h => ?_⟩; clear h; go_simp) (ak (fun γ => ⟨rfl, fun w' h => ex_load6 h 2 rfl rfl rfl rfl⟩) (ak (fun γ => ⟨rfl, fun w' h => ⟨42, #[N a, N n], exec_call rfl call42 rfl (mpn rfl), C40.out w'⟩⟩) (ak (fun _ => ⟨rfl, fun _ _ => rfl⟩) (ak (by refine fun γ => ⟨rfl, fun w' h => ?_⟩; clear h; go_simp) (ak (by refine fun γ => ⟨rfl, fun w' h => ?_⟩; clear h; go_simp) (ak (fun γ => ⟨rfl, fun w' => exec_made6 rfl⟩) (ak (fun γ => ⟨rfl, rfl, rfl, fun w' h => exec_laid6 h rfl rfl rfl⟩) (ak (fun _ => ⟨rfl, fun _ _ => rfl⟩) trivial)))))))))))
  intro γ w2 l hM hl
  have H2 : Hid (Mm w2 [(γ 9, cells6 r), (γ1_0, cells6 a), (γ1_1, zero6), (g, modx n o s)] ∧ _) := growB H1 hM (Nat.le_refl _) hl [9] rfl (by decide)
  have o2_9 := ownB H1 hM (Nat.le_refl _) hl (i := 9) rfl
  clear hM hl l H1
  generalize γ 9 = γ2_9 at H2 o2_9 ⊢
  clear γ
  refine rest0 rfl (then_normal (wp_seq (wp_seq ?_)))
  refine walk_seqB 1 [.quiet (.bool true)] H2 ?ho3 ?he3
  case ho3 => exact ak (fun _ => ⟨rfl, fun _ _ => rfl⟩) trivial
  intro _ w3 H3
  clear H2
  refine rest0 rfl (then_normal (wp_cond_true rfl (wp_seq ?_)))
  refine walk_seqB 1 [.quiet (N a)] H3 ?ho4 ?he4
  case ho4 => exact ak (fun γ => ⟨rfl, fun w' h => ex_load6 h 1 rfl rfl rfl rfl⟩) trivial
  intro _ w4 H4
  clear H3
  refine rest_at (l := [1]) rfl ?_
  refine rest_store rfl rfl rfl (ex_store6 H4.out.1 2 rfl rfl rfl rfl (Nat.le_of_ble_eq_true rfl)) ?_
  have H5 : Hid (Mm (w4.setCells γ1_1 0 (cells6 a)) [(γ2_9, cells6 r), (γ1_0, cells6 a), (γ1_1, cells6 a), (g, modx n o s)] ∧ Below w.heap.size w (w4.setCells γ1_1 0 (cells6 a))) := ⟨H4.out.1.put 2 (off := 0) (vs := cells6 a) rfl (Nat.le_of_ble_eq_true rfl), below_setCells _ o1_1.out _ _ _ H4.out.2⟩
  clear H4
  generalize hgw : World.setCells _ _ _ _ = w5 at H5 ⊢
  clear hgw
  refine rest_nil (then_normal (wp_ret ?_))
  repeat (first | refine then_ret ?_ | refine block_ret ?_)
  have c0 := H5.out.1.get 2 rfl 0 rfl
  have c1 := H5.out.1.get 2 rfl 1 rfl
  have c2 := H5.out.1.get 2 rfl 2 rfl
  have c3 := H5.out.1.get 2 rfl 3 rfl
  have c4 := H5.out.1.get 2 rfl 4 rfl
  have c5 := H5.out.1.get 2 rfl 5 rfl
  refine bodyPost_ret (v := N a) (by simp [results, Tryd.results70, go_sem, *]) rfl ?_
  exact ⟨rfl, H5.out.2⟩
set_option maxRecDepth 100000 in
theorem below_f (g n o s a r : Nat) (c40 : ∀ w, Calls Tryd.prog 42 #[N a, N n] w fun e w' => e = .returned (.tuple #[N r, .bool false]) ∧ Below w.heap.size w w') (w : World) (hm : Mm w [(g, modx n o s)]) :
    Calls Tryd.prog 70 #[PT g 0, N a] w fun e w' => e = .returned (N r) ∧ Below w.heap.size w w' := by
  have H0 : Hid (_ ∧ _) := ⟨hm, Below.refl w.heap.size w⟩
  clear hm
  have C40 : Hid _ := c40
  clear c40
  go_enter Tryd.func70, Tryd.ntmps70
  refine wp_seq ?_
  refine walk_seqA 2 [.made (cells6 a) 24, .made zero6 24] (sB H0) ?ho1 ?he1
  case ho1 => exact ak (fun γ => ⟨rfl, fun w' => ex_box6 rfl rfl⟩) (ak (fun γ => ⟨rfl, fun w' => exec_made6 rfl⟩) trivial)
  intro γ w1 l hM hl
  have H1 : Hid (Mm w1 [(γ 0, cells6 a), (γ 1, zero6), (g, modx n o s)] ∧ _) := growB H0 hM (Nat.le_refl _) hl [0, 1] rfl (by decide)
  have o1_0 := ownB H0 hM (Nat.le_refl _) hl (i := 0) rfl
  have o1_1 := ownB H0 hM (Nat.le_refl _) hl (i := 1) rfl
  clear hM hl l
  generalize γ 0 = γ1_0 at H1 o1_0 ⊢
  generalize γ 1 = γ1_1 at H1 o1_1 ⊢
  clear γ
  refine rest0 rfl (then_normal (wp_seq ?_))
  refine walk_anyA 12 [.quiet (N a), .quiet (PT g 0), .quiet (PT g 0), .quiet (PT g 0), .quiet (N n), .call (.tuple #[N r, .bool false]), .quiet (.tuple #[N r, .bool false]), .quiet (N r), .quiet (.bool false), .made zero6 24, .laid 9 zero6 (cells6 r), .quiet (.bool false)] (sB H1) ?ho2 ?he2 (hL := ?hL2)
  case hL2 => exact ⟨⟨_, rfl⟩, trivial⟩
  case ho2 => exact ak (fun γ => ⟨rfl, fun w' h => ex_load6 h 0 rfl rfl rfl rfl⟩) (ak (fun _ => ⟨rfl, fun _ _ => rfl⟩) (ak (by refine fun γ => ⟨rfl, fun w' h => ?_⟩; clear h; go_simp) (ak (by refine fun γ => ⟨rfl, fun w' h => ?_⟩; clear h; go_simp) (ak (fun γ => ⟨rfl, fun w' h => ex_load6 h 2 rfl rfl rfl rfl⟩) (ak (fun γ => ⟨rfl, fun w' h => ⟨42, #[N a, N n], exec_call rfl call42 rfl (mpn rfl), C40.out w'⟩⟩) (ak (fun _ => ⟨rfl, fun _ _ => rfl⟩) (ak (by refine fun γ => ⟨rfl, fun w' h => ?_⟩; clear h; go_simp) (ak (by refine fun γ => ⟨rfl, fun w' h => ?_⟩; clear h; go_simp) (ak (fun γ => ⟨rfl, fun w' => exec_made6 rfl⟩) (ak (fun γ => ⟨rfl, rfl, rfl, fun w' h => exec_laid6 h rfl rfl rfl⟩) (ak (fun _ => ⟨rfl, fun _ _ => rfl⟩) trivial)))))))))))
  intro γ w2 l hM hl
  have H2 : Hid (Mm w2 [(γ 9, cells6 r), (γ1_0, cells6 a), (γ1_1, zero6), (g, modx n o s)] ∧ _) := growB H1 hM (Nat.le_refl _) hl [9] rfl (by decide)
  have o2_9 := ownB H1 hM (Nat.le_refl _) hl (i := 9) rfl
  clear hM hl l H1
  generalize γ 9 = γ2_9 at H2 o2_9 ⊢
  clear γ
  refine rest0 rfl (then_normal (wp_seq (wp_seq ?_)))
  refine walk_seqB 1 [.quiet (.bool false)] H2 ?ho3 ?he3
  case ho3 => exact ak (fun _ => ⟨rfl, fun _ _ => rfl⟩) trivial
  intro _ w3 H3
  clear H2
  refine rest0 rfl (then_normal (wp_cond_false rfl ?_))
  refine wp_skip (then_normal (wp_seq ?_))
  refine walk_seqB 1 [.quiet (N r)] H3 ?ho4 ?he4
  case ho4 => exact ak (fun γ => ⟨rfl, fun w' h => ex_load6 h 0 rfl rfl rfl rfl⟩) trivial
  intro _ w4 H4
  clear H3
  refine rest_at (l := [1]) rfl ?_
  refine rest_store rfl rfl rfl (ex_store6 H4.out.1 2 rfl rfl rfl rfl (Nat.le_of_ble_eq_true rfl)) ?_
  have H5 : Hid (Mm (w4.setCells γ1_1 0 (cells6 r)) [(γ2_9, cells6 r), (γ1_0, cells6 a), (γ1_1, cells6 r), (g, modx n o s)] ∧ Below w.heap.size w (w4.setCells γ1_1 0 (cells6 r))) := ⟨H4.out.1.put 2 (off := 0) (vs := cells6 r) rfl (Nat.le_of_ble_eq_true rfl), below_setCells _ o1_1.out _ _ _ H4.out.2⟩
  clear H4
  generalize hgw : World.setCells _ _ _ _ = w5 at H5 ⊢
  clear hgw
  refine rest_nil (then_normal (wp_ret ?_))
  repeat (first | refine then_ret ?_ | refine block_ret ?_)
  have c0 := H5.out.1.get 2 rfl 0 rfl
  have c1 := H5.out.1.get 2 rfl 1 rfl
  have c2 := H5.out.1.get 2 rfl 2 rfl
  have c3 := H5.out.1.get 2 rfl 3 rfl
  have c4 := H5.out.1.get 2 rfl 4 rfl
  have c5 := H5.out.1.get 2 rfl 5 rfl
  refine bodyPost_ret (v := N r) (by simp [results, Tryd.results70, go_sem, *]) rfl ?_
  exact ⟨rfl, H5.out.2⟩
theorem below_any (g n o s a : Nat) (ha : a < big) (hn : n < big) (w : World) (hm : Mm w [(g, modx n o s)]) :
    Calls Tryd.prog 70 #[PT g 0, N a] w fun e w' => e = .returned (N (if a < n then a else a - n)) ∧ Below w.heap.size w w' := by
  have c := fun w => sub_any a n ha hn w
  by_cases h : a < n
  · rw [if_pos h]
    simp only [decide_eq_true h] at c
    exact below_t g n o s a _ c w hm
  · rw [if_neg h]
    simp only [decide_eq_false h] at c
    have e : (a + big - n) % big = a - n := by
      rw [show a + big - n = a - n + big by omega, Nat.add_mod_right, Nat.mod_eq_of_lt (by omega)]
    rw [e] at c
    exact below_f g n o s a _ c w hm
end Rg
end Go.Proofs.YtfnmahjdkmgdkaaDoor
end
section
namespace Go.Proofs.YtfnmahjdkmgdkaaDoor
open Go.RowKit
namespace Rg
/-- Slots of a frame, by a list. -/
def slotfn (l : List Value) (d : Nat) : Value := l.getD d undef
/-! Rows of six words. -/
abbrev rowc (f : Nat → Int) : List Value := [.int .u64 (f 0), .int .u64 (f 1), .int .u64 (f 2), .int .u64 (f 3), .int .u64 (f 4), .int .u64 (f 5)]
theorem row_at {f : Nat → Int} {j : Nat} (hj : j < 6) : (rowc f)[0 + j]? = some (.int .u64 (f j)) := by
  match j, hj with
  | 0, _ => rfl
  | 1, _ => rfl
  | 2, _ => rfl
  | 3, _ => rfl
  | 4, _ => rfl
  | 5, _ => rfl
theorem modn_at {n o s j : Nat} (hj : j < 6) : (modx n o s)[0 + j]? = some (.int .u64 (wd n j)) := by
  match j, hj with
  | 0, _ => rfl
  | 1, _ => rfl
  | 2, _ => rfl
  | 3, _ => rfl
  | 4, _ => rfl
  | 5, _ => rfl
theorem patch_row {f : Nat → Int} {j : Nat} {v : Int} (hj : j < 6) : patch (rowc f) (0 + j) [.int .u64 v] = rowc (upd f j v) := by
  match j, hj with
  | 0, _ => rfl
  | 1, _ => rfl
  | 2, _ => rfl
  | 3, _ => rfl
  | 4, _ => rfl
  | 5, _ => rfl
theorem row_bd {f : Nat → Int} {j : Nat} (hj : j < 6) : 0 + j < (rowc f).length := by
  show 0 + j < 6
  omega
theorem row_congr {f g : Nat → Int} (h : ∀ j, j < 6 → f j = g j) : rowc f = rowc g := by
  unfold rowc
  rw [h 0 (by decide), h 1 (by decide), h 2 (by decide), h 3 (by decide), h 4 (by decide), h 5 (by decide)]
theorem ex_indexAddr6 {ρ : Operand → Value} {o : Oper} {x y : Operand} {g off j : Nat} {w : World} (ho : o.op = .indexAddr 24 x y) (hx : ρ x = PT g off) (hy : ρ y = .int .i64 ((j : Nat) : Int)) (hj : j < 6) :
    (execOp ρ o).run Tryd.prog w = .ok (.value (PT g (off + j))) w := by
  have h1 : (j : Int) < 6 := by omega
  simp only [execOp, ho, hx, hy]
  clear ho hx hy
  go_simp
theorem ex_index6 {ρ : Operand → Value} {o : Oper} {x y : Operand} {a j : Nat} {w : World} (ho : o.op = .index 24 x y) (hx : ρ x = N a) (hy : ρ y = .int .i64 ((j : Nat) : Int)) (hj : j < 6) :
    (execOp ρ o).run Tryd.prog w = .ok (.value (.int .u64 (wd a j))) w := by
  simp only [execOp, ho, hx, hy]
  clear ho hx hy
  rcases (by omega : j = 0 ∨ j = 1 ∨ j = 2 ∨ j = 3 ∨ j = 4 ∨ j = 5) with rfl | rfl | rfl | rfl | rfl | rfl <;> kernel_rfl
theorem cells_zero : cells6 0 = zero6 := by simp [cells6, zero6, wd_zero]
theorem cells_start (n wr a b : Nat) : zero6 = cells6 (mrun n wr a b 0) := by show zero6 = cells6 0; exact cells_zero.symm
theorem Mm.at0 {w : World} {g : Nat} {cs cs' : List Value} {l : List (Nat × List Value)} (h : Mm w ((g, cs) :: l)) (e : cs = cs') : Mm w ((g, cs') :: l) := e ▸ h
/-! One round's row. -/
def inn (S Y j m : Nat) : Int := if m + 1 < j then wd Y (m + 1) else wd S m
theorem inn_at {S Y m : Nat} (hj : m + 1 < 6) : (rowc (inn S Y (m + 1)))[0 + (m + 1)]? = some (.int .u64 (wd S (m + 1))) := by
  rw [row_at hj]
  unfold inn
  rw [if_neg (by omega)]
theorem inn_step {S Y m : Nat} {v : Int} (h : v = wd Y (m + 1)) : rowc (upd (inn S Y (m + 1)) m v) = rowc (inn S Y (m + 1 + 1)) := row_congr fun j _ => by
  unfold upd inn
  by_cases h1 : j = m
  · subst h1; rw [if_pos rfl, if_pos (by omega), h]
  · rw [if_neg h1]
    by_cases h2 : j + 1 < m + 1
    · rw [if_pos h2, if_pos (by omega)]
    · rw [if_neg h2, if_neg (by omega)]
theorem patch_row5 {f : Nat → Int} {v : Int} : patch (rowc f) 5 [.int .u64 v] = rowc (upd f 5 v) := rfl
theorem inn_end {S Y Z : Nat} {v : Int} (hv : v = wd Z 5) (h : ∀ k, k < 5 → wd Z k = wd Y (k + 1)) : rowc (upd (inn S Y 6) 5 v) = cells6 Z := by
  show _ = rowc (wd Z)
  refine row_congr fun j hj => ?_
  unfold upd inn
  by_cases h1 : j = 5
  · subst h1; rw [if_pos rfl, hv]
  · rw [if_neg h1, if_pos (by omega), h j (by omega)]
theorem first_lo (x y : Nat) (m : Int) : addLo (pLo x y) m 0 = mulLo x y m 0 := by
  unfold addLo pLo mulLo
  rw [← Int.natCast_mul]
  generalize x * y = p
  omega
theorem first_hi (x y : Nat) (m : Int) (hx : x < 18446744073709551616) (hy : y < 18446744073709551616) (hm : 0 ≤ m) (hm' : m < 18446744073709551616) :
    IntKind.u64.wrap (pHi x y + addHi (pLo x y) m 0) = mulHi x y m 0 := by
  have h := prod_le x y hx hy
  rw [IntKind.wrap_u64]
  unfold addHi pLo pHi mulHi
  rw [← Int.natCast_mul]
  generalize x * y = p at h ⊢
  omega
theorem call70 : ∀ args w, (callFunc 70 args).run Tryd.prog w = .ok (.enter 70 args) w := by intro args w; go_simp
theorem call68 : ∀ args w, (callFunc 68 args).run Tryd.prog w = .ok (.enter 68 args) w := by intro args w; go_simp
theorem call69 : ∀ args w, (callFunc 69 args).run Tryd.prog w = .ok (.enter 69 args) w := by intro args w; go_simp
end Rg
end Go.Proofs.YtfnmahjdkmgdkaaDoor
end
section
namespace Go.Proofs.YtfnmahjdkmgdkaaDoor
open Go.RowKit
namespace Rg
set_option maxHeartbeats 4000000 in
set_option maxRecDepth 100000 in
theorem product_any (g n o s a b : Nat) (ok : Ok n) (ha : a < big) (hbn : b < n) (w : World) (hm : Mm w [(g, modx n o s)]) :
    Calls Tryd.prog 43 #[PT g 0, N a, N b] w fun e w' => e = .returned (N (mont n a b)) ∧ Below w.heap.size w w' := by
  have H0 : Hid (_ ∧ _) := ⟨hm, Below.refl w.heap.size w⟩
  clear hm
  have hb : b < big := Nat.lt_trans hbn ok.big
  have cG : ∀ w, Mm w [(g, modx n o s)] → Calls Tryd.prog 70 #[PT g 0, N (mrun n (wrapN n) a b 6)] w fun e w' => e = .returned (N (mont n a b)) ∧ Below w.heap.size w w' := fun w hm => by
    have h1 := mrun_lt n (wrapN n) a b ok.pos 6
    have h2 := below_any g n o s (mrun n (wrapN n) a b 6) (by have := ok.top; omega) ok.big w hm
    rw [low_cut n _ _ (mrun_end n (wrapN n) a b ok.odd (wrapN_spec n ok.odd) ha) (by omega) (mont_lt n a b ok.pos)] at h2
    exact h2
  have CG : Hid _ := cG
  have HA : Hid _ := ha
  clear cG ha
  go_enter Tryd.func43, Tryd.ntmps43
  refine wp_seq ?_
  refine walk_seqA 3 [.made (cells6 a) 24, .made (cells6 b) 24, .made zero6 24] (sB H0) ?ho1 ?he1
  case ho1 => exact ak (fun γ => ⟨rfl, fun w' => ex_box6 rfl rfl⟩) (ak (fun γ => ⟨rfl, fun w' => ex_box6 rfl rfl⟩) (ak (fun γ => ⟨rfl, fun w' => exec_made6 rfl⟩) trivial))
  intro γ w1 l hM hl
  have M1 : Mm w1 [(γ 0, cells6 a), (γ 1, cells6 b), (γ 2, zero6), (g, modx n o s)] := H0.out.1.grow hM (Nat.le_refl _) hl [0, 1, 2] rfl (by decide)
  have B1 : Below w.heap.size w w1 := H0.out.2.trans ((hM.below).mono H0.out.2.size)
  have o1_0 : Hid (w.heap.size ≤ γ 0) := Nat.le_trans H0.out.2.size (hM.fin (Nat.le_refl _) hl (i := 0) rfl).2.1
  have o1_1 : Hid (w.heap.size ≤ γ 1) := Nat.le_trans H0.out.2.size (hM.fin (Nat.le_refl _) hl (i := 1) rfl).2.1
  have o1_2 : Hid (w.heap.size ≤ γ 2) := Nat.le_trans H0.out.2.size (hM.fin (Nat.le_refl _) hl (i := 2) rfl).2.1
  clear hM hl l
  generalize γ 0 = γ1_0 at M1 o1_0 ⊢
  generalize γ 1 = γ1_1 at M1 o1_1 ⊢
  generalize γ 2 = γ1_2 at M1 o1_2 ⊢
  clear γ
  have H1 : Hid (_ ∧ _) := ⟨M1, B1⟩
  clear M1 B1
  refine rest0 rfl (then_normal (wp_seq ?_))
  refine walk_seqA 1 [.made zero6 24] (sB H1) ?ho2 ?he2
  case ho2 => exact ak (fun γ => ⟨rfl, fun w' => exec_made6 rfl⟩) trivial
  intro γ w2 l hM hl
  have M2 : Mm w2 [(γ 0, zero6), (γ1_0, cells6 a), (γ1_1, cells6 b), (γ1_2, zero6), (g, modx n o s)] := H1.out.1.grow hM (Nat.le_refl _) hl [0] rfl (by decide)
  have B2 : Below w.heap.size w w2 := H1.out.2.trans ((hM.below).mono H1.out.2.size)
  have o2_0 : Hid (w.heap.size ≤ γ 0) := Nat.le_trans H1.out.2.size (hM.fin (Nat.le_refl _) hl (i := 0) rfl).2.1
  clear hM hl l H1
  generalize γ 0 = γ2_0 at M2 o2_0 ⊢
  clear γ
  have H2 : Hid (_ ∧ _) := ⟨M2, B2⟩
  clear M2 B2
  refine rest0 rfl (then_normal (wp_seq (wp_seq ?_)))
  refine walk_seqA 2 [.quiet (N a), .quiet (.int .i64 0)] (sB H2) ?ho3 ?he3
  case ho3 => exact ak (fun γ => ⟨rfl, fun w' h => ex_load6 h 1 rfl rfl rfl rfl⟩) (ak (fun _ => ⟨rfl, fun _ _ => rfl⟩) trivial)
  intro γ w3 l hM hl
  have M3 : Mm w3 [(γ2_0, zero6), (γ1_0, cells6 a), (γ1_1, cells6 b), (γ1_2, zero6), (g, modx n o s)] := H2.out.1.grow hM (Nat.le_refl _) hl [] rfl (by decide)
  have B3 : Below w.heap.size w w3 := H2.out.2.trans ((hM.below).mono H2.out.2.size)
  clear hM hl l H2
  clear γ
  have H3 : Hid (_ ∧ _) := ⟨M3, B3⟩
  clear M3 B3
  refine rest0 rfl (then_normal (wp_block ?_))
  refine loop_ghost (α := Nat) (fun i a' w' => ∃ s0 : Nat → Value, a' = ⟨#[PT g 0, N a, N b, undef, PT γ1_0 0, PT γ1_1 0, PT γ1_2 0, PT γ2_0 0, undef, s0 9, s0 10, s0 11, s0 12, s0 13, s0 14, s0 15, s0 16, s0 17, N a, .int .i64 ((i : Nat) : Int), s0 20, s0 21, s0 22, s0 23, s0 24, s0 25, s0 26, s0 27, s0 28, s0 29, s0 30, s0 31, s0 32, s0 33, s0 34, s0 35, s0 36, s0 37, s0 38, s0 39, s0 40, s0 41, s0 42, s0 43, s0 44, s0 45, s0 46, s0 47, s0 48, s0 49, s0 50, s0 51, s0 52, s0 53, s0 54, s0 55, s0 56, s0 57, s0 58, s0 59, s0 60, s0 61, s0 62, s0 63, s0 64, s0 65, s0 66, s0 67, s0 68, s0 69, s0 70, s0 71, s0 72, s0 73, s0 74, s0 75, s0 76, s0 77, s0 78, s0 79, s0 80, s0 81, s0 82, s0 83, s0 84, s0 85, s0 86, s0 87, s0 88, s0 89, s0 90, s0 91, s0 92, s0 93, s0 94, s0 95, s0 96, s0 97, s0 98, s0 99, s0 100, undef, undef, undef], []⟩ ∧ (Mm w' [(γ2_0, cells6 (mrun n (wrapN n) a b i)), (γ1_0, cells6 a), (γ1_1, cells6 b), (γ1_2, zero6), (g, modx n o s)] ∧ Below w.heap.size w w') ∧ i ≤ 6) (fun i => 6 - i) 0 ?st0 ?rd0
  case st0 => exact ⟨(slotfn [undef, undef, undef, undef, undef, undef, undef, undef, undef, undef, undef, undef, undef, undef, undef, undef, undef, undef, undef, undef, undef, undef, undef, undef, undef, undef, undef, undef, undef, undef, undef, undef, undef, undef, undef, undef, undef, undef, undef, undef, undef, undef, undef, undef, undef, undef, undef, undef, undef, undef, undef, undef, undef, undef, undef, undef, undef, undef, undef, undef, undef, undef, undef, undef, undef, undef, undef, undef, undef, undef, undef, undef, undef, undef, undef, undef, undef, undef, undef, undef, undef, undef, undef, undef, undef, undef, undef, undef, undef, undef, undef, undef, undef, undef, undef, undef, undef, undef, undef, undef, undef]), rfl, ⟨H3.out.1.at0 (cells_start n (wrapN n) a b), H3.out.2⟩, by omega⟩
  intro i a' w4 hI
  obtain ⟨s0, rfl, hMB, hk0⟩ := hI
  have H4 : Hid (_ ∧ _) := hMB
  clear hMB H3
  by_cases hlt : i < 6
  · have hrd : True := trivial
    clear hrd
    have hx := wn_lt a i
    have hS0 := mrun_lt n (wrapN n) a b (by have := ok.three; omega) i
    obtain ⟨S, hS⟩ : ∃ S, S = mrun n (wrapN n) a b i := ⟨_, rfl⟩
    obtain ⟨X, hX⟩ : ∃ X, X = S + wn a i * b := ⟨_, rfl⟩
    obtain ⟨t, ht⟩ : ∃ t, t = mt X (wrapN n) := ⟨_, rfl⟩
    obtain ⟨Y, hY⟩ : ∃ Y, Y = X + t * n := ⟨_, rfl⟩
    obtain ⟨Z, hZ⟩ : ∃ Z, Z = mrun n (wrapN n) a b (i + 1) := ⟨_, rfl⟩
    have hZ1 : Z = mstep n (wrapN n) b S (wn a i) := by rw [hZ, hS]; rfl
    have htl : t < 18446744073709551616 := by rw [ht]; exact mt_lt _ _
    have hZ2 : Z < big := by have h1 := mrun_lt n (wrapN n) a b ok.pos (i + 1); have h2 := ok.top; rw [hZ]; omega
    have hS2 : S < big := by have h2 := ok.top; rw [hS]; omega
    have e1 : addLo (pLo (wn a i) (wn b 0)) (wd S 0) 0 = wd X 0 := by
      have h := cc_lo S (wn a i) b 0
      rw [cc_zero] at h
      rw [first_lo, hX, ← h]; rfl
    have e2 : IntKind.u64.wrap (pHi (wn a i) (wn b 0) + addHi (pLo (wn a i) (wn b 0)) (wd S 0) 0) = (cc S (wn a i) b 1 : Nat) := by
      have h := cc_hi S (wn a i) b 0
      rw [cc_zero] at h
      rw [first_hi _ _ _ hx (wn_lt b 0) (wd_bd S 0).1 (wd_bd S 0).2, ← h]; rfl
    have e3 : IntKind.u64.wrap (wd X 0 * wrapZ (wd n 0)) = (t : Nat) := by
      rw [IntKind.wrap_u64, ← wrapN_cast, ht, wd_wn]
      unfold mt wn
      rw [Nat.mul_zero, Nat.pow_zero, Nat.div_one, ← Int.natCast_mul]; rfl
    have e4 : IntKind.u64.wrap (pHi t (wn n 0) + addHi (pLo t (wn n 0)) (wd X 0) 0) = (cc X t n 1 : Nat) := by
      have h := cc_hi X t n 0
      rw [cc_zero] at h
      rw [first_hi _ _ _ htl (wn_lt n 0) (wd_bd X 0).1 (wd_bd X 0).2, ← h]; rfl
    have e5 : IntKind.u64.wrap (((cc S (wn a i) b 6 : Nat) : Int) + ((cc X t n 6 : Nat) : Int)) = wd Z 5 := by
      have h := step_top n (wrapN n) b S (wn a i) hS2 hb ok.big (by rw [← hZ1]; exact hZ2)
      rw [← hX, ← ht, ← hZ1] at h
      have h2 := wn_lt Z 5
      rw [IntKind.wrap_u64, wd_wn, ← h]
      omega
    have e6 : ∀ k, k < 5 → wd Z k = wd Y (k + 1) := fun k _ => by rw [hZ1, step_word, hY, hX, ht, ← hX]
    have cA : ∀ m, ∀ w, Calls Tryd.prog 69 #[.int .u64 (wd a i), .int .u64 (wd b m), .int .u64 (wd S m), .int .u64 ((cc S (wn a i) b m : Nat) : Int)] w fun e w' => e = .returned (.tuple #[.int .u64 (wd X m), .int .u64 ((cc S (wn a i) b (m + 1) : Nat) : Int)]) ∧ Below w.heap.size w w' := fun m w => by
      have h := mulAddM_any (wd a i) (wd b m) (wd S m) ((cc S (wn a i) b m : Nat) : Int) (wd_bd _ _).1 (wd_bd _ _).2 (wd_bd _ _).1 (wd_bd _ _).2 (wd_bd _ _).1 (wd_bd _ _).2 (Int.natCast_nonneg _) (by have := cc_lt S (wn a i) b m hx; omega) w
      rw [wd_wn a i, cc_lo, cc_hi, ← hX] at h
      exact h.mono fun e w2 ⟨h1, h2⟩ => ⟨h1, h2 ▸ Below.refl _ _⟩
    have cB : ∀ m, ∀ w, Calls Tryd.prog 69 #[.int .u64 ((t : Nat) : Int), .int .u64 (wd n m), .int .u64 (wd X m), .int .u64 ((cc X t n m : Nat) : Int)] w fun e w' => e = .returned (.tuple #[.int .u64 (wd Y m), .int .u64 ((cc X t n (m + 1) : Nat) : Int)]) ∧ Below w.heap.size w w' := fun m w => by
      have h := mulAddM_any ((t : Nat) : Int) (wd n m) (wd X m) ((cc X t n m : Nat) : Int) (Int.natCast_nonneg _) (by omega) (wd_bd _ _).1 (wd_bd _ _).2 (wd_bd _ _).1 (wd_bd _ _).2 (Int.natCast_nonneg _) (by have := cc_lt X t n m htl; omega) w
      rw [cc_lo, cc_hi, ← hY] at h
      exact h.mono fun e w2 ⟨h1, h2⟩ => ⟨h1, h2 ▸ Below.refl _ _⟩
    have cC : ∀ w, Calls Tryd.prog 68 #[.int .u64 (wd a i), .int .u64 (wd b 0)] w fun e w' => e = .returned (.tuple #[.int .u64 (pHi (wn a i) (wn b 0)), .int .u64 (pLo (wn a i) (wn b 0))]) ∧ Below w.heap.size w w' := fun w =>
      (mul64' (wn a i) (wn b 0) hx (wn_lt b 0) w).mono fun e w2 ⟨h1, h2⟩ => ⟨h1, h2 ▸ Below.refl _ _⟩
    have cD : ∀ w, Calls Tryd.prog 68 #[.int .u64 ((t : Nat) : Int), .int .u64 (wd n 0)] w fun e w' => e = .returned (.tuple #[.int .u64 (pHi t (wn n 0)), .int .u64 (pLo t (wn n 0))]) ∧ Below w.heap.size w w' := fun w =>
      (mul64' t (wn n 0) htl (wn_lt n 0) w).mono fun e w2 ⟨h1, h2⟩ => ⟨h1, h2 ▸ Below.refl _ _⟩
    have cE := fun w => add64' (pLo (wn a i) (wn b 0)) (wd S 0) 0 (by unfold pLo; omega) (wd_bd S 0).1 (by omega) (by omega) w
    rw [e1] at cE
    have cF := fun w => add64' (pLo t (wn n 0)) (wd X 0) 0 (by unfold pLo; omega) (wd_bd X 0).1 (by omega) (by omega) w
    have CA : Hid _ := cA
    have CB : Hid _ := cB
    have CC : Hid _ := cC
    have CD : Hid _ := cD
    have CE : Hid _ := cE
    have CF : Hid _ := cF
    have E6 : Hid _ := e6
    have HZ : Hid _ := hZ
    rw [← hS] at H4
    clear cA cB cC cD cE cF e6 hZ hZ1 hZ2 hS hS2 hS0 hX ht hY htl hx e1
    generalize addHi (pLo (wn a i) (wn b 0)) (wd S 0) 0 = k1 at e2 CE
    generalize addHi (pLo t (wn n 0)) (wd X 0) 0 = k2 at e4 CF
    generalize addLo (pLo t (wn n 0)) (wd X 0) 0 = z2 at CF
    generalize pHi (wn a i) (wn b 0) = h1 at e2 CC
    generalize pLo (wn a i) (wn b 0) = l1 at CC CE
    generalize pHi t (wn n 0) = h2 at e4 CD
    generalize pLo t (wn n 0) = l2 at CD CF
    refine wp_seq ?_
    refine walk_seqA 1 [.quiet (.bool true)] (sB H4) ?ho4 ?he4
    case ho4 => exact ak (by refine fun γ => ⟨rfl, fun w' h => ?_⟩; clear h; go_simp <;> omega) trivial
    intro γ w5 l hM hl
    have M5 : Mm w5 [(γ2_0, cells6 S), (γ1_0, cells6 a), (γ1_1, cells6 b), (γ1_2, zero6), (g, modx n o s)] := H4.out.1.grow hM (Nat.le_refl _) hl [] rfl (by decide)
    have B5 : Below w.heap.size w w5 := H4.out.2.trans ((hM.below).mono H4.out.2.size)
    clear hM hl l H4
    clear γ
    have H5 : Hid (_ ∧ _) := ⟨M5, B5⟩
    clear M5 B5
    refine rest0 rfl (then_normal (wp_seq ?_))
    refine wp_cond_true rfl (wp_skip ?_)
    refine then_normal (wp_seq ?_)
    refine wp_block (wp_seq ?_)
    refine walk_seqA 2 [.quiet (.int .u64 (wd a i)), .quiet (.int .u64 (wd a i))] (sB H5) ?ho5 ?he5
    case ho5 => exact ak (fun γ => ⟨rfl, fun w' _ => ex_index6 rfl rfl rfl hlt⟩) (ak (fun _ => ⟨rfl, fun _ _ => rfl⟩) trivial)
    intro γ w6 l hM hl
    have M6 : Mm w6 [(γ2_0, cells6 S), (γ1_0, cells6 a), (γ1_1, cells6 b), (γ1_2, zero6), (g, modx n o s)] := H5.out.1.grow hM (Nat.le_refl _) hl [] rfl (by decide)
    have B6 : Below w.heap.size w w6 := H5.out.2.trans ((hM.below).mono H5.out.2.size)
    clear hM hl l H5
    clear γ
    have H6 : Hid (_ ∧ _) := ⟨M6, B6⟩
    clear M6 B6
    refine rest0 rfl (then_normal (wp_seq ?_))
    refine walk_seqA 9 [.quiet (.int .u64 (wd a i)), .quiet (PT γ1_1 0), .quiet (.int .u64 (wd b 0)), .call (.tuple #[.int .u64 h1, .int .u64 l1]), .quiet (.tuple #[.int .u64 h1, .int .u64 l1]), .quiet (.int .u64 h1), .quiet (.int .u64 l1), .quiet (.int .u64 h1), .quiet (.int .u64 l1)] (sB H6) ?ho6 ?he6
    case ho6 => exact ak (fun _ => ⟨rfl, fun _ _ => rfl⟩) (ak (by refine fun γ => ⟨rfl, fun w' h => ?_⟩; clear h; go_simp) (ak (fun γ => ⟨rfl, fun w' h => ex_load1 h 2 rfl rfl rfl rfl⟩) (ak (fun γ => ⟨rfl, fun w' h => ⟨68, #[.int .u64 (wd a i), .int .u64 (wd b 0)], exec_call rfl call68 rfl (mpn rfl), CC.out w'⟩⟩) (ak (fun _ => ⟨rfl, fun _ _ => rfl⟩) (ak (by refine fun γ => ⟨rfl, fun w' h => ?_⟩; clear h; go_simp) (ak (by refine fun γ => ⟨rfl, fun w' h => ?_⟩; clear h; go_simp) (ak (fun _ => ⟨rfl, fun _ _ => rfl⟩) (ak (fun _ => ⟨rfl, fun _ _ => rfl⟩) trivial))))))))
    intro γ w7 l hM hl
    have M7 : Mm w7 [(γ2_0, cells6 S), (γ1_0, cells6 a), (γ1_1, cells6 b), (γ1_2, zero6), (g, modx n o s)] := H6.out.1.grow hM (Nat.le_refl _) hl [] rfl (by decide)
    have B7 : Below w.heap.size w w7 := H6.out.2.trans ((hM.below).mono H6.out.2.size)
    clear hM hl l H6
    clear γ
    have H7 : Hid (_ ∧ _) := ⟨M7, B7⟩
    clear M7 B7
    refine rest0 rfl (then_normal (wp_seq ?_))
    refine walk_seqA 7 [.quiet (.int .u64 l1), .quiet (PT γ2_0 0), .quiet (.int .u64 (wd S 0)), .quiet (.tuple #[.int .u64 (wd X 0), .int .u64 k1]), .quiet (.tuple #[.int .u64 (wd X 0), .int .u64 k1]), .quiet (.int .u64 (wd X 0)), .quiet (.int .u64 k1)] (sB H7) ?ho7 ?he7
    case ho7 => exact ak (fun _ => ⟨rfl, fun _ _ => rfl⟩) (ak (by refine fun γ => ⟨rfl, fun w' h => ?_⟩; clear h; go_simp) (ak (fun γ => ⟨rfl, fun w' h => ex_load1 h 0 rfl rfl rfl rfl⟩) (ak (fun γ => ⟨rfl, fun w' h => ex_extern rfl (CE.out w') rfl (mpn rfl)⟩) (ak (fun _ => ⟨rfl, fun _ _ => rfl⟩) (ak (by refine fun γ => ⟨rfl, fun w' h => ?_⟩; clear h; go_simp) (ak (by refine fun γ => ⟨rfl, fun w' h => ?_⟩; clear h; go_simp) trivial))))))
    intro γ w8 l hM hl
    have M8 : Mm w8 [(γ2_0, cells6 S), (γ1_0, cells6 a), (γ1_1, cells6 b), (γ1_2, zero6), (g, modx n o s)] := H7.out.1.grow hM (Nat.le_refl _) hl [] rfl (by decide)
    have B8 : Below w.heap.size w w8 := H7.out.2.trans ((hM.below).mono H7.out.2.size)
    clear hM hl l H7
    clear γ
    have H8 : Hid (_ ∧ _) := ⟨M8, B8⟩
    clear M8 B8
    refine rest_at (l := [7, 8]) rfl ?_
    refine rest_set (d := 11) rfl rfl rfl rfl ?_
    simp only [Act.put, sa, sz, ss]
    refine rest_set (d := 12) rfl rfl rfl rfl ?_
    simp only [Act.put, sa, sz, ss]
    refine rest_nil (then_normal (wp_seq ?_))
    refine walk_seqA 4 [.quiet (.int .u64 h1), .quiet (.int .u64 k1), .quiet (.int .u64 ((cc S (wn a i) b 1 : Nat) : Int)), .quiet (.int .u64 ((cc S (wn a i) b 1 : Nat) : Int))] (sB H8) ?ho8 ?he8
    case ho8 => exact ak (fun _ => ⟨rfl, fun _ _ => rfl⟩) (ak (fun _ => ⟨rfl, fun _ _ => rfl⟩) (ak (by refine fun γ => ⟨rfl, fun w' h => ?_⟩; clear h; go_simp) (ak (fun _ => ⟨rfl, fun _ _ => rfl⟩) trivial)))
    intro γ w9 l hM hl
    have M9 : Mm w9 [(γ2_0, cells6 S), (γ1_0, cells6 a), (γ1_1, cells6 b), (γ1_2, zero6), (g, modx n o s)] := H8.out.1.grow hM (Nat.le_refl _) hl [] rfl (by decide)
    have B9 : Below w.heap.size w w9 := H8.out.2.trans ((hM.below).mono H8.out.2.size)
    clear hM hl l H8
    clear γ
    have H9 : Hid (_ ∧ _) := ⟨M9, B9⟩
    clear M9 B9
    refine rest0 rfl (then_normal (wp_seq ?_))
    refine walk_seqA 7 [.quiet (.int .u64 (wd X 0)), .quiet (PT g 0), .quiet (PT g 0), .quiet (PT g 6), .quiet (.int .u64 (wrapZ (wd n 0))), .quiet (.int .u64 ((t : Nat) : Int)), .quiet (.int .u64 ((t : Nat) : Int))] (sB H9) ?ho9 ?he9
    case ho9 => exact ak (fun _ => ⟨rfl, fun _ _ => rfl⟩) (ak (fun _ => ⟨rfl, fun _ _ => rfl⟩) (ak (by refine fun γ => ⟨rfl, fun w' h => ?_⟩; clear h; go_simp) (ak (by refine fun γ => ⟨rfl, fun w' h => ?_⟩; clear h; go_simp) (ak (fun γ => ⟨rfl, fun w' h => ex_load1 h 4 rfl rfl rfl rfl⟩) (ak (by refine fun γ => ⟨rfl, fun w' h => ?_⟩; clear h; go_simp) (ak (fun _ => ⟨rfl, fun _ _ => rfl⟩) trivial))))))
    intro γ w10 l hM hl
    have M10 : Mm w10 [(γ2_0, cells6 S), (γ1_0, cells6 a), (γ1_1, cells6 b), (γ1_2, zero6), (g, modx n o s)] := H9.out.1.grow hM (Nat.le_refl _) hl [] rfl (by decide)
    have B10 : Below w.heap.size w w10 := H9.out.2.trans ((hM.below).mono H9.out.2.size)
    clear hM hl l H9
    clear γ
    have H10 : Hid (_ ∧ _) := ⟨M10, B10⟩
    clear M10 B10
    refine rest0 rfl (then_normal (wp_seq ?_))
    refine walk_seqA 12 [.quiet (.int .u64 ((t : Nat) : Int)), .quiet (PT g 0), .quiet (PT g 0), .quiet (PT g 0), .quiet (PT g 0), .quiet (.int .u64 (wd n 0)), .call (.tuple #[.int .u64 h2, .int .u64 l2]), .quiet (.tuple #[.int .u64 h2, .int .u64 l2]), .quiet (.int .u64 h2), .quiet (.int .u64 l2), .quiet (.int .u64 h2), .quiet (.int .u64 l2)] (sB H10) ?ho10 ?he10
    case ho10 => exact ak (fun _ => ⟨rfl, fun _ _ => rfl⟩) (ak (fun _ => ⟨rfl, fun _ _ => rfl⟩) (ak (by refine fun γ => ⟨rfl, fun w' h => ?_⟩; clear h; go_simp) (ak (by refine fun γ => ⟨rfl, fun w' h => ?_⟩; clear h; go_simp) (ak (by refine fun γ => ⟨rfl, fun w' h => ?_⟩; clear h; go_simp) (ak (fun γ => ⟨rfl, fun w' h => ex_load1 h 4 rfl rfl rfl rfl⟩) (ak (fun γ => ⟨rfl, fun w' h => ⟨68, #[.int .u64 ((t : Nat) : Int), .int .u64 (wd n 0)], exec_call rfl call68 rfl (mpn rfl), CD.out w'⟩⟩) (ak (fun _ => ⟨rfl, fun _ _ => rfl⟩) (ak (by refine fun γ => ⟨rfl, fun w' h => ?_⟩; clear h; go_simp) (ak (by refine fun γ => ⟨rfl, fun w' h => ?_⟩; clear h; go_simp) (ak (fun _ => ⟨rfl, fun _ _ => rfl⟩) (ak (fun _ => ⟨rfl, fun _ _ => rfl⟩) trivial)))))))))))
    intro γ w11 l hM hl
    have M11 : Mm w11 [(γ2_0, cells6 S), (γ1_0, cells6 a), (γ1_1, cells6 b), (γ1_2, zero6), (g, modx n o s)] := H10.out.1.grow hM (Nat.le_refl _) hl [] rfl (by decide)
    have B11 : Below w.heap.size w w11 := H10.out.2.trans ((hM.below).mono H10.out.2.size)
    clear hM hl l H10
    clear γ
    have H11 : Hid (_ ∧ _) := ⟨M11, B11⟩
    clear M11 B11
    refine rest0 rfl (then_normal (wp_seq ?_))
    refine walk_seqA 7 [.quiet (.int .u64 l2), .quiet (.int .u64 (wd X 0)), .quiet (.tuple #[.int .u64 z2, .int .u64 k2]), .quiet (.tuple #[.int .u64 z2, .int .u64 k2]), .quiet (.int .u64 z2), .quiet (.int .u64 k2), .quiet (.int .u64 k2)] (sB H11) ?ho11 ?he11
    case ho11 => exact ak (fun _ => ⟨rfl, fun _ _ => rfl⟩) (ak (fun _ => ⟨rfl, fun _ _ => rfl⟩) (ak (fun γ => ⟨rfl, fun w' h => ex_extern rfl (CF.out w') rfl (mpn rfl)⟩) (ak (fun _ => ⟨rfl, fun _ _ => rfl⟩) (ak (by refine fun γ => ⟨rfl, fun w' h => ?_⟩; clear h; go_simp) (ak (by refine fun γ => ⟨rfl, fun w' h => ?_⟩; clear h; go_simp) (ak (fun _ => ⟨rfl, fun _ _ => rfl⟩) trivial))))))
    intro γ w12 l hM hl
    have M12 : Mm w12 [(γ2_0, cells6 S), (γ1_0, cells6 a), (γ1_1, cells6 b), (γ1_2, zero6), (g, modx n o s)] := H11.out.1.grow hM (Nat.le_refl _) hl [] rfl (by decide)
    have B12 : Below w.heap.size w w12 := H11.out.2.trans ((hM.below).mono H11.out.2.size)
    clear hM hl l H11
    clear γ
    have H12 : Hid (_ ∧ _) := ⟨M12, B12⟩
    clear M12 B12
    refine rest0 rfl (then_normal (wp_seq ?_))
    refine walk_seqA 4 [.quiet (.int .u64 h2), .quiet (.int .u64 k2), .quiet (.int .u64 ((cc X t n 1 : Nat) : Int)), .quiet (.int .u64 ((cc X t n 1 : Nat) : Int))] (sB H12) ?ho12 ?he12
    case ho12 => exact ak (fun _ => ⟨rfl, fun _ _ => rfl⟩) (ak (fun _ => ⟨rfl, fun _ _ => rfl⟩) (ak (by refine fun γ => ⟨rfl, fun w' h => ?_⟩; clear h; go_simp) (ak (fun _ => ⟨rfl, fun _ _ => rfl⟩) trivial)))
    intro γ w13 l hM hl
    have M13 : Mm w13 [(γ2_0, cells6 S), (γ1_0, cells6 a), (γ1_1, cells6 b), (γ1_2, zero6), (g, modx n o s)] := H12.out.1.grow hM (Nat.le_refl _) hl [] rfl (by decide)
    have B13 : Below w.heap.size w w13 := H12.out.2.trans ((hM.below).mono H12.out.2.size)
    clear hM hl l H12
    clear γ
    have H13 : Hid (_ ∧ _) := ⟨M13, B13⟩
    clear M13 B13
    refine rest0 rfl (then_normal (wp_seq (wp_seq ?_)))
    refine walk_seqA 1 [.quiet (.int .i64 1)] (sB H13) ?ho13 ?he13
    case ho13 => exact ak (fun _ => ⟨rfl, fun _ _ => rfl⟩) trivial
    intro γ w14 l hM hl
    have M14 : Mm w14 [(γ2_0, cells6 S), (γ1_0, cells6 a), (γ1_1, cells6 b), (γ1_2, zero6), (g, modx n o s)] := H13.out.1.grow hM (Nat.le_refl _) hl [] rfl (by decide)
    have B14 : Below w.heap.size w w14 := H13.out.2.trans ((hM.below).mono H13.out.2.size)
    clear hM hl l H13
    clear γ
    have H14 : Hid (_ ∧ _) := ⟨M14, B14⟩
    clear M14 B14
    refine rest0 rfl (then_normal (wp_block ?_))
    refine loop_ghost (α := Nat) (fun m a' w' => ∃ s2 : Nat → Value, a' = ⟨#[PT g 0, N a, N b, undef, PT γ1_0 0, PT γ1_1 0, PT γ1_2 0, PT γ2_0 0, undef, .int .u64 (wd a i), .int .u64 h2, s2 11, .int .u64 k2, .int .u64 ((cc S (wn a i) b (m + 1) : Nat) : Int), .int .u64 ((t : Nat) : Int), .int .u64 l2, .int .u64 ((cc X t n (m + 1) : Nat) : Int), .int .i64 ((m + 1 : Nat) : Int), N a, .int .i64 ((i : Nat) : Int), .bool true, .int .u64 (wd a i), .tuple #[.int .u64 h1, .int .u64 l1], .int .u64 (wd a i), PT γ1_1 0, .int .u64 (wd b 0), .tuple #[.int .u64 h1, .int .u64 l1], .int .u64 h1, .int .u64 l1, .tuple #[.int .u64 (wd X 0), .int .u64 k1], .int .u64 l1, PT γ2_0 0, .int .u64 (wd S 0), .tuple #[.int .u64 (wd X 0), .int .u64 k1], .int .u64 (wd X 0), .int .u64 k1, .int .u64 h1, .int .u64 k1, .int .u64 ((cc S (wn a i) b 1 : Nat) : Int), .int .u64 (wd X 0), PT g 0, PT g 0, PT g 6, .int .u64 (wrapZ (wd n 0)), .int .u64 ((t : Nat) : Int), .tuple #[.int .u64 h2, .int .u64 l2], .int .u64 ((t : Nat) : Int), PT g 0, PT g 0, PT g 0, PT g 0, .int .u64 (wd n 0), .tuple #[.int .u64 h2, .int .u64 l2], .int .u64 h2, .int .u64 l2, .tuple #[.int .u64 z2, .int .u64 k2], .int .u64 l2, .int .u64 (wd X 0), .tuple #[.int .u64 z2, .int .u64 k2], .int .u64 z2, .int .u64 k2, .int .u64 h2, .int .u64 k2, .int .u64 ((cc X t n 1 : Nat) : Int), s2 64, s2 65, s2 66, s2 67, s2 68, s2 69, s2 70, s2 71, s2 72, s2 73, s2 74, s2 75, s2 76, s2 77, s2 78, s2 79, s2 80, s2 81, s2 82, s2 83, s2 84, s2 85, s2 86, s2 87, s2 88, s2 89, s2 90, s2 91, s2 92, s2 93, s2 94, s2 95, s0 96, s0 97, s0 98, s0 99, s0 100, undef, undef, undef], []⟩ ∧ (Mm w' [(γ2_0, rowc (inn S Y (m + 1))), (γ1_0, cells6 a), (γ1_1, cells6 b), (γ1_2, zero6), (g, modx n o s)] ∧ Below w.heap.size w w') ∧ m ≤ 5) (fun m => 5 - m) 0 ?st2 ?rd2
    case st2 => exact ⟨(slotfn [undef, undef, undef, undef, undef, undef, undef, undef, undef, undef, undef, .int .u64 (wd X 0), undef, undef, undef, undef, undef, undef, undef, undef, undef, undef, undef, undef, undef, undef, undef, undef, undef, undef, undef, undef, undef, undef, undef, undef, undef, undef, undef, undef, undef, undef, undef, undef, undef, undef, undef, undef, undef, undef, undef, undef, undef, undef, undef, undef, undef, undef, undef, undef, undef, undef, undef, undef, s0 64, s0 65, s0 66, s0 67, s0 68, s0 69, s0 70, s0 71, s0 72, s0 73, s0 74, s0 75, s0 76, s0 77, s0 78, s0 79, s0 80, s0 81, s0 82, s0 83, s0 84, s0 85, s0 86, s0 87, s0 88, s0 89, s0 90, s0 91, s0 92, s0 93, s0 94, s0 95]), rfl, ⟨H14.out.1, H14.out.2⟩, by omega⟩
    intro m a' w15 hI
    obtain ⟨s2, rfl, hMB, hk2⟩ := hI
    have H15 : Hid (_ ∧ _) := hMB
    clear hMB H14
    by_cases hlt2 : m < 5
    · have hrd : True := trivial
      clear hrd
      have hm6 : m + 1 < 6 := by omega
      refine wp_seq (wp_seq ?_)
      refine walk_seqA 2 [.quiet (.int .i64 ((m + 1 : Nat) : Int)), .quiet (.bool true)] (sB H15) ?ho14 ?he14
      case ho14 => exact ak (fun _ => ⟨rfl, fun _ _ => rfl⟩) (ak (by refine fun γ => ⟨rfl, fun w' h => ?_⟩; clear h; go_simp <;> omega) trivial)
      intro γ w16 l hM hl
      have M16 : Mm w16 [(γ2_0, rowc (inn S Y (m + 1))), (γ1_0, cells6 a), (γ1_1, cells6 b), (γ1_2, zero6), (g, modx n o s)] := H15.out.1.grow hM (Nat.le_refl _) hl [] rfl (by decide)
      have B16 : Below w.heap.size w w16 := H15.out.2.trans ((hM.below).mono H15.out.2.size)
      clear hM hl l H15
      clear γ
      have H16 : Hid (_ ∧ _) := ⟨M16, B16⟩
      clear M16 B16
      refine rest0 rfl (then_normal (wp_cond_true rfl ?_))
      refine wp_skip (then_normal ?_)
      refine wp_seq (wp_block (wp_seq ?_))
      refine walk_anyA 13 [.quiet (.int .u64 (wd a i)), .quiet (.int .i64 ((m + 1 : Nat) : Int)), .quiet (PT γ1_1 (0 + (m + 1))), .quiet (.int .u64 (wd b (m + 1))), .quiet (.int .i64 ((m + 1 : Nat) : Int)), .quiet (PT γ2_0 (0 + (m + 1))), .quiet (.int .u64 (wd S (m + 1))), .quiet (.int .u64 ((cc S (wn a i) b (m + 1) : Nat) : Int)), .call (.tuple #[.int .u64 (wd X (m + 1)), .int .u64 ((cc S (wn a i) b (m + 1 + 1) : Nat) : Int)]), .quiet (.tuple #[.int .u64 (wd X (m + 1)), .int .u64 ((cc S (wn a i) b (m + 1 + 1) : Nat) : Int)]), .quiet (.int .u64 (wd X (m + 1))), .quiet (.int .u64 ((cc S (wn a i) b (m + 1 + 1) : Nat) : Int)), .quiet (.int .u64 (wd X (m + 1)))] (sB H16) ?ho15 ?he15
      case ho15 => exact ak (fun _ => ⟨rfl, fun _ _ => rfl⟩) (ak (fun _ => ⟨rfl, fun _ _ => rfl⟩) (ak (fun γ => ⟨rfl, fun w' _ => ex_indexAddr6 rfl rfl rfl hm6⟩) (ak (fun γ => ⟨rfl, fun w' h => ex_load1 h 2 rfl rfl rfl (row_at (f := wd b) hm6)⟩) (ak (fun _ => ⟨rfl, fun _ _ => rfl⟩) (ak (fun γ => ⟨rfl, fun w' _ => ex_indexAddr6 rfl rfl rfl hm6⟩) (ak (fun γ => ⟨rfl, fun w' h => ex_load1 h 0 rfl rfl rfl (inn_at hm6)⟩) (ak (fun _ => ⟨rfl, fun _ _ => rfl⟩) (ak (fun γ => ⟨rfl, fun w' h => ⟨69, #[.int .u64 (wd a i), .int .u64 (wd b (m + 1)), .int .u64 (wd S (m + 1)), .int .u64 ((cc S (wn a i) b (m + 1) : Nat) : Int)], exec_call rfl call69 rfl (mpn rfl), CA.out (m + 1) w'⟩⟩) (ak (fun _ => ⟨rfl, fun _ _ => rfl⟩) (ak (by refine fun γ => ⟨rfl, fun w' h => ?_⟩; clear h; go_simp) (ak (by refine fun γ => ⟨rfl, fun w' h => ?_⟩; clear h; go_simp) (ak (fun _ => ⟨rfl, fun _ _ => rfl⟩) trivial))))))))))))
      intro γ w17 l hM hl
      have M17 : Mm w17 [(γ2_0, rowc (inn S Y (m + 1))), (γ1_0, cells6 a), (γ1_1, cells6 b), (γ1_2, zero6), (g, modx n o s)] := H16.out.1.grow hM (Nat.le_refl _) hl [] rfl (by decide)
      have B17 : Below w.heap.size w w17 := H16.out.2.trans ((hM.below).mono H16.out.2.size)
      clear hM hl l H16
      clear γ
      have H17 : Hid (_ ∧ _) := ⟨M17, B17⟩
      clear M17 B17
      refine rest_at (l := [13]) rfl ?_
      refine rest_set (d := 13) rfl rfl rfl rfl ?_
      simp only [Act.put, sa, sz, ss]
      refine rest_nil (then_normal ?_)
      refine walk_seqA 16 [.quiet (.int .i64 ((m + 1 : Nat) : Int)), .quiet (.int .i64 ((m : Nat) : Int)), .quiet (.int .u64 ((t : Nat) : Int)), .quiet (PT g 0), .quiet (.int .i64 ((m + 1 : Nat) : Int)), .quiet (PT g 0), .quiet (PT g 0), .quiet (PT g (0 + (m + 1))), .quiet (.int .u64 (wd n (m + 1))), .quiet (.int .u64 (wd X (m + 1))), .quiet (.int .u64 ((cc X t n (m + 1) : Nat) : Int)), .call (.tuple #[.int .u64 (wd Y (m + 1)), .int .u64 ((cc X t n (m + 1 + 1) : Nat) : Int)]), .quiet (.tuple #[.int .u64 (wd Y (m + 1)), .int .u64 ((cc X t n (m + 1 + 1) : Nat) : Int)]), .quiet (.int .u64 (wd Y (m + 1))), .quiet (.int .u64 ((cc X t n (m + 1 + 1) : Nat) : Int)), .quiet (PT γ2_0 (0 + m))] (sB H17) ?ho16 ?he16
      case ho16 => exact ak (fun _ => ⟨rfl, fun _ _ => rfl⟩) (ak (by refine fun γ => ⟨rfl, fun w' h => ?_⟩; clear h; go_simp; rw [IntKind.wrap_i64]; omega) (ak (fun _ => ⟨rfl, fun _ _ => rfl⟩) (ak (fun _ => ⟨rfl, fun _ _ => rfl⟩) (ak (fun _ => ⟨rfl, fun _ _ => rfl⟩) (ak (by refine fun γ => ⟨rfl, fun w' h => ?_⟩; clear h; go_simp) (ak (by refine fun γ => ⟨rfl, fun w' h => ?_⟩; clear h; go_simp) (ak (fun γ => ⟨rfl, fun w' _ => ex_indexAddr6 rfl rfl rfl hm6⟩) (ak (fun γ => ⟨rfl, fun w' h => ex_load1 h 4 rfl rfl rfl (modn_at hm6)⟩) (ak (fun _ => ⟨rfl, fun _ _ => rfl⟩) (ak (fun _ => ⟨rfl, fun _ _ => rfl⟩) (ak (fun γ => ⟨rfl, fun w' h => ⟨69, #[.int .u64 ((t : Nat) : Int), .int .u64 (wd n (m + 1)), .int .u64 (wd X (m + 1)), .int .u64 ((cc X t n (m + 1) : Nat) : Int)], exec_call rfl call69 rfl (mpn rfl), CB.out (m + 1) w'⟩⟩) (ak (fun _ => ⟨rfl, fun _ _ => rfl⟩) (ak (by refine fun γ => ⟨rfl, fun w' h => ?_⟩; clear h; go_simp) (ak (by refine fun γ => ⟨rfl, fun w' h => ?_⟩; clear h; go_simp) (ak (fun γ => ⟨rfl, fun w' _ => ex_indexAddr6 rfl rfl rfl (Nat.lt_of_succ_lt hm6)⟩) trivial)))))))))))))))
      intro γ w18 l hM hl
      have M18 : Mm w18 [(γ2_0, rowc (inn S Y (m + 1))), (γ1_0, cells6 a), (γ1_1, cells6 b), (γ1_2, zero6), (g, modx n o s)] := H17.out.1.grow hM (Nat.le_refl _) hl [] rfl (by decide)
      have B18 : Below w.heap.size w w18 := H17.out.2.trans ((hM.below).mono H17.out.2.size)
      clear hM hl l H17
      clear γ
      have H18 : Hid (_ ∧ _) := ⟨M18, B18⟩
      clear M18 B18
      refine rest_at (l := [16, 17]) rfl ?_
      refine rest_store rfl rfl rfl (ex_storeI H18.out.1 0 rfl rfl Tryd.sizeOf22 rfl rfl (row_bd (Nat.lt_of_succ_lt hm6))) ?_
      have H19 : Hid (Mm (w18.setCells γ2_0 (0 + m) [.int .u64 (wd Y (m + 1))]) [(γ2_0, rowc (inn S Y (m + 1 + 1))), (γ1_0, cells6 a), (γ1_1, cells6 b), (γ1_2, zero6), (g, modx n o s)] ∧ Below w.heap.size w (w18.setCells γ2_0 (0 + m) [.int .u64 (wd Y (m + 1))])) := ⟨by
        have h := H18.out.1.put 0 (off := (0 + m)) (vs := [.int .u64 (wd Y (m + 1))]) rfl (row_bd (Nat.lt_of_succ_lt hm6))
        rw [patch_row (Nat.lt_of_succ_lt hm6), inn_step rfl] at h
        exact h, below_setCells _ o2_0.out _ _ _ H18.out.2⟩
      clear H18
      generalize hgw : World.setCells _ _ _ _ = w19 at H19 ⊢
      clear hgw
      refine rest_set (d := 16) rfl rfl rfl rfl ?_
      simp only [Act.put, sa, sz, ss]
      refine rest_nil (block_normal (then_normal ?_))
      refine walk_seqA 2 [.quiet (.int .i64 ((m + 1 : Nat) : Int)), .quiet (.int .i64 ((m + 1 + 1 : Nat) : Int))] (sB H19) ?ho17 ?he17
      case ho17 => exact ak (fun _ => ⟨rfl, fun _ _ => rfl⟩) (ak (by refine fun γ => ⟨rfl, fun w' h => ?_⟩; clear h; go_simp; rw [IntKind.wrap_i64]; omega) trivial)
      intro γ w20 l hM hl
      have M20 : Mm w20 [(γ2_0, rowc (inn S Y (m + 1 + 1))), (γ1_0, cells6 a), (γ1_1, cells6 b), (γ1_2, zero6), (g, modx n o s)] := H19.out.1.grow hM (Nat.le_refl _) hl [] rfl (by decide)
      have B20 : Below w.heap.size w w20 := H19.out.2.trans ((hM.below).mono H19.out.2.size)
      clear hM hl l H19
      clear γ
      have H20 : Hid (_ ∧ _) := ⟨M20, B20⟩
      clear M20 B20
      refine rest_at (l := [2]) rfl ?_
      refine rest_set (d := 17) rfl rfl rfl rfl ?_
      simp only [Act.put, sa, sz, ss]
      refine rest_nil (then_normal ?_)
      exact ⟨m + 1, ⟨(slotfn [undef, undef, undef, undef, undef, undef, undef, undef, undef, undef, undef, .int .u64 (wd X (m + 1)), undef, undef, undef, undef, undef, undef, undef, undef, undef, undef, undef, undef, undef, undef, undef, undef, undef, undef, undef, undef, undef, undef, undef, undef, undef, undef, undef, undef, undef, undef, undef, undef, undef, undef, undef, undef, undef, undef, undef, undef, undef, undef, undef, undef, undef, undef, undef, undef, undef, undef, undef, undef, .int .i64 ((m + 1 : Nat) : Int), .bool true, .int .i64 ((m + 1 : Nat) : Int), .int .i64 ((m + 1 + 1 : Nat) : Int), .tuple #[.int .u64 (wd X (m + 1)), .int .u64 ((cc S (wn a i) b (m + 1 + 1) : Nat) : Int)], .int .u64 (wd a i), .int .i64 ((m + 1 : Nat) : Int), PT γ1_1 (0 + (m + 1)), .int .u64 (wd b (m + 1)), .int .i64 ((m + 1 : Nat) : Int), PT γ2_0 (0 + (m + 1)), .int .u64 (wd S (m + 1)), .int .u64 ((cc S (wn a i) b (m + 1) : Nat) : Int), .tuple #[.int .u64 (wd X (m + 1)), .int .u64 ((cc S (wn a i) b (m + 1 + 1) : Nat) : Int)], .int .u64 (wd X (m + 1)), .int .u64 ((cc S (wn a i) b (m + 1 + 1) : Nat) : Int), .tuple #[.int .u64 (wd Y (m + 1)), .int .u64 ((cc X t n (m + 1 + 1) : Nat) : Int)], .int .i64 ((m + 1 : Nat) : Int), .int .i64 ((m : Nat) : Int), .int .u64 ((t : Nat) : Int), PT g 0, .int .i64 ((m + 1 : Nat) : Int), PT g 0, PT g 0, PT g (0 + (m + 1)), .int .u64 (wd n (m + 1)), .int .u64 (wd X (m + 1)), .int .u64 ((cc X t n (m + 1) : Nat) : Int), .tuple #[.int .u64 (wd Y (m + 1)), .int .u64 ((cc X t n (m + 1 + 1) : Nat) : Int)], .int .u64 (wd Y (m + 1)), .int .u64 ((cc X t n (m + 1 + 1) : Nat) : Int), PT γ2_0 (0 + m)]), rfl, ⟨H20.out.1, H20.out.2⟩, by omega⟩, by omega⟩
    have hm5 : m = 5 := by omega
    subst hm5
    refine wp_seq (wp_seq ?_)
    refine walk_seqA 2 [.quiet (.int .i64 ((5 + 1 : Nat) : Int)), .quiet (.bool false)] (sB H15) ?ho18 ?he18
    case ho18 => exact ak (fun _ => ⟨rfl, fun _ _ => rfl⟩) (ak (by refine fun γ => ⟨rfl, fun w' h => ?_⟩; clear h; go_simp <;> omega) trivial)
    intro γ w21 l hM hl
    have M21 : Mm w21 [(γ2_0, rowc (inn S Y (5 + 1))), (γ1_0, cells6 a), (γ1_1, cells6 b), (γ1_2, zero6), (g, modx n o s)] := H15.out.1.grow hM (Nat.le_refl _) hl [] rfl (by decide)
    have B21 : Below w.heap.size w w21 := H15.out.2.trans ((hM.below).mono H15.out.2.size)
    clear hM hl l H15
    clear γ
    have H21 : Hid (_ ∧ _) := ⟨M21, B21⟩
    clear M21 B21
    refine rest0 rfl (then_normal (wp_cond_false rfl ?_))
    refine wp_exit ?_
    repeat refine then_exit ?_
    refine block_exit ?_
    refine then_normal ?_
    refine walk_seqA 4 [.quiet (.int .u64 ((cc S (wn a i) b (5 + 1) : Nat) : Int)), .quiet (.int .u64 ((cc X t n (5 + 1) : Nat) : Int)), .quiet (.int .u64 (wd Z 5)), .quiet (PT γ2_0 5)] (sB H21) ?ho19 ?he19
    case ho19 => exact ak (fun _ => ⟨rfl, fun _ _ => rfl⟩) (ak (fun _ => ⟨rfl, fun _ _ => rfl⟩) (ak (by refine fun γ => ⟨rfl, fun w' h => ?_⟩; clear h; go_simp) (ak (by refine fun γ => ⟨rfl, fun w' h => ?_⟩; clear h; go_simp) trivial)))
    intro γ w22 l hM hl
    have M22 : Mm w22 [(γ2_0, rowc (inn S Y (5 + 1))), (γ1_0, cells6 a), (γ1_1, cells6 b), (γ1_2, zero6), (g, modx n o s)] := H21.out.1.grow hM (Nat.le_refl _) hl [] rfl (by decide)
    have B22 : Below w.heap.size w w22 := H21.out.2.trans ((hM.below).mono H21.out.2.size)
    clear hM hl l H21
    clear γ
    have H22 : Hid (_ ∧ _) := ⟨M22, B22⟩
    clear M22 B22
    refine rest_at (l := [4]) rfl ?_
    refine rest_store rfl rfl rfl (ex_storeI H22.out.1 0 rfl rfl Tryd.sizeOf22 rfl rfl (Nat.le_of_ble_eq_true rfl)) ?_
    have H23 : Hid (Mm (w22.setCells γ2_0 5 [.int .u64 (wd Z 5)]) [(γ2_0, cells6 Z), (γ1_0, cells6 a), (γ1_1, cells6 b), (γ1_2, zero6), (g, modx n o s)] ∧ Below w.heap.size w (w22.setCells γ2_0 5 [.int .u64 (wd Z 5)])) := ⟨by
      have h := H22.out.1.put 0 (off := 5) (vs := [.int .u64 (wd Z 5)]) rfl (Nat.le_of_ble_eq_true rfl)
      rw [patch_row5, inn_end rfl E6.out] at h
      exact h, below_setCells _ o2_0.out _ _ _ H22.out.2⟩
    clear H22
    generalize hgw : World.setCells _ _ _ _ = w23 at H23 ⊢
    clear hgw
    refine rest_nil (block_normal (then_normal ?_))
    refine walk_seqA 1 [.quiet (.int .i64 ((i + 1 : Nat) : Int))] (sB H23) ?ho20 ?he20
    case ho20 => exact ak (by refine fun γ => ⟨rfl, fun w' h => ?_⟩; clear h; go_simp; rw [IntKind.wrap_i64]; omega) trivial
    intro γ w24 l hM hl
    have M24 : Mm w24 [(γ2_0, cells6 Z), (γ1_0, cells6 a), (γ1_1, cells6 b), (γ1_2, zero6), (g, modx n o s)] := H23.out.1.grow hM (Nat.le_refl _) hl [] rfl (by decide)
    have B24 : Below w.heap.size w w24 := H23.out.2.trans ((hM.below).mono H23.out.2.size)
    clear hM hl l H23
    clear γ
    have H24 : Hid (_ ∧ _) := ⟨M24, B24⟩
    clear M24 B24
    refine rest_at (l := [1]) rfl ?_
    refine rest_set (d := 19) rfl rfl rfl rfl ?_
    simp only [Act.put, sa, sz, ss]
    refine rest_nil (then_normal ?_)
    exact ⟨i + 1, ⟨(slotfn [undef, undef, undef, undef, undef, undef, undef, undef, undef, .int .u64 (wd a i), .int .u64 h2, s2 11, .int .u64 k2, .int .u64 ((cc S (wn a i) b (5 + 1) : Nat) : Int), .int .u64 ((t : Nat) : Int), .int .u64 l2, .int .u64 ((cc X t n (5 + 1) : Nat) : Int), .int .i64 ((5 + 1 : Nat) : Int), undef, undef, .bool true, .int .u64 (wd a i), .tuple #[.int .u64 h1, .int .u64 l1], .int .u64 (wd a i), PT γ1_1 0, .int .u64 (wd b 0), .tuple #[.int .u64 h1, .int .u64 l1], .int .u64 h1, .int .u64 l1, .tuple #[.int .u64 (wd X 0), .int .u64 k1], .int .u64 l1, PT γ2_0 0, .int .u64 (wd S 0), .tuple #[.int .u64 (wd X 0), .int .u64 k1], .int .u64 (wd X 0), .int .u64 k1, .int .u64 h1, .int .u64 k1, .int .u64 ((cc S (wn a i) b 1 : Nat) : Int), .int .u64 (wd X 0), PT g 0, PT g 0, PT g 6, .int .u64 (wrapZ (wd n 0)), .int .u64 ((t : Nat) : Int), .tuple #[.int .u64 h2, .int .u64 l2], .int .u64 ((t : Nat) : Int), PT g 0, PT g 0, PT g 0, PT g 0, .int .u64 (wd n 0), .tuple #[.int .u64 h2, .int .u64 l2], .int .u64 h2, .int .u64 l2, .tuple #[.int .u64 z2, .int .u64 k2], .int .u64 l2, .int .u64 (wd X 0), .tuple #[.int .u64 z2, .int .u64 k2], .int .u64 z2, .int .u64 k2, .int .u64 h2, .int .u64 k2, .int .u64 ((cc X t n 1 : Nat) : Int), .int .i64 ((5 + 1 : Nat) : Int), .bool false, s2 66, s2 67, s2 68, s2 69, s2 70, s2 71, s2 72, s2 73, s2 74, s2 75, s2 76, s2 77, s2 78, s2 79, s2 80, s2 81, s2 82, s2 83, s2 84, s2 85, s2 86, s2 87, s2 88, s2 89, s2 90, s2 91, s2 92, s2 93, s2 94, s2 95, .int .u64 ((cc S (wn a i) b (5 + 1) : Nat) : Int), .int .u64 ((cc X t n (5 + 1) : Nat) : Int), .int .u64 (wd Z 5), PT γ2_0 5, .int .i64 ((i + 1 : Nat) : Int)]), rfl, by rw [← HZ.out]; exact H24.out, by omega⟩, by omega⟩
  have hi6 : i = 6 := by omega
  subst hi6
  refine wp_seq ?_
  refine walk_seqA 1 [.quiet (.bool false)] (sB H4) ?ho21 ?he21
  case ho21 => exact ak (by refine fun γ => ⟨rfl, fun w' h => ?_⟩; clear h; go_simp <;> omega) trivial
  intro γ w25 l hM hl
  have M25 : Mm w25 [(γ2_0, cells6 (mrun n (wrapN n) a b 6)), (γ1_0, cells6 a), (γ1_1, cells6 b), (γ1_2, zero6), (g, modx n o s)] := H4.out.1.grow hM (Nat.le_refl _) hl [] rfl (by decide)
  have B25 : Below w.heap.size w w25 := H4.out.2.trans ((hM.below).mono H4.out.2.size)
  clear hM hl l H4
  clear γ
  have H25 : Hid (_ ∧ _) := ⟨M25, B25⟩
  clear M25 B25
  refine rest0 rfl (then_normal (wp_seq (wp_cond_false rfl ?_)))
  refine wp_exit ?_
  repeat refine then_exit ?_
  refine block_exit ?_
  refine then_normal (wp_seq ?_)
  refine walk_seqA 3 [.quiet (PT g 0), .quiet (N (mrun n (wrapN n) a b 6)), .call (N (mont n a b))] (sB H25) ?ho22 ?he22
  case ho22 => exact ak (fun _ => ⟨rfl, fun _ _ => rfl⟩) (ak (fun γ => ⟨rfl, fun w' h => ex_load6 h 0 rfl rfl rfl rfl⟩) (ak (fun γ => ⟨rfl, fun w' h => ⟨70, #[PT g 0, N (mrun n (wrapN n) a b 6)], exec_call rfl call70 rfl (mpn rfl), CG.out w' (h.one 4 rfl)⟩⟩) trivial))
  intro γ w26 l hM hl
  have M26 : Mm w26 [(γ2_0, cells6 (mrun n (wrapN n) a b 6)), (γ1_0, cells6 a), (γ1_1, cells6 b), (γ1_2, zero6), (g, modx n o s)] := H25.out.1.grow hM (Nat.le_refl _) hl [] rfl (by decide)
  have B26 : Below w.heap.size w w26 := H25.out.2.trans ((hM.below).mono H25.out.2.size)
  clear hM hl l H25
  clear γ
  have H26 : Hid (_ ∧ _) := ⟨M26, B26⟩
  clear M26 B26
  refine rest_at (l := [3]) rfl ?_
  refine rest_store rfl rfl rfl (ex_store6 H26.out.1 3 rfl rfl rfl rfl (Nat.le_of_ble_eq_true rfl)) ?_
  have H27 : Hid (Mm (w26.setCells γ1_2 0 (cells6 (mont n a b))) [(γ2_0, cells6 (mrun n (wrapN n) a b 6)), (γ1_0, cells6 a), (γ1_1, cells6 b), (γ1_2, cells6 (mont n a b)), (g, modx n o s)] ∧ Below w.heap.size w (w26.setCells γ1_2 0 (cells6 (mont n a b)))) := ⟨H26.out.1.put 3 (off := 0) (vs := cells6 (mont n a b)) rfl (Nat.le_of_ble_eq_true rfl), below_setCells _ o1_2.out _ _ _ H26.out.2⟩
  clear H26
  generalize hgw : World.setCells _ _ _ _ = w27 at H27 ⊢
  clear hgw
  refine rest_nil (then_normal (wp_ret ?_))
  repeat (first | refine then_ret ?_ | refine block_ret ?_)
  have c0 := H27.out.1.get 3 rfl 0 rfl
  have c1 := H27.out.1.get 3 rfl 1 rfl
  have c2 := H27.out.1.get 3 rfl 2 rfl
  have c3 := H27.out.1.get 3 rfl 3 rfl
  have c4 := H27.out.1.get 3 rfl 4 rfl
  have c5 := H27.out.1.get 3 rfl 5 rfl
  refine bodyPost_ret (v := N (mont n a b)) (by simp [results, Tryd.results43, go_sem, *]) rfl ?_
  exact ⟨rfl, H27.out.2⟩
end Rg
end Go.Proofs.YtfnmahjdkmgdkaaDoor
end
section
namespace Go.Proofs.YtfnmahjdkmgdkaaDoor
open Go.RowKit
namespace Rg
/-- All that was there is as it was, but block g. -/
structure Kp (g : Nat) (w w' : World) : Prop where
  os : w'.os = w.os
  tape : w'.tape = w.tape
  output : w'.output = w.output
  size : w.heap.size ≤ w'.heap.size
  block : ∀ k, k < w.heap.size → k ≠ g → w'.heap[k]? = w.heap[k]?
theorem Kp.refl (g : Nat) (w : World) : Kp g w w := ⟨rfl, rfl, rfl, Nat.le_refl _, fun _ _ _ => rfl⟩
theorem Kp.trans {g : Nat} {a b c : World} (h : Kp g a b) (k : Below b.heap.size b c) : Kp g a c :=
  ⟨k.os.trans h.os, k.tape.trans h.tape, k.output.trans h.output, Nat.le_trans h.size k.size, fun i hi hg => (k.block i (Nat.lt_of_lt_of_le hi h.size)).trans (h.block i hi hg)⟩
theorem heap_setCells (g : Nat) (k : Nat) (hk : k ≠ g) : ∀ (vs : List Value) (o : Nat) (w : World), (w.setCells g o vs).heap[k]? = w.heap[k]?
  | [], _, _ => rfl
  | v :: r, o, w => by
    rw [World.setCells, heap_setCells g k hk r, Below.heap_setCell _ _ _ _ hk]
theorem Kp.put {g b off : Nat} {vs : List Value} {a w : World} (h : Kp g a w) (hb : b = g ∨ a.heap.size ≤ b) : Kp g a (w.setCells b off vs) := by
  have hB := below_setCells (B := 0) (w0 := w) b (Nat.zero_le _) vs off w (Below.refl _ _)
  refine ⟨hB.os.trans h.os, hB.tape.trans h.tape, hB.output.trans h.output, by rw [size_setCells]; exact h.size, fun k hk hg => ?_⟩
  rw [heap_setCells b k (by rcases hb with e | e <;> omega) vs off w]
  exact h.block k hk hg
theorem Below.kp {B g : Nat} {a w w' : World} (h : Below B a w) (k : Kp g w w') (hg : B ≤ g) (hB : B ≤ w.heap.size) : Below B a w' :=
  ⟨k.os.trans h.os, k.tape.trans h.tape, k.output.trans h.output, Nat.le_trans h.size k.size, fun i hi => (k.block i (Nat.lt_of_lt_of_le hi hB) (by omega)).trans (h.block i hi)⟩
theorem Blk.kp {g b : Nat} {cs : List Value} {w w' : World} (h : Blk w b cs) (k : Kp g w w') (hb : b < w.heap.size) (hg : b ≠ g) : Blk w' b cs := fun j v hv => by
  have e := k.block b hb hg
  exact ⟨by rw [World.cell?_of_block (w := w) (a := ⟨b, j, none⟩) e]; exact (h j v hv).1, by rw [World.frozen?_of_block (w := w) (a := ⟨b, j, none⟩) e]; exact (h j v hv).2⟩
theorem Mm.change {w w' : World} {l : List (Nat × List Value)} (h : Mm w l) (k : Nat) {g : Nat} {cs cs' : List Value} (hk : l[k]? = some (g, cs)) (hp : Kp g w w') (hn : Mm w' [(g, cs')]) : Mm w' (l.set k (g, cs')) := by
  have hkl : k < l.length := (List.getElem?_eq_some_iff.1 hk).1
  have hke : l[k] = (g, cs) := (List.getElem?_eq_some_iff.1 hk).2
  have hpw := List.pairwise_iff_getElem.1 h.nd
  refine ⟨fun p hp2 => ?_, ?_⟩
  · obtain ⟨j, hj, e⟩ := List.getElem_of_mem hp2
    rw [List.getElem_set] at e
    have hj' : j < l.length := by simpa using hj
    split at e
    · subst e
      exact hn.blk _ (List.mem_singleton.2 rfl)
    · rename_i hne
      subst e
      have hb := h.blk _ (List.getElem_mem hj')
      refine ⟨Nat.lt_of_lt_of_le hb.1 hp.size, Blk.kp hb.2 hp hb.1 ?_⟩
      rcases Nat.lt_or_ge j k with h' | h'
      · have := hpw j k hj' hkl h'
        rw [hke] at this
        exact this
      · have := hpw k j hkl hj' (by omega)
        rw [hke] at this
        exact this.symm
  · refine List.pairwise_iff_getElem.2 fun i j hi hj hij => ?_
    have hi' : i < l.length := by simpa using hi
    have hj' : j < l.length := by simpa using hj
    have := hpw i j hi' hj' hij
    rw [List.getElem_set, List.getElem_set]
    split
    · rename_i e1
      subst e1
      rw [if_neg (by omega)]
      rw [hke] at this
      exact this
    · split
      · rename_i e2
        subst e2
        rw [hke] at this
        exact this
      · exact this
theorem Mm.two {w : World} {l : List (Nat × List Value)} (h : Mm w l) (i j : Nat) {p q : Nat × List Value} (hi : l[i]? = some p) (hj : l[j]? = some q) (hij : i ≠ j) : Mm w [p, q] := by
  have hpw := List.pairwise_iff_getElem.1 h.nd
  obtain ⟨hi1, hi2⟩ := List.getElem?_eq_some_iff.1 hi
  obtain ⟨hj1, hj2⟩ := List.getElem?_eq_some_iff.1 hj
  have hne : p.1 ≠ q.1 := by
    rcases Nat.lt_or_ge i j with h' | h'
    · have := hpw i j hi1 hj1 h'
      rw [hi2, hj2] at this
      exact this
    · have := hpw j i hj1 hi1 (by omega)
      rw [hi2, hj2] at this
      exact this.symm
  refine ⟨fun r hr => ?_, ?_⟩
  · simp only [List.mem_cons, List.not_mem_nil, or_false] at hr
    rcases hr with e | e
    · rw [e]; exact h.blk p (List.mem_of_getElem? hi)
    · rw [e]; exact h.blk q (List.mem_of_getElem? hj)
  · exact List.Pairwise.cons (fun r hr => by rw [List.mem_singleton.1 hr]; exact hne) (List.pairwise_singleton _ _)
theorem keepK {q : Nat} {w₀ w w' : World} {L : List (Nat × List Value)} (H : Hid (Mm w L ∧ Kp q w₀ w)) (hb : Below w.heap.size w w') : Hid (Mm w' L ∧ Kp q w₀ w') :=
  ⟨H.out.1.below hb, H.out.2.trans hb⟩
theorem growK {ks : List Kind} {q : Nat} {w₀ w w' : World} {l : Array Bool} {γ : Nat → Nat} {L : List (Nat × List Value)} (H : Hid (Mm w L ∧ Kp q w₀ w)) (h : Mem ks w l γ w') {p : Nat} (hp : ks.length ≤ p) (hl : ∀ i, i < p → l.getD i false = true)
    (is : List Nat) (ha : (is.all fun i => (fresh ks i).isSome) = true) (hn : is.Pairwise (· ≠ ·)) : Hid (Mm w' (is.map (fun i => (γ i, fin ks i)) ++ L) ∧ Kp q w₀ w') :=
  ⟨H.out.1.grow h hp hl is ha hn, H.out.2.trans h.below⟩
theorem ownK {ks : List Kind} {q : Nat} {w₀ w w' : World} {l : Array Bool} {γ : Nat → Nat} {L : List (Nat × List Value)} (H : Hid (Mm w L ∧ Kp q w₀ w)) (h : Mem ks w l γ w') {p : Nat} (hp : ks.length ≤ p) (hl : ∀ i, i < p → l.getD i false = true) {i : Nat} (hi : (fresh ks i).isSome = true) : Hid (w₀.heap.size ≤ γ i) :=
  Nat.le_trans H.out.2.size (h.fin hp hl hi).2.1
end Rg
end Go.Proofs.YtfnmahjdkmgdkaaDoor
end
section
namespace Go.Proofs.YtfnmahjdkmgdkaaDoor
open Go.RowKit
namespace Rg
section
variable {P : Program} {ops : Array Oper} {ks : List Kind} {a₀ : Act} {w₀ : World} {Q : Exit → Act → World → Prop}
theorem fill_off (γ : Nat → Nat) (d : Nat) : ∀ (os : List Oper) (ks : List Kind) (a : Act) (i : Nat), (∀ (j : Nat) (o : Oper), os[j]? = some o → o.dst ≠ some d) → (fill γ i os ks a).tmps[d]? = a.tmps[d]?
  | [], _, _, _, _ => rfl
  | _ :: _, [], _, _, _ => rfl
  | o :: os, k :: ks, a, i, h => by
    show (fill γ (i + 1) os ks (a.put o.dst (k.val γ i))).tmps[d]? = _
    rw [fill_off γ d os ks _ (i + 1) (fun j o' hj => h (j + 1) o' (by simpa using hj))]
    have h0 := h 0 o rfl
    cases hd : o.dst with
    | none => rfl
    | some t =>
      rw [hd] at h0
      simp only [Act.put, Array.getElem?_setIfInBounds]
      rw [if_neg (fun e => h0 (by rw [e]))]
theorem put_comm (a : Act) (d t : Nat) (v u : Value) (h : t ≠ d) : (a.put (some d) v).put (some t) u = (a.put (some t) u).put (some d) v := by
  simp only [Act.put, Act.mk.injEq, and_true]
  exact Array.setIfInBounds_comm _ _ (Ne.symm h)
theorem fill_put (γ : Nat → Nat) (d : Nat) (v : Value) : ∀ (os : List Oper) (ks : List Kind) (a : Act) (i : Nat), (∀ (j : Nat) (o : Oper), os[j]? = some o → o.dst ≠ some d) → fill γ i os ks (a.put (some d) v) = (fill γ i os ks a).put (some d) v
  | [], _, _, _, _ => rfl
  | _ :: _, [], _, _, _ => rfl
  | o :: os, k :: ks, a, i, h => by
    show fill γ (i + 1) os ks ((a.put (some d) v).put o.dst (k.val γ i)) = (fill γ (i + 1) os ks (a.put o.dst (k.val γ i))).put (some d) v
    have h0 := h 0 o rfl
    rw [← fill_put γ d v os ks _ (i + 1) (fun j o' hj => h (j + 1) o' (by simpa using hj))]
    cases hd : o.dst with
    | none => rfl
    | some t => rw [put_comm a d t v _ (fun e => by rw [hd, e] at h0; exact h0 rfl)]
theorem rest_anyU {full : Array Oper} (p : Nat) (hup : ∀ {i : Nat} {o : Oper}, full[i]? = some o → ∀ e ∈ o.after, Region.binds .any e = true → e.on < i)
    (hwt : ∀ {i : Nat} {o : Oper}, full[i]? = some o → p ≤ i → ∀ j, j < i → waitsT full 12 o j = true) : ∀ (m fuel q : Nat) (l : Array Bool) (a : Act) (w : World), q + m = full.size → p ≤ q → l.size = full.size → m ≤ fuel → Closed full l →
      (∀ i, i < q → l.getD i false = true) → (∀ i, q ≤ i → i < full.size → l.getD i true = false) → wpOps P full Q (List.range' q m) a w → wpAny P .any full Q fuel l a w := by
  intro m
  induction m with
  | zero =>
    intro fuel q l a w hq hpq hsz hfu hcl hl hu h
    have hr : Region.ready .any full l = [] := by
      refine List.eq_nil_iff_forall_not_mem.2 fun i hi => ?_
      obtain ⟨h1, o, ho, _⟩ := mem_ready.1 hi
      have h2 := hl i (by have := (Array.getElem?_eq_some_iff.1 ho).1; omega)
      rw [(getD_same h1).1] at h2
      cases h2
    have hQ : Q .normal a w := h
    cases fuel with
    | zero => exact ⟨hr, hQ⟩
    | succ f => exact ⟨fun _ => hQ, by rw [hr]; simp⟩
  | succ m ih =>
    intro fuel q l a w hq hpq hsz hfu hcl hl hu h
    cases fuel with
    | zero => omega
    | succ f =>
      have hqs : q < full.size := by omega
      have hqr : q ∈ Region.ready .any full l := mem_ready.2 ⟨hu q (Nat.le_refl _) hqs, full[q], Array.getElem?_eq_getElem hqs, fun e he hb => hl _ (hup (Array.getElem?_eq_getElem hqs) e he hb)⟩
      refine ⟨fun hr => absurd hqr (by rw [hr]; simp), fun i hi => ?_⟩
      obtain ⟨hun, o, ho, hedge⟩ := mem_ready.1 hi
      have hilt : i < full.size := (Array.getElem?_eq_some_iff.1 ho).1
      have hiq : i = q := by
        rcases Nat.lt_trichotomy i q with h' | h' | h'
        · have h2 := hl i h'
          rw [(getD_same hun).1] at h2
          cases h2
        · exact h'
        · have h2 := waitsT_spec hcl 12 o (hwt ho (by omega) q h') hedge
          rw [(getD_same (hu q (Nat.le_refl _) hqs)).1] at h2
          cases h2
      subst hiq
      rw [List.range'_succ, wpOps_cons] at h
      refine wpOp_mono (fun a' w' h' => ?_) h
      refine ih f (i + 1) _ a' w' (by omega) (by omega) (by simp [hsz]) (by omega) (hcl.step ho hedge) (fun j hj => ?_) (fun j hj hj2 => ?_) h'
      · rcases Nat.lt_or_ge j i with h2 | h2
        · exact getD_true (hl j h2)
        · have : j = i := by omega
          subst this
          exact (getD_same hun).2
      · rw [getD_set_ne true (by omega)]
        exact hu j (by omega) hj2
theorem after_putU {full : Array Oper} {n p : Nat} (hO : Orderly ops ks n) (hn : n = a₀.tmps.size) (hp : ops.size = p) (hpf : p + 1 ≤ full.size) (hfull : ∀ i, i < p → full[i]? = ops[i]?) (hgd : ∀ {i : Nat} {o : Oper} {g : Nat} {b : Bool}, ops[i]? = some o → o.guard = some (g, b) → g < p)
    (hup : ∀ {i : Nat} {o : Oper}, full[i]? = some o → ∀ e ∈ o.after, Region.binds .any e = true → e.on < i)
    (hwt : ∀ {i : Nat} {o : Oper}, full[i]? = some o → p + 1 ≤ i → ∀ j, j < i → waitsT full 12 o j = true)
    {late : List Nat} (hlate : LateOk P ops ks (fun γ => fill γ 0 ops.toList ks a₀) late) {γ : Nat → Nat} {w : World} (hQ : wpOps P full Q (List.range' (p + 1) (full.size - (p + 1))) (fill γ 0 ops.toList ks a₀) w) :
    ∀ (fuel : Nat) (l : Array Bool) (a : Act), l.size = full.size → l.toList.count false ≤ fuel → Closed full l → (∀ i, i ≤ p → l.getD i true = false → i ∈ late) → (∀ i, p + 1 ≤ i → i < full.size → l.getD i true = false) → Agree ops ks a₀ l γ a → wpAny P .any full Q fuel l a w := by
  intro fuel
  induction fuel with
  | zero =>
    intro l a hsz hc hcl hu ht hA
    have hall : ∀ i, i < full.size → l.getD i false = true := fun i hi => by
      cases hb : l.getD i true with
      | false => have := count_set hb; omega
      | true =>
        have hi' : i < l.size := by omega
        simpa [hi'] using hb
    rw [hA.whole (fun i hi => hall i (by omega))]
    have h0 := tail_count full.size (full.size - (p + 1)) l hsz (by omega) (fun i hi1 hi2 => ht i (by omega) hi2)
    exact rest_anyU (p + 1) hup hwt (full.size - (p + 1)) 0 (p + 1) l _ w (by omega) (Nat.le_refl _) hsz (by omega) hcl (fun i hi => hall i (by omega)) ht hQ
  | succ fuel ih =>
    intro l a hsz hc hcl hu ht hA
    by_cases hall : ∀ i, i < p + 1 → l.getD i false = true
    · rw [hA.whole (fun i hi => hall i (by omega))]
      have h0 := tail_count full.size (full.size - (p + 1)) l hsz (by omega) (fun i hi1 hi2 => ht i (by omega) hi2)
      exact rest_anyU (p + 1) hup hwt (full.size - (p + 1)) (fuel + 1) (p + 1) l _ w (by omega) (Nat.le_refl _) hsz (by omega) hcl hall ht hQ
    · have hex : ∃ x, x < p + 1 ∧ l.getD x false = false := by
        apply Classical.byContradiction
        intro hno
        apply hall
        intro i hi
        cases hb : l.getD i false with
        | true => rfl
        | false => exact absurd ⟨i, hi, hb⟩ hno
      obtain ⟨x, hx, hxf⟩ := hex
      refine ⟨fun hr => ?_, fun i hi => ?_⟩
      · have := ready_all hup hsz hr x (by omega)
        rw [hxf] at this
        cases this
      · obtain ⟨hun, o, ho, hedge⟩ := mem_ready.1 hi
        have hilt : i < full.size := (Array.getElem?_eq_some_iff.1 ho).1
        have hip1 : i < p + 1 := by
          rcases Nat.lt_or_ge i (p + 1) with h' | h'
          · exact h'
          · have := waitsT_spec hcl 12 o (hwt ho h' x (by omega)) hedge
            rw [hxf] at this
            cases this
        obtain ⟨o', v, ho', hk, hxq⟩ := hlate.at (hu i (by omega) hun)
        have hip : i < p := by rw [← hp]; exact (Array.getElem?_eq_some_iff.1 ho').1
        have hof := ho
        rw [hfull i hip, ho'] at ho
        injection ho with ho
        subst ho
        obtain ⟨he, hw0⟩ := hA.sees hO ho' hedge
        have hy : ∀ ts, Region.wanted o' (yielded full ts) = Region.wanted o' (yielded ops ts) := fun ts => by
          unfold Region.wanted
          cases hg : o'.guard with
          | none => rfl
          | some gw =>
            obtain ⟨g, want⟩ := gw
            have : yielded full ts g = yielded ops ts g := by unfold yielded; rw [hfull g (hgd ho' hg)]
            simp only [this]
        have hc' := count_set hun
        refine wpOp_step hof (fun K' hK => ?_)
        rw [hy, hw0, if_pos (hxq γ).1]
        unfold Oper.wp
        rw [he, (hxq γ).2 w]
        refine hK _ _ (ih _ _ (by simp [hsz]) (by omega) (hcl.step hof hedge) (fun j hj hj2 => ?_) (fun j hj hj2 => ?_) (hA.step hO hn ho' hk (fun _ _ _ _ => rfl)))
        · by_cases e : i = j
          · subst e
            have hi' : i < l.size := by omega
            simp [hi'] at hj2
          · rw [getD_set_ne true e] at hj2
            exact hu j hj hj2
        · rw [getD_set_ne true (by omega)]
          exact ht j hj hj2
theorem first_enter {full : Array Oper} {n p : Nat} {op : Oper} {d : Nat} {v : Value} (hO : Orderly ops ks n) (hn : n = a₀.tmps.size) (hL : LaidOk ks ks) {S : World → Prop} (hS : ∀ w, Below w₀.heap.size w₀ w → S w)
    (hp : ops.size = p) (hpf : p + 1 ≤ full.size) (hfull : ∀ i, i < p → full[i]? = ops[i]?) (hgd : ∀ {i : Nat} {o : Oper} {g : Nat} {b : Bool}, ops[i]? = some o → o.guard = some (g, b) → g < p)
    (hup : ∀ {i : Nat} {o : Oper}, full[i]? = some o → ∀ e ∈ o.after, Region.binds .any e = true → e.on < i)
    (hop : full[p]? = some op) (hdst : op.dst = some d) (hdn : d < n) (hdo : ∀ (j : Nat) (oj : Oper), ops[j]? = some oj → oj.dst ≠ some d) (hgu : op.guard = none) (hsel : ∀ cs b, op.op ≠ .select cs b)
    {late : List Nat} (hwp : ∀ j, j < p → waitsT full 12 op j = true ∨ j ∈ late) (hlook : ∀ d ∈ op.looksAt full, ∀ j oj, ops[j]? = some oj → oj.dst = some d → waitsT full 12 op j = true)
    (hwt : ∀ {i : Nat} {o : Oper}, full[i]? = some o → p + 1 ≤ i → ∀ j, j < i → waitsT full 12 o j = true)
    (hlate : LateOk P ops ks (fun γ => fill γ 0 ops.toList ks (a₀.put (some d) v)) late)
    (hops : AllOk P ops S (fun γ => fill γ 0 ops.toList ks a₀) ops.toList ks)
    (hend : ∀ γ w l, Mem ks w₀ l γ w → (∀ i, i < p → l.getD i false = true) → ∃ (f : FuncId) (args : Array Value) (R : World → Prop), (execOp (fill γ 0 ops.toList ks a₀).eval op).run P w = .ok (.enter f args) w ∧ Calls P f args w (fun e w' => e = .returned v ∧ R w') ∧ ∀ w', R w' → wpOps P full Q (List.range' (p + 1) (full.size - (p + 1))) (fill γ 0 ops.toList ks (a₀.put (some d) v)) w') :
    ∀ (fuel : Nat) (l : Array Bool) (γ : Nat → Nat) (a : Act) (w : World), l.size = full.size → l.toList.count false ≤ fuel → Closed full l → (∀ i, p ≤ i → i < full.size → l.getD i true = false) → Agree ops ks a₀ l γ a → Mem ks w₀ l γ w → wpAny P .any full Q fuel l a w := by
  intro fuel
  induction fuel with
  | zero =>
    intro l γ a w hsz hc hcl ht hA hM
    have := count_set (ht p (Nat.le_refl _) (by omega))
    omega
  | succ fuel ih =>
    intro l γ a w hsz hc hcl ht hA hM
    have hpu := ht p (Nat.le_refl _) (by omega)
    refine ⟨fun hr => ?_, fun i hi => ?_⟩
    · have := ready_all hup hsz hr p (by omega)
      rw [(getD_same hpu).1] at this
      cases this
    · obtain ⟨hun, o, ho, hedge⟩ := mem_ready.1 hi
      have hilt : i < full.size := (Array.getElem?_eq_some_iff.1 ho).1
      have hc' := count_set hun
      have hip1 : i < p + 1 := by
        rcases Nat.lt_or_ge i (p + 1) with h' | h'
        · exact h'
        · have := waitsT_spec hcl 12 o (hwt ho h' p (by omega)) hedge
          rw [(getD_same hpu).1] at this
          cases this
      by_cases hip : i = p
      · subst hip
        have ho2 := ho
        rw [hop] at ho
        injection ho with ho
        subst ho
        have hbefore : ∀ j, j < i → j ∉ late → l.getD j false = true := fun j hj hnl => by
          rcases hwp j hj with h | h
          · exact waitsT_spec hcl 12 _ h hedge
          · exact absurd h hnl
        obtain ⟨l', hM', hs', hl1, hl2⟩ := mem_late hlate hM
        have hfin : ∀ j, j < i → l'.getD j false = true := fun j hj => by
          by_cases h : j ∈ late
          · exact hl2 j h (by omega)
          · exact hl1 j (hbefore j hj h)
        obtain ⟨f, args, R, hx, hcall, hQ⟩ := hend γ w l' hM' hfin
        have he := see_all (full := full) hA hsel (fun d hd j oj hj hdj => waitsT_spec hcl 12 _ (hlook d hd j oj hj hdj) hedge)
        refine wpOp_step hop (fun K' hK => ?_)
        have hwn : Region.wanted op (yielded full a.tmps) = true := by unfold Region.wanted; rw [hgu]
        rw [if_pos hwn]
        unfold Oper.wp
        rw [he, hx]
        have hA' : Agree ops ks (a₀.put (some d) v) (l.setIfInBounds i true) γ (a.put op.dst v) := by
          rw [hdst]
          refine ⟨by rw [put_defers', put_defers']; exact hA.defers, by rw [put_size, put_size]; exact hA.size, fun t ht => ?_⟩
          by_cases e : t = d
          · subst e
            rw [fill_off γ t ops.toList ks _ 0 (fun j' oj hj => hdo j' oj (by simpa using hj))]
            simp only [Act.put, Array.getElem?_setIfInBounds]
            rw [if_pos trivial, if_pos trivial, hA.size]
          · have h0 := hA.slots t (fun j oj hj hdj => by
              have h1 := ht j oj hj hdj
              have hj' : j < i := by rw [← hp]; exact (Array.getElem?_eq_some_iff.1 hj).1
              rwa [getD_set_ne false (by omega)] at h1)
            rw [fill_put γ d v ops.toList ks a₀ 0 (fun j' oj hj => hdo j' oj (by simpa using hj))]
            simp only [Act.put, Array.getElem?_setIfInBounds]
            rw [if_neg (fun h => e h.symm), if_neg (fun h => e h.symm)]
            exact h0
        refine Calls.mono hcall ?_
        rintro _ w1 ⟨rfl, hR⟩
        refine hK _ _ (after_putU (a₀ := a₀.put (some d) v) hO (by rw [put_size]; exact hn) hp hpf hfull hgd hup hwt hlate (hQ w1 hR) fuel _ _ (by simp [hsz]) (by omega) (hcl.step ho2 hedge) (fun j hj hj2 => ?_) (fun j hj hj2 => ?_) hA')
        · by_cases e : i = j
          · subst e
            have hi' : i < l.size := by omega
            simp [hi'] at hj2
          · rw [getD_set_ne true e] at hj2
            apply Classical.byContradiction
            intro hnl
            have := hbefore j (by omega) hnl
            rw [(getD_same hj2).1] at this
            cases this
        · rw [getD_set_ne true (by omega)]
          exact ht j (by omega) hj2
      · have hlt : i < p := by omega
        have ho' : ops[i]? = some o := by rw [← hfull i hlt]; exact ho
        refine kind_step hO hn hL hS hfull hgd hops hA hM hlt ho' hun hedge (fun γ' a' w' hA' hM' => ?_)
        exact ih _ γ' a' w' (by simp [hsz]) (by omega) (hcl.step ho hedge) (fun j hj hj2 => by rw [getD_set_ne true (by omega)]; exact ht j hj hj2) hA' hM'
/-- What is to be looked up of the whole region. -/
def enterly (full : Array Oper) (p d n : Nat) (late : List Nat) : Bool :=
  eachOp full (fun i o => o.after.all fun e => !Region.binds .any e || decide (e.on < i)) && decide (p + 1 ≤ full.size) && Region.noSelect full &&
  (match full[p]? with
   | none => false
   | some op => op.dst == some d && op.guard.isNone && ((List.range p).all fun j => waitsT full 12 op j || late.contains j) && (op.looksAt full).all fun d => eachOp full fun j oj => oj.dst != some d || waitsT full 12 op j || decide (p ≤ j)) &&
  eachOp full (fun i o => decide (i < p + 1) || (List.range i).all fun j => waitsT full 12 o j) && decide (d < n) && eachOp full (fun j oj => decide (p ≤ j) || oj.dst != some d)
/-- **The law of such a region.** -/
theorem walk_enter {full : Array Oper} {a : Act} {w : World} {id : Nat} (hm : P.follows .mixedOrders = true) (p : Nat) (late : List Nat) (ks : List Kind) (S : World → Prop) (pre : List Oper) (F F' : (Nat → Nat) → Act) (op : Oper) (d : Nat) (v : Value) (hpre : full.toList.take p = pre)
    (hF : ∀ γ, fill γ 0 pre ks a = F γ) (hF' : ∀ γ, fill γ 0 pre ks (a.put (some d) v) = F' γ) (hor : (orderly pre.toArray ks a.tmps.size && guarded pre.toArray p && enterly full p d a.tmps.size late) = true) (hop : full[p]? = some op) (hL : LaidOk ks ks) (hS : ∀ w', Below w.heap.size w w' → S w')
    (hops : AllOk P pre.toArray S F pre ks) (hlate : LateOk P pre.toArray ks F' late)
    (hend : ∀ γ w' l, Mem ks w l γ w' → (∀ i, i < p → l.getD i false = true) → ∃ (f : FuncId) (args : Array Value) (R : World → Prop), (execOp (F γ).eval op).run P w' = .ok (.enter f args) w' ∧ Calls P f args w' (fun e w'' => e = .returned v ∧ R w'') ∧ ∀ w'', R w'' → wpOps P full Q (List.range' (p + 1) (full.size - (p + 1))) (F' γ) w'') :
    (Code.region id full true).wp P Q a w := by
  subst hpre
  obtain rfl : (fun γ => fill γ 0 (full.toList.take p) ks a) = F := funext hF
  obtain rfl : (fun γ => fill γ 0 (full.toList.take p) ks (a.put (some d) v)) = F' := funext hF'
  simp only [Bool.and_eq_true] at hor
  obtain ⟨⟨h1, h2⟩, h3⟩ := hor
  unfold enterly at h3
  rw [hop] at h3
  simp only [Bool.and_eq_true, decide_eq_true_eq, Option.isNone_iff_eq_none, beq_iff_eq] at h3
  obtain ⟨⟨⟨⟨⟨⟨h5, h6⟩, h7⟩, ⟨⟨h8, h9⟩, h10⟩, h11⟩, h12⟩, h13⟩, h14⟩ := h3
  have hsz : (full.toList.take p).toArray.size = p := by simp; omega
  have hfu : ∀ i, i < p → full[i]? = (full.toList.take p).toArray[i]? := fun i hi => by rw [← take_arr]; exact first_full hi
  refine wp_region_any hm (first_enter (ops := (full.toList.take p).toArray) (Orderly.of h1) rfl hL hS hsz h6 hfu (fun ho hg => guarded_spec h2 ho hg) (fun ho e he hb => ?_) hop h8 h13 (fun j oj hj => ?_) h9 (fun cs b => Region.noSelect_spec h7 p op cs b hop) (late := late) (fun j hj => ?_) (fun d hd j oj hj hdj => ?_) (fun ho hi j hj => ?_) hlate hops hend full.size _ (fun _ => 0) a w.drew (by simp) (by simp) (Closed.none _ _) (fun i _ hi => none_listed' hi) (start_agree _ _) (start_mem _ _ (Below.refl _ _).drew))
  · have := Array.all_eq_true_iff_forall_mem.1 (eachOp_spec h5 ho) e he
    simpa [hb] using this
  · have hj' : j < p := by rw [← hsz]; exact (Array.getElem?_eq_some_iff.1 hj).1
    have := eachOp_spec h14 (by rw [hfu j hj']; exact hj)
    simp only [Bool.or_eq_true, decide_eq_true_eq, bne_iff_ne, ne_eq] at this
    rcases this with h | h
    · omega
    · exact h
  · have := List.all_eq_true.1 h10 j (List.mem_range.2 hj)
    simpa using this
  · have hj' : j < p := by rw [← hsz]; exact (Array.getElem?_eq_some_iff.1 hj).1
    have := eachOp_spec (List.all_eq_true.1 h11 d hd) (by rw [hfu j hj']; exact hj)
    simp only [hdj, bne_self_eq_false, Bool.false_or, Bool.or_eq_true, decide_eq_true_eq] at this
    rcases this with h | h
    · exact h
    · omega
  · have := eachOp_spec h12 ho
    simp only [Bool.or_eq_true, decide_eq_true_eq] at this
    rcases this with h | h
    · omega
    · exact List.all_eq_true.1 h j (List.mem_range.2 hj)
end
end Rg
end Go.Proofs.YtfnmahjdkmgdkaaDoor
end
section
namespace Go.Proofs.YtfnmahjdkmgdkaaDoor
open Go.RowKit
namespace Rg
theorem ex_shl {ρ : Operand → Value} {o : Oper} {x y : Operand} {a : Int} {k : Nat} {w : World} (ho : o.op = .binOp .shl 22 x y 3) (hx : ρ x = .int .u64 a) (hy : ρ y = .int .i64 ((k : Nat) : Int)) (hk : k ≤ 64) :
    (execOp ρ o).run Tryd.prog w = .ok (.value (.int .u64 (IntKind.u64.wrap (a * 2 ^ k)))) w := by
  simp only [execOp, ho, hx, hy]
  clear ho hx hy
  go_simp
theorem ex_shr {ρ : Operand → Value} {o : Oper} {x y : Operand} {a : Int} {k : Nat} {w : World} (ho : o.op = .binOp .shr 22 x y 3) (hx : ρ x = .int .u64 a) (hy : ρ y = .int .i64 ((k : Nat) : Int)) (hk : k ≤ 64) :
    (execOp ρ o).run Tryd.prog w = .ok (.value (.int .u64 (a / 2 ^ k))) w := by
  simp only [execOp, ho, hx, hy]
  clear ho hx hy
  go_simp
theorem ex_or {ρ : Operand → Value} {o : Oper} {x y : Operand} {a b : Int} {w : World} (ho : o.op = .binOp .or 22 x y 22) (hx : ρ x = .int .u64 a) (hy : ρ y = .int .u64 b) :
    (execOp ρ o).run Tryd.prog w = .ok (.value (.int .u64 (bits .or .u64 a b))) w := by
  simp only [execOp, ho, hx, hy]
  clear ho hx hy
  go_simp
set_option maxHeartbeats 400000 in
theorem guessM_any (h l t : Nat) (hl : l < 18446744073709551616) (ht : t < 18446744073709551616) (w : World) :
    Calls Tryd.prog 135 #[.int .u64 h, .int .u64 l, .int .u64 t] w fun e w' => e = .returned (.int .u64 ((gs h l t : Nat) : Int)) ∧ Below w.heap.size w w' := by
  unfold gs
  by_cases c : t ≤ h
  · rw [if_pos c]
    clear hl ht
    go_enter Tryd.func135, Tryd.ntmps135
    go_wp2
    go_ret
    exact ⟨rfl, Below.refl _ _⟩
  · rw [if_neg c]
    have hc := fun w => div64_any h l t (by omega) ht hl w
    generalize (h * 18446744073709551616 + l) / t = q at hc ⊢
    have HC : Hid _ := hc
    clear hc hl ht
    go_enter Tryd.func135, Tryd.ntmps135
    go_wp2_with (go_at_call 118; refine (HC.out _).mono ?_; rintro e w' ⟨rr, rfl, hb⟩)
    go_ret
    obtain ⟨k, rfl⟩ := hb
    exact ⟨rfl, below_drewN (Below.refl _ _) k⟩
/-- A divisor and what is left, in memory. -/
abbrev lec (b : Nat) (f : Nat → Int) : List Value := [.int .u64 (wd b 0), .int .u64 (wd b 1), .int .u64 (wd b 2), .int .u64 (wd b 3), .int .u64 (wd b 4), .int .u64 (wd b 5), .int .u64 (f 0), .int .u64 (f 1), .int .u64 (f 2), .int .u64 (f 3), .int .u64 (f 4), .int .u64 (f 5)]
theorem lec_hi {b : Nat} {f : Nat → Int} {j : Nat} (hj : j < 6) : (lec b f)[6 + j]? = some (.int .u64 (f j)) := by
  match j, hj with
  | 0, _ => rfl
  | 1, _ => rfl
  | 2, _ => rfl
  | 3, _ => rfl
  | 4, _ => rfl
  | 5, _ => rfl
theorem lec_lo {b : Nat} {f : Nat → Int} {j : Nat} (hj : j < 6) : (lec b f)[0 + j]? = some (.int .u64 (wd b j)) := by
  match j, hj with
  | 0, _ => rfl
  | 1, _ => rfl
  | 2, _ => rfl
  | 3, _ => rfl
  | 4, _ => rfl
  | 5, _ => rfl
theorem lec_put {b : Nat} {f : Nat → Int} {j : Nat} {v : Int} (hj : j < 6) : patch (lec b f) (6 + j) [.int .u64 v] = lec b (upd f j v) := by
  match j, hj with
  | 0, _ => rfl
  | 1, _ => rfl
  | 2, _ => rfl
  | 3, _ => rfl
  | 4, _ => rfl
  | 5, _ => rfl
theorem lec_bd {b : Nat} {f : Nat → Int} {j : Nat} (hj : j < 6) : 6 + j < (lec b f).length := by
  show 6 + j < 12
  omega
theorem lec_congr {b : Nat} {f g : Nat → Int} (h : ∀ j, j < 6 → f j = g j) : lec b f = lec b g := by
  unfold lec
  rw [h 0 (by decide), h 1 (by decide), h 2 (by decide), h 3 (by decide), h 4 (by decide), h 5 (by decide)]
/-! Words of a number that is shifted by at most a word. -/
theorem sh_bits (a n k : Nat) (hn : n ≤ 64) : ((a >>> (64 * (k + 1)) % 2 ^ 64) <<< n) % 2 ^ 64 ||| (a >>> (64 * k) % 2 ^ 64) >>> (64 - n) = (a <<< n) >>> (64 * (k + 1)) % 2 ^ 64 := by
  apply Nat.eq_of_testBit_eq
  intro i
  simp only [Nat.testBit_or, Nat.testBit_mod_two_pow, Nat.testBit_shiftLeft, Nat.testBit_shiftRight]
  by_cases hi : i < 64
  · have e1 : n ≤ 64 * (k + 1) + i := by omega
    by_cases ht : n ≤ i
    · have e2 : 64 * (k + 1) + (i - n) = 64 * (k + 1) + i - n := by omega
      have e3 : i - n < 64 := by omega
      have e4 : ¬ 64 - n + i < 64 := by omega
      simp [hi, ht, e1, e2, e3, e4]
    · have e4 : 64 - n + i < 64 := by omega
      have e5 : 64 * k + (64 - n + i) = 64 * (k + 1) + i - n := by omega
      simp [hi, ht, e1, e4, e5]
  · have e4 : ¬ 64 - n + i < 64 := by omega
    simp [hi, e4]
theorem sh_word (a n k : Nat) (hn : n ≤ 64) : bits .or .u64 (IntKind.u64.wrap (wd a (k + 1) * 2 ^ n)) (wd a k / 2 ^ (64 - n)) = wd (a * 2 ^ n) (k + 1) := by
  rw [wd_shr, wrap_shl, wd_shr, div_shr, wd_shr, ← Nat.shiftLeft_eq, ← sh_bits a n k hn]
  refine bits_or_u64_nat _ _ (Nat.mod_lt _ (by decide)) ?_
  rw [Nat.shiftRight_eq_div_pow]
  exact Nat.lt_of_le_of_lt (Nat.div_le_self _ _) (Nat.mod_lt _ (by decide))
theorem sh_low (a n : Nat) : IntKind.u64.wrap (wd a 0 * 2 ^ n) = wd (a * 2 ^ n) 0 := by
  rw [wd_shr, wrap_shl, wd_shr, Nat.mul_zero, Nat.shiftRight_zero, Nat.shiftRight_zero, Nat.shiftLeft_eq, Nat.mod_mul_mod]
theorem wd_last (a j : Nat) (h : a < 2 ^ (64 * (j + 1))) : wd a j = ((a / 2 ^ (64 * j) : Nat) : Int) := by
  unfold wd
  rw [Nat.mod_eq_of_lt]
  rw [Nat.div_lt_iff_lt_mul (pow_pos' j), Nat.mul_comm, ← pow_step]
  exact h
theorem sh_topj (a n j : Nat) (ha : a < 2 ^ (64 * (j + 1))) (hn : n ≤ 64) : wd a j / 2 ^ (64 - n) = ((a * 2 ^ n / 2 ^ (64 * (j + 1)) : Nat) : Int) := by
  rw [wd_last a j ha, div_shr, Nat.shiftRight_eq_div_pow, Nat.div_div_eq_div_mul]
  congr 1
  have hW : 18446744073709551616 = 2 ^ (64 - n) * 2 ^ n := by
    rw [← Nat.pow_add, Nat.sub_add_cancel hn]
  rw [pow_step j, hW, ← Nat.mul_assoc, Nat.mul_div_mul_right _ _ (Nat.two_pow_pos n)]
theorem big_j (j : Nat) (hj : j = 5) : big = 2 ^ (64 * (j + 1)) := by
  obtain ⟨m, hm, e⟩ := big_pow
  rw [e, show m = j + 1 by omega]
theorem sh_top (a n : Nat) (ha : a < big) (hn : n ≤ 64) : wd a 5 / 2 ^ (64 - n) = ((a * 2 ^ n / big : Nat) : Int) := by
  obtain ⟨j, hj⟩ : ∃ j, j = 5 := ⟨5, rfl⟩
  rw [big_j j hj] at ha ⊢
  rw [← hj]
  exact sh_topj a n j ha hn
/-- What is left, words above the k-th from above shifted. -/
def shf (a n k m : Nat) : Int := if 5 - k < m then wd (a * 2 ^ n) m else wd a m
theorem shf_at {a n k m b : Nat} (hm : m ≤ 5 - k) (h6 : m < 6) : (lec b (shf a n k))[6 + m]? = some (.int .u64 (wd a m)) := by
  rw [lec_hi h6]
  unfold shf
  rw [if_neg (by omega)]
theorem shf_step {a n k b : Nat} {v : Int} (hk : k < 5) (h : v = wd (a * 2 ^ n) (5 - k)) : lec b (upd (shf a n k) (5 - k) v) = lec b (shf a n (k + 1)) := lec_congr fun j _ => by
  unfold upd shf
  by_cases h1 : j = 5 - k
  · subst h1; rw [if_pos rfl, if_pos (by omega), h]
  · rw [if_neg h1]
    by_cases h2 : 5 - k < j
    · rw [if_pos h2, if_pos (by omega)]
    · rw [if_neg h2, if_neg (by omega)]
theorem shf_start (a n b : Nat) : lec b (wd a) = lec b (shf a n 0) := lec_congr fun j hj => by
  unfold shf
  rw [if_neg (by omega)]
theorem lec_put0 {b : Nat} {f : Nat → Int} {v : Int} : patch (lec b f) 6 [.int .u64 v] = lec b (upd f 0 v) := rfl
theorem shf_end (a n b : Nat) : lec b (upd (shf a n 5) 0 (IntKind.u64.wrap (wd a 0 * 2 ^ n))) = lec b (wd (a * 2 ^ n % big)) := lec_congr fun j hj => by
  rw [wd_mod _ _ hj]
  unfold upd shf
  by_cases h1 : j = 0
  · subst h1; rw [if_pos rfl, sh_low]
  · rw [if_neg h1, if_pos (by omega)]
set_option maxHeartbeats 1000000 in
set_option maxRecDepth 100000 in
theorem shift_gen (g b L i : Nat) (hi : i ≤ 64) (w : World) (hm : Mm w [(g, lec b (wd L))]) :
    Calls Tryd.prog 133 #[PT g 0, .int .i64 ((i : Nat) : Int)] w fun e w' => e = .returned (.int .u64 (wd L 5 / 2 ^ (64 - i))) ∧ Mm w' [(g, lec b (wd (L * 2 ^ i % big)))] ∧ Kp g w w' := by
  have H0 : Hid (_ ∧ _) := ⟨hm, Kp.refl g w⟩
  clear hm
  go_enter Tryd.func133, Tryd.ntmps133
  refine wp_seq ?_
  refine walk_seqA 1 [.quiet (.int .u64 0)] (sB H0) ?ho1 ?he1
  case ho1 => exact ak (fun _ => ⟨rfl, fun _ _ => rfl⟩) trivial
  intro γ w1 l hM hl
  have H1 := keepK H0 hM.below
  clear hM hl l γ
  refine rest0 rfl (then_normal (wp_seq ?_))
  refine walk_seqA 1 [.quiet (.int .i64 5)] (sB H1) ?ho2 ?he2
  case ho2 => exact ak (fun _ => ⟨rfl, fun _ _ => rfl⟩) trivial
  intro γ w2 l hM hl
  have H2 := keepK H1 hM.below
  clear hM hl l H1 γ
  refine rest0 rfl (then_normal (wp_seq ?_))
  refine walk_seqA 10 [.quiet (PT g 0), .quiet (.int .i64 5), .quiet (PT g 0), .quiet (PT g 6), .quiet (PT g 11), .quiet (.int .u64 (wd L 5)), .quiet (.int .i64 ((i : Nat) : Int)), .quiet (.int .i64 ((64 - i : Nat) : Int)), .quiet (.int .u64 ((wd L 5) / 2 ^ (64 - i))), .quiet (.int .u64 ((wd L 5) / 2 ^ (64 - i)))] (sB H2) ?ho3 ?he3
  case ho3 => exact ak (fun _ => ⟨rfl, fun _ _ => rfl⟩) (ak (fun _ => ⟨rfl, fun _ _ => rfl⟩) (ak (by refine fun γ => ⟨rfl, fun w' h => ?_⟩; clear h; go_simp) (ak (by refine fun γ => ⟨rfl, fun w' h => ?_⟩; clear h; go_simp) (ak (by refine fun γ => ⟨rfl, fun w' h => ?_⟩; clear h; go_simp) (ak (fun γ => ⟨rfl, fun w' h => ex_load1 h 0 rfl rfl rfl rfl⟩) (ak (fun _ => ⟨rfl, fun _ _ => rfl⟩) (ak (by refine fun γ => ⟨rfl, fun w' h => ?_⟩; clear h; go_simp; rw [IntKind.wrap_i64]; omega) (ak (fun γ => ⟨rfl, fun w' _ => ex_shr rfl rfl rfl (Nat.sub_le 64 i)⟩) (ak (fun _ => ⟨rfl, fun _ _ => rfl⟩) trivial)))))))))
  intro γ w3 l hM hl
  have H3 := keepK H2 hM.below
  clear hM hl l H2 γ
  refine rest0 rfl (then_normal (wp_seq (wp_seq ?_)))
  refine walk_seqA 2 [.quiet (.int .i64 5), .quiet (.int .i64 5)] (sB H3) ?ho4 ?he4
  case ho4 => exact ak (fun _ => ⟨rfl, fun _ _ => rfl⟩) (ak (fun _ => ⟨rfl, fun _ _ => rfl⟩) trivial)
  intro γ w4 l hM hl
  have H4 := keepK H3 hM.below
  clear hM hl l H3 γ
  refine rest0 rfl (then_normal (wp_block ?_))
  refine loop_ghost (α := Nat) (fun k a' w' => ∃ s0 : Nat → Value, a' = ⟨#[PT g 0, .int .i64 ((i : Nat) : Int), undef, undef, .int .u64 0, .int .i64 5, .int .u64 ((wd L 5) / 2 ^ (64 - i)), .int .i64 ((5 - k : Nat) : Int), PT g 0, .int .i64 5, PT g 0, PT g 6, PT g 11, .int .u64 (wd L 5), .int .i64 ((i : Nat) : Int), .int .i64 ((64 - i : Nat) : Int), .int .u64 ((wd L 5) / 2 ^ (64 - i)), .int .i64 5, s0 18, s0 19, s0 20, s0 21, s0 22, s0 23, s0 24, s0 25, s0 26, s0 27, s0 28, s0 29, s0 30, s0 31, s0 32, s0 33, s0 34, s0 35, s0 36, s0 37, s0 38, s0 39, s0 40, s0 41, s0 42, s0 43, s0 44, s0 45, undef, undef, undef, undef, undef, undef, undef, undef, undef, undef, undef], []⟩ ∧ (Mm w' [(g, lec b (shf L i k))] ∧ Kp g w w') ∧ k ≤ 5) (fun k => 5 - k) 0 ?st0 ?rd0
  case st0 => exact ⟨(slotfn [undef, undef, undef, undef, undef, undef, undef, undef, undef, undef, undef, undef, undef, undef, undef, undef, undef, undef, undef, undef, undef, undef, undef, undef, undef, undef, undef, undef, undef, undef, undef, undef, undef, undef, undef, undef, undef, undef, undef, undef, undef, undef, undef, undef, undef, undef]), rfl, ⟨H4.out.1.at0 (shf_start L i b), H4.out.2⟩, by omega⟩
  intro k a' w5 hI
  obtain ⟨s0, rfl, hMB, hk0⟩ := hI
  have H5 : Hid (_ ∧ _) := hMB
  clear hMB H4
  by_cases hlt : k < 5
  · have hrd : True := trivial
    clear hrd
    obtain ⟨m, hm⟩ : ∃ m, 5 - k = m + 1 := ⟨4 - k, by omega⟩
    have hm6 : m + 1 < 6 := by omega
    have hm5 : m < 6 := by omega
    have hk1 : m + 1 ≤ 5 - k := by omega
    have hk2 : m ≤ 5 - k := by omega
    refine wp_seq (wp_seq ?_)
    refine walk_seqA 2 [.quiet (.int .i64 ((5 - k : Nat) : Int)), .quiet (.bool true)] (sB H5) ?ho5 ?he5
    case ho5 => exact ak (fun _ => ⟨rfl, fun _ _ => rfl⟩) (ak (by refine fun γ => ⟨rfl, fun w' h => ?_⟩; clear h; go_simp <;> omega) trivial)
    intro γ w6 l hM hl
    have H6 := keepK H5 hM.below
    clear hM hl l H5 γ
    refine rest0 rfl (then_normal (wp_cond_true rfl ?_))
    refine wp_skip (then_normal ?_)
    refine wp_seq (wp_block ?_)
    refine walk_put (by kernel_rfl) 24 [] [.quiet (PT g 0), .quiet (.int .i64 ((5 - k : Nat) : Int)), .quiet (PT g 0), .quiet (.int .i64 ((5 - k : Nat) : Int)), .quiet (PT g 0), .quiet (PT g 6), .quiet (PT g (6 + (5 - k))), .quiet (.int .u64 (wd L (5 - k))), .quiet (.int .i64 ((i : Nat) : Int)), .quiet (.int .u64 (IntKind.u64.wrap ((wd L (5 - k)) * 2 ^ i))), .quiet (PT g 0), .quiet (.int .i64 ((5 - k : Nat) : Int)), .quiet (.int .i64 ((m : Nat) : Int)), .quiet (PT g 0), .quiet (PT g 6), .quiet (PT g (6 + m)), .quiet (.int .u64 (wd L m)), .quiet (.int .i64 ((i : Nat) : Int)), .quiet (.int .i64 ((64 - i : Nat) : Int)), .quiet (.int .u64 ((wd L m) / 2 ^ (64 - i))), .quiet (.int .u64 (bits .or .u64 (IntKind.u64.wrap ((wd L (5 - k)) * 2 ^ i)) ((wd L m) / 2 ^ (64 - i)))), .quiet (PT g 0), .quiet (PT g 6), .quiet (PT g (6 + (5 - k)))] _ ?pre6 ?F6 _ ?hpre6 (fun γ => ?hF6) (by kernel_rfl) rfl ?hL6 (sB H6) ?ho6 ?hla6 ?he6
    case hpre6 => simp only [tk, tz]; rfl
    case hF6 => simp only [fill, Kind.val, Act.put, sa, sz, ss]; rfl
    case hL6 => exact trivial
    case ho6 =>
      refine ak (fun _ => ⟨rfl, fun _ _ => rfl⟩) ?_
      refine ak (fun _ => ⟨rfl, fun _ _ => rfl⟩) ?_
      refine ak (fun _ => ⟨rfl, fun _ _ => rfl⟩) ?_
      refine ak (fun _ => ⟨rfl, fun _ _ => rfl⟩) ?_
      refine ak (by refine fun γ => ⟨rfl, fun w' h => ?_⟩; clear h; go_simp) ?_
      refine ak (by refine fun γ => ⟨rfl, fun w' h => ?_⟩; clear h; go_simp) ?_
      refine ak (fun γ => ⟨rfl, fun w' _ => ex_indexAddr6 rfl rfl rfl (Nat.lt_of_le_of_lt (Nat.sub_le 5 k) (by decide))⟩) ?_
      refine ak (fun γ => ⟨rfl, fun w' h => ex_load1 h 0 rfl rfl rfl (shf_at (Nat.le_refl _) (Nat.lt_of_le_of_lt (Nat.sub_le 5 k) (by decide)))⟩) ?_
      refine ak (fun _ => ⟨rfl, fun _ _ => rfl⟩) ?_
      refine ak (fun γ => ⟨rfl, fun w' _ => ex_shl rfl rfl rfl hi⟩) ?_
      refine ak (fun _ => ⟨rfl, fun _ _ => rfl⟩) ?_
      refine ak (fun _ => ⟨rfl, fun _ _ => rfl⟩) ?_
      refine ak (by refine fun γ => ⟨rfl, fun w' h => ?_⟩; clear h; go_simp; rw [IntKind.wrap_i64]; omega) ?_
      refine ak (by refine fun γ => ⟨rfl, fun w' h => ?_⟩; clear h; go_simp) ?_
      refine ak (by refine fun γ => ⟨rfl, fun w' h => ?_⟩; clear h; go_simp) ?_
      refine ak (fun γ => ⟨rfl, fun w' _ => ex_indexAddr6 rfl rfl rfl hm5⟩) ?_
      refine ak (fun γ => ⟨rfl, fun w' h => ex_load1 h 0 rfl rfl rfl (shf_at hk2 hm5)⟩) ?_
      refine ak (fun _ => ⟨rfl, fun _ _ => rfl⟩) ?_
      refine ak (by refine fun γ => ⟨rfl, fun w' h => ?_⟩; clear h; go_simp; rw [IntKind.wrap_i64]; omega) ?_
      refine ak (fun γ => ⟨rfl, fun w' _ => ex_shr rfl rfl rfl (Nat.sub_le 64 i)⟩) ?_
      refine ak (fun γ => ⟨rfl, fun w' _ => ex_or rfl rfl rfl⟩) ?_
      refine ak (by refine fun γ => ⟨rfl, fun w' h => ?_⟩; clear h; go_simp) ?_
      refine ak (by refine fun γ => ⟨rfl, fun w' h => ?_⟩; clear h; go_simp) ?_
      refine ak (fun γ => ⟨rfl, fun w' _ => ex_indexAddr6 rfl rfl rfl (Nat.lt_of_le_of_lt (Nat.sub_le 5 k) (by decide))⟩) ?_
      exact trivial
    case hla6 => exact trivial
    intro γ w7 l hM hl
    have H7 := keepK H6 hM.below
    clear hM hl l H6 γ
    refine ⟨_, ex_storeI H7.out.1 0 rfl rfl Tryd.sizeOf22 rfl rfl (lec_bd (Nat.lt_of_le_of_lt (Nat.sub_le 5 k) (by decide))), ?_⟩
    have H8 : Hid (Mm (w7.setCells g (6 + (5 - k)) [.int .u64 (bits .or .u64 (IntKind.u64.wrap ((wd L (5 - k)) * 2 ^ i)) ((wd L m) / 2 ^ (64 - i)))]) [(g, lec b (shf L i (k + 1)))] ∧ Kp g w (w7.setCells g (6 + (5 - k)) [.int .u64 (bits .or .u64 (IntKind.u64.wrap ((wd L (5 - k)) * 2 ^ i)) ((wd L m) / 2 ^ (64 - i)))])) := ⟨by
      have h := H7.out.1.put 0 (off := (6 + (5 - k))) (vs := [.int .u64 (bits .or .u64 (IntKind.u64.wrap ((wd L (5 - k)) * 2 ^ i)) ((wd L m) / 2 ^ (64 - i)))]) rfl (lec_bd (Nat.lt_of_le_of_lt (Nat.sub_le 5 k) (by decide)))
      rw [lec_put (Nat.lt_of_le_of_lt (Nat.sub_le 5 k) (by decide)), shf_step hlt (by rw [hm]; exact sh_word L i m hi)] at h
      exact h, H7.out.2.put (Or.inl rfl)⟩
    clear H7
    generalize hgw : World.setCells _ _ _ _ = w8 at H8 ⊢
    clear hgw
    refine rest0 rfl ?_
    refine block_normal (then_normal ?_)
    refine walk_seqA 2 [.quiet (.int .i64 ((5 - k : Nat) : Int)), .quiet (.int .i64 ((5 - (k + 1) : Nat) : Int))] (sB H8) ?ho7 ?he7
    case ho7 => exact ak (fun _ => ⟨rfl, fun _ _ => rfl⟩) (ak (by refine fun γ => ⟨rfl, fun w' h => ?_⟩; clear h; go_simp; rw [IntKind.wrap_i64]; omega) trivial)
    intro γ w9 l hM hl
    have H9 := keepK H8 hM.below
    clear hM hl l H8 γ
    refine rest_at (l := [2]) rfl ?_
    refine rest_set (d := 7) rfl rfl rfl rfl ?_
    simp only [Act.put, sa, sz, ss]
    refine rest_nil (then_normal ?_)
    exact ⟨k + 1, ⟨(slotfn [undef, undef, undef, undef, undef, undef, undef, undef, undef, undef, undef, undef, undef, undef, undef, undef, undef, undef, .int .i64 ((5 - k : Nat) : Int), .bool true, .int .i64 ((5 - k : Nat) : Int), .int .i64 ((5 - (k + 1) : Nat) : Int), PT g 0, .int .i64 ((5 - k : Nat) : Int), PT g 0, .int .i64 ((5 - k : Nat) : Int), PT g 0, PT g 6, PT g (6 + (5 - k)), .int .u64 (wd L (5 - k)), .int .i64 ((i : Nat) : Int), .int .u64 (IntKind.u64.wrap ((wd L (5 - k)) * 2 ^ i)), PT g 0, .int .i64 ((5 - k : Nat) : Int), .int .i64 ((m : Nat) : Int), PT g 0, PT g 6, PT g (6 + m), .int .u64 (wd L m), .int .i64 ((i : Nat) : Int), .int .i64 ((64 - i : Nat) : Int), .int .u64 ((wd L m) / 2 ^ (64 - i)), .int .u64 (bits .or .u64 (IntKind.u64.wrap ((wd L (5 - k)) * 2 ^ i)) ((wd L m) / 2 ^ (64 - i))), PT g 0, PT g 6, PT g (6 + (5 - k))]), rfl, ⟨H9.out.1, H9.out.2⟩, by omega⟩, by omega⟩
  have hk5 : k = 5 := by omega
  subst hk5
  refine wp_seq (wp_seq ?_)
  refine walk_seqA 2 [.quiet (.int .i64 ((5 - 5 : Nat) : Int)), .quiet (.bool false)] (sB H5) ?ho8 ?he8
  case ho8 => exact ak (fun _ => ⟨rfl, fun _ _ => rfl⟩) (ak (by refine fun γ => ⟨rfl, fun w' h => ?_⟩; clear h; go_simp <;> omega) trivial)
  intro γ w10 l hM hl
  have H10 := keepK H5 hM.below
  clear hM hl l H5 γ
  refine rest0 rfl (then_normal (wp_cond_false rfl ?_))
  refine wp_exit ?_
  repeat refine then_exit ?_
  refine block_exit ?_
  refine then_normal (wp_seq ?_)
  refine walk_put (by kernel_rfl) 10 [] [.quiet (PT g 0), .quiet (PT g 0), .quiet (PT g 6), .quiet (PT g 6), .quiet (.int .u64 (wd L 0)), .quiet (.int .i64 ((i : Nat) : Int)), .quiet (.int .u64 (IntKind.u64.wrap ((wd L 0) * 2 ^ i))), .quiet (PT g 0), .quiet (PT g 6), .quiet (PT g 6)] _ ?pre9 ?F9 _ ?hpre9 (fun γ => ?hF9) (by kernel_rfl) rfl trivial (sB H10) ?ho9 ?hla9 ?he9
  case hpre9 => simp only [tk, tz]; rfl
  case hF9 => simp only [fill, Kind.val, Act.put, sa, sz, ss]; rfl
  case ho9 =>
    refine ak (fun _ => ⟨rfl, fun _ _ => rfl⟩) ?_
    refine ak (by refine fun γ => ⟨rfl, fun w' h => ?_⟩; clear h; go_simp) ?_
    refine ak (by refine fun γ => ⟨rfl, fun w' h => ?_⟩; clear h; go_simp) ?_
    refine ak (by refine fun γ => ⟨rfl, fun w' h => ?_⟩; clear h; go_simp) ?_
    refine ak (fun γ => ⟨rfl, fun w' h => ex_load1 h 0 rfl rfl rfl rfl⟩) ?_
    refine ak (fun _ => ⟨rfl, fun _ _ => rfl⟩) ?_
    refine ak (fun γ => ⟨rfl, fun w' _ => ex_shl rfl rfl rfl hi⟩) ?_
    refine ak (by refine fun γ => ⟨rfl, fun w' h => ?_⟩; clear h; go_simp) ?_
    refine ak (by refine fun γ => ⟨rfl, fun w' h => ?_⟩; clear h; go_simp) ?_
    refine ak (by refine fun γ => ⟨rfl, fun w' h => ?_⟩; clear h; go_simp) ?_
    exact trivial
  case hla9 => exact trivial
  intro γ w11 l hM hl
  have H11 := keepK H10 hM.below
  clear hM hl l H10 γ
  refine ⟨_, ex_storeI H11.out.1 0 rfl rfl Tryd.sizeOf22 rfl rfl (Nat.le_of_ble_eq_true rfl), ?_⟩
  have H12 : Hid (Mm (w11.setCells g 6 [.int .u64 (IntKind.u64.wrap ((wd L 0) * 2 ^ i))]) [(g, lec b (wd (L * 2 ^ i % big)))] ∧ Kp g w (w11.setCells g 6 [.int .u64 (IntKind.u64.wrap ((wd L 0) * 2 ^ i))])) := ⟨by
    have h := H11.out.1.put 0 (off := 6) (vs := [.int .u64 (IntKind.u64.wrap ((wd L 0) * 2 ^ i))]) rfl (Nat.le_of_ble_eq_true rfl)
    rw [lec_put0, shf_end] at h
    exact h, H11.out.2.put (Or.inl rfl)⟩
  clear H11
  generalize hgw : World.setCells _ _ _ _ = w12 at H12 ⊢
  clear hgw
  refine rest0 rfl (then_normal (wp_seq ?_))
  refine walk_seqA 2 [.quiet (.int .u64 ((wd L 5) / 2 ^ (64 - i))), .quiet (.int .u64 ((wd L 5) / 2 ^ (64 - i)))] (sB H12) ?ho10 ?he10
  case ho10 => exact ak (fun _ => ⟨rfl, fun _ _ => rfl⟩) (ak (fun _ => ⟨rfl, fun _ _ => rfl⟩) trivial)
  intro γ w13 l hM hl
  have H13 := keepK H12 hM.below
  clear hM hl l H12 γ
  refine rest0 rfl (then_normal (wp_ret ?_))
  repeat (first | refine then_ret ?_ | refine block_ret ?_)
  refine bodyPost_ret (v := .int .u64 ((wd L 5) / 2 ^ (64 - i))) (by simp [results, Tryd.results133, go_sem, *]) rfl ?_
  exact ⟨rfl, H13.out.1.one 0 rfl, H13.out.2⟩
theorem shiftL_any (g b L i : Nat) (hi : i ≤ 64) (hL : L < big) (w : World) (hm : Mm w [(g, lec b (wd L))]) :
    Calls Tryd.prog 133 #[PT g 0, .int .i64 ((i : Nat) : Int)] w fun e w' => e = .returned (.int .u64 ((L * 2 ^ i / big : Nat) : Int)) ∧ Mm w' [(g, lec b (wd (L * 2 ^ i % big)))] ∧ Kp g w w' := by
  have h := shift_gen g b L i hi w hm
  rw [sh_top L i hL hi] at h
  exact h
end Rg
end Go.Proofs.YtfnmahjdkmgdkaaDoor
end
section
namespace Go.Proofs.YtfnmahjdkmgdkaaDoor
open Go.RowKit
namespace Rg
theorem call43 : ∀ args w, (callFunc 43 args).run Tryd.prog w = .ok (.enter 43 args) w := by intro args w; go_simp
theorem okLt {n : Nat} (ok : Ok n) (x : Nat) : x % n < big := Nat.lt_trans (Nat.mod_lt _ ok.pos) ok.big
theorem pow_is (k : Nat) (h : k = 64 * 6) : 2 ^ k = big := by subst h; exact big_eq.symm
end Rg
end Go.Proofs.YtfnmahjdkmgdkaaDoor
end
