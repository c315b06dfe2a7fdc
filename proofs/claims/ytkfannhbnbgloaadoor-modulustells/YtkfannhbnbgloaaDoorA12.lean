/- words.shiftLong -/
import Derived.Test.YtkfannhbnbgloaaDoorA11
import Derived.Test.YtkfannhbnbgloaaDoorC0
namespace Go.Proofs.YtkfannhbnbgloaaDoor
open Go.RowKit

theorem div_zero_of (a m : Nat) (ha : a < big) (hm : 384 ≤ m) : a / 2 ^ m = 0 := Nat.div_eq_of_lt (Nat.lt_of_lt_of_le ha (big_le m hm))
theorem shv_high (a n : Nat) (ha : a < big) (hn : n < 64) : shv a ((n : Int) - 384) = a / 2 ^ (384 - n) := by
  unfold shv
  by_cases h : n = 0
  · rw [if_pos (by omega)]
    exact (div_zero_of a (384 - n) ha (by omega)).symm
  · rw [if_neg (by omega), if_pos (by omega)]
    have e : (-((n : Int) - 384)).toNat = 384 - n := by omega
    rw [e]
theorem long_top (a n : Nat) (hn : n < 64) : wd (a / 2 ^ (384 - n)) 0 = wd (a * 2 ^ n) 6 := by
  unfold wd
  rw [Nat.mul_zero, Nat.pow_zero, Nat.div_one]
  have e : 64 * 6 = n + (384 - n) := by omega
  rw [e, Nat.pow_add, ← Nat.div_div_eq_div_mul, Nat.mul_div_cancel _ (Nat.two_pow_pos n)]

/-- The world when shiftLong begins its work. -/
abbrev W0 (w : World) (a : Nat) : World := (w.alloc (.cells #[.int .u64 (wd a 0), .int .u64 (wd a 1), .int .u64 (wd a 2), .int .u64 (wd a 3), .int .u64 (wd a 4), .int .u64 (wd a 5)] 24)).alloc (.cells #[.int .u64 0, .int .u64 0, .int .u64 0, .int .u64 0, .int .u64 0, .int .u64 0, .int .u64 0] 65)

set_option maxHeartbeats 4000000 in
set_option maxRecDepth 100000 in
theorem shiftLong_any (a n : Nat) (ha : a < big) (hn : n < 64) (w : World) :
    Calls Tryd.prog 56 #[N a, .int .i64 n] w fun e w' => e = .returned (L7 (a * 2 ^ n)) ∧ Below w.heap.size w w' := by
  have c1 := fun w => shift_up a n (by omega) w
  have c2 := fun w => shift_any a ((n : Int) - 384) ha w
  rw [shv_high a n ha hn] at c2
  have ht : Hid _ := long_top a n hn
  generalize a / 2 ^ (384 - n) = hi at c2 ht
  have C1 : Hid _ := c1
  have C2 : Hid _ := c2
  have ew : IntKind.i64.wrap ((n : Int) - 384) = (n : Int) - 384 := by rw [IntKind.wrap_i64]; omega
  clear c1 c2 ha
  go_enter Tryd.func56, Tryd.ntmps56
  go_wp2
  have HR : Hid (Rws (W0 w a) [(w.heap.size, a)]) := ((Rws.nil w).alloc a rfl).below ((Below.refl _ _).alloc (Nat.le_refl _) _)
  refine region_law (by kernel_rfl) [.quiet (N a), .quiet (.int .i64 n), .call (N (a * 2 ^ n % big)), .quiet (N a), .quiet (.int .i64 n), .quiet (.int .i64 ((n : Int) - 384)), .call (N hi), .made zero6 24, .made zero6 24, .laid 7 zero6 (cells6 (a * 2 ^ n % big)), .laid 8 zero6 (cells6 hi)] (fun w' => Rws w' [(w.heap.size, a)]) ?F1 (fun γ => ?hF) (by kernel_rfl) ?hL ?hS ?ho ?he
  case hF =>
    simp only [fill, Kind.val, Act.put, List.setIfInBounds_toArray, List.set_cons_zero, List.set_cons_succ]
    exact rfl
  case hL => exact ⟨⟨_, rfl⟩, ⟨_, rfl⟩, trivial⟩
  case hS => exact fun w' hb => HR.out.below hb
  case ho =>
    refine AllOk.cons ?_ ?_
    · exact fun γ => ⟨rfl, fun w' h => exec_load6 h (by simp) rfl rfl⟩
    refine AllOk.cons ?_ ?_
    · exact fun γ => ⟨rfl, fun w' _ => rfl⟩
    refine AllOk.cons ?_ ?_
    · exact fun γ => ⟨rfl, fun w' h => ⟨53, #[N a, .int .i64 n], exec_call rfl call53 rfl (by simp only [List.map_toArray, List.map_cons, List.map_nil]; rfl), C1.out w'⟩⟩
    refine AllOk.cons ?_ ?_
    · exact fun γ => ⟨rfl, fun w' h => exec_load6 h (by simp) rfl rfl⟩
    refine AllOk.cons ?_ ?_
    · exact fun γ => ⟨rfl, fun w' _ => rfl⟩
    refine AllOk.cons ?_ ?_
    · (refine fun γ => ⟨rfl, fun w' h => ?_⟩; clear h; go_simp)
    refine AllOk.cons ?_ ?_
    · exact fun γ => ⟨rfl, fun w' h => ⟨53, #[N a, .int .i64 ((n : Int) - 384)], exec_call rfl call53 rfl (by simp only [List.map_toArray, List.map_cons, List.map_nil]; rfl), C2.out w'⟩⟩
    refine AllOk.cons ?_ ?_
    · exact fun γ => ⟨rfl, fun w' => exec_made6 rfl⟩
    refine AllOk.cons ?_ ?_
    · exact fun γ => ⟨rfl, fun w' => exec_made6 rfl⟩
    refine AllOk.cons ?_ ?_
    · exact fun γ => ⟨rfl, rfl, rfl, fun w' h => exec_laid6 h rfl rfl rfl⟩
    refine AllOk.cons ?_ ?_
    · exact fun γ => ⟨rfl, rfl, rfl, fun w' h => exec_laid6 h rfl rfl rfl⟩
    exact trivial
  case he =>
    intro γ wc l hM hl
    obtain ⟨hq5, hg2⟩ := hM.full 9 7 _ _ rfl (hl 9 (by decide))
    obtain ⟨hq6, hg3⟩ := hM.full 10 8 _ _ rfl (hl 10 (by decide))
    have hg1 := (hM.made 7 _ _ rfl (hl 7 (by decide))).1
    have hbw := hM.below
    simp only [World.size_alloc] at hg1 hbw
    have q6 := (hq6 0 _ rfl).1
    have hq := hq5.row
    clear hM hl l hq5 hq6 HR
    generalize γ 7 = g5 at hq hg2 hg1 ⊢
    generalize γ 8 = g6 at q6 hg3 ⊢
    clear γ
    have hS5 : Hid (∀ j, j < 6 → wc.cell? ⟨g5, j, none⟩ = some (.int .u64 (wd (a * 2 ^ n) j))) := by
      intro j hj
      rw [← wd_mod _ _ hj]
      exact (hq j hj).1
    have hZ : Row wc (w.heap.size + 1) 7 (fun _ => 0) := Row.below hbw (Row.new _ _ 65 (by first | omega | (simp <;> omega)) (seven_lt (f := fun _ => 0) rfl)) (by omega)
    have hw : Below w.heap.size w wc := (((Below.refl _ _).alloc (Nat.le_refl _) _).alloc (by first | omega | (simp <;> omega)) _).trans (hbw.mono (by omega))
    have HB : Hid (_ ∧ _ ∧ _) := ⟨q6, hZ, hw⟩
    clear q6 hq hbw hZ hw
    go_wp2
    go_loopw [16] (fun i wr => ∃ k : Nat, k ≤ 6 ∧ i = .int .i64 k ∧ (∀ j, j < 6 → wr.cell? ⟨g5, j, none⟩ = some (.int .u64 (wd (a * 2 ^ n) j))) ∧ wr.cell? ⟨g6, 0, none⟩ = some (.int .u64 (wd hi 0)) ∧ Row wr (w.heap.size + 1) 7 (fun _ => 0) ∧ Row wr wc.heap.size 7 (part (a * 2 ^ n) k) ∧ Below w.heap.size w wr) (fun i _ => 6 - (intOf i).toNat)
    case atStart =>
      obtain ⟨q6, hZ, hw⟩ := HB.out
      refine ⟨0, by omega, rfl, fun j hj => ?_, ?_, hZ.alloc (by omega) _, Row.new _ _ 65 rfl (seven_lt (f := part (a * 2 ^ n) 0) rfl), hw.alloc hw.size _⟩
      · rw [World.cell?_alloc_past _ _ _ hg2]; exact hS5.out j hj
      · rw [World.cell?_alloc_past _ _ _ hg3]; exact q6
    case round =>
      clear HB hS5
      obtain ⟨k, hk, rfl, hA, h6, hZ, hS, hw⟩ := hrel
      by_cases hlt : k < 6
      · obtain ⟨hS1, hS2⟩ := hS k (by omega)
        have hA1 := hA k hlt
        have HM : Hid (_ ∧ _ ∧ _ ∧ _ ∧ _) := ⟨hA, h6, hZ, hS, hw⟩
        clear hA h6 hZ hS hw
        go_wp2
        go_roundw
        case rel =>
          obtain ⟨hA, h6, hZ, hS, hw⟩ := HM.out
          refine ⟨k + 1, by omega, by go_num, fun j hj => ?_, ?_, hZ.set_other _ (by simp <;> omega), (hS.set _).congr (fun j _ => part_step rfl j), hw.setCell (by simp <;> omega) _⟩
          · rw [World.cell?_setCell_other _ _ _ _ (by intro h; injection h with h1 h2; omega)]; exact hA j hj
          · rw [World.cell?_setCell_other _ _ _ _ (by intro h; injection h with h1 h2; omega)]; exact h6
        case measure => simp [intOf] <;> omega
      · have hk6 : k = 6 := by omega
        subst hk6
        obtain ⟨f1, f2⟩ := hS 6 (by omega)
        have hS' := (hS.set (k := 6) (wd hi 0)).congr (f' := wd (a * 2 ^ n)) (fun j hj => by
          unfold upd
          by_cases e : j = 6
          · subst e; rw [if_pos rfl]; exact ht.out
          · rw [if_neg e, part_lt (by omega)])
        obtain ⟨s0, s1, s2, s3, s4, s5, s6⟩ := hS'.reads7
        have hZ' := hZ.set_other (a := ⟨wc.heap.size, 6, none⟩) (.int .u64 (wd hi 0)) (by simp <;> omega)
        obtain ⟨z0, z1, z2, z3, z4, z5, z6⟩ := hZ'.writes7
        obtain ⟨y0, y1, y2, y3, y4, y5, y6⟩ := hZ'.reads7
        have HW : Hid _ := hw.setCell (p := ⟨wc.heap.size, 6, none⟩) (by simp <;> omega) (.int .u64 (wd hi 0))
        clear hA hZ hS hS' hZ' hw
        rw [show ((6 : Nat) : Int) = 6 from rfl]
        go_wp2
        refine bodyPost_ret (v := L7 (a * 2 ^ n)) ?_ rfl ⟨rfl, ?_⟩
        · simp [results, Tryd.results56, go_sem, *]
        · exact below7 HW.out (by omega) _ _ _ _ _ _ _
end Go.Proofs.YtkfannhbnbgloaaDoor
