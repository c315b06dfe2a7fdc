/- words.Mul -/
import Derived.Test.YtkfannhbnbgloaaDoorA4
import Derived.Deep.RegionHeld3
namespace Go.Proofs.YtkfannhbnbgloaaDoor
open Go.RowKit Go.Lib

theorem twelve_zero {c : Array Value} (h : c = #[.int .u64 0, .int .u64 0, .int .u64 0, .int .u64 0, .int .u64 0, .int .u64 0, .int .u64 0, .int .u64 0, .int .u64 0, .int .u64 0, .int .u64 0, .int .u64 0]) : ∀ j, j < 12 → c[j]? = some (.int .u64 0) := by
  subst h
  intro j hj
  match j, hj with
  | 0, _ | 1, _ | 2, _ | 3, _ | 4, _ | 5, _ | 6, _ | 7, _ | 8, _ | 9, _ | 10, _ | 11, _ => rfl

/-- What stands in memory while Mul runs: a, b, two results, the product. -/
structure MulMem (w wr : World) (a b : Nat) (p : Nat → Int) : Prop where
  ra : Row wr w.heap.size 6 (wd a)
  rb : Row wr (w.heap.size + 1) 6 (wd b)
  rl : Row wr (w.heap.size + 1 + 1) 6 (fun _ => 0)
  rh : Row wr (w.heap.size + 1 + 1 + 1) 6 (fun _ => 0)
  rp : Row wr (w.heap.size + 1 + 1 + 1 + 1) 12 p
  bl : Below w.heap.size w wr
  sz : wr.heap.size = w.heap.size + 1 + 1 + 1 + 1 + 1

theorem MulMem.store {w wr : World} {a b : Nat} {p : Nat → Int} (h : MulMem w wr a b p) (k : Nat) (v : Int) : MulMem w (wr.setCell ⟨w.heap.size + 1 + 1 + 1 + 1, k, none⟩ (.int .u64 v)) a b (upd p k v) :=
  ⟨h.ra.set_other _ (by first | omega | (simp <;> omega)), h.rb.set_other _ (by first | omega | (simp <;> omega)), h.rl.set_other _ (by first | omega | (simp <;> omega)), h.rh.set_other _ (by first | omega | (simp <;> omega)), h.rp.set _, h.bl.setCell (by first | omega | (simp <;> omega)) _, by simp [World.setCell, h.sz]⟩
theorem MulMem.drew {w wr : World} {a b : Nat} {p : Nat → Int} (h : MulMem w wr a b p) : MulMem w wr.drew a b p :=
  ⟨h.ra.drew, h.rb.drew, h.rl.drew, h.rh.drew, h.rp.drew, h.bl.drew, h.sz⟩
theorem MulMem.congr {w wr : World} {a b : Nat} {p p' : Nat → Int} (h : MulMem w wr a b p) (e : ∀ j, j < 12 → p j = p' j) : MulMem w wr a b p' :=
  ⟨h.ra, h.rb, h.rl, h.rh, h.rp.congr e, h.bl, h.sz⟩

set_option maxHeartbeats 3200000 in
set_option maxRecDepth 100000 in
theorem mul_any (a b : Nat) (ha : a < big) (hb : b < big) (w : World) :
    Calls Tryd.prog 30 #[N a, N b] w fun e w' => e = .returned (.tuple #[N (a * b % big), N (a * b / big)]) ∧ Below w.heap.size w w' := by
  have HA : Hid (a < big) := ha
  have HB : Hid (b < big) := hb
  clear ha hb
  go_enter Tryd.func30, Tryd.ntmps30
  go_wp2
  go_loopw [13] (fun i wr => ∃ k : Nat, k ≤ 6 ∧ i = .int .i64 k ∧ MulMem w wr a b (wd ((a % 2 ^ (64 * k)) * b))) (fun i _ => 6 - (intOf i).toNat)
  case atStart =>
    refine ⟨0, by omega, rfl, ?_, ?_, ?_, ?_, ?_, ?_, ?_⟩
    · exact ((((Row.new w _ 24 rfl (six_lt rfl)).alloc (by first | omega | (simp <;> omega)) _).alloc (by first | omega | (simp <;> omega)) _).alloc (by first | omega | (simp <;> omega)) _).alloc (by first | omega | (simp <;> omega)) _
    · exact (((Row.new _ _ 24 (by first | omega | (simp <;> omega)) (six_lt rfl)).alloc (by first | omega | (simp <;> omega)) _).alloc (by first | omega | (simp <;> omega)) _).alloc (by first | omega | (simp <;> omega)) _
    · exact ((Row.new _ _ 24 (by first | omega | (simp <;> omega)) (six_lt (f := fun _ => 0) rfl)).alloc (by first | omega | (simp <;> omega)) _).alloc (by first | omega | (simp <;> omega)) _
    · exact (Row.new _ _ 24 (by first | omega | (simp <;> omega)) (six_lt (f := fun _ => 0) rfl)).alloc (by first | omega | (simp <;> omega)) _
    · exact (Row.new _ _ 61 (by first | omega | (simp <;> omega)) (f := fun _ => 0) (twelve_zero rfl)).congr (fun j _ => by simp [wd, Nat.mod_one])
    · exact (((((Below.refl _ _).alloc (Nat.le_refl _) _).alloc (by first | omega | (simp <;> omega)) _).alloc (by first | omega | (simp <;> omega)) _).alloc (by first | omega | (simp <;> omega)) _).alloc (by first | omega | (simp <;> omega)) _
    · simp
  case round =>
    obtain ⟨i, hi, rfl, hM⟩ := hrel
    by_cases hlt : i < 6
    · have HM : Hid _ := hM
      clear hM
      have hd : decide ((i : Int) < 6) = true := by simp; omega
      go_wp2
      go_loopw [8, 16] (fun c jv wq => ∃ j : Nat, j ≤ 6 ∧ jv = .int .i64 j ∧ c = .int .u64 (mc a b i j) ∧ MulMem w wq a b (pm ((a % 2 ^ (64 * i)) * b) (sm a b i j) (i + j))) (fun _ j _ => 6 - (intOf j).toNat)
      case atStart => exact ⟨0, by omega, rfl, by rw [mc_zero], HM.out.congr (fun m _ => (pm_start a b i m).symm)⟩
      case round =>
        obtain ⟨j, hj, rfl, rfl, hQ⟩ := hrel
        by_cases hjl : j < 6
        · have hA1 := (hQ.ra i hlt).1
          have hB1 := (hQ.rb j hjl).1
          obtain ⟨hP1, hP2⟩ := hQ.rp (i + j) (by omega)
          have ep : pm ((a % 2 ^ (64 * i)) * b) (sm a b i j) (i + j) (i + j) = wd ((a % 2 ^ (64 * i)) * b) (i + j) := by unfold pm; rw [if_neg (by omega)]
          rw [ep] at hP1
          clear ep
          have HQ : Hid _ := hQ
          clear hQ HM
          have hc := fun w => mulAdd_any (wd a i) (wd b j) (wd ((a % 2 ^ (64 * i)) * b) (i + j)) (mc a b i j) (wd_bd _ _).1 (wd_bd _ _).2 (wd_bd _ _).1 (wd_bd _ _).2 (wd_bd _ _).1 (wd_bd _ _).2 (mc_bd _ _ _ _).1 (mc_bd _ _ _ _).2 w
          have HC : Hid _ := hc
          clear hc
          have et : ((i : Int) + (j : Int)).toNat = i + j := by omega
          have e0 : (0 : Int) ≤ (i : Int) + (j : Int) := by omega
          have e1 : (i : Int) + (j : Int) < 12 := by omega
          have ew : IntKind.i64.wrap ((i : Int) + (j : Int)) = (i : Int) + (j : Int) := by rw [IntKind.wrap_i64]; omega
          go_wp2
          go_region_with (go_at_call 55; refine (HC.out _).mono ?_; rintro e w' ⟨rfl, rfl⟩)
          all_goals
            go_wp2
            go_roundw
            case rel =>
              rw [mul_hi, mul_lo]
              exact ⟨j + 1, by omega, by go_num, rfl, (HQ.out.store (i + j) _).drew.congr (fun m _ => pm_step a b i j m)⟩
            case measure => simp [intOf]; omega
        · have hj6 : j = 6 := by omega
          subst hj6
          obtain ⟨hP1, hP2⟩ := hQ.rp (i + 6) (by omega)
          have HQ : Hid _ := hQ
          clear hQ HM
          rw [show ((6 : Nat) : Int) = 6 from rfl]
          go_wp2
          go_roundw
          case rel => exact ⟨i + 1, by omega, by go_num, (HQ.out.store (i + 6) _).congr (fun m _ => pm_end a b i m HB.out)⟩
          case measure => simp [intOf]; omega
    · have hi6 : i = 6 := by omega
      subst hi6
      have hM2 : MulMem w wr a b (wd (a * b)) := by
        rw [← big_eq, Nat.mod_eq_of_lt HA.out] at hM
        exact hM
      clear hM
      have hsz := hM2.sz
      have HM : Hid _ := hM2
      clear hM2
      rw [show ((6 : Nat) : Int) = 6 from rfl]
      go_wp2
      go_loopw [45] (fun i wq => ∃ k : Nat, k ≤ 6 ∧ i = .int .i64 k ∧ Row wq (w.heap.size + 1 + 1) 6 (fun _ => 0) ∧ Row wq (w.heap.size + 1 + 1 + 1) 6 (fun _ => 0) ∧ Row wq (w.heap.size + 1 + 1 + 1 + 1) 12 (wd (a * b)) ∧ Row wq (w.heap.size + 1 + 1 + 1 + 1 + 1) 6 (part (a * b) k) ∧ Row wq (w.heap.size + 1 + 1 + 1 + 1 + 1 + 1) 6 (part (a * b / big) k) ∧ Below w.heap.size w wq) (fun i _ => 6 - (intOf i).toNat)
      case atStart =>
        have h := HM.out
        refine ⟨0, by omega, rfl, ?_, ?_, ?_, ?_, ?_, ?_⟩
        · exact (h.rl.alloc (by first | omega | (simp <;> omega)) _).alloc (by first | omega | (simp <;> omega)) _
        · exact (h.rh.alloc (by first | omega | (simp <;> omega)) _).alloc (by first | omega | (simp <;> omega)) _
        · exact (h.rp.alloc (by first | omega | (simp <;> omega)) _).alloc (by first | omega | (simp <;> omega)) _
        · exact (Row.new _ _ 24 (by first | omega | (simp <;> omega)) (six_lt (f := part (a * b) 0) rfl)).alloc (by first | omega | (simp <;> omega)) _
        · exact Row.new _ _ 24 (by first | omega | (simp <;> omega)) (six_lt (f := part (a * b / big) 0) rfl)
        · exact (h.bl.alloc (by first | omega | (simp <;> omega)) _).alloc (by first | omega | (simp <;> omega)) _
      case round =>
        clear HM hsz
        obtain ⟨k, hk, rfl, h1, h2, h3, h4, h5, h6⟩ := hrel
        by_cases hlt2 : k < 6
        · obtain ⟨p1, _⟩ := h3 k (by omega)
          obtain ⟨p2, _⟩ := h3 (k + 6) (by omega)
          obtain ⟨q1, q2⟩ := h4 k hlt2
          obtain ⟨q3, q4⟩ := h5 k hlt2
          have HR : Hid (_ ∧ _ ∧ _ ∧ _ ∧ _ ∧ _) := ⟨h1, h2, h3, h4, h5, h6⟩
          clear h1 h2 h3 h4 h5 h6
          go_wp2
          go_region
          go_wp2
          go_roundw
          case rel =>
            obtain ⟨h1, h2, h3, h4, h5, h6⟩ := HR.out
            refine ⟨k + 1, by omega, by go_num, ?_, ?_, ?_, ?_, ?_, ?_⟩
            · exact ((h1.set_other _ (by first | omega | (simp <;> omega))).set_other _ (by first | omega | (simp <;> omega))).drew
            · exact ((h2.set_other _ (by first | omega | (simp <;> omega))).set_other _ (by first | omega | (simp <;> omega))).drew
            · exact ((h3.set_other _ (by first | omega | (simp <;> omega))).set_other _ (by first | omega | (simp <;> omega))).drew
            · exact (((h4.set _).congr (fun j _ => part_step rfl j)).set_other _ (by first | omega | (simp <;> omega))).drew
            · exact (((h5.set_other _ (by first | omega | (simp <;> omega))).set _).congr (fun j _ => part_step (wd_hi _ _) j)).drew
            · exact ((h6.setCell (by first | omega | (simp <;> omega)) _).setCell (by first | omega | (simp <;> omega)) _).drew
          case measure => simp [intOf]; omega
        · have hk6 : k = 6 := by omega
          subst hk6
          obtain ⟨s0, s1, s2, s3, s4, s5⟩ := (h4.congr (f' := wd (a * b % big)) (fun j hj => by rw [part_lt hj, wd_mod _ _ hj])).reads
          obtain ⟨t0, t1, t2, t3, t4, t5⟩ := (h5.congr (f' := wd (a * b / big)) (fun j hj => by rw [part_lt hj])).reads
          obtain ⟨z0, z1, z2, z3, z4, z5⟩ := h1.writes
          obtain ⟨y0, y1, y2, y3, y4, y5⟩ := h1.reads
          obtain ⟨v0, v1, v2, v3, v4, v5⟩ := h2.writes
          obtain ⟨x0, x1, x2, x3, x4, x5⟩ := h2.reads
          clear h1 h2 h3 h4 h5
          rw [show ((6 : Nat) : Int) = 6 from rfl]
          go_wp2
          go_region
          go_wp2
          refine bodyPost_ret (v := .tuple #[N (a * b % big), N (a * b / big)]) ?_ rfl ⟨rfl, ?_⟩
          · simp [results, Tryd.results30, go_sem, *]
          · exact (below6 (below6 h6 (by omega) _ _ _ _ _ _) (by omega) _ _ _ _ _ _).drew
end Go.Proofs.YtkfannhbnbgloaaDoor
