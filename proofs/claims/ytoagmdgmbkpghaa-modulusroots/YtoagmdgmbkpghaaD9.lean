/- The document's own Mul, walked. -/
import Derived.Test.YtoagmdgmbkpghaaD8
namespace Go.Proofs.Ytoagmdgmbkpghaa
open Go.RowKit

abbrev cells12 (v : Nat) : List Value := [.int .u64 (hfd v 0), .int .u64 (hfd v 1), .int .u64 (hfd v 2), .int .u64 (hfd v 3), .int .u64 (hfd v 4), .int .u64 (hfd v 5), .int .u64 (hfd v 6), .int .u64 (hfd v 7), .int .u64 (hfd v 8), .int .u64 (hfd v 9), .int .u64 (hfd v 10), .int .u64 (hfd v 11)]
abbrev zero12 : List Value := [.int .u64 0, .int .u64 0, .int .u64 0, .int .u64 0, .int .u64 0, .int .u64 0, .int .u64 0, .int .u64 0, .int .u64 0, .int .u64 0, .int .u64 0, .int .u64 0]
theorem Blk.row12 {w : World} {g v : Nat} (h : Blk w g (cells12 v)) : Row w g 12 (hfd v) := fun j hj => by
  match j, hj with
  | 0, _ => exact h 0 _ rfl
  | 1, _ => exact h 1 _ rfl
  | 2, _ => exact h 2 _ rfl
  | 3, _ => exact h 3 _ rfl
  | 4, _ => exact h 4 _ rfl
  | 5, _ => exact h 5 _ rfl
  | 6, _ => exact h 6 _ rfl
  | 7, _ => exact h 7 _ rfl
  | 8, _ => exact h 8 _ rfl
  | 9, _ => exact h 9 _ rfl
  | 10, _ => exact h 10 _ rfl
  | 11, _ => exact h 11 _ rfl
theorem exec_made12 {ρ : Operand → Value} {o : Oper} {w : World} (ho : o.op = .alloc 63) :
    (execOp ρ o).run Try.prog w = .ok (.value (.pointer (some ⟨w.heap.size, 0, none⟩))) (w.alloc (.cells zero12.toArray 63)) := by
  simp only [execOp, ho]
  go_simp
theorem exec_laid12 {ρ : Operand → Value} {o : Oper} {x y : Operand} {g v : Nat} {w : World} (h : Blk w g zero12) (ho : o.op = .store 63 x y) (hx : ρ x = .pointer (some ⟨g, 0, none⟩)) (hy : ρ y = H12 v) :
    (execOp ρ o).run Try.prog w = .ok .skip (w.setCells g 0 (cells12 v)) := by
  obtain ⟨c0, f0⟩ := h 0 _ rfl
  obtain ⟨c1, f1⟩ := h 1 _ rfl
  obtain ⟨c2, f2⟩ := h 2 _ rfl
  obtain ⟨c3, f3⟩ := h 3 _ rfl
  obtain ⟨c4, f4⟩ := h 4 _ rfl
  obtain ⟨c5, f5⟩ := h 5 _ rfl
  obtain ⟨c6, f6⟩ := h 6 _ rfl
  obtain ⟨c7, f7⟩ := h 7 _ rfl
  obtain ⟨c8, f8⟩ := h 8 _ rfl
  obtain ⟨c9, f9⟩ := h 9 _ rfl
  obtain ⟨c10, f10⟩ := h 10 _ rfl
  obtain ⟨c11, f11⟩ := h 11 _ rfl
  clear h
  simp only [execOp, ho, hx, hy]
  go_simp
  simp [World.setCells]
/-- The memory of the document's Mul: two results, the halves of a and of b, the product's halves. -/
structure MM (w wr : World) (gx gy gp a b : Nat) (p : Nat → Int) : Prop where
  rl : Row wr (w.heap.size + 1 + 1) 6 (fun _ => 0)
  rh : Row wr (w.heap.size + 1 + 1 + 1) 6 (fun _ => 0)
  rx : Row wr gx 12 (hfd a)
  ry : Row wr gy 12 (hfd b)
  rp : Row wr gp 24 p
  o1 : w.heap.size + 1 + 1 + 1 < gx ∧ gx < gp
  o2 : w.heap.size + 1 + 1 + 1 < gy ∧ gy < gp
  sz : gp < wr.heap.size
  bl : Below w.heap.size w wr
theorem MM.store {w wr : World} {gx gy gp a b : Nat} {p : Nat → Int} (h : MM w wr gx gy gp a b p) (k : Nat) (v : Int) : MM w (wr.setCell ⟨gp, k, none⟩ (.int .u64 v)) gx gy gp a b (upd p k v) :=
  have h1 := h.o1
  have h2 := h.o2
  ⟨h.rl.set_other _ (by simp <;> omega), h.rh.set_other _ (by simp <;> omega), h.rx.set_other _ (by simp <;> omega), h.ry.set_other _ (by simp <;> omega), h.rp.set _, h1, h2, by simpa using h.sz, h.bl.setCell (by simp <;> omega) _⟩
theorem MM.drew {w wr : World} {gx gy gp a b : Nat} {p : Nat → Int} (h : MM w wr gx gy gp a b p) : MM w wr.drew gx gy gp a b p :=
  ⟨h.rl.drew, h.rh.drew, h.rx.drew, h.ry.drew, h.rp.drew, h.o1, h.o2, h.sz, h.bl.drew⟩
theorem MM.congr {w wr : World} {gx gy gp a b : Nat} {p p' : Nat → Int} (h : MM w wr gx gy gp a b p) (e : ∀ j, j < 24 → p j = p' j) : MM w wr gx gy gp a b p' :=
  ⟨h.rl, h.rh, h.rx, h.ry, h.rp.congr e, h.o1, h.o2, h.sz, h.bl⟩
/-- One step's arithmetic, as the machine reckons it. -/
theorem mul_t (x y p c : Int) (x0 : 0 ≤ x) (x1 : x < 4294967296) (y0 : 0 ≤ y) (y1 : y < 4294967296) (p0 : 0 ≤ p) (p1 : p < 4294967296) (c0 : 0 ≤ c) (c1 : c < 4294967296) :
    ∃ X Y T : Int, IntKind.u64.wrap (x * y) = X ∧ IntKind.u64.wrap (X + p) = Y ∧ IntKind.u64.wrap (Y + c) = T ∧ bits .and .u64 T 4294967295 = mulLh x y p c ∧ T / 4294967296 = mulHh x y p c := by
  have h1 : 0 ≤ x * y := Int.mul_nonneg x0 y0
  have h2 : x * y ≤ 4294967295 * 4294967295 := Int.mul_le_mul (by omega) (by omega) y0 (by omega)
  refine ⟨x * y, x * y + p, x * y + p + c, ?_, ?_, ?_, ?_, rfl⟩
  · rw [IntKind.wrap_u64]; omega
  · rw [IntKind.wrap_u64]; omega
  · rw [IntKind.wrap_u64]; omega
  · unfold mulLh
    generalize hT : x * y + p + c = T
    have hT0 : 0 ≤ T := by omega
    have hT1 : T < 18446744073709551616 := by omega
    obtain ⟨n, rfl⟩ := Int.eq_ofNat_of_zero_le hT0
    have h := bits_and_u64_nat n 4294967295 (by omega) (by decide)
    rw [show ((4294967295 : Nat) : Int) = 4294967295 from rfl] at h
    rw [h, show (4294967295 : Nat) = 2 ^ 32 - 1 from rfl, Nat.and_two_pow_sub_one_eq_mod]
    omega

set_option maxHeartbeats 3200000 in
set_option maxRecDepth 100000 in
theorem mul_ref (a b : Nat) (ha : a < big) (hb : b < big) (w : World) :
    Calls Try.prog 38 #[N a, N b] w fun e w' => e = .returned (.tuple #[N (a * b % big), N (a * b / big)]) ∧ Below w.heap.size w w' := by
  have HA : Hid (a < big) := ha
  have HB : Hid (b < big) := hb
  have CX : Hid _ := fun w => halves_any a w
  have CY : Hid _ := fun w => halves_any b w
  clear ha hb
  go_enter Try.func38, Try.ntmps38
  go_wp2_with fail
  have hR0 : Rws ((((w.alloc (O6 a)).alloc (O6 b)).alloc Z6).alloc Z6) [(w.heap.size + 1, b), (w.heap.size, a)] := ((((Rws.nil w).alloc a rfl).alloc b (g := w.heap.size + 1) (by simp)).below ((Below.refl _ _).alloc (Nat.le_refl _) _)).below ((Below.refl _ _).alloc (Nat.le_refl _) _)
  have hZ1 : Row ((((w.alloc (O6 a)).alloc (O6 b)).alloc Z6).alloc Z6) (w.heap.size + 1 + 1) 6 (fun _ => 0) := (Row.new _ _ 24 (by simp) (six_lt (f := fun _ => 0) rfl)).alloc (by simp) _
  have hZ2 : Row ((((w.alloc (O6 a)).alloc (O6 b)).alloc Z6).alloc Z6) (w.heap.size + 1 + 1 + 1) 6 (fun _ => 0) := Row.new _ _ 24 (by simp) (six_lt (f := fun _ => 0) rfl)
  have hB0 : Below w.heap.size w ((((w.alloc (O6 a)).alloc (O6 b)).alloc Z6).alloc Z6) := ((((Below.refl _ _).alloc (Nat.le_refl _) _).alloc (by simp) _).alloc (by first | (simp; done) | (simp; omega)) _).alloc (by first | (simp; done) | (simp; omega)) _
  have hs0 : ((((w.alloc (O6 a)).alloc (O6 b)).alloc Z6).alloc Z6).heap.size = w.heap.size + 1 + 1 + 1 + 1 := by simp
  generalize (((w.alloc (O6 a)).alloc (O6 b)).alloc Z6).alloc Z6 = w0 at hR0 hZ1 hZ2 hB0 hs0 ⊢
  have H0 : Hid (_ ∧ _ ∧ _ ∧ _) := ⟨hZ1, hZ2, hB0, hs0⟩
  have HR0 : Hid (Rws w0 [(w.heap.size + 1, b), (w.heap.size, a)]) := hR0
  clear hR0 hZ1 hZ2 hB0 hs0
  refine region_law (by kernel_rfl) [.quiet (N a), .call (H12 a), .quiet (N b), .call (H12 b), .made zero12 63, .made zero12 63, .laid 4 zero12 (cells12 a), .laid 5 zero12 (cells12 b)] (fun w' => Rws w' [(w.heap.size + 1, b), (w.heap.size, a)]) ?F1 (fun γ => ?hF) (by kernel_rfl) ?hL ?hS ?ho ?he
  case hF =>
    simp only [fill, Kind.val, Act.put, List.setIfInBounds_toArray, List.set_cons_zero, List.set_cons_succ]
    exact rfl
  case hL => exact ⟨⟨_, rfl⟩, ⟨_, rfl⟩, trivial⟩
  case hS => exact fun w' hb => Rws.below HR0.out hb
  case ho =>
    refine AllOk.cons ?_ ?_
    · exact fun γ => ⟨rfl, fun w' h => exec_load6 h (by simp) rfl rfl⟩
    refine AllOk.cons ?_ ?_
    · exact fun γ => ⟨rfl, fun w' h => ⟨48, #[N a], exec_call rfl call48 rfl (by simp only [List.map_toArray, List.map_cons, List.map_nil]; rfl), CX.out w'⟩⟩
    refine AllOk.cons ?_ ?_
    · exact fun γ => ⟨rfl, fun w' h => exec_load6 h (by simp) rfl rfl⟩
    refine AllOk.cons ?_ ?_
    · exact fun γ => ⟨rfl, fun w' h => ⟨48, #[N b], exec_call rfl call48 rfl (by simp only [List.map_toArray, List.map_cons, List.map_nil]; rfl), CY.out w'⟩⟩
    refine AllOk.cons ?_ ?_
    · exact fun γ => ⟨rfl, fun w' => exec_made12 rfl⟩
    refine AllOk.cons ?_ ?_
    · exact fun γ => ⟨rfl, fun w' => exec_made12 rfl⟩
    refine AllOk.cons ?_ ?_
    · exact fun γ => ⟨rfl, rfl, rfl, fun w' h => exec_laid12 h rfl rfl rfl⟩
    refine AllOk.cons ?_ ?_
    · exact fun γ => ⟨rfl, rfl, rfl, fun w' h => exec_laid12 h rfl rfl rfl⟩
    exact trivial
  case he =>
    intro γ w1 l hM hl
    obtain ⟨hx, hx2⟩ := hM.full 6 4 _ _ rfl (hl 6 (by decide))
    obtain ⟨hy, hy2⟩ := hM.full 7 5 _ _ rfl (hl 7 (by decide))
    have hx1 := (hM.made 4 _ _ rfl (hl 4 (by decide))).1
    have hy1 := (hM.made 5 _ _ rfl (hl 5 (by decide))).1
    have hxr := hx.row12
    have hyr := hy.row12
    obtain ⟨hZ1, hZ2, hB0, hs0⟩ := H0.out
    have hz1 := Row.below hM.below hZ1 (by omega)
    have hz2 := Row.below hM.below hZ2 (by omega)
    have hb := hB0.trans (hM.below.mono hB0.size)
    rw [hs0] at hx1 hy1
    clear hM hl l hx hy HR0 H0 hZ1 hZ2 hB0 hs0 CX CY
    generalize γ 4 = gx at hxr hx1 hx2 ⊢
    generalize γ 5 = gy at hyr hy1 hy2 ⊢
    clear γ w0
    have HM0 : Hid (MM w (w1.alloc (.cells #[.int .u64 0, .int .u64 0, .int .u64 0, .int .u64 0, .int .u64 0, .int .u64 0, .int .u64 0, .int .u64 0, .int .u64 0, .int .u64 0, .int .u64 0, .int .u64 0, .int .u64 0, .int .u64 0, .int .u64 0, .int .u64 0, .int .u64 0, .int .u64 0, .int .u64 0, .int .u64 0, .int .u64 0, .int .u64 0, .int .u64 0, .int .u64 0] 65)) gx gy w1.heap.size a b (hfd ((a % 2 ^ (32 * 0)) * b))) :=
      ⟨hz1.alloc (by omega) _, hz2.alloc (by omega) _, hxr.alloc hx2 _, hyr.alloc hy2 _, (Row.new w1 _ 65 rfl (f := fun _ => 0) (twenty_four_zero rfl)).congr (fun j _ => by rw [Nat.mul_zero, Nat.pow_zero, Nat.mod_one, Nat.zero_mul]; unfold hfd; rw [Nat.zero_div]; rfl), ⟨by omega, hx2⟩, ⟨by omega, hy2⟩, by simp, hb.alloc hb.size _⟩
    clear hz1 hz2 hxr hyr hb hx1 hx2 hy1 hy2
    go_wp2_with fail
    go_loopw [9] (fun i wr => ∃ k : Nat, k ≤ 12 ∧ i = .int .i64 k ∧ MM w wr gx gy w1.heap.size a b (hfd ((a % 2 ^ (32 * k)) * b))) (fun i _ => 12 - (intOf i).toNat)
    case atStart => exact ⟨0, by omega, rfl, HM0.out⟩
    case round =>
      clear HM0
      obtain ⟨i, hi, rfl, hM⟩ := hrel
      by_cases hlt : i < 12
      · have HM : Hid _ := hM
        clear hM
        have hd : decide ((i : Int) < 12) = true := by simp; omega
        go_wp2
        go_loopw [10, 11] (fun c jv wq => ∃ j : Nat, j ≤ 12 ∧ jv = .int .i64 j ∧ c = .int .u64 (mch a b i j) ∧ MM w wq gx gy w1.heap.size a b (pmh ((a % 2 ^ (32 * i)) * b) (smh a b i j) (i + j))) (fun _ j _ => 12 - (intOf j).toNat)
        case atStart => exact ⟨0, by omega, rfl, by rw [Hmc_zero], HM.out.congr (fun m _ => (Hpm_start a b i m).symm)⟩
        case round =>
          obtain ⟨j, hj, rfl, rfl, hQ⟩ := hrel
          by_cases hjl : j < 12
          · have hA1 := (hQ.rx i hlt).1
            have hB1 := (hQ.ry j hjl).1
            obtain ⟨hP1, hP2⟩ := hQ.rp (i + j) (by omega)
            have ep : pmh ((a % 2 ^ (32 * i)) * b) (smh a b i j) (i + j) (i + j) = hfd ((a % 2 ^ (32 * i)) * b) (i + j) := by unfold pmh; rw [if_neg (by omega)]
            rw [ep] at hP1
            clear ep
            have HQ : Hid _ := hQ
            clear hQ HM
            obtain ⟨X, Y, T, m1, m2, m3, m4, m5⟩ := mul_t (hfd a i) (hfd b j) (hfd ((a % 2 ^ (32 * i)) * b) (i + j)) (mch a b i j) (half_bd _ _).1 (half_bd _ _).2 (half_bd _ _).1 (half_bd _ _).2 (half_bd _ _).1 (half_bd _ _).2 (Hmc_bd _ _ _ _).1 (Hmc_bd _ _ _ _).2
            rw [Hmul_lo] at m4
            rw [Hmul_hi] at m5
            have et : ((i : Int) + (j : Int)).toNat = i + j := by omega
            have e0 : (0 : Int) ≤ (i : Int) + (j : Int) := by omega
            have e1 : (i : Int) + (j : Int) < 24 := by omega
            have ew : IntKind.i64.wrap ((i : Int) + (j : Int)) = (i : Int) + (j : Int) := by rw [IntKind.wrap_i64]; omega
            go_wp2
            go_region
            go_wp2
            go_roundw
            case rel =>
              exact ⟨j + 1, by omega, by go_num, rfl, (HQ.out.drew.store (i + j) _).congr (fun m _ => Hpm_step a b i j m)⟩
            case measure => simp [intOf]; omega
          · have hj6 : j = 12 := by omega
            subst hj6
            obtain ⟨hP1, hP2⟩ := hQ.rp (i + 12) (by omega)
            have HQ : Hid _ := hQ
            clear hQ HM
            have et : ((i : Int) + 12).toNat = i + 12 := by omega
            have e0 : (0 : Int) ≤ (i : Int) + 12 := by omega
            have e1 : (i : Int) + 12 < 24 := by omega
            have ew : IntKind.i64.wrap ((i : Int) + 12) = (i : Int) + 12 := by rw [IntKind.wrap_i64]; omega
            rw [show ((12 : Nat) : Int) = 12 from rfl]
            go_wp2
            go_roundw
            case rel => exact ⟨i + 1, by omega, by go_num, (HQ.out.store (i + 12) _).congr (fun m _ => Hpm_end a b i m HB.out)⟩
            case measure => simp [intOf]; omega
      · have hi6 : i = 12 := by omega
        subst hi6
        obtain ⟨wr0, hwr0⟩ : ∃ x : World, x = wr := ⟨wr, rfl⟩
        subst hwr0
        have hM2 : MM w wr0 gx gy w1.heap.size a b (hfd (a * b)) := by
          rw [← big_half, Nat.mod_eq_of_lt HA.out] at hM
          exact hM
        clear hM
        have HM : Hid _ := hM2
        clear hM2
        generalize w1.heap.size = gp at HM ⊢
        rw [show ((12 : Nat) : Int) = 12 from rfl]
        go_wp2
        go_loopw [15] (fun i wq => ∃ k : Nat, k ≤ 6 ∧ i = .int .i64 k ∧ Row wq (w.heap.size + 1 + 1) 6 (fun _ => 0) ∧ Row wq (w.heap.size + 1 + 1 + 1) 6 (fun _ => 0) ∧ Row wq gp 24 (hfd (a * b)) ∧ Row wq wr0.heap.size 6 (part (a * b) k) ∧ Row wq (wr0.heap.size + 1) 6 (part (a * b / big) k) ∧ Below w.heap.size w wq) (fun i _ => 6 - (intOf i).toNat)
        case atStart =>
          have h := HM.out
          have h1 := h.o1
          have h2 := h.sz
          refine ⟨0, by omega, rfl, ?_, ?_, ?_, ?_, ?_, ?_⟩
          · exact (h.rl.alloc (by omega) _).alloc (by simp; omega) _
          · exact (h.rh.alloc (by omega) _).alloc (by simp; omega) _
          · exact (h.rp.alloc h2 _).alloc (by simp; omega) _
          · exact (Row.new _ _ 24 rfl (six_lt (f := part (a * b) 0) rfl)).alloc (by simp) _
          · exact Row.new _ _ 24 (by simp) (six_lt (f := part (a * b / big) 0) rfl)
          · exact (h.bl.alloc h.bl.size _).alloc (by simp; have := h.bl.size; omega) _
        case round =>
          have ho1 := HM.out.o1
          have ho2 := HM.out.sz
          clear HM
          obtain ⟨k, hk, rfl, h1, h2, h3, h4, h5, h6⟩ := hrel
          by_cases hlt2 : k < 6
          · obtain ⟨p1, _⟩ := h3 (2 * k) (by omega)
            obtain ⟨p2, _⟩ := h3 (2 * k + 1) (by omega)
            obtain ⟨p3, _⟩ := h3 (2 * k + 12) (by omega)
            obtain ⟨p4, _⟩ := h3 (2 * k + 13) (by omega)
            obtain ⟨q1, q2⟩ := h4 k hlt2
            obtain ⟨q3, q4⟩ := h5 k hlt2
            have HR : Hid (_ ∧ _ ∧ _ ∧ _ ∧ _ ∧ _) := ⟨h1, h2, h3, h4, h5, h6⟩
            have HO : Hid (_ ∧ _) := ⟨ho1, ho2⟩
            clear h1 h2 h3 h4 h5 h6 ho1 ho2
            have j1 := half_join (a * b) k
            have j2 := half_join_hi (a * b) k
            have e0 : IntKind.i64.wrap (2 * (k : Int)) = 2 * (k : Int) := by rw [IntKind.wrap_i64]; omega
            have e1 : IntKind.i64.wrap (2 * (k : Int) + 1) = 2 * (k : Int) + 1 := by rw [IntKind.wrap_i64]; omega
            have e2 : IntKind.i64.wrap (2 * (k : Int) + 12) = 2 * (k : Int) + 12 := by rw [IntKind.wrap_i64]; omega
            have e3 : IntKind.i64.wrap (2 * (k : Int) + 13) = 2 * (k : Int) + 13 := by rw [IntKind.wrap_i64]; omega
            have t0 : (2 * (k : Int)).toNat = 2 * k := by omega
            have t1 : (2 * (k : Int) + 1).toNat = 2 * k + 1 := by omega
            have t2 : (2 * (k : Int) + 12).toNat = 2 * k + 12 := by omega
            have t3 : (2 * (k : Int) + 13).toNat = 2 * k + 13 := by omega
            have b0 : (0 : Int) ≤ 2 * (k : Int) := by omega
            have b1 : 2 * (k : Int) < 24 := by omega
            have b2 : (0 : Int) ≤ 2 * (k : Int) + 1 := by omega
            have b3 : 2 * (k : Int) + 1 < 24 := by omega
            have b4 : (0 : Int) ≤ 2 * (k : Int) + 12 := by omega
            have b5 : 2 * (k : Int) + 12 < 24 := by omega
            have b6 : (0 : Int) ≤ 2 * (k : Int) + 13 := by omega
            have b7 : 2 * (k : Int) + 13 < 24 := by omega
            have n1 : gp ≠ wr0.heap.size := by have := HO.out; omega
            have n2 : wr0.heap.size ≠ gp := by have := HO.out; omega
            go_wp2
            go_region
            go_wp2
            go_region
            go_wp2
            go_roundw
            case rel =>
              obtain ⟨h1, h2, h3, h4, h5, h6⟩ := HR.out
              have ho := HO.out
              refine ⟨k + 1, by omega, by go_num, ?_, ?_, ?_, ?_, ?_, ?_⟩
              · exact ((h1.set_other _ (by simp <;> omega)).drew.set_other _ (by simp <;> omega)).drew
              · exact ((h2.set_other _ (by simp <;> omega)).drew.set_other _ (by simp <;> omega)).drew
              · exact ((h3.set_other _ (by simp <;> omega)).drew.set_other _ (by simp <;> omega)).drew
              · exact (((h4.set _).congr (fun j _ => part_step rfl j)).drew.set_other _ (by simp <;> omega)).drew
              · exact (((h5.set_other _ (by simp <;> omega)).drew.set _).congr (fun j _ => part_step rfl j)).drew
              · exact ((h6.setCell (by simp <;> omega) _).drew.setCell (by simp <;> omega) _).drew
            case measure => simp [intOf]; omega
          · have hk6 : k = 6 := by omega
            subst hk6
            obtain ⟨s0, s1, s2, s3, s4, s5⟩ := (h4.congr (f' := wd (a * b % big)) (fun j hj => by rw [part_lt hj, wd_mod _ _ hj])).reads
            obtain ⟨t0, t1, t2, t3, t4, t5⟩ := (h5.congr (f' := wd (a * b / big)) (fun j hj => by rw [part_lt hj])).reads
            obtain ⟨z0, z1, z2, z3, z4, z5⟩ := h1.writes
            obtain ⟨y0, y1, y2, y3, y4, y5⟩ := h1.reads
            obtain ⟨v0, v1, v2, v3, v4, v5⟩ := h2.writes
            obtain ⟨x0, x1, x2, x3, x4, x5⟩ := h2.reads
            have n1 : w.heap.size + 1 + 1 ≠ wr0.heap.size := by omega
            have n2 : w.heap.size + 1 + 1 ≠ wr0.heap.size + 1 := by omega
            clear h1 h2 h3 h4 h5
            rw [show ((6 : Nat) : Int) = 6 from rfl]
            go_wp2
            go_region
            go_wp2
            refine bodyPost_ret (v := .tuple #[N (a * b % big), N (a * b / big)]) ?_ rfl ⟨rfl, ?_⟩
            · simp [results, Try.results38, go_sem, *]
            · exact (below6 (below6 h6 (by omega) _ _ _ _ _ _) (by omega) _ _ _ _ _ _).drew
end Go.Proofs.Ytoagmdgmbkpghaa
