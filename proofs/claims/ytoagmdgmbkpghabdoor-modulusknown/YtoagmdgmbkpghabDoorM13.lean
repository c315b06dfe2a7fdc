/- Inv -/
import Derived.Test.YtoagmdgmbkpghabDoorM12
namespace Go.Proofs.YtoagmdgmbkpghabDoor
open Go.RowKit
namespace Rg
theorem call16 : ∀ args w, (callFunc 16 args).run Tryd.prog w = .ok (.enter 16 args) w := by intro args w; go_simp
theorem call29 : ∀ args w, (callFunc 29 args).run Tryd.prog w = .ok (.enter 29 args) w := by intro args w; go_simp
theorem call30 : ∀ args w, (callFunc 30 args).run Tryd.prog w = .ok (.enter 30 args) w := by intro args w; go_simp
theorem call31 : ∀ args w, (callFunc 31 args).run Tryd.prog w = .ok (.enter 31 args) w := by intro args w; go_simp

abbrev zero26 : List Value := [.int .u64 0, .int .u64 0, .int .u64 0, .int .u64 0, .int .u64 0, .int .u64 0, .int .u64 0, .int .u64 0, .int .u64 0, .int .u64 0, .int .u64 0, .int .u64 0, .int .u64 0, .int .u64 0, .int .u64 0, .int .u64 0, .int .u64 0, .int .u64 0, .int .u64 0, .int .u64 0, .int .u64 0, .int .u64 0, .int .u64 0, .int .u64 0, .int .i64 0, .bool false]
abbrev wkv (o r u v : Nat) (h : Int) (t : Bool) : Value := .agg (wkc o r u v h t).toArray

theorem ex_made58 {ρ : Operand → Value} {o : Oper} {w : World} (ho : o.op = .alloc 52) :
    (execOp ρ o).run Tryd.prog w = .ok (.value (.pointer (some ⟨w.heap.size, 0, none⟩))) (w.alloc (.cells zero26.toArray 52)) := by
  simp only [execOp, ho]
  go_simp
theorem ex_build58 {ρ : Operand → Value} {o : Oper} {x y z : Operand} {n r z0 c1 : Nat} {w : World} (h0 : z0 = 0) (ho : o.op = .build 52 #[(0, x), (1, y), (3, z)]) (hx : ρ x = N n) (hy : ρ y = N r) (hz : ρ z = N c1) : (execOp ρ o).run Tryd.prog w = .ok (.value (wkv n r z0 c1 0 false)) w := by
  subst h0
  simp only [execOp, ho]
  go_simp
  simp [wd_zero]
theorem ex_laidT {ρ : Operand → Value} {o : Oper} {x y : Operand} {g : Nat} {t : TypeId} {zs cs : List Value} {w : World} (hb : Blk w g zs) (hl : zs.length = cs.length) (h1 : cs.all Value.oneCell' = true) (hs : ∀ w, (sizeOf t).run Tryd.prog w = .ok cs.length w) (ho : o.op = .store t x y) (hx : ρ x = .pointer (some ⟨g, 0, none⟩)) (hy : ρ y = .agg cs.toArray) :
    (execOp ρ o).run Tryd.prog w = .ok .skip (w.setCells g 0 cs) := by
  have hk : ∀ k, k < cs.length → ∃ u, zs[k]? = some u := fun k hk => ⟨_, List.getElem?_eq_getElem (by omega)⟩
  have hst := run_storeCells_cells (P := Tryd.prog) g 0 cs 0 w (fun k hkl => by
    obtain ⟨u, hu⟩ := hk k hkl
    rw [show 0 + 0 + k = k by omega, (hb k u hu).1]; rfl) (fun k hkl => by
    obtain ⟨u, hu⟩ := hk k hkl
    rw [show 0 + 0 + k = k by omega]; exact (hb k u hu).2) (List.all_eq_true.1 h1)
  clear hb hk h1 hl
  simp only [execOp, ho, hx, hy]
  go_simp
theorem ex_laid58 {ρ : Operand → Value} {o : Oper} {x y : Operand} {g n r u v : Nat} {h : Int} {t : Bool} {w : World} (hb : Blk w g zero26) (ho : o.op = .store 52 x y) (hx : ρ x = .pointer (some ⟨g, 0, none⟩)) (hy : ρ y = wkv n r u v h t) :
    (execOp ρ o).run Tryd.prog w = .ok .skip (w.setCells g 0 (wkc n r u v h t)) := ex_laidT hb rfl rfl Tryd.sizeOf52 ho hx hy
theorem shift_neg' (a m : Nat) (ha : a < big) (h : m < 384) (w : World) :
    Calls Tryd.prog 34 #[N a, .int .i64 (-((m : Nat) : Int))] w fun e w' => e = .returned (N (a / 2 ^ m)) ∧ Below w.heap.size w w' := by
  by_cases h0 : m = 0
  · subst h0
    have := shift_up a 0 (by decide) w
    rw [Nat.pow_zero, Nat.mul_one, Nat.mod_eq_of_lt ha] at this
    rw [Nat.pow_zero, Nat.div_one]
    exact this
  · have := shift_down a (-(m : Int)) ha (by omega) (by omega) w
    rw [show (- -(m : Int)).toNat = m by omega] at this
    exact this
set_option maxHeartbeats 4000000 in
set_option maxRecDepth 100000 in
theorem inv_good {g n a : Nat} (ok : Ok n) (ha : a < big) (hg : Nat.gcd n a = 1) (w : World) (hm : Mm w [(g, modc n), (0, dtab)]) :
    Calls Tryd.prog 12 #[PT g 0, N a] w fun e w' => ∃ x, e = .returned (.tuple #[N x, .int .i64 0]) ∧ x < n ∧ x * a % n = 1 ∧ Below w.heap.size w w' := by
  have H0 : Hid (_ ∧ _) := ⟨hm, Below.refl w.heap.size w⟩
  clear hm
  obtain ⟨r0, hr0⟩ : ∃ r0, r0 = a % n := ⟨_, rfl⟩
  have cm := fun w hm => madeC (g := g) ok w hm
  have cr := fun w hm => reduce_any (g := g) ok ha w hm
  rw [← hr0] at cr
  have CM : Hid _ := cm
  have CR : Hid _ := cr
  obtain ⟨z0, hz0⟩ : ∃ z0, z0 = 0 := ⟨_, rfl⟩
  obtain ⟨c1, hc1⟩ : ∃ c1, c1 = 1 := ⟨_, rfl⟩
  have HC1 : Hid _ := hc1
  have CO : Hid (∀ w, Calls Tryd.prog 11 #[.int .u64 1] w fun e w' => e = .returned (N c1) ∧ Below w.heap.size w w') := fun w => by
    have h := of_any 1 (by decide) w
    rw [HC1.out]
    exact h
  have HZ0 : Hid _ := hz0
  have HR : Hid _ := hr0
  clear cm cr hr0 ha hz0 hc1
  go_enter Tryd.func12, Tryd.ntmps12
  refine wp_seq ?_
  refine walk_seq 3 [.made (cells6 a) 24, .made zero6 24, .quiet (.int .i64 0)] (fun w' => Mm w' [(g, modc n), (0, dtab)]) ?pre1 ?F1 ?hpre1 (fun γ => ?hF1) (by kernel_rfl) ?hL1 ?hS1 ?ho1 ?he1
  case hpre1 =>
    simp only [List.take_succ_cons, List.take_zero]
    exact rfl
  case hF1 =>
    simp only [fill, Kind.val, Act.put, List.setIfInBounds_toArray, List.set_cons_zero, List.set_cons_succ]
    exact rfl
  case hL1 => exact trivial
  case hS1 => exact fun w' hb => H0.out.1.below hb
  case ho1 =>
    refine AllOk.cons ?_ ?_
    · exact fun γ => ⟨rfl, fun w' => ex_box6 rfl rfl⟩
    refine AllOk.cons ?_ ?_
    · exact fun γ => ⟨rfl, fun w' => exec_made6 rfl⟩
    refine AllOk.cons ?_ ?_
    · exact fun γ => ⟨rfl, fun w' _ => rfl⟩
    exact trivial
  intro γ w1 l hM hl
  have M1 : Mm w1 [(γ 0, cells6 a), (γ 1, zero6), (g, modc n), (0, dtab)] := H0.out.1.grow hM (Nat.le_refl _) hl [0, 1] rfl (by decide)
  have B1 : Below w.heap.size w w1 := H0.out.2.trans (hM.below.mono H0.out.2.size)
  have o1_0 : Hid (w.heap.size ≤ γ 0) := Nat.le_trans H0.out.2.size (hM.fin (Nat.le_refl _) hl (i := 0) rfl).2.1
  have o1_1 : Hid (w.heap.size ≤ γ 1) := Nat.le_trans H0.out.2.size (hM.fin (Nat.le_refl _) hl (i := 1) rfl).2.1
  clear hM hl l
  generalize γ 0 = γ1_0 at M1 o1_0 ⊢
  generalize γ 1 = γ1_1 at M1 o1_1 ⊢
  clear γ
  have H1 : Hid (_ ∧ _) := ⟨M1, B1⟩
  clear M1 B1
  refine rest_at (l := []) rfl ?_
  refine rest_nil ?_
  refine then_normal ?_
  refine wp_seq ?_
  refine wp_seq ?_
  refine walk_seq 3 [.quiet (PT g 0), .call (.bool true), .quiet (.bool false)] (fun w' => Mm w' [(γ1_0, cells6 a), (γ1_1, zero6), (g, modc n), (0, dtab)]) ?pre2 ?F2 ?hpre2 (fun γ => ?hF2) (by kernel_rfl) ?hL2 ?hS2 ?ho2 ?he2
  case hpre2 =>
    simp only [List.take_succ_cons, List.take_zero]
    exact rfl
  case hF2 =>
    simp only [fill, Kind.val, Act.put, List.setIfInBounds_toArray, List.set_cons_zero, List.set_cons_succ]
    exact rfl
  case hL2 => exact trivial
  case hS2 => exact fun w' hb => H1.out.1.below hb
  case ho2 =>
    refine AllOk.cons ?_ ?_
    · exact fun γ => ⟨rfl, fun w' _ => rfl⟩
    refine AllOk.cons ?_ ?_
    · exact fun γ => ⟨rfl, fun w' h' => ⟨25, #[PT g 0], exec_call rfl call25 rfl (by simp only [List.map_toArray, List.map_cons, List.map_nil]; rfl), CM.out w' (h'.one 2 rfl)⟩⟩
    refine AllOk.cons ?_ ?_
    · (refine fun γ => ⟨rfl, fun w' h' => ?_⟩; clear h'; go_simp)
    exact trivial
  intro γ w2 l hM hl
  have M2 : Mm w2 [(γ1_0, cells6 a), (γ1_1, zero6), (g, modc n), (0, dtab)] := H1.out.1.grow hM (Nat.le_refl _) hl [] rfl (by decide)
  have B2 : Below w.heap.size w w2 := H1.out.2.trans (hM.below.mono H1.out.2.size)
  clear hM hl l H1
  clear γ
  have H2 : Hid (_ ∧ _) := ⟨M2, B2⟩
  clear M2 B2
  refine rest_at (l := []) rfl ?_
  refine rest_nil ?_
  refine then_normal ?_
  refine wp_cond_false rfl ?_
  refine wp_skip ?_
  refine then_normal ?_
  refine wp_seq ?_
  refine walk_any (by kernel_rfl) 11 [.quiet (PT g 0), .quiet (PT g 0), .quiet (PT g 0), .quiet (N n), .quiet (PT g 0), .quiet (N a), .call (N r0), .call (N c1), .quiet (wkv n r0 z0 c1 0 false), .made zero26 52, .laid 9 zero26 (wkc n r0 z0 c1 0 false)] (fun w' => Mm w' [(γ1_0, cells6 a), (γ1_1, zero6), (g, modc n), (0, dtab)]) ?pre3 ?F3 ?hpre3 (fun γ => ?hF3) (by kernel_rfl) ?hL3 ?hS3 ?ho3 ?he3
  case hpre3 =>
    simp only [List.take_succ_cons, List.take_zero]
    exact rfl
  case hF3 =>
    simp only [fill, Kind.val, Act.put, List.setIfInBounds_toArray, List.set_cons_zero, List.set_cons_succ]
    exact rfl
  case hL3 => exact ⟨⟨_, rfl⟩, trivial⟩
  case hS3 => exact fun w' hb => H2.out.1.below hb
  case ho3 =>
    refine AllOk.cons ?_ ?_
    · exact fun γ => ⟨rfl, fun w' _ => rfl⟩
    refine AllOk.cons ?_ ?_
    · (refine fun γ => ⟨rfl, fun w' h' => ?_⟩; clear h'; go_simp)
    refine AllOk.cons ?_ ?_
    · (refine fun γ => ⟨rfl, fun w' h' => ?_⟩; clear h'; go_simp)
    refine AllOk.cons ?_ ?_
    · exact fun γ => ⟨rfl, fun w' h' => ex_load6 h' 2 rfl rfl rfl rfl⟩
    refine AllOk.cons ?_ ?_
    · exact fun γ => ⟨rfl, fun w' _ => rfl⟩
    refine AllOk.cons ?_ ?_
    · exact fun γ => ⟨rfl, fun w' h' => ex_load6 h' 0 rfl rfl rfl rfl⟩
    refine AllOk.cons ?_ ?_
    · exact fun γ => ⟨rfl, fun w' h' => ⟨9, #[PT g 0, N a], exec_call rfl call9 rfl (by simp only [List.map_toArray, List.map_cons, List.map_nil]; rfl), CR.out w' (h'.one 2 rfl)⟩⟩
    refine AllOk.cons ?_ ?_
    · exact fun γ => ⟨rfl, fun w' h' => ⟨11, #[.int .u64 1], exec_call rfl call11 rfl (by simp only [List.map_toArray, List.map_cons, List.map_nil]; rfl), CO.out w'⟩⟩
    refine AllOk.cons ?_ ?_
    · exact fun γ => ⟨rfl, fun w' _ => ex_build58 HZ0.out rfl rfl rfl rfl⟩
    refine AllOk.cons ?_ ?_
    · exact fun γ => ⟨rfl, fun w' => ex_made58 rfl⟩
    refine AllOk.cons ?_ ?_
    · exact fun γ => ⟨rfl, rfl, rfl, fun w' h' => ex_laid58 h' rfl rfl rfl⟩
    exact trivial
  intro γ w3 l hM hl
  have M3 : Mm w3 [(γ 9, wkc n r0 z0 c1 0 false), (γ1_0, cells6 a), (γ1_1, zero6), (g, modc n), (0, dtab)] := H2.out.1.grow hM (Nat.le_refl _) hl [9] rfl (by decide)
  have B3 : Below w.heap.size w w3 := H2.out.2.trans (hM.below.mono H2.out.2.size)
  have o3_9 : Hid (w.heap.size ≤ γ 9) := Nat.le_trans H2.out.2.size (hM.fin (Nat.le_refl _) hl (i := 9) rfl).2.1
  clear hM hl l H2
  generalize γ 9 = γ3_9 at M3 o3_9 ⊢
  clear γ
  have H3 : Hid (_ ∧ _) := ⟨M3, B3⟩
  clear M3 B3
  refine rest_at (l := []) rfl ?_
  refine rest_nil ?_
  refine then_normal ?_
  refine wp_seq ?_
  refine wp_block ?_
  refine loop_ghost (α := WS) (fun z a' w' => ∃ s0 : Nat → Value, a' = ⟨#[PT g 0, N a, undef, PT γ1_0 0, PT γ1_1 0, .int .i64 0, PT γ3_9 0, undef, PT g 0, .bool true, .bool false, undef, PT g 0, PT g 0, PT g 0, N n, PT g 0, N a, N r0, N c1, wkv n r0 z0 c1 0 false, s0 21, s0 22, s0 23, s0 24, s0 25, s0 26, undef, undef, undef, undef, undef, undef, undef, undef, undef, undef, undef, undef, undef, undef, undef, undef, undef, undef], []⟩ ∧ (Mm w' [(γ3_9, wkc z.o z.r z.u z.v ((z.h : Nat) : Int) z.t), (γ1_0, cells6 a), (γ1_1, zero6), (g, modc n), (0, dtab)] ∧ Below w.heap.size w w') ∧ WI n a z) (fun z => z.o + z.r) ⟨n, r0, z0, c1, 0, false⟩ ?st0 ?rd0
  case st0 => exact ⟨(slotfn [undef, undef, undef, undef, undef, undef, undef, undef, undef, undef, undef, undef, undef, undef, undef, undef, undef, undef, undef, undef, undef, undef, undef, undef, undef, undef, undef]), rfl, ⟨H3.out.1, H3.out.2⟩, by rw [HR.out, HZ0.out, HC1.out]; exact WI.start ok⟩
  intro z a' w4 hI
  obtain ⟨s0, rfl, hMB, hk0⟩ := hI
  have H4 : Hid (_ ∧ _) := hMB
  clear hMB H3
  by_cases hlt : z.r ≠ 0
  · have hrd : True := trivial
    clear hrd
    obtain ⟨o, r, u, v, h, t⟩ := z
    have I : WI n a ⟨o, r, u, v, h, t⟩ := hk0
    have hrz : r ≠ 0 := hlt
    have hrb : r < big := by have h1 : r ≤ n := I.rn; have := ok.big; omega
    obtain ⟨k, r1, hk, er, hr1, ctz⟩ := trailing_any hrb hrz
    obtain ⟨p1, p2, p3, p4, p5, p6, p7⟩ := I.facts hrz er
    obtain ⟨i1, i2⟩ := I.next hrz er hr1
    have hh : h < 768 := I.hlt ok
    have hbn := ok.big
    have e0 := fun w => run_eqN r 0 hrb big_pos w
    rw [decide_eq_false hrz] at e0
    obtain ⟨U, hU⟩ : ∃ U, U = u * 2 ^ k := ⟨_, rfl⟩
    rw [← hU] at p6 p7 i1 i2
    have hun : u < n := I.un
    have c53 := fun w => shift_neg' r k hrb hk w
    rw [show r / 2 ^ k = r1 by rw [er, Nat.mul_div_cancel _ (Nat.two_pow_pos k)]] at c53
    have d53 := fun w => shift_up u k hk w
    rw [← hU, Nat.mod_eq_of_lt (show U < big by omega)] at d53
    have ch : ∀ w, Mm w [(γ3_9, wkc o r u v ((h : Nat) : Int) t), (0, dtab)] → Calls Tryd.prog 29 #[PT γ3_9 0] w fun e w' => e = .returned (.tuple #[]) ∧ Mm w' [(γ3_9, wkc o r1 U v (((h : Nat) : Int) + ((k : Nat) : Int)) t)] ∧ Kp γ3_9 w w' := fun w hm => halve_gen γ3_9 o r u v k r1 U ((h : Nat) : Int) t hk (by omega) (by omega) ctz c53 d53 w hm
    have CH : Hid _ := ch
    have I1 : Hid _ := i1
    have I2 : Hid _ := i2
    have R1 : Hid (r1 ≤ r) := (by rw [er]; exact Nat.le_mul_of_pos_right _ (Nat.two_pow_pos k) : r1 ≤ r)
    clear ch c53 d53 ctz i1 i2 er hr1 hU I hk0
    by_cases hl : r1 < o
    · have hrd : True := trivial
      clear hrd
      have cs : ∀ w, Mm w [(γ3_9, wkc o r1 U v (((h : Nat) : Int) + ((k : Nat) : Int)) t)] → Calls Tryd.prog 30 #[PT γ3_9 0] w fun e w' => e = .returned (.tuple #[]) ∧ Mm w' [(γ3_9, wkc r1 (o - r1) v (U + v) (((h : Nat) : Int) + ((k : Nat) : Int)) (!t))] ∧ Kp γ3_9 w w' := fun w hm => by
        have c31 := fun w => compare_any r1 o (by omega) (by omega) w
        rw [cmp_lt hl] at c31
        have c40 := fun w => sub_any o r1 (by omega) (by omega) w
        rw [decide_eq_false (by omega), show o + big - r1 = o - r1 + big by omega, Nat.add_mod_right, Nat.mod_eq_of_lt (show o - r1 < big by omega)] at c40
        have c45 := fun w => add_any U v (by omega) (by omega) w
        rw [decide_eq_false (by omega), Nat.mod_eq_of_lt (show U + v < big by omega)] at c45
        exact subtract_1 γ3_9 o r1 U v _ _ (((h : Nat) : Int) + ((k : Nat) : Int)) t c31 c40 c45 w hm
      have CS : Hid _ := cs
      clear cs
      refine wp_seq ?_
      refine wp_seq ?_
      refine walk_seq 4 [.quiet (PT γ3_9 6), .quiet (N r), .quiet (N 0), .quiet (.bool true)] (fun w' => Mm w' [(γ3_9, wkc o r u v ((h : Nat) : Int) t), (γ1_0, cells6 a), (γ1_1, zero6), (g, modc n), (0, dtab)]) ?pre4 ?F4 ?hpre4 (fun γ => ?hF4) (by kernel_rfl) ?hL4 ?hS4 ?ho4 ?he4
      case hpre4 =>
        simp only [List.take_succ_cons, List.take_zero]
        exact rfl
      case hF4 =>
        simp only [fill, Kind.val, Act.put, List.setIfInBounds_toArray, List.set_cons_zero, List.set_cons_succ]
        exact rfl
      case hL4 => exact trivial
      case hS4 => exact fun w' hb => H4.out.1.below hb
      case ho4 =>
        refine AllOk.cons ?_ ?_
        · (refine fun γ => ⟨rfl, fun w' h' => ?_⟩; clear h'; go_simp)
        refine AllOk.cons ?_ ?_
        · exact fun γ => ⟨rfl, fun w' h' => ex_load6 h' 0 rfl rfl rfl rfl⟩
        refine AllOk.cons ?_ ?_
        · (refine fun γ => ⟨rfl, fun w' h' => ?_⟩; clear h'; exact ex_zero6 rfl)
        refine AllOk.cons ?_ ?_
        · exact fun γ => ⟨rfl, fun w' _ => exec_neq6 e0 rfl rfl rfl⟩
        exact trivial
      intro γ w5 l hM hl
      have M5 : Mm w5 [(γ3_9, wkc o r u v ((h : Nat) : Int) t), (γ1_0, cells6 a), (γ1_1, zero6), (g, modc n), (0, dtab)] := H4.out.1.grow hM (Nat.le_refl _) hl [] rfl (by decide)
      have B5 : Below w.heap.size w w5 := H4.out.2.trans (hM.below.mono H4.out.2.size)
      clear hM hl l H4
      clear γ
      have H5 : Hid (_ ∧ _) := ⟨M5, B5⟩
      clear M5 B5
      refine rest_at (l := []) rfl ?_
      refine rest_nil ?_
      refine then_normal ?_
      refine wp_cond_true rfl ?_
      refine wp_skip ?_
      refine then_normal ?_
      refine wp_block ?_
      refine wp_seq ?_
      refine walk_seq 0 [] (fun w' => Mm w' [(γ3_9, wkc o r u v ((h : Nat) : Int) t), (γ1_0, cells6 a), (γ1_1, zero6), (g, modc n), (0, dtab)]) ?pre5 ?F5 ?hpre5 (fun γ => ?hF5) (by kernel_rfl) ?hL5 ?hS5 ?ho5 ?he5
      case hpre5 =>
        simp only [List.take_zero]
        exact rfl
      case hF5 =>
        simp only [fill]
        exact rfl
      case hL5 => exact trivial
      case hS5 => exact fun w' hb => H5.out.1.below hb
      case ho5 =>
        exact trivial
      intro γ w6 l hM hl
      have M6 : Mm w6 [(γ3_9, wkc o r u v ((h : Nat) : Int) t), (γ1_0, cells6 a), (γ1_1, zero6), (g, modc n), (0, dtab)] := H5.out.1.grow hM (Nat.le_refl _) hl [] rfl (by decide)
      have B6 : Below w.heap.size w w6 := H5.out.2.trans (hM.below.mono H5.out.2.size)
      clear hM hl l H5
      clear γ
      have H6 : Hid (_ ∧ _) := ⟨M6, B6⟩
      clear M6 B6
      refine rest_at (l := [0]) rfl ?_
      refine rest_enter (d := 25) (R := fun vv w' => vv = .tuple #[] ∧ Mm w' [(γ3_9, wkc o r1 U v (((h : Nat) : Int) + ((k : Nat) : Int)) t)] ∧ Kp γ3_9 w6 w') rfl rfl rfl (exec_call (args := #[PT γ3_9 0]) rfl call29 rfl (by simp only [List.map_toArray, List.map_cons, List.map_nil]; rfl)) (Calls.mono (CH.out w6 (H6.out.1.two 0 4 rfl rfl (by decide))) (fun e w2 hh => ⟨_, hh.1, rfl, hh.2⟩)) ?_
      rintro _ w7 ⟨rfl, hn, hp⟩
      have H7 : Hid (Mm w7 [(γ3_9, wkc o r1 U v (((h : Nat) : Int) + ((k : Nat) : Int)) t), (γ1_0, cells6 a), (γ1_1, zero6), (g, modc n), (0, dtab)] ∧ Below w.heap.size w w7) := ⟨H6.out.1.change 0 rfl hp hn, Below.kp H6.out.2 hp o3_9.out H6.out.2.size⟩
      clear hn hp H6
      simp only [Act.put, List.setIfInBounds_toArray, List.set_cons_zero, List.set_cons_succ]
      refine rest_nil ?_
      refine then_normal ?_
      refine walk_seq 0 [] (fun w' => Mm w' [(γ3_9, wkc o r1 U v (((h : Nat) : Int) + ((k : Nat) : Int)) t), (γ1_0, cells6 a), (γ1_1, zero6), (g, modc n), (0, dtab)]) ?pre6 ?F6 ?hpre6 (fun γ => ?hF6) (by kernel_rfl) ?hL6 ?hS6 ?ho6 ?he6
      case hpre6 =>
        simp only [List.take_zero]
        exact rfl
      case hF6 =>
        simp only [fill]
        exact rfl
      case hL6 => exact trivial
      case hS6 => exact fun w' hb => H7.out.1.below hb
      case ho6 =>
        exact trivial
      intro γ w8 l hM hl
      have M8 : Mm w8 [(γ3_9, wkc o r1 U v (((h : Nat) : Int) + ((k : Nat) : Int)) t), (γ1_0, cells6 a), (γ1_1, zero6), (g, modc n), (0, dtab)] := H7.out.1.grow hM (Nat.le_refl _) hl [] rfl (by decide)
      have B8 : Below w.heap.size w w8 := H7.out.2.trans (hM.below.mono H7.out.2.size)
      clear hM hl l H7
      clear γ
      have H8 : Hid (_ ∧ _) := ⟨M8, B8⟩
      clear M8 B8
      refine rest_at (l := [0]) rfl ?_
      refine rest_enter (d := 26) (R := fun vv w' => vv = .tuple #[] ∧ Mm w' [(γ3_9, wkc r1 (o - r1) v (U + v) (((h : Nat) : Int) + ((k : Nat) : Int)) (!t))] ∧ Kp γ3_9 w8 w') rfl rfl rfl (exec_call (args := #[PT γ3_9 0]) rfl call30 rfl (by simp only [List.map_toArray, List.map_cons, List.map_nil]; rfl)) (Calls.mono (CS.out w8 (H8.out.1.one 0 rfl)) (fun e w2 hh => ⟨_, hh.1, rfl, hh.2⟩)) ?_
      rintro _ w9 ⟨rfl, hn, hp⟩
      have H9 : Hid (Mm w9 [(γ3_9, wkc r1 (o - r1) v (U + v) (((h : Nat) : Int) + ((k : Nat) : Int)) (!t)), (γ1_0, cells6 a), (γ1_1, zero6), (g, modc n), (0, dtab)] ∧ Below w.heap.size w w9) := ⟨H8.out.1.change 0 rfl hp hn, Below.kp H8.out.2 hp o3_9.out H8.out.2.size⟩
      clear hn hp H8
      simp only [Act.put, List.setIfInBounds_toArray, List.set_cons_zero, List.set_cons_succ]
      refine rest_nil ?_
      refine block_normal ?_
      refine then_normal ?_
      exact ⟨⟨r1, o - r1, v, U + v, h + k, !t⟩, ⟨(slotfn [undef, undef, undef, undef, undef, undef, undef, undef, undef, undef, undef, undef, undef, undef, undef, undef, undef, undef, undef, undef, undef, PT γ3_9 6, N r, N 0, .bool true, .tuple #[], .tuple #[]]), rfl, ⟨by rw [Int.natCast_add]; exact H9.out.1, H9.out.2⟩, I1.out hl⟩, (by show r1 + (o - r1) < o + r; have h4 : r1 ≤ r := R1.out; omega)⟩
    · have hrd : True := trivial
      clear hrd
      have cs : ∀ w, Mm w [(γ3_9, wkc o r1 U v (((h : Nat) : Int) + ((k : Nat) : Int)) t)] → Calls Tryd.prog 30 #[PT γ3_9 0] w fun e w' => e = .returned (.tuple #[]) ∧ Mm w' [(γ3_9, wkc o (r1 - o) U (v + U) (((h : Nat) : Int) + ((k : Nat) : Int)) t)] ∧ Kp γ3_9 w w' := fun w hm => by
        have c31 := fun w => compare_any r1 o (by omega) (by omega) w
        have c40 := fun w => sub_any r1 o (by omega) (by omega) w
        rw [decide_eq_false (by omega), show r1 + big - o = r1 - o + big by omega, Nat.add_mod_right, Nat.mod_eq_of_lt (show r1 - o < big by omega)] at c40
        have c45 := fun w => add_any v U (by omega) (by omega) w
        rw [decide_eq_false (by omega), Nat.mod_eq_of_lt (show v + U < big by omega)] at c45
        exact subtract_2 γ3_9 o r1 U v _ _ (((h : Nat) : Int) + ((k : Nat) : Int)) t _ (cmp_ge hl) c31 c40 c45 w hm
      have CS : Hid _ := cs
      clear cs
      refine wp_seq ?_
      refine wp_seq ?_
      refine walk_seq 4 [.quiet (PT γ3_9 6), .quiet (N r), .quiet (N 0), .quiet (.bool true)] (fun w' => Mm w' [(γ3_9, wkc o r u v ((h : Nat) : Int) t), (γ1_0, cells6 a), (γ1_1, zero6), (g, modc n), (0, dtab)]) ?pre7 ?F7 ?hpre7 (fun γ => ?hF7) (by kernel_rfl) ?hL7 ?hS7 ?ho7 ?he7
      case hpre7 =>
        simp only [List.take_succ_cons, List.take_zero]
        exact rfl
      case hF7 =>
        simp only [fill, Kind.val, Act.put, List.setIfInBounds_toArray, List.set_cons_zero, List.set_cons_succ]
        exact rfl
      case hL7 => exact trivial
      case hS7 => exact fun w' hb => H4.out.1.below hb
      case ho7 =>
        refine AllOk.cons ?_ ?_
        · (refine fun γ => ⟨rfl, fun w' h' => ?_⟩; clear h'; go_simp)
        refine AllOk.cons ?_ ?_
        · exact fun γ => ⟨rfl, fun w' h' => ex_load6 h' 0 rfl rfl rfl rfl⟩
        refine AllOk.cons ?_ ?_
        · (refine fun γ => ⟨rfl, fun w' h' => ?_⟩; clear h'; exact ex_zero6 rfl)
        refine AllOk.cons ?_ ?_
        · exact fun γ => ⟨rfl, fun w' _ => exec_neq6 e0 rfl rfl rfl⟩
        exact trivial
      intro γ w10 l hM hl
      have M10 : Mm w10 [(γ3_9, wkc o r u v ((h : Nat) : Int) t), (γ1_0, cells6 a), (γ1_1, zero6), (g, modc n), (0, dtab)] := H4.out.1.grow hM (Nat.le_refl _) hl [] rfl (by decide)
      have B10 : Below w.heap.size w w10 := H4.out.2.trans (hM.below.mono H4.out.2.size)
      clear hM hl l H4
      clear γ
      have H10 : Hid (_ ∧ _) := ⟨M10, B10⟩
      clear M10 B10
      refine rest_at (l := []) rfl ?_
      refine rest_nil ?_
      refine then_normal ?_
      refine wp_cond_true rfl ?_
      refine wp_skip ?_
      refine then_normal ?_
      refine wp_block ?_
      refine wp_seq ?_
      refine walk_seq 0 [] (fun w' => Mm w' [(γ3_9, wkc o r u v ((h : Nat) : Int) t), (γ1_0, cells6 a), (γ1_1, zero6), (g, modc n), (0, dtab)]) ?pre8 ?F8 ?hpre8 (fun γ => ?hF8) (by kernel_rfl) ?hL8 ?hS8 ?ho8 ?he8
      case hpre8 =>
        simp only [List.take_zero]
        exact rfl
      case hF8 =>
        simp only [fill]
        exact rfl
      case hL8 => exact trivial
      case hS8 => exact fun w' hb => H10.out.1.below hb
      case ho8 =>
        exact trivial
      intro γ w11 l hM hl
      have M11 : Mm w11 [(γ3_9, wkc o r u v ((h : Nat) : Int) t), (γ1_0, cells6 a), (γ1_1, zero6), (g, modc n), (0, dtab)] := H10.out.1.grow hM (Nat.le_refl _) hl [] rfl (by decide)
      have B11 : Below w.heap.size w w11 := H10.out.2.trans (hM.below.mono H10.out.2.size)
      clear hM hl l H10
      clear γ
      have H11 : Hid (_ ∧ _) := ⟨M11, B11⟩
      clear M11 B11
      refine rest_at (l := [0]) rfl ?_
      refine rest_enter (d := 25) (R := fun vv w' => vv = .tuple #[] ∧ Mm w' [(γ3_9, wkc o r1 U v (((h : Nat) : Int) + ((k : Nat) : Int)) t)] ∧ Kp γ3_9 w11 w') rfl rfl rfl (exec_call (args := #[PT γ3_9 0]) rfl call29 rfl (by simp only [List.map_toArray, List.map_cons, List.map_nil]; rfl)) (Calls.mono (CH.out w11 (H11.out.1.two 0 4 rfl rfl (by decide))) (fun e w2 hh => ⟨_, hh.1, rfl, hh.2⟩)) ?_
      rintro _ w12 ⟨rfl, hn, hp⟩
      have H12 : Hid (Mm w12 [(γ3_9, wkc o r1 U v (((h : Nat) : Int) + ((k : Nat) : Int)) t), (γ1_0, cells6 a), (γ1_1, zero6), (g, modc n), (0, dtab)] ∧ Below w.heap.size w w12) := ⟨H11.out.1.change 0 rfl hp hn, Below.kp H11.out.2 hp o3_9.out H11.out.2.size⟩
      clear hn hp H11
      simp only [Act.put, List.setIfInBounds_toArray, List.set_cons_zero, List.set_cons_succ]
      refine rest_nil ?_
      refine then_normal ?_
      refine walk_seq 0 [] (fun w' => Mm w' [(γ3_9, wkc o r1 U v (((h : Nat) : Int) + ((k : Nat) : Int)) t), (γ1_0, cells6 a), (γ1_1, zero6), (g, modc n), (0, dtab)]) ?pre9 ?F9 ?hpre9 (fun γ => ?hF9) (by kernel_rfl) ?hL9 ?hS9 ?ho9 ?he9
      case hpre9 =>
        simp only [List.take_zero]
        exact rfl
      case hF9 =>
        simp only [fill]
        exact rfl
      case hL9 => exact trivial
      case hS9 => exact fun w' hb => H12.out.1.below hb
      case ho9 =>
        exact trivial
      intro γ w13 l hM hl
      have M13 : Mm w13 [(γ3_9, wkc o r1 U v (((h : Nat) : Int) + ((k : Nat) : Int)) t), (γ1_0, cells6 a), (γ1_1, zero6), (g, modc n), (0, dtab)] := H12.out.1.grow hM (Nat.le_refl _) hl [] rfl (by decide)
      have B13 : Below w.heap.size w w13 := H12.out.2.trans (hM.below.mono H12.out.2.size)
      clear hM hl l H12
      clear γ
      have H13 : Hid (_ ∧ _) := ⟨M13, B13⟩
      clear M13 B13
      refine rest_at (l := [0]) rfl ?_
      refine rest_enter (d := 26) (R := fun vv w' => vv = .tuple #[] ∧ Mm w' [(γ3_9, wkc o (r1 - o) U (v + U) (((h : Nat) : Int) + ((k : Nat) : Int)) t)] ∧ Kp γ3_9 w13 w') rfl rfl rfl (exec_call (args := #[PT γ3_9 0]) rfl call30 rfl (by simp only [List.map_toArray, List.map_cons, List.map_nil]; rfl)) (Calls.mono (CS.out w13 (H13.out.1.one 0 rfl)) (fun e w2 hh => ⟨_, hh.1, rfl, hh.2⟩)) ?_
      rintro _ w14 ⟨rfl, hn, hp⟩
      have H14 : Hid (Mm w14 [(γ3_9, wkc o (r1 - o) U (v + U) (((h : Nat) : Int) + ((k : Nat) : Int)) t), (γ1_0, cells6 a), (γ1_1, zero6), (g, modc n), (0, dtab)] ∧ Below w.heap.size w w14) := ⟨H13.out.1.change 0 rfl hp hn, Below.kp H13.out.2 hp o3_9.out H13.out.2.size⟩
      clear hn hp H13
      simp only [Act.put, List.setIfInBounds_toArray, List.set_cons_zero, List.set_cons_succ]
      refine rest_nil ?_
      refine block_normal ?_
      refine then_normal ?_
      exact ⟨⟨o, r1 - o, U, v + U, h + k, t⟩, ⟨(slotfn [undef, undef, undef, undef, undef, undef, undef, undef, undef, undef, undef, undef, undef, undef, undef, undef, undef, undef, undef, undef, undef, PT γ3_9 6, N r, N 0, .bool true, .tuple #[], .tuple #[]]), rfl, ⟨by rw [Int.natCast_add]; exact H14.out.1, H14.out.2⟩, I2.out hl⟩, (by show o + (r1 - o) < o + r; have h4 : r1 ≤ r := R1.out; omega)⟩
  obtain ⟨o, r, u, v, h, t⟩ := z
  have I : WI n a ⟨o, r, u, v, h, t⟩ := hk0
  have hr0 : r = 0 := Classical.byContradiction hlt
  have hh : h < 768 := I.hlt ok
  have hun : u < n := I.un
  have hog : o = Nat.gcd n a := by have h1 : Nat.gcd o r = Nat.gcd n a := I.gcd; rwa [hr0, Nat.gcd_zero_right] at h1
  have e0 := fun w => run_eqN r 0 (by rw [hr0]; exact big_pos) big_pos w
  rw [decide_eq_true hr0] at e0
  have HR0 : Hid _ := hr0
  clear hr0
  have ho1 : o = 1 := by rw [hog]; exact hg
  have e1 := fun w => run_eqN o c1 (by rw [ho1]; exact small_big 1 (by decide)) (by rw [HC1.out]; exact small_big 1 (by decide)) w
  rw [decide_eq_true (by rw [ho1, HC1.out])] at e1
  have HO : Hid _ := ho1
  clear ho1
  have II : Hid _ := I
  clear I hk0 hog hlt
  cases t
  · have IT : Hid _ := II.out
    clear II
    have cn := fun w hm => negm_any (g := g) ok (show u < big by have := ok.big; omega) w hm
    have cd := fun w hm => dbp_any (g := g) ok (subm_lt_n ok.pos 0 u) hh w hm
    have CN : Hid _ := cn
    have CD : Hid _ := cd
    clear cn cd
    refine wp_seq ?_
    refine wp_seq ?_
    refine walk_seq 4 [.quiet (PT γ3_9 6), .quiet (N r), .quiet (N 0), .quiet (.bool false)] (fun w' => Mm w' [(γ3_9, wkc o r u v ((h : Nat) : Int) false), (γ1_0, cells6 a), (γ1_1, zero6), (g, modc n), (0, dtab)]) ?pre10f ?F10f ?hpre10f (fun γ => ?hF10f) (by kernel_rfl) ?hL10f ?hS10f ?ho10f ?he10f
    case hpre10f =>
      simp only [List.take_succ_cons, List.take_zero]
      exact rfl
    case hF10f =>
      simp only [fill, Kind.val, Act.put, List.setIfInBounds_toArray, List.set_cons_zero, List.set_cons_succ]
      exact rfl
    case hL10f => exact trivial
    case hS10f => exact fun w' hb => H4.out.1.below hb
    case ho10f =>
      refine AllOk.cons ?_ ?_
      · (refine fun γ => ⟨rfl, fun w' h' => ?_⟩; clear h'; go_simp)
      refine AllOk.cons ?_ ?_
      · exact fun γ => ⟨rfl, fun w' h' => ex_load6 h' 0 rfl rfl rfl rfl⟩
      refine AllOk.cons ?_ ?_
      · (refine fun γ => ⟨rfl, fun w' h' => ?_⟩; clear h'; exact ex_zero6 rfl)
      refine AllOk.cons ?_ ?_
      · exact fun γ => ⟨rfl, fun w' _ => exec_neq6 e0 rfl rfl rfl⟩
      exact trivial
    intro γ w15 l hM hl
    have M15 : Mm w15 [(γ3_9, wkc o r u v ((h : Nat) : Int) false), (γ1_0, cells6 a), (γ1_1, zero6), (g, modc n), (0, dtab)] := H4.out.1.grow hM (Nat.le_refl _) hl [] rfl (by decide)
    have B15 : Below w.heap.size w w15 := H4.out.2.trans (hM.below.mono H4.out.2.size)
    clear hM hl l H4
    clear γ
    have H15 : Hid (_ ∧ _) := ⟨M15, B15⟩
    clear M15 B15
    refine rest_at (l := []) rfl ?_
    refine rest_nil ?_
    refine then_normal ?_
    refine wp_cond_false rfl ?_
    refine wp_exit ?_
    repeat refine then_exit ?_
    refine block_exit ?_
    refine then_normal ?_
    refine wp_seq ?_
    refine wp_seq ?_
    refine walk_any (by kernel_rfl) 4 [.quiet (PT γ3_9 0), .quiet (N o), .call (N c1), .quiet (.bool false)] (fun w' => Mm w' [(γ3_9, wkc o r u v ((h : Nat) : Int) false), (γ1_0, cells6 a), (γ1_1, zero6), (g, modc n), (0, dtab)]) ?pre11f ?F11f ?hpre11f (fun γ => ?hF11f) (by kernel_rfl) ?hL11f ?hS11f ?ho11f ?he11f
    case hpre11f =>
      simp only [List.take_succ_cons, List.take_zero]
      exact rfl
    case hF11f =>
      simp only [fill, Kind.val, Act.put, List.setIfInBounds_toArray, List.set_cons_zero, List.set_cons_succ]
      exact rfl
    case hL11f => exact trivial
    case hS11f => exact fun w' hb => H15.out.1.below hb
    case ho11f =>
      refine AllOk.cons ?_ ?_
      · (refine fun γ => ⟨rfl, fun w' h' => ?_⟩; clear h'; go_simp)
      refine AllOk.cons ?_ ?_
      · exact fun γ => ⟨rfl, fun w' h' => ex_load6 h' 0 rfl rfl rfl rfl⟩
      refine AllOk.cons ?_ ?_
      · exact fun γ => ⟨rfl, fun w' h' => ⟨11, #[.int .u64 1], exec_call rfl call11 rfl (by simp only [List.map_toArray, List.map_cons, List.map_nil]; rfl), CO.out w'⟩⟩
      refine AllOk.cons ?_ ?_
      · exact fun γ => ⟨rfl, fun w' _ => exec_neq6 e1 rfl rfl rfl⟩
      exact trivial
    intro γ w16 l hM hl
    have M16 : Mm w16 [(γ3_9, wkc o r u v ((h : Nat) : Int) false), (γ1_0, cells6 a), (γ1_1, zero6), (g, modc n), (0, dtab)] := H15.out.1.grow hM (Nat.le_refl _) hl [] rfl (by decide)
    have B16 : Below w.heap.size w w16 := H15.out.2.trans (hM.below.mono H15.out.2.size)
    clear hM hl l H15
    clear γ
    have H16 : Hid (_ ∧ _) := ⟨M16, B16⟩
    clear M16 B16
    refine rest_at (l := []) rfl ?_
    refine rest_nil ?_
    refine then_normal ?_
    refine wp_cond_false rfl ?_
    refine wp_skip ?_
    refine then_normal ?_
    refine wp_seq ?_
    refine walk_seq 4 [.quiet (PT γ3_9 12), .quiet (N u), .made zero6 24, .laid 2 zero6 (cells6 u)] (fun w' => Mm w' [(γ3_9, wkc o r u v ((h : Nat) : Int) false), (γ1_0, cells6 a), (γ1_1, zero6), (g, modc n), (0, dtab)]) ?pre12f ?F12f ?hpre12f (fun γ => ?hF12f) (by kernel_rfl) ?hL12f ?hS12f ?ho12f ?he12f
    case hpre12f =>
      simp only [List.take_succ_cons, List.take_zero]
      exact rfl
    case hF12f =>
      simp only [fill, Kind.val, Act.put, List.setIfInBounds_toArray, List.set_cons_zero, List.set_cons_succ]
      exact rfl
    case hL12f => exact ⟨⟨_, rfl⟩, trivial⟩
    case hS12f => exact fun w' hb => H16.out.1.below hb
    case ho12f =>
      refine AllOk.cons ?_ ?_
      · (refine fun γ => ⟨rfl, fun w' h' => ?_⟩; clear h'; go_simp)
      refine AllOk.cons ?_ ?_
      · exact fun γ => ⟨rfl, fun w' h' => ex_load6 h' 0 rfl rfl rfl rfl⟩
      refine AllOk.cons ?_ ?_
      · exact fun γ => ⟨rfl, fun w' => exec_made6 rfl⟩
      refine AllOk.cons ?_ ?_
      · exact fun γ => ⟨rfl, rfl, rfl, fun w' h' => exec_laid6 h' rfl rfl rfl⟩
      exact trivial
    intro γ w17 l hM hl
    have M17 : Mm w17 [(γ 2, cells6 u), (γ3_9, wkc o r u v ((h : Nat) : Int) false), (γ1_0, cells6 a), (γ1_1, zero6), (g, modc n), (0, dtab)] := H16.out.1.grow hM (Nat.le_refl _) hl [2] rfl (by decide)
    have B17 : Below w.heap.size w w17 := H16.out.2.trans (hM.below.mono H16.out.2.size)
    have o12_2 : Hid (w.heap.size ≤ γ 2) := Nat.le_trans H16.out.2.size (hM.fin (Nat.le_refl _) hl (i := 2) rfl).2.1
    clear hM hl l H16
    generalize γ 2 = γ12_2 at M17 o12_2 ⊢
    clear γ
    have H17 : Hid (_ ∧ _) := ⟨M17, B17⟩
    clear M17 B17
    refine rest_at (l := []) rfl ?_
    refine rest_nil ?_
    refine then_normal ?_
    refine wp_seq ?_
    refine wp_seq ?_
    refine walk_seq 3 [.quiet (PT γ3_9 25), .quiet (.bool false), .quiet (.bool true)] (fun w' => Mm w' [(γ12_2, cells6 u), (γ3_9, wkc o r u v ((h : Nat) : Int) false), (γ1_0, cells6 a), (γ1_1, zero6), (g, modc n), (0, dtab)]) ?pre13f ?F13f ?hpre13f (fun γ => ?hF13f) (by kernel_rfl) ?hL13f ?hS13f ?ho13f ?he13f
    case hpre13f =>
      simp only [List.take_succ_cons, List.take_zero]
      exact rfl
    case hF13f =>
      simp only [fill, Kind.val, Act.put, List.setIfInBounds_toArray, List.set_cons_zero, List.set_cons_succ]
      exact rfl
    case hL13f => exact trivial
    case hS13f => exact fun w' hb => H17.out.1.below hb
    case ho13f =>
      refine AllOk.cons ?_ ?_
      · (refine fun γ => ⟨rfl, fun w' h' => ?_⟩; clear h'; go_simp)
      refine AllOk.cons ?_ ?_
      · exact fun γ => ⟨rfl, fun w' h' => ex_loadB h' 1 rfl rfl rfl rfl⟩
      refine AllOk.cons ?_ ?_
      · (refine fun γ => ⟨rfl, fun w' h' => ?_⟩; clear h'; go_simp)
      exact trivial
    intro γ w18 l hM hl
    have M18 : Mm w18 [(γ12_2, cells6 u), (γ3_9, wkc o r u v ((h : Nat) : Int) false), (γ1_0, cells6 a), (γ1_1, zero6), (g, modc n), (0, dtab)] := H17.out.1.grow hM (Nat.le_refl _) hl [] rfl (by decide)
    have B18 : Below w.heap.size w w18 := H17.out.2.trans (hM.below.mono H17.out.2.size)
    clear hM hl l H17
    clear γ
    have H18 : Hid (_ ∧ _) := ⟨M18, B18⟩
    clear M18 B18
    refine rest_at (l := []) rfl ?_
    refine rest_nil ?_
    refine then_normal ?_
    refine wp_cond_true rfl ?_
    refine walk_seq 3 [.quiet (PT g 0), .quiet (N u), .call (N (subm n 0 u))] (fun w' => Mm w' [(γ12_2, cells6 u), (γ3_9, wkc o r u v ((h : Nat) : Int) false), (γ1_0, cells6 a), (γ1_1, zero6), (g, modc n), (0, dtab)]) ?pre14f ?F14f ?hpre14f (fun γ => ?hF14f) (by kernel_rfl) ?hL14f ?hS14f ?ho14f ?he14f
    case hpre14f =>
      simp only [List.take_succ_cons, List.take_zero]
      exact rfl
    case hF14f =>
      simp only [fill, Kind.val, Act.put, List.setIfInBounds_toArray, List.set_cons_zero, List.set_cons_succ]
      exact rfl
    case hL14f => exact trivial
    case hS14f => exact fun w' hb => H18.out.1.below hb
    case ho14f =>
      refine AllOk.cons ?_ ?_
      · exact fun γ => ⟨rfl, fun w' _ => rfl⟩
      refine AllOk.cons ?_ ?_
      · exact fun γ => ⟨rfl, fun w' h' => ex_load6 h' 0 rfl rfl rfl rfl⟩
      refine AllOk.cons ?_ ?_
      · exact fun γ => ⟨rfl, fun w' h' => ⟨16, #[PT g 0, N u], exec_call rfl call16 rfl (by simp only [List.map_toArray, List.map_cons, List.map_nil]; rfl), CN.out w' (h'.one 4 rfl)⟩⟩
      exact trivial
    intro γ w19 l hM hl
    have M19 : Mm w19 [(γ12_2, cells6 u), (γ3_9, wkc o r u v ((h : Nat) : Int) false), (γ1_0, cells6 a), (γ1_1, zero6), (g, modc n), (0, dtab)] := H18.out.1.grow hM (Nat.le_refl _) hl [] rfl (by decide)
    have B19 : Below w.heap.size w w19 := H18.out.2.trans (hM.below.mono H18.out.2.size)
    clear hM hl l H18
    clear γ
    have H19 : Hid (_ ∧ _) := ⟨M19, B19⟩
    clear M19 B19
    refine rest_at (l := [3]) rfl ?_
    refine rest_store rfl rfl rfl (ex_store6 H19.out.1 0 rfl rfl rfl rfl (Nat.le_of_ble_eq_true rfl)) ?_
    have H20 : Hid (Mm (w19.setCells γ12_2 0 (cells6 (subm n 0 u))) [(γ12_2, cells6 (subm n 0 u)), (γ3_9, wkc o r u v ((h : Nat) : Int) false), (γ1_0, cells6 a), (γ1_1, zero6), (g, modc n), (0, dtab)] ∧ Below w.heap.size w (w19.setCells γ12_2 0 (cells6 (subm n 0 u)))) := ⟨H19.out.1.put 0 (off := 0) (vs := cells6 (subm n 0 u)) rfl (Nat.le_of_ble_eq_true rfl), below_setCells _ o12_2.out _ _ _ H19.out.2⟩
    clear H19
    generalize hgw : World.setCells _ _ _ _ = w20 at H20 ⊢
    clear hgw
    refine rest_nil ?_
    refine then_normal ?_
    refine wp_seq ?_
    refine walk_seq 5 [.quiet (PT g 0), .quiet (N (subm n 0 u)), .quiet (PT γ3_9 24), .quiet (.int .i64 ((h : Nat) : Int)), .call (N (dv n (subm n 0 u) h))] (fun w' => Mm w' [(γ12_2, cells6 (subm n 0 u)), (γ3_9, wkc o r u v ((h : Nat) : Int) false), (γ1_0, cells6 a), (γ1_1, zero6), (g, modc n), (0, dtab)]) ?pre15f ?F15f ?hpre15f (fun γ => ?hF15f) (by kernel_rfl) ?hL15f ?hS15f ?ho15f ?he15f
    case hpre15f =>
      simp only [List.take_succ_cons, List.take_zero]
      exact rfl
    case hF15f =>
      simp only [fill, Kind.val, Act.put, List.setIfInBounds_toArray, List.set_cons_zero, List.set_cons_succ]
      exact rfl
    case hL15f => exact trivial
    case hS15f => exact fun w' hb => H20.out.1.below hb
    case ho15f =>
      refine AllOk.cons ?_ ?_
      · exact fun γ => ⟨rfl, fun w' _ => rfl⟩
      refine AllOk.cons ?_ ?_
      · exact fun γ => ⟨rfl, fun w' h' => ex_load6 h' 0 rfl rfl rfl rfl⟩
      refine AllOk.cons ?_ ?_
      · (refine fun γ => ⟨rfl, fun w' h' => ?_⟩; clear h'; go_simp)
      refine AllOk.cons ?_ ?_
      · exact fun γ => ⟨rfl, fun w' h' => ex_loadI h' 1 rfl rfl rfl rfl⟩
      refine AllOk.cons ?_ ?_
      · exact fun γ => ⟨rfl, fun w' h' => ⟨31, #[PT g 0, N (subm n 0 u), .int .i64 ((h : Nat) : Int)], exec_call rfl call31 rfl (by simp only [List.map_toArray, List.map_cons, List.map_nil]; rfl), CD.out w' (h'.one 4 rfl)⟩⟩
      exact trivial
    intro γ w21 l hM hl
    have M21 : Mm w21 [(γ12_2, cells6 (subm n 0 u)), (γ3_9, wkc o r u v ((h : Nat) : Int) false), (γ1_0, cells6 a), (γ1_1, zero6), (g, modc n), (0, dtab)] := H20.out.1.grow hM (Nat.le_refl _) hl [] rfl (by decide)
    have B21 : Below w.heap.size w w21 := H20.out.2.trans (hM.below.mono H20.out.2.size)
    clear hM hl l H20
    clear γ
    have H21 : Hid (_ ∧ _) := ⟨M21, B21⟩
    clear M21 B21
    refine rest_at (l := [5, 6]) rfl ?_
    refine rest_store rfl rfl rfl (ex_store6 H21.out.1 3 rfl rfl rfl rfl (Nat.le_of_ble_eq_true rfl)) ?_
    have H22 : Hid (Mm (w21.setCells γ1_1 0 (cells6 (dv n (subm n 0 u) h))) [(γ12_2, cells6 (subm n 0 u)), (γ3_9, wkc o r u v ((h : Nat) : Int) false), (γ1_0, cells6 a), (γ1_1, cells6 (dv n (subm n 0 u) h)), (g, modc n), (0, dtab)] ∧ Below w.heap.size w (w21.setCells γ1_1 0 (cells6 (dv n (subm n 0 u) h)))) := ⟨H21.out.1.put 3 (off := 0) (vs := cells6 (dv n (subm n 0 u) h)) rfl (Nat.le_of_ble_eq_true rfl), below_setCells _ o1_1.out _ _ _ H21.out.2⟩
    clear H21
    generalize hgw : World.setCells _ _ _ _ = w22 at H22 ⊢
    clear hgw
    refine rest_set (d := 5) rfl rfl rfl rfl ?_
    simp only [Act.put, List.setIfInBounds_toArray, List.set_cons_zero, List.set_cons_succ]
    refine rest_nil ?_
    refine then_normal ?_
    refine wp_ret ?_
    repeat (first | refine then_ret ?_ | refine block_ret ?_)
    have c0 := H22.out.1.get 3 rfl 0 rfl
    have c1 := H22.out.1.get 3 rfl 1 rfl
    have c2 := H22.out.1.get 3 rfl 2 rfl
    have c3 := H22.out.1.get 3 rfl 3 rfl
    have c4 := H22.out.1.get 3 rfl 4 rfl
    have c5 := H22.out.1.get 3 rfl 5 rfl
    refine bodyPost_ret (v := .tuple #[N (dv n (subm n 0 u) h), .int .i64 0]) (by simp [results, Tryd.results12, go_sem, *]) rfl ?_
    exact ⟨_, rfl, Nat.mod_lt _ ok.pos, end_false ok (by have h3 := IT.out; rw [HR0.out] at h3; exact h3) HO.out, H22.out.2⟩
  · have IT : Hid _ := II.out
    clear II
    have cd := fun w hm => dbp_any (g := g) ok hun hh w hm
    have CD : Hid _ := cd
    clear cd
    refine wp_seq ?_
    refine wp_seq ?_
    refine walk_seq 4 [.quiet (PT γ3_9 6), .quiet (N r), .quiet (N 0), .quiet (.bool false)] (fun w' => Mm w' [(γ3_9, wkc o r u v ((h : Nat) : Int) true), (γ1_0, cells6 a), (γ1_1, zero6), (g, modc n), (0, dtab)]) ?pre10t ?F10t ?hpre10t (fun γ => ?hF10t) (by kernel_rfl) ?hL10t ?hS10t ?ho10t ?he10t
    case hpre10t =>
      simp only [List.take_succ_cons, List.take_zero]
      exact rfl
    case hF10t =>
      simp only [fill, Kind.val, Act.put, List.setIfInBounds_toArray, List.set_cons_zero, List.set_cons_succ]
      exact rfl
    case hL10t => exact trivial
    case hS10t => exact fun w' hb => H4.out.1.below hb
    case ho10t =>
      refine AllOk.cons ?_ ?_
      · (refine fun γ => ⟨rfl, fun w' h' => ?_⟩; clear h'; go_simp)
      refine AllOk.cons ?_ ?_
      · exact fun γ => ⟨rfl, fun w' h' => ex_load6 h' 0 rfl rfl rfl rfl⟩
      refine AllOk.cons ?_ ?_
      · (refine fun γ => ⟨rfl, fun w' h' => ?_⟩; clear h'; exact ex_zero6 rfl)
      refine AllOk.cons ?_ ?_
      · exact fun γ => ⟨rfl, fun w' _ => exec_neq6 e0 rfl rfl rfl⟩
      exact trivial
    intro γ w15 l hM hl
    have M15 : Mm w15 [(γ3_9, wkc o r u v ((h : Nat) : Int) true), (γ1_0, cells6 a), (γ1_1, zero6), (g, modc n), (0, dtab)] := H4.out.1.grow hM (Nat.le_refl _) hl [] rfl (by decide)
    have B15 : Below w.heap.size w w15 := H4.out.2.trans (hM.below.mono H4.out.2.size)
    clear hM hl l H4
    clear γ
    have H15 : Hid (_ ∧ _) := ⟨M15, B15⟩
    clear M15 B15
    refine rest_at (l := []) rfl ?_
    refine rest_nil ?_
    refine then_normal ?_
    refine wp_cond_false rfl ?_
    refine wp_exit ?_
    repeat refine then_exit ?_
    refine block_exit ?_
    refine then_normal ?_
    refine wp_seq ?_
    refine wp_seq ?_
    refine walk_any (by kernel_rfl) 4 [.quiet (PT γ3_9 0), .quiet (N o), .call (N c1), .quiet (.bool false)] (fun w' => Mm w' [(γ3_9, wkc o r u v ((h : Nat) : Int) true), (γ1_0, cells6 a), (γ1_1, zero6), (g, modc n), (0, dtab)]) ?pre11t ?F11t ?hpre11t (fun γ => ?hF11t) (by kernel_rfl) ?hL11t ?hS11t ?ho11t ?he11t
    case hpre11t =>
      simp only [List.take_succ_cons, List.take_zero]
      exact rfl
    case hF11t =>
      simp only [fill, Kind.val, Act.put, List.setIfInBounds_toArray, List.set_cons_zero, List.set_cons_succ]
      exact rfl
    case hL11t => exact trivial
    case hS11t => exact fun w' hb => H15.out.1.below hb
    case ho11t =>
      refine AllOk.cons ?_ ?_
      · (refine fun γ => ⟨rfl, fun w' h' => ?_⟩; clear h'; go_simp)
      refine AllOk.cons ?_ ?_
      · exact fun γ => ⟨rfl, fun w' h' => ex_load6 h' 0 rfl rfl rfl rfl⟩
      refine AllOk.cons ?_ ?_
      · exact fun γ => ⟨rfl, fun w' h' => ⟨11, #[.int .u64 1], exec_call rfl call11 rfl (by simp only [List.map_toArray, List.map_cons, List.map_nil]; rfl), CO.out w'⟩⟩
      refine AllOk.cons ?_ ?_
      · exact fun γ => ⟨rfl, fun w' _ => exec_neq6 e1 rfl rfl rfl⟩
      exact trivial
    intro γ w16 l hM hl
    have M16 : Mm w16 [(γ3_9, wkc o r u v ((h : Nat) : Int) true), (γ1_0, cells6 a), (γ1_1, zero6), (g, modc n), (0, dtab)] := H15.out.1.grow hM (Nat.le_refl _) hl [] rfl (by decide)
    have B16 : Below w.heap.size w w16 := H15.out.2.trans (hM.below.mono H15.out.2.size)
    clear hM hl l H15
    clear γ
    have H16 : Hid (_ ∧ _) := ⟨M16, B16⟩
    clear M16 B16
    refine rest_at (l := []) rfl ?_
    refine rest_nil ?_
    refine then_normal ?_
    refine wp_cond_false rfl ?_
    refine wp_skip ?_
    refine then_normal ?_
    refine wp_seq ?_
    refine walk_seq 4 [.quiet (PT γ3_9 12), .quiet (N u), .made zero6 24, .laid 2 zero6 (cells6 u)] (fun w' => Mm w' [(γ3_9, wkc o r u v ((h : Nat) : Int) true), (γ1_0, cells6 a), (γ1_1, zero6), (g, modc n), (0, dtab)]) ?pre12t ?F12t ?hpre12t (fun γ => ?hF12t) (by kernel_rfl) ?hL12t ?hS12t ?ho12t ?he12t
    case hpre12t =>
      simp only [List.take_succ_cons, List.take_zero]
      exact rfl
    case hF12t =>
      simp only [fill, Kind.val, Act.put, List.setIfInBounds_toArray, List.set_cons_zero, List.set_cons_succ]
      exact rfl
    case hL12t => exact ⟨⟨_, rfl⟩, trivial⟩
    case hS12t => exact fun w' hb => H16.out.1.below hb
    case ho12t =>
      refine AllOk.cons ?_ ?_
      · (refine fun γ => ⟨rfl, fun w' h' => ?_⟩; clear h'; go_simp)
      refine AllOk.cons ?_ ?_
      · exact fun γ => ⟨rfl, fun w' h' => ex_load6 h' 0 rfl rfl rfl rfl⟩
      refine AllOk.cons ?_ ?_
      · exact fun γ => ⟨rfl, fun w' => exec_made6 rfl⟩
      refine AllOk.cons ?_ ?_
      · exact fun γ => ⟨rfl, rfl, rfl, fun w' h' => exec_laid6 h' rfl rfl rfl⟩
      exact trivial
    intro γ w17 l hM hl
    have M17 : Mm w17 [(γ 2, cells6 u), (γ3_9, wkc o r u v ((h : Nat) : Int) true), (γ1_0, cells6 a), (γ1_1, zero6), (g, modc n), (0, dtab)] := H16.out.1.grow hM (Nat.le_refl _) hl [2] rfl (by decide)
    have B17 : Below w.heap.size w w17 := H16.out.2.trans (hM.below.mono H16.out.2.size)
    have o12_2 : Hid (w.heap.size ≤ γ 2) := Nat.le_trans H16.out.2.size (hM.fin (Nat.le_refl _) hl (i := 2) rfl).2.1
    clear hM hl l H16
    generalize γ 2 = γ12_2 at M17 o12_2 ⊢
    clear γ
    have H17 : Hid (_ ∧ _) := ⟨M17, B17⟩
    clear M17 B17
    refine rest_at (l := []) rfl ?_
    refine rest_nil ?_
    refine then_normal ?_
    refine wp_seq ?_
    refine wp_seq ?_
    refine walk_seq 3 [.quiet (PT γ3_9 25), .quiet (.bool true), .quiet (.bool false)] (fun w' => Mm w' [(γ12_2, cells6 u), (γ3_9, wkc o r u v ((h : Nat) : Int) true), (γ1_0, cells6 a), (γ1_1, zero6), (g, modc n), (0, dtab)]) ?pre13t ?F13t ?hpre13t (fun γ => ?hF13t) (by kernel_rfl) ?hL13t ?hS13t ?ho13t ?he13t
    case hpre13t =>
      simp only [List.take_succ_cons, List.take_zero]
      exact rfl
    case hF13t =>
      simp only [fill, Kind.val, Act.put, List.setIfInBounds_toArray, List.set_cons_zero, List.set_cons_succ]
      exact rfl
    case hL13t => exact trivial
    case hS13t => exact fun w' hb => H17.out.1.below hb
    case ho13t =>
      refine AllOk.cons ?_ ?_
      · (refine fun γ => ⟨rfl, fun w' h' => ?_⟩; clear h'; go_simp)
      refine AllOk.cons ?_ ?_
      · exact fun γ => ⟨rfl, fun w' h' => ex_loadB h' 1 rfl rfl rfl rfl⟩
      refine AllOk.cons ?_ ?_
      · (refine fun γ => ⟨rfl, fun w' h' => ?_⟩; clear h'; go_simp)
      exact trivial
    intro γ w18 l hM hl
    have M18 : Mm w18 [(γ12_2, cells6 u), (γ3_9, wkc o r u v ((h : Nat) : Int) true), (γ1_0, cells6 a), (γ1_1, zero6), (g, modc n), (0, dtab)] := H17.out.1.grow hM (Nat.le_refl _) hl [] rfl (by decide)
    have B18 : Below w.heap.size w w18 := H17.out.2.trans (hM.below.mono H17.out.2.size)
    clear hM hl l H17
    clear γ
    have H18 : Hid (_ ∧ _) := ⟨M18, B18⟩
    clear M18 B18
    refine rest_at (l := []) rfl ?_
    refine rest_nil ?_
    refine then_normal ?_
    refine wp_cond_false rfl ?_
    refine wp_skip ?_
    refine then_normal ?_
    refine wp_seq ?_
    refine walk_seq 5 [.quiet (PT g 0), .quiet (N u), .quiet (PT γ3_9 24), .quiet (.int .i64 ((h : Nat) : Int)), .call (N (dv n u h))] (fun w' => Mm w' [(γ12_2, cells6 u), (γ3_9, wkc o r u v ((h : Nat) : Int) true), (γ1_0, cells6 a), (γ1_1, zero6), (g, modc n), (0, dtab)]) ?pre14t ?F14t ?hpre14t (fun γ => ?hF14t) (by kernel_rfl) ?hL14t ?hS14t ?ho14t ?he14t
    case hpre14t =>
      simp only [List.take_succ_cons, List.take_zero]
      exact rfl
    case hF14t =>
      simp only [fill, Kind.val, Act.put, List.setIfInBounds_toArray, List.set_cons_zero, List.set_cons_succ]
      exact rfl
    case hL14t => exact trivial
    case hS14t => exact fun w' hb => H18.out.1.below hb
    case ho14t =>
      refine AllOk.cons ?_ ?_
      · exact fun γ => ⟨rfl, fun w' _ => rfl⟩
      refine AllOk.cons ?_ ?_
      · exact fun γ => ⟨rfl, fun w' h' => ex_load6 h' 0 rfl rfl rfl rfl⟩
      refine AllOk.cons ?_ ?_
      · (refine fun γ => ⟨rfl, fun w' h' => ?_⟩; clear h'; go_simp)
      refine AllOk.cons ?_ ?_
      · exact fun γ => ⟨rfl, fun w' h' => ex_loadI h' 1 rfl rfl rfl rfl⟩
      refine AllOk.cons ?_ ?_
      · exact fun γ => ⟨rfl, fun w' h' => ⟨31, #[PT g 0, N u, .int .i64 ((h : Nat) : Int)], exec_call rfl call31 rfl (by simp only [List.map_toArray, List.map_cons, List.map_nil]; rfl), CD.out w' (h'.one 4 rfl)⟩⟩
      exact trivial
    intro γ w19 l hM hl
    have M19 : Mm w19 [(γ12_2, cells6 u), (γ3_9, wkc o r u v ((h : Nat) : Int) true), (γ1_0, cells6 a), (γ1_1, zero6), (g, modc n), (0, dtab)] := H18.out.1.grow hM (Nat.le_refl _) hl [] rfl (by decide)
    have B19 : Below w.heap.size w w19 := H18.out.2.trans (hM.below.mono H18.out.2.size)
    clear hM hl l H18
    clear γ
    have H19 : Hid (_ ∧ _) := ⟨M19, B19⟩
    clear M19 B19
    refine rest_at (l := [5, 6]) rfl ?_
    refine rest_store rfl rfl rfl (ex_store6 H19.out.1 3 rfl rfl rfl rfl (Nat.le_of_ble_eq_true rfl)) ?_
    have H20 : Hid (Mm (w19.setCells γ1_1 0 (cells6 (dv n u h))) [(γ12_2, cells6 u), (γ3_9, wkc o r u v ((h : Nat) : Int) true), (γ1_0, cells6 a), (γ1_1, cells6 (dv n u h)), (g, modc n), (0, dtab)] ∧ Below w.heap.size w (w19.setCells γ1_1 0 (cells6 (dv n u h)))) := ⟨H19.out.1.put 3 (off := 0) (vs := cells6 (dv n u h)) rfl (Nat.le_of_ble_eq_true rfl), below_setCells _ o1_1.out _ _ _ H19.out.2⟩
    clear H19
    generalize hgw : World.setCells _ _ _ _ = w20 at H20 ⊢
    clear hgw
    refine rest_set (d := 5) rfl rfl rfl rfl ?_
    simp only [Act.put, List.setIfInBounds_toArray, List.set_cons_zero, List.set_cons_succ]
    refine rest_nil ?_
    refine then_normal ?_
    refine wp_ret ?_
    repeat (first | refine then_ret ?_ | refine block_ret ?_)
    have c0 := H20.out.1.get 3 rfl 0 rfl
    have c1 := H20.out.1.get 3 rfl 1 rfl
    have c2 := H20.out.1.get 3 rfl 2 rfl
    have c3 := H20.out.1.get 3 rfl 3 rfl
    have c4 := H20.out.1.get 3 rfl 4 rfl
    have c5 := H20.out.1.get 3 rfl 5 rfl
    refine bodyPost_ret (v := .tuple #[N (dv n u h), .int .i64 0]) (by simp [results, Tryd.results12, go_sem, *]) rfl ?_
    exact ⟨_, rfl, Nat.mod_lt _ ok.pos, end_true ok (by have h3 := IT.out; rw [HR0.out] at h3; exact h3) HO.out, H20.out.2⟩
set_option maxHeartbeats 4000000 in
set_option maxRecDepth 100000 in
theorem inv_bad {g n a : Nat} (ok : Ok n) (ha : a < big) (hg : Nat.gcd n a ≠ 1) (w : World) (hm : Mm w [(g, modc n), (0, dtab)]) :
    Calls Tryd.prog 12 #[PT g 0, N a] w fun e w' => e = .returned (.tuple #[N 0, .int .i64 6]) ∧ Below w.heap.size w w' := by
  have H0 : Hid (_ ∧ _) := ⟨hm, Below.refl w.heap.size w⟩
  clear hm
  obtain ⟨r0, hr0⟩ : ∃ r0, r0 = a % n := ⟨_, rfl⟩
  have cm := fun w hm => madeC (g := g) ok w hm
  have cr := fun w hm => reduce_any (g := g) ok ha w hm
  rw [← hr0] at cr
  have CM : Hid _ := cm
  have CR : Hid _ := cr
  obtain ⟨z0, hz0⟩ : ∃ z0, z0 = 0 := ⟨_, rfl⟩
  obtain ⟨c1, hc1⟩ : ∃ c1, c1 = 1 := ⟨_, rfl⟩
  have HC1 : Hid _ := hc1
  have CO : Hid (∀ w, Calls Tryd.prog 11 #[.int .u64 1] w fun e w' => e = .returned (N c1) ∧ Below w.heap.size w w') := fun w => by
    have h := of_any 1 (by decide) w
    rw [HC1.out]
    exact h
  have HZ0 : Hid _ := hz0
  have HR : Hid _ := hr0
  clear cm cr hr0 ha hz0 hc1
  go_enter Tryd.func12, Tryd.ntmps12
  refine wp_seq ?_
  refine walk_seq 3 [.made (cells6 a) 24, .made zero6 24, .quiet (.int .i64 0)] (fun w' => Mm w' [(g, modc n), (0, dtab)]) ?pre1 ?F1 ?hpre1 (fun γ => ?hF1) (by kernel_rfl) ?hL1 ?hS1 ?ho1 ?he1
  case hpre1 =>
    simp only [List.take_succ_cons, List.take_zero]
    exact rfl
  case hF1 =>
    simp only [fill, Kind.val, Act.put, List.setIfInBounds_toArray, List.set_cons_zero, List.set_cons_succ]
    exact rfl
  case hL1 => exact trivial
  case hS1 => exact fun w' hb => H0.out.1.below hb
  case ho1 =>
    refine AllOk.cons ?_ ?_
    · exact fun γ => ⟨rfl, fun w' => ex_box6 rfl rfl⟩
    refine AllOk.cons ?_ ?_
    · exact fun γ => ⟨rfl, fun w' => exec_made6 rfl⟩
    refine AllOk.cons ?_ ?_
    · exact fun γ => ⟨rfl, fun w' _ => rfl⟩
    exact trivial
  intro γ w1 l hM hl
  have M1 : Mm w1 [(γ 0, cells6 a), (γ 1, zero6), (g, modc n), (0, dtab)] := H0.out.1.grow hM (Nat.le_refl _) hl [0, 1] rfl (by decide)
  have B1 : Below w.heap.size w w1 := H0.out.2.trans (hM.below.mono H0.out.2.size)
  have o1_0 : Hid (w.heap.size ≤ γ 0) := Nat.le_trans H0.out.2.size (hM.fin (Nat.le_refl _) hl (i := 0) rfl).2.1
  have o1_1 : Hid (w.heap.size ≤ γ 1) := Nat.le_trans H0.out.2.size (hM.fin (Nat.le_refl _) hl (i := 1) rfl).2.1
  clear hM hl l
  generalize γ 0 = γ1_0 at M1 o1_0 ⊢
  generalize γ 1 = γ1_1 at M1 o1_1 ⊢
  clear γ
  have H1 : Hid (_ ∧ _) := ⟨M1, B1⟩
  clear M1 B1
  refine rest_at (l := []) rfl ?_
  refine rest_nil ?_
  refine then_normal ?_
  refine wp_seq ?_
  refine wp_seq ?_
  refine walk_seq 3 [.quiet (PT g 0), .call (.bool true), .quiet (.bool false)] (fun w' => Mm w' [(γ1_0, cells6 a), (γ1_1, zero6), (g, modc n), (0, dtab)]) ?pre2 ?F2 ?hpre2 (fun γ => ?hF2) (by kernel_rfl) ?hL2 ?hS2 ?ho2 ?he2
  case hpre2 =>
    simp only [List.take_succ_cons, List.take_zero]
    exact rfl
  case hF2 =>
    simp only [fill, Kind.val, Act.put, List.setIfInBounds_toArray, List.set_cons_zero, List.set_cons_succ]
    exact rfl
  case hL2 => exact trivial
  case hS2 => exact fun w' hb => H1.out.1.below hb
  case ho2 =>
    refine AllOk.cons ?_ ?_
    · exact fun γ => ⟨rfl, fun w' _ => rfl⟩
    refine AllOk.cons ?_ ?_
    · exact fun γ => ⟨rfl, fun w' h' => ⟨25, #[PT g 0], exec_call rfl call25 rfl (by simp only [List.map_toArray, List.map_cons, List.map_nil]; rfl), CM.out w' (h'.one 2 rfl)⟩⟩
    refine AllOk.cons ?_ ?_
    · (refine fun γ => ⟨rfl, fun w' h' => ?_⟩; clear h'; go_simp)
    exact trivial
  intro γ w2 l hM hl
  have M2 : Mm w2 [(γ1_0, cells6 a), (γ1_1, zero6), (g, modc n), (0, dtab)] := H1.out.1.grow hM (Nat.le_refl _) hl [] rfl (by decide)
  have B2 : Below w.heap.size w w2 := H1.out.2.trans (hM.below.mono H1.out.2.size)
  clear hM hl l H1
  clear γ
  have H2 : Hid (_ ∧ _) := ⟨M2, B2⟩
  clear M2 B2
  refine rest_at (l := []) rfl ?_
  refine rest_nil ?_
  refine then_normal ?_
  refine wp_cond_false rfl ?_
  refine wp_skip ?_
  refine then_normal ?_
  refine wp_seq ?_
  refine walk_any (by kernel_rfl) 11 [.quiet (PT g 0), .quiet (PT g 0), .quiet (PT g 0), .quiet (N n), .quiet (PT g 0), .quiet (N a), .call (N r0), .call (N c1), .quiet (wkv n r0 z0 c1 0 false), .made zero26 52, .laid 9 zero26 (wkc n r0 z0 c1 0 false)] (fun w' => Mm w' [(γ1_0, cells6 a), (γ1_1, zero6), (g, modc n), (0, dtab)]) ?pre3 ?F3 ?hpre3 (fun γ => ?hF3) (by kernel_rfl) ?hL3 ?hS3 ?ho3 ?he3
  case hpre3 =>
    simp only [List.take_succ_cons, List.take_zero]
    exact rfl
  case hF3 =>
    simp only [fill, Kind.val, Act.put, List.setIfInBounds_toArray, List.set_cons_zero, List.set_cons_succ]
    exact rfl
  case hL3 => exact ⟨⟨_, rfl⟩, trivial⟩
  case hS3 => exact fun w' hb => H2.out.1.below hb
  case ho3 =>
    refine AllOk.cons ?_ ?_
    · exact fun γ => ⟨rfl, fun w' _ => rfl⟩
    refine AllOk.cons ?_ ?_
    · (refine fun γ => ⟨rfl, fun w' h' => ?_⟩; clear h'; go_simp)
    refine AllOk.cons ?_ ?_
    · (refine fun γ => ⟨rfl, fun w' h' => ?_⟩; clear h'; go_simp)
    refine AllOk.cons ?_ ?_
    · exact fun γ => ⟨rfl, fun w' h' => ex_load6 h' 2 rfl rfl rfl rfl⟩
    refine AllOk.cons ?_ ?_
    · exact fun γ => ⟨rfl, fun w' _ => rfl⟩
    refine AllOk.cons ?_ ?_
    · exact fun γ => ⟨rfl, fun w' h' => ex_load6 h' 0 rfl rfl rfl rfl⟩
    refine AllOk.cons ?_ ?_
    · exact fun γ => ⟨rfl, fun w' h' => ⟨9, #[PT g 0, N a], exec_call rfl call9 rfl (by simp only [List.map_toArray, List.map_cons, List.map_nil]; rfl), CR.out w' (h'.one 2 rfl)⟩⟩
    refine AllOk.cons ?_ ?_
    · exact fun γ => ⟨rfl, fun w' h' => ⟨11, #[.int .u64 1], exec_call rfl call11 rfl (by simp only [List.map_toArray, List.map_cons, List.map_nil]; rfl), CO.out w'⟩⟩
    refine AllOk.cons ?_ ?_
    · exact fun γ => ⟨rfl, fun w' _ => ex_build58 HZ0.out rfl rfl rfl rfl⟩
    refine AllOk.cons ?_ ?_
    · exact fun γ => ⟨rfl, fun w' => ex_made58 rfl⟩
    refine AllOk.cons ?_ ?_
    · exact fun γ => ⟨rfl, rfl, rfl, fun w' h' => ex_laid58 h' rfl rfl rfl⟩
    exact trivial
  intro γ w3 l hM hl
  have M3 : Mm w3 [(γ 9, wkc n r0 z0 c1 0 false), (γ1_0, cells6 a), (γ1_1, zero6), (g, modc n), (0, dtab)] := H2.out.1.grow hM (Nat.le_refl _) hl [9] rfl (by decide)
  have B3 : Below w.heap.size w w3 := H2.out.2.trans (hM.below.mono H2.out.2.size)
  have o3_9 : Hid (w.heap.size ≤ γ 9) := Nat.le_trans H2.out.2.size (hM.fin (Nat.le_refl _) hl (i := 9) rfl).2.1
  clear hM hl l H2
  generalize γ 9 = γ3_9 at M3 o3_9 ⊢
  clear γ
  have H3 : Hid (_ ∧ _) := ⟨M3, B3⟩
  clear M3 B3
  refine rest_at (l := []) rfl ?_
  refine rest_nil ?_
  refine then_normal ?_
  refine wp_seq ?_
  refine wp_block ?_
  refine loop_ghost (α := WS) (fun z a' w' => ∃ s0 : Nat → Value, a' = ⟨#[PT g 0, N a, undef, PT γ1_0 0, PT γ1_1 0, .int .i64 0, PT γ3_9 0, undef, PT g 0, .bool true, .bool false, undef, PT g 0, PT g 0, PT g 0, N n, PT g 0, N a, N r0, N c1, wkv n r0 z0 c1 0 false, s0 21, s0 22, s0 23, s0 24, s0 25, s0 26, undef, undef, undef, undef, undef, undef, undef, undef, undef, undef, undef, undef, undef, undef, undef, undef, undef, undef], []⟩ ∧ (Mm w' [(γ3_9, wkc z.o z.r z.u z.v ((z.h : Nat) : Int) z.t), (γ1_0, cells6 a), (γ1_1, zero6), (g, modc n), (0, dtab)] ∧ Below w.heap.size w w') ∧ WI n a z) (fun z => z.o + z.r) ⟨n, r0, z0, c1, 0, false⟩ ?st0 ?rd0
  case st0 => exact ⟨(slotfn [undef, undef, undef, undef, undef, undef, undef, undef, undef, undef, undef, undef, undef, undef, undef, undef, undef, undef, undef, undef, undef, undef, undef, undef, undef, undef, undef]), rfl, ⟨H3.out.1, H3.out.2⟩, by rw [HR.out, HZ0.out, HC1.out]; exact WI.start ok⟩
  intro z a' w4 hI
  obtain ⟨s0, rfl, hMB, hk0⟩ := hI
  have H4 : Hid (_ ∧ _) := hMB
  clear hMB H3
  by_cases hlt : z.r ≠ 0
  · have hrd : True := trivial
    clear hrd
    obtain ⟨o, r, u, v, h, t⟩ := z
    have I : WI n a ⟨o, r, u, v, h, t⟩ := hk0
    have hrz : r ≠ 0 := hlt
    have hrb : r < big := by have h1 : r ≤ n := I.rn; have := ok.big; omega
    obtain ⟨k, r1, hk, er, hr1, ctz⟩ := trailing_any hrb hrz
    obtain ⟨p1, p2, p3, p4, p5, p6, p7⟩ := I.facts hrz er
    obtain ⟨i1, i2⟩ := I.next hrz er hr1
    have hh : h < 768 := I.hlt ok
    have hbn := ok.big
    have e0 := fun w => run_eqN r 0 hrb big_pos w
    rw [decide_eq_false hrz] at e0
    obtain ⟨U, hU⟩ : ∃ U, U = u * 2 ^ k := ⟨_, rfl⟩
    rw [← hU] at p6 p7 i1 i2
    have hun : u < n := I.un
    have c53 := fun w => shift_neg' r k hrb hk w
    rw [show r / 2 ^ k = r1 by rw [er, Nat.mul_div_cancel _ (Nat.two_pow_pos k)]] at c53
    have d53 := fun w => shift_up u k hk w
    rw [← hU, Nat.mod_eq_of_lt (show U < big by omega)] at d53
    have ch : ∀ w, Mm w [(γ3_9, wkc o r u v ((h : Nat) : Int) t), (0, dtab)] → Calls Tryd.prog 29 #[PT γ3_9 0] w fun e w' => e = .returned (.tuple #[]) ∧ Mm w' [(γ3_9, wkc o r1 U v (((h : Nat) : Int) + ((k : Nat) : Int)) t)] ∧ Kp γ3_9 w w' := fun w hm => halve_gen γ3_9 o r u v k r1 U ((h : Nat) : Int) t hk (by omega) (by omega) ctz c53 d53 w hm
    have CH : Hid _ := ch
    have I1 : Hid _ := i1
    have I2 : Hid _ := i2
    have R1 : Hid (r1 ≤ r) := (by rw [er]; exact Nat.le_mul_of_pos_right _ (Nat.two_pow_pos k) : r1 ≤ r)
    clear ch c53 d53 ctz i1 i2 er hr1 hU I hk0
    by_cases hl : r1 < o
    · have hrd : True := trivial
      clear hrd
      have cs : ∀ w, Mm w [(γ3_9, wkc o r1 U v (((h : Nat) : Int) + ((k : Nat) : Int)) t)] → Calls Tryd.prog 30 #[PT γ3_9 0] w fun e w' => e = .returned (.tuple #[]) ∧ Mm w' [(γ3_9, wkc r1 (o - r1) v (U + v) (((h : Nat) : Int) + ((k : Nat) : Int)) (!t))] ∧ Kp γ3_9 w w' := fun w hm => by
        have c31 := fun w => compare_any r1 o (by omega) (by omega) w
        rw [cmp_lt hl] at c31
        have c40 := fun w => sub_any o r1 (by omega) (by omega) w
        rw [decide_eq_false (by omega), show o + big - r1 = o - r1 + big by omega, Nat.add_mod_right, Nat.mod_eq_of_lt (show o - r1 < big by omega)] at c40
        have c45 := fun w => add_any U v (by omega) (by omega) w
        rw [decide_eq_false (by omega), Nat.mod_eq_of_lt (show U + v < big by omega)] at c45
        exact subtract_1 γ3_9 o r1 U v _ _ (((h : Nat) : Int) + ((k : Nat) : Int)) t c31 c40 c45 w hm
      have CS : Hid _ := cs
      clear cs
      refine wp_seq ?_
      refine wp_seq ?_
      refine walk_seq 4 [.quiet (PT γ3_9 6), .quiet (N r), .quiet (N 0), .quiet (.bool true)] (fun w' => Mm w' [(γ3_9, wkc o r u v ((h : Nat) : Int) t), (γ1_0, cells6 a), (γ1_1, zero6), (g, modc n), (0, dtab)]) ?pre4 ?F4 ?hpre4 (fun γ => ?hF4) (by kernel_rfl) ?hL4 ?hS4 ?ho4 ?he4
      case hpre4 =>
        simp only [List.take_succ_cons, List.take_zero]
        exact rfl
      case hF4 =>
        simp only [fill, Kind.val, Act.put, List.setIfInBounds_toArray, List.set_cons_zero, List.set_cons_succ]
        exact rfl
      case hL4 => exact trivial
      case hS4 => exact fun w' hb => H4.out.1.below hb
      case ho4 =>
        refine AllOk.cons ?_ ?_
        · (refine fun γ => ⟨rfl, fun w' h' => ?_⟩; clear h'; go_simp)
        refine AllOk.cons ?_ ?_
        · exact fun γ => ⟨rfl, fun w' h' => ex_load6 h' 0 rfl rfl rfl rfl⟩
        refine AllOk.cons ?_ ?_
        · (refine fun γ => ⟨rfl, fun w' h' => ?_⟩; clear h'; exact ex_zero6 rfl)
        refine AllOk.cons ?_ ?_
        · exact fun γ => ⟨rfl, fun w' _ => exec_neq6 e0 rfl rfl rfl⟩
        exact trivial
      intro γ w5 l hM hl
      have M5 : Mm w5 [(γ3_9, wkc o r u v ((h : Nat) : Int) t), (γ1_0, cells6 a), (γ1_1, zero6), (g, modc n), (0, dtab)] := H4.out.1.grow hM (Nat.le_refl _) hl [] rfl (by decide)
      have B5 : Below w.heap.size w w5 := H4.out.2.trans (hM.below.mono H4.out.2.size)
      clear hM hl l H4
      clear γ
      have H5 : Hid (_ ∧ _) := ⟨M5, B5⟩
      clear M5 B5
      refine rest_at (l := []) rfl ?_
      refine rest_nil ?_
      refine then_normal ?_
      refine wp_cond_true rfl ?_
      refine wp_skip ?_
      refine then_normal ?_
      refine wp_block ?_
      refine wp_seq ?_
      refine walk_seq 0 [] (fun w' => Mm w' [(γ3_9, wkc o r u v ((h : Nat) : Int) t), (γ1_0, cells6 a), (γ1_1, zero6), (g, modc n), (0, dtab)]) ?pre5 ?F5 ?hpre5 (fun γ => ?hF5) (by kernel_rfl) ?hL5 ?hS5 ?ho5 ?he5
      case hpre5 =>
        simp only [List.take_zero]
        exact rfl
      case hF5 =>
        simp only [fill]
        exact rfl
      case hL5 => exact trivial
      case hS5 => exact fun w' hb => H5.out.1.below hb
      case ho5 =>
        exact trivial
      intro γ w6 l hM hl
      have M6 : Mm w6 [(γ3_9, wkc o r u v ((h : Nat) : Int) t), (γ1_0, cells6 a), (γ1_1, zero6), (g, modc n), (0, dtab)] := H5.out.1.grow hM (Nat.le_refl _) hl [] rfl (by decide)
      have B6 : Below w.heap.size w w6 := H5.out.2.trans (hM.below.mono H5.out.2.size)
      clear hM hl l H5
      clear γ
      have H6 : Hid (_ ∧ _) := ⟨M6, B6⟩
      clear M6 B6
      refine rest_at (l := [0]) rfl ?_
      refine rest_enter (d := 25) (R := fun vv w' => vv = .tuple #[] ∧ Mm w' [(γ3_9, wkc o r1 U v (((h : Nat) : Int) + ((k : Nat) : Int)) t)] ∧ Kp γ3_9 w6 w') rfl rfl rfl (exec_call (args := #[PT γ3_9 0]) rfl call29 rfl (by simp only [List.map_toArray, List.map_cons, List.map_nil]; rfl)) (Calls.mono (CH.out w6 (H6.out.1.two 0 4 rfl rfl (by decide))) (fun e w2 hh => ⟨_, hh.1, rfl, hh.2⟩)) ?_
      rintro _ w7 ⟨rfl, hn, hp⟩
      have H7 : Hid (Mm w7 [(γ3_9, wkc o r1 U v (((h : Nat) : Int) + ((k : Nat) : Int)) t), (γ1_0, cells6 a), (γ1_1, zero6), (g, modc n), (0, dtab)] ∧ Below w.heap.size w w7) := ⟨H6.out.1.change 0 rfl hp hn, Below.kp H6.out.2 hp o3_9.out H6.out.2.size⟩
      clear hn hp H6
      simp only [Act.put, List.setIfInBounds_toArray, List.set_cons_zero, List.set_cons_succ]
      refine rest_nil ?_
      refine then_normal ?_
      refine walk_seq 0 [] (fun w' => Mm w' [(γ3_9, wkc o r1 U v (((h : Nat) : Int) + ((k : Nat) : Int)) t), (γ1_0, cells6 a), (γ1_1, zero6), (g, modc n), (0, dtab)]) ?pre6 ?F6 ?hpre6 (fun γ => ?hF6) (by kernel_rfl) ?hL6 ?hS6 ?ho6 ?he6
      case hpre6 =>
        simp only [List.take_zero]
        exact rfl
      case hF6 =>
        simp only [fill]
        exact rfl
      case hL6 => exact trivial
      case hS6 => exact fun w' hb => H7.out.1.below hb
      case ho6 =>
        exact trivial
      intro γ w8 l hM hl
      have M8 : Mm w8 [(γ3_9, wkc o r1 U v (((h : Nat) : Int) + ((k : Nat) : Int)) t), (γ1_0, cells6 a), (γ1_1, zero6), (g, modc n), (0, dtab)] := H7.out.1.grow hM (Nat.le_refl _) hl [] rfl (by decide)
      have B8 : Below w.heap.size w w8 := H7.out.2.trans (hM.below.mono H7.out.2.size)
      clear hM hl l H7
      clear γ
      have H8 : Hid (_ ∧ _) := ⟨M8, B8⟩
      clear M8 B8
      refine rest_at (l := [0]) rfl ?_
      refine rest_enter (d := 26) (R := fun vv w' => vv = .tuple #[] ∧ Mm w' [(γ3_9, wkc r1 (o - r1) v (U + v) (((h : Nat) : Int) + ((k : Nat) : Int)) (!t))] ∧ Kp γ3_9 w8 w') rfl rfl rfl (exec_call (args := #[PT γ3_9 0]) rfl call30 rfl (by simp only [List.map_toArray, List.map_cons, List.map_nil]; rfl)) (Calls.mono (CS.out w8 (H8.out.1.one 0 rfl)) (fun e w2 hh => ⟨_, hh.1, rfl, hh.2⟩)) ?_
      rintro _ w9 ⟨rfl, hn, hp⟩
      have H9 : Hid (Mm w9 [(γ3_9, wkc r1 (o - r1) v (U + v) (((h : Nat) : Int) + ((k : Nat) : Int)) (!t)), (γ1_0, cells6 a), (γ1_1, zero6), (g, modc n), (0, dtab)] ∧ Below w.heap.size w w9) := ⟨H8.out.1.change 0 rfl hp hn, Below.kp H8.out.2 hp o3_9.out H8.out.2.size⟩
      clear hn hp H8
      simp only [Act.put, List.setIfInBounds_toArray, List.set_cons_zero, List.set_cons_succ]
      refine rest_nil ?_
      refine block_normal ?_
      refine then_normal ?_
      exact ⟨⟨r1, o - r1, v, U + v, h + k, !t⟩, ⟨(slotfn [undef, undef, undef, undef, undef, undef, undef, undef, undef, undef, undef, undef, undef, undef, undef, undef, undef, undef, undef, undef, undef, PT γ3_9 6, N r, N 0, .bool true, .tuple #[], .tuple #[]]), rfl, ⟨by rw [Int.natCast_add]; exact H9.out.1, H9.out.2⟩, I1.out hl⟩, (by show r1 + (o - r1) < o + r; have h4 : r1 ≤ r := R1.out; omega)⟩
    · have hrd : True := trivial
      clear hrd
      have cs : ∀ w, Mm w [(γ3_9, wkc o r1 U v (((h : Nat) : Int) + ((k : Nat) : Int)) t)] → Calls Tryd.prog 30 #[PT γ3_9 0] w fun e w' => e = .returned (.tuple #[]) ∧ Mm w' [(γ3_9, wkc o (r1 - o) U (v + U) (((h : Nat) : Int) + ((k : Nat) : Int)) t)] ∧ Kp γ3_9 w w' := fun w hm => by
        have c31 := fun w => compare_any r1 o (by omega) (by omega) w
        have c40 := fun w => sub_any r1 o (by omega) (by omega) w
        rw [decide_eq_false (by omega), show r1 + big - o = r1 - o + big by omega, Nat.add_mod_right, Nat.mod_eq_of_lt (show r1 - o < big by omega)] at c40
        have c45 := fun w => add_any v U (by omega) (by omega) w
        rw [decide_eq_false (by omega), Nat.mod_eq_of_lt (show v + U < big by omega)] at c45
        exact subtract_2 γ3_9 o r1 U v _ _ (((h : Nat) : Int) + ((k : Nat) : Int)) t _ (cmp_ge hl) c31 c40 c45 w hm
      have CS : Hid _ := cs
      clear cs
      refine wp_seq ?_
      refine wp_seq ?_
      refine walk_seq 4 [.quiet (PT γ3_9 6), .quiet (N r), .quiet (N 0), .quiet (.bool true)] (fun w' => Mm w' [(γ3_9, wkc o r u v ((h : Nat) : Int) t), (γ1_0, cells6 a), (γ1_1, zero6), (g, modc n), (0, dtab)]) ?pre7 ?F7 ?hpre7 (fun γ => ?hF7) (by kernel_rfl) ?hL7 ?hS7 ?ho7 ?he7
      case hpre7 =>
        simp only [List.take_succ_cons, List.take_zero]
        exact rfl
      case hF7 =>
        simp only [fill, Kind.val, Act.put, List.setIfInBounds_toArray, List.set_cons_zero, List.set_cons_succ]
        exact rfl
      case hL7 => exact trivial
      case hS7 => exact fun w' hb => H4.out.1.below hb
      case ho7 =>
        refine AllOk.cons ?_ ?_
        · (refine fun γ => ⟨rfl, fun w' h' => ?_⟩; clear h'; go_simp)
        refine AllOk.cons ?_ ?_
        · exact fun γ => ⟨rfl, fun w' h' => ex_load6 h' 0 rfl rfl rfl rfl⟩
        refine AllOk.cons ?_ ?_
        · (refine fun γ => ⟨rfl, fun w' h' => ?_⟩; clear h'; exact ex_zero6 rfl)
        refine AllOk.cons ?_ ?_
        · exact fun γ => ⟨rfl, fun w' _ => exec_neq6 e0 rfl rfl rfl⟩
        exact trivial
      intro γ w10 l hM hl
      have M10 : Mm w10 [(γ3_9, wkc o r u v ((h : Nat) : Int) t), (γ1_0, cells6 a), (γ1_1, zero6), (g, modc n), (0, dtab)] := H4.out.1.grow hM (Nat.le_refl _) hl [] rfl (by decide)
      have B10 : Below w.heap.size w w10 := H4.out.2.trans (hM.below.mono H4.out.2.size)
      clear hM hl l H4
      clear γ
      have H10 : Hid (_ ∧ _) := ⟨M10, B10⟩
      clear M10 B10
      refine rest_at (l := []) rfl ?_
      refine rest_nil ?_
      refine then_normal ?_
      refine wp_cond_true rfl ?_
      refine wp_skip ?_
      refine then_normal ?_
      refine wp_block ?_
      refine wp_seq ?_
      refine walk_seq 0 [] (fun w' => Mm w' [(γ3_9, wkc o r u v ((h : Nat) : Int) t), (γ1_0, cells6 a), (γ1_1, zero6), (g, modc n), (0, dtab)]) ?pre8 ?F8 ?hpre8 (fun γ => ?hF8) (by kernel_rfl) ?hL8 ?hS8 ?ho8 ?he8
      case hpre8 =>
        simp only [List.take_zero]
        exact rfl
      case hF8 =>
        simp only [fill]
        exact rfl
      case hL8 => exact trivial
      case hS8 => exact fun w' hb => H10.out.1.below hb
      case ho8 =>
        exact trivial
      intro γ w11 l hM hl
      have M11 : Mm w11 [(γ3_9, wkc o r u v ((h : Nat) : Int) t), (γ1_0, cells6 a), (γ1_1, zero6), (g, modc n), (0, dtab)] := H10.out.1.grow hM (Nat.le_refl _) hl [] rfl (by decide)
      have B11 : Below w.heap.size w w11 := H10.out.2.trans (hM.below.mono H10.out.2.size)
      clear hM hl l H10
      clear γ
      have H11 : Hid (_ ∧ _) := ⟨M11, B11⟩
      clear M11 B11
      refine rest_at (l := [0]) rfl ?_
      refine rest_enter (d := 25) (R := fun vv w' => vv = .tuple #[] ∧ Mm w' [(γ3_9, wkc o r1 U v (((h : Nat) : Int) + ((k : Nat) : Int)) t)] ∧ Kp γ3_9 w11 w') rfl rfl rfl (exec_call (args := #[PT γ3_9 0]) rfl call29 rfl (by simp only [List.map_toArray, List.map_cons, List.map_nil]; rfl)) (Calls.mono (CH.out w11 (H11.out.1.two 0 4 rfl rfl (by decide))) (fun e w2 hh => ⟨_, hh.1, rfl, hh.2⟩)) ?_
      rintro _ w12 ⟨rfl, hn, hp⟩
      have H12 : Hid (Mm w12 [(γ3_9, wkc o r1 U v (((h : Nat) : Int) + ((k : Nat) : Int)) t), (γ1_0, cells6 a), (γ1_1, zero6), (g, modc n), (0, dtab)] ∧ Below w.heap.size w w12) := ⟨H11.out.1.change 0 rfl hp hn, Below.kp H11.out.2 hp o3_9.out H11.out.2.size⟩
      clear hn hp H11
      simp only [Act.put, List.setIfInBounds_toArray, List.set_cons_zero, List.set_cons_succ]
      refine rest_nil ?_
      refine then_normal ?_
      refine walk_seq 0 [] (fun w' => Mm w' [(γ3_9, wkc o r1 U v (((h : Nat) : Int) + ((k : Nat) : Int)) t), (γ1_0, cells6 a), (γ1_1, zero6), (g, modc n), (0, dtab)]) ?pre9 ?F9 ?hpre9 (fun γ => ?hF9) (by kernel_rfl) ?hL9 ?hS9 ?ho9 ?he9
      case hpre9 =>
        simp only [List.take_zero]
        exact rfl
      case hF9 =>
        simp only [fill]
        exact rfl
      case hL9 => exact trivial
      case hS9 => exact fun w' hb => H12.out.1.below hb
      case ho9 =>
        exact trivial
      intro γ w13 l hM hl
      have M13 : Mm w13 [(γ3_9, wkc o r1 U v (((h : Nat) : Int) + ((k : Nat) : Int)) t), (γ1_0, cells6 a), (γ1_1, zero6), (g, modc n), (0, dtab)] := H12.out.1.grow hM (Nat.le_refl _) hl [] rfl (by decide)
      have B13 : Below w.heap.size w w13 := H12.out.2.trans (hM.below.mono H12.out.2.size)
      clear hM hl l H12
      clear γ
      have H13 : Hid (_ ∧ _) := ⟨M13, B13⟩
      clear M13 B13
      refine rest_at (l := [0]) rfl ?_
      refine rest_enter (d := 26) (R := fun vv w' => vv = .tuple #[] ∧ Mm w' [(γ3_9, wkc o (r1 - o) U (v + U) (((h : Nat) : Int) + ((k : Nat) : Int)) t)] ∧ Kp γ3_9 w13 w') rfl rfl rfl (exec_call (args := #[PT γ3_9 0]) rfl call30 rfl (by simp only [List.map_toArray, List.map_cons, List.map_nil]; rfl)) (Calls.mono (CS.out w13 (H13.out.1.one 0 rfl)) (fun e w2 hh => ⟨_, hh.1, rfl, hh.2⟩)) ?_
      rintro _ w14 ⟨rfl, hn, hp⟩
      have H14 : Hid (Mm w14 [(γ3_9, wkc o (r1 - o) U (v + U) (((h : Nat) : Int) + ((k : Nat) : Int)) t), (γ1_0, cells6 a), (γ1_1, zero6), (g, modc n), (0, dtab)] ∧ Below w.heap.size w w14) := ⟨H13.out.1.change 0 rfl hp hn, Below.kp H13.out.2 hp o3_9.out H13.out.2.size⟩
      clear hn hp H13
      simp only [Act.put, List.setIfInBounds_toArray, List.set_cons_zero, List.set_cons_succ]
      refine rest_nil ?_
      refine block_normal ?_
      refine then_normal ?_
      exact ⟨⟨o, r1 - o, U, v + U, h + k, t⟩, ⟨(slotfn [undef, undef, undef, undef, undef, undef, undef, undef, undef, undef, undef, undef, undef, undef, undef, undef, undef, undef, undef, undef, undef, PT γ3_9 6, N r, N 0, .bool true, .tuple #[], .tuple #[]]), rfl, ⟨by rw [Int.natCast_add]; exact H14.out.1, H14.out.2⟩, I2.out hl⟩, (by show o + (r1 - o) < o + r; have h4 : r1 ≤ r := R1.out; omega)⟩
  obtain ⟨o, r, u, v, h, t⟩ := z
  have I : WI n a ⟨o, r, u, v, h, t⟩ := hk0
  have hr0 : r = 0 := Classical.byContradiction hlt
  have hh : h < 768 := I.hlt ok
  have hun : u < n := I.un
  have hog : o = Nat.gcd n a := by have h1 : Nat.gcd o r = Nat.gcd n a := I.gcd; rwa [hr0, Nat.gcd_zero_right] at h1
  have e0 := fun w => run_eqN r 0 (by rw [hr0]; exact big_pos) big_pos w
  rw [decide_eq_true hr0] at e0
  have HR0 : Hid _ := hr0
  clear hr0
  have e1 := fun w => run_eqN o c1 (by have h1 := I.sum; have h2 : 1 ≤ v := I.vpos; have h3 : o * 1 ≤ o * v := Nat.mul_le_mul_left o h2; have := ok.big; simp only at h1; omega) (by rw [HC1.out]; exact small_big 1 (by decide)) w
  rw [decide_eq_false (by rw [hog, HC1.out]; exact hg)] at e1
  clear I hk0 hog hlt
  refine wp_seq ?_
  refine wp_seq ?_
  refine walk_seq 4 [.quiet (PT γ3_9 6), .quiet (N r), .quiet (N 0), .quiet (.bool false)] (fun w' => Mm w' [(γ3_9, wkc o r u v ((h : Nat) : Int) t), (γ1_0, cells6 a), (γ1_1, zero6), (g, modc n), (0, dtab)]) ?pre10 ?F10 ?hpre10 (fun γ => ?hF10) (by kernel_rfl) ?hL10 ?hS10 ?ho10 ?he10
  case hpre10 =>
    simp only [List.take_succ_cons, List.take_zero]
    exact rfl
  case hF10 =>
    simp only [fill, Kind.val, Act.put, List.setIfInBounds_toArray, List.set_cons_zero, List.set_cons_succ]
    exact rfl
  case hL10 => exact trivial
  case hS10 => exact fun w' hb => H4.out.1.below hb
  case ho10 =>
    refine AllOk.cons ?_ ?_
    · (refine fun γ => ⟨rfl, fun w' h' => ?_⟩; clear h'; go_simp)
    refine AllOk.cons ?_ ?_
    · exact fun γ => ⟨rfl, fun w' h' => ex_load6 h' 0 rfl rfl rfl rfl⟩
    refine AllOk.cons ?_ ?_
    · (refine fun γ => ⟨rfl, fun w' h' => ?_⟩; clear h'; exact ex_zero6 rfl)
    refine AllOk.cons ?_ ?_
    · exact fun γ => ⟨rfl, fun w' _ => exec_neq6 e0 rfl rfl rfl⟩
    exact trivial
  intro γ w15 l hM hl
  have M15 : Mm w15 [(γ3_9, wkc o r u v ((h : Nat) : Int) t), (γ1_0, cells6 a), (γ1_1, zero6), (g, modc n), (0, dtab)] := H4.out.1.grow hM (Nat.le_refl _) hl [] rfl (by decide)
  have B15 : Below w.heap.size w w15 := H4.out.2.trans (hM.below.mono H4.out.2.size)
  clear hM hl l H4
  clear γ
  have H15 : Hid (_ ∧ _) := ⟨M15, B15⟩
  clear M15 B15
  refine rest_at (l := []) rfl ?_
  refine rest_nil ?_
  refine then_normal ?_
  refine wp_cond_false rfl ?_
  refine wp_exit ?_
  repeat refine then_exit ?_
  refine block_exit ?_
  refine then_normal ?_
  refine wp_seq ?_
  refine wp_seq ?_
  refine walk_any (by kernel_rfl) 4 [.quiet (PT γ3_9 0), .quiet (N o), .call (N c1), .quiet (.bool true)] (fun w' => Mm w' [(γ3_9, wkc o r u v ((h : Nat) : Int) t), (γ1_0, cells6 a), (γ1_1, zero6), (g, modc n), (0, dtab)]) ?pre11 ?F11 ?hpre11 (fun γ => ?hF11) (by kernel_rfl) ?hL11 ?hS11 ?ho11 ?he11
  case hpre11 =>
    simp only [List.take_succ_cons, List.take_zero]
    exact rfl
  case hF11 =>
    simp only [fill, Kind.val, Act.put, List.setIfInBounds_toArray, List.set_cons_zero, List.set_cons_succ]
    exact rfl
  case hL11 => exact trivial
  case hS11 => exact fun w' hb => H15.out.1.below hb
  case ho11 =>
    refine AllOk.cons ?_ ?_
    · (refine fun γ => ⟨rfl, fun w' h' => ?_⟩; clear h'; go_simp)
    refine AllOk.cons ?_ ?_
    · exact fun γ => ⟨rfl, fun w' h' => ex_load6 h' 0 rfl rfl rfl rfl⟩
    refine AllOk.cons ?_ ?_
    · exact fun γ => ⟨rfl, fun w' h' => ⟨11, #[.int .u64 1], exec_call rfl call11 rfl (by simp only [List.map_toArray, List.map_cons, List.map_nil]; rfl), CO.out w'⟩⟩
    refine AllOk.cons ?_ ?_
    · exact fun γ => ⟨rfl, fun w' _ => exec_neq6 e1 rfl rfl rfl⟩
    exact trivial
  intro γ w16 l hM hl
  have M16 : Mm w16 [(γ3_9, wkc o r u v ((h : Nat) : Int) t), (γ1_0, cells6 a), (γ1_1, zero6), (g, modc n), (0, dtab)] := H15.out.1.grow hM (Nat.le_refl _) hl [] rfl (by decide)
  have B16 : Below w.heap.size w w16 := H15.out.2.trans (hM.below.mono H15.out.2.size)
  clear hM hl l H15
  clear γ
  have H16 : Hid (_ ∧ _) := ⟨M16, B16⟩
  clear M16 B16
  refine rest_at (l := []) rfl ?_
  refine rest_nil ?_
  refine then_normal ?_
  refine wp_cond_true rfl ?_
  refine wp_seq ?_
  refine walk_seq 1 [.quiet (N 0)] (fun w' => Mm w' [(γ3_9, wkc o r u v ((h : Nat) : Int) t), (γ1_0, cells6 a), (γ1_1, zero6), (g, modc n), (0, dtab)]) ?pre12 ?F12 ?hpre12 (fun γ => ?hF12) (by kernel_rfl) ?hL12 ?hS12 ?ho12 ?he12
  case hpre12 =>
    simp only [List.take_succ_cons, List.take_zero]
    exact rfl
  case hF12 =>
    simp only [fill, Kind.val, Act.put, List.setIfInBounds_toArray, List.set_cons_zero, List.set_cons_succ]
    exact rfl
  case hL12 => exact trivial
  case hS12 => exact fun w' hb => H16.out.1.below hb
  case ho12 =>
    refine AllOk.cons ?_ ?_
    · (refine fun γ => ⟨rfl, fun w' h' => ?_⟩; clear h'; exact ex_zero6 rfl)
    exact trivial
  intro γ w17 l hM hl
  have M17 : Mm w17 [(γ3_9, wkc o r u v ((h : Nat) : Int) t), (γ1_0, cells6 a), (γ1_1, zero6), (g, modc n), (0, dtab)] := H16.out.1.grow hM (Nat.le_refl _) hl [] rfl (by decide)
  have B17 : Below w.heap.size w w17 := H16.out.2.trans (hM.below.mono H16.out.2.size)
  clear hM hl l H16
  clear γ
  have H17 : Hid (_ ∧ _) := ⟨M17, B17⟩
  clear M17 B17
  refine rest_at (l := [1, 2]) rfl ?_
  refine rest_store rfl rfl rfl (ex_store6 H17.out.1 2 rfl rfl rfl rfl (Nat.le_of_ble_eq_true rfl)) ?_
  have H18 : Hid (Mm (w17.setCells γ1_1 0 (cells6 0)) [(γ3_9, wkc o r u v ((h : Nat) : Int) t), (γ1_0, cells6 a), (γ1_1, cells6 0), (g, modc n), (0, dtab)] ∧ Below w.heap.size w (w17.setCells γ1_1 0 (cells6 0))) := ⟨H17.out.1.put 2 (off := 0) (vs := cells6 0) rfl (Nat.le_of_ble_eq_true rfl), below_setCells _ o1_1.out _ _ _ H17.out.2⟩
  clear H17
  generalize hgw : World.setCells _ _ _ _ = w18 at H18 ⊢
  clear hgw
  refine rest_set (d := 5) rfl rfl rfl rfl ?_
  simp only [Act.put, List.setIfInBounds_toArray, List.set_cons_zero, List.set_cons_succ]
  refine rest_nil ?_
  refine then_normal ?_
  refine wp_ret ?_
  repeat (first | refine then_ret ?_ | refine block_ret ?_)
  have c0 := H18.out.1.get 2 rfl 0 rfl
  have c1 := H18.out.1.get 2 rfl 1 rfl
  have c2 := H18.out.1.get 2 rfl 2 rfl
  have c3 := H18.out.1.get 2 rfl 3 rfl
  have c4 := H18.out.1.get 2 rfl 4 rfl
  have c5 := H18.out.1.get 2 rfl 5 rfl
  refine bodyPost_ret (v := .tuple #[N 0, .int .i64 6]) (by simp [results, Tryd.results12, go_sem, *]) rfl ?_
  exact ⟨rfl, H18.out.2⟩
end Rg
end Go.Proofs.YtoagmdgmbkpghabDoor
