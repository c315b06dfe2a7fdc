/- Texts of the proof, joined. -/
import Derived.Test.YtkkloakcphigeaaDoorP4
import Derived.WalkKit
section
namespace Go.Proofs.YtkkloakcphigeaaDoor
open Go.RowKit
namespace Rg
theorem call58 : ∀ args w, (callFunc 58 args).run Tryd.prog w = .ok (.enter 58 args) w := by intro args w; go_simp
theorem call56 : ∀ args w, (callFunc 56 args).run Tryd.prog w = .ok (.enter 56 args) w := by intro args w; go_simp
theorem call57 : ∀ args w, (callFunc 57 args).run Tryd.prog w = .ok (.enter 57 args) w := by intro args w; go_simp
theorem call59 : ∀ args w, (callFunc 59 args).run Tryd.prog w = .ok (.enter 59 args) w := by intro args w; go_simp
abbrev zero26 : List Value := [.int .u64 0, .int .u64 0, .int .u64 0, .int .u64 0, .int .u64 0, .int .u64 0, .int .u64 0, .int .u64 0, .int .u64 0, .int .u64 0, .int .u64 0, .int .u64 0, .int .u64 0, .int .u64 0, .int .u64 0, .int .u64 0, .int .u64 0, .int .u64 0, .int .u64 0, .int .u64 0, .int .u64 0, .int .u64 0, .int .u64 0, .int .u64 0, .int .i64 0, .bool false]
abbrev wkv (o r u v : Nat) (h : Int) (t : Bool) : Value := .agg (wkc o r u v h t).toArray
theorem ex_made58 {ρ : Operand → Value} {o : Oper} {w : World} (ho : o.op = .alloc 92) :
    (execOp ρ o).run Tryd.prog w = .ok (.value (.pointer (some ⟨w.heap.size, 0, none⟩))) (w.alloc (.cells zero26.toArray 92)) := by
  simp only [execOp, ho]
  go_simp
theorem ex_build58 {ρ : Operand → Value} {o : Oper} {x y z : Operand} {n r z0 c1 : Nat} {w : World} (h0 : z0 = 0) (ho : o.op = .build 92 #[(0, x), (1, y), (3, z)]) (hx : ρ x = N n) (hy : ρ y = N r) (hz : ρ z = N c1) : (execOp ρ o).run Tryd.prog w = .ok (.value (wkv n r z0 c1 0 false)) w := by
  subst h0
  simp only [execOp, ho]
  go_simp
  simp [wd_zero]
theorem ex_laidT {ρ : Operand → Value} {o : Oper} {x y : Operand} {g : Nat} {t : TypeId} {zs cs : List Value} {w : World} (hb : Blk w g zs) (hl : zs.length = cs.length) (h1 : cs.all Value.oneCell' = true) (hs : ∀ w, (sizeOf t).run Tryd.prog w = .ok cs.length w) (ho : o.op = .store t x y) (hx : ρ x = .pointer (some ⟨g, 0, none⟩)) (hy : ρ y = .agg cs.toArray) :
    (execOp ρ o).run Tryd.prog w = .ok .skip (w.setCells g 0 cs) := by
  have hk : ∀ k, k < cs.length → ∃ u, zs[k]? = some u := fun k hk => ⟨_, List.getElem?_eq_getElem (by omega)⟩
  have hst := run_storeCells_cells (P := Tryd.prog) g 0 cs 0 w (fun k hkl => by
    obtain ⟨u, hu⟩ := hk k hkl
    rw [show 0 + 0 + k = k by omega, (hb k u hu).1]; rfl) (fun k hkl => by
    obtain ⟨u, hu⟩ := hk k hkl
    rw [show 0 + 0 + k = k by omega]; exact (hb k u hu).2) (List.all_eq_true.1 h1)
  clear hb hk h1 hl
  simp only [execOp, ho, hx, hy]
  go_simp
theorem ex_laid58 {ρ : Operand → Value} {o : Oper} {x y : Operand} {g n r u v : Nat} {h : Int} {t : Bool} {w : World} (hb : Blk w g zero26) (ho : o.op = .store 92 x y) (hx : ρ x = .pointer (some ⟨g, 0, none⟩)) (hy : ρ y = wkv n r u v h t) :
    (execOp ρ o).run Tryd.prog w = .ok .skip (w.setCells g 0 (wkc n r u v h t)) := ex_laidT hb rfl rfl Tryd.sizeOf92 ho hx hy
theorem shift_neg' (a m : Nat) (ha : a < big) (h : m < 384) (w : World) :
    Calls Tryd.prog 36 #[N a, .int .i64 (-((m : Nat) : Int))] w fun e w' => e = .returned (N (a / 2 ^ m)) ∧ Below w.heap.size w w' := by
  by_cases h0 : m = 0
  · subst h0
    have := shift_up a 0 (by decide) w
    rw [Nat.pow_zero, Nat.mul_one, Nat.mod_eq_of_lt ha] at this
    rw [Nat.pow_zero, Nat.div_one]
    exact this
  · have := shift_down a (-(m : Int)) ha (by omega) (by omega) w
    rw [show (- -(m : Int)).toNat = m by omega] at this
    exact this
set_option maxHeartbeats 4000000 in
set_option maxRecDepth 100000 in
theorem inv_good {g n a : Nat} (ok : Ok n) (ha : a < big) (hg : Nat.gcd n a = 1) (w : World) (hm : Mm w [(g, modc n), (2, dtab)]) :
    Calls Tryd.prog 32 #[PT g 0, N a] w fun e w' => ∃ x, e = .returned (.tuple #[N x, .int .i64 0]) ∧ x < n ∧ x * a % n = 1 ∧ Below w.heap.size w w' := by
  have H0 : Hid (_ ∧ _) := ⟨hm, Below.refl w.heap.size w⟩
  clear hm
  obtain ⟨r0, hr0⟩ : ∃ r0, r0 = a % n := ⟨_, rfl⟩
  have cm := fun w hm => madeC (g := g) ok w hm
  have cr := fun w hm => reduce_any (g := g) ok ha w hm
  rw [← hr0] at cr
  have CM : Hid _ := cm
  have CR : Hid _ := cr
  obtain ⟨z0, hz0⟩ : ∃ z0, z0 = 0 := ⟨_, rfl⟩
  obtain ⟨c1, hc1⟩ : ∃ c1, c1 = 1 := ⟨_, rfl⟩
  have HC1 : Hid _ := hc1
  have CO : Hid (∀ w, Calls Tryd.prog 18 #[.int .u64 1] w fun e w' => e = .returned (N c1) ∧ Below w.heap.size w w') := fun w => by
    have h := of_any 1 (by decide) w
    rw [HC1.out]
    exact h
  have HZ0 : Hid _ := hz0
  have HR : Hid _ := hr0
  clear cm cr hr0 ha hz0 hc1
  go_enter Tryd.func32, Tryd.ntmps32
  refine wp_seq ?_
  refine walk_seqA 3 [.made (cells6 a) 33, .made zero6 33, .quiet (.int .i64 0)] (sB H0) ?ho1 ?he1
  case ho1 => exact ak (fun γ => ⟨rfl, fun w' => ex_box6 rfl rfl⟩) (ak (fun γ => ⟨rfl, fun w' => exec_made6 rfl⟩) (ak (fun _ => ⟨rfl, fun _ _ => rfl⟩) trivial))
  intro γ w1 l hM hl
  have H1 : Hid (Mm w1 [(γ 0, cells6 a), (γ 1, zero6), (g, modc n), (2, dtab)] ∧ _) := growB H0 hM (Nat.le_refl _) hl [0, 1] rfl (by decide)
  have o1_0 := ownB H0 hM (Nat.le_refl _) hl (i := 0) rfl
  have o1_1 := ownB H0 hM (Nat.le_refl _) hl (i := 1) rfl
  clear hM hl l
  generalize γ 0 = γ1_0 at H1 o1_0 ⊢
  generalize γ 1 = γ1_1 at H1 o1_1 ⊢
  clear γ
  refine rest0 rfl (then_normal (wp_seq (wp_seq ?_)))
  refine walk_seqB 3 [.quiet (PT g 0), .call (.bool true), .quiet (.bool false)] H1 ?ho2 ?he2
  case ho2 => exact ak (fun _ => ⟨rfl, fun _ _ => rfl⟩) (ak (fun γ => ⟨rfl, fun w' h' => ⟨51, #[PT g 0], exec_call rfl call51 rfl (mpn rfl), CM.out w' (h'.one 2 rfl)⟩⟩) (ak (by refine fun γ => ⟨rfl, fun w' h' => ?_⟩; clear h'; go_simp) trivial))
  intro _ w2 H2
  clear H1
  refine rest0 rfl (then_normal (wp_cond_false rfl ?_))
  refine wp_skip (then_normal (wp_seq ?_))
  refine walk_anyA 11 [.quiet (PT g 0), .quiet (PT g 0), .quiet (PT g 0), .quiet (N n), .quiet (PT g 0), .quiet (N a), .call (N r0), .call (N c1), .quiet (wkv n r0 z0 c1 0 false), .made zero26 92, .laid 9 zero26 (wkc n r0 z0 c1 0 false)] (sB H2) ?ho3 ?he3 (hL := ?hL3)
  case hL3 => exact ⟨⟨_, rfl⟩, trivial⟩
  case ho3 => exact ak (fun _ => ⟨rfl, fun _ _ => rfl⟩) (ak (by refine fun γ => ⟨rfl, fun w' h' => ?_⟩; clear h'; go_simp) (ak (by refine fun γ => ⟨rfl, fun w' h' => ?_⟩; clear h'; go_simp) (ak (fun γ => ⟨rfl, fun w' h' => ex_load6 h' 2 rfl rfl rfl rfl⟩) (ak (fun _ => ⟨rfl, fun _ _ => rfl⟩) (ak (fun γ => ⟨rfl, fun w' h' => ex_load6 h' 0 rfl rfl rfl rfl⟩) (ak (fun γ => ⟨rfl, fun w' h' => ⟨54, #[PT g 0, N a], exec_call rfl call54 rfl (mpn rfl), CR.out w' (h'.one 2 rfl)⟩⟩) (ak (fun γ => ⟨rfl, fun w' h' => ⟨18, #[.int .u64 1], exec_call rfl call18 rfl (mpn rfl), CO.out w'⟩⟩) (ak (fun γ => ⟨rfl, fun w' _ => ex_build58 HZ0.out rfl rfl rfl rfl⟩) (ak (fun γ => ⟨rfl, fun w' => ex_made58 rfl⟩) (ak (fun γ => ⟨rfl, rfl, rfl, fun w' h' => ex_laid58 h' rfl rfl rfl⟩) trivial))))))))))
  intro γ w3 l hM hl
  have H3 : Hid (Mm w3 [(γ 9, wkc n r0 z0 c1 0 false), (γ1_0, cells6 a), (γ1_1, zero6), (g, modc n), (2, dtab)] ∧ _) := growB H2 hM (Nat.le_refl _) hl [9] rfl (by decide)
  have o3_9 := ownB H2 hM (Nat.le_refl _) hl (i := 9) rfl
  clear hM hl l H2
  generalize γ 9 = γ3_9 at H3 o3_9 ⊢
  clear γ
  refine rest0 rfl (then_normal (wp_seq (wp_block ?_)))
  refine loop_ghost (α := WS) (fun z a' w' => ∃ s0 : Nat → Value, a' = ⟨#[PT g 0, N a, undef, PT γ1_0 0, PT γ1_1 0, .int .i64 0, PT γ3_9 0, undef, PT g 0, .bool true, .bool false, undef, PT g 0, PT g 0, PT g 0, N n, PT g 0, N a, N r0, N c1, wkv n r0 z0 c1 0 false, s0 21, s0 22, s0 23, s0 24, s0 25, s0 26, undef, undef, undef, undef, undef, undef, undef, undef, undef, undef, undef, undef, undef, undef, undef, undef, undef, undef], []⟩ ∧ (Mm w' [(γ3_9, wkc z.o z.r z.u z.v ((z.h : Nat) : Int) z.t), (γ1_0, cells6 a), (γ1_1, zero6), (g, modc n), (2, dtab)] ∧ Below w.heap.size w w') ∧ WI n a z) (fun z => z.o + z.r) ⟨n, r0, z0, c1, 0, false⟩ ?st0 ?rd0
  case st0 => exact ⟨(slotfn [undef, undef, undef, undef, undef, undef, undef, undef, undef, undef, undef, undef, undef, undef, undef, undef, undef, undef, undef, undef, undef, undef, undef, undef, undef, undef, undef]), rfl, ⟨H3.out.1, H3.out.2⟩, by rw [HR.out, HZ0.out, HC1.out]; exact WI.start ok⟩
  intro z a' w4 hI
  obtain ⟨s0, rfl, hMB, hk0⟩ := hI
  have H4 : Hid (_ ∧ _) := hMB
  clear hMB H3
  by_cases hlt : z.r ≠ 0
  · have hrd : True := trivial
    clear hrd
    obtain ⟨o, r, u, v, h, t⟩ := z
    have I : WI n a ⟨o, r, u, v, h, t⟩ := hk0
    have hrz : r ≠ 0 := hlt
    have hrb : r < big := by have h1 : r ≤ n := I.rn; have := ok.big; omega
    obtain ⟨k, r1, hk, er, hr1, ctz⟩ := trailing_any hrb hrz
    obtain ⟨p1, p2, p3, p4, p5, p6, p7⟩ := I.facts hrz er
    obtain ⟨i1, i2⟩ := I.next hrz er hr1
    have hh : h < 768 := I.hlt ok
    have hbn := ok.big
    have e0 := fun w => run_eqN r 0 hrb big_pos w
    rw [decide_eq_false hrz] at e0
    obtain ⟨U, hU⟩ : ∃ U, U = u * 2 ^ k := ⟨_, rfl⟩
    rw [← hU] at p6 p7 i1 i2
    have hun : u < n := I.un
    have c53 := fun w => shift_neg' r k hrb hk w
    rw [show r / 2 ^ k = r1 by rw [er, Nat.mul_div_cancel _ (Nat.two_pow_pos k)]] at c53
    have d53 := fun w => shift_up u k hk w
    rw [← hU, Nat.mod_eq_of_lt (show U < big by omega)] at d53
    have ch : ∀ w, Mm w [(γ3_9, wkc o r u v ((h : Nat) : Int) t), (2, dtab)] → Calls Tryd.prog 56 #[PT γ3_9 0] w fun e w' => e = .returned (.tuple #[]) ∧ Mm w' [(γ3_9, wkc o r1 U v (((h : Nat) : Int) + ((k : Nat) : Int)) t)] ∧ Kp γ3_9 w w' := fun w hm => halve_gen γ3_9 o r u v k r1 U ((h : Nat) : Int) t hk (by omega) (by omega) ctz c53 d53 w hm
    have CH : Hid _ := ch
    have I1 : Hid _ := i1
    have I2 : Hid _ := i2
    have R1 : Hid (r1 ≤ r) := (by rw [er]; exact Nat.le_mul_of_pos_right _ (Nat.two_pow_pos k) : r1 ≤ r)
    clear ch c53 d53 ctz i1 i2 er hr1 hU I hk0
    by_cases hl : r1 < o
    · have hrd : True := trivial
      clear hrd
      have cs : ∀ w, Mm w [(γ3_9, wkc o r1 U v (((h : Nat) : Int) + ((k : Nat) : Int)) t)] → Calls Tryd.prog 57 #[PT γ3_9 0] w fun e w' => e = .returned (.tuple #[]) ∧ Mm w' [(γ3_9, wkc r1 (o - r1) v (U + v) (((h : Nat) : Int) + ((k : Nat) : Int)) (!t))] ∧ Kp γ3_9 w w' := fun w hm => by
        have c31 := fun w => compare_any r1 o (by omega) (by omega) w
        rw [cmp_lt hl] at c31
        have c40 := fun w => sub_any o r1 (by omega) (by omega) w
        rw [decide_eq_false (by omega), show o + big - r1 = o - r1 + big by omega, Nat.add_mod_right, Nat.mod_eq_of_lt (show o - r1 < big by omega)] at c40
        have c45 := fun w => add_any U v (by omega) (by omega) w
        rw [decide_eq_false (by omega), Nat.mod_eq_of_lt (show U + v < big by omega)] at c45
        exact subtract_1 γ3_9 o r1 U v _ _ (((h : Nat) : Int) + ((k : Nat) : Int)) t c31 c40 c45 w hm
      have CS : Hid _ := cs
      clear cs
      refine wp_seq (wp_seq ?_)
      refine walk_seqB 4 [.quiet (PT γ3_9 6), .quiet (N r), .quiet (N 0), .quiet (.bool true)] H4 ?ho4 ?he4
      case ho4 => exact ak (by refine fun γ => ⟨rfl, fun w' h' => ?_⟩; clear h'; go_simp) (ak (fun γ => ⟨rfl, fun w' h' => ex_load6 h' 0 rfl rfl rfl rfl⟩) (ak (by refine fun γ => ⟨rfl, fun w' h' => ?_⟩; clear h'; exact ex_zero6 rfl) (ak (fun γ => ⟨rfl, fun w' _ => exec_neq6 e0 rfl rfl rfl⟩) trivial)))
      intro _ w5 H5
      clear H4
      refine rest0 rfl (then_normal (wp_cond_true rfl ?_))
      refine wp_skip (then_normal ?_)
      refine wp_block (wp_seq ?_)
      refine walk_seqB 0 [] H5 ?ho5 ?he5
      case ho5 => exact trivial
      intro _ w6 H6
      clear H5
      refine rest_at (l := [0]) rfl ?_
      refine rest_enter (d := 25) (R := fun vv w' => vv = .tuple #[] ∧ Mm w' [(γ3_9, wkc o r1 U v (((h : Nat) : Int) + ((k : Nat) : Int)) t)] ∧ Kp γ3_9 w6 w') rfl rfl rfl (exec_call (args := #[PT γ3_9 0]) rfl call56 rfl (mpn rfl)) (Calls.mono (CH.out w6 (H6.out.1.two 0 4 rfl rfl (by decide))) (fun e w2 hh => ⟨_, hh.1, rfl, hh.2⟩)) ?_
      rintro _ w7 ⟨rfl, hn, hp⟩
      have H7 : Hid (Mm w7 [(γ3_9, wkc o r1 U v (((h : Nat) : Int) + ((k : Nat) : Int)) t), (γ1_0, cells6 a), (γ1_1, zero6), (g, modc n), (2, dtab)] ∧ Below w.heap.size w w7) := ⟨H6.out.1.change 0 rfl hp hn, Below.kp H6.out.2 hp o3_9.out H6.out.2.size⟩
      clear hn hp H6
      simp only [Act.put, sa, sz, ss]
      refine rest_nil (then_normal ?_)
      refine walk_seqB 0 [] H7 ?ho6 ?he6
      case ho6 => exact trivial
      intro _ w8 H8
      clear H7
      refine rest_at (l := [0]) rfl ?_
      refine rest_enter (d := 26) (R := fun vv w' => vv = .tuple #[] ∧ Mm w' [(γ3_9, wkc r1 (o - r1) v (U + v) (((h : Nat) : Int) + ((k : Nat) : Int)) (!t))] ∧ Kp γ3_9 w8 w') rfl rfl rfl (exec_call (args := #[PT γ3_9 0]) rfl call57 rfl (mpn rfl)) (Calls.mono (CS.out w8 (H8.out.1.one 0 rfl)) (fun e w2 hh => ⟨_, hh.1, rfl, hh.2⟩)) ?_
      rintro _ w9 ⟨rfl, hn, hp⟩
      have H9 : Hid (Mm w9 [(γ3_9, wkc r1 (o - r1) v (U + v) (((h : Nat) : Int) + ((k : Nat) : Int)) (!t)), (γ1_0, cells6 a), (γ1_1, zero6), (g, modc n), (2, dtab)] ∧ Below w.heap.size w w9) := ⟨H8.out.1.change 0 rfl hp hn, Below.kp H8.out.2 hp o3_9.out H8.out.2.size⟩
      clear hn hp H8
      simp only [Act.put, sa, sz, ss]
      refine rest_nil (block_normal (then_normal ?_))
      exact ⟨⟨r1, o - r1, v, U + v, h + k, !t⟩, ⟨(slotfn [undef, undef, undef, undef, undef, undef, undef, undef, undef, undef, undef, undef, undef, undef, undef, undef, undef, undef, undef, undef, undef, PT γ3_9 6, N r, N 0, .bool true, .tuple #[], .tuple #[]]), rfl, ⟨by rw [Int.natCast_add]; exact H9.out.1, H9.out.2⟩, I1.out hl⟩, (by show r1 + (o - r1) < o + r; have h4 : r1 ≤ r := R1.out; omega)⟩
    · have hrd : True := trivial
      clear hrd
      have cs : ∀ w, Mm w [(γ3_9, wkc o r1 U v (((h : Nat) : Int) + ((k : Nat) : Int)) t)] → Calls Tryd.prog 57 #[PT γ3_9 0] w fun e w' => e = .returned (.tuple #[]) ∧ Mm w' [(γ3_9, wkc o (r1 - o) U (v + U) (((h : Nat) : Int) + ((k : Nat) : Int)) t)] ∧ Kp γ3_9 w w' := fun w hm => by
        have c31 := fun w => compare_any r1 o (by omega) (by omega) w
        have c40 := fun w => sub_any r1 o (by omega) (by omega) w
        rw [decide_eq_false (by omega), show r1 + big - o = r1 - o + big by omega, Nat.add_mod_right, Nat.mod_eq_of_lt (show r1 - o < big by omega)] at c40
        have c45 := fun w => add_any v U (by omega) (by omega) w
        rw [decide_eq_false (by omega), Nat.mod_eq_of_lt (show v + U < big by omega)] at c45
        exact subtract_2 γ3_9 o r1 U v _ _ (((h : Nat) : Int) + ((k : Nat) : Int)) t _ (cmp_ge hl) c31 c40 c45 w hm
      have CS : Hid _ := cs
      clear cs
      refine wp_seq (wp_seq ?_)
      refine walk_seqB 4 [.quiet (PT γ3_9 6), .quiet (N r), .quiet (N 0), .quiet (.bool true)] H4 ?ho7 ?he7
      case ho7 => exact ak (by refine fun γ => ⟨rfl, fun w' h' => ?_⟩; clear h'; go_simp) (ak (fun γ => ⟨rfl, fun w' h' => ex_load6 h' 0 rfl rfl rfl rfl⟩) (ak (by refine fun γ => ⟨rfl, fun w' h' => ?_⟩; clear h'; exact ex_zero6 rfl) (ak (fun γ => ⟨rfl, fun w' _ => exec_neq6 e0 rfl rfl rfl⟩) trivial)))
      intro _ w10 H10
      clear H4
      refine rest0 rfl (then_normal (wp_cond_true rfl ?_))
      refine wp_skip (then_normal ?_)
      refine wp_block (wp_seq ?_)
      refine walk_seqB 0 [] H10 ?ho8 ?he8
      case ho8 => exact trivial
      intro _ w11 H11
      clear H10
      refine rest_at (l := [0]) rfl ?_
      refine rest_enter (d := 25) (R := fun vv w' => vv = .tuple #[] ∧ Mm w' [(γ3_9, wkc o r1 U v (((h : Nat) : Int) + ((k : Nat) : Int)) t)] ∧ Kp γ3_9 w11 w') rfl rfl rfl (exec_call (args := #[PT γ3_9 0]) rfl call56 rfl (mpn rfl)) (Calls.mono (CH.out w11 (H11.out.1.two 0 4 rfl rfl (by decide))) (fun e w2 hh => ⟨_, hh.1, rfl, hh.2⟩)) ?_
      rintro _ w12 ⟨rfl, hn, hp⟩
      have H12 : Hid (Mm w12 [(γ3_9, wkc o r1 U v (((h : Nat) : Int) + ((k : Nat) : Int)) t), (γ1_0, cells6 a), (γ1_1, zero6), (g, modc n), (2, dtab)] ∧ Below w.heap.size w w12) := ⟨H11.out.1.change 0 rfl hp hn, Below.kp H11.out.2 hp o3_9.out H11.out.2.size⟩
      clear hn hp H11
      simp only [Act.put, sa, sz, ss]
      refine rest_nil (then_normal ?_)
      refine walk_seqB 0 [] H12 ?ho9 ?he9
      case ho9 => exact trivial
      intro _ w13 H13
      clear H12
      refine rest_at (l := [0]) rfl ?_
      refine rest_enter (d := 26) (R := fun vv w' => vv = .tuple #[] ∧ Mm w' [(γ3_9, wkc o (r1 - o) U (v + U) (((h : Nat) : Int) + ((k : Nat) : Int)) t)] ∧ Kp γ3_9 w13 w') rfl rfl rfl (exec_call (args := #[PT γ3_9 0]) rfl call57 rfl (mpn rfl)) (Calls.mono (CS.out w13 (H13.out.1.one 0 rfl)) (fun e w2 hh => ⟨_, hh.1, rfl, hh.2⟩)) ?_
      rintro _ w14 ⟨rfl, hn, hp⟩
      have H14 : Hid (Mm w14 [(γ3_9, wkc o (r1 - o) U (v + U) (((h : Nat) : Int) + ((k : Nat) : Int)) t), (γ1_0, cells6 a), (γ1_1, zero6), (g, modc n), (2, dtab)] ∧ Below w.heap.size w w14) := ⟨H13.out.1.change 0 rfl hp hn, Below.kp H13.out.2 hp o3_9.out H13.out.2.size⟩
      clear hn hp H13
      simp only [Act.put, sa, sz, ss]
      refine rest_nil (block_normal (then_normal ?_))
      exact ⟨⟨o, r1 - o, U, v + U, h + k, t⟩, ⟨(slotfn [undef, undef, undef, undef, undef, undef, undef, undef, undef, undef, undef, undef, undef, undef, undef, undef, undef, undef, undef, undef, undef, PT γ3_9 6, N r, N 0, .bool true, .tuple #[], .tuple #[]]), rfl, ⟨by rw [Int.natCast_add]; exact H14.out.1, H14.out.2⟩, I2.out hl⟩, (by show o + (r1 - o) < o + r; have h4 : r1 ≤ r := R1.out; omega)⟩
  obtain ⟨o, r, u, v, h, t⟩ := z
  have I : WI n a ⟨o, r, u, v, h, t⟩ := hk0
  have hr0 : r = 0 := Classical.byContradiction hlt
  have hh : h < 768 := I.hlt ok
  have hun : u < n := I.un
  have hog : o = Nat.gcd n a := by have h1 : Nat.gcd o r = Nat.gcd n a := I.gcd; rwa [hr0, Nat.gcd_zero_right] at h1
  have e0 := fun w => run_eqN r 0 (by rw [hr0]; exact big_pos) big_pos w
  rw [decide_eq_true hr0] at e0
  have HR0 : Hid _ := hr0
  clear hr0
  have ho1 : o = 1 := by rw [hog]; exact hg
  have e1 := fun w => run_eqN o c1 (by rw [ho1]; exact small_big 1 (by decide)) (by rw [HC1.out]; exact small_big 1 (by decide)) w
  rw [decide_eq_true (by rw [ho1, HC1.out])] at e1
  have HO : Hid _ := ho1
  clear ho1
  have II : Hid _ := I
  clear I hk0 hog hlt
  cases t
  · have IT : Hid _ := II.out
    clear II
    have cn := fun w hm => negm_any (g := g) ok (show u < big by have := ok.big; omega) w hm
    have cd := fun w hm => dbp_any (g := g) ok (subm_lt_n ok.pos 0 u) hh w hm
    have CN : Hid _ := cn
    have CD : Hid _ := cd
    clear cn cd
    refine wp_seq (wp_seq ?_)
    refine walk_seqB 4 [.quiet (PT γ3_9 6), .quiet (N r), .quiet (N 0), .quiet (.bool false)] H4 ?ho10f ?he10f
    case ho10f => exact ak (by refine fun γ => ⟨rfl, fun w' h' => ?_⟩; clear h'; go_simp) (ak (fun γ => ⟨rfl, fun w' h' => ex_load6 h' 0 rfl rfl rfl rfl⟩) (ak (by refine fun γ => ⟨rfl, fun w' h' => ?_⟩; clear h'; exact ex_zero6 rfl) (ak (fun γ => ⟨rfl, fun w' _ => exec_neq6 e0 rfl rfl rfl⟩) trivial)))
    intro _ w15 H15
    clear H4
    refine rest0 rfl (then_normal (wp_cond_false rfl ?_))
    refine wp_exit ?_
    repeat refine then_exit ?_
    refine block_exit ?_
    refine then_normal (wp_seq (wp_seq ?_))
    refine walk_anyB 4 [.quiet (PT γ3_9 0), .quiet (N o), .call (N c1), .quiet (.bool false)] H15 ?ho11f ?he11f
    case ho11f => exact ak (by refine fun γ => ⟨rfl, fun w' h' => ?_⟩; clear h'; go_simp) (ak (fun γ => ⟨rfl, fun w' h' => ex_load6 h' 0 rfl rfl rfl rfl⟩) (ak (fun γ => ⟨rfl, fun w' h' => ⟨18, #[.int .u64 1], exec_call rfl call18 rfl (mpn rfl), CO.out w'⟩⟩) (ak (fun γ => ⟨rfl, fun w' _ => exec_neq6 e1 rfl rfl rfl⟩) trivial)))
    intro _ w16 H16
    clear H15
    refine rest0 rfl (then_normal (wp_cond_false rfl ?_))
    refine wp_skip (then_normal (wp_seq ?_))
    refine walk_seqA 4 [.quiet (PT γ3_9 12), .quiet (N u), .made zero6 33, .laid 2 zero6 (cells6 u)] (sB H16) ?ho12f ?he12f (hL := ?hL12f)
    case hL12f => exact ⟨⟨_, rfl⟩, trivial⟩
    case ho12f => exact ak (by refine fun γ => ⟨rfl, fun w' h' => ?_⟩; clear h'; go_simp) (ak (fun γ => ⟨rfl, fun w' h' => ex_load6 h' 0 rfl rfl rfl rfl⟩) (ak (fun γ => ⟨rfl, fun w' => exec_made6 rfl⟩) (ak (fun γ => ⟨rfl, rfl, rfl, fun w' h' => exec_laid6 h' rfl rfl rfl⟩) trivial)))
    intro γ w17 l hM hl
    have H17 : Hid (Mm w17 [(γ 2, cells6 u), (γ3_9, wkc o r u v ((h : Nat) : Int) false), (γ1_0, cells6 a), (γ1_1, zero6), (g, modc n), (2, dtab)] ∧ _) := growB H16 hM (Nat.le_refl _) hl [2] rfl (by decide)
    have o12_2 := ownB H16 hM (Nat.le_refl _) hl (i := 2) rfl
    clear hM hl l H16
    generalize γ 2 = γ12_2 at H17 o12_2 ⊢
    clear γ
    refine rest0 rfl (then_normal (wp_seq (wp_seq ?_)))
    refine walk_seqB 3 [.quiet (PT γ3_9 25), .quiet (.bool false), .quiet (.bool true)] H17 ?ho13f ?he13f
    case ho13f => exact ak (by refine fun γ => ⟨rfl, fun w' h' => ?_⟩; clear h'; go_simp) (ak (fun γ => ⟨rfl, fun w' h' => ex_loadB h' 1 rfl rfl rfl rfl⟩) (ak (by refine fun γ => ⟨rfl, fun w' h' => ?_⟩; clear h'; go_simp) trivial))
    intro _ w18 H18
    clear H17
    refine rest0 rfl (then_normal (wp_cond_true rfl ?_))
    refine walk_seqB 3 [.quiet (PT g 0), .quiet (N u), .call (N (subm n 0 u))] H18 ?ho14f ?he14f
    case ho14f => exact ak (fun _ => ⟨rfl, fun _ _ => rfl⟩) (ak (fun γ => ⟨rfl, fun w' h' => ex_load6 h' 0 rfl rfl rfl rfl⟩) (ak (fun γ => ⟨rfl, fun w' h' => ⟨58, #[PT g 0, N u], exec_call rfl call58 rfl (mpn rfl), CN.out w' (h'.one 4 rfl)⟩⟩) trivial))
    intro _ w19 H19
    clear H18
    refine rest_at (l := [3]) rfl ?_
    refine rest_store rfl rfl rfl (ex_store6 H19.out.1 0 rfl rfl rfl rfl (Nat.le_of_ble_eq_true rfl)) ?_
    have H20 : Hid (Mm (w19.setCells γ12_2 0 (cells6 (subm n 0 u))) [(γ12_2, cells6 (subm n 0 u)), (γ3_9, wkc o r u v ((h : Nat) : Int) false), (γ1_0, cells6 a), (γ1_1, zero6), (g, modc n), (2, dtab)] ∧ Below w.heap.size w (w19.setCells γ12_2 0 (cells6 (subm n 0 u)))) := ⟨H19.out.1.put 0 (off := 0) (vs := cells6 (subm n 0 u)) rfl (Nat.le_of_ble_eq_true rfl), below_setCells _ o12_2.out _ _ _ H19.out.2⟩
    clear H19
    generalize hgw : World.setCells _ _ _ _ = w20 at H20 ⊢
    clear hgw
    refine rest_nil (then_normal (wp_seq ?_))
    refine walk_seqB 5 [.quiet (PT g 0), .quiet (N (subm n 0 u)), .quiet (PT γ3_9 24), .quiet (.int .i64 ((h : Nat) : Int)), .call (N (dv n (subm n 0 u) h))] H20 ?ho15f ?he15f
    case ho15f => exact ak (fun _ => ⟨rfl, fun _ _ => rfl⟩) (ak (fun γ => ⟨rfl, fun w' h' => ex_load6 h' 0 rfl rfl rfl rfl⟩) (ak (by refine fun γ => ⟨rfl, fun w' h' => ?_⟩; clear h'; go_simp) (ak (fun γ => ⟨rfl, fun w' h' => ex_loadI h' 1 rfl rfl rfl rfl⟩) (ak (fun γ => ⟨rfl, fun w' h' => ⟨59, #[PT g 0, N (subm n 0 u), .int .i64 ((h : Nat) : Int)], exec_call rfl call59 rfl (mpn rfl), CD.out w' (h'.one 4 rfl)⟩⟩) trivial))))
    intro _ w21 H21
    clear H20
    refine rest_at (l := [5, 6]) rfl ?_
    refine rest_store rfl rfl rfl (ex_store6 H21.out.1 3 rfl rfl rfl rfl (Nat.le_of_ble_eq_true rfl)) ?_
    have H22 : Hid (Mm (w21.setCells γ1_1 0 (cells6 (dv n (subm n 0 u) h))) [(γ12_2, cells6 (subm n 0 u)), (γ3_9, wkc o r u v ((h : Nat) : Int) false), (γ1_0, cells6 a), (γ1_1, cells6 (dv n (subm n 0 u) h)), (g, modc n), (2, dtab)] ∧ Below w.heap.size w (w21.setCells γ1_1 0 (cells6 (dv n (subm n 0 u) h)))) := ⟨H21.out.1.put 3 (off := 0) (vs := cells6 (dv n (subm n 0 u) h)) rfl (Nat.le_of_ble_eq_true rfl), below_setCells _ o1_1.out _ _ _ H21.out.2⟩
    clear H21
    generalize hgw : World.setCells _ _ _ _ = w22 at H22 ⊢
    clear hgw
    refine rest_set (d := 5) rfl rfl rfl rfl ?_
    simp only [Act.put, sa, sz, ss]
    refine rest_nil (then_normal (wp_ret ?_))
    repeat (first | refine then_ret ?_ | refine block_ret ?_)
    have c0 := H22.out.1.get 3 rfl 0 rfl
    have c1 := H22.out.1.get 3 rfl 1 rfl
    have c2 := H22.out.1.get 3 rfl 2 rfl
    have c3 := H22.out.1.get 3 rfl 3 rfl
    have c4 := H22.out.1.get 3 rfl 4 rfl
    have c5 := H22.out.1.get 3 rfl 5 rfl
    refine bodyPost_ret (v := .tuple #[N (dv n (subm n 0 u) h), .int .i64 0]) (by simp [results, Tryd.results32, go_sem, *]) rfl ?_
    exact ⟨_, rfl, Nat.mod_lt _ ok.pos, end_false ok (by have h3 := IT.out; rw [HR0.out] at h3; exact h3) HO.out, H22.out.2⟩
  · have IT : Hid _ := II.out
    clear II
    have cd := fun w hm => dbp_any (g := g) ok hun hh w hm
    have CD : Hid _ := cd
    clear cd
    refine wp_seq (wp_seq ?_)
    refine walk_seqB 4 [.quiet (PT γ3_9 6), .quiet (N r), .quiet (N 0), .quiet (.bool false)] H4 ?ho10t ?he10t
    case ho10t => exact ak (by refine fun γ => ⟨rfl, fun w' h' => ?_⟩; clear h'; go_simp) (ak (fun γ => ⟨rfl, fun w' h' => ex_load6 h' 0 rfl rfl rfl rfl⟩) (ak (by refine fun γ => ⟨rfl, fun w' h' => ?_⟩; clear h'; exact ex_zero6 rfl) (ak (fun γ => ⟨rfl, fun w' _ => exec_neq6 e0 rfl rfl rfl⟩) trivial)))
    intro _ w15 H15
    clear H4
    refine rest0 rfl (then_normal (wp_cond_false rfl ?_))
    refine wp_exit ?_
    repeat refine then_exit ?_
    refine block_exit ?_
    refine then_normal (wp_seq (wp_seq ?_))
    refine walk_anyB 4 [.quiet (PT γ3_9 0), .quiet (N o), .call (N c1), .quiet (.bool false)] H15 ?ho11t ?he11t
    case ho11t => exact ak (by refine fun γ => ⟨rfl, fun w' h' => ?_⟩; clear h'; go_simp) (ak (fun γ => ⟨rfl, fun w' h' => ex_load6 h' 0 rfl rfl rfl rfl⟩) (ak (fun γ => ⟨rfl, fun w' h' => ⟨18, #[.int .u64 1], exec_call rfl call18 rfl (mpn rfl), CO.out w'⟩⟩) (ak (fun γ => ⟨rfl, fun w' _ => exec_neq6 e1 rfl rfl rfl⟩) trivial)))
    intro _ w16 H16
    clear H15
    refine rest0 rfl (then_normal (wp_cond_false rfl ?_))
    refine wp_skip (then_normal (wp_seq ?_))
    refine walk_seqA 4 [.quiet (PT γ3_9 12), .quiet (N u), .made zero6 33, .laid 2 zero6 (cells6 u)] (sB H16) ?ho12t ?he12t (hL := ?hL12t)
    case hL12t => exact ⟨⟨_, rfl⟩, trivial⟩
    case ho12t => exact ak (by refine fun γ => ⟨rfl, fun w' h' => ?_⟩; clear h'; go_simp) (ak (fun γ => ⟨rfl, fun w' h' => ex_load6 h' 0 rfl rfl rfl rfl⟩) (ak (fun γ => ⟨rfl, fun w' => exec_made6 rfl⟩) (ak (fun γ => ⟨rfl, rfl, rfl, fun w' h' => exec_laid6 h' rfl rfl rfl⟩) trivial)))
    intro γ w17 l hM hl
    have H17 : Hid (Mm w17 [(γ 2, cells6 u), (γ3_9, wkc o r u v ((h : Nat) : Int) true), (γ1_0, cells6 a), (γ1_1, zero6), (g, modc n), (2, dtab)] ∧ _) := growB H16 hM (Nat.le_refl _) hl [2] rfl (by decide)
    have o12_2 := ownB H16 hM (Nat.le_refl _) hl (i := 2) rfl
    clear hM hl l H16
    generalize γ 2 = γ12_2 at H17 o12_2 ⊢
    clear γ
    refine rest0 rfl (then_normal (wp_seq (wp_seq ?_)))
    refine walk_seqB 3 [.quiet (PT γ3_9 25), .quiet (.bool true), .quiet (.bool false)] H17 ?ho13t ?he13t
    case ho13t => exact ak (by refine fun γ => ⟨rfl, fun w' h' => ?_⟩; clear h'; go_simp) (ak (fun γ => ⟨rfl, fun w' h' => ex_loadB h' 1 rfl rfl rfl rfl⟩) (ak (by refine fun γ => ⟨rfl, fun w' h' => ?_⟩; clear h'; go_simp) trivial))
    intro _ w18 H18
    clear H17
    refine rest0 rfl (then_normal (wp_cond_false rfl ?_))
    refine wp_skip (then_normal (wp_seq ?_))
    refine walk_seqB 5 [.quiet (PT g 0), .quiet (N u), .quiet (PT γ3_9 24), .quiet (.int .i64 ((h : Nat) : Int)), .call (N (dv n u h))] H18 ?ho14t ?he14t
    case ho14t => exact ak (fun _ => ⟨rfl, fun _ _ => rfl⟩) (ak (fun γ => ⟨rfl, fun w' h' => ex_load6 h' 0 rfl rfl rfl rfl⟩) (ak (by refine fun γ => ⟨rfl, fun w' h' => ?_⟩; clear h'; go_simp) (ak (fun γ => ⟨rfl, fun w' h' => ex_loadI h' 1 rfl rfl rfl rfl⟩) (ak (fun γ => ⟨rfl, fun w' h' => ⟨59, #[PT g 0, N u, .int .i64 ((h : Nat) : Int)], exec_call rfl call59 rfl (mpn rfl), CD.out w' (h'.one 4 rfl)⟩⟩) trivial))))
    intro _ w19 H19
    clear H18
    refine rest_at (l := [5, 6]) rfl ?_
    refine rest_store rfl rfl rfl (ex_store6 H19.out.1 3 rfl rfl rfl rfl (Nat.le_of_ble_eq_true rfl)) ?_
    have H20 : Hid (Mm (w19.setCells γ1_1 0 (cells6 (dv n u h))) [(γ12_2, cells6 u), (γ3_9, wkc o r u v ((h : Nat) : Int) true), (γ1_0, cells6 a), (γ1_1, cells6 (dv n u h)), (g, modc n), (2, dtab)] ∧ Below w.heap.size w (w19.setCells γ1_1 0 (cells6 (dv n u h)))) := ⟨H19.out.1.put 3 (off := 0) (vs := cells6 (dv n u h)) rfl (Nat.le_of_ble_eq_true rfl), below_setCells _ o1_1.out _ _ _ H19.out.2⟩
    clear H19
    generalize hgw : World.setCells _ _ _ _ = w20 at H20 ⊢
    clear hgw
    refine rest_set (d := 5) rfl rfl rfl rfl ?_
    simp only [Act.put, sa, sz, ss]
    refine rest_nil (then_normal (wp_ret ?_))
    repeat (first | refine then_ret ?_ | refine block_ret ?_)
    have c0 := H20.out.1.get 3 rfl 0 rfl
    have c1 := H20.out.1.get 3 rfl 1 rfl
    have c2 := H20.out.1.get 3 rfl 2 rfl
    have c3 := H20.out.1.get 3 rfl 3 rfl
    have c4 := H20.out.1.get 3 rfl 4 rfl
    have c5 := H20.out.1.get 3 rfl 5 rfl
    refine bodyPost_ret (v := .tuple #[N (dv n u h), .int .i64 0]) (by simp [results, Tryd.results32, go_sem, *]) rfl ?_
    exact ⟨_, rfl, Nat.mod_lt _ ok.pos, end_true ok (by have h3 := IT.out; rw [HR0.out] at h3; exact h3) HO.out, H20.out.2⟩
end Rg
end Go.Proofs.YtkkloakcphigeaaDoor
end
section
namespace Go.Proofs.YtkkloakcphigeaaDoor
open Go.RowKit
namespace Rg
/-- The number that makes 1 with a. -/
def invm (n a : Nat) : Nat := ((List.range n).find? fun x => x * a % n == 1).getD 0
theorem inv_unique {n a x y : Nat} (hx : x < n) (hy : y < n) (h1 : x * a % n = 1) (h2 : y * a % n = 1) : x = y := by
  have hn : 1 < n := by
    rcases Nat.lt_or_ge 1 n with h | h
    · exact h
    · have : x * a % n < 1 := Nat.lt_of_lt_of_le (Nat.mod_lt _ (by omega)) h
      omega
  have e1 : Cg n (x * a) 1 := by unfold Cg; rw [h1, Nat.mod_eq_of_lt hn]
  have e2 : Cg n (y * a) 1 := by unfold Cg; rw [h2, Nat.mod_eq_of_lt hn]
  have s1 := e2.mulL x
  have s2 := e1.mulL y
  rw [Nat.mul_one] at s1 s2
  have e3 : x * (y * a) = y * (x * a) := Nat.mul_left_comm ..
  rw [e3] at s1
  exact (s1.symm.trans s2).eq_of_lt hx hy
theorem invm_eq {n a x : Nat} (hx : x < n) (h1 : x * a % n = 1) : invm n a = x := by
  unfold invm
  cases hf : (List.range n).find? fun x => x * a % n == 1 with
  | none =>
    have := List.find?_eq_none.1 hf x (List.mem_range.2 hx)
    simp [h1] at this
  | some y =>
    have h2 := List.find?_some hf
    have h3 := List.mem_range.1 (List.mem_of_find?_eq_some hf)
    exact inv_unique h3 hx (by simpa using h2) h1
theorem inv_ok {g n a : Nat} (ok : Ok n) (ha : a < big) (hg : Nat.gcd n a = 1) (w : World) (hm : Mm w [(g, modc n), (2, dtab)]) :
    Calls Tryd.prog 32 #[PT g 0, N a] w fun e w' => e = .returned (.tuple #[N (invm n a), .int .i64 0]) ∧ Below w.heap.size w w' := by
  refine (inv_good ok ha hg w hm).mono fun e w' h => ?_
  obtain ⟨x, rfl, hx, h1, hb⟩ := h
  rw [invm_eq hx h1]
  exact ⟨rfl, hb⟩
theorem small_ok (n : Nat) (h : n < 1000) : n < big := small_big n (by omega)
end Rg
end Go.Proofs.YtkkloakcphigeaaDoor
end
section
namespace Go.Proofs.YtkkloakcphigeaaDoor
open Go.RowKit
namespace Rg
theorem call33 : ∀ args w, (callFunc 33 args).run Tryd.prog w = .ok (.enter 33 args) w := by intro args w; go_simp
theorem call34 : ∀ args w, (callFunc 34 args).run Tryd.prog w = .ok (.enter 34 args) w := by intro args w; go_simp
theorem call68 : ∀ args w, (callFunc 68 args).run Tryd.prog w = .ok (.enter 68 args) w := by intro args w; go_simp
theorem call78 : ∀ args w, (callFunc 78 args).run Tryd.prog w = .ok (.enter 78 args) w := by intro args w; go_simp
theorem call81 : ∀ args w, (callFunc 81 args).run Tryd.prog w = .ok (.enter 81 args) w := by intro args w; go_simp
theorem call82 : ∀ args w, (callFunc 82 args).run Tryd.prog w = .ok (.enter 82 args) w := by intro args w; go_simp
theorem call83 : ∀ args w, (callFunc 83 args).run Tryd.prog w = .ok (.enter 83 args) w := by intro args w; go_simp
theorem call84 : ∀ args w, (callFunc 84 args).run Tryd.prog w = .ok (.enter 84 args) w := by intro args w; go_simp
end Rg
end Go.Proofs.YtkkloakcphigeaaDoor
end
section
namespace Go.Proofs.YtkkloakcphigeaaDoor
open Go.RowKit
namespace Rg
theorem mod_low (P k : Nat) (hk : k ≤ 6) : P % big % 2 ^ (64 * k) = P % 2 ^ (64 * k) := by
  obtain ⟨n, hn, e⟩ := big_pow
  rw [e]
  exact Nat.mod_mod_of_dvd P (Nat.pow_dvd_pow 2 (by omega))
theorem brw_low (L P k : Nat) (hk : k ≤ 6) : brw L (P % big) k = brw L P k := by unfold brw; rw [mod_low P k hk]
/-- What is left, the lowest k words less P. -/
def tkf (L P k m : Nat) : Int := if m < k then wd (L + big - P % big) m else wd L m
theorem tkf_at {L P k b : Nat} (hk : k < 6) : (lec b (tkf L P k))[6 + k]? = some (.int .u64 (wd L k)) := by
  rw [lec_hi hk]
  unfold tkf
  rw [if_neg (by omega)]
theorem tkf_step {L P k b : Nat} {v : Int} (h : v = wd (L + big - P % big) k) : lec b (upd (tkf L P k) k v) = lec b (tkf L P (k + 1)) := lec_congr fun j _ => by
  unfold upd tkf
  by_cases h1 : j = k
  · subst h1; rw [if_pos rfl, if_pos (by omega), h]
  · rw [if_neg h1]
    by_cases h2 : j < k
    · rw [if_pos h2, if_pos (by omega)]
    · rw [if_neg h2, if_neg (by omega)]
theorem tkf_start (L P b : Nat) : lec b (wd L) = lec b (tkf L P 0) := lec_congr fun j _ => by
  unfold tkf
  rw [if_neg (by omega)]
theorem tkf_end (L P b : Nat) : lec b (tkf L P 6) = lec b (wd ((L + big - P % big) % big)) := lec_congr fun j hj => by
  unfold tkf
  rw [if_pos hj, wd_mod _ _ hj]
theorem big_pos2 : 0 < big := by rw [big_eq]; exact pow_pos' 6
theorem take_word (L P k : Nat) (hk : k < 6) : subLo (wd L k) (wd P k) (brw L P k) = wd (L + big - P % big) k := by
  rw [← sub_word L (P % big) k hk (Nat.mod_lt _ big_pos2), wd_mod _ _ hk, brw_low _ _ _ (by omega)]
theorem mulLo_comm (x y m c : Int) : mulLo x y m c = mulLo y x m c := by unfold mulLo; rw [Int.mul_comm]
theorem mulHi_comm (x y m c : Int) : mulHi x y m c = mulHi y x m c := by unfold mulHi; rw [Int.mul_comm]
set_option maxHeartbeats 1000000 in
set_option maxRecDepth 100000 in
theorem take_gen (g b L t P T : Nat) (hT : IntKind.u64.wrap (((cc 0 t b 6 : Nat) : Int) + brw L P 6) = ((T : Nat) : Int))
    (c0 : ((0 : Nat) : Int) = ((cc 0 t b 0 : Nat) : Int)) (d0 : (0 : Int) = brw L P 0)
    (cm : ∀ k w, Calls Tryd.prog 72 #[.int .u64 (wd b k), .int .u64 ((t : Nat) : Int), .int .u64 0, .int .u64 ((cc 0 t b k : Nat) : Int)] w fun e w' => e = .returned (.tuple #[.int .u64 (wd P k), .int .u64 ((cc 0 t b (k + 1) : Nat) : Int)]) ∧ Below w.heap.size w w')
    (cs : ∀ k w, (callFunc 74 #[.int .u64 (wd L k), .int .u64 (wd P k), .int .u64 (brw L P k)]).run Tryd.prog w = .ok (.value (.tuple #[.int .u64 (subLo (wd L k) (wd P k) (brw L P k)), .int .u64 (brw L P (k + 1))])) w) (w : World) (hm : Mm w [(g, lec b (wd L))]) :
    Calls Tryd.prog 83 #[PT g 0, .int .u64 ((t : Nat) : Int)] w fun e w' => e = .returned (.int .u64 ((T : Nat) : Int)) ∧ Mm w' [(g, lec b (tkf L P 6))] ∧ Kp g w w' := by
  have H0 : Hid (_ ∧ _) := ⟨hm, Kp.refl g w⟩
  clear hm
  have CM : Hid _ := cm
  have CS : Hid _ := cs
  clear cm cs
  go_enter Tryd.func83, Tryd.ntmps83
  refine wp_seq ?_
  refine walk_seqA 1 [.quiet (.int .u64 0)] (sB H0) ?ho1 ?he1
  case ho1 => exact ak (fun _ => ⟨rfl, fun _ _ => rfl⟩) trivial
  intro γ w1 l hM hl
  have H1 := keepK H0 hM.below
  clear hM hl l γ
  refine rest0 rfl (then_normal (wp_seq ?_))
  refine walk_seqA 3 [.quiet (.int .u64 0), .quiet (.int .u64 0), .quiet (.int .u64 0)] (sB H1) ?ho2 ?he2
  case ho2 => exact ak (fun _ => ⟨rfl, fun _ _ => rfl⟩) (ak (fun _ => ⟨rfl, fun _ _ => rfl⟩) (ak (fun _ => ⟨rfl, fun _ _ => rfl⟩) trivial))
  intro γ w2 l hM hl
  have H2 := keepK H1 hM.below
  clear hM hl l H1 γ
  refine rest0 rfl (then_normal (wp_seq (wp_seq ?_)))
  refine walk_seqA 1 [.quiet (.int .i64 0)] (sB H2) ?ho3 ?he3
  case ho3 => exact ak (fun _ => ⟨rfl, fun _ _ => rfl⟩) trivial
  intro γ w3 l hM hl
  have H3 := keepK H2 hM.below
  clear hM hl l H2 γ
  refine rest0 rfl (then_normal (wp_block ?_))
  refine loop_ghost (α := Nat) (fun k a' w' => ∃ s0 : Nat → Value, a' = ⟨#[PT g 0, .int .u64 ((t : Nat) : Int), undef, undef, .int .u64 0, s0 5, .int .u64 ((cc 0 t b k : Nat) : Int), .int .u64 (brw L P k), s0 8, .int .i64 ((k : Nat) : Int), s0 10, s0 11, s0 12, s0 13, s0 14, s0 15, s0 16, s0 17, s0 18, s0 19, s0 20, s0 21, s0 22, s0 23, s0 24, s0 25, s0 26, s0 27, s0 28, s0 29, s0 30, s0 31, s0 32, s0 33, s0 34, s0 35, s0 36, s0 37, s0 38, s0 39, s0 40, s0 41, undef, undef, undef], []⟩ ∧ (Mm w' [(g, lec b (tkf L P k))] ∧ Kp g w w') ∧ k ≤ 6) (fun k => 6 - k) 0 ?st0 ?rd0
  case st0 => exact ⟨(slotfn [undef, undef, undef, undef, undef, .int .u64 0, undef, undef, undef, undef, undef, undef, undef, undef, undef, undef, undef, undef, undef, undef, undef, undef, undef, undef, undef, undef, undef, undef, undef, undef, undef, undef, undef, undef, undef, undef, undef, undef, undef, undef, undef, undef]), by rw [← c0, ← d0]; rfl, ⟨H3.out.1.at0 (tkf_start L P b), H3.out.2⟩, by omega⟩
  intro k a' w4 hI
  obtain ⟨s0, rfl, hMB, hk0⟩ := hI
  have H4 : Hid (_ ∧ _) := hMB
  clear hMB H3
  by_cases hlt : k < 6
  · have hrd : True := trivial
    clear hrd
    refine wp_seq ?_
    refine walk_seqA 1 [.quiet (.bool true)] (sB H4) ?ho4 ?he4
    case ho4 => exact ak (by refine fun γ => ⟨rfl, fun w' h => ?_⟩; clear h; go_simp <;> omega) trivial
    intro γ w5 l hM hl
    have H5 := keepK H4 hM.below
    clear hM hl l H4 γ
    refine rest0 rfl (then_normal (wp_seq ?_))
    refine wp_cond_true rfl (wp_skip ?_)
    refine then_normal (wp_seq ?_)
    refine wp_block (wp_seq ?_)
    refine walk_seqA 2 [.quiet (.int .i64 ((k : Nat) : Int)), .quiet (.int .i64 ((k : Nat) : Int))] (sB H5) ?ho5 ?he5
    case ho5 => exact ak (fun _ => ⟨rfl, fun _ _ => rfl⟩) (ak (fun _ => ⟨rfl, fun _ _ => rfl⟩) trivial)
    intro γ w6 l hM hl
    have H6 := keepK H5 hM.below
    clear hM hl l H5 γ
    refine rest0 rfl (then_normal (wp_seq ?_))
    refine walk_seqA 13 [.quiet (PT g 0), .quiet (.int .i64 ((k : Nat) : Int)), .quiet (PT g 0), .quiet (PT g 0), .quiet (PT g (0 + k)), .quiet (.int .u64 (wd b k)), .quiet (.int .u64 ((t : Nat) : Int)), .quiet (.int .u64 ((cc 0 t b k : Nat) : Int)), .call (.tuple #[.int .u64 (wd P k), .int .u64 ((cc 0 t b (k + 1) : Nat) : Int)]), .quiet (.tuple #[.int .u64 (wd P k), .int .u64 ((cc 0 t b (k + 1) : Nat) : Int)]), .quiet (.int .u64 (wd P k)), .quiet (.int .u64 ((cc 0 t b (k + 1) : Nat) : Int)), .quiet (.int .u64 (wd P k))] (sB H6) ?ho6 ?he6
    case ho6 => exact ak (fun _ => ⟨rfl, fun _ _ => rfl⟩) (ak (fun _ => ⟨rfl, fun _ _ => rfl⟩) (ak (by refine fun γ => ⟨rfl, fun w' h => ?_⟩; clear h; go_simp) (ak (by refine fun γ => ⟨rfl, fun w' h => ?_⟩; clear h; go_simp) (ak (fun γ => ⟨rfl, fun w' _ => ex_indexAddr6 rfl rfl rfl hlt⟩) (ak (fun γ => ⟨rfl, fun w' h => ex_load1 h 0 rfl rfl rfl (lec_lo hlt)⟩) (ak (fun _ => ⟨rfl, fun _ _ => rfl⟩) (ak (fun _ => ⟨rfl, fun _ _ => rfl⟩) (ak (fun γ => ⟨rfl, fun w' h => ⟨72, #[.int .u64 (wd b k), .int .u64 ((t : Nat) : Int), .int .u64 0, .int .u64 ((cc 0 t b k : Nat) : Int)], exec_call rfl call72 rfl (mpn rfl), CM.out k w'⟩⟩) (ak (fun _ => ⟨rfl, fun _ _ => rfl⟩) (ak (by refine fun γ => ⟨rfl, fun w' h => ?_⟩; clear h; go_simp) (ak (by refine fun γ => ⟨rfl, fun w' h => ?_⟩; clear h; go_simp) (ak (fun _ => ⟨rfl, fun _ _ => rfl⟩) trivial))))))))))))
    intro γ w7 l hM hl
    have H7 := keepK H6 hM.below
    clear hM hl l H6 γ
    refine rest_at (l := [13]) rfl ?_
    refine rest_set (d := 6) rfl rfl rfl rfl ?_
    simp only [Act.put, sa, sz, ss]
    refine rest_nil (then_normal ?_)
    refine walk_put (by kernel_rfl) 17 [13] [.quiet (PT g 0), .quiet (.int .i64 ((k : Nat) : Int)), .quiet (PT g 0), .quiet (.int .i64 ((k : Nat) : Int)), .quiet (PT g 0), .quiet (PT g 6), .quiet (PT g (6 + k)), .quiet (.int .u64 (wd L k)), .quiet (.int .u64 (wd P k)), .quiet (.int .u64 (brw L P k)), .quiet (.tuple #[.int .u64 (subLo (wd L k) (wd P k) (brw L P k)), .int .u64 (brw L P (k + 1))]), .quiet (.tuple #[.int .u64 (subLo (wd L k) (wd P k) (brw L P k)), .int .u64 (brw L P (k + 1))]), .quiet (.int .u64 (subLo (wd L k) (wd P k) (brw L P k))), .quiet (.int .u64 (brw L P (k + 1))), .quiet (PT g 0), .quiet (PT g 6), .quiet (PT g (6 + k))] _ ?pre7 ?F7 _ ?hpre7 (fun γ => ?hF7) (by kernel_rfl) rfl trivial (sB H7) ?ho7 ?hla7 ?he7
    case hpre7 => simp only [tk, tz]; rfl
    case hF7 => simp only [fill, Kind.val, Act.put, sa, sz, ss]; rfl
    case ho7 =>
      refine ak (fun _ => ⟨rfl, fun _ _ => rfl⟩) ?_
      refine ak (fun _ => ⟨rfl, fun _ _ => rfl⟩) ?_
      refine ak (fun _ => ⟨rfl, fun _ _ => rfl⟩) ?_
      refine ak (fun _ => ⟨rfl, fun _ _ => rfl⟩) ?_
      refine ak (by refine fun γ => ⟨rfl, fun w' h => ?_⟩; clear h; go_simp) ?_
      refine ak (by refine fun γ => ⟨rfl, fun w' h => ?_⟩; clear h; go_simp) ?_
      refine ak (fun γ => ⟨rfl, fun w' _ => ex_indexAddr6 rfl rfl rfl hlt⟩) ?_
      refine ak (fun γ => ⟨rfl, fun w' h => ex_load1 h 0 rfl rfl rfl (tkf_at hlt)⟩) ?_
      refine ak (fun _ => ⟨rfl, fun _ _ => rfl⟩) ?_
      refine ak (fun _ => ⟨rfl, fun _ _ => rfl⟩) ?_
      refine ak (fun γ => ⟨rfl, fun w' h => ex_extern rfl (CS.out k w') rfl (mpn rfl)⟩) ?_
      refine ak (fun _ => ⟨rfl, fun _ _ => rfl⟩) ?_
      refine ak (by refine fun γ => ⟨rfl, fun w' h => ?_⟩; clear h; go_simp) ?_
      refine ak (by refine fun γ => ⟨rfl, fun w' h => ?_⟩; clear h; go_simp) ?_
      refine ak (by refine fun γ => ⟨rfl, fun w' h => ?_⟩; clear h; go_simp) ?_
      refine ak (by refine fun γ => ⟨rfl, fun w' h => ?_⟩; clear h; go_simp) ?_
      refine ak (fun γ => ⟨rfl, fun w' _ => ex_indexAddr6 rfl rfl rfl hlt⟩) ?_
      exact trivial
    case hla7 => exact ⟨⟨_, _, rfl, rfl, fun γ => ⟨rfl, fun w' => by first | rfl | go_simp⟩⟩, trivial⟩
    intro γ w8 l hM hl
    have H8 := keepK H7 hM.below
    clear hM hl l H7 γ
    refine ⟨_, ex_storeI H8.out.1 0 rfl rfl Tryd.sizeOf31 rfl rfl (lec_bd hlt), ?_⟩
    have H9 : Hid (Mm (w8.setCells g (6 + k) [.int .u64 (subLo (wd L k) (wd P k) (brw L P k))]) [(g, lec b (tkf L P (k + 1)))] ∧ Kp g w (w8.setCells g (6 + k) [.int .u64 (subLo (wd L k) (wd P k) (brw L P k))])) := ⟨by
      have h := H8.out.1.put 0 (off := (6 + k)) (vs := [.int .u64 (subLo (wd L k) (wd P k) (brw L P k))]) rfl (lec_bd hlt)
      rw [lec_put hlt, tkf_step (take_word L P k hlt)] at h
      exact h, H8.out.2.put (Or.inl rfl)⟩
    clear H8
    generalize hgw : World.setCells _ _ _ _ = w9 at H9 ⊢
    clear hgw
    refine rest_at (l := [18]) rfl ?_
    refine rest_set (d := 7) rfl rfl rfl rfl ?_
    simp only [Act.put, sa, sz, ss]
    refine rest_nil (block_normal (then_normal ?_))
    refine walk_seqA 1 [.quiet (.int .i64 ((k + 1 : Nat) : Int))] (sB H9) ?ho8 ?he8
    case ho8 => exact ak (by refine fun γ => ⟨rfl, fun w' h => ?_⟩; clear h; go_simp; rw [IntKind.wrap_i64]; omega) trivial
    intro γ w10 l hM hl
    have H10 := keepK H9 hM.below
    clear hM hl l H9 γ
    refine rest_at (l := [1]) rfl ?_
    refine rest_set (d := 9) rfl rfl rfl rfl ?_
    simp only [Act.put, sa, sz, ss]
    refine rest_nil (then_normal ?_)
    exact ⟨k + 1, ⟨(slotfn [undef, undef, undef, undef, undef, .int .u64 (wd P k), undef, undef, .int .i64 ((k : Nat) : Int), undef, .bool true, .int .i64 ((k : Nat) : Int), .tuple #[.int .u64 (wd P k), .int .u64 ((cc 0 t b (k + 1) : Nat) : Int)], PT g 0, .int .i64 ((k : Nat) : Int), PT g 0, PT g 0, PT g (0 + k), .int .u64 (wd b k), .int .u64 ((t : Nat) : Int), .int .u64 ((cc 0 t b k : Nat) : Int), .tuple #[.int .u64 (wd P k), .int .u64 ((cc 0 t b (k + 1) : Nat) : Int)], .int .u64 (wd P k), .int .u64 ((cc 0 t b (k + 1) : Nat) : Int), .tuple #[.int .u64 (subLo (wd L k) (wd P k) (brw L P k)), .int .u64 (brw L P (k + 1))], PT g 0, .int .i64 ((k : Nat) : Int), PT g 0, .int .i64 ((k : Nat) : Int), PT g 0, PT g 6, PT g (6 + k), .int .u64 (wd L k), .int .u64 (wd P k), .int .u64 (brw L P k), .tuple #[.int .u64 (subLo (wd L k) (wd P k) (brw L P k)), .int .u64 (brw L P (k + 1))], .int .u64 (subLo (wd L k) (wd P k) (brw L P k)), .int .u64 (brw L P (k + 1)), PT g 0, PT g 6, PT g (6 + k), .int .i64 ((k + 1 : Nat) : Int)]), rfl, ⟨H10.out.1, H10.out.2⟩, by omega⟩, by omega⟩
  have hk6 : k = 6 := by omega
  subst hk6
  refine wp_seq ?_
  refine walk_seqA 1 [.quiet (.bool false)] (sB H4) ?ho9 ?he9
  case ho9 => exact ak (by refine fun γ => ⟨rfl, fun w' h => ?_⟩; clear h; go_simp <;> omega) trivial
  intro γ w11 l hM hl
  have H11 := keepK H4 hM.below
  clear hM hl l H4 γ
  refine rest0 rfl (then_normal (wp_seq (wp_cond_false rfl ?_)))
  refine wp_exit ?_
  repeat refine then_exit ?_
  refine block_exit ?_
  refine then_normal (wp_seq ?_)
  refine walk_seqA 4 [.quiet (.int .u64 ((cc 0 t b 6 : Nat) : Int)), .quiet (.int .u64 (brw L P 6)), .quiet (.int .u64 ((T : Nat) : Int)), .quiet (.int .u64 ((T : Nat) : Int))] (sB H11) ?ho10 ?he10
  case ho10 => exact ak (fun _ => ⟨rfl, fun _ _ => rfl⟩) (ak (fun _ => ⟨rfl, fun _ _ => rfl⟩) (ak (by refine fun γ => ⟨rfl, fun w' h => ?_⟩; clear h; go_simp) (ak (fun _ => ⟨rfl, fun _ _ => rfl⟩) trivial)))
  intro γ w12 l hM hl
  have H12 := keepK H11 hM.below
  clear hM hl l H11 γ
  refine rest0 rfl (then_normal (wp_ret ?_))
  repeat (first | refine then_ret ?_ | refine block_ret ?_)
  refine bodyPost_ret (v := .int .u64 ((T : Nat) : Int)) (by simp [results, Tryd.results83, go_sem, *]) rfl ?_
  exact ⟨rfl, H12.out.1.one 0 rfl, H12.out.2⟩
theorem cc_any (t b k : Nat) : cc 0 t b k = t * (b % 2 ^ (64 * k)) / 2 ^ (64 * k) := by unfold cc; rw [Nat.zero_mod, Nat.zero_add]
theorem cc_six (t b : Nat) (hb : b < big) : cc 0 t b 6 = t * b / big := by
  obtain ⟨m, hm, e⟩ := big_pow
  rw [← hm, cc_any, ← e, Nat.mod_eq_of_lt hb]
theorem brw_six (L P : Nat) (hL : L < big) : brw L P 6 = (((if L < P % big then 1 else 0 : Nat)) : Int) := by
  obtain ⟨m, hm, e⟩ := big_pow
  rw [← hm]
  unfold brw
  rw [← e, Nat.mod_eq_of_lt hL]
  split <;> rfl
/-- What taking lacks above. -/
def tkT (L t b : Nat) : Nat := t * b / big + (if L < t * b % big then 1 else 0)
theorem takeL_any (g b L t : Nat) (hL : L < big) (hb : b < big) (ht : t < 18446744073709551616) (w : World) (hm : Mm w [(g, lec b (wd L))]) :
    Calls Tryd.prog 83 #[PT g 0, .int .u64 ((t : Nat) : Int)] w fun e w' => e = .returned (.int .u64 ((tkT L t b : Nat) : Int)) ∧ Mm w' [(g, lec b (wd ((L + big - t * b % big) % big)))] ∧ Kp g w w' := by
  have hcl : ∀ k, cc 0 t b k < 18446744073709551616 := fun k => cc_lt 0 t b k ht
  have h6 := cc_six t b hb
  have hb6 := brw_six L (t * b) hL
  have hT : IntKind.u64.wrap (((cc 0 t b 6 : Nat) : Int) + brw L (t * b) 6) = ((tkT L t b : Nat) : Int) := by
    have h1 : t * b / big < 18446744073709551615 := by
      rw [Nat.div_lt_iff_lt_mul big_pos2]
      rcases Nat.eq_zero_or_pos t with h | h
      · rw [h, Nat.zero_mul]; exact Nat.mul_pos (by decide) big_pos2
      · have : t * b < t * big := Nat.mul_lt_mul_of_pos_left hb h
        exact Nat.lt_of_lt_of_le this (Nat.mul_le_mul (by omega) (Nat.le_refl big))
    rw [IntKind.wrap_u64, h6, hb6]
    unfold tkT
    generalize t * b / big = q at h1
    split <;> omega
  have cm : ∀ k w, Calls Tryd.prog 72 #[.int .u64 (wd b k), .int .u64 ((t : Nat) : Int), .int .u64 0, .int .u64 ((cc 0 t b k : Nat) : Int)] w fun e w' => e = .returned (.tuple #[.int .u64 (wd (t * b) k), .int .u64 ((cc 0 t b (k + 1) : Nat) : Int)]) ∧ Below w.heap.size w w' := fun k w => by
    have h := mulAddM_any (wd b k) ((t : Nat) : Int) 0 ((cc 0 t b k : Nat) : Int) (wd_bd _ _).1 (wd_bd _ _).2 (Int.natCast_nonneg _) (by omega) (by omega) (by omega) (Int.natCast_nonneg _) (by have := hcl k; omega) w
    have e1 := cc_lo 0 t b k
    have e2 := cc_hi 0 t b k
    rw [Nat.zero_add, wd_zero] at e1
    rw [wd_zero] at e2
    rw [mulLo_comm, mulHi_comm, e1, e2] at h
    exact h.mono fun e w2 ⟨h1, h2⟩ => ⟨h1, h2 ▸ Below.refl _ _⟩
  have cs : ∀ k w, (callFunc 74 #[.int .u64 (wd L k), .int .u64 (wd (t * b) k), .int .u64 (brw L (t * b) k)]).run Tryd.prog w = .ok (.value (.tuple #[.int .u64 (subLo (wd L k) (wd (t * b) k) (brw L (t * b) k)), .int .u64 (brw L (t * b) (k + 1))])) w := fun k w => by
    have h := sub64' (wd L k) (wd (t * b) k) (brw L (t * b) k) (wd_bd _ _).1 (wd_bd _ _).1 (wd_bd _ _).2 (brw_bd _ _ _).1 (brw_bd _ _ _).2 w
    rw [sub_cry] at h
    exact h
  have h := take_gen g b L t (t * b) (tkT L t b) hT (by rw [cc_zero]) (by unfold brw; simp [Nat.mod_one]) cm cs w hm
  rw [tkf_end] at h
  exact h
end Rg
end Go.Proofs.YtkkloakcphigeaaDoor
end
section
namespace Go.Proofs.YtkkloakcphigeaaDoor
open Go.RowKit
namespace Rg
theorem Kp.join {g : Nat} {a b c : World} (h : Kp g a b) (k : Kp g b c) : Kp g a c :=
  ⟨k.os.trans h.os, k.tape.trans h.tape, k.output.trans h.output, Nat.le_trans h.size k.size, fun i hi hg => (k.block i (Nat.lt_of_lt_of_le hi h.size) hg).trans (h.block i hi hg)⟩
set_option maxHeartbeats 1000000 in
set_option maxRecDepth 100000 in
theorem step_gen (g b L L1 a0 t T D : Nat) (i : Int) (f : Nat → Nat) (A : Nat → Int) (cr : Nat → Bool)
    (h00 : A 0 = 0) (hN : ∀ x, x + 1 ≤ D → ¬ A (x + 1) = 0) (hD : IntKind.u64.wrap (((a0 : Nat) : Int) - ((T : Nat) : Int)) = A D)
    (hT : ∀ x, cr x = true → IntKind.u64.wrap (A (x + 1) + 1) = A x) (hF : ∀ x, cr x = false → A (x + 1) = A x)
    (cs : ∀ w, Mm w [(g, lec b (wd L))] → Calls Tryd.prog 82 #[PT g 0, .int .i64 i] w fun e w' => e = .returned (.int .u64 ((a0 : Nat) : Int)) ∧ Mm w' [(g, lec b (wd L1))] ∧ Kp g w w')
    (cg : ∀ w, Calls Tryd.prog 84 #[.int .u64 ((a0 : Nat) : Int), .int .u64 (wd L1 5), .int .u64 (wd b 5)] w fun e w' => e = .returned (.int .u64 ((t : Nat) : Int)) ∧ Below w.heap.size w w')
    (ct : ∀ w, Mm w [(g, lec b (wd L1))] → Calls Tryd.prog 83 #[PT g 0, .int .u64 ((t : Nat) : Int)] w fun e w' => e = .returned (.int .u64 ((T : Nat) : Int)) ∧ Mm w' [(g, lec b (wd (f D)))] ∧ Kp g w w')
    (ca : ∀ x w, Calls Tryd.prog 55 #[N (f (x + 1)), N b] w fun e w' => e = .returned (.tuple #[N (f x), .bool (cr x)]) ∧ Below w.heap.size w w') (w : World) (hm : Mm w [(g, lec b (wd L))]) :
    Calls Tryd.prog 81 #[PT g 0, .int .i64 i] w fun e w' => e = .returned (.tuple #[]) ∧ Mm w' [(g, lec b (wd (f 0)))] ∧ Kp g w w' := by
  have H0 : Hid (_ ∧ _) := ⟨hm, Kp.refl g w⟩
  clear hm
  have CS : Hid _ := cs
  have CG : Hid _ := cg
  have CT : Hid _ := ct
  have CA : Hid _ := ca
  have HN : Hid _ := hN
  have H00 : Hid _ := h00
  have HT : Hid _ := hT
  have HF : Hid _ := hF
  clear cs cg ct ca hN h00 hT hF
  go_enter Tryd.func81, Tryd.ntmps81
  refine wp_seq ?_
  refine walk_seqA 2 [.quiet (PT g 0), .quiet (.int .i64 i)] (sB H0) ?ho1 ?he1
  case ho1 => exact ak (fun _ => ⟨rfl, fun _ _ => rfl⟩) (ak (fun _ => ⟨rfl, fun _ _ => rfl⟩) trivial)
  intro γ w1 l hM hl
  have H1 := keepK H0 hM.below
  clear hM hl l γ
  refine rest_at (l := [2, 3]) rfl ?_
  refine rest_enter (d := 10) (R := fun vv w' => vv = .int .u64 ((a0 : Nat) : Int) ∧ Mm w' [(g, lec b (wd L1))] ∧ Kp g w1 w') rfl rfl rfl (exec_call (args := #[PT g 0, .int .i64 i]) rfl call82 rfl (mpn rfl)) (Calls.mono (CS.out w1 (H1.out.1.one 0 rfl)) (fun e w2 hh => ⟨_, hh.1, rfl, hh.2⟩)) ?_
  rintro _ w2 ⟨rfl, hn, hp⟩
  have H2 : Hid (Mm w2 [(g, lec b (wd L1))] ∧ Kp g w w2) := ⟨H1.out.1.change 0 rfl hp hn, H1.out.2.join hp⟩
  clear hn hp H1
  simp only [Act.put, sa, sz, ss]
  refine rest_set (d := 4) rfl rfl rfl rfl ?_
  simp only [Act.put, sa, sz, ss]
  refine rest_nil (then_normal (wp_seq ?_))
  refine walk_seqA 1 [.quiet (.int .i64 5)] (sB H2) ?ho2 ?he2
  case ho2 => exact ak (fun _ => ⟨rfl, fun _ _ => rfl⟩) trivial
  intro γ w3 l hM hl
  have H3 := keepK H2 hM.below
  clear hM hl l H2 γ
  refine rest0 rfl (then_normal (wp_seq ?_))
  refine walk_enter (by kernel_rfl) 16 [0] [.quiet (.int .u64 ((a0 : Nat) : Int)), .quiet (PT g 0), .quiet (.int .u64 ((a0 : Nat) : Int)), .quiet (PT g 0), .quiet (.int .i64 5), .quiet (PT g 0), .quiet (PT g 6), .quiet (PT g 11), .quiet (.int .u64 (wd L1 5)), .quiet (PT g 0), .quiet (.int .i64 5), .quiet (PT g 0), .quiet (PT g 0), .quiet (PT g 5), .quiet (.int .u64 (wd b 5)), .call (.int .u64 ((t : Nat) : Int))] _ ?pre3 ?F3 ?G3 _ 27 (.int .u64 ((T : Nat) : Int)) ?hpre3 (fun γ => ?hF3) (fun γ => ?hG3) (by kernel_rfl) rfl trivial (sB H3) ?ho3 ?hla3 ?he3
  case hpre3 => simp only [tk, tz]; rfl
  case hF3 => simp only [fill, Kind.val, Act.put, sa, sz, ss]; rfl
  case hG3 => simp only [fill, Kind.val, Act.put, sa, sz, ss]; rfl
  case ho3 =>
    refine ak (fun _ => ⟨rfl, fun _ _ => rfl⟩) ?_
    refine ak (fun _ => ⟨rfl, fun _ _ => rfl⟩) ?_
    refine ak (fun _ => ⟨rfl, fun _ _ => rfl⟩) ?_
    refine ak (fun _ => ⟨rfl, fun _ _ => rfl⟩) ?_
    refine ak (fun _ => ⟨rfl, fun _ _ => rfl⟩) ?_
    refine ak (by refine fun γ => ⟨rfl, fun w' h => ?_⟩; clear h; go_simp) ?_
    refine ak (by refine fun γ => ⟨rfl, fun w' h => ?_⟩; clear h; go_simp) ?_
    refine ak (by refine fun γ => ⟨rfl, fun w' h => ?_⟩; clear h; go_simp) ?_
    refine ak (fun γ => ⟨rfl, fun w' h => ex_load1 h 0 rfl rfl rfl rfl⟩) ?_
    refine ak (fun _ => ⟨rfl, fun _ _ => rfl⟩) ?_
    refine ak (fun _ => ⟨rfl, fun _ _ => rfl⟩) ?_
    refine ak (by refine fun γ => ⟨rfl, fun w' h => ?_⟩; clear h; go_simp) ?_
    refine ak (by refine fun γ => ⟨rfl, fun w' h => ?_⟩; clear h; go_simp) ?_
    refine ak (by refine fun γ => ⟨rfl, fun w' h => ?_⟩; clear h; go_simp) ?_
    refine ak (fun γ => ⟨rfl, fun w' h => ex_load1 h 0 rfl rfl rfl rfl⟩) ?_
    refine ak (fun γ => ⟨rfl, fun w' h => ⟨84, #[.int .u64 ((a0 : Nat) : Int), .int .u64 (wd L1 5), .int .u64 (wd b 5)], exec_call rfl call84 rfl (mpn rfl), CG.out w'⟩⟩) ?_
    exact trivial
  case hla3 => exact ⟨⟨_, _, rfl, rfl, fun γ => ⟨rfl, fun w' => by first | rfl | go_simp⟩⟩, trivial⟩
  intro γ w4 l hM hl
  have H4 := keepK H3 hM.below
  clear hM hl l H3 γ
  refine ⟨83, #[PT g 0, .int .u64 ((t : Nat) : Int)], (fun w' => Mm w' [(g, lec b (wd (f D)))] ∧ Kp g w4 w'), exec_call (args := #[PT g 0, .int .u64 ((t : Nat) : Int)]) rfl call83 rfl (mpn rfl), CT.out w4 (H4.out.1.one 0 rfl), ?_⟩
  rintro w5 ⟨hn, hp⟩
  have H5 : Hid (Mm w5 [(g, lec b (wd (f D)))] ∧ Kp g w w5) := ⟨H4.out.1.change 0 rfl hp hn, H4.out.2.join hp⟩
  clear hn hp H4
  refine rest_at (l := [17, 18]) rfl ?_
  refine rest_set (d := 28) (v := .int .u64 (A D)) (w' := w5) rfl rfl rfl (by go_simp) ?_
  simp only [Act.put, sa, sz, ss]
  refine rest_set (d := 4) rfl rfl rfl rfl ?_
  simp only [Act.put, sa, sz, ss]
  refine rest_nil (then_normal (wp_block ?_))
  refine loop_ghost (α := Nat) (fun d a' w' => ∃ s0 : Nat → Value, a' = ⟨#[PT g 0, .int .i64 i, undef, undef, .int .u64 (A d), .int .i64 5, s0 6, s0 7, PT g 0, .int .i64 i, .int .u64 ((a0 : Nat) : Int), .int .u64 ((a0 : Nat) : Int), PT g 0, .int .u64 ((a0 : Nat) : Int), PT g 0, .int .i64 5, PT g 0, PT g 6, PT g 11, .int .u64 (wd L1 5), PT g 0, .int .i64 5, PT g 0, PT g 0, PT g 5, .int .u64 (wd b 5), .int .u64 ((t : Nat) : Int), .int .u64 ((T : Nat) : Int), .int .u64 (A D), s0 29, s0 30, s0 31, s0 32, s0 33, s0 34, s0 35, s0 36, s0 37, s0 38, s0 39, s0 40, s0 41, s0 42, s0 43, s0 44, s0 45, s0 46, s0 47, s0 48, s0 49], []⟩ ∧ (Mm w' [(g, lec b (wd (f d)))] ∧ Kp g w w') ∧ d ≤ D) (fun d => d) D ?st0 ?rd0
  case st0 => exact ⟨(slotfn [undef, undef, undef, undef, undef, undef, undef, undef, undef, undef, undef, undef, undef, undef, undef, undef, undef, undef, undef, undef, undef, undef, undef, undef, undef, undef, undef, undef, undef, undef, undef, undef, undef, undef, undef, undef, undef, undef, undef, undef, undef, undef, undef, undef, undef, undef, undef, undef, undef, undef]), rfl, ⟨H5.out.1, H5.out.2⟩, by omega⟩
  intro d a' w6 hI
  obtain ⟨s0, rfl, hMB, hk0⟩ := hI
  have H6 : Hid (_ ∧ _) := hMB
  clear hMB H5
  by_cases hlt : 0 < d
  · have hrd : True := trivial
    clear hrd
    obtain ⟨x, hx⟩ : ∃ x, d = x + 1 := ⟨d - 1, by omega⟩
    subst hx
    have hne := HN.out x (by omega)
    rcases Bool.eq_false_or_eq_true (cr x) with hcr | hcr
    · have hrd : True := trivial
      clear hrd
      have cA := CA.out x
      rw [hcr] at cA
      have CA1 : Hid _ := cA
      have hAt := HT.out x hcr
      clear cA
      refine wp_seq (wp_seq ?_)
      refine walk_seqA 2 [.quiet (.int .u64 (A (x + 1))), .quiet (.bool true)] (sB H6) ?ho4 ?he4
      case ho4 => exact ak (fun _ => ⟨rfl, fun _ _ => rfl⟩) (ak (by refine fun γ => ⟨rfl, fun w' h => ?_⟩; clear h; go_simp <;> omega) trivial)
      intro γ w7 l hM hl
      have H7 := keepK H6 hM.below
      clear hM hl l H6 γ
      refine rest0 rfl (then_normal (wp_cond_true rfl ?_))
      refine wp_skip (then_normal ?_)
      refine wp_block (wp_seq ?_)
      refine walk_anyA 15 [.quiet (PT g 0), .quiet (PT g 0), .quiet (PT g 6), .quiet (N (f (x + 1))), .quiet (PT g 0), .quiet (PT g 0), .quiet (PT g 0), .quiet (N b), .call (.tuple #[N (f x), .bool true]), .quiet (.tuple #[N (f x), .bool true]), .quiet (N (f x)), .quiet (.bool true), .made zero6 33, .laid 12 zero6 (cells6 (f x)), .quiet (.bool true)] (sB H7) ?ho5 ?he5 (hL := ?hL5)
      case hL5 => exact ⟨⟨_, rfl⟩, trivial⟩
      case ho5 => exact ak (fun _ => ⟨rfl, fun _ _ => rfl⟩) (ak (by refine fun γ => ⟨rfl, fun w' h => ?_⟩; clear h; go_simp) (ak (by refine fun γ => ⟨rfl, fun w' h => ?_⟩; clear h; go_simp) (ak (fun γ => ⟨rfl, fun w' h => ex_load6 h 0 rfl rfl rfl rfl⟩) (ak (fun _ => ⟨rfl, fun _ _ => rfl⟩) (ak (by refine fun γ => ⟨rfl, fun w' h => ?_⟩; clear h; go_simp) (ak (by refine fun γ => ⟨rfl, fun w' h => ?_⟩; clear h; go_simp) (ak (fun γ => ⟨rfl, fun w' h => ex_load6 h 0 rfl rfl rfl rfl⟩) (ak (fun γ => ⟨rfl, fun w' h => ⟨55, #[N (f (x + 1)), N b], exec_call rfl call55 rfl (mpn rfl), CA1.out w'⟩⟩) (ak (fun _ => ⟨rfl, fun _ _ => rfl⟩) (ak (by refine fun γ => ⟨rfl, fun w' h => ?_⟩; clear h; go_simp) (ak (by refine fun γ => ⟨rfl, fun w' h => ?_⟩; clear h; go_simp) (ak (fun γ => ⟨rfl, fun w' => exec_made6 rfl⟩) (ak (fun γ => ⟨rfl, rfl, rfl, fun w' h => exec_laid6 h rfl rfl rfl⟩) (ak (fun _ => ⟨rfl, fun _ _ => rfl⟩) trivial))))))))))))))
      intro γ w8 l hM hl
      have H8 : Hid (Mm w8 [(γ 12, cells6 (f x)), (g, lec b (wd (f (x + 1))))] ∧ _) := growK H7 hM (Nat.le_refl _) hl [12] rfl (by decide)
      have o5_12 := ownK H7 hM (Nat.le_refl _) hl (i := 12) rfl
      clear hM hl l H7
      generalize γ 12 = γ5_12 at H8 o5_12 ⊢
      clear γ
      refine rest0 rfl (then_normal (wp_seq ?_))
      refine walk_seqA 4 [.quiet (PT g 0), .quiet (N (f x)), .quiet (PT g 0), .quiet (PT g 6)] (sB H8) ?ho6 ?he6
      case ho6 => exact ak (fun _ => ⟨rfl, fun _ _ => rfl⟩) (ak (fun γ => ⟨rfl, fun w' h => ex_load6 h 0 rfl rfl rfl rfl⟩) (ak (by refine fun γ => ⟨rfl, fun w' h => ?_⟩; clear h; go_simp) (ak (by refine fun γ => ⟨rfl, fun w' h => ?_⟩; clear h; go_simp) trivial)))
      intro γ w9 l hM hl
      have H9 := keepK H8 hM.below
      clear hM hl l H8 γ
      refine rest_at (l := [4]) rfl ?_
      refine rest_store rfl rfl rfl (ex_store6 H9.out.1 1 rfl rfl rfl rfl (Nat.le_of_ble_eq_true rfl)) ?_
      have H10 : Hid (Mm (w9.setCells g 6 (cells6 (f x))) [(γ5_12, cells6 (f x)), (g, lec b (wd (f x)))] ∧ Kp g w (w9.setCells g 6 (cells6 (f x)))) := ⟨H9.out.1.put 1 (off := 6) (vs := cells6 (f x)) rfl (Nat.le_of_ble_eq_true rfl), H9.out.2.put (Or.inl rfl)⟩
      clear H9
      generalize hgw : World.setCells _ _ _ _ = w10 at H10 ⊢
      clear hgw
      refine rest_nil (then_normal (wp_seq ?_))
      refine walk_seqA 1 [.quiet (.bool true)] (sB H10) ?ho7 ?he7
      case ho7 => exact ak (fun _ => ⟨rfl, fun _ _ => rfl⟩) trivial
      intro γ w11 l hM hl
      have H11 := keepK H10 hM.below
      clear hM hl l H10 γ
      refine rest0 rfl (then_normal (wp_cond_true rfl ?_))
      refine walk_seqA 2 [.quiet (.int .u64 (A (x + 1))), .quiet (.int .u64 (A x))] (sB H11) ?ho8 ?he8
      case ho8 => exact ak (fun _ => ⟨rfl, fun _ _ => rfl⟩) (ak (by refine fun γ => ⟨rfl, fun w' h => ?_⟩; clear h; go_simp; try exact hAt) trivial)
      intro γ w12 l hM hl
      have H12 := keepK H11 hM.below
      clear hM hl l H11 γ
      refine rest_at (l := [2]) rfl ?_
      refine rest_set (d := 4) rfl rfl rfl rfl ?_
      simp only [Act.put, sa, sz, ss]
      refine rest_nil (block_normal (then_normal ?_))
      exact ⟨x, ⟨(slotfn [undef, undef, undef, undef, undef, undef, PT γ5_12 0, .bool true, undef, undef, undef, undef, undef, undef, undef, undef, undef, undef, undef, undef, undef, undef, undef, undef, undef, undef, undef, undef, undef, .int .u64 (A (x + 1)), .bool true, .tuple #[N (f x), .bool true], PT g 0, PT g 0, PT g 6, N (f (x + 1)), PT g 0, PT g 0, PT g 0, N b, .tuple #[N (f x), .bool true], N (f x), .bool true, PT g 0, N (f x), PT g 0, PT g 6, .bool true, .int .u64 (A (x + 1)), .int .u64 (A x)]), rfl, ⟨H12.out.1.tail, H12.out.2⟩, by omega⟩, by omega⟩
    · have hrd : True := trivial
      clear hrd
      have cA := CA.out x
      rw [hcr] at cA
      have CA1 : Hid _ := cA
      have hAf := HF.out x hcr
      clear cA
      rw [hAf]
      rw [hAf] at hne
      refine wp_seq (wp_seq ?_)
      refine walk_seqA 2 [.quiet (.int .u64 (A x)), .quiet (.bool true)] (sB H6) ?ho9 ?he9
      case ho9 => exact ak (fun _ => ⟨rfl, fun _ _ => rfl⟩) (ak (by refine fun γ => ⟨rfl, fun w' h => ?_⟩; clear h; go_simp <;> omega) trivial)
      intro γ w13 l hM hl
      have H13 := keepK H6 hM.below
      clear hM hl l H6 γ
      refine rest0 rfl (then_normal (wp_cond_true rfl ?_))
      refine wp_skip (then_normal ?_)
      refine wp_block (wp_seq ?_)
      refine walk_anyA 15 [.quiet (PT g 0), .quiet (PT g 0), .quiet (PT g 6), .quiet (N (f (x + 1))), .quiet (PT g 0), .quiet (PT g 0), .quiet (PT g 0), .quiet (N b), .call (.tuple #[N (f x), .bool false]), .quiet (.tuple #[N (f x), .bool false]), .quiet (N (f x)), .quiet (.bool false), .made zero6 33, .laid 12 zero6 (cells6 (f x)), .quiet (.bool false)] (sB H13) ?ho10 ?he10 (hL := ?hL10)
      case hL10 => exact ⟨⟨_, rfl⟩, trivial⟩
      case ho10 => exact ak (fun _ => ⟨rfl, fun _ _ => rfl⟩) (ak (by refine fun γ => ⟨rfl, fun w' h => ?_⟩; clear h; go_simp) (ak (by refine fun γ => ⟨rfl, fun w' h => ?_⟩; clear h; go_simp) (ak (fun γ => ⟨rfl, fun w' h => ex_load6 h 0 rfl rfl rfl rfl⟩) (ak (fun _ => ⟨rfl, fun _ _ => rfl⟩) (ak (by refine fun γ => ⟨rfl, fun w' h => ?_⟩; clear h; go_simp) (ak (by refine fun γ => ⟨rfl, fun w' h => ?_⟩; clear h; go_simp) (ak (fun γ => ⟨rfl, fun w' h => ex_load6 h 0 rfl rfl rfl rfl⟩) (ak (fun γ => ⟨rfl, fun w' h => ⟨55, #[N (f (x + 1)), N b], exec_call rfl call55 rfl (mpn rfl), CA1.out w'⟩⟩) (ak (fun _ => ⟨rfl, fun _ _ => rfl⟩) (ak (by refine fun γ => ⟨rfl, fun w' h => ?_⟩; clear h; go_simp) (ak (by refine fun γ => ⟨rfl, fun w' h => ?_⟩; clear h; go_simp) (ak (fun γ => ⟨rfl, fun w' => exec_made6 rfl⟩) (ak (fun γ => ⟨rfl, rfl, rfl, fun w' h => exec_laid6 h rfl rfl rfl⟩) (ak (fun _ => ⟨rfl, fun _ _ => rfl⟩) trivial))))))))))))))
      intro γ w14 l hM hl
      have H14 : Hid (Mm w14 [(γ 12, cells6 (f x)), (g, lec b (wd (f (x + 1))))] ∧ _) := growK H13 hM (Nat.le_refl _) hl [12] rfl (by decide)
      have o10_12 := ownK H13 hM (Nat.le_refl _) hl (i := 12) rfl
      clear hM hl l H13
      generalize γ 12 = γ10_12 at H14 o10_12 ⊢
      clear γ
      refine rest0 rfl (then_normal (wp_seq ?_))
      refine walk_seqA 4 [.quiet (PT g 0), .quiet (N (f x)), .quiet (PT g 0), .quiet (PT g 6)] (sB H14) ?ho11 ?he11
      case ho11 => exact ak (fun _ => ⟨rfl, fun _ _ => rfl⟩) (ak (fun γ => ⟨rfl, fun w' h => ex_load6 h 0 rfl rfl rfl rfl⟩) (ak (by refine fun γ => ⟨rfl, fun w' h => ?_⟩; clear h; go_simp) (ak (by refine fun γ => ⟨rfl, fun w' h => ?_⟩; clear h; go_simp) trivial)))
      intro γ w15 l hM hl
      have H15 := keepK H14 hM.below
      clear hM hl l H14 γ
      refine rest_at (l := [4]) rfl ?_
      refine rest_store rfl rfl rfl (ex_store6 H15.out.1 1 rfl rfl rfl rfl (Nat.le_of_ble_eq_true rfl)) ?_
      have H16 : Hid (Mm (w15.setCells g 6 (cells6 (f x))) [(γ10_12, cells6 (f x)), (g, lec b (wd (f x)))] ∧ Kp g w (w15.setCells g 6 (cells6 (f x)))) := ⟨H15.out.1.put 1 (off := 6) (vs := cells6 (f x)) rfl (Nat.le_of_ble_eq_true rfl), H15.out.2.put (Or.inl rfl)⟩
      clear H15
      generalize hgw : World.setCells _ _ _ _ = w16 at H16 ⊢
      clear hgw
      refine rest_nil (then_normal (wp_seq ?_))
      refine walk_seqA 1 [.quiet (.bool false)] (sB H16) ?ho12 ?he12
      case ho12 => exact ak (fun _ => ⟨rfl, fun _ _ => rfl⟩) trivial
      intro γ w17 l hM hl
      have H17 := keepK H16 hM.below
      clear hM hl l H16 γ
      refine rest0 rfl (then_normal (wp_cond_false rfl ?_))
      refine wp_skip (block_normal (then_normal ?_))
      exact ⟨x, ⟨(slotfn [undef, undef, undef, undef, undef, undef, PT γ10_12 0, .bool false, undef, undef, undef, undef, undef, undef, undef, undef, undef, undef, undef, undef, undef, undef, undef, undef, undef, undef, undef, undef, undef, .int .u64 (A x), .bool true, .tuple #[N (f x), .bool false], PT g 0, PT g 0, PT g 6, N (f (x + 1)), PT g 0, PT g 0, PT g 0, N b, .tuple #[N (f x), .bool false], N (f x), .bool false, PT g 0, N (f x), PT g 0, PT g 6, .bool false, s0 48, s0 49]), rfl, ⟨H17.out.1.tail, H17.out.2⟩, by omega⟩, by omega⟩
  have hd0 : d = 0 := by omega
  subst hd0
  have hA0 := H00.out
  refine wp_seq (wp_seq ?_)
  refine walk_seqA 2 [.quiet (.int .u64 (A 0)), .quiet (.bool false)] (sB H6) ?ho13 ?he13
  case ho13 => exact ak (fun _ => ⟨rfl, fun _ _ => rfl⟩) (ak (by refine fun γ => ⟨rfl, fun w' h => ?_⟩; clear h; go_simp <;> omega) trivial)
  intro γ w18 l hM hl
  have H18 := keepK H6 hM.below
  clear hM hl l H6 γ
  refine rest0 rfl (then_normal (wp_cond_false rfl ?_))
  refine wp_exit ?_
  repeat refine then_exit ?_
  refine block_exit ?_
  refine bodyPost_end (v := .tuple #[]) (by simp [results, Tryd.results81, go_sem]) rfl ?_
  exact ⟨rfl, H18.out.1.one 0 rfl, H18.out.2⟩
set_option maxHeartbeats 1000000 in
set_option maxRecDepth 100000 in
theorem double_gen (g b L1 K j : Nat) (f : Nat → Nat) (hK : K < 1000) (hj : j ≤ 64) (hKj : 0 < K → 0 < j)
    (cf : ∀ k w, Mm w [(g, lec b (wd (f k)))] → Calls Tryd.prog 81 #[PT g 0, .int .i64 64] w fun e w' => e = .returned (.tuple #[]) ∧ Mm w' [(g, lec b (wd (f (k + 1))))] ∧ Kp g w w')
    (cl : ∀ w, Mm w [(g, lec b (wd (f K)))] → Calls Tryd.prog 81 #[PT g 0, .int .i64 ((64 * (K - K) + j : Nat) : Int)] w fun e w' => e = .returned (.tuple #[]) ∧ Mm w' [(g, lec b (wd L1))] ∧ Kp g w w') (w : World) (hm : Mm w [(g, lec b (wd (f 0)))]) :
    Calls Tryd.prog 78 #[PT g 0, .int .i64 ((64 * (K - 0) + j : Nat) : Int)] w fun e w' => e = .returned (.tuple #[]) ∧ Mm w' [(g, lec b (wd L1))] ∧ Kp g w w' := by
  have H0 : Hid (_ ∧ _) := ⟨hm, Kp.refl g w⟩
  clear hm
  have CF : Hid _ := cf
  have CL : Hid _ := cl
  clear cf cl
  go_enter Tryd.func78, Tryd.ntmps78
  refine wp_seq (wp_block ?_)
  refine loop_ghost (α := Nat) (fun k a' w' => ∃ s0 : Nat → Value, a' = ⟨#[PT g 0, .int .i64 ((64 * (K - k) + j : Nat) : Int), undef, undef, s0 4, s0 5, s0 6, s0 7, s0 8, s0 9, undef, undef, undef], []⟩ ∧ (Mm w' [(g, lec b (wd (f k)))] ∧ Kp g w w') ∧ k ≤ K) (fun k => K - k) 0 ?st0 ?rd0
  case st0 => exact ⟨(slotfn [undef, undef, undef, undef, undef, undef, undef, undef, undef, undef]), rfl, ⟨H0.out.1, H0.out.2⟩, by omega⟩
  intro k a' w1 hI
  obtain ⟨s0, rfl, hMB, hk0⟩ := hI
  have H1 : Hid (_ ∧ _) := hMB
  clear hMB
  by_cases hlt : k < K
  · have hrd : True := trivial
    clear hrd
    refine wp_seq (wp_seq ?_)
    refine walk_seqA 2 [.quiet (.int .i64 ((64 * (K - k) + j : Nat) : Int)), .quiet (.bool true)] (sB H1) ?ho1 ?he1
    case ho1 => exact ak (fun _ => ⟨rfl, fun _ _ => rfl⟩) (ak (by refine fun γ => ⟨rfl, fun w' h => ?_⟩; clear h; go_simp <;> omega) trivial)
    intro γ w2 l hM hl
    have H2 := keepK H1 hM.below
    clear hM hl l H1 γ
    refine rest0 rfl (then_normal (wp_cond_true rfl ?_))
    refine wp_skip (then_normal ?_)
    refine wp_seq (wp_block ?_)
    refine walk_seqA 1 [.quiet (PT g 0)] (sB H2) ?ho2 ?he2
    case ho2 => exact ak (fun _ => ⟨rfl, fun _ _ => rfl⟩) trivial
    intro γ w3 l hM hl
    have H3 := keepK H2 hM.below
    clear hM hl l H2 γ
    refine rest_at (l := [1]) rfl ?_
    refine rest_enter (d := 9) (R := fun vv w' => vv = .tuple #[] ∧ Mm w' [(g, lec b (wd (f (k + 1))))] ∧ Kp g w3 w') rfl rfl rfl (exec_call (args := #[PT g 0, .int .i64 64]) rfl call81 rfl (mpn rfl)) (Calls.mono (CF.out k w3 (H3.out.1.one 0 rfl)) (fun e w2 hh => ⟨_, hh.1, rfl, hh.2⟩)) ?_
    rintro _ w4 ⟨rfl, hn, hp⟩
    have H4 : Hid (Mm w4 [(g, lec b (wd (f (k + 1))))] ∧ Kp g w w4) := ⟨H3.out.1.change 0 rfl hp hn, H3.out.2.join hp⟩
    clear hn hp H3
    simp only [Act.put, sa, sz, ss]
    refine rest_nil (block_normal (then_normal ?_))
    refine walk_seqA 2 [.quiet (.int .i64 ((64 * (K - k) + j : Nat) : Int)), .quiet (.int .i64 ((64 * (K - (k + 1)) + j : Nat) : Int))] (sB H4) ?ho3 ?he3
    case ho3 => exact ak (fun _ => ⟨rfl, fun _ _ => rfl⟩) (ak (by refine fun γ => ⟨rfl, fun w' h => ?_⟩; clear h; go_simp; rw [IntKind.wrap_i64]; omega) trivial)
    intro γ w5 l hM hl
    have H5 := keepK H4 hM.below
    clear hM hl l H4 γ
    refine rest_at (l := [2]) rfl ?_
    refine rest_set (d := 1) rfl rfl rfl rfl ?_
    simp only [Act.put, sa, sz, ss]
    refine rest_nil (then_normal ?_)
    exact ⟨k + 1, ⟨(slotfn [undef, undef, undef, undef, .int .i64 ((64 * (K - k) + j : Nat) : Int), .bool true, .int .i64 ((64 * (K - k) + j : Nat) : Int), .int .i64 ((64 * (K - (k + 1)) + j : Nat) : Int), PT g 0, .tuple #[]]), rfl, ⟨H5.out.1, H5.out.2⟩, by omega⟩, by omega⟩
  have hkK : k = K := by omega
  subst hkK
  refine wp_seq (wp_seq ?_)
  refine walk_seqA 2 [.quiet (.int .i64 ((64 * (k - k) + j : Nat) : Int)), .quiet (.bool false)] (sB H1) ?ho4 ?he4
  case ho4 => exact ak (fun _ => ⟨rfl, fun _ _ => rfl⟩) (ak (by refine fun γ => ⟨rfl, fun w' h => ?_⟩; clear h; go_simp <;> omega) trivial)
  intro γ w6 l hM hl
  have H6 := keepK H1 hM.below
  clear hM hl l H1 γ
  refine rest0 rfl (then_normal (wp_cond_false rfl ?_))
  refine wp_exit ?_
  repeat refine then_exit ?_
  refine block_exit ?_
  refine then_normal ?_
  refine walk_seqA 2 [.quiet (PT g 0), .quiet (.int .i64 ((64 * (k - k) + j : Nat) : Int))] (sB H6) ?ho5 ?he5
  case ho5 => exact ak (fun _ => ⟨rfl, fun _ _ => rfl⟩) (ak (fun _ => ⟨rfl, fun _ _ => rfl⟩) trivial)
  intro γ w7 l hM hl
  have H7 := keepK H6 hM.below
  clear hM hl l H6 γ
  refine rest_at (l := [2]) rfl ?_
  refine rest_enter (d := 12) (R := fun vv w' => vv = .tuple #[] ∧ Mm w' [(g, lec b (wd L1))] ∧ Kp g w7 w') rfl rfl rfl (exec_call (args := #[PT g 0, .int .i64 ((64 * (k - k) + j : Nat) : Int)]) rfl call81 rfl (mpn rfl)) (Calls.mono (CL.out w7 (H7.out.1.one 0 rfl)) (fun e w2 hh => ⟨_, hh.1, rfl, hh.2⟩)) ?_
  rintro _ w8 ⟨rfl, hn, hp⟩
  have H8 : Hid (Mm w8 [(g, lec b (wd L1))] ∧ Kp g w w8) := ⟨H7.out.1.change 0 rfl hp hn, H7.out.2.join hp⟩
  clear hn hp H7
  simp only [Act.put, sa, sz, ss]
  refine rest_nil ?_
  refine bodyPost_end (v := .tuple #[]) (by simp [results, Tryd.results78, go_sem]) rfl ?_
  exact ⟨rfl, H8.out.1.one 0 rfl, H8.out.2⟩
end Rg
end Go.Proofs.YtkkloakcphigeaaDoor
end
section
namespace Go.Proofs.YtkkloakcphigeaaDoor
open Go.RowKit
namespace Rg
theorem unq {u B k m : Int} (hB : 0 < B) (e : u = B * k + m) (h0 : 0 ≤ m) (h1 : m < B) : u / B = k ∧ u % B = m :=
  (Int.ediv_emod_unique hB).2 ⟨by omega, h0, h1⟩
/-- What is left less d times the divisor. -/
def zst (r b d : Nat) : Int := (r : Int) - (d : Int) * (b : Int)
def zl (r b d : Nat) : Nat := (zst r b d % (big : Int)).toNat
def za (r b d : Nat) : Int := zst r b d / (big : Int) % 18446744073709551616
theorem bigI : (0 : Int) < (big : Int) := by have := big_pos2; omega
theorem zl_cast (r b d : Nat) : ((zl r b d : Nat) : Int) = zst r b d % (big : Int) := Int.toNat_of_nonneg (Int.emod_nonneg _ (by have := bigI; omega))
theorem zl_lt (r b d : Nat) : zl r b d < big := by
  have h := zl_cast r b d
  have h2 := Int.emod_lt_of_pos (zst r b d) bigI
  omega
theorem zst_succ (r b d : Nat) : zst r b d = zst r b (d + 1) + b := by
  unfold zst
  rw [Int.natCast_add, Int.add_mul]
  omega
theorem z_step (r b d : Nat) (hb : b < big) : (if big ≤ zl r b (d + 1) + b then zst r b (d + 1) / (big : Int) + 1 else zst r b (d + 1) / (big : Int)) = zst r b d / (big : Int) ∧ (zl r b (d + 1) + b) % big = zl r b d := by
  have h1 := zl_cast r b (d + 1)
  have h2 := zl_cast r b d
  have h3 := zl_lt r b (d + 1)
  have hm := Int.mul_ediv_add_emod (zst r b (d + 1)) (big : Int)
  rw [← h1] at hm
  have e := zst_succ r b d
  by_cases hc : big ≤ zl r b (d + 1) + b
  · rw [if_pos hc]
    obtain ⟨u1, u2⟩ := unq (u := zst r b d) (k := zst r b (d + 1) / (big : Int) + 1) (m := (zl r b (d + 1) : Int) + b - big) bigI (by rw [e, Int.mul_add, Int.mul_one]; omega) (by omega) (by omega)
    refine ⟨u1.symm, ?_⟩
    rw [u2] at h2
    rw [Nat.mod_eq_sub_mod hc, Nat.mod_eq_of_lt (by omega)]
    omega
  · rw [if_neg hc]
    obtain ⟨u1, u2⟩ := unq (u := zst r b d) (k := zst r b (d + 1) / (big : Int)) (m := (zl r b (d + 1) : Int) + b) bigI (by rw [e]; omega) (by omega) (by omega)
    refine ⟨u1.symm, ?_⟩
    rw [u2] at h2
    rw [Nat.mod_eq_of_lt (by omega)]
    omega
theorem za_zero (r b : Nat) (hr : r < big) : za r b 0 = 0 := by
  unfold za zst
  rw [Int.natCast_zero, Int.zero_mul, Int.sub_zero, Int.ediv_eq_zero_of_lt (by omega) (by omega)]; rfl
theorem zl_zero (r b : Nat) (hr : r < big) : zl r b 0 = r := by
  have h := zl_cast r b 0
  unfold zst at h
  rw [Int.natCast_zero, Int.zero_mul, Int.sub_zero, Int.emod_eq_of_lt (by omega) (by omega)] at h
  omega
theorem za_ne (r b d : Nat) (hr : r < b) (hb : b < big) (hd : d < 18446744073709551616) (h0 : 0 < d) : ¬ za r b d = 0 := by
  unfold za
  have h1 : zst r b d < 0 := by
    unfold zst
    have : (b : Int) ≤ (d : Int) * (b : Int) := by
      have := Nat.mul_le_mul (show 1 ≤ d from h0) (Nat.le_refl b)
      rw [← Int.natCast_mul]; omega
    omega
  have h2 : -(18446744073709551615 * (big : Int)) ≤ zst r b d := by
    unfold zst
    have h3 : d * b ≤ 18446744073709551615 * big := Nat.mul_le_mul (by omega) (by omega)
    rw [← Int.natCast_mul]; omega
  have h3 : zst r b d / (big : Int) < 0 := Int.ediv_neg_of_neg_of_pos h1 bigI
  have h4 : -18446744073709551615 ≤ zst r b d / (big : Int) := by
    rw [Int.le_ediv_iff_mul_le bigI]; omega
  omega
theorem guess_ge (X b : Nat) (hb : b < big) (hX : X < 18446744073709551616 * b) : X / b ≤ gs (X / big) (wn (X % big) 5) (wn b 5) := by
  have hb0 : 0 < b := by
    rcases Nat.eq_zero_or_pos b with h | h
    · rw [h, Nat.mul_zero] at hX; omega
    · exact h
  unfold gs
  by_cases c : wn b 5 ≤ X / big
  · rw [if_pos c]
    have : X / b < 18446744073709551616 := by rw [Nat.div_lt_iff_lt_mul hb0]; exact hX
    omega
  · rw [if_neg c]
    obtain ⟨j, hj⟩ : ∃ j, j = 5 := ⟨5, rfl⟩
    have hbj := big_j j hj
    rw [← hj] at c ⊢
    have e1 : wn b j = b / 2 ^ (64 * j) := by
      have := wd_last b j (by rw [← hbj]; exact hb)
      rw [wd_wn] at this; omega
    have e2 : X / big * 18446744073709551616 + wn (X % big) j = X / 2 ^ (64 * j) := by
      have h1 : wn (X % big) j = X % big / 2 ^ (64 * j) := by
        have := wd_last (X % big) j (by rw [← hbj]; exact Nat.mod_lt _ big_pos2)
        rw [wd_wn] at this; omega
      rw [h1]
      have h2 := Nat.div_add_mod X big
      generalize X % big = m at h2 ⊢
      generalize X / big = k at h2 ⊢
      rw [← h2, hbj, pow_step, Nat.mul_assoc, Nat.mul_add_div (pow_pos' j), Nat.mul_comm k]
    rw [e2, e1]
    have hq : 0 < b / 2 ^ (64 * j) := by rw [← e1]; omega
    rw [Nat.le_div_iff_mul_le hq, Nat.le_div_iff_mul_le (pow_pos' j)]
    have h3 : b / 2 ^ (64 * j) * 2 ^ (64 * j) ≤ b := Nat.div_mul_le_self _ _
    have h4 : X / b * b ≤ X := Nat.div_mul_le_self _ _
    rw [Nat.mul_assoc]
    exact Nat.le_trans (Nat.mul_le_mul (Nat.le_refl _) h3) h4
theorem take_z (X b t : Nat) (ht : X / b ≤ t) : zst (X % b) b (t - X / b) / (big : Int) = ((X / big : Nat) : Int) - ((tkT (X % big) t b : Nat) : Int) ∧ zl (X % b) b (t - X / b) = (X % big + big - t * b % big) % big := by
  have h1 : zst (X % b) b (t - X / b) = (X : Int) - (t : Int) * (b : Int) := by
    unfold zst
    have e := Nat.div_add_mod X b
    have e2 : ((t - X / b : Nat) : Int) = (t : Int) - ((X / b : Nat) : Int) := by omega
    rw [e2, Int.sub_mul]
    have e3 : ((X / b : Nat) : Int) * (b : Int) = ((b * (X / b) : Nat) : Int) := by rw [Int.natCast_mul, Int.mul_comm]
    rw [e3]; omega
  have e4 := Nat.div_add_mod X big
  have e5 := Nat.div_add_mod (t * b) big
  have l1 := Nat.mod_lt X big_pos2
  have l2 := Nat.mod_lt (t * b) big_pos2
  have hzl := zl_cast (X % b) b (t - X / b)
  rw [← Int.natCast_mul] at h1
  unfold tkT
  generalize X % big = m at *
  generalize t * b % big = u at *
  generalize hP : t * b = P at *
  by_cases hc : m < u
  · rw [if_pos hc]
    obtain ⟨u1, u2⟩ := unq (u := zst (X % b) b (t - X / b)) (k := ((X / big : Nat) : Int) - ((P / big + 1 : Nat) : Int)) (m := (m : Int) + big - u) bigI (by
      rw [h1, Int.mul_sub, ← Int.natCast_mul, ← Int.natCast_mul, Nat.mul_add, Nat.mul_one]; omega) (by omega) (by omega)
    refine ⟨u1, ?_⟩
    rw [u2] at hzl
    rw [Nat.mod_eq_of_lt (show m + big - u < big by omega)]; omega
  · rw [if_neg hc]
    obtain ⟨u1, u2⟩ := unq (u := zst (X % b) b (t - X / b)) (k := ((X / big : Nat) : Int) - ((P / big + 0 : Nat) : Int)) (m := (m : Int) - u) bigI (by
      rw [h1, Int.mul_sub, ← Int.natCast_mul, ← Int.natCast_mul, Nat.add_zero]; omega) (by omega) (by omega)
    refine ⟨u1, ?_⟩
    rw [u2] at hzl
    rw [Nat.mod_eq_sub_mod (show big ≤ m + big - u by omega), Nat.mod_eq_of_lt (show m + big - u - big < big by omega)]; omega
theorem stepL_any (g b L i : Nat) (hi : i ≤ 64) (hb : b < big) (hL : L < b) (w : World) (hm : Mm w [(g, lec b (wd L))]) :
    Calls Tryd.prog 81 #[PT g 0, .int .i64 ((i : Nat) : Int)] w fun e w' => e = .returned (.tuple #[]) ∧ Mm w' [(g, lec b (wd (L * 2 ^ i % b)))] ∧ Kp g w w' := by
  have hLb : L < big := by omega
  have hb0 : 0 < b := by omega
  have hX : L * 2 ^ i < 18446744073709551616 * b := by
    have h1 : 2 ^ i ≤ 18446744073709551616 := by
      have := Nat.pow_le_pow_right (show 0 < 2 by decide) hi
      exact this
    have h2 : L * 2 ^ i ≤ L * 18446744073709551616 := Nat.mul_le_mul (Nat.le_refl _) h1
    omega
  have cs := fun w hm => shiftL_any g b L i hi hLb w hm
  generalize L * 2 ^ i = X at cs hX ⊢
  have hge := guess_ge X b hb hX
  have hlt := gs_bd (X / big) (wn (X % big) 5) (wn b 5) (wn_lt _ _)
  have cg := fun w => guessM_any (X / big) (wn (X % big) 5) (wn b 5) (wn_lt _ _) (wn_lt _ _) w
  generalize gs (X / big) (wn (X % big) 5) (wn b 5) = t at hge hlt cg
  have ct := fun w hm => takeL_any g b (X % big) t (Nat.mod_lt _ big_pos2) hb hlt w hm
  obtain ⟨z1, z2⟩ := take_z X b t hge
  have hr := Nat.mod_lt X hb0
  rw [← z2] at ct
  have h := step_gen g b L (X % big) (X / big) t (tkT (X % big) t b) (t - X / b) ((i : Nat) : Int) (zl (X % b) b) (za (X % b) b) (fun x => decide (big ≤ zl (X % b) b (x + 1) + b))
    (za_zero _ _ (by omega)) (fun x hx => za_ne _ _ _ hr hb (by have := Nat.sub_le t (X / b); omega) (by omega)) (by rw [IntKind.wrap_u64, ← z1]; rfl)
    (fun x hx => by
      have hz := (z_step (X % b) b x hb).1
      rw [if_pos (of_decide_eq_true hx)] at hz
      unfold za
      rw [IntKind.wrap_u64, ← hz]; omega)
    (fun x hx => by
      have hz := (z_step (X % b) b x hb).1
      rw [if_neg (of_decide_eq_false hx)] at hz
      unfold za
      rw [hz])
    cs cg ct (fun x w => by
      have h := add_any (zl (X % b) b (x + 1)) b (zl_lt _ _ _) hb w
      rw [(z_step (X % b) b x hb).2] at h
      exact h) w hm
  rw [zl_zero _ _ (by omega)] at h
  exact h
theorem doubleL_any (g b L n : Nat) (hn : n ≤ 384) (hb : b < big) (hL : L < b) (w : World) (hm : Mm w [(g, lec b (wd L))]) :
    Calls Tryd.prog 78 #[PT g 0, .int .i64 ((n : Nat) : Int)] w fun e w' => e = .returned (.tuple #[]) ∧ Mm w' [(g, lec b (wd (L * 2 ^ n % b)))] ∧ Kp g w w' := by
  obtain ⟨K, j, hK, hj, hKj, e⟩ : ∃ K j, K < 1000 ∧ j ≤ 64 ∧ (0 < K → 0 < j) ∧ n = 64 * (K - 0) + j := by
    by_cases h0 : n = 0
    · exact ⟨0, 0, by omega, by omega, by omega, by omega⟩
    · exact ⟨(n - 1) / 64, n - 64 * ((n - 1) / 64), by omega, by omega, by omega, by omega⟩
  have hb0 : 0 < b := by omega
  have ef : ∀ k m, L * 2 ^ (64 * k) % b * 2 ^ m % b = L * 2 ^ (64 * k + m) % b := fun k m => by
    rw [Nat.mul_mod, Nat.mod_mod, ← Nat.mul_mod, Nat.mul_assoc, ← Nat.pow_add]
  have cf : ∀ k w, Mm w [(g, lec b (wd (L * 2 ^ (64 * k) % b)))] → Calls Tryd.prog 81 #[PT g 0, .int .i64 64] w fun e w' => e = .returned (.tuple #[]) ∧ Mm w' [(g, lec b (wd (L * 2 ^ (64 * (k + 1)) % b)))] ∧ Kp g w w' := fun k w hm => by
    have h := stepL_any g b (L * 2 ^ (64 * k) % b) 64 (Nat.le_refl _) hb (Nat.mod_lt _ hb0) w hm
    rw [ef k 64, show 64 * k + 64 = 64 * (k + 1) by omega] at h
    exact h
  have cl : ∀ w, Mm w [(g, lec b (wd (L * 2 ^ (64 * K) % b)))] → Calls Tryd.prog 81 #[PT g 0, .int .i64 ((64 * (K - K) + j : Nat) : Int)] w fun e w' => e = .returned (.tuple #[]) ∧ Mm w' [(g, lec b (wd (L * 2 ^ n % b)))] ∧ Kp g w w' := fun w hm => by
    have h := stepL_any g b (L * 2 ^ (64 * K) % b) j hj hb (Nat.mod_lt _ hb0) w hm
    rw [ef K j, show 64 * K + j = n by omega] at h
    rw [show 64 * (K - K) + j = j by omega]
    exact h
  have h0 : L * 2 ^ (64 * 0) % b = L := by rw [Nat.mul_zero, Nat.pow_zero, Nat.mul_one, Nat.mod_eq_of_lt hL]
  have h := double_gen g b (L * 2 ^ n % b) K j (fun k => L * 2 ^ (64 * k) % b) hK hj hKj cf cl w (by rw [h0]; exact hm)
  rw [← e] at h
  exact h
end Rg
end Go.Proofs.YtkkloakcphigeaaDoor
end
section
namespace Go.Proofs.YtkkloakcphigeaaDoor
open Go.RowKit
namespace Rg
section
variable {P : Program} {ops : Array Oper} {ks : List Kind} {a₀ : Act} {w₀ : World} {Q : Exit → Act → World → Prop}
/-- An operation that the store need not wait for: it tells its value behind it. -/
def LateAt (P : Program) (ops : Array Oper) (ks : List Kind) (a : Act) (w : World) : List Nat → Prop
  | [] => True
  | i :: r => (∃ o v, ops[i]? = some o ∧ ks[i]? = some (.quiet v) ∧ Region.wanted o (yielded ops a.tmps) = true ∧ (execOp a.eval o).run P w = .ok (.value v) w) ∧ LateAt P ops ks a w r
theorem LateAt.at {a : Act} {w : World} : ∀ {late : List Nat}, LateAt P ops ks a w late → ∀ {i : Nat}, i ∈ late → ∃ o v, ops[i]? = some o ∧ ks[i]? = some (.quiet v) ∧ Region.wanted o (yielded ops a.tmps) = true ∧ (execOp a.eval o).run P w = .ok (.value v) w
  | [], _, _, h => by cases h
  | j :: r, hl, i, h => by
    rcases List.mem_cons.1 h with e | h
    · subst e; exact hl.1
    · exact hl.2.at h
def isQuiet : Option Kind → Bool
  | some ((Sum.inl _)) => true
  | _ => false
theorem isQuiet_spec {k : Option Kind} (h : isQuiet k = true) : ∃ v, k = some (.quiet v) := by
  cases k with
  | none => cases h
  | some k => cases k using Kind.each <;> first | exact ⟨_, rfl⟩ | cases h
theorem mem_late2 {γ : Nat → Nat} {w : World} : ∀ {late : List Nat} {l : Array Bool}, (late.all fun i => isQuiet ks[i]?) = true → Mem ks w₀ l γ w → ∃ l', Mem ks w₀ l' γ w ∧ l'.size = l.size ∧ (∀ i, l.getD i false = true → l'.getD i false = true) ∧ ∀ i ∈ late, i < l.size → l'.getD i false = true
  | [], l, _, h => ⟨l, h, rfl, fun _ h => h, fun _ h => by cases h⟩
  | j :: r, l, hl, h => by
    simp only [List.all_cons, Bool.and_eq_true] at hl
    obtain ⟨v, hk⟩ := isQuiet_spec hl.1
    obtain ⟨l', h1, h2, h3, h4⟩ := mem_late2 (late := r) hl.2 (h.still (Below.refl _ _) hk rfl (fun _ _ _ h => by cases h))
    refine ⟨l', h1, by rw [h2]; simp, fun i hi => h3 i (getD_true hi), fun i hi hlt => ?_⟩
    rcases List.mem_cons.1 hi with e | hi
    · subst e
      exact h3 i (by simp [hlt])
    · exact h4 i hi (by simpa using hlt)
theorem after_put2 {full : Array Oper} {n p : Nat} (hO : Orderly ops ks n) (hn : n = a₀.tmps.size) (hp : ops.size = p) (hpf : p + 1 ≤ full.size) (hfull : ∀ i, i < p → full[i]? = ops[i]?) (hgd : ∀ {i : Nat} {o : Oper} {g : Nat} {b : Bool}, ops[i]? = some o → o.guard = some (g, b) → g < p)
    (hup : ∀ {i : Nat} {o : Oper}, full[i]? = some o → ∀ e ∈ o.after, Region.binds .any e = true → e.on < i)
    (hwt : ∀ {i : Nat} {o : Oper}, full[i]? = some o → p + 1 ≤ i → ∀ j, j < i → waitsT full 4 o j = true)
    {late : List Nat} {γ : Nat → Nat} {w : World} (hlate : LateAt P ops ks (fill γ 0 ops.toList ks a₀) w late) (hQ : wpOps P full Q (List.range' (p + 1) (full.size - (p + 1))) (fill γ 0 ops.toList ks a₀) w) :
    ∀ (fuel : Nat) (l : Array Bool) (a : Act), l.size = full.size → l.toList.count false ≤ fuel → Closed full l → (∀ i, i ≤ p → l.getD i true = false → i ∈ late) → (∀ i, p + 1 ≤ i → i < full.size → l.getD i true = false) → Agree ops ks a₀ l γ a → wpAny P .any full Q fuel l a w := by
  intro fuel
  induction fuel with
  | zero =>
    intro l a hsz hc hcl hu ht hA
    have hall : ∀ i, i < full.size → l.getD i false = true := fun i hi => by
      cases hb : l.getD i true with
      | false => have := count_set hb; omega
      | true =>
        have hi' : i < l.size := by omega
        simpa [hi'] using hb
    rw [hA.whole (fun i hi => hall i (by omega))]
    have h0 := tail_count full.size (full.size - (p + 1)) l hsz (by omega) (fun i hi1 hi2 => ht i (by omega) hi2)
    exact rest_anyT (p + 1) hup hwt (full.size - (p + 1)) 0 (p + 1) l _ w (by omega) (Nat.le_refl _) hsz (by omega) hcl (fun i hi => hall i (by omega)) ht hQ
  | succ fuel ih =>
    intro l a hsz hc hcl hu ht hA
    by_cases hall : ∀ i, i < p + 1 → l.getD i false = true
    · rw [hA.whole (fun i hi => hall i (by omega))]
      have h0 := tail_count full.size (full.size - (p + 1)) l hsz (by omega) (fun i hi1 hi2 => ht i (by omega) hi2)
      exact rest_anyT (p + 1) hup hwt (full.size - (p + 1)) (fuel + 1) (p + 1) l _ w (by omega) (Nat.le_refl _) hsz (by omega) hcl hall ht hQ
    · have hex : ∃ x, x < p + 1 ∧ l.getD x false = false := by
        apply Classical.byContradiction
        intro hno
        apply hall
        intro i hi
        cases hb : l.getD i false with
        | true => rfl
        | false => exact absurd ⟨i, hi, hb⟩ hno
      obtain ⟨x, hx, hxf⟩ := hex
      refine ⟨fun hr => ?_, fun i hi => ?_⟩
      · have := ready_all hup hsz hr x (by omega)
        rw [hxf] at this
        cases this
      · obtain ⟨hun, o, ho, hedge⟩ := mem_ready.1 hi
        have hilt : i < full.size := (Array.getElem?_eq_some_iff.1 ho).1
        have hip1 : i < p + 1 := by
          rcases Nat.lt_or_ge i (p + 1) with h' | h'
          · exact h'
          · have := waitsT_spec hcl 4 o (hwt ho h' x (by omega)) hedge
            rw [hxf] at this
            cases this
        obtain ⟨o', v, ho', hk, hxq⟩ := hlate.at (hu i (by omega) hun)
        have hip : i < p := by rw [← hp]; exact (Array.getElem?_eq_some_iff.1 ho').1
        have hof := ho
        rw [hfull i hip, ho'] at ho
        injection ho with ho
        subst ho
        obtain ⟨he, hw0⟩ := hA.sees hO ho' hedge
        have hy : ∀ ts, Region.wanted o' (yielded full ts) = Region.wanted o' (yielded ops ts) := fun ts => by
          unfold Region.wanted
          cases hg : o'.guard with
          | none => rfl
          | some gw =>
            obtain ⟨g, want⟩ := gw
            have : yielded full ts g = yielded ops ts g := by unfold yielded; rw [hfull g (hgd ho' hg)]
            simp only [this]
        have hc' := count_set hun
        refine wpOp_step hof (fun K' hK => ?_)
        rw [hy, hw0, if_pos hxq.1]
        unfold Oper.wp
        rw [he, hxq.2]
        refine hK _ _ (ih _ _ (by simp [hsz]) (by omega) (hcl.step hof hedge) (fun j hj hj2 => ?_) (fun j hj hj2 => ?_) (hA.step hO hn ho' hk (fun _ _ _ _ => rfl)))
        · by_cases e : i = j
          · subst e
            have hi' : i < l.size := by omega
            simp [hi'] at hj2
          · rw [getD_set_ne true e] at hj2
            exact hu j hj hj2
        · rw [getD_set_ne true (by omega)]
          exact ht j hj hj2
theorem first_put2 {full : Array Oper} {n p : Nat} {op : Oper} (hO : Orderly ops ks n) (hn : n = a₀.tmps.size) (hL : LaidOk ks ks) {S : World → Prop} (hS : ∀ w, Below w₀.heap.size w₀ w → S w)
    (hp : ops.size = p) (hpf : p + 1 ≤ full.size) (hfull : ∀ i, i < p → full[i]? = ops[i]?) (hgd : ∀ {i : Nat} {o : Oper} {g : Nat} {b : Bool}, ops[i]? = some o → o.guard = some (g, b) → g < p)
    (hup : ∀ {i : Nat} {o : Oper}, full[i]? = some o → ∀ e ∈ o.after, Region.binds .any e = true → e.on < i)
    (hop : full[p]? = some op) (hdst : op.dst = none) (hgu : op.guard = none) (hsel : ∀ cs b, op.op ≠ .select cs b)
    {late : List Nat} (hwp : ∀ j, j < p → waitsT full 4 op j = true ∨ j ∈ late) (hlook : ∀ d ∈ op.looksAt full, ∀ j oj, ops[j]? = some oj → oj.dst = some d → waitsT full 4 op j = true)
    (hwt : ∀ {i : Nat} {o : Oper}, full[i]? = some o → p + 1 ≤ i → ∀ j, j < i → waitsT full 4 o j = true)
    (hlate : (late.all fun i => isQuiet ks[i]?) = true)
    (hops : AllOk P ops S (fun γ => fill γ 0 ops.toList ks a₀) ops.toList ks)
    (hend : ∀ γ w l, Mem ks w₀ l γ w → (∀ i, i < p → l.getD i false = true) → ∃ w', (execOp (fill γ 0 ops.toList ks a₀).eval op).run P w = .ok .skip w' ∧ LateAt P ops ks (fill γ 0 ops.toList ks a₀) w' late ∧ wpOps P full Q (List.range' (p + 1) (full.size - (p + 1))) (fill γ 0 ops.toList ks a₀) w') :
    ∀ (fuel : Nat) (l : Array Bool) (γ : Nat → Nat) (a : Act) (w : World), l.size = full.size → l.toList.count false ≤ fuel → Closed full l → (∀ i, p ≤ i → i < full.size → l.getD i true = false) → Agree ops ks a₀ l γ a → Mem ks w₀ l γ w → wpAny P .any full Q fuel l a w := by
  intro fuel
  induction fuel with
  | zero =>
    intro l γ a w hsz hc hcl ht hA hM
    have := count_set (ht p (Nat.le_refl _) (by omega))
    omega
  | succ fuel ih =>
    intro l γ a w hsz hc hcl ht hA hM
    have hpu := ht p (Nat.le_refl _) (by omega)
    refine ⟨fun hr => ?_, fun i hi => ?_⟩
    · have := ready_all hup hsz hr p (by omega)
      rw [(getD_same hpu).1] at this
      cases this
    · obtain ⟨hun, o, ho, hedge⟩ := mem_ready.1 hi
      have hilt : i < full.size := (Array.getElem?_eq_some_iff.1 ho).1
      have hc' := count_set hun
      have hip1 : i < p + 1 := by
        rcases Nat.lt_or_ge i (p + 1) with h' | h'
        · exact h'
        · have := waitsT_spec hcl 4 o (hwt ho h' p (by omega)) hedge
          rw [(getD_same hpu).1] at this
          cases this
      by_cases hip : i = p
      · subst hip
        have ho2 := ho
        rw [hop] at ho
        injection ho with ho
        subst ho
        have hbefore : ∀ j, j < i → j ∉ late → l.getD j false = true := fun j hj hnl => by
          rcases hwp j hj with h | h
          · exact waitsT_spec hcl 4 _ h hedge
          · exact absurd h hnl
        obtain ⟨l', hM', hs', hl1, hl2⟩ := mem_late2 hlate hM
        have hfin : ∀ j, j < i → l'.getD j false = true := fun j hj => by
          by_cases h : j ∈ late
          · exact hl2 j h (by omega)
          · exact hl1 j (hbefore j hj h)
        obtain ⟨w', hx, hla, hQ⟩ := hend γ w l' hM' hfin
        have he := see_all (full := full) hA hsel (fun d hd j oj hj hdj => waitsT_spec hcl 4 _ (hlook d hd j oj hj hdj) hedge)
        refine wpOp_step hop (fun K' hK => ?_)
        have hwn : Region.wanted op (yielded full a.tmps) = true := by unfold Region.wanted; rw [hgu]
        rw [if_pos hwn]
        unfold Oper.wp
        rw [he, hx]
        have hA' : Agree ops ks a₀ (l.setIfInBounds i true) γ (a.put op.dst undef) := by
          rw [hdst]
          refine ⟨hA.defers, hA.size, fun d hd => hA.slots d (fun j oj hj hdj => ?_)⟩
          have h1 := hd j oj hj hdj
          have hj' : j < i := by rw [← hp]; exact (Array.getElem?_eq_some_iff.1 hj).1
          rwa [getD_set_ne false (by omega)] at h1
        refine hK _ _ (after_put2 hO hn hp hpf hfull hgd hup hwt hla hQ fuel _ _ (by simp [hsz]) (by omega) (hcl.step ho2 hedge) (fun j hj hj2 => ?_) (fun j hj hj2 => ?_) hA')
        · by_cases e : i = j
          · subst e
            have hi' : i < l.size := by omega
            simp [hi'] at hj2
          · rw [getD_set_ne true e] at hj2
            apply Classical.byContradiction
            intro hnl
            have := hbefore j (by omega) hnl
            rw [(getD_same hj2).1] at this
            cases this
        · rw [getD_set_ne true (by omega)]
          exact ht j (by omega) hj2
      · have hlt : i < p := by omega
        have ho' : ops[i]? = some o := by rw [← hfull i hlt]; exact ho
        refine kind_step hO hn hL hS hfull hgd hops hA hM hlt ho' hun hedge (fun γ' a' w' hA' hM' => ?_)
        exact ih _ γ' a' w' (by simp [hsz]) (by omega) (hcl.step ho hedge) (fun j hj hj2 => by rw [getD_set_ne true (by omega)]; exact ht j hj hj2) hA' hM'
/-- **The law of such a region.** -/
theorem walk_put2 {full : Array Oper} {a : Act} {w : World} {id : Nat} (hm : P.follows .mixedOrders = true) (p : Nat) (late : List Nat) (ks : List Kind) (S : World → Prop) (pre : List Oper) (F : (Nat → Nat) → Act) (op : Oper) (hpre : full.toList.take p = pre)
    (hF : ∀ γ, fill γ 0 pre ks a = F γ) (hor : (orderly pre.toArray ks a.tmps.size && guarded pre.toArray p && putly full p late) = true) (hop : full[p]? = some op) (hL : LaidOk ks ks) (hS : ∀ w', Below w.heap.size w w' → S w')
    (hops : AllOk P pre.toArray S F pre ks) (hlate : (late.all fun i => isQuiet ks[i]?) = true)
    (hend : ∀ γ w' l, Mem ks w l γ w' → (∀ i, i < p → l.getD i false = true) → ∃ w'', (execOp (F γ).eval op).run P w' = .ok .skip w'' ∧ LateAt P pre.toArray ks (F γ) w'' late ∧ wpOps P full Q (List.range' (p + 1) (full.size - (p + 1))) (F γ) w'') :
    (Code.region id full true).wp P Q a w := by
  subst hpre
  obtain rfl : (fun γ => fill γ 0 (full.toList.take p) ks a) = F := funext hF
  simp only [Bool.and_eq_true] at hor
  obtain ⟨⟨h1, h2⟩, h3⟩ := hor
  unfold putly at h3
  rw [hop] at h3
  simp only [Bool.and_eq_true, decide_eq_true_eq, Option.isNone_iff_eq_none] at h3
  obtain ⟨⟨⟨⟨h5, h6⟩, h7⟩, ⟨⟨h8, h9⟩, h10⟩, h11⟩, h12⟩ := h3
  have hsz : (full.toList.take p).toArray.size = p := by simp; omega
  have hfu : ∀ i, i < p → full[i]? = (full.toList.take p).toArray[i]? := fun i hi => by rw [← take_arr]; exact first_full hi
  refine wp_region_any hm (first_put2 (ops := (full.toList.take p).toArray) (Orderly.of h1) rfl hL hS hsz h6 hfu (fun ho hg => guarded_spec h2 ho hg) (fun ho e he hb => ?_) hop h8 h9 (fun cs b => Region.noSelect_spec h7 p op cs b hop) (late := late) (fun j hj => ?_) (fun d hd j oj hj hdj => ?_) (fun ho hi j hj => ?_) hlate hops hend full.size _ (fun _ => 0) a w.drew (by simp) (by simp) (Closed.none _ _) (fun i _ hi => none_listed' hi) (start_agree _ _) (start_mem _ _ (Below.refl _ _).drew))
  · have := Array.all_eq_true_iff_forall_mem.1 (eachOp_spec h5 ho) e he
    simpa [hb] using this
  · have := List.all_eq_true.1 h10 j (List.mem_range.2 hj)
    simpa using this
  · have hj' : j < p := by rw [← hsz]; exact (Array.getElem?_eq_some_iff.1 hj).1
    have := eachOp_spec (List.all_eq_true.1 h11 d hd) (by rw [hfu j hj']; exact hj)
    simp only [hdj, bne_self_eq_false, Bool.false_or, Bool.or_eq_true, decide_eq_true_eq] at this
    rcases this with h | h
    · exact h
    · omega
  · have := eachOp_spec h12 ho
    simp only [Bool.or_eq_true, decide_eq_true_eq] at this
    rcases this with h | h
    · omega
    · exact List.all_eq_true.1 h j (List.mem_range.2 hj)
end
end Rg
end Go.Proofs.YtkkloakcphigeaaDoor
end
section
namespace Go.Proofs.YtkkloakcphigeaaDoor
open Go.RowKit
namespace Rg
abbrev zero12 : List Value := [.int .u64 0, .int .u64 0, .int .u64 0, .int .u64 0, .int .u64 0, .int .u64 0, .int .u64 0, .int .u64 0, .int .u64 0, .int .u64 0, .int .u64 0, .int .u64 0]
abbrev lev (b L : Nat) : Value := .agg (lec b (wd L)).toArray
theorem ex_madeL {ρ : Operand → Value} {o : Oper} {w : World} (ho : o.op = .alloc 116) :
    (execOp ρ o).run Tryd.prog w = .ok (.value (.pointer (some ⟨w.heap.size, 0, none⟩))) (w.alloc (.cells zero12.toArray 116)) := by
  simp only [execOp, ho]
  go_simp
theorem ex_buildL {ρ : Operand → Value} {o : Oper} {x : Operand} {b z : Nat} {w : World} (hz : z = 0) (ho : o.op = .build 116 #[(0, x)]) (hx : ρ x = N b) : (execOp ρ o).run Tryd.prog w = .ok (.value (lev b z)) w := by
  subst hz
  simp only [execOp, ho]
  go_simp
  simp [wd_zero]
theorem ex_laidL {ρ : Operand → Value} {o : Oper} {x y : Operand} {g b L : Nat} {w : World} (hb : Blk w g zero12) (ho : o.op = .store 116 x y) (hx : ρ x = .pointer (some ⟨g, 0, none⟩)) (hy : ρ y = lev b L) :
    (execOp ρ o).run Tryd.prog w = .ok .skip (w.setCells g 0 (lec b (wd L))) := ex_laidT hb rfl rfl Tryd.sizeOf116 ho hx hy
set_option maxHeartbeats 2000000 in
set_option maxRecDepth 100000 in
theorem powersOf_gen (n l s B z L0 L1 L2 o q : Nat) (cB : Bool) (hz : z = 0) (hl : l ≤ 384) (hs : s = 384 - l)
    (cl : ∀ w, Calls Tryd.prog 35 #[N n] w fun e w' => e = .returned (.int .i64 ((l : Nat) : Int)) ∧ Below w.heap.size w w')
    (cb : ∀ w, Calls Tryd.prog 36 #[N n, .int .i64 ((s : Nat) : Int)] w fun e w' => e = .returned (N B) ∧ Below w.heap.size w w')
    (cs : ∀ w, Calls Tryd.prog 53 #[N 0, N B] w fun e w' => e = .returned (.tuple #[N L0, .bool cB]) ∧ Below w.heap.size w w')
    (d1 : ∀ g w, Mm w [(g, lec B (wd L0))] → Calls Tryd.prog 78 #[PT g 0, .int .i64 ((s : Nat) : Int)] w fun e w' => e = .returned (.tuple #[]) ∧ Mm w' [(g, lec B (wd L1))] ∧ Kp g w w')
    (co : ∀ w, Calls Tryd.prog 36 #[N L1, .int .i64 (-((s : Nat) : Int))] w fun e w' => e = .returned (N o) ∧ Below w.heap.size w w')
    (d2 : ∀ g w, Mm w [(g, lec B (wd L1))] → Calls Tryd.prog 78 #[PT g 0, .int .i64 384] w fun e w' => e = .returned (.tuple #[]) ∧ Mm w' [(g, lec B (wd L2))] ∧ Kp g w w')
    (cq : ∀ w, Calls Tryd.prog 36 #[N L2, .int .i64 (-((s : Nat) : Int))] w fun e w' => e = .returned (N q) ∧ Below w.heap.size w w') (w : World) :
    Calls Tryd.prog 68 #[N n] w fun e w' => e = .returned (.tuple #[N o, N q]) ∧ Below w.heap.size w w' := by
  have H0 : Hid (_ ∧ _) := ⟨Mm.nil w, Below.refl w.heap.size w⟩
  have CL : Hid _ := cl
  have CB : Hid _ := cb
  have CS : Hid _ := cs
  have CD1 : Hid _ := d1
  have CO : Hid _ := co
  have CD2 : Hid _ := d2
  have CQ : Hid _ := cq
  have HZ : Hid _ := hz
  clear cl cb cs d1 co d2 cq hz
  go_enter Tryd.func68, Tryd.ntmps68
  refine wp_seq ?_
  refine walk_seqA 3 [.made (cells6 n) 33, .made zero6 33, .made zero6 33] (sB H0) ?ho1 ?he1
  case ho1 => exact ak (fun γ => ⟨rfl, fun w' => ex_box6 rfl rfl⟩) (ak (fun γ => ⟨rfl, fun w' => exec_made6 rfl⟩) (ak (fun γ => ⟨rfl, fun w' => exec_made6 rfl⟩) trivial))
  intro γ w1 l hM hl
  have H1 : Hid (Mm w1 [(γ 0, cells6 n), (γ 1, zero6), (γ 2, zero6)] ∧ _) := growB H0 hM (Nat.le_refl _) hl [0, 1, 2] rfl (by decide)
  have o1_0 := ownB H0 hM (Nat.le_refl _) hl (i := 0) rfl
  have o1_1 := ownB H0 hM (Nat.le_refl _) hl (i := 1) rfl
  have o1_2 := ownB H0 hM (Nat.le_refl _) hl (i := 2) rfl
  clear hM hl l
  generalize γ 0 = γ1_0 at H1 o1_0 ⊢
  generalize γ 1 = γ1_1 at H1 o1_1 ⊢
  generalize γ 2 = γ1_2 at H1 o1_2 ⊢
  clear γ
  refine rest0 rfl (then_normal (wp_seq ?_))
  refine walk_seqB 4 [.quiet (N n), .call (.int .i64 ((l : Nat) : Int)), .quiet (.int .i64 ((s : Nat) : Int)), .quiet (.int .i64 ((s : Nat) : Int))] H1 ?ho2 ?he2
  case ho2 => exact ak (fun γ => ⟨rfl, fun w' h => ex_load6 h 0 rfl rfl rfl rfl⟩) (ak (fun γ => ⟨rfl, fun w' h => ⟨35, #[N n], exec_call rfl call35 rfl (mpn rfl), CL.out w'⟩⟩) (ak (by refine fun γ => ⟨rfl, fun w' h => ?_⟩; clear h; go_simp; rw [IntKind.wrap_i64]; omega) (ak (fun _ => ⟨rfl, fun _ _ => rfl⟩) trivial)))
  intro _ w2 H2
  clear H1
  refine rest0 rfl (then_normal (wp_seq ?_))
  refine walk_seqA 6 [.quiet (N n), .quiet (.int .i64 ((s : Nat) : Int)), .call (N B), .quiet (lev B z), .made zero12 116, .laid 4 zero12 (lec B (wd z))] (sB H2) ?ho3 ?he3 (hL := ?hL3)
  case hL3 => exact ⟨⟨_, rfl⟩, trivial⟩
  case ho3 => exact ak (fun γ => ⟨rfl, fun w' h => ex_load6 h 0 rfl rfl rfl rfl⟩) (ak (fun _ => ⟨rfl, fun _ _ => rfl⟩) (ak (fun γ => ⟨rfl, fun w' h => ⟨36, #[N n, .int .i64 ((s : Nat) : Int)], exec_call rfl call36 rfl (mpn rfl), CB.out w'⟩⟩) (ak (fun γ => ⟨rfl, fun w' _ => ex_buildL HZ.out rfl rfl⟩) (ak (fun γ => ⟨rfl, fun w' => ex_madeL rfl⟩) (ak (fun γ => ⟨rfl, rfl, rfl, fun w' h => ex_laidL h rfl rfl rfl⟩) trivial)))))
  intro γ w3 l hM hl
  have H3 : Hid (Mm w3 [(γ 4, lec B (wd z)), (γ1_0, cells6 n), (γ1_1, zero6), (γ1_2, zero6)] ∧ _) := growB H2 hM (Nat.le_refl _) hl [4] rfl (by decide)
  have o3_4 := ownB H2 hM (Nat.le_refl _) hl (i := 4) rfl
  clear hM hl l H2
  generalize γ 4 = γ3_4 at H3 o3_4 ⊢
  clear γ
  refine rest0 rfl (then_normal (wp_seq ?_))
  refine walk_seqB 8 [.quiet (N 0), .quiet (PT γ3_4 0), .quiet (N B), .call (.tuple #[N L0, .bool cB]), .quiet (.tuple #[N L0, .bool cB]), .quiet (N L0), .quiet (.bool cB), .quiet (PT γ3_4 6)] H3 ?ho4 ?he4
  case ho4 => exact ak (by refine fun γ => ⟨rfl, fun w' h => ?_⟩; clear h; exact ex_zero6 rfl) (ak (by refine fun γ => ⟨rfl, fun w' h => ?_⟩; clear h; go_simp) (ak (fun γ => ⟨rfl, fun w' h => ex_load6 h 0 rfl rfl rfl rfl⟩) (ak (fun γ => ⟨rfl, fun w' h => ⟨53, #[N 0, N B], exec_call rfl call53 rfl (mpn rfl), CS.out w'⟩⟩) (ak (fun _ => ⟨rfl, fun _ _ => rfl⟩) (ak (by refine fun γ => ⟨rfl, fun w' h => ?_⟩; clear h; go_simp) (ak (by refine fun γ => ⟨rfl, fun w' h => ?_⟩; clear h; go_simp) (ak (by refine fun γ => ⟨rfl, fun w' h => ?_⟩; clear h; go_simp) trivial)))))))
  intro _ w4 H4
  clear H3
  refine rest_at (l := [8]) rfl ?_
  refine rest_store rfl rfl rfl (ex_store6 H4.out.1 0 rfl rfl rfl rfl (Nat.le_of_ble_eq_true rfl)) ?_
  have H5 : Hid (Mm (w4.setCells γ3_4 6 (cells6 L0)) [(γ3_4, lec B (wd L0)), (γ1_0, cells6 n), (γ1_1, zero6), (γ1_2, zero6)] ∧ Below w.heap.size w (w4.setCells γ3_4 6 (cells6 L0))) := ⟨H4.out.1.put 0 (off := 6) (vs := cells6 L0) rfl (Nat.le_of_ble_eq_true rfl), below_setCells _ o3_4.out _ _ _ H4.out.2⟩
  clear H4
  generalize hgw : World.setCells _ _ _ _ = w5 at H5 ⊢
  clear hgw
  refine rest_nil (then_normal (wp_seq ?_))
  refine walk_seqB 1 [.quiet (.int .i64 ((s : Nat) : Int))] H5 ?ho5 ?he5
  case ho5 => exact ak (fun _ => ⟨rfl, fun _ _ => rfl⟩) trivial
  intro _ w6 H6
  clear H5
  refine rest_at (l := [1]) rfl ?_
  refine rest_enter (d := 22) (R := fun vv w' => vv = .tuple #[] ∧ Mm w' [(γ3_4, lec B (wd L1))] ∧ Kp γ3_4 w6 w') rfl rfl rfl (exec_call (args := #[PT γ3_4 0, .int .i64 ((s : Nat) : Int)]) rfl call78 rfl (mpn rfl)) (Calls.mono (CD1.out γ3_4 w6 (H6.out.1.one 0 rfl)) (fun e w2 hh => ⟨_, hh.1, rfl, hh.2⟩)) ?_
  rintro _ w7 ⟨rfl, hn, hp⟩
  have H7 : Hid (Mm w7 [(γ3_4, lec B (wd L1)), (γ1_0, cells6 n), (γ1_1, zero6), (γ1_2, zero6)] ∧ Below w.heap.size w w7) := ⟨H6.out.1.change 0 rfl hp hn, Below.kp H6.out.2 hp o3_4.out H6.out.2.size⟩
  clear hn hp H6
  simp only [Act.put, sa, sz, ss]
  refine rest_nil (then_normal (wp_seq ?_))
  refine walk_seqB 5 [.quiet (PT γ3_4 6), .quiet (N L1), .quiet (.int .i64 ((s : Nat) : Int)), .quiet (.int .i64 (-((s : Nat) : Int))), .call (N o)] H7 ?ho6 ?he6
  case ho6 => exact ak (by refine fun γ => ⟨rfl, fun w' h => ?_⟩; clear h; go_simp) (ak (fun γ => ⟨rfl, fun w' h => ex_load6 h 0 rfl rfl rfl rfl⟩) (ak (fun _ => ⟨rfl, fun _ _ => rfl⟩) (ak (by refine fun γ => ⟨rfl, fun w' h => ?_⟩; clear h; go_simp; rw [IntKind.wrap_i64]; omega) (ak (fun γ => ⟨rfl, fun w' h => ⟨36, #[N L1, .int .i64 (-((s : Nat) : Int))], exec_call rfl call36 rfl (mpn rfl), CO.out w'⟩⟩) trivial))))
  intro _ w8 H8
  clear H7
  refine rest_at (l := [5]) rfl ?_
  refine rest_store rfl rfl rfl (ex_store6 H8.out.1 2 rfl rfl rfl rfl (Nat.le_of_ble_eq_true rfl)) ?_
  have H9 : Hid (Mm (w8.setCells γ1_1 0 (cells6 o)) [(γ3_4, lec B (wd L1)), (γ1_0, cells6 n), (γ1_1, cells6 o), (γ1_2, zero6)] ∧ Below w.heap.size w (w8.setCells γ1_1 0 (cells6 o))) := ⟨H8.out.1.put 2 (off := 0) (vs := cells6 o) rfl (Nat.le_of_ble_eq_true rfl), below_setCells _ o1_1.out _ _ _ H8.out.2⟩
  clear H8
  generalize hgw : World.setCells _ _ _ _ = w9 at H9 ⊢
  clear hgw
  refine rest_nil (then_normal (wp_seq ?_))
  refine walk_seqB 0 [] H9 ?ho7 ?he7
  case ho7 => exact trivial
  intro _ w10 H10
  clear H9
  refine rest_at (l := [0]) rfl ?_
  refine rest_enter (d := 28) (R := fun vv w' => vv = .tuple #[] ∧ Mm w' [(γ3_4, lec B (wd L2))] ∧ Kp γ3_4 w10 w') rfl rfl rfl (exec_call (args := #[PT γ3_4 0, .int .i64 384]) rfl call78 rfl (mpn rfl)) (Calls.mono (CD2.out γ3_4 w10 (H10.out.1.one 0 rfl)) (fun e w2 hh => ⟨_, hh.1, rfl, hh.2⟩)) ?_
  rintro _ w11 ⟨rfl, hn, hp⟩
  have H11 : Hid (Mm w11 [(γ3_4, lec B (wd L2)), (γ1_0, cells6 n), (γ1_1, cells6 o), (γ1_2, zero6)] ∧ Below w.heap.size w w11) := ⟨H10.out.1.change 0 rfl hp hn, Below.kp H10.out.2 hp o3_4.out H10.out.2.size⟩
  clear hn hp H10
  simp only [Act.put, sa, sz, ss]
  refine rest_nil (then_normal (wp_seq ?_))
  refine walk_seqB 5 [.quiet (PT γ3_4 6), .quiet (N L2), .quiet (.int .i64 ((s : Nat) : Int)), .quiet (.int .i64 (-((s : Nat) : Int))), .call (N q)] H11 ?ho8 ?he8
  case ho8 => exact ak (by refine fun γ => ⟨rfl, fun w' h => ?_⟩; clear h; go_simp) (ak (fun γ => ⟨rfl, fun w' h => ex_load6 h 0 rfl rfl rfl rfl⟩) (ak (fun _ => ⟨rfl, fun _ _ => rfl⟩) (ak (by refine fun γ => ⟨rfl, fun w' h => ?_⟩; clear h; go_simp; rw [IntKind.wrap_i64]; omega) (ak (fun γ => ⟨rfl, fun w' h => ⟨36, #[N L2, .int .i64 (-((s : Nat) : Int))], exec_call rfl call36 rfl (mpn rfl), CQ.out w'⟩⟩) trivial))))
  intro _ w12 H12
  clear H11
  refine rest_at (l := [5]) rfl ?_
  refine rest_store rfl rfl rfl (ex_store6 H12.out.1 3 rfl rfl rfl rfl (Nat.le_of_ble_eq_true rfl)) ?_
  have H13 : Hid (Mm (w12.setCells γ1_2 0 (cells6 q)) [(γ3_4, lec B (wd L2)), (γ1_0, cells6 n), (γ1_1, cells6 o), (γ1_2, cells6 q)] ∧ Below w.heap.size w (w12.setCells γ1_2 0 (cells6 q))) := ⟨H12.out.1.put 3 (off := 0) (vs := cells6 q) rfl (Nat.le_of_ble_eq_true rfl), below_setCells _ o1_2.out _ _ _ H12.out.2⟩
  clear H12
  generalize hgw : World.setCells _ _ _ _ = w13 at H13 ⊢
  clear hgw
  refine rest_nil (then_normal (wp_seq ?_))
  refine walk_put2 (by kernel_rfl) 2 [1] [.quiet (N o), .quiet (N q)] _ ?pre9 ?F9 _ ?hpre9 (fun γ => ?hF9) (by kernel_rfl) rfl trivial (sB H13) ?ho9 ?hla9 ?he9
  case hpre9 => simp only [tk, tz]; rfl
  case hF9 => simp only [fill, Kind.val, Act.put, sa, sz, ss]; rfl
  case ho9 =>
    refine ak (fun γ => ⟨rfl, fun w' h => ex_load6 h 2 rfl rfl rfl rfl⟩) ?_
    refine ak (fun γ => ⟨rfl, fun w' h => ex_load6 h 3 rfl rfl rfl rfl⟩) ?_
    exact trivial
  case hla9 => exact rfl
  intro γ w14 l hM hl
  have H14 := keepB H13 hM.below
  clear hM hl l H13 γ
  have H15 : Hid (Mm (w14.setCells γ1_1 0 (cells6 o)) [(γ3_4, lec B (wd L2)), (γ1_0, cells6 n), (γ1_1, cells6 o), (γ1_2, cells6 q)] ∧ Below w.heap.size w (w14.setCells γ1_1 0 (cells6 o))) := ⟨H14.out.1.put 2 (off := 0) (vs := cells6 o) rfl (Nat.le_of_ble_eq_true rfl), below_setCells _ o1_1.out _ _ _ H14.out.2⟩
  refine ⟨_, ex_store6 H14.out.1 2 rfl rfl rfl rfl (Nat.le_of_ble_eq_true rfl), ⟨⟨_, _, rfl, rfl, rfl, ex_load6 H15.out.1 3 rfl rfl rfl rfl⟩, trivial⟩, ?_⟩
  clear H14
  generalize hgw : World.setCells _ _ _ _ = w15 at H15 ⊢
  clear hgw
  refine rest_at (l := [3]) rfl ?_
  refine rest_store rfl rfl rfl (ex_store6 H15.out.1 3 rfl rfl rfl rfl (Nat.le_of_ble_eq_true rfl)) ?_
  have H16 : Hid (Mm (w15.setCells γ1_2 0 (cells6 q)) [(γ3_4, lec B (wd L2)), (γ1_0, cells6 n), (γ1_1, cells6 o), (γ1_2, cells6 q)] ∧ Below w.heap.size w (w15.setCells γ1_2 0 (cells6 q))) := ⟨H15.out.1.put 3 (off := 0) (vs := cells6 q) rfl (Nat.le_of_ble_eq_true rfl), below_setCells _ o1_2.out _ _ _ H15.out.2⟩
  clear H15
  generalize hgw : World.setCells _ _ _ _ = w16 at H16 ⊢
  clear hgw
  refine rest_nil (then_normal (wp_ret ?_))
  repeat (first | refine then_ret ?_ | refine block_ret ?_)
  have c0 := H16.out.1.get 2 rfl 0 rfl
  have c1 := H16.out.1.get 2 rfl 1 rfl
  have c2 := H16.out.1.get 2 rfl 2 rfl
  have c3 := H16.out.1.get 2 rfl 3 rfl
  have c4 := H16.out.1.get 2 rfl 4 rfl
  have c5 := H16.out.1.get 2 rfl 5 rfl
  have c1_0 := H16.out.1.get 3 rfl 0 rfl
  have c1_1 := H16.out.1.get 3 rfl 1 rfl
  have c1_2 := H16.out.1.get 3 rfl 2 rfl
  have c1_3 := H16.out.1.get 3 rfl 3 rfl
  have c1_4 := H16.out.1.get 3 rfl 4 rfl
  have c1_5 := H16.out.1.get 3 rfl 5 rfl
  refine bodyPost_ret (v := .tuple #[N o, N q]) (by simp [results, Tryd.results68, go_sem, *]) rfl ?_
  exact ⟨rfl, H16.out.2⟩
end Rg
end Go.Proofs.YtkkloakcphigeaaDoor
end
section
namespace Go.Proofs.YtkkloakcphigeaaDoor
open Go.RowKit
namespace Rg
theorem lead_facts {n : Nat} (ok : Ok n) : ∃ l s, l = bl n ∧ l ≤ 384 ∧ s = 384 - l ∧ s < 384 ∧ n * 2 ^ s < big ∧ big < n * 2 ^ s + n * 2 ^ s := by
  have h0 : n ≠ 0 := by have := ok.three; omega
  have h1 := bl_lt n
  have h2 := bl_le n h0
  have h3 := bl_pos n h0
  have h4 := len_ok ok
  have hl : bl n ≤ 382 := by omega
  refine ⟨bl n, 384 - bl n, rfl, by omega, rfl, by omega, ?_, ?_⟩
  · obtain ⟨m, hm, e⟩ := big_pow
    have hs : 64 * m = bl n + (384 - bl n) := by omega
    rw [e, hs, Nat.pow_add]
    exact Nat.mul_lt_mul_of_pos_right h1 (Nat.two_pow_pos _)
  · obtain ⟨m, hm, e⟩ := big_pow
    have hs : 64 * m = (bl n - 1) + 1 + (384 - bl n) := by omega
    have hne : 2 ^ (bl n - 1) ≠ n := by
      intro h
      rcases Nat.lt_or_ge (bl n - 1) 1 with g | g
      · have : bl n - 1 = 0 := by omega
        rw [this, Nat.pow_zero] at h
        have := ok.three; omega
      · obtain ⟨k, hk⟩ : ∃ k, bl n - 1 = k + 1 := ⟨bl n - 1 - 1, by omega⟩
        rw [hk, Nat.pow_succ] at h
        have := ok.odd; omega
    have hlt : 2 ^ (bl n - 1) < n := by omega
    have h5 := Nat.mul_lt_mul_of_pos_right hlt (Nat.two_pow_pos (384 - bl n))
    rw [e, hs, Nat.pow_add, Nat.pow_succ, Nat.mul_right_comm]
    omega
theorem powersOf_any {n : Nat} (ok : Ok n) (w : World) : Calls Tryd.prog 68 #[N n] w fun e w' => e = .returned (.tuple #[N (big % n), N (big * big % n)]) ∧ Below w.heap.size w w' := by
  obtain ⟨l, s, hl, hl2, hs, hs2, hB, hB2⟩ := lead_facts ok
  have cb := fun w => shift_up n s hs2 w
  rw [Nat.mod_eq_of_lt hB] at cb
  have hBp : 0 < n * 2 ^ s := by omega
  have cl := fun w => len_any n ok.big w
  rw [← hl] at cl
  obtain ⟨B, hBe⟩ : ∃ B, B = n * 2 ^ s := ⟨_, rfl⟩
  rw [← hBe] at cb hB hB2 hBp
  have cs := fun w => sub_any 0 B big_pos2 hB w
  rw [Nat.zero_add, Nat.mod_eq_of_lt (show big - B < big by omega)] at cs
  have hL0 : big - B < B := by omega
  have hmod : big % B = big - B := by
    rw [Nat.mod_eq_sub_mod (by omega), Nat.mod_eq_of_lt hL0]
  have d1 := fun g w hm => doubleL_any g B (big - B) s (by omega) hB hL0 w hm
  have e1 : (big - B) * 2 ^ s % B = big % n * 2 ^ s := by
    rw [← hmod, Nat.mul_mod, Nat.mod_mod, ← Nat.mul_mod, hBe, Nat.mul_mod_mul_right]
  rw [e1] at d1
  have hp := Nat.two_pow_pos s
  have hL1 : big % n * 2 ^ s < B := by
    rw [hBe]; exact Nat.mul_lt_mul_of_pos_right (Nat.mod_lt _ ok.pos) hp
  obtain ⟨k, hk⟩ : ∃ k : Nat, k = 384 := ⟨_, rfl⟩
  have d2 := fun g w hm => doubleL_any g B (big % n * 2 ^ s) k (by omega) hB hL1 w hm
  have e2 : big % n * 2 ^ s * 2 ^ k % B = big * big % n * 2 ^ s := by
    rw [pow_is k (by omega), Nat.mul_right_comm, hBe, Nat.mul_mod_mul_right, Nat.mul_mod, Nat.mod_mod, ← Nat.mul_mod]
  rw [e2] at d2
  have hL2 : big * big % n * 2 ^ s < B := by
    rw [hBe]; exact Nat.mul_lt_mul_of_pos_right (Nat.mod_lt _ ok.pos) hp
  have ek : ((k : Nat) : Int) = 384 := by omega
  rw [ek] at d2
  have co := fun w => shift_neg' (big % n * 2 ^ s) s (by omega) hs2 w
  have cq := fun w => shift_neg' (big * big % n * 2 ^ s) s (by omega) hs2 w
  rw [Nat.mul_div_cancel _ hp] at co cq
  exact powersOf_gen n l s B 0 (big - B) _ _ _ _ _ rfl hl2 hs cl cb cs d1 co d2 cq w
set_option maxRecDepth 100000 in
theorem new_4 (n o s : Nat) (L : Int) (hr : (wd n 0).tmod 2 = 1)
    (e1 : ∀ w, (Op.equalIn 10000 33 (N n) (N 1)).run Tryd.prog w = .ok false w) (hL : ¬ (382 : Int) < L)
    (c29 : ∀ w, Calls Tryd.prog 18 #[.int .u64 1] w fun e w' => e = .returned (N 1) ∧ Below w.heap.size w w')
    (c33 : ∀ w, Calls Tryd.prog 35 #[N n] w fun e w' => e = .returned (.int .i64 L) ∧ Below w.heap.size w w')
    (c34 : ∀ w, Calls Tryd.prog 67 #[.int .u64 (wd n 0)] w fun e w' => e = .returned (.int .u64 (wrapZ (wd n 0))) ∧ Below w.heap.size w w')
    (c35 : ∀ w, Calls Tryd.prog 68 #[N n] w fun e w' => e = .returned (.tuple #[N o, N s]) ∧ Below w.heap.size w w') (w : World) :
    Calls Tryd.prog 41 #[N n] w fun e w' => Below w.heap.size w w' ∧ ∃ g, e = .returned (.tuple #[PT g 0, .int .i64 0]) ∧ w.heap.size ≤ g ∧ g < w'.heap.size ∧ Blk w' g (modx n o s) := by
  have H0 : Hid (_ ∧ _) := ⟨Mm.nil w, Below.refl w.heap.size w⟩
  have C29 : Hid _ := c29
  have C33 : Hid _ := c33
  have C34 : Hid _ := c34
  have C35 : Hid _ := c35
  clear c29 c33 c34 c35
  go_enter Tryd.func41, Tryd.ntmps41
  refine wp_seq ?_
  refine walk_seqA 3 [.made (cells6 n) 33, .quiet (.pointer none), .quiet (.int .i64 0)] (sB H0) ?ho1 ?he1
  case ho1 => exact ak (fun γ => ⟨rfl, fun w' => ex_box6 rfl rfl⟩) (ak (fun _ => ⟨rfl, fun _ _ => rfl⟩) (ak (fun _ => ⟨rfl, fun _ _ => rfl⟩) trivial))
  intro γ w1 l hM hl
  have H1 : Hid (Mm w1 [(γ 0, cells6 n)] ∧ _) := growB H0 hM (Nat.le_refl _) hl [0] rfl (by decide)
  have o1_0 := ownB H0 hM (Nat.le_refl _) hl (i := 0) rfl
  clear hM hl l
  generalize γ 0 = γ1_0 at H1 o1_0 ⊢
  clear γ
  refine rest0 rfl (then_normal (wp_seq (wp_seq ?_)))
  refine walk_anyB 14 [.quiet (PT γ1_0 0), .quiet (.int .u64 (wd n 0)), .quiet (.int .u64 1), .quiet (.bool false), .quiet (.bool false), .quiet (N n), .call (N 1), .quiet (.bool false), .quiet (.bool false), .quiet (.bool false), .quiet (N n), .call (.int .i64 L), .quiet (.bool false), .quiet (.bool false)] H1 ?ho2 ?he2
  case ho2 => exact ak (by refine fun γ => ⟨rfl, fun w' h => ?_⟩; clear h; go_simp) (ak (fun γ => ⟨rfl, fun w' h => ex_load1 h 0 rfl rfl rfl rfl⟩) (ak (by refine fun γ => ⟨rfl, fun w' h => ?_⟩; clear h; go_simp) (ak (by refine fun γ => ⟨rfl, fun w' h => ?_⟩; clear h; go_simp) (ak (fun _ => ⟨rfl, fun _ _ => rfl⟩) (ak (fun γ => ⟨rfl, fun w' h => ex_load6 h 0 rfl rfl rfl rfl⟩) (ak (fun γ => ⟨rfl, fun w' h => ⟨18, #[.int .u64 1], exec_call rfl call18 rfl (mpn rfl), C29.out w'⟩⟩) (ak (fun γ => ⟨rfl, fun w' _ => exec_eq6 e1 rfl rfl rfl⟩) (ak (by refine fun γ => ⟨rfl, fun w' h => ?_⟩; clear h; go_simp) (ak (fun _ => ⟨rfl, fun _ _ => rfl⟩) (ak (fun γ => ⟨rfl, fun w' h => ex_load6 h 0 rfl rfl rfl rfl⟩) (ak (fun γ => ⟨rfl, fun w' h => ⟨35, #[N n], exec_call rfl call35 rfl (mpn rfl), C33.out w'⟩⟩) (ak (by refine fun γ => ⟨rfl, fun w' h => ?_⟩; clear h; go_simp) (ak (by refine fun γ => ⟨rfl, fun w' h => ?_⟩; clear h; go_simp) trivial)))))))))))))
  intro _ w2 H2
  clear H1
  refine rest0 rfl (then_normal (wp_cond_false rfl ?_))
  refine wp_skip (then_normal (wp_seq ?_))
  refine walk_anyA 6 [.quiet (N n), .quiet (PT γ1_0 0), .quiet (.int .u64 (wd n 0)), .call (.int .u64 (wrapZ (wd n 0))), .quiet (modv n 0 0), .made (modx n 0 0) 87] (sB H2) ?ho3 ?he3
  case ho3 => exact ak (fun γ => ⟨rfl, fun w' h => ex_load6 h 0 rfl rfl rfl rfl⟩) (ak (by refine fun γ => ⟨rfl, fun w' h => ?_⟩; clear h; go_simp) (ak (fun γ => ⟨rfl, fun w' h => ex_load1 h 0 rfl rfl rfl rfl⟩) (ak (fun γ => ⟨rfl, fun w' h => ⟨67, #[.int .u64 (wd n 0)], exec_call rfl call67 rfl (mpn rfl), C34.out w'⟩⟩) (ak (fun γ => ⟨rfl, fun w' _ => ex_build39 rfl rfl rfl⟩) (ak (fun γ => ⟨rfl, fun w' => ex_box39 rfl rfl⟩) trivial)))))
  intro γ w3 l hM hl
  have H3 : Hid (Mm w3 [(γ 5, modx n 0 0), (γ1_0, cells6 n)] ∧ _) := growB H2 hM (Nat.le_refl _) hl [5] rfl (by decide)
  have o3_5 := ownB H2 hM (Nat.le_refl _) hl (i := 5) rfl
  clear hM hl l H2
  generalize γ 5 = γ3_5 at H3 o3_5 ⊢
  clear γ
  refine rest_at (l := [6]) rfl ?_
  refine rest_set (d := 4) rfl rfl rfl rfl ?_
  simp only [Act.put, sa, sz, ss]
  refine rest_nil (then_normal (wp_seq ?_))
  refine walk_seqB 9 [.quiet (PT γ3_5 0), .quiet (PT γ3_5 0), .quiet (N n), .call (.tuple #[N o, N s]), .quiet (.tuple #[N o, N s]), .quiet (N o), .quiet (N s), .quiet (PT γ3_5 0), .quiet (PT γ3_5 7)] H3 ?ho4 ?he4
  case ho4 => exact ak (fun _ => ⟨rfl, fun _ _ => rfl⟩) (ak (fun _ => ⟨rfl, fun _ _ => rfl⟩) (ak (fun γ => ⟨rfl, fun w' h => ex_load6 h 1 rfl rfl rfl rfl⟩) (ak (fun γ => ⟨rfl, fun w' h => ⟨68, #[N n], exec_call rfl call68 rfl (mpn rfl), C35.out w'⟩⟩) (ak (fun _ => ⟨rfl, fun _ _ => rfl⟩) (ak (by refine fun γ => ⟨rfl, fun w' h => ?_⟩; clear h; go_simp) (ak (by refine fun γ => ⟨rfl, fun w' h => ?_⟩; clear h; go_simp) (ak (by refine fun γ => ⟨rfl, fun w' h => ?_⟩; clear h; go_simp) (ak (by refine fun γ => ⟨rfl, fun w' h => ?_⟩; clear h; go_simp) trivial))))))))
  intro _ w4 H4
  clear H3
  refine rest_at (l := [9, 10, 11, 12]) rfl ?_
  refine rest_store rfl rfl rfl (ex_store6 H4.out.1 0 rfl rfl rfl rfl (Nat.le_of_ble_eq_true rfl)) ?_
  have H5 : Hid (Mm (w4.setCells γ3_5 7 (cells6 o)) [(γ3_5, modx n o 0), (γ1_0, cells6 n)] ∧ Below w.heap.size w (w4.setCells γ3_5 7 (cells6 o))) := ⟨H4.out.1.put 0 (off := 7) (vs := cells6 o) rfl (Nat.le_of_ble_eq_true rfl), below_setCells _ o3_5.out _ _ _ H4.out.2⟩
  clear H4
  generalize hgw : World.setCells _ _ _ _ = w5 at H5 ⊢
  clear hgw
  refine rest_set (d := 34) (v := PT γ3_5 0) (w' := w5) rfl rfl rfl (by go_simp) ?_
  simp only [Act.put, sa, sz, ss]
  refine rest_set (d := 35) (v := PT γ3_5 13) (w' := w5) rfl rfl rfl (by go_simp) ?_
  simp only [Act.put, sa, sz, ss]
  refine rest_store rfl rfl rfl (ex_store6 H5.out.1 0 rfl rfl rfl rfl (Nat.le_of_ble_eq_true rfl)) ?_
  have H6 : Hid (Mm (w5.setCells γ3_5 13 (cells6 s)) [(γ3_5, modx n o s), (γ1_0, cells6 n)] ∧ Below w.heap.size w (w5.setCells γ3_5 13 (cells6 s))) := ⟨H5.out.1.put 0 (off := 13) (vs := cells6 s) rfl (Nat.le_of_ble_eq_true rfl), below_setCells _ o3_5.out _ _ _ H5.out.2⟩
  clear H5
  generalize hgw : World.setCells _ _ _ _ = w6 at H6 ⊢
  clear hgw
  refine rest_nil (then_normal (wp_seq ?_))
  refine walk_seqB 3 [.quiet (PT γ3_5 0), .quiet (PT γ3_5 0), .quiet (.int .i64 0)] H6 ?ho5 ?he5
  case ho5 => exact ak (fun _ => ⟨rfl, fun _ _ => rfl⟩) (ak (fun _ => ⟨rfl, fun _ _ => rfl⟩) (ak (fun _ => ⟨rfl, fun _ _ => rfl⟩) trivial))
  intro _ w7 H7
  clear H6
  refine rest0 rfl (then_normal (wp_ret ?_))
  repeat (first | refine then_ret ?_ | refine block_ret ?_)
  refine bodyPost_ret (v := .tuple #[PT γ3_5 0, .int .i64 0]) (by simp [results, Tryd.results41, go_sem, *]) rfl ?_
  exact ⟨H7.out.2, γ3_5, rfl, o3_5.out, H7.out.1.lt (List.mem_of_getElem? (i := 0) rfl), (H7.out.1.blk _ (List.mem_of_getElem? (i := 0) rfl)).2⟩
theorem new_ok {n : Nat} (ok : Ok n) (w : World) : Calls Tryd.prog 41 #[N n] w fun e w' => Below w.heap.size w w' ∧ ∃ g, e = .returned (.tuple #[PT g 0, .int .i64 0]) ∧ w.heap.size ≤ g ∧ g < w'.heap.size ∧ Blk w' g (modc n) := by
  have hw := word_mod n
  rw [ok.odd] at hw
  have e1 := fun w => run_eqN n 1 ok.big (small_big 1 (by decide)) w
  rw [decide_eq_false (by have := ok.three; omega)] at e1
  exact new_4 n (big % n) (big * big % n) _ hw e1 (len_ok ok) (fun w => of_any 1 (by decide) w) (fun w => len_any n ok.big w) (fun w => (wrapOf_any (wd n 0) w).mono fun e w' ⟨h1, h2⟩ => ⟨h1, h2 ▸ Below.refl _ _⟩) (fun w => powersOf_any ok w) w
end Rg
end Go.Proofs.YtkkloakcphigeaaDoor
end
section
namespace Go.Proofs.YtkkloakcphigeaaDoor
open Go.RowKit
namespace Rg
end Rg
end Go.Proofs.YtkkloakcphigeaaDoor
end
section
namespace Go.Proofs.YtkkloakcphigeaaDoor
open Go.RowKit
namespace Rg
end Rg
end Go.Proofs.YtkkloakcphigeaaDoor
end
section
namespace Go.Proofs.YtkkloakcphigeaaDoor
open Go.RowKit
namespace Rg
/-! Numbers side by side. -/
def cel : List Nat → List Value
  | [] => []
  | a :: l => cells6 a ++ cel l
abbrev V (l : List Nat) : Value := .agg (cel l).toArray
theorem cel_len : ∀ l : List Nat, (cel l).length = 6 * l.length
  | [] => rfl
  | a :: l => by
    show (cells6 a ++ cel l).length = _
    rw [List.length_append, cel_len l]
    show 6 + 6 * l.length = 6 * (l.length + 1)
    omega
theorem cel_app : ∀ l m : List Nat, cel (l ++ m) = cel l ++ cel m
  | [], _ => rfl
  | a :: l, m => by
    show cells6 a ++ cel (l ++ m) = cells6 a ++ cel l ++ cel m
    rw [cel_app l m, List.append_assoc]
theorem cel_drop : ∀ (i : Nat) (l : List Nat), (cel l).drop (6 * i) = cel (l.drop i)
  | 0, _ => by rw [Nat.mul_zero, List.drop_zero, List.drop_zero]
  | i + 1, [] => by simp [cel]
  | i + 1, a :: l => by
    show (cells6 a ++ cel l).drop (6 * (i + 1)) = cel (l.drop i)
    rw [← cel_drop i l, show 6 * (i + 1) = (cells6 a).length + 6 * i by show _ = 6 + 6 * i; omega, List.drop_length_add_append]
theorem cel_take : ∀ (i : Nat) (l : List Nat), (cel l).take (6 * i) = cel (l.take i)
  | 0, _ => by rw [Nat.mul_zero, List.take_zero, List.take_zero]; rfl
  | i + 1, [] => by simp [cel]
  | i + 1, a :: l => by
    show (cells6 a ++ cel l).take (6 * (i + 1)) = cells6 a ++ cel (l.take i)
    rw [← cel_take i l, show 6 * (i + 1) = (cells6 a).length + 6 * i by show _ = 6 + 6 * i; omega, List.take_length_add_append]
theorem cel_one (l : List Nat) : (cel l).all Value.oneCell' = true := by
  induction l with
  | nil => rfl
  | cons a l ih =>
    show (cells6 a ++ cel l).all Value.oneCell' = true
    rw [List.all_append, ih, Bool.and_true]
    rfl
theorem cel_word {l : List Nat} {i v : Nat} (h : l[i]? = some v) (j : Nat) (hj : j < 6) : (cel l)[6 * i + j]? = some (.int .u64 (wd v j)) := by
  have h1 := List.getElem?_drop (xs := cel l) (i := 6 * i) (j := j)
  rw [← h1, cel_drop]
  obtain ⟨m, hm⟩ : ∃ m, l.drop i = v :: m := by
    refine ⟨l.drop (i + 1), ?_⟩
    obtain ⟨hlt, e⟩ := List.getElem?_eq_some_iff.1 h
    rw [List.drop_eq_getElem_cons hlt, e]
  rw [hm]
  show (cells6 v ++ cel m)[j]? = _
  rw [List.getElem?_append_left (by exact hj)]
  match j, hj with
  | 0, _ => rfl
  | 1, _ => rfl
  | 2, _ => rfl
  | 3, _ => rfl
  | 4, _ => rfl
  | 5, _ => rfl
theorem cel_patch (l m : List Nat) (i : Nat) : patch (cel l) (6 * i) (cel m) = cel (l.take i ++ m ++ l.drop (i + m.length)) := by
  unfold patch
  rw [cel_app, cel_app, cel_take, cel_len, ← Nat.mul_add, cel_drop]
theorem cel_zero (k : Nat) : cel (List.replicate k 0) = List.replicate (6 * k) (.int .u64 0) := by
  induction k with
  | zero => rfl
  | succ k ih =>
    rw [List.replicate_succ]
    show cells6 0 ++ cel (List.replicate k 0) = _
    rw [ih, cells_zero, show 6 * (k + 1) = 6 + 6 * k by omega, ← List.replicate_append_replicate]
    rfl
end Rg
end Go.Proofs.YtkkloakcphigeaaDoor
end
section
namespace Go.Proofs.YtkkloakcphigeaaDoor
namespace NT
/-- A prime. -/
def Prm (p : Nat) : Prop := 1 < p ∧ ∀ d, d ∣ p → d = 1 ∨ d = p
theorem Prm.cop {p : Nat} (h : Prm p) {a : Nat} (ha : ¬ p ∣ a) : Nat.Coprime p a := by
  rcases h.2 (Nat.gcd p a) (Nat.gcd_dvd_left p a) with h1 | h1
  · exact h1
  · exact absurd (h1 ▸ Nat.gcd_dvd_right p a) ha
theorem Prm.mul {p a b : Nat} (h : Prm p) (hd : p ∣ a * b) : p ∣ a ∨ p ∣ b := by
  by_cases ha : p ∣ a
  · exact Or.inl ha
  · exact Or.inr ((h.cop ha).dvd_of_dvd_mul_left hd)
theorem Prm.pos {p : Nat} (h : Prm p) : 0 < p := by have := h.1; omega
/-- Each number above 1 has a prime that divides it. -/
theorem prm_dvd (n : Nat) (h : 1 < n) : ∃ q, Prm q ∧ q ∣ n := by
  induction n using Nat.strongRecOn with
  | ind n ih =>
    by_cases hp : ∃ d, d ∣ n ∧ d ≠ 1 ∧ d ≠ n
    · obtain ⟨d, hd, h1, h2⟩ := hp
      have hle := Nat.le_of_dvd (by omega) hd
      have h0 : d ≠ 0 := by
        intro e; rw [e] at hd; have := Nat.eq_zero_of_zero_dvd hd; omega
      obtain ⟨q, hq, hqd⟩ := ih d (by omega) (by omega)
      exact ⟨q, hq, Nat.dvd_trans hqd hd⟩
    · refine ⟨n, ⟨h, ?_⟩, Nat.dvd_refl n⟩
      intro d hd
      by_cases h1 : d = 1
      · exact Or.inl h1
      · by_cases h2 : d = n
        · exact Or.inr h2
        · exact absurd ⟨d, hd, h1, h2⟩ hp
/-! Binomials. -/
def ch : Nat → Nat → Nat
  | _, 0 => 1
  | 0, _ + 1 => 0
  | n + 1, k + 1 => ch n k + ch n (k + 1)
theorem ch_zero (n : Nat) : ch n 0 = 1 := by cases n <;> rfl
theorem ch_big (n : Nat) : ∀ k, n < k → ch n k = 0 := by
  induction n with
  | zero => intro k hk; cases k with
    | zero => omega
    | succ k => rfl
  | succ n ih => intro k hk; cases k with
    | zero => omega
    | succ k => show ch n k + ch n (k + 1) = 0; rw [ih k (by omega), ih (k + 1) (by omega)]
theorem ch_self (n : Nat) : ch n n = 1 := by
  induction n with
  | zero => rfl
  | succ n ih => show ch n n + ch n (n + 1) = 1; rw [ih, ch_big n (n + 1) (by omega)]
theorem ch_absorb (n : Nat) : ∀ k, (k + 1) * ch (n + 1) (k + 1) = (n + 1) * ch n k := by
  induction n with
  | zero =>
    intro k
    cases k with
    | zero => rfl
    | succ k =>
      rw [ch_big 1 (k + 1 + 1) (by omega), ch_big 0 (k + 1) (by omega)]; omega
  | succ n ih =>
    intro k
    cases k with
    | zero =>
      have h := ih 0
      show (0 + 1) * (ch (n + 1) 0 + ch (n + 1) (0 + 1)) = _
      rw [Nat.mul_add, h, ch_zero, ch_zero]; omega
    | succ k =>
      have h1 := ih k
      have h2 := ih (k + 1)
      show (k + 1 + 1) * (ch (n + 1) (k + 1) + ch (n + 1) (k + 1 + 1)) = (n + 1 + 1) * (ch (n + 1) (k + 1))
      rw [Nat.mul_add, h2]
      have e : ch (n + 1) (k + 1) = ch n k + ch n (k + 1) := rfl
      rw [Nat.add_mul (k + 1) 1, h1, Nat.add_mul (n + 1) 1 (ch (n + 1) (k + 1))]
      have e' : (n + 1) * ch (n + 1) (k + 1) = (n + 1) * ch n k + (n + 1) * ch n (k + 1) := by rw [e, Nat.mul_add]
      omega
theorem ch_dvd {p : Nat} (hp : Prm p) (k : Nat) (h0 : 0 < k) (hk : k < p) : p ∣ ch p k := by
  obtain ⟨k, rfl⟩ : ∃ j, k = j + 1 := ⟨k - 1, by omega⟩
  obtain ⟨n, rfl⟩ : ∃ j, p = j + 1 := ⟨p - 1, by omega⟩
  have h : n + 1 ∣ (k + 1) * ch (n + 1) (k + 1) := ⟨ch n k, ch_absorb n k⟩
  rcases hp.mul h with h1 | h1
  · have := Nat.le_of_dvd (by omega) h1; omega
  · exact h1
def sm (f : Nat → Nat) : Nat → Nat
  | 0 => 0
  | n + 1 => sm f n + f n
theorem sm_first (f : Nat → Nat) (n : Nat) : sm f (n + 1) = f 0 + sm (fun k => f (k + 1)) n := by
  induction n with
  | zero => simp [sm]
  | succ n ih => rw [sm, ih]; simp only [sm]; omega
theorem sm_add (f g : Nat → Nat) (n : Nat) : sm (fun k => f k + g k) n = sm f n + sm g n := by
  induction n with
  | zero => rfl
  | succ n ih => simp only [sm]; rw [ih]; omega
theorem sm_mul (f : Nat → Nat) (c n : Nat) : sm (fun k => c * f k) n = c * sm f n := by
  induction n with
  | zero => rfl
  | succ n ih => simp only [sm]; rw [ih, Nat.mul_add]
theorem sm_congr (f g : Nat → Nat) (n : Nat) (h : ∀ k, k < n → f k = g k) : sm f n = sm g n := by
  induction n with
  | zero => rfl
  | succ n ih => simp only [sm]; rw [ih (fun k hk => h k (by omega)), h n (by omega)]
theorem sm_dvd (f : Nat → Nat) (p n : Nat) (h : ∀ k, k < n → p ∣ f k) : p ∣ sm f n := by
  induction n with
  | zero => exact Nat.dvd_zero p
  | succ n ih => exact Nat.dvd_add (ih (fun k hk => h k (by omega))) (h n (by omega))
theorem binom (a n : Nat) : (a + 1) ^ n = sm (fun k => ch n k * a ^ k) (n + 1) := by
  induction n with
  | zero => simp [sm, ch]
  | succ n ih =>
    rw [Nat.pow_succ, ih, Nat.mul_add, Nat.mul_one]
    rw [sm_first (fun k => ch (n + 1) k * a ^ k) (n + 1)]
    have e : ∀ k, ch (n + 1) (k + 1) * a ^ (k + 1) = a * (ch n k * a ^ k) + ch n (k + 1) * a ^ (k + 1) := by
      intro k
      show (ch n k + ch n (k + 1)) * a ^ (k + 1) = _
      rw [Nat.add_mul, Nat.pow_succ]
      congr 1
      rw [Nat.mul_comm (a ^ k) a, Nat.mul_left_comm]
    have e1 : sm (fun k => ch (n + 1) (k + 1) * a ^ (k + 1)) (n + 1)
        = a * sm (fun k => ch n k * a ^ k) (n + 1) + sm (fun k => ch n (k + 1) * a ^ (k + 1)) (n + 1) := by
      rw [← sm_mul, ← sm_add]
      exact sm_congr _ _ _ (fun k _ => e k)
    rw [e1]
    have e2 : sm (fun k => ch n k * a ^ k) (n + 1) = 1 + sm (fun k => ch n (k + 1) * a ^ (k + 1)) (n + 1) := by
      rw [sm_first (fun k => ch n k * a ^ k) n]
      have : sm (fun k => ch n (k + 1) * a ^ (k + 1)) (n + 1) = sm (fun k => ch n (k + 1) * a ^ (k + 1)) n + ch n (n + 1) * a ^ (n + 1) := rfl
      rw [this, ch_big n (n + 1) (by omega), ch_zero]
      simp
    rw [ch_zero, Nat.pow_zero, Nat.mul_comm _ a]
    omega
theorem dream {p : Nat} (hp : Prm p) (a : Nat) : (a + 1) ^ p % p = (a ^ p + 1) % p := by
  obtain ⟨n, rfl⟩ : ∃ j, p = j + 1 := ⟨p - 1, by have := hp.1; omega⟩
  rw [binom, sm, sm_first]
  obtain ⟨c, hc⟩ := sm_dvd (fun k => ch (n + 1) (k + 1) * a ^ (k + 1)) (n + 1) n
    (fun k hk => Nat.dvd_trans (ch_dvd hp (k + 1) (by omega) (by omega)) (Nat.dvd_mul_right _ _))
  rw [hc, ch_self, ch_zero, Nat.pow_zero]
  have : 1 * 1 + (n + 1) * c + 1 * a ^ (n + 1) = (a ^ (n + 1) + 1) + (n + 1) * c := by omega
  rw [this, Nat.add_mul_mod_self_left]
theorem fermat {p : Nat} (hp : Prm p) (a : Nat) : a ^ p % p = a % p := by
  induction a with
  | zero => rw [Nat.zero_pow hp.pos]
  | succ a ih => rw [dream hp, Nat.add_mod, ih, ← Nat.add_mod]
theorem fermat1 {p : Nat} (hp : Prm p) (a : Nat) (ha : ¬ p ∣ a) : a ^ (p - 1) % p = 1 := by
  have h := fermat hp a
  obtain ⟨n, rfl⟩ : ∃ j, p = j + 1 := ⟨p - 1, by have := hp.1; omega⟩
  rw [Nat.add_sub_cancel]
  rw [Nat.pow_succ] at h
  have hn : 0 < n := by have := hp.1; omega
  have h1 : 1 ≤ a ^ n := Nat.one_le_iff_ne_zero.mpr (fun e => by
    rcases Nat.pow_eq_zero.mp e with ⟨e1, -⟩
    rw [e1] at ha; exact ha (Nat.dvd_zero _))
  have h2 : n + 1 ∣ (a ^ n - 1) * a := by
    rw [Nat.sub_mul, Nat.one_mul]
    exact Nat.dvd_of_mod_eq_zero (Nat.sub_mod_eq_zero_of_mod_eq h)
  rcases hp.mul h2 with h3 | h3
  · obtain ⟨c, hc⟩ := h3
    have : a ^ n = 1 + (n + 1) * c := by omega
    rw [this, Nat.add_mul_mod_self_left, Nat.mod_eq_of_lt hp.1]
  · exact absurd h3 ha
/-! Orders. -/
theorem least (P : Nat → Prop) (n : Nat) (h : P n) : ∃ m, P m ∧ ∀ k, k < m → ¬ P k := by
  induction n using Nat.strongRecOn with
  | ind n ih =>
    by_cases hk : ∃ k, k < n ∧ P k
    · obtain ⟨k, h1, h2⟩ := hk
      exact ih k h1 h2
    · exact ⟨n, h, fun k h1 h2 => hk ⟨k, h1, h2⟩⟩
theorem order {d : Nat} (hd : Prm d) (a : Nat) (ha : ¬ d ∣ a) :
    ∃ e, e ∣ d - 1 ∧ a ^ e % d = 1 ∧ ∀ m, a ^ m % d = 1 → e ∣ m := by
  obtain ⟨e, ⟨h0, h1⟩, h2⟩ := least (fun e => 0 < e ∧ a ^ e % d = 1) (d - 1) ⟨by have := hd.1; omega, fermat1 hd a ha⟩
  have h3 : ∀ m, a ^ m % d = 1 → e ∣ m := by
    intro m hm
    by_cases hr : m % e = 0
    · exact Nat.dvd_of_mod_eq_zero hr
    · exfalso
      refine h2 (m % e) (Nat.mod_lt _ h0) ⟨by omega, ?_⟩
      have e1 : a ^ m = (a ^ e) ^ (m / e) * a ^ (m % e) := by
        rw [← Nat.pow_mul, ← Nat.pow_add, Nat.div_add_mod]
      rw [e1, Nat.mul_mod, Nat.pow_mod, h1, Nat.one_pow, Nat.mod_eq_of_lt hd.1, Nat.one_mul, Nat.mod_mod] at hm
      exact hm
  exact ⟨e, h3 _ (fermat1 hd a ha), h1, h3⟩
/-- Pocklington: each prime that divides N leaves 1 by F. -/
theorem pock {N M F a d : Nat} (qs : List Nat) (hM : N = M + 1) (hF : F ∣ M) (hd : Prm d) (hdN : d ∣ N) (h1 : a ^ M % N = 1)
    (hc : ∀ t, (∀ q, q ∈ qs → Nat.Coprime q t) → Nat.Coprime F t)
    (hq : ∀ q, q ∈ qs → Prm q ∧ q ∣ M ∧ Nat.Coprime (a ^ (M / q) % N + M) N) : F ∣ d - 1 := by
  have hmod : ∀ x, x % N % d = x % d := fun x => Nat.mod_mod_of_dvd x hdN
  have h1d : a ^ M % d = 1 := by rw [← hmod, h1, Nat.mod_eq_of_lt hd.1]
  have hM0 : M ≠ 0 := by
    intro e; rw [e] at hM; rw [hM] at hdN; have := Nat.dvd_one.mp hdN; have := hd.1; omega
  have ha : ¬ d ∣ a := by
    intro h
    have h2 : d ∣ a ^ M := Nat.dvd_trans h (by
      obtain ⟨k, hk⟩ : ∃ k, M = k + 1 := ⟨M - 1, by omega⟩
      rw [hk, Nat.pow_succ]; exact Nat.dvd_mul_left _ _)
    have := Nat.mod_eq_zero_of_dvd h2
    omega
  obtain ⟨e, h2, h3, h4⟩ := order hd a ha
  obtain ⟨t, ht⟩ := h4 M h1d
  have hcop : Nat.Coprime F t := by
    refine hc t (fun q hqm => ?_)
    obtain ⟨g1, g2, g3⟩ := hq q hqm
    refine g1.cop (fun hqt => ?_)
    obtain ⟨s, hs⟩ := hqt
    have g4 : M / q = e * s := by
      rw [ht, hs, Nat.mul_left_comm, Nat.mul_div_cancel_left _ g1.pos]
    have g5 : a ^ (M / q) % d = 1 := by
      rw [g4, Nat.pow_mul, Nat.pow_mod, h3, Nat.one_pow, Nat.mod_eq_of_lt hd.1]
    have g6 : d ∣ a ^ (M / q) % N + M := by
      refine Nat.dvd_of_mod_eq_zero ?_
      rw [Nat.add_mod, hmod, g5, ← Nat.mod_eq_of_lt hd.1, ← Nat.add_mod, Nat.add_comm 1 M, ← hM]
      exact Nat.mod_eq_zero_of_dvd hdN
    have g7 := Nat.dvd_gcd g6 hdN
    rw [g3] at g7
    have := Nat.dvd_one.mp g7; have := hd.1; omega
  have h5 : F ∣ e := hcop.dvd_of_dvd_mul_right (ht ▸ hF)
  exact Nat.dvd_trans h5 h2
/-- A number whose prime divisors all leave 1 by F, F F above it, is prime. -/
theorem prm_of {N F : Nat} (hN : 1 < N) (hF : N < F * F) (h : ∀ d, Prm d → d ∣ N → F ∣ d - 1) : Prm N := by
  obtain ⟨d, hd, hdN⟩ := prm_dvd N hN
  by_cases e : d = N
  · exact e ▸ hd
  · exfalso
    obtain ⟨c, hc⟩ := hdN
    have hc1 : 1 < c := by
      rcases c with _ | _ | c
      · omega
      · omega
      · omega
    obtain ⟨d', hd', hdc⟩ := prm_dvd c hc1
    have g1 : F ≤ d - 1 := Nat.le_of_dvd (by have := hd.1; omega) (h d hd ⟨c, hc⟩)
    have g2 : F ≤ d' - 1 := Nat.le_of_dvd (by have := hd'.1; omega) (h d' hd' (Nat.dvd_trans hdc ⟨d, by rw [hc, Nat.mul_comm]⟩))
    have g3 := Nat.le_of_dvd (by omega) hdc
    have g4 : F * F ≤ d * c := Nat.mul_le_mul (by omega) (by omega)
    omega
/-! Powers by squaring, for the kernel. -/
def pm (N : Nat) : Nat → Nat → Nat → Nat → Nat
  | 0, _, _, acc => acc
  | f + 1, b, e, acc => pm N f (b * b % N) (e / 2) (if e % 2 = 1 then acc * b % N else acc)
theorem pm_spec (N : Nat) (f : Nat) : ∀ b e acc, e < 2 ^ f → pm N f b e acc % N = acc * b ^ e % N := by
  induction f with
  | zero =>
    intro b e acc h
    have : e = 0 := by simpa using h
    rw [this, Nat.pow_zero, Nat.mul_one]; rfl
  | succ f ih =>
    intro b e acc h
    show pm N f (b * b % N) (e / 2) (if e % 2 = 1 then acc * b % N else acc) % N = _
    rw [ih _ _ _ (by rw [Nat.pow_succ] at h; omega)]
    have h1 : (b * b % N) ^ (e / 2) % N = b ^ (2 * (e / 2)) % N := by
      rw [← Nat.pow_mod, Nat.pow_mul, Nat.pow_two]
    rw [Nat.mul_mod, h1, ← Nat.mul_mod]
    by_cases he : e % 2 = 1
    · rw [if_pos he, Nat.mul_mod, Nat.mod_mod, ← Nat.mul_mod, Nat.mul_assoc, ← Nat.pow_add_one']
      have : 2 * (e / 2) + 1 = e := by omega
      rw [this]
    · rw [if_neg he]
      have : 2 * (e / 2) = e := by omega
      rw [this]
theorem pm_spec2 (N g h b e acc : Nat) (hh : e < 2 ^ g * 2 ^ h) : pm N (g + h) b e acc % N = acc * b ^ e % N :=
  pm_spec N (g + h) b e acc (by rw [Nat.pow_add]; exact hh)
theorem pm_eq {N a e c : Nat} (h : e < 2 ^ 256 * 2 ^ 256 ∧ pm N 512 a e 1 % N = c) : a ^ e % N = c := by
  have := pm_spec2 N 256 256 a e 1 h.1
  rw [Nat.one_mul] at this
  rw [← this]; exact h.2
theorem cop_pm {N a e M : Nat} (h : e < 2 ^ 256 * 2 ^ 256 ∧ Nat.gcd (pm N 512 a e 1 % N + M) N = 1) : Nat.Coprime (a ^ e % N + M) N := by
  have := pm_eq (N := N) (a := a) (e := e) ⟨h.1, rfl⟩
  rw [this]; exact h.2
/-! Trial division. -/
def tr (n : Nat) : Nat → Nat → Bool
  | 0, _ => true
  | f + 1, d => if n % d = 0 then false else tr n f (d + 1)
theorem tr_spec (n : Nat) (f : Nat) : ∀ d, tr n f d = true → ∀ c, d ≤ c → c < d + f → ¬ c ∣ n := by
  induction f with
  | zero => intro d _ c h1 h2; omega
  | succ f ih =>
    intro d h c h1 h2 hc
    unfold tr at h
    by_cases h0 : n % d = 0
    · rw [if_pos h0] at h; exact absurd h (by decide)
    · rw [if_neg h0] at h
      by_cases e : c = d
      · rw [e] at hc; exact h0 (Nat.mod_eq_zero_of_dvd hc)
      · exact ih (d + 1) h c (by omega) (by omega) hc
theorem prm_trial (n f : Nat) (h1 : 1 < n) (h2 : n < (f + 2) * (f + 2)) (h : n < 4 ∨ tr n f 2 = true) : Prm n := by
  refine ⟨h1, fun d hd => ?_⟩
  obtain ⟨c, hc⟩ := hd
  rcases h with h | h
  · have hd2 : d = 1 ∨ d = n := by
      have hle := Nat.le_of_dvd (by omega) (⟨c, hc⟩ : d ∣ n)
      have h0 : d ≠ 0 := by
        intro e; rw [e, Nat.zero_mul] at hc; omega
      rcases d with _ | _ | _ | d
      · exact absurd rfl h0
      · left; rfl
      · right
        have : n = 2 ∨ n = 3 := by omega
        rcases this with e | e
        · omega
        · omega
      · right; omega
    exact hd2
  · have key : ∀ x y, n = x * y → x ≤ y → x = 1 ∨ x = 0 := by
      intro x y e hle
      rcases Nat.lt_or_ge x 2 with g | g
      · omega
      · exfalso
        refine tr_spec n f 2 h x g ?_ ⟨y, e⟩
        rcases Nat.lt_or_ge x (2 + f) with g2 | g2
        · exact g2
        · exfalso
          have : (f + 2) * (f + 2) ≤ x * y := Nat.mul_le_mul (by omega) (by omega)
          omega
    rcases Nat.le_total d c with hle | hle
    · rcases key d c hc hle with e | e
      · exact Or.inl e
      · rw [e, Nat.zero_mul] at hc; omega
    · rcases key c d (by rw [hc, Nat.mul_comm]) hle with e | e
      · right; rw [hc, e, Nat.mul_one]
      · rw [e, Nat.mul_zero] at hc; omega
theorem pockp {N M F a d : Nat} (qs : List Nat) (hM : N = M + 1) (hF : F ∣ M) (hd : Prm d) (hdN : d ∣ N) (h1 : M < 2 ^ 256 * 2 ^ 256 ∧ pm N 512 a M 1 % N = 1)
    (hc : ∀ t, (∀ q, q ∈ qs → Nat.Coprime q t) → Nat.Coprime F t)
    (hq : ∀ q, q ∈ qs → Prm q ∧ q ∣ M ∧ M / q < 2 ^ 256 * 2 ^ 256 ∧ Nat.gcd (pm N 512 a (M / q) 1 % N + M) N = 1) : F ∣ d - 1 :=
  pock qs hM hF hd hdN (pm_eq h1) hc (fun q h => ⟨(hq q h).1, (hq q h).2.1, cop_pm (hq q h).2.2⟩)
theorem prm_2 : Prm 2 := prm_trial 2 2 (by decide) (by decide) (by decide +kernel)
theorem prm_52437899 : Prm 52437899 := prm_trial 52437899 7242 (by decide) (by decide) (by decide +kernel)
theorem prm_906349 : Prm 906349 := prm_trial 906349 953 (by decide) (by decide) (by decide +kernel)
theorem prm_254760293 : Prm 254760293 := prm_trial 254760293 15962 (by decide) (by decide) (by decide +kernel)
theorem fac_r : ∀ d, Prm d → d ∣ 52435875175126190479447740508185965837690552500527637822603658699938581184513 → 12007692098914813156957407318437874572875268096 ∣ d - 1 := by
  intro d hd hdN
  refine pockp (N := 52435875175126190479447740508185965837690552500527637822603658699938581184513) (M := 52435875175126190479447740508185965837690552500527637822603658699938581184512) (F := 12007692098914813156957407318437874572875268096) (a := 5) [2, 906349, 52437899, 254760293] (by decide) (by decide +kernel) hd hdN (by decide +kernel) ?_ ?_
  · intro t h
    have e : 12007692098914813156957407318437874572875268096 = (2 ^ 32 * (906349 ^ 2 * (52437899 * 254760293 ^ 2))) := by decide
    rw [e]
    exact Nat.Coprime.mul_left (Nat.Coprime.pow_left 32 (h 2 (by decide))) (Nat.Coprime.mul_left (Nat.Coprime.pow_left 2 (h 906349 (by decide))) (Nat.Coprime.mul_left ((h 52437899 (by decide))) (Nat.Coprime.pow_left 2 (h 254760293 (by decide)))))
  · intro q hq
    simp only [List.mem_cons, List.not_mem_nil, or_false] at hq
    rcases hq with rfl | rfl | rfl | rfl
    · exact ⟨prm_2, by decide +kernel, by decide +kernel⟩
    · exact ⟨prm_906349, by decide +kernel, by decide +kernel⟩
    · exact ⟨prm_52437899, by decide +kernel, by decide +kernel⟩
    · exact ⟨prm_254760293, by decide +kernel, by decide +kernel⟩
theorem prm_r : Prm 52435875175126190479447740508185965837690552500527637822603658699938581184513 := prm_of (by decide) (by decide) fac_r
end NT
end Go.Proofs.YtkkloakcphigeaaDoor
end
section
namespace Go.Proofs.YtkkloakcphigeaaDoor
open Go.RowKit
namespace Rg
def rB : Nat := 52435875175126190479447740508185965837690552500527637822603658699938581184513
theorem rB_0 : wd rB 0 = 18446744069414584321 := by decide +kernel
theorem rB_1 : wd rB 1 = 6034159408538082302 := by decide +kernel
theorem rB_2 : wd rB 2 = 3691218898639771653 := by decide +kernel
theorem rB_3 : wd rB 3 = 8353516859464449352 := by decide +kernel
theorem rB_4 : wd rB 4 = 0 := by decide +kernel
theorem rB_5 : wd rB 5 = 0 := by decide +kernel
theorem rB_ok : Ok rB := ⟨by decide +kernel, by decide +kernel, by decide +kernel⟩
theorem ex_build_rB {ρ : Operand → Value} {o : Oper} {w : World} (ho : o.op = .build 33 #[(0, .const (.int .u64 18446744069414584321)), (1, .const (.int .u64 6034159408538082302)), (2, .const (.int .u64 3691218898639771653)), (3, .const (.int .u64 8353516859464449352))]) (h0 : ρ (.const (.int .u64 18446744069414584321)) = .int .u64 18446744069414584321) (h1 : ρ (.const (.int .u64 6034159408538082302)) = .int .u64 6034159408538082302) (h2 : ρ (.const (.int .u64 3691218898639771653)) = .int .u64 3691218898639771653) (h3 : ρ (.const (.int .u64 8353516859464449352)) = .int .u64 8353516859464449352) : (execOp ρ o).run Tryd.prog w = .ok (.value (N rB)) w := by
  have e : N rB = .agg #[.int .u64 18446744069414584321, .int .u64 6034159408538082302, .int .u64 3691218898639771653, .int .u64 8353516859464449352, .int .u64 0, .int .u64 0] := by simp only [N, rB_0, rB_1, rB_2, rB_3, rB_4, rB_5]
  rw [e]
  clear e
  simp only [execOp, ho]
  go_simp
set_option maxRecDepth 100000 in
theorem base_rB (w : World) :
    Calls Tryd.prog 33 #[] w fun e w' => e = .returned (N rB) ∧ Below w.heap.size w w' := by
  have H0 : Hid (_ ∧ _) := ⟨Mm.nil w, Below.refl w.heap.size w⟩
  go_enter Tryd.func33, Tryd.ntmps33
  refine wp_seq ?_
  refine walk_seqA 1 [.made zero6 33] (sB H0) ?ho1 ?he1
  case ho1 => exact ak (fun γ => ⟨rfl, fun w' => exec_made6 rfl⟩) trivial
  intro γ w1 l hM hl
  have H1 : Hid (Mm w1 [(γ 0, zero6)] ∧ _) := growB H0 hM (Nat.le_refl _) hl [0] rfl (by decide)
  have o1_0 := ownB H0 hM (Nat.le_refl _) hl (i := 0) rfl
  clear hM hl l
  generalize γ 0 = γ1_0 at H1 o1_0 ⊢
  clear γ
  refine rest0 rfl (then_normal (wp_seq ?_))
  refine walk_seqB 1 [.quiet (N rB)] H1 ?ho2 ?he2
  case ho2 => exact ak (fun γ => ⟨rfl, fun w' _ => ex_build_rB rfl rfl rfl rfl rfl ⟩) trivial
  intro _ w2 H2
  clear H1
  refine rest_at (l := [1]) rfl ?_
  refine rest_store rfl rfl rfl (ex_store6 H2.out.1 0 rfl rfl rfl rfl (Nat.le_of_ble_eq_true rfl)) ?_
  have H3 : Hid (Mm (w2.setCells γ1_0 0 (cells6 rB)) [(γ1_0, cells6 rB)] ∧ Below w.heap.size w (w2.setCells γ1_0 0 (cells6 rB))) := ⟨H2.out.1.put 0 (off := 0) (vs := cells6 rB) rfl (Nat.le_of_ble_eq_true rfl), below_setCells _ o1_0.out _ _ _ H2.out.2⟩
  clear H2
  generalize hgw : World.setCells _ _ _ _ = w3 at H3 ⊢
  clear hgw
  refine rest_nil (then_normal (wp_ret ?_))
  repeat (first | refine then_ret ?_ | refine block_ret ?_)
  have c0 := H3.out.1.get 0 rfl 0 rfl
  have c1 := H3.out.1.get 0 rfl 1 rfl
  have c2 := H3.out.1.get 0 rfl 2 rfl
  have c3 := H3.out.1.get 0 rfl 3 rfl
  have c4 := H3.out.1.get 0 rfl 4 rfl
  have c5 := H3.out.1.get 0 rfl 5 rfl
  refine bodyPost_ret (v := N rB) (by simp [results, Tryd.results33, go_sem, *]) rfl ?_
  exact ⟨rfl, H3.out.2⟩
end Rg
end Go.Proofs.YtkkloakcphigeaaDoor
end
section
namespace Go.Proofs.YtkkloakcphigeaaDoor
open Go.RowKit
namespace Rg
set_option maxRecDepth 100000
section
variable {ρ : Operand → Value} {o : Oper} {x y z u : Operand} {a b c d : Nat} {w : World}
end
set_option maxRecDepth 100000 in
theorem order_great (r : Nat)
    (c0 : ∀ w, Calls Tryd.prog 33 #[] w fun e w' => e = .returned (N r) ∧ Below w.heap.size w w') (w : World) :
    Calls Tryd.prog 20 #[.int .i64 0] w fun e w' => e = .returned (.tuple #[N r, .int .i64 0]) ∧ Below w.heap.size w w' := by
  have H0 : Hid (_ ∧ _) := ⟨Mm.nil w, Below.refl w.heap.size w⟩
  have C0 : Hid _ := c0
  clear c0
  go_enter Tryd.func20, Tryd.ntmps20
  refine wp_seq ?_
  refine walk_seqA 2 [.made zero6 33, .quiet (.int .i64 0)] (sB H0) ?ho1 ?he1
  case ho1 => exact ak (fun γ => ⟨rfl, fun w' => exec_made6 rfl⟩) (ak (fun _ => ⟨rfl, fun _ _ => rfl⟩) trivial)
  intro γ w1 l hM hl
  have H1 : Hid (Mm w1 [(γ 0, zero6)] ∧ _) := growB H0 hM (Nat.le_refl _) hl [0] rfl (by decide)
  have o1_0 := ownB H0 hM (Nat.le_refl _) hl (i := 0) rfl
  clear hM hl l
  generalize γ 0 = γ1_0 at H1 o1_0 ⊢
  clear γ
  refine rest0 rfl (then_normal (wp_seq ?_))
  refine walk_seqB 1 [.quiet (.int .i64 0)] H1 ?ho2 ?he2
  case ho2 => exact ak (fun _ => ⟨rfl, fun _ _ => rfl⟩) trivial
  intro _ w2 H2
  clear H1
  refine rest0 rfl (then_normal (wp_block (wp_seq ?_)))
  refine walk_seqB 2 [.quiet (.bool true), .quiet (.bool true)] H2 ?ho3 ?he3
  case ho3 => exact ak (by refine fun γ => ⟨rfl, fun w' h => ?_⟩; clear h; go_simp) (ak (fun _ => ⟨rfl, fun _ _ => rfl⟩) trivial)
  intro _ w3 H3
  clear H2
  refine rest0 rfl (then_normal (wp_cond_true rfl (wp_seq ?_)))
  refine walk_seqB 1 [.call (N r)] H3 ?ho4 ?he4
  case ho4 => exact ak (fun γ => ⟨rfl, fun w' h => ⟨33, #[], exec_call rfl call33 rfl (mpn rfl), C0.out w'⟩⟩) trivial
  intro _ w4 H4
  clear H3
  refine rest_at (l := [1, 2]) rfl ?_
  refine rest_store rfl rfl rfl (ex_store6 H4.out.1 0 rfl rfl rfl rfl (Nat.le_of_ble_eq_true rfl)) ?_
  have H5 : Hid (Mm (w4.setCells γ1_0 0 (cells6 r)) [(γ1_0, cells6 r)] ∧ Below w.heap.size w (w4.setCells γ1_0 0 (cells6 r))) := ⟨H4.out.1.put 0 (off := 0) (vs := cells6 r) rfl (Nat.le_of_ble_eq_true rfl), below_setCells _ o1_0.out _ _ _ H4.out.2⟩
  clear H4
  generalize hgw : World.setCells _ _ _ _ = w5 at H5 ⊢
  clear hgw
  refine rest_set (d := 3) rfl rfl rfl rfl ?_
  simp only [Act.put, sa, sz, ss]
  refine rest_nil (then_normal (wp_ret ?_))
  repeat (first | refine then_ret ?_ | refine block_ret ?_)
  have c0 := H5.out.1.get 0 rfl 0 rfl
  have c1 := H5.out.1.get 0 rfl 1 rfl
  have c2 := H5.out.1.get 0 rfl 2 rfl
  have c3 := H5.out.1.get 0 rfl 3 rfl
  have c4 := H5.out.1.get 0 rfl 4 rfl
  have c5 := H5.out.1.get 0 rfl 5 rfl
  refine bodyPost_ret (v := .tuple #[N r, .int .i64 0]) (by simp [results, Tryd.results20, go_sem, *]) rfl ?_
  exact ⟨rfl, H5.out.2⟩
set_option maxRecDepth 100000 in
theorem order_little (s er : Int) (q r : Nat) (hs : s ≠ 0)
    (c0 : ∀ w, Calls Tryd.prog 34 #[.int .i64 s] w fun e w' => e = .returned (.tuple #[.int .u64 (q : Int), .int .i64 er]) ∧ Below w.heap.size w w')
    (c1 : ∀ w, Calls Tryd.prog 18 #[.int .u64 (q : Int)] w fun e w' => e = .returned (N r) ∧ Below w.heap.size w w') (w : World) :
    Calls Tryd.prog 20 #[.int .i64 s] w fun e w' => e = .returned (.tuple #[N r, .int .i64 er]) ∧ Below w.heap.size w w' := by
  have H0 : Hid (_ ∧ _) := ⟨Mm.nil w, Below.refl w.heap.size w⟩
  have C0 : Hid _ := c0
  have C1 : Hid _ := c1
  clear c0 c1
  go_enter Tryd.func20, Tryd.ntmps20
  refine wp_seq ?_
  refine walk_seqA 2 [.made zero6 33, .quiet (.int .i64 0)] (sB H0) ?ho1 ?he1
  case ho1 => exact ak (fun γ => ⟨rfl, fun w' => exec_made6 rfl⟩) (ak (fun _ => ⟨rfl, fun _ _ => rfl⟩) trivial)
  intro γ w1 l hM hl
  have H1 : Hid (Mm w1 [(γ 0, zero6)] ∧ _) := growB H0 hM (Nat.le_refl _) hl [0] rfl (by decide)
  have o1_0 := ownB H0 hM (Nat.le_refl _) hl (i := 0) rfl
  clear hM hl l
  generalize γ 0 = γ1_0 at H1 o1_0 ⊢
  clear γ
  refine rest0 rfl (then_normal (wp_seq ?_))
  refine walk_seqB 1 [.quiet (.int .i64 s)] H1 ?ho2 ?he2
  case ho2 => exact ak (fun _ => ⟨rfl, fun _ _ => rfl⟩) trivial
  intro _ w2 H2
  clear H1
  refine rest0 rfl (then_normal (wp_block (wp_seq ?_)))
  refine walk_seqB 2 [.quiet (.bool false), .quiet (.bool false)] H2 ?ho3 ?he3
  case ho3 => exact ak (by refine fun γ => ⟨rfl, fun w' h => ?_⟩; clear h; go_simp) (ak (fun _ => ⟨rfl, fun _ _ => rfl⟩) trivial)
  intro _ w3 H3
  clear H2
  refine rest0 rfl (then_normal (wp_cond_false rfl (wp_seq ?_)))
  refine walk_seqB 7 [.quiet (.int .i64 s), .call (.tuple #[.int .u64 (q : Int), .int .i64 er]), .quiet (.tuple #[.int .u64 (q : Int), .int .i64 er]), .quiet (.int .u64 (q : Int)), .quiet (.int .i64 er), .quiet (.int .u64 (q : Int)), .quiet (.int .i64 er)] H3 ?ho4 ?he4
  case ho4 => exact ak (fun _ => ⟨rfl, fun _ _ => rfl⟩) (ak (fun γ => ⟨rfl, fun w' h => ⟨34, #[.int .i64 s], exec_call rfl call34 rfl (mpn rfl), C0.out w'⟩⟩) (ak (fun _ => ⟨rfl, fun _ _ => rfl⟩) (ak (by refine fun γ => ⟨rfl, fun w' h => ?_⟩; clear h; go_simp) (ak (by refine fun γ => ⟨rfl, fun w' h => ?_⟩; clear h; go_simp) (ak (fun _ => ⟨rfl, fun _ _ => rfl⟩) (ak (fun _ => ⟨rfl, fun _ _ => rfl⟩) trivial))))))
  intro _ w4 H4
  clear H3
  refine rest0 rfl (then_normal (wp_seq ?_))
  refine walk_seqB 3 [.quiet (.int .u64 (q : Int)), .call (N r), .quiet (.int .i64 er)] H4 ?ho5 ?he5
  case ho5 => exact ak (fun _ => ⟨rfl, fun _ _ => rfl⟩) (ak (fun γ => ⟨rfl, fun w' h => ⟨18, #[.int .u64 (q : Int)], exec_call rfl call18 rfl (mpn rfl), C1.out w'⟩⟩) (ak (fun _ => ⟨rfl, fun _ _ => rfl⟩) trivial))
  intro _ w5 H5
  clear H4
  refine rest_at (l := [3, 4]) rfl ?_
  refine rest_store rfl rfl rfl (ex_store6 H5.out.1 0 rfl rfl rfl rfl (Nat.le_of_ble_eq_true rfl)) ?_
  have H6 : Hid (Mm (w5.setCells γ1_0 0 (cells6 r)) [(γ1_0, cells6 r)] ∧ Below w.heap.size w (w5.setCells γ1_0 0 (cells6 r))) := ⟨H5.out.1.put 0 (off := 0) (vs := cells6 r) rfl (Nat.le_of_ble_eq_true rfl), below_setCells _ o1_0.out _ _ _ H5.out.2⟩
  clear H5
  generalize hgw : World.setCells _ _ _ _ = w6 at H6 ⊢
  clear hgw
  refine rest_set (d := 3) rfl rfl rfl rfl ?_
  simp only [Act.put, sa, sz, ss]
  refine rest_nil (then_normal (wp_ret ?_))
  repeat (first | refine then_ret ?_ | refine block_ret ?_)
  have c0 := H6.out.1.get 0 rfl 0 rfl
  have c1 := H6.out.1.get 0 rfl 1 rfl
  have c2 := H6.out.1.get 0 rfl 2 rfl
  have c3 := H6.out.1.get 0 rfl 3 rfl
  have c4 := H6.out.1.get 0 rfl 4 rfl
  have c5 := H6.out.1.get 0 rfl 5 rfl
  refine bodyPost_ret (v := .tuple #[N r, .int .i64 er]) (by simp [results, Tryd.results20, go_sem, *]) rfl ?_
  exact ⟨rfl, H6.out.2⟩
/-- A suite: its order is told, and is a modulus. -/
structure Su (s : Int) (r : Nat) : Prop where
  ord : ∀ w, Calls Tryd.prog 20 #[.int .i64 s] w fun e w' => e = .returned (.tuple #[N r, .int .i64 0]) ∧ Below w.heap.size w w'
  ok : Ok r
end Rg
end Go.Proofs.YtkkloakcphigeaaDoor
end
section
namespace Go.Proofs.YtkkloakcphigeaaDoor
open Go.RowKit
namespace Rg
theorem inv_ex {n a : Nat} (ok : Ok n) (hg : Nat.gcd n a = 1) : ∃ x, x < n ∧ x * a % n = 1 := by
  have key : ∀ (m : Nat) (z : WS), z.o + z.r = m → WI n a z → ∃ x, x < n ∧ x * a % n = 1 := by
    intro m
    induction m using Nat.strongRecOn with
    | _ m ih =>
      intro z hz I
      obtain ⟨o, r, u, v, h, t⟩ := z
      simp only at hz
      by_cases hr : r = 0
      · subst hr
        have ho : o = 1 := by
          have h1 : Nat.gcd o 0 = Nat.gcd n a := I.gcd
          rw [Nat.gcd_zero_right] at h1
          rw [h1]; exact hg
        cases t with
        | true => exact ⟨_, Nat.mod_lt _ ok.pos, end_true ok I ho⟩
        | false => exact ⟨_, Nat.mod_lt _ ok.pos, end_false ok I ho⟩
      · have hrb : r < big := by have h1 : r ≤ n := I.rn; have := ok.big; omega
        obtain ⟨k, r1, hk, er, hr1, _⟩ := trailing_any hrb hr
        obtain ⟨p1, p2, _⟩ := I.facts hr er
        obtain ⟨i1, i2⟩ := I.next hr er hr1
        have hle : r1 ≤ r := by rw [er]; exact Nat.le_mul_of_pos_right _ (Nat.two_pow_pos k)
        by_cases hl : r1 < o
        · exact ih (r1 + (o - r1)) (by omega) _ rfl (i1 hl)
        · exact ih (o + (r1 - o)) (by omega) _ rfl (i2 hl)
  exact key _ ⟨n, a % n, 0, 1, 0, false⟩ rfl (WI.start ok)
theorem invm_spec {n a : Nat} (ok : Ok n) (hg : Nat.gcd n a = 1) : invm n a < n ∧ invm n a * a % n = 1 := by
  obtain ⟨x, hx, h1⟩ := inv_ex ok hg
  rw [invm_eq hx h1]
  exact ⟨hx, h1⟩
end Rg
end Go.Proofs.YtkkloakcphigeaaDoor
end
section
namespace Go.Proofs.YtkkloakcphigeaaDoor
open Go.RowKit
namespace Rg
namespace Sh
set_option maxRecDepth 100000
/-- What a store of a number leaves, and what a call makes. -/
theorem mm_new {w : World} {L : List (Nat × List Value)} (h : Mm w L) {g : Nat} (cs : List Value) (t : TypeId) {w1 : World} (e : w.alloc (.cells cs.toArray t) = w1) (hg : g = w.heap.size) : Mm w1 ((g, cs) :: L) := by
  subst e
  exact h.alloc cs t hg
theorem bl_new {w0 w w1 : World} {B : Nat} {o : Obj} (h : Below B w0 w) (hB : B ≤ w.heap.size) (e : w.alloc o = w1) : Below B w0 w1 := by
  subst e
  exact h.alloc hB _
theorem sz_new {w w1 : World} {o : Obj} (e : w.alloc o = w1) : w1.heap.size = w.heap.size + 1 := by
  subst e
  simp
/-- What a store into a block of one's own leaves. -/
theorem bl_put {w0 w : World} {B g off : Nat} {cs : List Value} (h : Below B w0 w) (hg : B ≤ g) : Below B w0 (w.setCells g off cs) := below_setCells g hg cs off w h
set_option maxHeartbeats 2000000 in
theorem between_any {g r : Nat} (ok : Ok r) (x y : Nat) (hx : x < big) (hy : y < big) (hx2 : x < 9223372036854775808) (hy2 : y < 9223372036854775808) (w : World) (hm : Mm w [(g, modc r)]) :
    Calls Tryd.prog 48 #[.agg #[PT g 0], .int .i64 (x : Int), .int .i64 (y : Int)] w fun e w' => e = .returned (N (subm r y x)) ∧ Below w.heap.size w w' := by
  have hM0 : Mm w [(g, modc r)] := hm
  have hB0 : Below w.heap.size w w := Below.refl _ _
  obtain ⟨w1, e1⟩ : ∃ w1, (w.alloc (.cells #[PT g 0] 53)) = w1 := ⟨_, rfl⟩
  have hM1 : Mm w1 [(w.heap.size, [PT g 0]), (g, modc r)] := mm_new hM0 [PT g 0] 53 e1 rfl
  have hB1 : Below w.heap.size w w1 := bl_new hB0 hB0.size e1
  obtain ⟨w2, e2⟩ : ∃ w2, (w1.alloc (.cells #[.int .u64 0, .int .u64 0, .int .u64 0, .int .u64 0, .int .u64 0, .int .u64 0] 33)) = w2 := ⟨_, rfl⟩
  have hM2 : Mm w2 [(w1.heap.size, [.int .u64 0, .int .u64 0, .int .u64 0, .int .u64 0, .int .u64 0, .int .u64 0]), (w.heap.size, [PT g 0]), (g, modc r)] := mm_new hM1 [.int .u64 0, .int .u64 0, .int .u64 0, .int .u64 0, .int .u64 0, .int .u64 0] 33 e2 rfl
  have hB2 : Below w.heap.size w w2 := bl_new hB1 hB1.size e2
  have HM : Hid (Mm w2 [(w1.heap.size, [.int .u64 0, .int .u64 0, .int .u64 0, .int .u64 0, .int .u64 0, .int .u64 0]), (w.heap.size, [PT g 0]), (g, modc r)]) := hM2
  have HB : Hid (Below w.heap.size w w2) := hB2
  clear hM0 hB0 hM1 hB1 hM2 hB2 hm
  have hlo : w.heap.size ≤ w1.heap.size := by rw [sz_new e1]; omega
  go_enter Tryd.func48, Tryd.ntmps48
  go_wp2
  refine walk_det (by kernel_rfl) 7 [PT w.heap.size 0, PT g 0, .int .i64 (y : Int), N y, .int .i64 (x : Int), N x, N (subm r y x)] [none, none, none, some 0, none, some 1, some 2] [3, 5, 6]
    (fun _ u => Below w2.heap.size w2 u) ?prez ?Fz ?hprez ?hFz (by kernel_rfl) ?hWz (bdr w2) ?hopz ?hez
  case hprez => simp only [tk, tz]; rfl
  case hFz => simp only [List.map_cons, List.map_nil, fill, Kind.val, Act.put, sa, sz, ss]; rfl
  case hWz => kernel_rfl
  case hopz =>
    refine ⟨fun c _ u hu => ?_, fun c _ u hu => ?_, fun c _ u hu => ?_, fun u hu => .inr ⟨44, #[.int .i64 (y : Int)], exec_call rfl (fun _ _ => rfl) rfl (by simp only [List.map_toArray, List.map_cons, List.map_nil]; rfl), ?_⟩, fun c _ u hu => ?_, fun u hu => .inr ⟨44, #[.int .i64 (x : Int)], exec_call rfl (fun _ _ => rfl) rfl (by simp only [List.map_toArray, List.map_cons, List.map_nil]; rfl), ?_⟩, fun u hu => .inr ⟨31, #[PT g 0, N y, N x], exec_call rfl (fun _ _ => rfl) rfl (by simp only [List.map_toArray, List.map_cons, List.map_nil]; rfl), ?_⟩, trivial⟩
    · clear hu; go_simp
    · have c1_0 := (HM.out.below hu).get 1 rfl 0 rfl; clear hu; go_simp
    · clear hu; go_simp
    · exact Calls.mono (number_any y hy2 u) fun e u2 ⟨he, h2⟩ => ⟨he, hu.trans (h2.mono hu.size)⟩
    · clear hu; go_simp
    · exact Calls.mono (number_any x hx2 u) fun e u2 ⟨he, h2⟩ => ⟨he, hu.trans (h2.mono hu.size)⟩
    · exact Calls.mono (subm_any ok hy hx u (((HM.out.below hu).sub (by simp)))) fun e u2 ⟨he, h2⟩ => ⟨he, hu.trans (h2.mono hu.size)⟩
  intro u hu
  have HU : Hid _ := HM.out.below hu
  have HBU : Hid (Below w.heap.size w u) := HB.out.trans (hu.mono HB.out.size)
  clear hu
  refine rest_store rfl rfl rfl (ex_store6 HU.out 0 rfl rfl rfl rfl (Nat.le_of_ble_eq_true rfl)) ?_
  have HE : Hid (Mm (u.setCells w1.heap.size 0 (cells6 (subm r y x))) [(w1.heap.size, cells6 (subm r y x)), (w.heap.size, [PT g 0]), (g, modc r)]) := HU.out.put 0 (off := 0) (vs := cells6 (subm r y x)) rfl (Nat.le_of_ble_eq_true rfl)
  have HBE : Hid (Below w.heap.size w (u.setCells w1.heap.size 0 (cells6 (subm r y x)))) := bl_put HBU.out hlo
  clear HU HBU
  generalize hgw : World.setCells _ _ _ _ = w6 at HE HBE ⊢
  clear hgw
  refine rest_nil ?_
  go_wp2
  have c0 := HE.out.get 0 rfl 0 rfl
  have c1 := HE.out.get 0 rfl 1 rfl
  have c2 := HE.out.get 0 rfl 2 rfl
  have c3 := HE.out.get 0 rfl 3 rfl
  have c4 := HE.out.get 0 rfl 4 rfl
  have c5 := HE.out.get 0 rfl 5 rfl
  refine bodyPost_ret (v := N (subm r y x)) (by simp [results, Tryd.results48, go_sem, *]) rfl ⟨rfl, HBE.out⟩
end Sh
end Rg
end Go.Proofs.YtkkloakcphigeaaDoor
end
section
namespace Go.Proofs.YtkkloakcphigeaaDoor
open Go.RowKit
namespace Rg
namespace Sh
set_option maxRecDepth 100000
set_option maxHeartbeats 4000000 in
theorem over_any {g r : Nat} (ok : Ok r) (a b : Nat) (ha : a < big) (hb : b < big) (hg : Nat.gcd r b = 1) (w : World) (hm : Mm w [(g, modc r), (2, dtab)]) :
    Calls Tryd.prog 47 #[.agg #[PT g 0], N a, N b] w fun e w' => e = .returned (N (a * invm r b % r)) ∧ Below w.heap.size w w' := by
  obtain ⟨hx1, hx2⟩ := invm_spec ok hg
  have hci := inv_ok (g := g) ok hb hg
  obtain ⟨x, hx⟩ : ∃ x, invm r b = x := ⟨_, rfl⟩
  rw [hx] at hx1 hci ⊢
  have HI : Hid _ := hci
  have hxb : x < big := Nat.lt_trans hx1 ok.big
  clear hx hx2 hci
  have hM0 : Mm w [(g, modc r), (2, dtab)] := hm
  have hB0 : Below w.heap.size w w := Below.refl _ _
  obtain ⟨w1, e1⟩ : ∃ w1, (w.alloc (.cells #[PT g 0] 53)) = w1 := ⟨_, rfl⟩
  have hM1 : Mm w1 [(w.heap.size, [PT g 0]), (g, modc r), (2, dtab)] := mm_new hM0 [PT g 0] 53 e1 rfl
  have hB1 : Below w.heap.size w w1 := bl_new hB0 hB0.size e1
  obtain ⟨w2, e2⟩ : ∃ w2, (w1.alloc (.cells #[.int .u64 (wd a 0), .int .u64 (wd a 1), .int .u64 (wd a 2), .int .u64 (wd a 3), .int .u64 (wd a 4), .int .u64 (wd a 5)] 33)) = w2 := ⟨_, rfl⟩
  have hM2 : Mm w2 [(w1.heap.size, [.int .u64 (wd a 0), .int .u64 (wd a 1), .int .u64 (wd a 2), .int .u64 (wd a 3), .int .u64 (wd a 4), .int .u64 (wd a 5)]), (w.heap.size, [PT g 0]), (g, modc r), (2, dtab)] := mm_new hM1 [.int .u64 (wd a 0), .int .u64 (wd a 1), .int .u64 (wd a 2), .int .u64 (wd a 3), .int .u64 (wd a 4), .int .u64 (wd a 5)] 33 e2 rfl
  have hB2 : Below w.heap.size w w2 := bl_new hB1 hB1.size e2
  obtain ⟨w3, e3⟩ : ∃ w3, (w2.alloc (.cells #[.int .u64 (wd b 0), .int .u64 (wd b 1), .int .u64 (wd b 2), .int .u64 (wd b 3), .int .u64 (wd b 4), .int .u64 (wd b 5)] 33)) = w3 := ⟨_, rfl⟩
  have hM3 : Mm w3 [(w2.heap.size, [.int .u64 (wd b 0), .int .u64 (wd b 1), .int .u64 (wd b 2), .int .u64 (wd b 3), .int .u64 (wd b 4), .int .u64 (wd b 5)]), (w1.heap.size, [.int .u64 (wd a 0), .int .u64 (wd a 1), .int .u64 (wd a 2), .int .u64 (wd a 3), .int .u64 (wd a 4), .int .u64 (wd a 5)]), (w.heap.size, [PT g 0]), (g, modc r), (2, dtab)] := mm_new hM2 [.int .u64 (wd b 0), .int .u64 (wd b 1), .int .u64 (wd b 2), .int .u64 (wd b 3), .int .u64 (wd b 4), .int .u64 (wd b 5)] 33 e3 rfl
  have hB3 : Below w.heap.size w w3 := bl_new hB2 hB2.size e3
  obtain ⟨w4, e4⟩ : ∃ w4, (w3.alloc (.cells #[.int .u64 0, .int .u64 0, .int .u64 0, .int .u64 0, .int .u64 0, .int .u64 0] 33)) = w4 := ⟨_, rfl⟩
  have hM4 : Mm w4 [(w3.heap.size, [.int .u64 0, .int .u64 0, .int .u64 0, .int .u64 0, .int .u64 0, .int .u64 0]), (w2.heap.size, [.int .u64 (wd b 0), .int .u64 (wd b 1), .int .u64 (wd b 2), .int .u64 (wd b 3), .int .u64 (wd b 4), .int .u64 (wd b 5)]), (w1.heap.size, [.int .u64 (wd a 0), .int .u64 (wd a 1), .int .u64 (wd a 2), .int .u64 (wd a 3), .int .u64 (wd a 4), .int .u64 (wd a 5)]), (w.heap.size, [PT g 0]), (g, modc r), (2, dtab)] := mm_new hM3 [.int .u64 0, .int .u64 0, .int .u64 0, .int .u64 0, .int .u64 0, .int .u64 0] 33 e4 rfl
  have hB4 : Below w.heap.size w w4 := bl_new hB3 hB3.size e4
  have HM : Hid (Mm w4 [(w3.heap.size, [.int .u64 0, .int .u64 0, .int .u64 0, .int .u64 0, .int .u64 0, .int .u64 0]), (w2.heap.size, [.int .u64 (wd b 0), .int .u64 (wd b 1), .int .u64 (wd b 2), .int .u64 (wd b 3), .int .u64 (wd b 4), .int .u64 (wd b 5)]), (w1.heap.size, [.int .u64 (wd a 0), .int .u64 (wd a 1), .int .u64 (wd a 2), .int .u64 (wd a 3), .int .u64 (wd a 4), .int .u64 (wd a 5)]), (w.heap.size, [PT g 0]), (g, modc r), (2, dtab)]) := hM4
  have HB : Hid (Below w.heap.size w w4) := hB4
  clear hM0 hB0 hM1 hB1 hM2 hB2 hM3 hB3 hM4 hB4 hm
  have hlo : w.heap.size ≤ w3.heap.size := by rw [sz_new e3, sz_new e2, sz_new e1]; omega
  have c3_0 := HM.out.get 3 rfl 0 rfl
  have c1_0 := HM.out.get 1 rfl 0 rfl
  have c1_1 := HM.out.get 1 rfl 1 rfl
  have c1_2 := HM.out.get 1 rfl 2 rfl
  have c1_3 := HM.out.get 1 rfl 3 rfl
  have c1_4 := HM.out.get 1 rfl 4 rfl
  have c1_5 := HM.out.get 1 rfl 5 rfl
  have c2_0 := HM.out.get 2 rfl 0 rfl
  have c2_1 := HM.out.get 2 rfl 1 rfl
  have c2_2 := HM.out.get 2 rfl 2 rfl
  have c2_3 := HM.out.get 2 rfl 3 rfl
  have c2_4 := HM.out.get 2 rfl 4 rfl
  have c2_5 := HM.out.get 2 rfl 5 rfl
  go_enter Tryd.func47, Tryd.ntmps47
  go_wp2_with (first
    | (go_at_call 32
       refine Calls.mono (HI.out w4 HM.out.tail.tail.tail.tail) ?_
       rintro e w5 ⟨rfl, h5⟩
       obtain ⟨w6, e6⟩ : ∃ w6, (w5.alloc (.cells #[.int .u64 (wd x 0), .int .u64 (wd x 1), .int .u64 (wd x 2), .int .u64 (wd x 3), .int .u64 (wd x 4), .int .u64 (wd x 5)] 33)) = w6 := ⟨_, rfl⟩
       have HM6 : Hid _ := mm_new (HM.out.below h5) [.int .u64 (wd x 0), .int .u64 (wd x 1), .int .u64 (wd x 2), .int .u64 (wd x 3), .int .u64 (wd x 4), .int .u64 (wd x 5)] 33 e6 rfl
       have HB6 : Hid _ := bl_new (HB.out.trans (h5.mono HB.out.size)) (Nat.le_trans HB.out.size h5.size) e6
       clear h5
       have d4_0 := HM6.out.get 4 rfl 0 rfl
       have d3_0 := HM6.out.get 3 rfl 0 rfl
       have d3_1 := HM6.out.get 3 rfl 1 rfl
       have d3_2 := HM6.out.get 3 rfl 2 rfl
       have d3_3 := HM6.out.get 3 rfl 3 rfl
       have d3_4 := HM6.out.get 3 rfl 4 rfl
       have d3_5 := HM6.out.get 3 rfl 5 rfl
       have d0_0 := HM6.out.get 0 rfl 0 rfl
       have d0_1 := HM6.out.get 0 rfl 1 rfl
       have d0_2 := HM6.out.get 0 rfl 2 rfl
       have d0_3 := HM6.out.get 0 rfl 3 rfl
       have d0_4 := HM6.out.get 0 rfl 4 rfl
       have d0_5 := HM6.out.get 0 rfl 5 rfl)
    | (go_at_call 30
       refine Calls.mono (mulm_any ok ha hxb w6 (HM6.out.tail.tail.tail.tail.tail.sub (by simp))) ?_
       rintro e w7 ⟨rfl, h7⟩
       have HM7 : Hid _ := HM6.out.below h7
       have HB7 : Hid _ := HB6.out.trans (h7.mono HB6.out.size)
       clear h7
       have f1_0 := HM7.out.get 1 rfl 0 rfl
       have f1_1 := HM7.out.get 1 rfl 1 rfl
       have f1_2 := HM7.out.get 1 rfl 2 rfl
       have f1_3 := HM7.out.get 1 rfl 3 rfl
       have f1_4 := HM7.out.get 1 rfl 4 rfl
       have f1_5 := HM7.out.get 1 rfl 5 rfl
       have z0 := HM7.out.free (g := w3.heap.size) (cs := [.int .u64 0, .int .u64 0, .int .u64 0, .int .u64 0, .int .u64 0, .int .u64 0]) (by simp) (k := 0) rfl
       have z1 := HM7.out.free (g := w3.heap.size) (cs := [.int .u64 0, .int .u64 0, .int .u64 0, .int .u64 0, .int .u64 0, .int .u64 0]) (by simp) (k := 1) rfl
       have z2 := HM7.out.free (g := w3.heap.size) (cs := [.int .u64 0, .int .u64 0, .int .u64 0, .int .u64 0, .int .u64 0, .int .u64 0]) (by simp) (k := 2) rfl
       have z3 := HM7.out.free (g := w3.heap.size) (cs := [.int .u64 0, .int .u64 0, .int .u64 0, .int .u64 0, .int .u64 0, .int .u64 0]) (by simp) (k := 3) rfl
       have z4 := HM7.out.free (g := w3.heap.size) (cs := [.int .u64 0, .int .u64 0, .int .u64 0, .int .u64 0, .int .u64 0, .int .u64 0]) (by simp) (k := 4) rfl
       have z5 := HM7.out.free (g := w3.heap.size) (cs := [.int .u64 0, .int .u64 0, .int .u64 0, .int .u64 0, .int .u64 0, .int .u64 0]) (by simp) (k := 5) rfl)
    | fail)
  change bodyPost _ _ _ _ _ (World.setCells w7 (w3.heap.size) 0 (cells6 (a * x % r)))
  have HE : Hid _ := HM7.out.put 1 (off := 0) (vs := cells6 (a * x % r)) rfl (Nat.le_of_ble_eq_true rfl)
  have HBE : Hid (Below w.heap.size w (World.setCells w7 (w3.heap.size) 0 (cells6 (a * x % r)))) := bl_put HB7.out hlo
  generalize hgw : World.setCells _ _ _ _ = wz at HE HBE ⊢
  clear hgw
  have c0 := HE.out.get 1 rfl 0 rfl
  have c1 := HE.out.get 1 rfl 1 rfl
  have c2 := HE.out.get 1 rfl 2 rfl
  have c3 := HE.out.get 1 rfl 3 rfl
  have c4 := HE.out.get 1 rfl 4 rfl
  have c5 := HE.out.get 1 rfl 5 rfl
  refine bodyPost_ret (v := N (a * x % r)) (by simp [results, Tryd.results47, go_sem, *]) rfl ⟨rfl, HBE.out⟩
end Sh
end Rg
end Go.Proofs.YtkkloakcphigeaaDoor
end
