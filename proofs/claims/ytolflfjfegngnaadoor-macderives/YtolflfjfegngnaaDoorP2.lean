/- Texts of the proof, joined. -/
import Derived.Test.YtolflfjfegngnaaDoorP1
import Derived.LoopN
import Derived.Laws.BytesArg
import Derived.Laws.IdiomCopy
import Derived.Deep.OwnRows
import Derived.Deep.RegionHeld3
import Derived.WalkKit
import Derived.WalkSmall
import Derived.WalkSpells
import Derived.BigQuiet
import Derived.Lib.Walk
import Derived.Lib.Small
import Derived.Lib.Slices
import Derived.Lib.Strings
section
namespace Go.Proofs.YtolflfjfegngnaaDoor
open Go.RowKit
namespace Rg
set_option maxRecDepth 100000
/-- The tables. -/
def kT (j : Nat) : Nat := [1116352408, 1899447441, 3049323471, 3921009573, 961987163, 1508970993, 2453635748, 2870763221, 3624381080, 310598401, 607225278, 1426881987, 1925078388, 2162078206, 2614888103, 3248222580, 3835390401, 4022224774, 264347078, 604807628, 770255983, 1249150122, 1555081692, 1996064986, 2554220882, 2821834349, 2952996808, 3210313671, 3336571891, 3584528711, 113926993, 338241895, 666307205, 773529912, 1294757372, 1396182291, 1695183700, 1986661051, 2177026350, 2456956037, 2730485921, 2820302411, 3259730800, 3345764771, 3516065817, 3600352804, 4094571909, 275423344, 430227734, 506948616, 659060556, 883997877, 958139571, 1322822218, 1537002063, 1747873779, 1955562222, 2024104815, 2227730452, 2361852424, 2428436474, 2756734187, 3204031479, 3329325298].getD j 0
def fT (j : Nat) : Nat := ei 1779033703 3144134277 1013904242 2773480762 1359893119 2600822924 528734635 1541459225 j
/-- The words of a block. -/
def wd (x : Nat → Nat) (t : Nat) : Nat := ou (ou (ou (sl (c32 (x (4 * t))) 24) (sl (c32 (x (4 * t + 1))) 16)) (sl (c32 (x (4 * t + 2))) 8)) (c32 (x (4 * t + 3)))
def w0 (x : Nat → Nat) : Nat → Nat → Nat
  | 0 => fun _ => 0
  | n + 1 => up (w0 x n) n (wd x n)
def ws (v : Nat → Nat) : Nat → Nat → Nat
  | 0 => v
  | n + 1 => up (ws v n) (16 + n) (ad (ad (ad (sB' (ws v n (16 + n - 2))) (ws v n (16 + n - 7))) (sA (ws v n (16 + n - 15)))) (ws v n (16 + n - 16)))
/-- The eight numbers on their way. -/
structure St where
  a : Nat
  b : Nat
  c : Nat
  d : Nat
  e : Nat
  f : Nat
  g : Nat
  h : Nat
def pp (K w : Nat) (s : St) : Nat := ad (ad (ad (ad s.h (gB s.e)) (xo (an s.e s.f) (an (nt s.e) s.g))) K) w
def qq (s : St) : Nat := ad (gA s.a) (xo (xo (an s.a s.b) (an s.a s.c)) (an s.b s.c))
def stp (K w : Nat) (s : St) : St := ⟨ad (pp K w s) (qq s), s.a, s.b, s.c, ad s.d (pp K w s), s.e, s.f, s.g⟩
def rn (s w : Nat → Nat) : Nat → St
  | 0 => ⟨s 0, s 1, s 2, s 3, s 4, s 5, s 6, s 7⟩
  | t + 1 => stp (kT t) (w t) (rn s w t)
def mw (s w : Nat → Nat) : Nat → Nat := ei (ad (s 0) (rn s w 64).a) (ad (s 1) (rn s w 64).b) (ad (s 2) (rn s w 64).c) (ad (s 3) (rn s w 64).d) (ad (s 4) (rn s w 64).e) (ad (s 5) (rn s w 64).f) (ad (s 6) (rn s w 64).g) (ad (s 7) (rn s w 64).h)
/-- The eight numbers with one more block. -/
def mx (s x : Nat → Nat) : Nat → Nat := mw s (ws (w0 x 16) 48)
theorem call63 : ∀ args w, (callFunc 63 args).run Tryd.prog w = .ok (.enter 63 args) w := by intro args w; go_simp
theorem call64 : ∀ args w, (callFunc 64 args).run Tryd.prog w = .ok (.enter 64 args) w := by intro args w; go_simp
theorem call65 : ∀ args w, (callFunc 65 args).run Tryd.prog w = .ok (.enter 65 args) w := by intro args w; go_simp
theorem call66 : ∀ args w, (callFunc 66 args).run Tryd.prog w = .ok (.enter 66 args) w := by intro args w; go_simp
theorem call67 : ∀ args w, (callFunc 67 args).run Tryd.prog w = .ok (.enter 67 args) w := by intro args w; go_simp
set_option maxHeartbeats 1000000 in
set_option maxRecDepth 100000 in
theorem spread_any (x : Nat → Nat) (w : World) :
    Calls Tryd.prog 63 #[.agg (ints .u8 x 64).toArray] w fun e w' => e = .returned (.agg (ints .u32 (ws (w0 x 16) 48) 64).toArray) ∧ Below w.heap.size w w' := by
  have H0 : Hid (_ ∧ _) := ⟨Mm.nil w, Below.refl w.heap.size w⟩
  go_enter Tryd.func63, Tryd.ntmps63
  refine wp_seq ?_
  refine walk_seqA 2 [.made (ints .u8 x 64) 55, .made (ints .u32 (fun _ => 0) 64) 78] (sB H0) ?ho1 ?he1
  case ho1 => exact ak (fun γ => ⟨rfl, fun w' => ex_boxT rfl rfl⟩) (ak (fun γ => ⟨rfl, fun w' => ex_mk78 rfl⟩) trivial)
  intro γ w1 l hM hl
  have H1 : Hid (Mm w1 [(γ 0, ints .u8 x 64), (γ 1, ints .u32 (fun _ => 0) 64)] ∧ _) := growB H0 hM (Nat.le_refl _) hl [0, 1] rfl (by decide)
  have o1_0 := ownB H0 hM (Nat.le_refl _) hl (i := 0) rfl
  have o1_1 := ownB H0 hM (Nat.le_refl _) hl (i := 1) rfl
  clear hM hl l
  generalize γ 0 = γ1_0 at H1 o1_0 ⊢
  generalize γ 1 = γ1_1 at H1 o1_1 ⊢
  clear γ
  refine rest0 rfl (then_normal (wp_seq ?_))
  refine walk_seqA 1 [.made (ints .u32 (fun _ => 0) 64) 78] (sB H1) ?ho2 ?he2
  case ho2 => exact ak (fun γ => ⟨rfl, fun w' => ex_mk78 rfl⟩) trivial
  intro γ w2 l hM hl
  have H2 : Hid (Mm w2 [(γ 0, ints .u32 (fun _ => 0) 64), (γ1_0, ints .u8 x 64), (γ1_1, ints .u32 (fun _ => 0) 64)] ∧ _) := growB H1 hM (Nat.le_refl _) hl [0] rfl (by decide)
  have o2_0 := ownB H1 hM (Nat.le_refl _) hl (i := 0) rfl
  clear hM hl l H1
  generalize γ 0 = γ2_0 at H2 o2_0 ⊢
  clear γ
  refine rest0 rfl (then_normal (wp_seq (wp_seq ?_)))
  refine walk_seqB 1 [.quiet (.int .i64 0)] H2 ?ho3 ?he3
  case ho3 => exact ak (fun _ => ⟨rfl, fun _ _ => rfl⟩) trivial
  intro _ w3 H3
  clear H2
  refine rest0 rfl (then_normal (wp_block ?_))
  refine loop_ghost (α := Nat) (fun k a' w' => ∃ s0 : Nat → Value, a' = ⟨#[.agg (ints .u8 x 64).toArray, PT γ1_0 0, PT γ1_1 0, PT γ2_0 0, s0 4, undef, .int .i64 ((k : Nat) : Int), s0 7, s0 8, s0 9, s0 10, s0 11, s0 12, s0 13, s0 14, s0 15, s0 16, s0 17, s0 18, s0 19, s0 20, s0 21, s0 22, s0 23, s0 24, s0 25, s0 26, s0 27, s0 28, s0 29, s0 30, s0 31, s0 32, s0 33, s0 34, s0 35, s0 36, s0 37, s0 38, s0 39, s0 40, undef, undef, undef, undef, undef, undef, undef, undef, undef, undef, undef, undef, undef, undef, undef, undef, undef, undef, undef, undef, undef, undef, undef, undef, undef, undef, undef, undef], []⟩ ∧ (Mm w' [(γ2_0, ints .u32 (w0 x k) 64), (γ1_0, ints .u8 x 64), (γ1_1, ints .u32 (fun _ => 0) 64)] ∧ Below w.heap.size w w') ∧ k ≤ 16) (fun k => 16 - k) 0 ?st0 ?rd0
  case st0 => exact ⟨(slotfn [undef, undef, undef, undef, undef, undef, undef, undef, undef, undef, undef, undef, undef, undef, undef, undef, undef, undef, undef, undef, undef, undef, undef, undef, undef, undef, undef, undef, undef, undef, undef, undef, undef, undef, undef, undef, undef, undef, undef, undef, undef]), rfl, ⟨H3.out.1, H3.out.2⟩, by omega⟩
  intro k a' w4 hI
  obtain ⟨s0, rfl, hMB, hk0⟩ := hI
  have H4 : Hid (_ ∧ _) := hMB
  clear hMB H3
  by_cases hltk : k < 16
  · have hrd : True := trivial
    clear hrd
    refine wp_seq ?_
    refine walk_seqB 1 [.quiet (.bool true)] H4 ?ho4 ?he4
    case ho4 => exact ak (by refine fun γ => ⟨rfl, fun w' h => ?_⟩; clear h; go_simp <;> omega) trivial
    intro _ w5 H5
    clear H4
    refine rest0 rfl (then_normal (wp_seq ?_))
    refine wp_cond_true rfl (wp_skip ?_)
    refine then_normal (wp_seq ?_)
    refine wp_block (wp_seq ?_)
    refine walk_seqB 2 [.quiet (.int .i64 ((k : Nat) : Int)), .quiet (.int .i64 ((k : Nat) : Int))] H5 ?ho5 ?he5
    case ho5 => exact ak (fun _ => ⟨rfl, fun _ _ => rfl⟩) (ak (fun _ => ⟨rfl, fun _ _ => rfl⟩) trivial)
    intro _ w6 H6
    clear H5
    refine rest0 rfl (then_normal ?_)
    refine walk_anyB 31 [.quiet (.int .i64 ((k : Nat) : Int)), .quiet (.int .i64 ((k : Nat) : Int)), .quiet (.int .i64 ((4 * k : Nat) : Int)), .quiet (PT γ1_0 (4 * k)), .quiet (Z8 (x (4 * k))), .quiet (W32 (c32 (x (4 * k)))), .quiet (W32 (sl (c32 (x (4 * k))) 24)), .quiet (.int .i64 ((k : Nat) : Int)), .quiet (.int .i64 ((4 * k : Nat) : Int)), .quiet (.int .i64 (((4 * k) + 1 : Nat) : Int)), .quiet (PT γ1_0 ((4 * k) + 1)), .quiet (Z8 (x ((4 * k) + 1))), .quiet (W32 (c32 (x ((4 * k) + 1)))), .quiet (W32 (sl (c32 (x ((4 * k) + 1))) 16)), .quiet (W32 (ou (sl (c32 (x (4 * k))) 24) (sl (c32 (x ((4 * k) + 1))) 16))), .quiet (.int .i64 ((k : Nat) : Int)), .quiet (.int .i64 ((4 * k : Nat) : Int)), .quiet (.int .i64 (((4 * k) + 2 : Nat) : Int)), .quiet (PT γ1_0 ((4 * k) + 2)), .quiet (Z8 (x ((4 * k) + 2))), .quiet (W32 (c32 (x ((4 * k) + 2)))), .quiet (W32 (sl (c32 (x ((4 * k) + 2))) 8)), .quiet (W32 (ou (ou (sl (c32 (x (4 * k))) 24) (sl (c32 (x ((4 * k) + 1))) 16)) (sl (c32 (x ((4 * k) + 2))) 8))), .quiet (.int .i64 ((k : Nat) : Int)), .quiet (.int .i64 ((4 * k : Nat) : Int)), .quiet (.int .i64 (((4 * k) + 3 : Nat) : Int)), .quiet (PT γ1_0 ((4 * k) + 3)), .quiet (Z8 (x ((4 * k) + 3))), .quiet (W32 (c32 (x ((4 * k) + 3)))), .quiet (W32 (ou (ou (ou (sl (c32 (x (4 * k))) 24) (sl (c32 (x ((4 * k) + 1))) 16)) (sl (c32 (x ((4 * k) + 2))) 8)) (c32 (x ((4 * k) + 3))))), .quiet (PT γ2_0 k)] H6 ?ho6 ?he6 (hL := ?hL6)
    case hL6 => exact trivial
    case ho6 => exact ak (fun _ => ⟨rfl, fun _ _ => rfl⟩) (ak (fun _ => ⟨rfl, fun _ _ => rfl⟩) (ak (by refine fun γ => ⟨rfl, fun w' h => ?_⟩; clear h; go_simp; rw [IntKind.wrap_i64]; omega) (ak (fun γ => ⟨rfl, fun w' _ => ex_ix0_55 (j := 4 * k) rfl rfl rfl (by omega)⟩) (ak (fun γ => ⟨rfl, fun w' h => ex_loadC h 1 rfl rfl rfl Tryd.isAgg5 (ints_get _ _ (by omega))⟩) (ak (fun γ => ⟨rfl, fun w' _ => ex_cv5_51 rfl rfl⟩) (ak (fun γ => ⟨rfl, fun w' _ => ex_shl32 (k := 24) (by decide) rfl rfl rfl⟩) (ak (fun _ => ⟨rfl, fun _ _ => rfl⟩) (ak (by refine fun γ => ⟨rfl, fun w' h => ?_⟩; clear h; go_simp; rw [IntKind.wrap_i64]; omega) (ak (by refine fun γ => ⟨rfl, fun w' h => ?_⟩; clear h; go_simp; rw [IntKind.wrap_i64]; omega) (ak (fun γ => ⟨rfl, fun w' _ => ex_ix0_55 (j := (4 * k) + 1) rfl rfl rfl (by omega)⟩) (ak (fun γ => ⟨rfl, fun w' h => ex_loadC h 1 rfl rfl rfl Tryd.isAgg5 (ints_get _ _ (by omega))⟩) (ak (fun γ => ⟨rfl, fun w' _ => ex_cv5_51 rfl rfl⟩) (ak (fun γ => ⟨rfl, fun w' _ => ex_shl32 (k := 16) (by decide) rfl rfl rfl⟩) (ak (fun γ => ⟨rfl, fun w' _ => ex_or32 rfl rfl rfl⟩) (ak (fun _ => ⟨rfl, fun _ _ => rfl⟩) (ak (by refine fun γ => ⟨rfl, fun w' h => ?_⟩; clear h; go_simp; rw [IntKind.wrap_i64]; omega) (ak (by refine fun γ => ⟨rfl, fun w' h => ?_⟩; clear h; go_simp; rw [IntKind.wrap_i64]; omega) (ak (fun γ => ⟨rfl, fun w' _ => ex_ix0_55 (j := (4 * k) + 2) rfl rfl rfl (by omega)⟩) (ak (fun γ => ⟨rfl, fun w' h => ex_loadC h 1 rfl rfl rfl Tryd.isAgg5 (ints_get _ _ (by omega))⟩) (ak (fun γ => ⟨rfl, fun w' _ => ex_cv5_51 rfl rfl⟩) (ak (fun γ => ⟨rfl, fun w' _ => ex_shl32 (k := 8) (by decide) rfl rfl rfl⟩) (ak (fun γ => ⟨rfl, fun w' _ => ex_or32 rfl rfl rfl⟩) (ak (fun _ => ⟨rfl, fun _ _ => rfl⟩) (ak (by refine fun γ => ⟨rfl, fun w' h => ?_⟩; clear h; go_simp; rw [IntKind.wrap_i64]; omega) (ak (by refine fun γ => ⟨rfl, fun w' h => ?_⟩; clear h; go_simp; rw [IntKind.wrap_i64]; omega) (ak (fun γ => ⟨rfl, fun w' _ => ex_ix0_55 (j := (4 * k) + 3) rfl rfl rfl (by omega)⟩) (ak (fun γ => ⟨rfl, fun w' h => ex_loadC h 1 rfl rfl rfl Tryd.isAgg5 (ints_get _ _ (by omega))⟩) (ak (fun γ => ⟨rfl, fun w' _ => ex_cv5_51 rfl rfl⟩) (ak (fun γ => ⟨rfl, fun w' _ => ex_or32 rfl rfl rfl⟩) (ak (fun γ => ⟨rfl, fun w' _ => ex_ix0_78 (j := k) rfl rfl rfl (by omega)⟩) trivial))))))))))))))))))))))))))))))
    intro _ w7 H7
    clear H6
    refine rest_at (l := [31]) rfl ?_
    refine rest_store rfl rfl rfl (ex_storeI H7.out.1 0 rfl rfl Tryd.sizeOf51 rfl rfl (by rw [ints_len]; omega)) ?_
    have H8 : Hid (Mm (w7.setCells γ2_0 k ([W32 (ou (ou (ou (sl (c32 (x (4 * k))) 24) (sl (c32 (x ((4 * k) + 1))) 16)) (sl (c32 (x ((4 * k) + 2))) 8)) (c32 (x ((4 * k) + 3))))])) [(γ2_0, ints .u32 (up (w0 x k) k (ou (ou (ou (sl (c32 (x (4 * k))) 24) (sl (c32 (x ((4 * k) + 1))) 16)) (sl (c32 (x ((4 * k) + 2))) 8)) (c32 (x ((4 * k) + 3))))) 64), (γ1_0, ints .u8 x 64), (γ1_1, ints .u32 (fun _ => 0) 64)] ∧ Below w.heap.size w (w7.setCells γ2_0 k ([W32 (ou (ou (ou (sl (c32 (x (4 * k))) 24) (sl (c32 (x ((4 * k) + 1))) 16)) (sl (c32 (x ((4 * k) + 2))) 8)) (c32 (x ((4 * k) + 3))))]))) := ⟨by
      have h := H7.out.1.put 0 (off := k) (vs := [W32 (ou (ou (ou (sl (c32 (x (4 * k))) 24) (sl (c32 (x ((4 * k) + 1))) 16)) (sl (c32 (x ((4 * k) + 2))) 8)) (c32 (x ((4 * k) + 3))))]) rfl (by rw [ints_len]; simp only [List.length_cons, List.length_nil]; omega)
      rw [ints_patch _ _ _ _ (by omega)] at h
      exact h, below_setCells _ o2_0.out _ _ _ H7.out.2⟩
    clear H7
    generalize hgw : World.setCells _ _ _ _ = w8 at H8 ⊢
    clear hgw
    refine rest_nil (block_normal (then_normal ?_))
    refine walk_seqB 1 [.quiet (.int .i64 ((k + 1 : Nat) : Int))] H8 ?ho7 ?he7
    case ho7 => exact ak (by refine fun γ => ⟨rfl, fun w' h => ?_⟩; clear h; go_simp; rw [IntKind.wrap_i64]; omega) trivial
    intro _ w9 H9
    clear H8
    refine rest_at (l := [1]) rfl ?_
    refine rest_set (d := 6) rfl rfl rfl rfl ?_
    simp only [Act.put, sa, sz, ss]
    refine rest_nil (then_normal ?_)
    exact ⟨k + 1, ⟨(slotfn [undef, undef, undef, undef, .int .i64 ((k : Nat) : Int), undef, undef, .bool true, .int .i64 ((k : Nat) : Int), .int .i64 ((k : Nat) : Int), .int .i64 ((k : Nat) : Int), .int .i64 ((4 * k : Nat) : Int), PT γ1_0 (4 * k), Z8 (x (4 * k)), W32 (c32 (x (4 * k))), W32 (sl (c32 (x (4 * k))) 24), .int .i64 ((k : Nat) : Int), .int .i64 ((4 * k : Nat) : Int), .int .i64 (((4 * k) + 1 : Nat) : Int), PT γ1_0 ((4 * k) + 1), Z8 (x ((4 * k) + 1)), W32 (c32 (x ((4 * k) + 1))), W32 (sl (c32 (x ((4 * k) + 1))) 16), W32 (ou (sl (c32 (x (4 * k))) 24) (sl (c32 (x ((4 * k) + 1))) 16)), .int .i64 ((k : Nat) : Int), .int .i64 ((4 * k : Nat) : Int), .int .i64 (((4 * k) + 2 : Nat) : Int), PT γ1_0 ((4 * k) + 2), Z8 (x ((4 * k) + 2)), W32 (c32 (x ((4 * k) + 2))), W32 (sl (c32 (x ((4 * k) + 2))) 8), W32 (ou (ou (sl (c32 (x (4 * k))) 24) (sl (c32 (x ((4 * k) + 1))) 16)) (sl (c32 (x ((4 * k) + 2))) 8)), .int .i64 ((k : Nat) : Int), .int .i64 ((4 * k : Nat) : Int), .int .i64 (((4 * k) + 3 : Nat) : Int), PT γ1_0 ((4 * k) + 3), Z8 (x ((4 * k) + 3)), W32 (c32 (x ((4 * k) + 3))), W32 (ou (ou (ou (sl (c32 (x (4 * k))) 24) (sl (c32 (x ((4 * k) + 1))) 16)) (sl (c32 (x ((4 * k) + 2))) 8)) (c32 (x ((4 * k) + 3)))), PT γ2_0 k, .int .i64 ((k + 1 : Nat) : Int)]), rfl, ⟨H9.out.1, H9.out.2⟩, by omega⟩, by omega⟩
  have hkN : k = 16 := by omega
  subst hkN
  refine wp_seq ?_
  refine walk_seqB 1 [.quiet (.bool false)] H4 ?ho8 ?he8
  case ho8 => exact ak (by refine fun γ => ⟨rfl, fun w' h => ?_⟩; clear h; go_simp <;> omega) trivial
  intro _ w10 H10
  clear H4
  refine rest0 rfl (then_normal (wp_seq (wp_cond_false rfl ?_)))
  refine wp_exit ?_
  repeat refine then_exit ?_
  refine block_exit ?_
  refine then_normal (wp_seq (wp_seq ?_))
  refine walk_seqB 1 [.quiet (.int .i64 16)] H10 ?ho9 ?he9
  case ho9 => exact ak (fun _ => ⟨rfl, fun _ _ => rfl⟩) trivial
  intro _ w11 H11
  clear H10
  refine rest0 rfl (then_normal (wp_block ?_))
  refine loop_ghost (α := Nat) (fun n a' w' => ∃ s2 : Nat → Value, a' = ⟨#[.agg (ints .u8 x 64).toArray, PT γ1_0 0, PT γ1_1 0, PT γ2_0 0, s0 4, .int .i64 ((16 + n : Nat) : Int), .int .i64 ((16 : Nat) : Int), .bool false, s0 8, s0 9, s0 10, s0 11, s0 12, s0 13, s0 14, s0 15, s0 16, s0 17, s0 18, s0 19, s0 20, s0 21, s0 22, s0 23, s0 24, s0 25, s0 26, s0 27, s0 28, s0 29, s0 30, s0 31, s0 32, s0 33, s0 34, s0 35, s0 36, s0 37, s0 38, s0 39, s0 40, s2 41, s2 42, s2 43, s2 44, s2 45, s2 46, s2 47, s2 48, s2 49, s2 50, s2 51, s2 52, s2 53, s2 54, s2 55, s2 56, s2 57, s2 58, s2 59, s2 60, s2 61, s2 62, s2 63, s2 64, s2 65, s2 66, s2 67, undef], []⟩ ∧ (Mm w' [(γ2_0, ints .u32 (ws (w0 x 16) n) 64), (γ1_0, ints .u8 x 64), (γ1_1, ints .u32 (fun _ => 0) 64)] ∧ Below w.heap.size w w') ∧ n ≤ 48) (fun n => 48 - n) 0 ?st2 ?rd2
  case st2 => exact ⟨(slotfn [undef, undef, undef, undef, undef, undef, undef, undef, undef, undef, undef, undef, undef, undef, undef, undef, undef, undef, undef, undef, undef, undef, undef, undef, undef, undef, undef, undef, undef, undef, undef, undef, undef, undef, undef, undef, undef, undef, undef, undef, undef, undef, undef, undef, undef, undef, undef, undef, undef, undef, undef, undef, undef, undef, undef, undef, undef, undef, undef, undef, undef, undef, undef, undef, undef, undef, undef, undef]), rfl, ⟨H11.out.1, H11.out.2⟩, by omega⟩
  intro n a' w12 hI
  obtain ⟨s2, rfl, hMB, hk2⟩ := hI
  have H12 : Hid (_ ∧ _) := hMB
  clear hMB H11
  by_cases hltn : n < 48
  · have hrd : True := trivial
    clear hrd
    refine wp_seq (wp_seq ?_)
    refine walk_seqB 2 [.quiet (.int .i64 ((16 + n : Nat) : Int)), .quiet (.bool true)] H12 ?ho10 ?he10
    case ho10 => exact ak (fun _ => ⟨rfl, fun _ _ => rfl⟩) (ak (by refine fun γ => ⟨rfl, fun w' h => ?_⟩; clear h; go_simp <;> omega) trivial)
    intro _ w13 H13
    clear H12
    refine rest0 rfl (then_normal (wp_cond_true rfl ?_))
    refine wp_skip (then_normal ?_)
    refine wp_seq (wp_block ?_)
    refine walk_anyB 23 [.quiet (.int .i64 ((16 + n : Nat) : Int)), .quiet (.int .i64 ((16 + n : Nat) : Int)), .quiet (.int .i64 (((16 + n) - 2 : Nat) : Int)), .quiet (PT γ2_0 ((16 + n) - 2)), .quiet (W32 ((ws (w0 x 16) n) ((16 + n) - 2))), .call (W32 (sB' ((ws (w0 x 16) n) ((16 + n) - 2)))), .quiet (.int .i64 ((16 + n : Nat) : Int)), .quiet (.int .i64 (((16 + n) - 7 : Nat) : Int)), .quiet (PT γ2_0 ((16 + n) - 7)), .quiet (W32 ((ws (w0 x 16) n) ((16 + n) - 7))), .quiet (W32 (ad (sB' ((ws (w0 x 16) n) ((16 + n) - 2))) ((ws (w0 x 16) n) ((16 + n) - 7)))), .quiet (.int .i64 ((16 + n : Nat) : Int)), .quiet (.int .i64 (((16 + n) - 15 : Nat) : Int)), .quiet (PT γ2_0 ((16 + n) - 15)), .quiet (W32 ((ws (w0 x 16) n) ((16 + n) - 15))), .call (W32 (sA ((ws (w0 x 16) n) ((16 + n) - 15)))), .quiet (W32 (ad (ad (sB' ((ws (w0 x 16) n) ((16 + n) - 2))) ((ws (w0 x 16) n) ((16 + n) - 7))) (sA ((ws (w0 x 16) n) ((16 + n) - 15))))), .quiet (.int .i64 ((16 + n : Nat) : Int)), .quiet (.int .i64 (((16 + n) - 16 : Nat) : Int)), .quiet (PT γ2_0 ((16 + n) - 16)), .quiet (W32 ((ws (w0 x 16) n) ((16 + n) - 16))), .quiet (W32 (ad (ad (ad (sB' ((ws (w0 x 16) n) ((16 + n) - 2))) ((ws (w0 x 16) n) ((16 + n) - 7))) (sA ((ws (w0 x 16) n) ((16 + n) - 15)))) ((ws (w0 x 16) n) ((16 + n) - 16)))), .quiet (PT γ2_0 (16 + n))] H13 ?ho11 ?he11
    case ho11 => exact ak (fun _ => ⟨rfl, fun _ _ => rfl⟩) (ak (fun _ => ⟨rfl, fun _ _ => rfl⟩) (ak (by refine fun γ => ⟨rfl, fun w' h => ?_⟩; clear h; go_simp; rw [IntKind.wrap_i64]; omega) (ak (fun γ => ⟨rfl, fun w' _ => ex_ix0_78 (j := (16 + n) - 2) rfl rfl rfl (by omega)⟩) (ak (fun γ => ⟨rfl, fun w' h => ex_loadC h 0 rfl rfl rfl Tryd.isAgg51 (ints_get _ _ (by omega))⟩) (ak (fun γ => ⟨rfl, fun w' h => ⟨66, #[W32 ((ws (w0 x 16) n) ((16 + n) - 2))], exec_call rfl call66 rfl (mpn rfl), small1_any ((ws (w0 x 16) n) ((16 + n) - 2)) w'⟩⟩) (ak (fun _ => ⟨rfl, fun _ _ => rfl⟩) (ak (by refine fun γ => ⟨rfl, fun w' h => ?_⟩; clear h; go_simp; rw [IntKind.wrap_i64]; omega) (ak (fun γ => ⟨rfl, fun w' _ => ex_ix0_78 (j := (16 + n) - 7) rfl rfl rfl (by omega)⟩) (ak (fun γ => ⟨rfl, fun w' h => ex_loadC h 0 rfl rfl rfl Tryd.isAgg51 (ints_get _ _ (by omega))⟩) (ak (fun γ => ⟨rfl, fun w' _ => ex_add32 rfl rfl rfl⟩) (ak (fun _ => ⟨rfl, fun _ _ => rfl⟩) (ak (by refine fun γ => ⟨rfl, fun w' h => ?_⟩; clear h; go_simp; rw [IntKind.wrap_i64]; omega) (ak (fun γ => ⟨rfl, fun w' _ => ex_ix0_78 (j := (16 + n) - 15) rfl rfl rfl (by omega)⟩) (ak (fun γ => ⟨rfl, fun w' h => ex_loadC h 0 rfl rfl rfl Tryd.isAgg51 (ints_get _ _ (by omega))⟩) (ak (fun γ => ⟨rfl, fun w' h => ⟨67, #[W32 ((ws (w0 x 16) n) ((16 + n) - 15))], exec_call rfl call67 rfl (mpn rfl), small0_any ((ws (w0 x 16) n) ((16 + n) - 15)) w'⟩⟩) (ak (fun γ => ⟨rfl, fun w' _ => ex_add32 rfl rfl rfl⟩) (ak (fun _ => ⟨rfl, fun _ _ => rfl⟩) (ak (by refine fun γ => ⟨rfl, fun w' h => ?_⟩; clear h; go_simp; rw [IntKind.wrap_i64]; omega) (ak (fun γ => ⟨rfl, fun w' _ => ex_ix0_78 (j := (16 + n) - 16) rfl rfl rfl (by omega)⟩) (ak (fun γ => ⟨rfl, fun w' h => ex_loadC h 0 rfl rfl rfl Tryd.isAgg51 (ints_get _ _ (by omega))⟩) (ak (fun γ => ⟨rfl, fun w' _ => ex_add32 rfl rfl rfl⟩) (ak (fun γ => ⟨rfl, fun w' _ => ex_ix0_78 (j := 16 + n) rfl rfl rfl (by omega)⟩) trivial))))))))))))))))))))))
    intro _ w14 H14
    clear H13
    refine rest_at (l := [23]) rfl ?_
    refine rest_store rfl rfl rfl (ex_storeI H14.out.1 0 rfl rfl Tryd.sizeOf51 rfl rfl (by rw [ints_len]; omega)) ?_
    have H15 : Hid (Mm (w14.setCells γ2_0 (16 + n) ([W32 (ad (ad (ad (sB' ((ws (w0 x 16) n) ((16 + n) - 2))) ((ws (w0 x 16) n) ((16 + n) - 7))) (sA ((ws (w0 x 16) n) ((16 + n) - 15)))) ((ws (w0 x 16) n) ((16 + n) - 16)))])) [(γ2_0, ints .u32 (up (ws (w0 x 16) n) (16 + n) (ad (ad (ad (sB' ((ws (w0 x 16) n) ((16 + n) - 2))) ((ws (w0 x 16) n) ((16 + n) - 7))) (sA ((ws (w0 x 16) n) ((16 + n) - 15)))) ((ws (w0 x 16) n) ((16 + n) - 16)))) 64), (γ1_0, ints .u8 x 64), (γ1_1, ints .u32 (fun _ => 0) 64)] ∧ Below w.heap.size w (w14.setCells γ2_0 (16 + n) ([W32 (ad (ad (ad (sB' ((ws (w0 x 16) n) ((16 + n) - 2))) ((ws (w0 x 16) n) ((16 + n) - 7))) (sA ((ws (w0 x 16) n) ((16 + n) - 15)))) ((ws (w0 x 16) n) ((16 + n) - 16)))]))) := ⟨by
      have h := H14.out.1.put 0 (off := 16 + n) (vs := [W32 (ad (ad (ad (sB' ((ws (w0 x 16) n) ((16 + n) - 2))) ((ws (w0 x 16) n) ((16 + n) - 7))) (sA ((ws (w0 x 16) n) ((16 + n) - 15)))) ((ws (w0 x 16) n) ((16 + n) - 16)))]) rfl (by rw [ints_len]; simp only [List.length_cons, List.length_nil]; omega)
      rw [ints_patch _ _ _ _ (by omega)] at h
      exact h, below_setCells _ o2_0.out _ _ _ H14.out.2⟩
    clear H14
    generalize hgw : World.setCells _ _ _ _ = w15 at H15 ⊢
    clear hgw
    refine rest_nil (block_normal (then_normal ?_))
    refine walk_seqB 2 [.quiet (.int .i64 ((16 + n : Nat) : Int)), .quiet (.int .i64 (((16 + n) + 1 : Nat) : Int))] H15 ?ho12 ?he12
    case ho12 => exact ak (fun _ => ⟨rfl, fun _ _ => rfl⟩) (ak (by refine fun γ => ⟨rfl, fun w' h => ?_⟩; clear h; go_simp; rw [IntKind.wrap_i64]; omega) trivial)
    intro _ w16 H16
    clear H15
    refine rest_at (l := [2]) rfl ?_
    refine rest_set (d := 5) rfl rfl rfl rfl ?_
    simp only [Act.put, sa, sz, ss]
    refine rest_nil (then_normal ?_)
    exact ⟨n + 1, ⟨(slotfn [undef, undef, undef, undef, undef, undef, undef, undef, undef, undef, undef, undef, undef, undef, undef, undef, undef, undef, undef, undef, undef, undef, undef, undef, undef, undef, undef, undef, undef, undef, undef, undef, undef, undef, undef, undef, undef, undef, undef, undef, undef, .int .i64 ((16 + n : Nat) : Int), .bool true, .int .i64 ((16 + n : Nat) : Int), .int .i64 (((16 + n) + 1 : Nat) : Int), .int .i64 ((16 + n : Nat) : Int), .int .i64 ((16 + n : Nat) : Int), .int .i64 (((16 + n) - 2 : Nat) : Int), PT γ2_0 ((16 + n) - 2), W32 ((ws (w0 x 16) n) ((16 + n) - 2)), W32 (sB' ((ws (w0 x 16) n) ((16 + n) - 2))), .int .i64 ((16 + n : Nat) : Int), .int .i64 (((16 + n) - 7 : Nat) : Int), PT γ2_0 ((16 + n) - 7), W32 ((ws (w0 x 16) n) ((16 + n) - 7)), W32 (ad (sB' ((ws (w0 x 16) n) ((16 + n) - 2))) ((ws (w0 x 16) n) ((16 + n) - 7))), .int .i64 ((16 + n : Nat) : Int), .int .i64 (((16 + n) - 15 : Nat) : Int), PT γ2_0 ((16 + n) - 15), W32 ((ws (w0 x 16) n) ((16 + n) - 15)), W32 (sA ((ws (w0 x 16) n) ((16 + n) - 15))), W32 (ad (ad (sB' ((ws (w0 x 16) n) ((16 + n) - 2))) ((ws (w0 x 16) n) ((16 + n) - 7))) (sA ((ws (w0 x 16) n) ((16 + n) - 15)))), .int .i64 ((16 + n : Nat) : Int), .int .i64 (((16 + n) - 16 : Nat) : Int), PT γ2_0 ((16 + n) - 16), W32 ((ws (w0 x 16) n) ((16 + n) - 16)), W32 (ad (ad (ad (sB' ((ws (w0 x 16) n) ((16 + n) - 2))) ((ws (w0 x 16) n) ((16 + n) - 7))) (sA ((ws (w0 x 16) n) ((16 + n) - 15)))) ((ws (w0 x 16) n) ((16 + n) - 16))), PT γ2_0 (16 + n)]), rfl, ⟨H16.out.1, H16.out.2⟩, by omega⟩, by omega⟩
  have hnN : n = 48 := by omega
  subst hnN
  refine wp_seq (wp_seq ?_)
  refine walk_seqB 2 [.quiet (.int .i64 ((16 + 48 : Nat) : Int)), .quiet (.bool false)] H12 ?ho13 ?he13
  case ho13 => exact ak (fun _ => ⟨rfl, fun _ _ => rfl⟩) (ak (by refine fun γ => ⟨rfl, fun w' h => ?_⟩; clear h; go_simp <;> omega) trivial)
  intro _ w17 H17
  clear H12
  refine rest0 rfl (then_normal (wp_cond_false rfl ?_))
  refine wp_exit ?_
  repeat refine then_exit ?_
  refine block_exit ?_
  refine then_normal (wp_seq ?_)
  refine walk_seqB 1 [.quiet (.agg (ints .u32 (ws (w0 x 16) 48) 64).toArray)] H17 ?ho14 ?he14
  case ho14 => exact ak (fun γ => ⟨rfl, fun w' h => ex_loadT h 0 rfl rfl rfl Tryd.isAgg78 Tryd.sizeOf78 (ints_whole _ _ _) (ints_len _ _ _)⟩) trivial
  intro _ w18 H18
  clear H17
  refine rest_at (l := [1]) rfl ?_
  refine rest_store rfl rfl rfl (ex_storeT (vs := ints .u32 (ws (w0 x 16) 48) 64) H18.out.1 2 rfl rfl rfl rfl (by rw [ints_len]; exact Tryd.sizeOf78) (ints_all _ _ _) (by simp [ints_len])) ?_
  have H19 : Hid (Mm (w18.setCells γ1_1 0 (ints .u32 (ws (w0 x 16) 48) 64)) [(γ2_0, ints .u32 (ws (w0 x 16) 48) 64), (γ1_0, ints .u8 x 64), (γ1_1, ints .u32 (ws (w0 x 16) 48) 64)] ∧ Below w.heap.size w (w18.setCells γ1_1 0 (ints .u32 (ws (w0 x 16) 48) 64))) := ⟨by
    have h := H18.out.1.put 2 (off := 0) (vs := ints .u32 (ws (w0 x 16) 48) 64) rfl (by simp [ints_len])
    rw [ints_patch0 _ _ _ _] at h
    exact h, below_setCells _ o1_1.out _ _ _ H18.out.2⟩
  clear H18
  generalize hgw : World.setCells _ _ _ _ = w19 at H19 ⊢
  clear hgw
  refine rest_nil (then_normal (wp_ret ?_))
  repeat (first | refine then_ret ?_ | refine block_ret ?_)
  have hf0 := var_T H19.out.1 2 rfl Tryd.isAgg78 Tryd.sizeOf78 (ints_len _ _ _)
  refine bodyPost_ret (v := .agg (ints .u32 (ws (w0 x 16) 48) 64).toArray) (by simp [results, Tryd.results63, asAddr, hf0]) rfl ?_
  exact ⟨rfl, H19.out.2⟩
set_option maxHeartbeats 2000000 in
set_option maxRecDepth 100000 in
theorem mix_any (s x : Nat → Nat) (w : World) (hm : Mm w [(1, ints .u32 kT 64)]) :
    Calls Tryd.prog 58 #[.agg (ints .u32 s 8).toArray, .agg (ints .u8 x 64).toArray] w fun e w' => e = .returned (.agg (ints .u32 (mx s x) 8).toArray) ∧ Below w.heap.size w w' := by
  have H0 : Hid (_ ∧ _) := ⟨hm, Below.refl w.heap.size w⟩
  clear hm
  go_enter Tryd.func58, Tryd.ntmps58
  refine wp_seq ?_
  refine walk_seqA 3 [.made (ints .u32 s 8) 53, .made (ints .u8 x 64) 55, .made (ints .u32 (fun _ => 0) 8) 53] (sB H0) ?ho1 ?he1
  case ho1 => exact ak (fun γ => ⟨rfl, fun w' => ex_boxT rfl rfl⟩) (ak (fun γ => ⟨rfl, fun w' => ex_boxT rfl rfl⟩) (ak (fun γ => ⟨rfl, fun w' => ex_mk53 rfl⟩) trivial))
  intro γ w1 l hM hl
  have H1 : Hid (Mm w1 [(γ 0, ints .u32 s 8), (γ 1, ints .u8 x 64), (γ 2, ints .u32 (fun _ => 0) 8), (1, ints .u32 kT 64)] ∧ _) := growB H0 hM (Nat.le_refl _) hl [0, 1, 2] rfl (by decide)
  have o1_0 := ownB H0 hM (Nat.le_refl _) hl (i := 0) rfl
  have o1_1 := ownB H0 hM (Nat.le_refl _) hl (i := 1) rfl
  have o1_2 := ownB H0 hM (Nat.le_refl _) hl (i := 2) rfl
  clear hM hl l
  generalize γ 0 = γ1_0 at H1 o1_0 ⊢
  generalize γ 1 = γ1_1 at H1 o1_1 ⊢
  generalize γ 2 = γ1_2 at H1 o1_2 ⊢
  clear γ
  refine rest0 rfl (then_normal (wp_seq ?_))
  refine walk_seqA 4 [.quiet (.agg (ints .u8 x 64).toArray), .call (.agg (ints .u32 (ws (w0 x 16) 48) 64).toArray), .made (ints .u32 (fun _ => 0) 64) 78, .laid 2 (ints .u32 (fun _ => 0) 64) (ints .u32 (ws (w0 x 16) 48) 64)] (sB H1) ?ho2 ?he2 (hL := ?hL2)
  case hL2 => exact ⟨⟨_, rfl⟩, trivial⟩
  case ho2 => exact ak (fun γ => ⟨rfl, fun w' h => ex_loadT h 1 rfl rfl rfl Tryd.isAgg55 Tryd.sizeOf55 (ints_whole _ _ _) (ints_len _ _ _)⟩) (ak (fun γ => ⟨rfl, fun w' h => ⟨63, #[.agg (ints .u8 x 64).toArray], exec_call rfl call63 rfl (mpn rfl), spread_any x w'⟩⟩) (ak (fun γ => ⟨rfl, fun w' => ex_mk78 rfl⟩) (ak (fun γ => ⟨rfl, rfl, (ints_len _ _ _).trans (ints_len _ _ _).symm, fun w' h => ex_laidI h Tryd.sizeOf78 rfl rfl rfl⟩) trivial)))
  intro γ w2 l hM hl
  have H2 : Hid (Mm w2 [(γ 2, ints .u32 (ws (w0 x 16) 48) 64), (γ1_0, ints .u32 s 8), (γ1_1, ints .u8 x 64), (γ1_2, ints .u32 (fun _ => 0) 8), (1, ints .u32 kT 64)] ∧ _) := growB H1 hM (Nat.le_refl _) hl [2] rfl (by decide)
  have o2_2 := ownB H1 hM (Nat.le_refl _) hl (i := 2) rfl
  clear hM hl l H1
  generalize γ 2 = γ2_2 at H2 o2_2 ⊢
  clear γ
  refine rest0 rfl (then_normal (wp_seq ?_))
  refine walk_anyB 24 [.quiet (PT γ1_0 0), .quiet (W32 (s 0)), .quiet (PT γ1_0 1), .quiet (W32 (s 1)), .quiet (PT γ1_0 2), .quiet (W32 (s 2)), .quiet (PT γ1_0 3), .quiet (W32 (s 3)), .quiet (PT γ1_0 4), .quiet (W32 (s 4)), .quiet (PT γ1_0 5), .quiet (W32 (s 5)), .quiet (PT γ1_0 6), .quiet (W32 (s 6)), .quiet (PT γ1_0 7), .quiet (W32 (s 7)), .quiet (W32 (s 0)), .quiet (W32 (s 1)), .quiet (W32 (s 2)), .quiet (W32 (s 3)), .quiet (W32 (s 4)), .quiet (W32 (s 5)), .quiet (W32 (s 6)), .quiet (W32 (s 7))] H2 ?ho3 ?he3 (hL := ?hL3)
  case hL3 => exact trivial
  case ho3 => exact ak (fun γ => ⟨rfl, fun w' _ => ex_ix0_53 (j := 0) rfl rfl rfl (by decide)⟩) (ak (fun γ => ⟨rfl, fun w' h => ex_loadC h 1 rfl rfl rfl Tryd.isAgg51 (ints_get _ _ (by decide))⟩) (ak (fun γ => ⟨rfl, fun w' _ => ex_ix0_53 (j := 1) rfl rfl rfl (by decide)⟩) (ak (fun γ => ⟨rfl, fun w' h => ex_loadC h 1 rfl rfl rfl Tryd.isAgg51 (ints_get _ _ (by decide))⟩) (ak (fun γ => ⟨rfl, fun w' _ => ex_ix0_53 (j := 2) rfl rfl rfl (by decide)⟩) (ak (fun γ => ⟨rfl, fun w' h => ex_loadC h 1 rfl rfl rfl Tryd.isAgg51 (ints_get _ _ (by decide))⟩) (ak (fun γ => ⟨rfl, fun w' _ => ex_ix0_53 (j := 3) rfl rfl rfl (by decide)⟩) (ak (fun γ => ⟨rfl, fun w' h => ex_loadC h 1 rfl rfl rfl Tryd.isAgg51 (ints_get _ _ (by decide))⟩) (ak (fun γ => ⟨rfl, fun w' _ => ex_ix0_53 (j := 4) rfl rfl rfl (by decide)⟩) (ak (fun γ => ⟨rfl, fun w' h => ex_loadC h 1 rfl rfl rfl Tryd.isAgg51 (ints_get _ _ (by decide))⟩) (ak (fun γ => ⟨rfl, fun w' _ => ex_ix0_53 (j := 5) rfl rfl rfl (by decide)⟩) (ak (fun γ => ⟨rfl, fun w' h => ex_loadC h 1 rfl rfl rfl Tryd.isAgg51 (ints_get _ _ (by decide))⟩) (ak (fun γ => ⟨rfl, fun w' _ => ex_ix0_53 (j := 6) rfl rfl rfl (by decide)⟩) (ak (fun γ => ⟨rfl, fun w' h => ex_loadC h 1 rfl rfl rfl Tryd.isAgg51 (ints_get _ _ (by decide))⟩) (ak (fun γ => ⟨rfl, fun w' _ => ex_ix0_53 (j := 7) rfl rfl rfl (by decide)⟩) (ak (fun γ => ⟨rfl, fun w' h => ex_loadC h 1 rfl rfl rfl Tryd.isAgg51 (ints_get _ _ (by decide))⟩) (ak (fun _ => ⟨rfl, fun _ _ => rfl⟩) (ak (fun _ => ⟨rfl, fun _ _ => rfl⟩) (ak (fun _ => ⟨rfl, fun _ _ => rfl⟩) (ak (fun _ => ⟨rfl, fun _ _ => rfl⟩) (ak (fun _ => ⟨rfl, fun _ _ => rfl⟩) (ak (fun _ => ⟨rfl, fun _ _ => rfl⟩) (ak (fun _ => ⟨rfl, fun _ _ => rfl⟩) (ak (fun _ => ⟨rfl, fun _ _ => rfl⟩) trivial)))))))))))))))))))))))
  intro _ w3 H3
  clear H2
  refine rest0 rfl (then_normal (wp_seq (wp_seq ?_)))
  refine walk_seqB 1 [.quiet (.int .i64 0)] H3 ?ho4 ?he4
  case ho4 => exact ak (fun _ => ⟨rfl, fun _ _ => rfl⟩) trivial
  intro _ w4 H4
  clear H3
  refine rest0 rfl (then_normal (wp_block ?_))
  refine loop_ghost (α := Nat) (fun k a' w' => ∃ s0 : Nat → Value, a' = ⟨#[.agg (ints .u32 s 8).toArray, .agg (ints .u8 x 64).toArray, PT γ1_0 0, PT γ1_1 0, PT γ1_2 0, PT γ2_2 0, W32 ((rn s (ws (w0 x 16) 48) k).a), W32 ((rn s (ws (w0 x 16) 48) k).b), W32 ((rn s (ws (w0 x 16) 48) k).c), W32 ((rn s (ws (w0 x 16) 48) k).d), W32 ((rn s (ws (w0 x 16) 48) k).e), W32 ((rn s (ws (w0 x 16) 48) k).f), W32 ((rn s (ws (w0 x 16) 48) k).g), W32 ((rn s (ws (w0 x 16) 48) k).h), s0 14, s0 15, s0 16, .agg (ints .u8 x 64).toArray, .agg (ints .u32 (ws (w0 x 16) 48) 64).toArray, PT γ1_0 0, W32 (s 0), PT γ1_0 1, W32 (s 1), PT γ1_0 2, W32 (s 2), PT γ1_0 3, W32 (s 3), PT γ1_0 4, W32 (s 4), PT γ1_0 5, W32 (s 5), PT γ1_0 6, W32 (s 6), PT γ1_0 7, W32 (s 7), .int .i64 ((k : Nat) : Int), s0 36, s0 37, s0 38, s0 39, s0 40, s0 41, s0 42, s0 43, s0 44, s0 45, s0 46, s0 47, s0 48, s0 49, s0 50, s0 51, s0 52, s0 53, s0 54, s0 55, s0 56, s0 57, s0 58, s0 59, s0 60, s0 61, s0 62, s0 63, s0 64, s0 65, s0 66, s0 67, s0 68, s0 69, s0 70, s0 71, s0 72, s0 73, s0 74, s0 75, s0 76, s0 77, s0 78, s0 79, s0 80, s0 81, s0 82, s0 83, s0 84, s0 85, undef, undef, undef, undef, undef, undef, undef, undef, undef, undef, undef, undef, undef, undef, undef, undef, undef, undef, undef, undef, undef, undef, undef, undef, undef, undef, undef, undef, undef, undef, undef, undef, undef], []⟩ ∧ (Mm w' [(γ2_2, ints .u32 (ws (w0 x 16) 48) 64), (γ1_0, ints .u32 s 8), (γ1_1, ints .u8 x 64), (γ1_2, ints .u32 (fun _ => 0) 8), (1, ints .u32 kT 64)] ∧ Below w.heap.size w w') ∧ k ≤ 64) (fun k => 64 - k) 0 ?st0 ?rd0
  case st0 => exact ⟨(slotfn [undef, undef, undef, undef, undef, undef, undef, undef, undef, undef, undef, undef, undef, undef, undef, undef, undef, undef, undef, undef, undef, undef, undef, undef, undef, undef, undef, undef, undef, undef, undef, undef, undef, undef, undef, undef, undef, undef, undef, undef, undef, undef, undef, undef, undef, undef, undef, undef, undef, undef, undef, undef, undef, undef, undef, undef, undef, undef, undef, undef, undef, undef, undef, undef, undef, undef, undef, undef, undef, undef, undef, undef, undef, undef, undef, undef, undef, undef, undef, undef, undef, undef, undef, undef, undef, undef]), rfl, ⟨H4.out.1, H4.out.2⟩, by omega⟩
  intro k a' w5 hI
  obtain ⟨s0, rfl, hMB, hk0⟩ := hI
  have H5 : Hid (_ ∧ _) := hMB
  clear hMB H4
  by_cases hltk : k < 64
  · have hrd : True := trivial
    clear hrd
    refine wp_seq ?_
    refine walk_seqB 1 [.quiet (.bool true)] H5 ?ho5 ?he5
    case ho5 => exact ak (by refine fun γ => ⟨rfl, fun w' h => ?_⟩; clear h; go_simp <;> omega) trivial
    intro _ w6 H6
    clear H5
    refine rest0 rfl (then_normal (wp_seq ?_))
    refine wp_cond_true rfl (wp_skip ?_)
    refine then_normal (wp_seq ?_)
    refine wp_block (wp_seq ?_)
    refine walk_seqB 2 [.quiet (.int .i64 ((k : Nat) : Int)), .quiet (.int .i64 ((k : Nat) : Int))] H6 ?ho6 ?he6
    case ho6 => exact ak (fun _ => ⟨rfl, fun _ _ => rfl⟩) (ak (fun _ => ⟨rfl, fun _ _ => rfl⟩) trivial)
    intro _ w7 H7
    clear H6
    refine rest0 rfl (then_normal (wp_seq ?_))
    refine walk_anyB 22 [.quiet (W32 ((rn s (ws (w0 x 16) 48) k).h)), .quiet (W32 ((rn s (ws (w0 x 16) 48) k).e)), .call (W32 (gB ((rn s (ws (w0 x 16) 48) k).e))), .quiet (W32 (ad ((rn s (ws (w0 x 16) 48) k).h) (gB ((rn s (ws (w0 x 16) 48) k).e)))), .quiet (W32 ((rn s (ws (w0 x 16) 48) k).e)), .quiet (W32 ((rn s (ws (w0 x 16) 48) k).f)), .quiet (W32 (an ((rn s (ws (w0 x 16) 48) k).e) ((rn s (ws (w0 x 16) 48) k).f))), .quiet (W32 ((rn s (ws (w0 x 16) 48) k).e)), .quiet (W32 (nt ((rn s (ws (w0 x 16) 48) k).e))), .quiet (W32 ((rn s (ws (w0 x 16) 48) k).g)), .quiet (W32 (an (nt ((rn s (ws (w0 x 16) 48) k).e)) ((rn s (ws (w0 x 16) 48) k).g))), .quiet (W32 (xo (an ((rn s (ws (w0 x 16) 48) k).e) ((rn s (ws (w0 x 16) 48) k).f)) (an (nt ((rn s (ws (w0 x 16) 48) k).e)) ((rn s (ws (w0 x 16) 48) k).g)))), .quiet (W32 (ad (ad ((rn s (ws (w0 x 16) 48) k).h) (gB ((rn s (ws (w0 x 16) 48) k).e))) (xo (an ((rn s (ws (w0 x 16) 48) k).e) ((rn s (ws (w0 x 16) 48) k).f)) (an (nt ((rn s (ws (w0 x 16) 48) k).e)) ((rn s (ws (w0 x 16) 48) k).g))))), .quiet (.int .i64 ((k : Nat) : Int)), .quiet (PT 1 k), .quiet (W32 (kT k)), .quiet (W32 (ad (ad (ad ((rn s (ws (w0 x 16) 48) k).h) (gB ((rn s (ws (w0 x 16) 48) k).e))) (xo (an ((rn s (ws (w0 x 16) 48) k).e) ((rn s (ws (w0 x 16) 48) k).f)) (an (nt ((rn s (ws (w0 x 16) 48) k).e)) ((rn s (ws (w0 x 16) 48) k).g)))) (kT k))), .quiet (.int .i64 ((k : Nat) : Int)), .quiet (PT γ2_2 k), .quiet (W32 ((ws (w0 x 16) 48) k)), .quiet (W32 (ad (ad (ad (ad ((rn s (ws (w0 x 16) 48) k).h) (gB ((rn s (ws (w0 x 16) 48) k).e))) (xo (an ((rn s (ws (w0 x 16) 48) k).e) ((rn s (ws (w0 x 16) 48) k).f)) (an (nt ((rn s (ws (w0 x 16) 48) k).e)) ((rn s (ws (w0 x 16) 48) k).g)))) (kT k)) ((ws (w0 x 16) 48) k))), .quiet (W32 (ad (ad (ad (ad ((rn s (ws (w0 x 16) 48) k).h) (gB ((rn s (ws (w0 x 16) 48) k).e))) (xo (an ((rn s (ws (w0 x 16) 48) k).e) ((rn s (ws (w0 x 16) 48) k).f)) (an (nt ((rn s (ws (w0 x 16) 48) k).e)) ((rn s (ws (w0 x 16) 48) k).g)))) (kT k)) ((ws (w0 x 16) 48) k)))] H7 ?ho7 ?he7
    case ho7 => exact ak (fun _ => ⟨rfl, fun _ _ => rfl⟩) (ak (fun _ => ⟨rfl, fun _ _ => rfl⟩) (ak (fun γ => ⟨rfl, fun w' h => ⟨64, #[W32 ((rn s (ws (w0 x 16) 48) k).e)], exec_call rfl call64 rfl (mpn rfl), great1_any ((rn s (ws (w0 x 16) 48) k).e) w'⟩⟩) (ak (fun γ => ⟨rfl, fun w' _ => ex_add32 rfl rfl rfl⟩) (ak (fun _ => ⟨rfl, fun _ _ => rfl⟩) (ak (fun _ => ⟨rfl, fun _ _ => rfl⟩) (ak (fun γ => ⟨rfl, fun w' _ => ex_and32 rfl rfl rfl⟩) (ak (fun _ => ⟨rfl, fun _ _ => rfl⟩) (ak (fun γ => ⟨rfl, fun w' _ => ex_not32 rfl rfl⟩) (ak (fun _ => ⟨rfl, fun _ _ => rfl⟩) (ak (fun γ => ⟨rfl, fun w' _ => ex_and32 rfl rfl rfl⟩) (ak (fun γ => ⟨rfl, fun w' _ => ex_xor32 rfl rfl rfl⟩) (ak (fun γ => ⟨rfl, fun w' _ => ex_add32 rfl rfl rfl⟩) (ak (fun _ => ⟨rfl, fun _ _ => rfl⟩) (ak (fun γ => ⟨rfl, fun w' _ => ex_ix0_78 (j := k) rfl rfl rfl (by omega)⟩) (ak (fun γ => ⟨rfl, fun w' h => ex_loadC h 4 rfl rfl rfl Tryd.isAgg51 (ints_get _ _ (by omega))⟩) (ak (fun γ => ⟨rfl, fun w' _ => ex_add32 rfl rfl rfl⟩) (ak (fun _ => ⟨rfl, fun _ _ => rfl⟩) (ak (fun γ => ⟨rfl, fun w' _ => ex_ix0_78 (j := k) rfl rfl rfl (by omega)⟩) (ak (fun γ => ⟨rfl, fun w' h => ex_loadC h 0 rfl rfl rfl Tryd.isAgg51 (ints_get _ _ (by omega))⟩) (ak (fun γ => ⟨rfl, fun w' _ => ex_add32 rfl rfl rfl⟩) (ak (fun _ => ⟨rfl, fun _ _ => rfl⟩) trivial)))))))))))))))))))))
    intro _ w8 H8
    clear H7
    refine rest0 rfl (then_normal (wp_seq ?_))
    refine walk_seqB 15 [.quiet (W32 ((rn s (ws (w0 x 16) 48) k).a)), .call (W32 (gA ((rn s (ws (w0 x 16) 48) k).a))), .quiet (W32 ((rn s (ws (w0 x 16) 48) k).a)), .quiet (W32 ((rn s (ws (w0 x 16) 48) k).b)), .quiet (W32 (an ((rn s (ws (w0 x 16) 48) k).a) ((rn s (ws (w0 x 16) 48) k).b))), .quiet (W32 ((rn s (ws (w0 x 16) 48) k).a)), .quiet (W32 ((rn s (ws (w0 x 16) 48) k).c)), .quiet (W32 (an ((rn s (ws (w0 x 16) 48) k).a) ((rn s (ws (w0 x 16) 48) k).c))), .quiet (W32 (xo (an ((rn s (ws (w0 x 16) 48) k).a) ((rn s (ws (w0 x 16) 48) k).b)) (an ((rn s (ws (w0 x 16) 48) k).a) ((rn s (ws (w0 x 16) 48) k).c)))), .quiet (W32 ((rn s (ws (w0 x 16) 48) k).b)), .quiet (W32 ((rn s (ws (w0 x 16) 48) k).c)), .quiet (W32 (an ((rn s (ws (w0 x 16) 48) k).b) ((rn s (ws (w0 x 16) 48) k).c))), .quiet (W32 (xo (xo (an ((rn s (ws (w0 x 16) 48) k).a) ((rn s (ws (w0 x 16) 48) k).b)) (an ((rn s (ws (w0 x 16) 48) k).a) ((rn s (ws (w0 x 16) 48) k).c))) (an ((rn s (ws (w0 x 16) 48) k).b) ((rn s (ws (w0 x 16) 48) k).c)))), .quiet (W32 (ad (gA ((rn s (ws (w0 x 16) 48) k).a)) (xo (xo (an ((rn s (ws (w0 x 16) 48) k).a) ((rn s (ws (w0 x 16) 48) k).b)) (an ((rn s (ws (w0 x 16) 48) k).a) ((rn s (ws (w0 x 16) 48) k).c))) (an ((rn s (ws (w0 x 16) 48) k).b) ((rn s (ws (w0 x 16) 48) k).c))))), .quiet (W32 (ad (gA ((rn s (ws (w0 x 16) 48) k).a)) (xo (xo (an ((rn s (ws (w0 x 16) 48) k).a) ((rn s (ws (w0 x 16) 48) k).b)) (an ((rn s (ws (w0 x 16) 48) k).a) ((rn s (ws (w0 x 16) 48) k).c))) (an ((rn s (ws (w0 x 16) 48) k).b) ((rn s (ws (w0 x 16) 48) k).c)))))] H8 ?ho8 ?he8
    case ho8 => exact ak (fun _ => ⟨rfl, fun _ _ => rfl⟩) (ak (fun γ => ⟨rfl, fun w' h => ⟨65, #[W32 ((rn s (ws (w0 x 16) 48) k).a)], exec_call rfl call65 rfl (mpn rfl), great0_any ((rn s (ws (w0 x 16) 48) k).a) w'⟩⟩) (ak (fun _ => ⟨rfl, fun _ _ => rfl⟩) (ak (fun _ => ⟨rfl, fun _ _ => rfl⟩) (ak (fun γ => ⟨rfl, fun w' _ => ex_and32 rfl rfl rfl⟩) (ak (fun _ => ⟨rfl, fun _ _ => rfl⟩) (ak (fun _ => ⟨rfl, fun _ _ => rfl⟩) (ak (fun γ => ⟨rfl, fun w' _ => ex_and32 rfl rfl rfl⟩) (ak (fun γ => ⟨rfl, fun w' _ => ex_xor32 rfl rfl rfl⟩) (ak (fun _ => ⟨rfl, fun _ _ => rfl⟩) (ak (fun _ => ⟨rfl, fun _ _ => rfl⟩) (ak (fun γ => ⟨rfl, fun w' _ => ex_and32 rfl rfl rfl⟩) (ak (fun γ => ⟨rfl, fun w' _ => ex_xor32 rfl rfl rfl⟩) (ak (fun γ => ⟨rfl, fun w' _ => ex_add32 rfl rfl rfl⟩) (ak (fun _ => ⟨rfl, fun _ _ => rfl⟩) trivial))))))))))))))
    intro _ w9 H9
    clear H8
    refine rest0 rfl (then_normal ?_)
    refine walk_seqB 13 [.quiet (W32 ((rn s (ws (w0 x 16) 48) k).g)), .quiet (W32 ((rn s (ws (w0 x 16) 48) k).f)), .quiet (W32 ((rn s (ws (w0 x 16) 48) k).e)), .quiet (W32 ((rn s (ws (w0 x 16) 48) k).d)), .quiet (W32 (ad (ad (ad (ad ((rn s (ws (w0 x 16) 48) k).h) (gB ((rn s (ws (w0 x 16) 48) k).e))) (xo (an ((rn s (ws (w0 x 16) 48) k).e) ((rn s (ws (w0 x 16) 48) k).f)) (an (nt ((rn s (ws (w0 x 16) 48) k).e)) ((rn s (ws (w0 x 16) 48) k).g)))) (kT k)) ((ws (w0 x 16) 48) k))), .quiet (W32 (ad ((rn s (ws (w0 x 16) 48) k).d) (ad (ad (ad (ad ((rn s (ws (w0 x 16) 48) k).h) (gB ((rn s (ws (w0 x 16) 48) k).e))) (xo (an ((rn s (ws (w0 x 16) 48) k).e) ((rn s (ws (w0 x 16) 48) k).f)) (an (nt ((rn s (ws (w0 x 16) 48) k).e)) ((rn s (ws (w0 x 16) 48) k).g)))) (kT k)) ((ws (w0 x 16) 48) k)))), .quiet (W32 ((rn s (ws (w0 x 16) 48) k).c)), .quiet (W32 ((rn s (ws (w0 x 16) 48) k).b)), .quiet (W32 ((rn s (ws (w0 x 16) 48) k).a)), .quiet (W32 (ad (ad (ad (ad ((rn s (ws (w0 x 16) 48) k).h) (gB ((rn s (ws (w0 x 16) 48) k).e))) (xo (an ((rn s (ws (w0 x 16) 48) k).e) ((rn s (ws (w0 x 16) 48) k).f)) (an (nt ((rn s (ws (w0 x 16) 48) k).e)) ((rn s (ws (w0 x 16) 48) k).g)))) (kT k)) ((ws (w0 x 16) 48) k))), .quiet (W32 (ad (gA ((rn s (ws (w0 x 16) 48) k).a)) (xo (xo (an ((rn s (ws (w0 x 16) 48) k).a) ((rn s (ws (w0 x 16) 48) k).b)) (an ((rn s (ws (w0 x 16) 48) k).a) ((rn s (ws (w0 x 16) 48) k).c))) (an ((rn s (ws (w0 x 16) 48) k).b) ((rn s (ws (w0 x 16) 48) k).c))))), .quiet (W32 (ad (ad (ad (ad (ad ((rn s (ws (w0 x 16) 48) k).h) (gB ((rn s (ws (w0 x 16) 48) k).e))) (xo (an ((rn s (ws (w0 x 16) 48) k).e) ((rn s (ws (w0 x 16) 48) k).f)) (an (nt ((rn s (ws (w0 x 16) 48) k).e)) ((rn s (ws (w0 x 16) 48) k).g)))) (kT k)) ((ws (w0 x 16) 48) k)) (ad (gA ((rn s (ws (w0 x 16) 48) k).a)) (xo (xo (an ((rn s (ws (w0 x 16) 48) k).a) ((rn s (ws (w0 x 16) 48) k).b)) (an ((rn s (ws (w0 x 16) 48) k).a) ((rn s (ws (w0 x 16) 48) k).c))) (an ((rn s (ws (w0 x 16) 48) k).b) ((rn s (ws (w0 x 16) 48) k).c)))))), .quiet (W32 ((rn s (ws (w0 x 16) 48) k).g))] H9 ?ho9 ?he9
    case ho9 => exact ak (fun _ => ⟨rfl, fun _ _ => rfl⟩) (ak (fun _ => ⟨rfl, fun _ _ => rfl⟩) (ak (fun _ => ⟨rfl, fun _ _ => rfl⟩) (ak (fun _ => ⟨rfl, fun _ _ => rfl⟩) (ak (fun _ => ⟨rfl, fun _ _ => rfl⟩) (ak (fun γ => ⟨rfl, fun w' _ => ex_add32 rfl rfl rfl⟩) (ak (fun _ => ⟨rfl, fun _ _ => rfl⟩) (ak (fun _ => ⟨rfl, fun _ _ => rfl⟩) (ak (fun _ => ⟨rfl, fun _ _ => rfl⟩) (ak (fun _ => ⟨rfl, fun _ _ => rfl⟩) (ak (fun _ => ⟨rfl, fun _ _ => rfl⟩) (ak (fun γ => ⟨rfl, fun w' _ => ex_add32 rfl rfl rfl⟩) (ak (fun _ => ⟨rfl, fun _ _ => rfl⟩) trivial))))))))))))
    intro _ w10 H10
    clear H9
    refine rest_at (l := [13, 14, 15, 16, 17, 18, 19]) rfl ?_
    refine rest_set (d := 12) rfl rfl rfl rfl ?_
    simp only [Act.put, sa, sz, ss]
    refine rest_set (d := 11) rfl rfl rfl rfl ?_
    simp only [Act.put, sa, sz, ss]
    refine rest_set (d := 10) rfl rfl rfl rfl ?_
    simp only [Act.put, sa, sz, ss]
    refine rest_set (d := 9) rfl rfl rfl rfl ?_
    simp only [Act.put, sa, sz, ss]
    refine rest_set (d := 8) rfl rfl rfl rfl ?_
    simp only [Act.put, sa, sz, ss]
    refine rest_set (d := 7) rfl rfl rfl rfl ?_
    simp only [Act.put, sa, sz, ss]
    refine rest_set (d := 6) rfl rfl rfl rfl ?_
    simp only [Act.put, sa, sz, ss]
    refine rest_nil (block_normal (then_normal ?_))
    refine walk_seqB 1 [.quiet (.int .i64 ((k + 1 : Nat) : Int))] H10 ?ho10 ?he10
    case ho10 => exact ak (by refine fun γ => ⟨rfl, fun w' h => ?_⟩; clear h; go_simp; rw [IntKind.wrap_i64]; omega) trivial
    intro _ w11 H11
    clear H10
    refine rest_at (l := [1]) rfl ?_
    refine rest_set (d := 35) rfl rfl rfl rfl ?_
    simp only [Act.put, sa, sz, ss]
    refine rest_nil (then_normal ?_)
    exact ⟨k + 1, ⟨(slotfn [undef, undef, undef, undef, undef, undef, undef, undef, undef, undef, undef, undef, undef, undef, .int .i64 ((k : Nat) : Int), W32 (ad (ad (ad (ad ((rn s (ws (w0 x 16) 48) k).h) (gB ((rn s (ws (w0 x 16) 48) k).e))) (xo (an ((rn s (ws (w0 x 16) 48) k).e) ((rn s (ws (w0 x 16) 48) k).f)) (an (nt ((rn s (ws (w0 x 16) 48) k).e)) ((rn s (ws (w0 x 16) 48) k).g)))) (kT k)) ((ws (w0 x 16) 48) k)), W32 (ad (gA ((rn s (ws (w0 x 16) 48) k).a)) (xo (xo (an ((rn s (ws (w0 x 16) 48) k).a) ((rn s (ws (w0 x 16) 48) k).b)) (an ((rn s (ws (w0 x 16) 48) k).a) ((rn s (ws (w0 x 16) 48) k).c))) (an ((rn s (ws (w0 x 16) 48) k).b) ((rn s (ws (w0 x 16) 48) k).c)))), undef, undef, undef, undef, undef, undef, undef, undef, undef, undef, undef, undef, undef, undef, undef, undef, undef, undef, undef, .bool true, .int .i64 ((k : Nat) : Int), W32 ((rn s (ws (w0 x 16) 48) k).h), W32 ((rn s (ws (w0 x 16) 48) k).e), W32 (gB ((rn s (ws (w0 x 16) 48) k).e)), W32 (ad ((rn s (ws (w0 x 16) 48) k).h) (gB ((rn s (ws (w0 x 16) 48) k).e))), W32 ((rn s (ws (w0 x 16) 48) k).e), W32 ((rn s (ws (w0 x 16) 48) k).f), W32 (an ((rn s (ws (w0 x 16) 48) k).e) ((rn s (ws (w0 x 16) 48) k).f)), W32 ((rn s (ws (w0 x 16) 48) k).e), W32 (nt ((rn s (ws (w0 x 16) 48) k).e)), W32 ((rn s (ws (w0 x 16) 48) k).g), W32 (an (nt ((rn s (ws (w0 x 16) 48) k).e)) ((rn s (ws (w0 x 16) 48) k).g)), W32 (xo (an ((rn s (ws (w0 x 16) 48) k).e) ((rn s (ws (w0 x 16) 48) k).f)) (an (nt ((rn s (ws (w0 x 16) 48) k).e)) ((rn s (ws (w0 x 16) 48) k).g))), W32 (ad (ad ((rn s (ws (w0 x 16) 48) k).h) (gB ((rn s (ws (w0 x 16) 48) k).e))) (xo (an ((rn s (ws (w0 x 16) 48) k).e) ((rn s (ws (w0 x 16) 48) k).f)) (an (nt ((rn s (ws (w0 x 16) 48) k).e)) ((rn s (ws (w0 x 16) 48) k).g)))), .int .i64 ((k : Nat) : Int), PT 1 k, W32 (kT k), W32 (ad (ad (ad ((rn s (ws (w0 x 16) 48) k).h) (gB ((rn s (ws (w0 x 16) 48) k).e))) (xo (an ((rn s (ws (w0 x 16) 48) k).e) ((rn s (ws (w0 x 16) 48) k).f)) (an (nt ((rn s (ws (w0 x 16) 48) k).e)) ((rn s (ws (w0 x 16) 48) k).g)))) (kT k)), .int .i64 ((k : Nat) : Int), PT γ2_2 k, W32 ((ws (w0 x 16) 48) k), W32 (ad (ad (ad (ad ((rn s (ws (w0 x 16) 48) k).h) (gB ((rn s (ws (w0 x 16) 48) k).e))) (xo (an ((rn s (ws (w0 x 16) 48) k).e) ((rn s (ws (w0 x 16) 48) k).f)) (an (nt ((rn s (ws (w0 x 16) 48) k).e)) ((rn s (ws (w0 x 16) 48) k).g)))) (kT k)) ((ws (w0 x 16) 48) k)), W32 ((rn s (ws (w0 x 16) 48) k).a), W32 (gA ((rn s (ws (w0 x 16) 48) k).a)), W32 ((rn s (ws (w0 x 16) 48) k).a), W32 ((rn s (ws (w0 x 16) 48) k).b), W32 (an ((rn s (ws (w0 x 16) 48) k).a) ((rn s (ws (w0 x 16) 48) k).b)), W32 ((rn s (ws (w0 x 16) 48) k).a), W32 ((rn s (ws (w0 x 16) 48) k).c), W32 (an ((rn s (ws (w0 x 16) 48) k).a) ((rn s (ws (w0 x 16) 48) k).c)), W32 (xo (an ((rn s (ws (w0 x 16) 48) k).a) ((rn s (ws (w0 x 16) 48) k).b)) (an ((rn s (ws (w0 x 16) 48) k).a) ((rn s (ws (w0 x 16) 48) k).c))), W32 ((rn s (ws (w0 x 16) 48) k).b), W32 ((rn s (ws (w0 x 16) 48) k).c), W32 (an ((rn s (ws (w0 x 16) 48) k).b) ((rn s (ws (w0 x 16) 48) k).c)), W32 (xo (xo (an ((rn s (ws (w0 x 16) 48) k).a) ((rn s (ws (w0 x 16) 48) k).b)) (an ((rn s (ws (w0 x 16) 48) k).a) ((rn s (ws (w0 x 16) 48) k).c))) (an ((rn s (ws (w0 x 16) 48) k).b) ((rn s (ws (w0 x 16) 48) k).c))), W32 (ad (gA ((rn s (ws (w0 x 16) 48) k).a)) (xo (xo (an ((rn s (ws (w0 x 16) 48) k).a) ((rn s (ws (w0 x 16) 48) k).b)) (an ((rn s (ws (w0 x 16) 48) k).a) ((rn s (ws (w0 x 16) 48) k).c))) (an ((rn s (ws (w0 x 16) 48) k).b) ((rn s (ws (w0 x 16) 48) k).c)))), W32 ((rn s (ws (w0 x 16) 48) k).g), W32 ((rn s (ws (w0 x 16) 48) k).f), W32 ((rn s (ws (w0 x 16) 48) k).e), W32 ((rn s (ws (w0 x 16) 48) k).d), W32 (ad (ad (ad (ad ((rn s (ws (w0 x 16) 48) k).h) (gB ((rn s (ws (w0 x 16) 48) k).e))) (xo (an ((rn s (ws (w0 x 16) 48) k).e) ((rn s (ws (w0 x 16) 48) k).f)) (an (nt ((rn s (ws (w0 x 16) 48) k).e)) ((rn s (ws (w0 x 16) 48) k).g)))) (kT k)) ((ws (w0 x 16) 48) k)), W32 (ad ((rn s (ws (w0 x 16) 48) k).d) (ad (ad (ad (ad ((rn s (ws (w0 x 16) 48) k).h) (gB ((rn s (ws (w0 x 16) 48) k).e))) (xo (an ((rn s (ws (w0 x 16) 48) k).e) ((rn s (ws (w0 x 16) 48) k).f)) (an (nt ((rn s (ws (w0 x 16) 48) k).e)) ((rn s (ws (w0 x 16) 48) k).g)))) (kT k)) ((ws (w0 x 16) 48) k))), W32 ((rn s (ws (w0 x 16) 48) k).c), W32 ((rn s (ws (w0 x 16) 48) k).b), W32 ((rn s (ws (w0 x 16) 48) k).a), W32 (ad (ad (ad (ad ((rn s (ws (w0 x 16) 48) k).h) (gB ((rn s (ws (w0 x 16) 48) k).e))) (xo (an ((rn s (ws (w0 x 16) 48) k).e) ((rn s (ws (w0 x 16) 48) k).f)) (an (nt ((rn s (ws (w0 x 16) 48) k).e)) ((rn s (ws (w0 x 16) 48) k).g)))) (kT k)) ((ws (w0 x 16) 48) k)), W32 (ad (gA ((rn s (ws (w0 x 16) 48) k).a)) (xo (xo (an ((rn s (ws (w0 x 16) 48) k).a) ((rn s (ws (w0 x 16) 48) k).b)) (an ((rn s (ws (w0 x 16) 48) k).a) ((rn s (ws (w0 x 16) 48) k).c))) (an ((rn s (ws (w0 x 16) 48) k).b) ((rn s (ws (w0 x 16) 48) k).c)))), W32 (ad (ad (ad (ad (ad ((rn s (ws (w0 x 16) 48) k).h) (gB ((rn s (ws (w0 x 16) 48) k).e))) (xo (an ((rn s (ws (w0 x 16) 48) k).e) ((rn s (ws (w0 x 16) 48) k).f)) (an (nt ((rn s (ws (w0 x 16) 48) k).e)) ((rn s (ws (w0 x 16) 48) k).g)))) (kT k)) ((ws (w0 x 16) 48) k)) (ad (gA ((rn s (ws (w0 x 16) 48) k).a)) (xo (xo (an ((rn s (ws (w0 x 16) 48) k).a) ((rn s (ws (w0 x 16) 48) k).b)) (an ((rn s (ws (w0 x 16) 48) k).a) ((rn s (ws (w0 x 16) 48) k).c))) (an ((rn s (ws (w0 x 16) 48) k).b) ((rn s (ws (w0 x 16) 48) k).c))))), .int .i64 ((k + 1 : Nat) : Int)]), rfl, ⟨H11.out.1, H11.out.2⟩, by omega⟩, by omega⟩
  have hkN : k = 64 := by omega
  subst hkN
  refine wp_seq ?_
  refine walk_seqB 1 [.quiet (.bool false)] H5 ?ho11 ?he11
  case ho11 => exact ak (by refine fun γ => ⟨rfl, fun w' h => ?_⟩; clear h; go_simp <;> omega) trivial
  intro _ w12 H12
  clear H5
  refine rest0 rfl (then_normal (wp_seq (wp_cond_false rfl ?_)))
  refine wp_exit ?_
  repeat refine then_exit ?_
  refine block_exit ?_
  refine then_normal (wp_seq ?_)
  refine walk_seqB 33 [.quiet (PT γ1_0 0), .quiet (W32 (s 0)), .quiet (W32 ((rn s (ws (w0 x 16) 48) 64).a)), .quiet (W32 (ad (s 0) ((rn s (ws (w0 x 16) 48) 64).a))), .quiet (PT γ1_0 1), .quiet (W32 (s 1)), .quiet (W32 ((rn s (ws (w0 x 16) 48) 64).b)), .quiet (W32 (ad (s 1) ((rn s (ws (w0 x 16) 48) 64).b))), .quiet (PT γ1_0 2), .quiet (W32 (s 2)), .quiet (W32 ((rn s (ws (w0 x 16) 48) 64).c)), .quiet (W32 (ad (s 2) ((rn s (ws (w0 x 16) 48) 64).c))), .quiet (PT γ1_0 3), .quiet (W32 (s 3)), .quiet (W32 ((rn s (ws (w0 x 16) 48) 64).d)), .quiet (W32 (ad (s 3) ((rn s (ws (w0 x 16) 48) 64).d))), .quiet (PT γ1_0 4), .quiet (W32 (s 4)), .quiet (W32 ((rn s (ws (w0 x 16) 48) 64).e)), .quiet (W32 (ad (s 4) ((rn s (ws (w0 x 16) 48) 64).e))), .quiet (PT γ1_0 5), .quiet (W32 (s 5)), .quiet (W32 ((rn s (ws (w0 x 16) 48) 64).f)), .quiet (W32 (ad (s 5) ((rn s (ws (w0 x 16) 48) 64).f))), .quiet (PT γ1_0 6), .quiet (W32 (s 6)), .quiet (W32 ((rn s (ws (w0 x 16) 48) 64).g)), .quiet (W32 (ad (s 6) ((rn s (ws (w0 x 16) 48) 64).g))), .quiet (PT γ1_0 7), .quiet (W32 (s 7)), .quiet (W32 ((rn s (ws (w0 x 16) 48) 64).h)), .quiet (W32 (ad (s 7) ((rn s (ws (w0 x 16) 48) 64).h))), .quiet (.agg (ints .u32 (ei (ad (s 0) ((rn s (ws (w0 x 16) 48) 64).a)) (ad (s 1) ((rn s (ws (w0 x 16) 48) 64).b)) (ad (s 2) ((rn s (ws (w0 x 16) 48) 64).c)) (ad (s 3) ((rn s (ws (w0 x 16) 48) 64).d)) (ad (s 4) ((rn s (ws (w0 x 16) 48) 64).e)) (ad (s 5) ((rn s (ws (w0 x 16) 48) 64).f)) (ad (s 6) ((rn s (ws (w0 x 16) 48) 64).g)) (ad (s 7) ((rn s (ws (w0 x 16) 48) 64).h))) 8).toArray)] H12 ?ho12 ?he12 (hL := ?hL12)
  case hL12 => exact trivial
  case ho12 => exact ak (fun γ => ⟨rfl, fun w' _ => ex_ix0_53 (j := 0) rfl rfl rfl (by decide)⟩) (ak (fun γ => ⟨rfl, fun w' h => ex_loadC h 1 rfl rfl rfl Tryd.isAgg51 (ints_get _ _ (by decide))⟩) (ak (fun _ => ⟨rfl, fun _ _ => rfl⟩) (ak (fun γ => ⟨rfl, fun w' _ => ex_add32 rfl rfl rfl⟩) (ak (fun γ => ⟨rfl, fun w' _ => ex_ix0_53 (j := 1) rfl rfl rfl (by decide)⟩) (ak (fun γ => ⟨rfl, fun w' h => ex_loadC h 1 rfl rfl rfl Tryd.isAgg51 (ints_get _ _ (by decide))⟩) (ak (fun _ => ⟨rfl, fun _ _ => rfl⟩) (ak (fun γ => ⟨rfl, fun w' _ => ex_add32 rfl rfl rfl⟩) (ak (fun γ => ⟨rfl, fun w' _ => ex_ix0_53 (j := 2) rfl rfl rfl (by decide)⟩) (ak (fun γ => ⟨rfl, fun w' h => ex_loadC h 1 rfl rfl rfl Tryd.isAgg51 (ints_get _ _ (by decide))⟩) (ak (fun _ => ⟨rfl, fun _ _ => rfl⟩) (ak (fun γ => ⟨rfl, fun w' _ => ex_add32 rfl rfl rfl⟩) (ak (fun γ => ⟨rfl, fun w' _ => ex_ix0_53 (j := 3) rfl rfl rfl (by decide)⟩) (ak (fun γ => ⟨rfl, fun w' h => ex_loadC h 1 rfl rfl rfl Tryd.isAgg51 (ints_get _ _ (by decide))⟩) (ak (fun _ => ⟨rfl, fun _ _ => rfl⟩) (ak (fun γ => ⟨rfl, fun w' _ => ex_add32 rfl rfl rfl⟩) (ak (fun γ => ⟨rfl, fun w' _ => ex_ix0_53 (j := 4) rfl rfl rfl (by decide)⟩) (ak (fun γ => ⟨rfl, fun w' h => ex_loadC h 1 rfl rfl rfl Tryd.isAgg51 (ints_get _ _ (by decide))⟩) (ak (fun _ => ⟨rfl, fun _ _ => rfl⟩) (ak (fun γ => ⟨rfl, fun w' _ => ex_add32 rfl rfl rfl⟩) (ak (fun γ => ⟨rfl, fun w' _ => ex_ix0_53 (j := 5) rfl rfl rfl (by decide)⟩) (ak (fun γ => ⟨rfl, fun w' h => ex_loadC h 1 rfl rfl rfl Tryd.isAgg51 (ints_get _ _ (by decide))⟩) (ak (fun _ => ⟨rfl, fun _ _ => rfl⟩) (ak (fun γ => ⟨rfl, fun w' _ => ex_add32 rfl rfl rfl⟩) (ak (fun γ => ⟨rfl, fun w' _ => ex_ix0_53 (j := 6) rfl rfl rfl (by decide)⟩) (ak (fun γ => ⟨rfl, fun w' h => ex_loadC h 1 rfl rfl rfl Tryd.isAgg51 (ints_get _ _ (by decide))⟩) (ak (fun _ => ⟨rfl, fun _ _ => rfl⟩) (ak (fun γ => ⟨rfl, fun w' _ => ex_add32 rfl rfl rfl⟩) (ak (fun γ => ⟨rfl, fun w' _ => ex_ix0_53 (j := 7) rfl rfl rfl (by decide)⟩) (ak (fun γ => ⟨rfl, fun w' h => ex_loadC h 1 rfl rfl rfl Tryd.isAgg51 (ints_get _ _ (by decide))⟩) (ak (fun _ => ⟨rfl, fun _ _ => rfl⟩) (ak (fun γ => ⟨rfl, fun w' _ => ex_add32 rfl rfl rfl⟩) (ak (fun γ => ⟨rfl, fun w' _ => ex_b8_53 rfl rfl rfl rfl rfl rfl rfl rfl rfl⟩) trivial))))))))))))))))))))))))))))))))
  intro _ w13 H13
  clear H12
  refine rest_at (l := [33]) rfl ?_
  refine rest_store rfl rfl rfl (ex_storeT (vs := ints .u32 (ei (ad (s 0) ((rn s (ws (w0 x 16) 48) 64).a)) (ad (s 1) ((rn s (ws (w0 x 16) 48) 64).b)) (ad (s 2) ((rn s (ws (w0 x 16) 48) 64).c)) (ad (s 3) ((rn s (ws (w0 x 16) 48) 64).d)) (ad (s 4) ((rn s (ws (w0 x 16) 48) 64).e)) (ad (s 5) ((rn s (ws (w0 x 16) 48) 64).f)) (ad (s 6) ((rn s (ws (w0 x 16) 48) 64).g)) (ad (s 7) ((rn s (ws (w0 x 16) 48) 64).h))) 8) H13.out.1 3 rfl rfl rfl rfl (by rw [ints_len]; exact Tryd.sizeOf53) (ints_all _ _ _) (by simp [ints_len])) ?_
  have H14 : Hid (Mm (w13.setCells γ1_2 0 (ints .u32 (ei (ad (s 0) ((rn s (ws (w0 x 16) 48) 64).a)) (ad (s 1) ((rn s (ws (w0 x 16) 48) 64).b)) (ad (s 2) ((rn s (ws (w0 x 16) 48) 64).c)) (ad (s 3) ((rn s (ws (w0 x 16) 48) 64).d)) (ad (s 4) ((rn s (ws (w0 x 16) 48) 64).e)) (ad (s 5) ((rn s (ws (w0 x 16) 48) 64).f)) (ad (s 6) ((rn s (ws (w0 x 16) 48) 64).g)) (ad (s 7) ((rn s (ws (w0 x 16) 48) 64).h))) 8)) [(γ2_2, ints .u32 (ws (w0 x 16) 48) 64), (γ1_0, ints .u32 s 8), (γ1_1, ints .u8 x 64), (γ1_2, ints .u32 (ei (ad (s 0) ((rn s (ws (w0 x 16) 48) 64).a)) (ad (s 1) ((rn s (ws (w0 x 16) 48) 64).b)) (ad (s 2) ((rn s (ws (w0 x 16) 48) 64).c)) (ad (s 3) ((rn s (ws (w0 x 16) 48) 64).d)) (ad (s 4) ((rn s (ws (w0 x 16) 48) 64).e)) (ad (s 5) ((rn s (ws (w0 x 16) 48) 64).f)) (ad (s 6) ((rn s (ws (w0 x 16) 48) 64).g)) (ad (s 7) ((rn s (ws (w0 x 16) 48) 64).h))) 8), (1, ints .u32 kT 64)] ∧ Below w.heap.size w (w13.setCells γ1_2 0 (ints .u32 (ei (ad (s 0) ((rn s (ws (w0 x 16) 48) 64).a)) (ad (s 1) ((rn s (ws (w0 x 16) 48) 64).b)) (ad (s 2) ((rn s (ws (w0 x 16) 48) 64).c)) (ad (s 3) ((rn s (ws (w0 x 16) 48) 64).d)) (ad (s 4) ((rn s (ws (w0 x 16) 48) 64).e)) (ad (s 5) ((rn s (ws (w0 x 16) 48) 64).f)) (ad (s 6) ((rn s (ws (w0 x 16) 48) 64).g)) (ad (s 7) ((rn s (ws (w0 x 16) 48) 64).h))) 8))) := ⟨by
    have h := H13.out.1.put 3 (off := 0) (vs := ints .u32 (ei (ad (s 0) ((rn s (ws (w0 x 16) 48) 64).a)) (ad (s 1) ((rn s (ws (w0 x 16) 48) 64).b)) (ad (s 2) ((rn s (ws (w0 x 16) 48) 64).c)) (ad (s 3) ((rn s (ws (w0 x 16) 48) 64).d)) (ad (s 4) ((rn s (ws (w0 x 16) 48) 64).e)) (ad (s 5) ((rn s (ws (w0 x 16) 48) 64).f)) (ad (s 6) ((rn s (ws (w0 x 16) 48) 64).g)) (ad (s 7) ((rn s (ws (w0 x 16) 48) 64).h))) 8) rfl (by simp [ints_len])
    rw [ints_patch0 _ _ _ _] at h
    exact h, below_setCells _ o1_2.out _ _ _ H13.out.2⟩
  clear H13
  generalize hgw : World.setCells _ _ _ _ = w14 at H14 ⊢
  clear hgw
  refine rest_nil (then_normal (wp_ret ?_))
  repeat (first | refine then_ret ?_ | refine block_ret ?_)
  have hf0 := var_T H14.out.1 3 rfl Tryd.isAgg53 Tryd.sizeOf53 (ints_len _ _ _)
  refine bodyPost_ret (v := .agg (ints .u32 (ei (ad (s 0) ((rn s (ws (w0 x 16) 48) 64).a)) (ad (s 1) ((rn s (ws (w0 x 16) 48) 64).b)) (ad (s 2) ((rn s (ws (w0 x 16) 48) 64).c)) (ad (s 3) ((rn s (ws (w0 x 16) 48) 64).d)) (ad (s 4) ((rn s (ws (w0 x 16) 48) 64).e)) (ad (s 5) ((rn s (ws (w0 x 16) 48) 64).f)) (ad (s 6) ((rn s (ws (w0 x 16) 48) 64).g)) (ad (s 7) ((rn s (ws (w0 x 16) 48) 64).h))) 8).toArray) (by simp [results, Tryd.results58, asAddr, hf0]) rfl ?_
  exact ⟨rfl, H14.out.2⟩
end Rg
end Go.Proofs.YtolflfjfegngnaaDoor
end
section
namespace Go.Proofs.YtolflfjfegngnaaDoor
open Go.RowKit
namespace Rg
set_option maxRecDepth 100000
/-- The eight bytes of a number, the highest first. -/
def e8 (x : Nat) : Nat → Nat → Nat
  | 0 => fun _ => 0
  | n + 1 => up (e8 x n) n (sr x (56 - 8 * n) % 256)
/-- The bytes of the eight numbers. -/
def bo (s : Nat → Nat) : Nat → Nat → Nat
  | 0 => fun _ => 0
  | n + 1 => up (up (up (up (bo s n) (4 * n) (sr (s n) 24 % 256)) (4 * n + 1) (sr (s n) 16 % 256)) (4 * n + 2) (sr (s n) 8 % 256)) (4 * n + 3) (s n % 256)
theorem call54 : ∀ args w, (callFunc 54 args).run Tryd.prog w = .ok (.enter 54 args) w := by intro args w; go_simp
set_option maxHeartbeats 1000000 in
set_option maxRecDepth 100000 in
theorem eight_any (x : Nat) (w : World) :
    Calls Tryd.prog 51 #[U x] w fun e w' => e = .returned (.agg (ints .u8 (e8 x 8) 8).toArray) ∧ Below w.heap.size w w' := by
  have H0 : Hid (_ ∧ _) := ⟨Mm.nil w, Below.refl w.heap.size w⟩
  go_enter Tryd.func51, Tryd.ntmps51
  refine wp_seq ?_
  refine walk_seqA 1 [.made (ints .u8 (fun _ => 0) 8) 81] (sB H0) ?ho1 ?he1
  case ho1 => exact ak (fun γ => ⟨rfl, fun w' => ex_mk81 rfl⟩) trivial
  intro γ w1 l hM hl
  have H1 : Hid (Mm w1 [(γ 0, ints .u8 (fun _ => 0) 8)] ∧ _) := growB H0 hM (Nat.le_refl _) hl [0] rfl (by decide)
  have o1_0 := ownB H0 hM (Nat.le_refl _) hl (i := 0) rfl
  clear hM hl l
  generalize γ 0 = γ1_0 at H1 o1_0 ⊢
  clear γ
  refine rest0 rfl (then_normal (wp_seq ?_))
  refine walk_seqA 1 [.made (ints .u8 (fun _ => 0) 8) 81] (sB H1) ?ho2 ?he2
  case ho2 => exact ak (fun γ => ⟨rfl, fun w' => ex_mk81 rfl⟩) trivial
  intro γ w2 l hM hl
  have H2 : Hid (Mm w2 [(γ 0, ints .u8 (fun _ => 0) 8), (γ1_0, ints .u8 (fun _ => 0) 8)] ∧ _) := growB H1 hM (Nat.le_refl _) hl [0] rfl (by decide)
  have o2_0 := ownB H1 hM (Nat.le_refl _) hl (i := 0) rfl
  clear hM hl l H1
  generalize γ 0 = γ2_0 at H2 o2_0 ⊢
  clear γ
  refine rest0 rfl (then_normal (wp_seq (wp_seq ?_)))
  refine walk_seqB 1 [.quiet (.int .i64 0)] H2 ?ho3 ?he3
  case ho3 => exact ak (fun _ => ⟨rfl, fun _ _ => rfl⟩) trivial
  intro _ w3 H3
  clear H2
  refine rest0 rfl (then_normal (wp_block ?_))
  refine loop_ghost (α := Nat) (fun k a' w' => ∃ s0 : Nat → Value, a' = ⟨#[U x, undef, PT γ1_0 0, PT γ2_0 0, s0 4, .int .i64 ((k : Nat) : Int), s0 6, s0 7, s0 8, s0 9, s0 10, s0 11, s0 12, s0 13, s0 14, s0 15, s0 16, undef], []⟩ ∧ (Mm w' [(γ2_0, ints .u8 (e8 x k) 8), (γ1_0, ints .u8 (fun _ => 0) 8)] ∧ Below w.heap.size w w') ∧ k ≤ 8) (fun k => 8 - k) 0 ?st0 ?rd0
  case st0 => exact ⟨(slotfn [undef, undef, undef, undef, undef, undef, undef, undef, undef, undef, undef, undef, undef, undef, undef, undef, undef]), rfl, ⟨H3.out.1, H3.out.2⟩, by omega⟩
  intro k a' w4 hI
  obtain ⟨s0, rfl, hMB, hk0⟩ := hI
  have H4 : Hid (_ ∧ _) := hMB
  clear hMB H3
  by_cases hltk : k < 8
  · have hrd : True := trivial
    clear hrd
    refine wp_seq ?_
    refine walk_seqB 1 [.quiet (.bool true)] H4 ?ho4 ?he4
    case ho4 => exact ak (by refine fun γ => ⟨rfl, fun w' h => ?_⟩; clear h; go_simp <;> omega) trivial
    intro _ w5 H5
    clear H4
    refine rest0 rfl (then_normal (wp_seq ?_))
    refine wp_cond_true rfl (wp_skip ?_)
    refine then_normal (wp_seq ?_)
    refine wp_block (wp_seq ?_)
    refine walk_seqB 2 [.quiet (.int .i64 ((k : Nat) : Int)), .quiet (.int .i64 ((k : Nat) : Int))] H5 ?ho5 ?he5
    case ho5 => exact ak (fun _ => ⟨rfl, fun _ _ => rfl⟩) (ak (fun _ => ⟨rfl, fun _ _ => rfl⟩) trivial)
    intro _ w6 H6
    clear H5
    refine rest0 rfl (then_normal ?_)
    refine walk_seqB 8 [.quiet (.int .i64 ((k : Nat) : Int)), .quiet (U x), .quiet (.int .i64 ((k : Nat) : Int)), .quiet (.int .i64 ((8 * k : Nat) : Int)), .quiet (.int .i64 ((56 - (8 * k) : Nat) : Int)), .quiet (U (sr x (56 - (8 * k)))), .quiet (Z8 ((sr x (56 - (8 * k))) % 256)), .quiet (PT γ2_0 k)] H6 ?ho6 ?he6
    case ho6 => exact ak (fun _ => ⟨rfl, fun _ _ => rfl⟩) (ak (fun _ => ⟨rfl, fun _ _ => rfl⟩) (ak (fun _ => ⟨rfl, fun _ _ => rfl⟩) (ak (by refine fun γ => ⟨rfl, fun w' h => ?_⟩; clear h; go_simp; rw [IntKind.wrap_i64]; omega) (ak (by refine fun γ => ⟨rfl, fun w' h => ?_⟩; clear h; go_simp; rw [IntKind.wrap_i64]; omega) (ak (fun γ => ⟨rfl, fun w' _ => ex_shr64 (k := 56 - (8 * k)) (by omega) rfl rfl rfl⟩) (ak (fun γ => ⟨rfl, fun w' _ => ex_cv56_5 rfl rfl⟩) (ak (fun γ => ⟨rfl, fun w' _ => ex_ix0_81 (j := k) rfl rfl rfl (by omega)⟩) trivial)))))))
    intro _ w7 H7
    clear H6
    refine rest_at (l := [8]) rfl ?_
    refine rest_store rfl rfl rfl (ex_storeI H7.out.1 0 rfl rfl Tryd.sizeOf5 rfl rfl (by rw [ints_len]; omega)) ?_
    have H8 : Hid (Mm (w7.setCells γ2_0 k ([Z8 ((sr x (56 - (8 * k))) % 256)])) [(γ2_0, ints .u8 (up (e8 x k) k ((sr x (56 - (8 * k))) % 256)) 8), (γ1_0, ints .u8 (fun _ => 0) 8)] ∧ Below w.heap.size w (w7.setCells γ2_0 k ([Z8 ((sr x (56 - (8 * k))) % 256)]))) := ⟨by
      have h := H7.out.1.put 0 (off := k) (vs := [Z8 ((sr x (56 - (8 * k))) % 256)]) rfl (by rw [ints_len]; simp only [List.length_cons, List.length_nil]; omega)
      rw [ints_patch _ _ _ _ (by omega)] at h
      exact h, below_setCells _ o2_0.out _ _ _ H7.out.2⟩
    clear H7
    generalize hgw : World.setCells _ _ _ _ = w8 at H8 ⊢
    clear hgw
    refine rest_nil (block_normal (then_normal ?_))
    refine walk_seqB 1 [.quiet (.int .i64 ((k + 1 : Nat) : Int))] H8 ?ho7 ?he7
    case ho7 => exact ak (by refine fun γ => ⟨rfl, fun w' h => ?_⟩; clear h; go_simp; rw [IntKind.wrap_i64]; omega) trivial
    intro _ w9 H9
    clear H8
    refine rest_at (l := [1]) rfl ?_
    refine rest_set (d := 5) rfl rfl rfl rfl ?_
    simp only [Act.put, sa, sz, ss]
    refine rest_nil (then_normal ?_)
    exact ⟨k + 1, ⟨(slotfn [undef, undef, undef, undef, .int .i64 ((k : Nat) : Int), undef, .bool true, .int .i64 ((k : Nat) : Int), .int .i64 ((k : Nat) : Int), U x, .int .i64 ((k : Nat) : Int), .int .i64 ((8 * k : Nat) : Int), .int .i64 ((56 - (8 * k) : Nat) : Int), U (sr x (56 - (8 * k))), Z8 ((sr x (56 - (8 * k))) % 256), PT γ2_0 k, .int .i64 ((k + 1 : Nat) : Int)]), rfl, ⟨H9.out.1, H9.out.2⟩, by omega⟩, by omega⟩
  have hkN : k = 8 := by omega
  subst hkN
  refine wp_seq ?_
  refine walk_seqB 1 [.quiet (.bool false)] H4 ?ho8 ?he8
  case ho8 => exact ak (by refine fun γ => ⟨rfl, fun w' h => ?_⟩; clear h; go_simp <;> omega) trivial
  intro _ w10 H10
  clear H4
  refine rest0 rfl (then_normal (wp_seq (wp_cond_false rfl ?_)))
  refine wp_exit ?_
  repeat refine then_exit ?_
  refine block_exit ?_
  refine then_normal (wp_seq ?_)
  refine walk_seqB 1 [.quiet (.agg (ints .u8 (e8 x 8) 8).toArray)] H10 ?ho9 ?he9
  case ho9 => exact ak (fun γ => ⟨rfl, fun w' h => ex_loadT h 0 rfl rfl rfl Tryd.isAgg81 Tryd.sizeOf81 (ints_whole _ _ _) (ints_len _ _ _)⟩) trivial
  intro _ w11 H11
  clear H10
  refine rest_at (l := [1]) rfl ?_
  refine rest_store rfl rfl rfl (ex_storeT (vs := ints .u8 (e8 x 8) 8) H11.out.1 1 rfl rfl rfl rfl (by rw [ints_len]; exact Tryd.sizeOf81) (ints_all _ _ _) (by simp [ints_len])) ?_
  have H12 : Hid (Mm (w11.setCells γ1_0 0 (ints .u8 (e8 x 8) 8)) [(γ2_0, ints .u8 (e8 x 8) 8), (γ1_0, ints .u8 (e8 x 8) 8)] ∧ Below w.heap.size w (w11.setCells γ1_0 0 (ints .u8 (e8 x 8) 8))) := ⟨by
    have h := H11.out.1.put 1 (off := 0) (vs := ints .u8 (e8 x 8) 8) rfl (by simp [ints_len])
    rw [ints_patch0 _ _ _ _] at h
    exact h, below_setCells _ o1_0.out _ _ _ H11.out.2⟩
  clear H11
  generalize hgw : World.setCells _ _ _ _ = w12 at H12 ⊢
  clear hgw
  refine rest_nil (then_normal (wp_ret ?_))
  repeat (first | refine then_ret ?_ | refine block_ret ?_)
  have hf0 := var_T H12.out.1 1 rfl Tryd.isAgg81 Tryd.sizeOf81 (ints_len _ _ _)
  refine bodyPost_ret (v := .agg (ints .u8 (e8 x 8) 8).toArray) (by simp [results, Tryd.results51, asAddr, hf0]) rfl ?_
  exact ⟨rfl, H12.out.2⟩
set_option maxHeartbeats 1000000 in
set_option maxRecDepth 100000 in
theorem bytesOf_any (s : Nat → Nat) (w : World) :
    Calls Tryd.prog 59 #[.agg (ints .u32 s 8).toArray] w fun e w' => e = .returned (.agg (ints .u8 (bo s 8) 32).toArray) ∧ Below w.heap.size w w' := by
  have H0 : Hid (_ ∧ _) := ⟨Mm.nil w, Below.refl w.heap.size w⟩
  go_enter Tryd.func59, Tryd.ntmps59
  refine wp_seq ?_
  refine walk_seqA 2 [.made (ints .u32 s 8) 53, .made (ints .u8 (fun _ => 0) 32) 25] (sB H0) ?ho1 ?he1
  case ho1 => exact ak (fun γ => ⟨rfl, fun w' => ex_boxT rfl rfl⟩) (ak (fun γ => ⟨rfl, fun w' => ex_mk25 rfl⟩) trivial)
  intro γ w1 l hM hl
  have H1 : Hid (Mm w1 [(γ 0, ints .u32 s 8), (γ 1, ints .u8 (fun _ => 0) 32)] ∧ _) := growB H0 hM (Nat.le_refl _) hl [0, 1] rfl (by decide)
  have o1_0 := ownB H0 hM (Nat.le_refl _) hl (i := 0) rfl
  have o1_1 := ownB H0 hM (Nat.le_refl _) hl (i := 1) rfl
  clear hM hl l
  generalize γ 0 = γ1_0 at H1 o1_0 ⊢
  generalize γ 1 = γ1_1 at H1 o1_1 ⊢
  clear γ
  refine rest0 rfl (then_normal (wp_seq ?_))
  refine walk_seqA 1 [.made (ints .u8 (fun _ => 0) 32) 25] (sB H1) ?ho2 ?he2
  case ho2 => exact ak (fun γ => ⟨rfl, fun w' => ex_mk25 rfl⟩) trivial
  intro γ w2 l hM hl
  have H2 : Hid (Mm w2 [(γ 0, ints .u8 (fun _ => 0) 32), (γ1_0, ints .u32 s 8), (γ1_1, ints .u8 (fun _ => 0) 32)] ∧ _) := growB H1 hM (Nat.le_refl _) hl [0] rfl (by decide)
  have o2_0 := ownB H1 hM (Nat.le_refl _) hl (i := 0) rfl
  clear hM hl l H1
  generalize γ 0 = γ2_0 at H2 o2_0 ⊢
  clear γ
  refine rest0 rfl (then_normal (wp_seq (wp_seq ?_)))
  refine walk_seqB 2 [.quiet (.agg (ints .u32 s 8).toArray), .quiet (.int .i64 0)] H2 ?ho3 ?he3
  case ho3 => exact ak (fun γ => ⟨rfl, fun w' h => ex_loadT h 1 rfl rfl rfl Tryd.isAgg53 Tryd.sizeOf53 (ints_whole _ _ _) (ints_len _ _ _)⟩) (ak (fun _ => ⟨rfl, fun _ _ => rfl⟩) trivial)
  intro _ w3 H3
  clear H2
  refine rest0 rfl (then_normal (wp_block ?_))
  refine loop_ghost (α := Nat) (fun k a' w' => ∃ s0 : Nat → Value, a' = ⟨#[.agg (ints .u32 s 8).toArray, PT γ1_0 0, PT γ1_1 0, PT γ2_0 0, s0 4, s0 5, .agg (ints .u32 s 8).toArray, .int .i64 ((k : Nat) : Int), s0 8, s0 9, s0 10, s0 11, s0 12, s0 13, s0 14, s0 15, s0 16, s0 17, s0 18, s0 19, s0 20, s0 21, s0 22, s0 23, s0 24, s0 25, s0 26, s0 27, s0 28, s0 29, s0 30, s0 31, s0 32, s0 33, s0 34, s0 35, s0 36, s0 37, undef], []⟩ ∧ (Mm w' [(γ2_0, ints .u8 (bo s k) 32), (γ1_0, ints .u32 s 8), (γ1_1, ints .u8 (fun _ => 0) 32)] ∧ Below w.heap.size w w') ∧ k ≤ 8) (fun k => 8 - k) 0 ?st0 ?rd0
  case st0 => exact ⟨(slotfn [undef, undef, undef, undef, undef, undef, undef, undef, undef, undef, undef, undef, undef, undef, undef, undef, undef, undef, undef, undef, undef, undef, undef, undef, undef, undef, undef, undef, undef, undef, undef, undef, undef, undef, undef, undef, undef, undef]), rfl, ⟨H3.out.1, H3.out.2⟩, by omega⟩
  intro k a' w4 hI
  obtain ⟨s0, rfl, hMB, hk0⟩ := hI
  have H4 : Hid (_ ∧ _) := hMB
  clear hMB H3
  by_cases hltk : k < 8
  · have hrd : True := trivial
    clear hrd
    refine wp_seq ?_
    refine walk_seqB 1 [.quiet (.bool true)] H4 ?ho4 ?he4
    case ho4 => exact ak (by refine fun γ => ⟨rfl, fun w' h => ?_⟩; clear h; go_simp <;> omega) trivial
    intro _ w5 H5
    clear H4
    refine rest0 rfl (then_normal (wp_seq ?_))
    refine wp_cond_true rfl (wp_skip ?_)
    refine then_normal (wp_seq ?_)
    refine wp_block (wp_seq ?_)
    refine walk_seqB 4 [.quiet (.int .i64 ((k : Nat) : Int)), .quiet (W32 (s k)), .quiet (.int .i64 ((k : Nat) : Int)), .quiet (W32 (s k))] H5 ?ho5 ?he5
    case ho5 => exact ak (fun _ => ⟨rfl, fun _ _ => rfl⟩) (ak (fun γ => ⟨rfl, fun w' _ => ex_at53 (j := k) rfl rfl rfl (by omega)⟩) (ak (fun _ => ⟨rfl, fun _ _ => rfl⟩) (ak (fun _ => ⟨rfl, fun _ _ => rfl⟩) trivial)))
    intro _ w6 H6
    clear H5
    refine rest0 rfl (then_normal ?_)
    refine walk_seqB 23 [.quiet (.int .i64 ((k : Nat) : Int)), .quiet (.int .i64 ((4 * k : Nat) : Int)), .quiet (.int .i64 ((k : Nat) : Int)), .quiet (.int .i64 ((4 * k : Nat) : Int)), .quiet (.int .i64 (((4 * k) + 1 : Nat) : Int)), .quiet (.int .i64 ((k : Nat) : Int)), .quiet (.int .i64 ((4 * k : Nat) : Int)), .quiet (.int .i64 (((4 * k) + 2 : Nat) : Int)), .quiet (.int .i64 ((k : Nat) : Int)), .quiet (.int .i64 ((4 * k : Nat) : Int)), .quiet (.int .i64 (((4 * k) + 3 : Nat) : Int)), .quiet (W32 (s k)), .quiet (W32 (sr (s k) 24)), .quiet (Z8 ((sr (s k) 24) % 256)), .quiet (W32 (s k)), .quiet (W32 (sr (s k) 16)), .quiet (Z8 ((sr (s k) 16) % 256)), .quiet (W32 (s k)), .quiet (W32 (sr (s k) 8)), .quiet (Z8 ((sr (s k) 8) % 256)), .quiet (W32 (s k)), .quiet (Z8 ((s k) % 256)), .quiet (PT γ2_0 (4 * k))] H6 ?ho6 ?he6
    case ho6 => exact ak (fun _ => ⟨rfl, fun _ _ => rfl⟩) (ak (by refine fun γ => ⟨rfl, fun w' h => ?_⟩; clear h; go_simp; rw [IntKind.wrap_i64]; omega) (ak (fun _ => ⟨rfl, fun _ _ => rfl⟩) (ak (by refine fun γ => ⟨rfl, fun w' h => ?_⟩; clear h; go_simp; rw [IntKind.wrap_i64]; omega) (ak (by refine fun γ => ⟨rfl, fun w' h => ?_⟩; clear h; go_simp; rw [IntKind.wrap_i64]; omega) (ak (fun _ => ⟨rfl, fun _ _ => rfl⟩) (ak (by refine fun γ => ⟨rfl, fun w' h => ?_⟩; clear h; go_simp; rw [IntKind.wrap_i64]; omega) (ak (by refine fun γ => ⟨rfl, fun w' h => ?_⟩; clear h; go_simp; rw [IntKind.wrap_i64]; omega) (ak (fun _ => ⟨rfl, fun _ _ => rfl⟩) (ak (by refine fun γ => ⟨rfl, fun w' h => ?_⟩; clear h; go_simp; rw [IntKind.wrap_i64]; omega) (ak (by refine fun γ => ⟨rfl, fun w' h => ?_⟩; clear h; go_simp; rw [IntKind.wrap_i64]; omega) (ak (fun _ => ⟨rfl, fun _ _ => rfl⟩) (ak (fun γ => ⟨rfl, fun w' _ => ex_shr32 (k := 24) (by decide) rfl rfl rfl⟩) (ak (fun γ => ⟨rfl, fun w' _ => ex_cv51_5 rfl rfl⟩) (ak (fun _ => ⟨rfl, fun _ _ => rfl⟩) (ak (fun γ => ⟨rfl, fun w' _ => ex_shr32 (k := 16) (by decide) rfl rfl rfl⟩) (ak (fun γ => ⟨rfl, fun w' _ => ex_cv51_5 rfl rfl⟩) (ak (fun _ => ⟨rfl, fun _ _ => rfl⟩) (ak (fun γ => ⟨rfl, fun w' _ => ex_shr32 (k := 8) (by decide) rfl rfl rfl⟩) (ak (fun γ => ⟨rfl, fun w' _ => ex_cv51_5 rfl rfl⟩) (ak (fun _ => ⟨rfl, fun _ _ => rfl⟩) (ak (fun γ => ⟨rfl, fun w' _ => ex_cv51_5 rfl rfl⟩) (ak (fun γ => ⟨rfl, fun w' _ => ex_ix0_25 (j := 4 * k) rfl rfl rfl (by omega)⟩) trivial))))))))))))))))))))))
    intro _ w7 H7
    clear H6
    refine rest_at (l := [23, 24, 25, 26, 27, 28, 29]) rfl ?_
    refine rest_store rfl rfl rfl (ex_storeI H7.out.1 0 rfl rfl Tryd.sizeOf5 rfl rfl (by rw [ints_len]; omega)) ?_
    have H8 : Hid (Mm (w7.setCells γ2_0 (4 * k) ([Z8 ((sr (s k) 24) % 256)])) [(γ2_0, ints .u8 (up (bo s k) (4 * k) ((sr (s k) 24) % 256)) 32), (γ1_0, ints .u32 s 8), (γ1_1, ints .u8 (fun _ => 0) 32)] ∧ Below w.heap.size w (w7.setCells γ2_0 (4 * k) ([Z8 ((sr (s k) 24) % 256)]))) := ⟨by
      have h := H7.out.1.put 0 (off := 4 * k) (vs := [Z8 ((sr (s k) 24) % 256)]) rfl (by rw [ints_len]; simp only [List.length_cons, List.length_nil]; omega)
      rw [ints_patch _ _ _ _ (by omega)] at h
      exact h, below_setCells _ o2_0.out _ _ _ H7.out.2⟩
    clear H7
    generalize hgw : World.setCells _ _ _ _ = w8 at H8 ⊢
    clear hgw
    refine rest_set (d := 34) (v := PT γ2_0 ((4 * k) + 1)) (w' := w8) rfl rfl rfl (ex_ix0_25 (j := (4 * k) + 1) rfl rfl rfl (by omega)) ?_
    simp only [Act.put, sa, sz, ss]
    refine rest_store rfl rfl rfl (ex_storeI H8.out.1 0 rfl rfl Tryd.sizeOf5 rfl rfl (by rw [ints_len]; omega)) ?_
    have H9 : Hid (Mm (w8.setCells γ2_0 ((4 * k) + 1) ([Z8 ((sr (s k) 16) % 256)])) [(γ2_0, ints .u8 (up (up (bo s k) (4 * k) ((sr (s k) 24) % 256)) ((4 * k) + 1) ((sr (s k) 16) % 256)) 32), (γ1_0, ints .u32 s 8), (γ1_1, ints .u8 (fun _ => 0) 32)] ∧ Below w.heap.size w (w8.setCells γ2_0 ((4 * k) + 1) ([Z8 ((sr (s k) 16) % 256)]))) := ⟨by
      have h := H8.out.1.put 0 (off := (4 * k) + 1) (vs := [Z8 ((sr (s k) 16) % 256)]) rfl (by rw [ints_len]; simp only [List.length_cons, List.length_nil]; omega)
      rw [ints_patch _ _ _ _ (by omega)] at h
      exact h, below_setCells _ o2_0.out _ _ _ H8.out.2⟩
    clear H8
    generalize hgw : World.setCells _ _ _ _ = w9 at H9 ⊢
    clear hgw
    refine rest_set (d := 35) (v := PT γ2_0 ((4 * k) + 2)) (w' := w9) rfl rfl rfl (ex_ix0_25 (j := (4 * k) + 2) rfl rfl rfl (by omega)) ?_
    simp only [Act.put, sa, sz, ss]
    refine rest_store rfl rfl rfl (ex_storeI H9.out.1 0 rfl rfl Tryd.sizeOf5 rfl rfl (by rw [ints_len]; omega)) ?_
    have H10 : Hid (Mm (w9.setCells γ2_0 ((4 * k) + 2) ([Z8 ((sr (s k) 8) % 256)])) [(γ2_0, ints .u8 (up (up (up (bo s k) (4 * k) ((sr (s k) 24) % 256)) ((4 * k) + 1) ((sr (s k) 16) % 256)) ((4 * k) + 2) ((sr (s k) 8) % 256)) 32), (γ1_0, ints .u32 s 8), (γ1_1, ints .u8 (fun _ => 0) 32)] ∧ Below w.heap.size w (w9.setCells γ2_0 ((4 * k) + 2) ([Z8 ((sr (s k) 8) % 256)]))) := ⟨by
      have h := H9.out.1.put 0 (off := (4 * k) + 2) (vs := [Z8 ((sr (s k) 8) % 256)]) rfl (by rw [ints_len]; simp only [List.length_cons, List.length_nil]; omega)
      rw [ints_patch _ _ _ _ (by omega)] at h
      exact h, below_setCells _ o2_0.out _ _ _ H9.out.2⟩
    clear H9
    generalize hgw : World.setCells _ _ _ _ = w10 at H10 ⊢
    clear hgw
    refine rest_set (d := 36) (v := PT γ2_0 ((4 * k) + 3)) (w' := w10) rfl rfl rfl (ex_ix0_25 (j := (4 * k) + 3) rfl rfl rfl (by omega)) ?_
    simp only [Act.put, sa, sz, ss]
    refine rest_store rfl rfl rfl (ex_storeI H10.out.1 0 rfl rfl Tryd.sizeOf5 rfl rfl (by rw [ints_len]; omega)) ?_
    have H11 : Hid (Mm (w10.setCells γ2_0 ((4 * k) + 3) ([Z8 ((s k) % 256)])) [(γ2_0, ints .u8 (up (up (up (up (bo s k) (4 * k) ((sr (s k) 24) % 256)) ((4 * k) + 1) ((sr (s k) 16) % 256)) ((4 * k) + 2) ((sr (s k) 8) % 256)) ((4 * k) + 3) ((s k) % 256)) 32), (γ1_0, ints .u32 s 8), (γ1_1, ints .u8 (fun _ => 0) 32)] ∧ Below w.heap.size w (w10.setCells γ2_0 ((4 * k) + 3) ([Z8 ((s k) % 256)]))) := ⟨by
      have h := H10.out.1.put 0 (off := (4 * k) + 3) (vs := [Z8 ((s k) % 256)]) rfl (by rw [ints_len]; simp only [List.length_cons, List.length_nil]; omega)
      rw [ints_patch _ _ _ _ (by omega)] at h
      exact h, below_setCells _ o2_0.out _ _ _ H10.out.2⟩
    clear H10
    generalize hgw : World.setCells _ _ _ _ = w11 at H11 ⊢
    clear hgw
    refine rest_nil (block_normal (then_normal ?_))
    refine walk_seqB 1 [.quiet (.int .i64 ((k + 1 : Nat) : Int))] H11 ?ho7 ?he7
    case ho7 => exact ak (by refine fun γ => ⟨rfl, fun w' h => ?_⟩; clear h; go_simp; rw [IntKind.wrap_i64]; omega) trivial
    intro _ w12 H12
    clear H11
    refine rest_at (l := [1]) rfl ?_
    refine rest_set (d := 7) rfl rfl rfl rfl ?_
    simp only [Act.put, sa, sz, ss]
    refine rest_nil (then_normal ?_)
    exact ⟨k + 1, ⟨(slotfn [undef, undef, undef, undef, .int .i64 ((k : Nat) : Int), W32 (s k), undef, undef, .bool true, .int .i64 ((k : Nat) : Int), W32 (s k), .int .i64 ((k : Nat) : Int), .int .i64 ((4 * k : Nat) : Int), .int .i64 ((k : Nat) : Int), .int .i64 ((4 * k : Nat) : Int), .int .i64 (((4 * k) + 1 : Nat) : Int), .int .i64 ((k : Nat) : Int), .int .i64 ((4 * k : Nat) : Int), .int .i64 (((4 * k) + 2 : Nat) : Int), .int .i64 ((k : Nat) : Int), .int .i64 ((4 * k : Nat) : Int), .int .i64 (((4 * k) + 3 : Nat) : Int), W32 (s k), W32 (sr (s k) 24), Z8 ((sr (s k) 24) % 256), W32 (s k), W32 (sr (s k) 16), Z8 ((sr (s k) 16) % 256), W32 (s k), W32 (sr (s k) 8), Z8 ((sr (s k) 8) % 256), W32 (s k), Z8 ((s k) % 256), PT γ2_0 (4 * k), PT γ2_0 ((4 * k) + 1), PT γ2_0 ((4 * k) + 2), PT γ2_0 ((4 * k) + 3), .int .i64 ((k + 1 : Nat) : Int)]), rfl, ⟨H12.out.1, H12.out.2⟩, by omega⟩, by omega⟩
  have hkN : k = 8 := by omega
  subst hkN
  refine wp_seq ?_
  refine walk_seqB 1 [.quiet (.bool false)] H4 ?ho8 ?he8
  case ho8 => exact ak (by refine fun γ => ⟨rfl, fun w' h => ?_⟩; clear h; go_simp <;> omega) trivial
  intro _ w13 H13
  clear H4
  refine rest0 rfl (then_normal (wp_seq (wp_cond_false rfl ?_)))
  refine wp_exit ?_
  repeat refine then_exit ?_
  refine block_exit ?_
  refine then_normal (wp_seq ?_)
  refine walk_seqB 1 [.quiet (.agg (ints .u8 (bo s 8) 32).toArray)] H13 ?ho9 ?he9
  case ho9 => exact ak (fun γ => ⟨rfl, fun w' h => ex_loadT h 0 rfl rfl rfl Tryd.isAgg25 Tryd.sizeOf25 (ints_whole _ _ _) (ints_len _ _ _)⟩) trivial
  intro _ w14 H14
  clear H13
  refine rest_at (l := [1]) rfl ?_
  refine rest_store rfl rfl rfl (ex_storeT (vs := ints .u8 (bo s 8) 32) H14.out.1 2 rfl rfl rfl rfl (by rw [ints_len]; exact Tryd.sizeOf25) (ints_all _ _ _) (by simp [ints_len])) ?_
  have H15 : Hid (Mm (w14.setCells γ1_1 0 (ints .u8 (bo s 8) 32)) [(γ2_0, ints .u8 (bo s 8) 32), (γ1_0, ints .u32 s 8), (γ1_1, ints .u8 (bo s 8) 32)] ∧ Below w.heap.size w (w14.setCells γ1_1 0 (ints .u8 (bo s 8) 32))) := ⟨by
    have h := H14.out.1.put 2 (off := 0) (vs := ints .u8 (bo s 8) 32) rfl (by simp [ints_len])
    rw [ints_patch0 _ _ _ _] at h
    exact h, below_setCells _ o1_1.out _ _ _ H14.out.2⟩
  clear H14
  generalize hgw : World.setCells _ _ _ _ = w15 at H15 ⊢
  clear hgw
  refine rest_nil (then_normal (wp_ret ?_))
  repeat (first | refine then_ret ?_ | refine block_ret ?_)
  have hf0 := var_T H15.out.1 2 rfl Tryd.isAgg25 Tryd.sizeOf25 (ints_len _ _ _)
  refine bodyPost_ret (v := .agg (ints .u8 (bo s 8) 32).toArray) (by simp [results, Tryd.results59, asAddr, hf0]) rfl ?_
  exact ⟨rfl, H15.out.2⟩
set_option maxRecDepth 100000 in
theorem known_any (g : Nat) (m : Bool) (s r : Nat → Nat) (c : Nat) (w : World) (hm : Mm w [(g, hs m s r c)]) :
    Calls Tryd.prog 54 #[PT g 0] w fun e w' => e = .returned (.bool m) ∧ Below w.heap.size w w' := by
  have H0 : Hid (_ ∧ _) := ⟨hm, Below.refl w.heap.size w⟩
  clear hm
  go_enter Tryd.func54, Tryd.ntmps54
  refine wp_seq ?_
  refine walk_seqB 1 [.quiet (.bool false)] H0 ?ho1 ?he1
  case ho1 => exact ak (fun _ => ⟨rfl, fun _ _ => rfl⟩) trivial
  intro _ w1 H1
  refine rest0 rfl (then_normal (wp_seq ?_))
  refine walk_seqB 9 [.quiet (PT g 0), .quiet (.bool true), .quiet (.bool true), .quiet (PT g 0), .quiet (PT g 0), .quiet (PT g 0), .quiet (.bool m), .quiet (.bool m), .quiet (.bool m)] H1 ?ho2 ?he2
  case ho2 => exact ak (fun _ => ⟨rfl, fun _ _ => rfl⟩) (ak (by refine fun γ => ⟨rfl, fun w' h => ?_⟩; clear h; go_simp) (ak (fun _ => ⟨rfl, fun _ _ => rfl⟩) (ak (fun _ => ⟨rfl, fun _ _ => rfl⟩) (ak (by refine fun γ => ⟨rfl, fun w' h => ?_⟩; clear h; go_simp) (ak (by refine fun γ => ⟨rfl, fun w' h => ?_⟩; clear h; go_simp) (ak (fun γ => ⟨rfl, fun w' h => ex_loadC h 0 rfl rfl rfl Tryd.isAgg4 (hs_made _ _ _ _)⟩) (ak (by refine fun γ => ⟨rfl, fun w' h => ?_⟩; clear h; go_simp) (ak (fun _ => ⟨rfl, fun _ _ => rfl⟩) trivial))))))))
  intro _ w2 H2
  clear H1
  refine rest0 rfl (then_normal (wp_ret ?_))
  repeat (first | refine then_ret ?_ | refine block_ret ?_)
  refine bodyPost_ret (v := .bool m) (by simp [results, Tryd.results54, go_sem, *]) rfl ?_
  exact ⟨rfl, H2.out.2⟩
set_option maxRecDepth 100000 in
theorem filled_any (g : Nat) (m : Bool) (s r : Nat → Nat) (c : Nat) (w : World) (hm : Mm w [(g, hs m s r c)]) :
    Calls Tryd.prog 57 #[PT g 0] w fun e w' => e = .returned (.int .i64 ((c % 64 : Nat) : Int)) ∧ Below w.heap.size w w' := by
  have H0 : Hid (_ ∧ _) := ⟨hm, Below.refl w.heap.size w⟩
  clear hm
  go_enter Tryd.func57, Tryd.ntmps57
  refine wp_seq ?_
  refine walk_seqB 1 [.quiet (.int .i64 0)] H0 ?ho1 ?he1
  case ho1 => exact ak (fun _ => ⟨rfl, fun _ _ => rfl⟩) trivial
  intro _ w1 H1
  refine rest0 rfl (then_normal (wp_seq ?_))
  refine walk_seqB 7 [.quiet (PT g 0), .quiet (PT g 0), .quiet (PT g 73), .quiet (U c), .quiet (U (c % 64)), .quiet (.int .i64 ((c % 64 : Nat) : Int)), .quiet (.int .i64 ((c % 64 : Nat) : Int))] H1 ?ho2 ?he2
  case ho2 => exact ak (fun _ => ⟨rfl, fun _ _ => rfl⟩) (ak (by refine fun γ => ⟨rfl, fun w' h => ?_⟩; clear h; go_simp) (ak (by refine fun γ => ⟨rfl, fun w' h => ?_⟩; clear h; go_simp) (ak (fun γ => ⟨rfl, fun w' h => ex_loadC h 0 rfl rfl rfl Tryd.isAgg56 (hs_count _ _ _ _)⟩) (ak (fun γ => ⟨rfl, fun w' _ => ex_rem64 (by decide) rfl rfl rfl⟩) (ak (fun γ => ⟨rfl, fun w' _ => ex_cv56_3 (by omega) rfl rfl⟩) (ak (fun _ => ⟨rfl, fun _ _ => rfl⟩) trivial))))))
  intro _ w2 H2
  clear H1
  refine rest0 rfl (then_normal (wp_ret ?_))
  repeat (first | refine then_ret ?_ | refine block_ret ?_)
  refine bodyPost_ret (v := .int .i64 ((c % 64 : Nat) : Int)) (by simp [results, Tryd.results57, go_sem, *]) rfl ?_
  exact ⟨rfl, H2.out.2⟩
end Rg
end Go.Proofs.YtolflfjfegngnaaDoor
end
section
namespace Go.Proofs.YtolflfjfegngnaaDoor
open Go.RowKit
namespace Rg
theorem rounds_in {P : Program} {c : Code} {Q : Exit → Act → World → Prop} {n : Nat} {a : Act} {w : World} (h : c.wp P (Exit.then (Code.rounds P c Q n) Q) a w) : Code.rounds P c Q (n + 1) a w := h
theorem call26 : ∀ args w, (callFunc 26 args).run Tryd.prog w = .ok (.enter 26 args) w := by intro args w; go_simp
theorem call29 : ∀ args w, (callFunc 29 args).run Tryd.prog w = .ok (.enter 29 args) w := by intro args w; go_simp
section
variable {ρ : Operand → Value} {o : Oper} {x y : Operand} {g : Nat} {f f' : Nat → Nat} {t : Bool} {w : World}
end
end Rg
end Go.Proofs.YtolflfjfegngnaaDoor
end
section
namespace Go.Proofs.YtolflfjfegngnaaDoor
open Go.RowKit
def upd (f : Nat → Int) (k : Nat) (v : Int) (j : Nat) : Int := if j = k then v else f j
namespace Rg
/-- Bytes that can be read: n of them, from o on, in block g. -/
structure Rd (g o n : Nat) (f : Nat → Nat) (w : World) : Prop where
  lt : g < w.heap.size
  at_ : ∀ i, i < n → w.cell? ⟨g, o + i, none⟩ = some (.int .u8 ((f i : Nat) : Int))
theorem Rd.below {g o n : Nat} {f : Nat → Nat} {w w' : World} (h : Rd g o n f w) (hb : Below w.heap.size w w') : Rd g o n f w' :=
  ⟨Nat.lt_of_lt_of_le h.lt hb.size, fun i hi => by rw [hb.cell (p := ⟨g, o + i, none⟩) h.lt]; exact h.at_ i hi⟩
theorem Rd.sub {g o n : Nat} {f : Nat → Nat} {w : World} (h : Rd g o n f w) (a m : Nat) (hm : a + m ≤ n) : Rd g (o + a) m (fun i => f (a + i)) w :=
  ⟨h.lt, fun i hi => by rw [Nat.add_assoc]; exact h.at_ (a + i) (by omega)⟩
end Rg
/-- v is a slice whose bytes are xs, with room for c. -/
structure BSl (w : World) (xs : List Int) (c : Nat) (v : Value) : Prop where
  or : (∃ g o, v = .slice (some ⟨g, o, none⟩) xs.length c ∧ g < w.heap.size ∧ xs.length ≤ c ∧ ∀ i, i < xs.length → w.cell? ⟨g, o + i, none⟩ = some (.int .u8 (xs.getD i 0))) ∨ ∃ p, v = .slice p 0 c ∧ xs = []
theorem BSl.full {w : World} {xs : List Int} {c : Nat} (g o : Nat) (hg : g < w.heap.size) (hc : xs.length ≤ c) (h : ∀ i, i < xs.length → w.cell? ⟨g, o + i, none⟩ = some (.int .u8 (xs.getD i 0))) : BSl w xs c (.slice (some ⟨g, o, none⟩) xs.length c) := ⟨.inl ⟨g, o, rfl, hg, hc, h⟩⟩
theorem BSl.void {w : World} {xs : List Int} {c : Nat} (p : Option Addr) (hx : xs = []) : BSl w xs c (.slice p 0 c) := ⟨.inr ⟨p, rfl, hx⟩⟩
theorem BSl.each {w : World} {xs : List Int} {c : Nat} {M : (v : Value) → BSl w xs c v → Prop} (full : ∀ (g o : Nat) (hg : g < w.heap.size) (hc : xs.length ≤ c) (h : ∀ i, i < xs.length → w.cell? ⟨g, o + i, none⟩ = some (.int .u8 (xs.getD i 0))), M (.slice (some ⟨g, o, none⟩) xs.length c) (BSl.full g o hg hc h)) (void : ∀ (p : Option Addr) (hx : xs = []), M (.slice p 0 c) (BSl.void p hx)) {v : Value} (h : BSl w xs c v) : M v h := by
  rcases h with ⟨⟨g, o, rfl, hg, hc, h⟩ | ⟨p, rfl, hx⟩⟩
  · exact full g o hg hc h
  · exact void p hx
theorem BSl.below {w w' : World} {xs : List Int} {c : Nat} {v : Value} (h : BSl w xs c v) (hb : Below w.heap.size w w') : BSl w' xs c v := by
  cases h using BSl.each with
  | full g o hg hc h => exact .full g o (Nat.lt_of_lt_of_le hg hb.size) hc (fun i hi => by rw [hb.cell (p := ⟨g, o + i, none⟩) hg]; exact h i hi)
  | void p hx => exact .void p hx
theorem BSl.drew {w : World} {xs : List Int} {c : Nat} {v : Value} (h : BSl w xs c v) : BSl w.drew xs c v := h.below ((Below.refl _ _).drew)
theorem BSl.alloc {w : World} {xs : List Int} {c : Nat} {v : Value} (h : BSl w xs c v) (o : Obj) : BSl (w.alloc o) xs c v := h.below ((Below.refl _ _).alloc (Nat.le_refl _) _)
theorem BSl.text {w : World} {xs : List Int} {c : Nat} {v : Value} (h : BSl w xs c v) : (convert 22 9 v).run Tryd.prog w = .ok (.string (strOfNums xs)) w := by
  cases h using BSl.each with
  | full g o hg hc h => exact run_convert_bytes_arg (P := Tryd.prog) w 22 5 (by kernel_rfl) (by kernel_rfl) g o xs.length c xs rfl h 9 (by kernel_rfl)
  | void p hx =>
    subst hx
    cases p with
    | none => exact run_convert_bytes_nil (P := Tryd.prog) w 22 5 (by kernel_rfl) (by kernel_rfl) 0 c 9 (by kernel_rfl)
    | some a =>
      have hl : (loadCells a 0).run Tryd.prog w = .ok (([] : List Int).map (Value.int .u8)).toArray w := by simpa using run_loadCells_list (P := Tryd.prog) w a [] (by simp)
      rw [run_convert_bytes_string w 22 9 5 _ 0 c (by kernel_rfl) (by kernel_rfl) (by kernel_rfl), run_bytesToString w _ 0 c [] hl, foldl_push_bytes]
      rfl
set_option maxHeartbeats 400000 in
theorem same_any {xs : List Int} {c c' : Nat} {v v' : Value} (w : World) (h : BSl w xs c v) (h' : BSl w xs c' v') :
    Calls Tryd.prog 36 #[v, v'] w fun e w' => e = .returned (.bool true) ∧ w' = w := by
  have h1 := h.text
  have h2 := h'.text
  clear h h'
  go_enter Tryd.func36, Tryd.ntmps36
  go_wp2
  go_ret
  exact ⟨rfl, rfl⟩
namespace Rg
theorem Rd.bsl {g o n c : Nat} {f : Nat → Nat} {w : World} (h : Rd g o n f w) (hc : n ≤ c) : BSl w ((List.range n).map fun i => ((f i : Nat) : Int)) c (.slice (some ⟨g, o, none⟩) n c) := by
  have hl : ((List.range n).map fun i => ((f i : Nat) : Int)).length = n := by simp
  have hb := BSl.full (w := w) (xs := (List.range n).map fun i => ((f i : Nat) : Int)) (c := c) g o h.lt (by rw [hl]; exact hc) (fun i hi => by
    rw [hl] at hi
    rw [h.at_ i hi]
    simp [List.getD, hi])
  rw [hl] at hb
  exact hb
end Rg
def Row8 (w : World) (g n : Nat) (f : Nat → Int) : Prop := ∀ j, j < n → w.cell? ⟨g, j, none⟩ = some (.int .u8 (f j)) ∧ w.frozen? ⟨g, j, none⟩ = false
theorem Row8.congr {w : World} {g n : Nat} {f f' : Nat → Int} (h : Row8 w g n f) (e : ∀ j, j < n → f j = f' j) : Row8 w g n f' := fun j hj => by rw [← e j hj]; exact h j hj
theorem Row8.set {w : World} {g n : Nat} {f : Nat → Int} (h : Row8 w g n f) {k : Nat} (v : Int) : Row8 (w.setCell ⟨g, k, none⟩ (.int .u8 v)) g n (upd f k v) := by
  intro j hj
  obtain ⟨h1, h2⟩ := h j hj
  refine ⟨?_, by rw [World.frozen?_setCell]; exact h2⟩
  unfold upd
  by_cases e : j = k
  · subst e; rw [if_pos rfl]; exact World.cell?_setCell_same _ _ _ h1
  · rw [if_neg e, World.cell?_setCell_other _ _ _ _ (by intro h; injection h with h1 h2; exact e h2.symm)]; exact h1
theorem Row8.made (w : World) (m t : Nat) : Row8 (w.alloc (.cells (madeCells #[.int .u8 0] m) t)) w.heap.size m (fun _ => 0) := by
  intro j hj
  refine ⟨?_, World.frozen?_alloc_at _ _ _ _ rfl⟩
  rw [World.cell?_alloc_at _ _ _ _ rfl]
  simp [madeCells, hj, Nat.mod_one]
theorem Row8.below {wr w1 : World} {g n : Nat} {f : Nat → Int} (h : Row8 wr g n f) {B : Nat} (hb : Below B wr w1) (hg : g < B) : Row8 w1 g n f :=
  fun j hj => ⟨by rw [hb.cell (p := ⟨g, j, none⟩) hg]; exact (h j hj).1, by rw [hb.frozen (p := ⟨g, j, none⟩) hg]; exact (h j hj).2⟩
theorem Row8.alloc {wr : World} {g n : Nat} {f : Nat → Int} (h : Row8 wr g n f) (hg : g < wr.heap.size) (o : Obj) : Row8 (wr.alloc o) g n f :=
  h.below ((Below.refl _ _).alloc (Nat.le_refl _) o) hg
theorem Row8.drew {wr : World} {g n : Nat} {f : Nat → Int} (h : Row8 wr g n f) : Row8 wr.drew g n f := h
/-- The bytes of a list that is lent, and the marks behind it. -/
def lent (xs : List Int) (j : Nat) : Int := if j < xs.length then xs.getD j 0 else 160 + (j : Int) % 90
def lentk (xs : List Int) (k j : Nat) : Int := if j < k then lent xs j else 0
theorem lentk_step (xs : List Int) (k j : Nat) : upd (lentk xs k) k (lent xs k) j = lentk xs (k + 1) j := by
  unfold upd lentk
  by_cases h : j = k
  · subst h; rw [if_pos rfl, if_pos (by omega)]
  · rw [if_neg h]
    by_cases h2 : j < k
    · rw [if_pos h2, if_pos (by omega)]
    · rw [if_neg h2, if_neg (by omega)]
theorem lent_bd (xs : List Int) (hx : ∀ x ∈ xs, 0 ≤ x ∧ x < 256) (j : Nat) : 0 ≤ lent xs j ∧ lent xs j < 256 := by
  unfold lent
  split
  · rename_i h
    have : xs.getD j 0 = xs[j] := by simp [h]
    rw [this]
    exact hx _ (List.getElem_mem _)
  · omega
set_option maxHeartbeats 2000000 in
set_option maxRecDepth 100000 in
/-- From behind the copy on. -/
theorem lent_any (xs : List Int) (c : Nat) (v : Value) (hn : xs.length ≤ 1048576) (w : World) (h : BSl w xs c v) :
    Calls Tryd.prog 13 #[v] w fun e w' => e = .returned (.slice (some ⟨w.heap.size, 0, none⟩) xs.length (xs.length + 3)) ∧ w.heap.size < w'.heap.size ∧ Row8 w' w.heap.size (xs.length + 3) (lent xs) ∧ Below w.heap.size w w' := by
  obtain ⟨n, hnx⟩ : ∃ n, n = xs.length := ⟨_, rfl⟩
  have hmk := run_make_row' (P := Tryd.prog) 22 5 (.int .u8 0) 1 (by kernel_rfl) (by kernel_rfl) rfl .i64 .i64 (n + 3) (by omega) (by omega)
  have e3 : ((n + 3 : Nat) : Int) = (n : Int) + 3 := by omega
  rw [e3] at hmk
  have ew : IntKind.i64.wrap ((n : Int) + 3) = (n : Int) + 3 := by rw [IntKind.wrap_i64]; omega
  have hsz : (Tryd.prog.info? 5).map (·.size) = some 1 := by kernel_rfl
  -- the world behind the copy
  have hcp : ∃ w2, (∀ ty, (Builtin.copy_ #[22, 22] ty #[.slice (some ⟨w.heap.size, 0, none⟩) (n + 3) (n + 3), v]).run Tryd.prog (w.alloc (.cells (madeCells #[.int .u8 0] (n + 3)) 5)) = .ok (goInt n) w2) ∧ Row8 w2 w.heap.size (n + 3) (lentk xs n) ∧ w.heap.size < w2.heap.size ∧ Below w.heap.size w w2 := by
    have hmade := Row8.made w (n + 3) 5
    have hbel : Below w.heap.size w (w.alloc (.cells (madeCells #[.int .u8 0] (n + 3)) 5)) := (Below.refl _ _).alloc (Nat.le_refl _) _
    cases h using BSl.each with
    | full g o hg hc hcell =>
      rw [← hnx]
      refine ⟨(w.alloc (.cells (madeCells #[.int .u8 0] (n + 3)) 5)).setCells w.heap.size 0 (xs.map fun x => .int .u8 x), fun ty => ?_, ?_, ?_, ?_⟩
      · have := run_copy_cells (P := Tryd.prog) (w.alloc (.cells (madeCells #[.int .u8 0] (n + 3)) 5)) 22 22 ty 5 w.heap.size 0 (n + 3) (n + 3) ⟨g, o, none⟩ n c (xs.map fun x => .int .u8 x) (by kernel_rfl) hsz (by simp [hnx])
          (fun j u hj => by
            have hjn : j < xs.length := by
              rcases Nat.lt_or_ge j xs.length with h | h
              · exact h
              · simp [h] at hj
            have e : (⟨g, o, none⟩ : Addr).add j = ⟨g, o + j, none⟩ := by unfold Addr.add; split <;> simp_all
            rw [e, World.cell?_alloc_past _ _ _ hg, hcell j hjn]
            simp [hjn] at hj
            rw [← hj]
            simp [hjn])
          (fun j hj => by
            rw [Nat.zero_add, (hmade j (by simp at hj; omega)).1]; rfl)
          (fun j hj => by
            rw [Nat.zero_add]; exact (hmade j (by simp at hj; omega)).2)
          (fun u hu => by
            obtain ⟨x, _, rfl⟩ := List.mem_map.1 hu
            rfl)
        simp only [List.length_map, ← hnx] at this
        exact this
      · intro j hj
        refine ⟨?_, by rw [World.frozen?_setCells]; exact (hmade j hj).2⟩
        unfold lentk lent
        by_cases hjn : j < n
        · have := World.cell?_setCells_in w.heap.size (xs.map fun x => Value.int .u8 x) 0 (w.alloc (.cells (madeCells #[.int .u8 0] (n + 3)) 5)) (fun i hi => by
            rw [Nat.zero_add, (hmade i (by simp at hi; omega)).1]; rfl) j (by simp; omega)
          rw [Nat.zero_add] at this
          rw [this, if_pos hjn, if_pos (by omega)]
          simp [show j < xs.length by omega]
        · rw [if_neg hjn, World.cell?_setCells_out _ _ _ _ _ (fun _ _ => Or.inr (by simp; omega))]
          exact (hmade j hj).1
      · rw [size_setCells]; simp
      · exact below_setCells _ (Nat.le_refl _) _ _ _ hbel
    | void p hx =>
      subst hx
      simp at hnx
      subst hnx
      refine ⟨_, fun ty => run_copy_none (P := Tryd.prog) _ 22 22 ty 5 _ _ _ _ _ _ (by kernel_rfl) hsz (by simp), hmade.congr (fun j _ => by unfold lentk; rw [if_neg (by omega)]), by simp, hbel⟩
  obtain ⟨w2, hcopy, hR2, hs2, hb2⟩ := hcp
  have HM2 : Hid (_ ∧ _ ∧ _) := ⟨hR2, hs2, hb2⟩
  obtain ⟨p, hv⟩ : ∃ p, v = .slice p n c := by
    cases h using BSl.each with
    | full g o hg hc hcell => rw [← hnx]; exact ⟨_, rfl⟩
    | void p hx => subst hx; simp at hnx; subst hnx; exact ⟨p, rfl⟩
  subst hv
  clear h hR2 hs2 hb2 hsz e3
  rw [← hnx]
  have HX : Hid (n = xs.length ∧ n ≤ 1048576) := ⟨hnx, by omega⟩
  have b1 : (0 : Int) ≤ (n : Int) + 3 := by omega
  clear hnx hn
  go_enter Tryd.func13, Tryd.ntmps13
  go_wp2
  clear hcopy hmk
  go_loopw [4] (fun i wr => ∃ k : Nat, n ≤ k ∧ k ≤ n + 3 ∧ i = .int .i64 k ∧ Row8 wr w.heap.size (n + 3) (lentk xs k) ∧ w.heap.size < wr.heap.size ∧ Below w.heap.size w wr) (fun i _ => n + 3 - (RowKit.intOf i).toNat)
  case atStart => exact ⟨n, by omega, by omega, rfl, HM2.out⟩
  case round =>
    clear HM2
    obtain ⟨k, hk0, hk, rfl, hR, hs, hw⟩ := hrel
    have hXn := HX.out
    by_cases hlt : k < n + 3
    · have hd : decide ((k : Int) < (n : Int) + 3) = true := decide_eq_true (by omega)
      obtain ⟨r1, r2⟩ := hR k hlt
      have em : IntKind.i64.wrap (160 + (k : Int) % 90) = 160 + (k : Int) % 90 := by rw [IntKind.wrap_i64]; omega
      have eb : IntKind.u8.wrap (160 + (k : Int) % 90) = 160 + (k : Int) % 90 := by simp [IntKind.wrap, IntKind.signed, IntKind.bits]; omega
      have HL : Hid (160 + (k : Int) % 90 = lent xs k) := by
        show _ = _
        unfold lent
        rw [if_neg (by omega)]
      have HM : Hid (_ ∧ _ ∧ _) := ⟨hR, hs, hw⟩
      have hkb : k < 9000000 := by omega
      clear hR hs hw hXn
      go_wp2
      go_roundw
      case rel =>
        obtain ⟨hR, hs, hw⟩ := HM.out
        refine ⟨k + 1, by omega, by omega, by go_num, ?_, by simpa using hs, hw.setCell (by simp) _⟩
        rw [HL.out]
        exact (hR.set _).congr (fun j _ => lentk_step xs k j)
      case measure => simp [RowKit.intOf] <;> omega
    · have hk3 : k = n + 3 := by omega
      subst hk3
      have hd : decide (((n + 3 : Nat) : Int) < (n : Int) + 3) = false := decide_eq_false (by omega)
      have HM : Hid (_ ∧ _ ∧ _) := ⟨hR, hs, hw⟩
      clear hR hs hw hXn
      go_wp2
      go_ret
      exact ⟨rfl, HM.out.2.1, HM.out.1.congr (fun j hj => by unfold lentk; rw [if_pos hj]), HM.out.2.2⟩
def lentl (xs : List Int) : List Int := (List.range (xs.length + 3)).map (lent xs)
theorem BSl.row {w : World} {g n : Nat} {f : Nat → Int} (hg : g < w.heap.size) (hr : ∀ j, j < n → w.cell? ⟨g, j, none⟩ = some (.int .u8 (f j))) (c : Nat) (hc : n ≤ c) : BSl w ((List.range n).map f) c (.slice (some ⟨g, 0, none⟩) n c) := by
  have h : BSl w ((List.range n).map f) c (.slice (some ⟨g, 0, none⟩) ((List.range n).map f).length c) := .full g 0 hg (by simpa using hc) (fun i hi => by
    have hi' : i < n := by simpa using hi
    rw [Nat.zero_add, hr i hi']
    simp [hi'])
  simpa using h
set_option maxHeartbeats 1000000 in
set_option maxRecDepth 100000 in
theorem kept_any (xs : List Int) (g c : Nat) (v : Value) (hn : xs.length ≤ 1048576) (w : World) (hg : g < w.heap.size) (hr : Row8 w g (xs.length + 3) (lent xs)) (h : BSl w xs c v) :
    Calls Tryd.prog 16 #[.slice (some ⟨g, 0, none⟩) xs.length (xs.length + 3), v] w fun e w' => e = .returned (.bool true) ∧ Below w.heap.size w w' := by
  have CL : Hid _ := lent_any xs c v hn w.drew h.drew
  obtain ⟨n, hnx⟩ : ∃ n, n = xs.length := ⟨_, rfl⟩
  have hS1 : BSl w (lentl xs) (n + 3) (.slice (some ⟨g, 0, none⟩) (n + 3) (n + 3)) := by rw [hnx]; exact BSl.row hg (fun j hj => (hr j hj).1) _ (Nat.le_refl _)
  have HS1 : Hid _ := hS1
  obtain ⟨p, hv⟩ : ∃ p, v = .slice p n c := by
    cases h using BSl.each with
    | full g o hg hc hcell => rw [← hnx]; exact ⟨_, rfl⟩
    | void p hx => subst hx; simp at hnx; subst hnx; exact ⟨p, rfl⟩
  subst hv
  have CL2 : Hid (Calls Tryd.prog 13 #[.slice p n c] w.drew fun e w' => e = .returned (.slice (some ⟨w.heap.size, 0, none⟩) n (n + 3)) ∧ BSl w' (lentl xs) (n + 3) (.slice (some ⟨w.heap.size, 0, none⟩) (n + 3) (n + 3)) ∧ Below w.heap.size w.drew w') := by
    refine Calls.mono CL.out ?_
    rintro e w' ⟨he, h1, h2, h3⟩
    rw [← hnx] at he
    refine ⟨he, ?_, h3⟩
    rw [hnx]
    exact BSl.row h1 (fun j hj => (h2 j hj).1) _ (Nat.le_refl _)
  have ew : IntKind.i64.wrap ((n : Int) + 3) = (n : Int) + 3 := by rw [IntKind.wrap_i64]; omega
  have b1 : (0 : Int) ≤ (n : Int) + 3 := by omega
  have b2 : ((n : Int) + 3).toNat = n + 3 := by omega
  rw [← hnx]
  clear CL hS1 h hr hnx hn
  go_enter Tryd.func16, Tryd.ntmps16
  go_wp2
  go_region_held3 (fun _ => True) (trivial)
    (first
      | (go_at_call 13; refine CL2.out.mono ?_; rintro e w1 ⟨rfl, hB1, hb1⟩)
      | (go_at_call 36; refine (same_any _ (HS1.out.drew.below hb1) hB1).mono ?_; rintro e w2 ⟨rfl, rfl⟩))
  go_wp2
  go_ret
  exact ⟨rfl, ((Below.refl _ _).drew).trans hb1⟩
end Go.Proofs.YtolflfjfegngnaaDoor
end
section
namespace Go.Proofs.YtolflfjfegngnaaDoor
open Go.RowKit
namespace Rg
set_option maxRecDepth 100000
/-- A hash on its way: the eight numbers, the bytes behind the last full block, how many bytes came. -/
structure Hq where
  s : Nat → Nat
  r : Nat → Nat
  c : Nat
def hone (q : Hq) (v : Nat) : Hq := ⟨if (q.c + 1) % 64 = 0 then mx q.s (up q.r (q.c % 64) v) else q.s, up q.r (q.c % 64) v, q.c + 1⟩
/-- A hash with n more bytes. -/
def hby (f : Nat → Nat) (q : Hq) : Nat → Hq
  | 0 => q
  | n + 1 => hone (hby f q n) (f n)
theorem hby_c (f : Nat → Nat) (q : Hq) : ∀ n, (hby f q n).c = q.c + n
  | 0 => rfl
  | n + 1 => by show (hby f q n).c + 1 = _; rw [hby_c f q n]; rfl
/-- Bytes put behind those that are there. -/
def pr8 (r : Nat → Nat) (k m : Nat) (F : Nat → Nat) : Nat → Nat := fun j => if k ≤ j ∧ j < k + m then F (j - k) else r j
theorem pr8_zero (r : Nat → Nat) (k : Nat) (F : Nat → Nat) : pr8 r k 0 F = r := by
  funext j
  unfold pr8
  rw [if_neg (by omega)]
theorem pr8_step (r : Nat → Nat) (k m : Nat) (F : Nat → Nat) : up (pr8 r k m F) (k + m) (F m) = pr8 r k (m + 1) F := by
  funext j
  unfold up pr8
  by_cases h : j = k + m
  · rw [if_pos h, if_pos (by omega), show j - k = m by omega]
  · rw [if_neg h]
    by_cases h2 : k ≤ j ∧ j < k + m
    · rw [if_pos h2, if_pos (by omega)]
    · rw [if_neg h2, if_neg (by omega)]
/-- Within a block nothing is mixed. -/
theorem hby_in (f : Nat → Nat) (q : Hq) : ∀ m, q.c % 64 + m < 64 → hby f q m = ⟨q.s, pr8 q.r (q.c % 64) m f, q.c + m⟩
  | 0, _ => by rw [pr8_zero]; rfl
  | m + 1, h => by
    show hone (hby f q m) (f m) = _
    rw [hby_in f q m (by omega)]
    unfold hone
    show Hq.mk (if (q.c + m + 1) % 64 = 0 then _ else q.s) (up (pr8 q.r (q.c % 64) m f) ((q.c + m) % 64) (f m)) (q.c + m + 1) = _
    rw [if_neg (by omega), show (q.c + m) % 64 = q.c % 64 + m by omega, pr8_step]
    rfl
theorem hby_full (f : Nat → Nat) (q : Hq) (m : Nat) (hm : 0 < m) (h : q.c % 64 + m = 64) : hby f q m = ⟨mx q.s (pr8 q.r (q.c % 64) m f), pr8 q.r (q.c % 64) m f, q.c + m⟩ := by
  obtain ⟨k, rfl⟩ : ∃ k, m = k + 1 := ⟨m - 1, by omega⟩
  show hone (hby f q k) (f k) = _
  rw [hby_in f q k (by omega)]
  unfold hone
  show Hq.mk (if (q.c + k + 1) % 64 = 0 then mx q.s (up (pr8 q.r (q.c % 64) k f) ((q.c + k) % 64) (f k)) else q.s) (up (pr8 q.r (q.c % 64) k f) ((q.c + k) % 64) (f k)) (q.c + k + 1) = _
  rw [if_pos (by omega), show (q.c + k) % 64 = q.c % 64 + k by omega, pr8_step]
  rfl
theorem hby_add (f : Nat → Nat) (q : Hq) (i : Nat) : ∀ m, hby f q (i + m) = hby (fun j => f (i + j)) (hby f q i) m
  | 0 => rfl
  | m + 1 => by
    show hone (hby f q (i + m)) (f (i + m)) = hone (hby (fun j => f (i + j)) (hby f q i) m) (f (i + m))
    rw [hby_add f q i m]
/-- A slice on its way: i of n bytes are taken. -/
def Bv (gb o n cp i : Nat) (v : Value) : Prop := (i < n → v = .slice (some ⟨gb, o + i, none⟩) (n - i) (cp - i)) ∧ (i = n → ∃ p c, v = .slice p 0 c)
/-- Bytes that can be read while block g changes. -/
structure Src (g gb o n : Nat) (f : Nat → Nat) (w : World) : Prop where
  lt : 0 < n → gb < w.heap.size
  ne : 0 < n → gb ≠ g
  at_ : ∀ i, i < n → w.cell? ⟨gb, o + i, none⟩ = some (Z8 (f i))
theorem Src.kp {g gb o n : Nat} {f : Nat → Nat} {w w' : World} (h : Src g gb o n f w) (k : Kp g w w') (i : Nat) (hi : i < n) : w'.cell? ⟨gb, o + i, none⟩ = some (Z8 (f i)) := by
  have e := k.block gb (h.lt (by omega)) (h.ne (by omega))
  rw [World.cell?_of_block (w := w) (a := ⟨gb, o + i, none⟩) e]
  exact h.at_ i hi
/-- What is left of a slice without its first l places. -/
def sl22 (g off m c l : Nat) : Value := if c - l = 0 then .slice (some ⟨g, off, none⟩) (m - l) (c - l) else .slice (some ⟨g, off + l, none⟩) (m - l) (c - l)
theorem sl22_bv {gb o n cp i m : Nat} (hc : n ≤ cp) : Bv gb o n cp (i + m) (sl22 gb (o + i) (n - i) (cp - i) m) := by
  refine ⟨fun h => ?_, fun h => ?_⟩
  · unfold sl22
    rw [if_neg (by omega), show o + i + m = o + (i + m) by omega, show n - i - m = n - (i + m) by omega, show cp - i - m = cp - (i + m) by omega]
  · unfold sl22
    have e : n - i - m = 0 := by omega
    rw [e]
    split
    · exact ⟨_, _, rfl⟩
    · exact ⟨_, _, rfl⟩
theorem c64_two {a b : Nat} (h : a + b < 4611686018427387904) : c64 (a + c64 b) = a + b := by
  unfold c64
  omega
section
variable {ρ : Operand → Value} {o : Oper} {x y : Operand} {g off k l n c : Nat} {w : World}
theorem ex_slA (ho : o.op = .slice 55 x (some y) none none) (hx : ρ x = PT g 9) (hy : ρ y = .int .i64 ((k : Nat) : Int)) (hk : k < 64) : (execOp ρ o).run Tryd.prog w = .ok (.value (.slice (some ⟨g, 9 + k, none⟩) (64 - k) (64 - k))) w := by
  have h1 : (k : Int) ≤ 64 := by omega
  simp only [execOp, ho, hx, hy, Option.map_some, Option.map_none]
  clear ho hx hy
  go_simp
  intro h
  omega
theorem ex_sl22 (ho : o.op = .slice 22 x (some y) none none) (hx : ρ x = .slice (some ⟨g, off, none⟩) n c) (hy : ρ y = .int .i64 ((l : Nat) : Int)) (hl : l ≤ n) (hc : n ≤ c) : (execOp ρ o).run Tryd.prog w = .ok (.value (sl22 g off n c l)) w := by
  simp only [execOp, ho, hx, hy, Option.map_some, Option.map_none]
  clear ho hx hy
  unfold sl22
  go_simp
  by_cases e : c = l
  · rw [if_pos e, if_pos (by omega)]
  · rw [if_neg e, if_neg (by omega)]
theorem ex_copy {gb so sn sc dn dc kk mm : Nat} {F : Nat → Nat} {m : Bool} {s r : Nat → Nat} {l : List (Nat × List Value)} (h : Mm w l) (q : Nat) (hk : l[q]? = some (g, hs m s r c)) (hf : ∀ j, j < mm → w.cell? ⟨gb, so + j, none⟩ = some (Z8 (F j))) (hm : mm = Nat.min sn dn) (hd : kk + mm ≤ 64)
    (ho : o.op = .call { callee := .builtin .copy, args := #[x, y], argTypes := #[22, 22] }) (hx : ρ x = .slice (some ⟨g, 9 + kk, none⟩) dn dc) (hy : ρ y = .slice (some ⟨gb, so, none⟩) sn sc) : (execOp ρ o).run Tryd.prog w = .ok (.value (.int .i64 ((mm : Nat) : Int))) (w.setCells g (9 + kk) (ints .u8 F mm)) := by
  have hmem := List.mem_of_getElem? hk
  have hcell : ∀ j, j < mm → ∃ u, (hs m s r c)[9 + kk + j]? = some u := fun j hj => ⟨_, List.getElem?_eq_getElem (by rw [hs_len]; omega)⟩
  have hr : (Builtin.copy_ #[22, 22] o.type #[.slice (some ⟨g, 9 + kk, none⟩) dn dc, .slice (some ⟨gb, so, none⟩) sn sc]).run Tryd.prog w = .ok (goInt (ints .u8 F mm).length) (w.setCells g (9 + kk) (ints .u8 F mm)) :=
    run_copy_cells (P := Tryd.prog) w 22 22 o.type 5 g (9 + kk) dn dc ⟨gb, so, none⟩ sn sc (ints .u8 F mm) (by kernel_rfl) (by kernel_rfl) (by rw [ints_len, hm])
      (fun j v hv => by
        have hj : j < mm := by
          have := (List.getElem?_eq_some_iff.1 hv).1
          rwa [ints_len] at this
        rw [ints_get _ _ hj] at hv
        rw [show (⟨gb, so, none⟩ : Addr).add j = ⟨gb, so + j, none⟩ from by unfold Addr.add; split <;> simp_all, hf j hj]
        exact hv)
      (fun j hj => by
        rw [ints_len] at hj
        obtain ⟨u, hu⟩ := hcell j hj
        rw [h.cell hmem hu]; rfl)
      (fun j hj => by
        rw [ints_len] at hj
        obtain ⟨u, hu⟩ := hcell j hj
        exact h.free hmem hu)
      (List.all_eq_true.1 (ints_all _ _ _))
  rw [ints_len] at hr
  clear h hk hf hm hcell hmem
  unfold execOp
  simp only [ho, resolve, invoke, builtin, Sem.run_bind, Sem.run_pure, Result.andThen_ok, List.map_toArray, List.map_cons, List.map_nil, hx, hy, hr]
  rfl
end
theorem call57 : ∀ args w, (callFunc 57 args).run Tryd.prog w = .ok (.enter 57 args) w := by intro args w; go_simp
theorem call58 : ∀ args w, (callFunc 58 args).run Tryd.prog w = .ok (.enter 58 args) w := by intro args w; go_simp
set_option maxHeartbeats 4000000 in
set_option maxRecDepth 100000 in
theorem add_any (g gb o n cp : Nat) (m : Bool) (q : Hq) (f : Nat → Nat) (v : Value) (hv : Bv gb o n cp 0 v) (hcp : n ≤ cp) (hb : q.c + n < 4611686018427387904) (w : World) (hm : Mm w [(g, hs m q.s q.r q.c), (1, ints .u32 kT 64)]) (hS : Src g gb o n f w) :
    Calls Tryd.prog 45 #[PT g 0, v] w fun e w' => e = .returned (.tuple #[]) ∧ Mm w' [(g, hs m (hby f q n).s (hby f q n).r (hby f q n).c)] ∧ Kp g w w' := by
  have H0 : Hid (_ ∧ _) := ⟨hm, Kp.refl g w⟩
  clear hm
  have S : Hid (Src g gb o n f w) := hS
  clear hS
  go_enter Tryd.func45, Tryd.ntmps45
  refine wp_block ?_
  refine loop_ghost (α := Nat) (fun i a' w' => ∃ s0 : Nat → Value, a' = ⟨#[PT g 0, s0 1, undef, undef, s0 4, s0 5, s0 6, s0 7, s0 8, s0 9, s0 10, s0 11, s0 12, s0 13, s0 14, s0 15, s0 16, s0 17, s0 18, s0 19, s0 20, s0 21, s0 22, s0 23, s0 24, s0 25, s0 26, s0 27, s0 28, s0 29, s0 30, s0 31, s0 32, s0 33, s0 34, s0 35, s0 36, s0 37, s0 38, s0 39, s0 40, s0 41, s0 42], []⟩ ∧ (Mm w' [(g, hs m ((hby f q i).s) ((hby f q i).r) ((hby f q i).c)), (1, ints .u32 kT 64)] ∧ Kp g w w') ∧ i ≤ n ∧ Bv gb o n cp i (s0 1)) (fun i => n - i) 0 ?st0 ?rd0
  case st0 => exact ⟨(slotfn [undef, v, undef, undef, undef, undef, undef, undef, undef, undef, undef, undef, undef, undef, undef, undef, undef, undef, undef, undef, undef, undef, undef, undef, undef, undef, undef, undef, undef, undef, undef, undef, undef, undef, undef, undef, undef, undef, undef, undef, undef, undef, undef]), rfl, ⟨H0.out.1, H0.out.2⟩, ⟨Nat.zero_le _, hv⟩⟩
  intro i a' w1 hI
  obtain ⟨s0, rfl, hMB, hk0⟩ := hI
  have H1 : Hid (_ ∧ _) := hMB
  clear hMB
  by_cases hlt : i < n
  · have hrd : True := trivial
    clear hrd
    have e1 := hk0.2.1 hlt
    rw [e1]
    have hqc := hby_c f q i
    obtain ⟨q', hq'⟩ : ∃ q', q' = hby f q i := ⟨_, rfl⟩
    rw [← hq'] at hqc H1
    have hq2 : Hid (q' = hby f q i) := hq'
    obtain ⟨mm, hmn⟩ : ∃ mm, mm = Nat.min (n - i) (64 - q'.c % 64) := ⟨_, rfl⟩
    have hmm : Hid (mm = Nat.min (n - i) (64 - q'.c % 64)) := hmn
    have m1 : mm ≤ n - i := by rw [hmn]; exact Nat.min_le_left _ _
    have m2 : mm ≤ 64 - q'.c % 64 := by rw [hmn]; exact Nat.min_le_right _ _
    have m3 : mm = n - i ∨ mm = 64 - q'.c % 64 := by rw [hmn]; show min _ _ = _ ∨ min _ _ = _; omega
    have m4 : q'.c + mm < 4611686018427387904 := by omega
    clear e1 hmn hq'
    by_cases hz : (q'.c + mm) % 64 = 0
    · have hrd : True := trivial
      clear hrd
      refine wp_seq (wp_seq ?_)
      refine walk_seqA 3 [.quiet (.slice (some ⟨gb, (o + i), none⟩) (n - i) (cp - i)), .quiet (.int .i64 (((n - i) : Nat) : Int)), .quiet (.bool true)] (sB H1) ?ho1z ?he1z
      case ho1z => exact ak (fun _ => ⟨rfl, fun _ _ => rfl⟩) (ak (by refine fun γ => ⟨rfl, fun w' h => ?_⟩; clear h; go_simp) (ak (by refine fun γ => ⟨rfl, fun w' h => ?_⟩; clear h; go_simp <;> omega) trivial))
      intro γ w2 l hM hl
      have H2 := keepK H1 hM.below
      clear hM hl l H1 γ
      refine rest0 rfl (then_normal (wp_cond_true rfl ?_))
      refine wp_skip (then_normal ?_)
      refine wp_block (wp_seq ?_)
      refine walk_anyA 7 [.quiet (PT g 0), .quiet (PT g 0), .quiet (PT g 9), .quiet (PT g 0), .call (.int .i64 ((q'.c % 64 : Nat) : Int)), .quiet (.slice (some ⟨g, (9 + (q'.c % 64)), none⟩) (64 - (q'.c % 64)) (64 - (q'.c % 64))), .quiet (.slice (some ⟨gb, (o + i), none⟩) (n - i) (cp - i))] (sB H2) ?ho2z ?he2z
      case ho2z => exact ak (fun _ => ⟨rfl, fun _ _ => rfl⟩) (ak (by refine fun γ => ⟨rfl, fun w' h => ?_⟩; clear h; go_simp) (ak (by refine fun γ => ⟨rfl, fun w' h => ?_⟩; clear h; go_simp) (ak (fun _ => ⟨rfl, fun _ _ => rfl⟩) (ak (fun γ => ⟨rfl, fun w' h => ⟨57, #[PT g 0], exec_call rfl call57 rfl (mpn rfl), filled_any _ _ _ _ _ w' (h.one 0 rfl)⟩⟩) (ak (fun γ => ⟨rfl, fun w' _ => ex_slA (k := q'.c % 64) rfl rfl rfl (by omega)⟩) (ak (fun _ => ⟨rfl, fun _ _ => rfl⟩) trivial))))))
      intro γ w3 l hM hl
      have H3 := keepK H2 hM.below
      clear hM hl l H2 γ
      refine rest_at (l := [7, 8]) rfl ?_
      refine rest_set (d := 15) (v := .int .i64 ((mm : Nat) : Int)) (w' := w3.setCells g (9 + q'.c % 64) (ints .u8 (fun j => f (i + j)) mm)) rfl rfl rfl (ex_copy H3.out.1 0 rfl (fun j hj => by have := S.out.kp H3.out.2 (i + j) (by omega); rwa [← Nat.add_assoc] at this) hmm.out (by omega) rfl rfl rfl) ?_
      simp only [Act.put, sa, sz, ss]
      have H4 : Hid (Mm (w3.setCells g (9 + q'.c % 64) (ints .u8 (fun j => f (i + j)) mm)) [(g, hs m q'.s (pr8 q'.r (q'.c % 64) mm (fun j => f (i + j))) q'.c), (1, ints .u32 kT 64)] ∧ Kp g w (w3.setCells g (9 + q'.c % 64) (ints .u8 (fun j => f (i + j)) mm))) := ⟨by
        have h := H3.out.1.put 0 (off := 9 + q'.c % 64) (vs := ints .u8 (fun j => f (i + j)) mm) rfl (by rw [ints_len, hs_len]; omega)
        rw [hs_put_part _ _ _ _ _ _ _ (by omega)] at h
        exact h, H3.out.2.put (Or.inl rfl)⟩
      clear H3
      generalize hgw : World.setCells _ _ _ _ = w4 at H4 ⊢
      clear hgw
      refine rest_set (d := 4) rfl rfl rfl rfl ?_
      simp only [Act.put, sa, sz, ss]
      refine rest_nil (then_normal (wp_seq ?_))
      refine walk_seqA 9 [.quiet (PT g 0), .quiet (PT g 0), .quiet (PT g 73), .quiet (U q'.c), .quiet (.int .i64 ((mm : Nat) : Int)), .quiet (U (c64 mm)), .quiet (U (c64 (q'.c + c64 mm))), .quiet (PT g 0), .quiet (PT g 73)] (sB H4) ?ho3z ?he3z
      case ho3z => exact ak (fun _ => ⟨rfl, fun _ _ => rfl⟩) (ak (by refine fun γ => ⟨rfl, fun w' h => ?_⟩; clear h; go_simp) (ak (by refine fun γ => ⟨rfl, fun w' h => ?_⟩; clear h; go_simp) (ak (fun γ => ⟨rfl, fun w' h => ex_loadC h 0 rfl rfl rfl Tryd.isAgg56 (hs_count _ _ _ _)⟩) (ak (fun _ => ⟨rfl, fun _ _ => rfl⟩) (ak (fun γ => ⟨rfl, fun w' _ => ex_cv3_56 (a := mm) rfl rfl⟩) (ak (fun γ => ⟨rfl, fun w' _ => ex_add64 rfl rfl rfl⟩) (ak (by refine fun γ => ⟨rfl, fun w' h => ?_⟩; clear h; go_simp) (ak (by refine fun γ => ⟨rfl, fun w' h => ?_⟩; clear h; go_simp) trivial))))))))
      intro γ w5 l hM hl
      have H5 := keepK H4 hM.below
      clear hM hl l H4 γ
      refine rest_at (l := [9]) rfl ?_
      refine rest_store rfl rfl rfl (ex_storeI H5.out.1 0 rfl rfl Tryd.sizeOf56 rfl rfl (by rw [hs_len]; decide)) ?_
      have H6 : Hid (Mm (w5.setCells g 73 ([U (c64 (q'.c + c64 mm))])) [(g, hs m q'.s (pr8 q'.r (q'.c % 64) mm (fun j => f (i + j))) (q'.c + mm)), (1, ints .u32 kT 64)] ∧ Kp g w (w5.setCells g 73 ([U (c64 (q'.c + c64 mm))]))) := ⟨by
        have h := H5.out.1.put 0 (off := 73) (vs := [U (c64 (q'.c + c64 mm))]) rfl (by rw [hs_len]; simp only [List.length_cons, List.length_nil]; decide)
        rw [hs_put_count _ _ _ _ _, show hs m q'.s (pr8 q'.r (q'.c % 64) mm (fun j => f (i + j))) (c64 (q'.c + c64 mm)) = hs m q'.s (pr8 q'.r (q'.c % 64) mm (fun j => f (i + j))) (q'.c + mm) by rw [c64_two (by omega)]] at h
        exact h, H5.out.2.put (Or.inl rfl)⟩
      clear H5
      generalize hgw : World.setCells _ _ _ _ = w6 at H6 ⊢
      clear hgw
      refine rest_nil (then_normal ?_)
      refine wp_seq (wp_seq ?_)
      refine walk_seqA 3 [.quiet (PT g 0), .call (.int .i64 (((q'.c + mm) % 64 : Nat) : Int)), .quiet (.bool true)] (sB H6) ?ho4z ?he4z
      case ho4z => exact ak (fun _ => ⟨rfl, fun _ _ => rfl⟩) (ak (fun γ => ⟨rfl, fun w' h => ⟨57, #[PT g 0], exec_call rfl call57 rfl (mpn rfl), filled_any _ _ _ _ _ w' (h.one 0 rfl)⟩⟩) (ak (by refine fun γ => ⟨rfl, fun w' h => ?_⟩; clear h; go_simp <;> omega) trivial))
      intro γ w7 l hM hl
      have H7 := keepK H6 hM.below
      clear hM hl l H6 γ
      refine rest0 rfl (then_normal (wp_cond_true rfl ?_))
      refine walk_anyA 12 [.quiet (PT g 0), .quiet (PT g 0), .quiet (PT g 0), .quiet (PT g 1), .quiet (.agg (ints .u32 q'.s 8).toArray), .quiet (PT g 0), .quiet (PT g 0), .quiet (PT g 9), .quiet (.agg (ints .u8 (pr8 q'.r (q'.c % 64) mm (fun j => f (i + j))) 64).toArray), .call (.agg (ints .u32 (mx q'.s (pr8 q'.r (q'.c % 64) mm (fun j => f (i + j)))) 8).toArray), .quiet (PT g 0), .quiet (PT g 1)] (sB H7) ?ho5z ?he5z
      case ho5z => exact ak (fun _ => ⟨rfl, fun _ _ => rfl⟩) (ak (fun _ => ⟨rfl, fun _ _ => rfl⟩) (ak (by refine fun γ => ⟨rfl, fun w' h => ?_⟩; clear h; go_simp) (ak (by refine fun γ => ⟨rfl, fun w' h => ?_⟩; clear h; go_simp) (ak (fun γ => ⟨rfl, fun w' h => ex_loadT h 0 rfl rfl rfl Tryd.isAgg53 Tryd.sizeOf53 (hs_words _ _ _ _) (ints_len _ _ _)⟩) (ak (fun _ => ⟨rfl, fun _ _ => rfl⟩) (ak (by refine fun γ => ⟨rfl, fun w' h => ?_⟩; clear h; go_simp) (ak (by refine fun γ => ⟨rfl, fun w' h => ?_⟩; clear h; go_simp) (ak (fun γ => ⟨rfl, fun w' h => ex_loadT h 0 rfl rfl rfl Tryd.isAgg55 Tryd.sizeOf55 (hs_rests _ _ _ _) (ints_len _ _ _)⟩) (ak (fun γ => ⟨rfl, fun w' h => ⟨58, #[.agg (ints .u32 q'.s 8).toArray, .agg (ints .u8 (pr8 q'.r (q'.c % 64) mm (fun j => f (i + j))) 64).toArray], exec_call rfl call58 rfl (mpn rfl), mix_any _ _ w' (h.one 1 rfl)⟩⟩) (ak (by refine fun γ => ⟨rfl, fun w' h => ?_⟩; clear h; go_simp) (ak (by refine fun γ => ⟨rfl, fun w' h => ?_⟩; clear h; go_simp) trivial)))))))))))
      intro γ w8 l hM hl
      have H8 := keepK H7 hM.below
      clear hM hl l H7 γ
      refine rest_at (l := [12]) rfl ?_
      refine rest_store rfl rfl rfl (ex_storeT (vs := ints .u32 (mx q'.s (pr8 q'.r (q'.c % 64) mm (fun j => f (i + j)))) 8) H8.out.1 0 rfl rfl rfl rfl (by rw [ints_len]; exact Tryd.sizeOf53) (ints_all _ _ _) (by simp [ints_len, hs_len])) ?_
      have H9 : Hid (Mm (w8.setCells g 1 (ints .u32 (mx q'.s (pr8 q'.r (q'.c % 64) mm (fun j => f (i + j)))) 8)) [(g, hs m (mx q'.s (pr8 q'.r (q'.c % 64) mm (fun j => f (i + j)))) (pr8 q'.r (q'.c % 64) mm (fun j => f (i + j))) (q'.c + mm)), (1, ints .u32 kT 64)] ∧ Kp g w (w8.setCells g 1 (ints .u32 (mx q'.s (pr8 q'.r (q'.c % 64) mm (fun j => f (i + j)))) 8))) := ⟨by
        have h := H8.out.1.put 0 (off := 1) (vs := ints .u32 (mx q'.s (pr8 q'.r (q'.c % 64) mm (fun j => f (i + j)))) 8) rfl (by simp [ints_len, hs_len])
        rw [hs_put_words _ _ _ _ _] at h
        exact h, H8.out.2.put (Or.inl rfl)⟩
      clear H8
      generalize hgw : World.setCells _ _ _ _ = w9 at H9 ⊢
      clear hgw
      refine rest_nil (then_normal ?_)
      refine walk_seqA 3 [.quiet (.slice (some ⟨gb, (o + i), none⟩) (n - i) (cp - i)), .quiet (.int .i64 ((mm : Nat) : Int)), .quiet (sl22 gb (o + i) (n - i) (cp - i) mm)] (sB H9) ?ho6z ?he6z
      case ho6z => exact ak (fun _ => ⟨rfl, fun _ _ => rfl⟩) (ak (fun _ => ⟨rfl, fun _ _ => rfl⟩) (ak (fun γ => ⟨rfl, fun w' _ => ex_sl22 (l := mm) rfl rfl rfl (by omega) (by omega)⟩) trivial))
      intro γ w10 l hM hl
      have H10 := keepK H9 hM.below
      clear hM hl l H9 γ
      refine rest_at (l := [3]) rfl ?_
      refine rest_set (d := 1) rfl rfl rfl rfl ?_
      simp only [Act.put, sa, sz, ss]
      refine rest_nil (block_normal (then_normal ?_))
      have E := (by rw [hby_add, ← hq2.out, hby_full _ q' mm (by omega) (by omega)] : hby f q (i + mm) = Hq.mk (mx q'.s (pr8 q'.r (q'.c % 64) mm (fun j => f (i + j)))) (pr8 q'.r (q'.c % 64) mm (fun j => f (i + j))) (q'.c + mm))
      exact ⟨i + mm, ⟨(slotfn [undef, sl22 gb (o + i) (n - i) (cp - i) mm, undef, undef, .int .i64 ((mm : Nat) : Int), .slice (some ⟨gb, (o + i), none⟩) (n - i) (cp - i), .int .i64 (((n - i) : Nat) : Int), .bool true, PT g 0, PT g 0, PT g 9, PT g 0, .int .i64 ((q'.c % 64 : Nat) : Int), .slice (some ⟨g, (9 + (q'.c % 64)), none⟩) (64 - (q'.c % 64)) (64 - (q'.c % 64)), .slice (some ⟨gb, (o + i), none⟩) (n - i) (cp - i), .int .i64 ((mm : Nat) : Int), PT g 0, PT g 0, PT g 73, U q'.c, .int .i64 ((mm : Nat) : Int), U (c64 mm), U (c64 (q'.c + c64 mm)), PT g 0, PT g 73, PT g 0, .int .i64 (((q'.c + mm) % 64 : Nat) : Int), .bool true, PT g 0, PT g 0, PT g 0, PT g 1, .agg (ints .u32 q'.s 8).toArray, PT g 0, PT g 0, PT g 9, .agg (ints .u8 (pr8 q'.r (q'.c % 64) mm (fun j => f (i + j))) 64).toArray, .agg (ints .u32 (mx q'.s (pr8 q'.r (q'.c % 64) mm (fun j => f (i + j)))) 8).toArray, PT g 0, PT g 1, .slice (some ⟨gb, (o + i), none⟩) (n - i) (cp - i), .int .i64 ((mm : Nat) : Int), sl22 gb (o + i) (n - i) (cp - i) mm]), rfl, ⟨by rw [E]; exact H10.out.1, H10.out.2⟩, ⟨by omega, sl22_bv hcp⟩⟩, by omega⟩
    · have hrd : True := trivial
      clear hrd
      refine wp_seq (wp_seq ?_)
      refine walk_seqA 3 [.quiet (.slice (some ⟨gb, (o + i), none⟩) (n - i) (cp - i)), .quiet (.int .i64 (((n - i) : Nat) : Int)), .quiet (.bool true)] (sB H1) ?ho7 ?he7
      case ho7 => exact ak (fun _ => ⟨rfl, fun _ _ => rfl⟩) (ak (by refine fun γ => ⟨rfl, fun w' h => ?_⟩; clear h; go_simp) (ak (by refine fun γ => ⟨rfl, fun w' h => ?_⟩; clear h; go_simp <;> omega) trivial))
      intro γ w11 l hM hl
      have H11 := keepK H1 hM.below
      clear hM hl l H1 γ
      refine rest0 rfl (then_normal (wp_cond_true rfl ?_))
      refine wp_skip (then_normal ?_)
      refine wp_block (wp_seq ?_)
      refine walk_anyA 7 [.quiet (PT g 0), .quiet (PT g 0), .quiet (PT g 9), .quiet (PT g 0), .call (.int .i64 ((q'.c % 64 : Nat) : Int)), .quiet (.slice (some ⟨g, (9 + (q'.c % 64)), none⟩) (64 - (q'.c % 64)) (64 - (q'.c % 64))), .quiet (.slice (some ⟨gb, (o + i), none⟩) (n - i) (cp - i))] (sB H11) ?ho8 ?he8
      case ho8 => exact ak (fun _ => ⟨rfl, fun _ _ => rfl⟩) (ak (by refine fun γ => ⟨rfl, fun w' h => ?_⟩; clear h; go_simp) (ak (by refine fun γ => ⟨rfl, fun w' h => ?_⟩; clear h; go_simp) (ak (fun _ => ⟨rfl, fun _ _ => rfl⟩) (ak (fun γ => ⟨rfl, fun w' h => ⟨57, #[PT g 0], exec_call rfl call57 rfl (mpn rfl), filled_any _ _ _ _ _ w' (h.one 0 rfl)⟩⟩) (ak (fun γ => ⟨rfl, fun w' _ => ex_slA (k := q'.c % 64) rfl rfl rfl (by omega)⟩) (ak (fun _ => ⟨rfl, fun _ _ => rfl⟩) trivial))))))
      intro γ w12 l hM hl
      have H12 := keepK H11 hM.below
      clear hM hl l H11 γ
      refine rest_at (l := [7, 8]) rfl ?_
      refine rest_set (d := 15) (v := .int .i64 ((mm : Nat) : Int)) (w' := w12.setCells g (9 + q'.c % 64) (ints .u8 (fun j => f (i + j)) mm)) rfl rfl rfl (ex_copy H12.out.1 0 rfl (fun j hj => by have := S.out.kp H12.out.2 (i + j) (by omega); rwa [← Nat.add_assoc] at this) hmm.out (by omega) rfl rfl rfl) ?_
      simp only [Act.put, sa, sz, ss]
      have H13 : Hid (Mm (w12.setCells g (9 + q'.c % 64) (ints .u8 (fun j => f (i + j)) mm)) [(g, hs m q'.s (pr8 q'.r (q'.c % 64) mm (fun j => f (i + j))) q'.c), (1, ints .u32 kT 64)] ∧ Kp g w (w12.setCells g (9 + q'.c % 64) (ints .u8 (fun j => f (i + j)) mm))) := ⟨by
        have h := H12.out.1.put 0 (off := 9 + q'.c % 64) (vs := ints .u8 (fun j => f (i + j)) mm) rfl (by rw [ints_len, hs_len]; omega)
        rw [hs_put_part _ _ _ _ _ _ _ (by omega)] at h
        exact h, H12.out.2.put (Or.inl rfl)⟩
      clear H12
      generalize hgw : World.setCells _ _ _ _ = w13 at H13 ⊢
      clear hgw
      refine rest_set (d := 4) rfl rfl rfl rfl ?_
      simp only [Act.put, sa, sz, ss]
      refine rest_nil (then_normal (wp_seq ?_))
      refine walk_seqA 9 [.quiet (PT g 0), .quiet (PT g 0), .quiet (PT g 73), .quiet (U q'.c), .quiet (.int .i64 ((mm : Nat) : Int)), .quiet (U (c64 mm)), .quiet (U (c64 (q'.c + c64 mm))), .quiet (PT g 0), .quiet (PT g 73)] (sB H13) ?ho9 ?he9
      case ho9 => exact ak (fun _ => ⟨rfl, fun _ _ => rfl⟩) (ak (by refine fun γ => ⟨rfl, fun w' h => ?_⟩; clear h; go_simp) (ak (by refine fun γ => ⟨rfl, fun w' h => ?_⟩; clear h; go_simp) (ak (fun γ => ⟨rfl, fun w' h => ex_loadC h 0 rfl rfl rfl Tryd.isAgg56 (hs_count _ _ _ _)⟩) (ak (fun _ => ⟨rfl, fun _ _ => rfl⟩) (ak (fun γ => ⟨rfl, fun w' _ => ex_cv3_56 (a := mm) rfl rfl⟩) (ak (fun γ => ⟨rfl, fun w' _ => ex_add64 rfl rfl rfl⟩) (ak (by refine fun γ => ⟨rfl, fun w' h => ?_⟩; clear h; go_simp) (ak (by refine fun γ => ⟨rfl, fun w' h => ?_⟩; clear h; go_simp) trivial))))))))
      intro γ w14 l hM hl
      have H14 := keepK H13 hM.below
      clear hM hl l H13 γ
      refine rest_at (l := [9]) rfl ?_
      refine rest_store rfl rfl rfl (ex_storeI H14.out.1 0 rfl rfl Tryd.sizeOf56 rfl rfl (by rw [hs_len]; decide)) ?_
      have H15 : Hid (Mm (w14.setCells g 73 ([U (c64 (q'.c + c64 mm))])) [(g, hs m q'.s (pr8 q'.r (q'.c % 64) mm (fun j => f (i + j))) (q'.c + mm)), (1, ints .u32 kT 64)] ∧ Kp g w (w14.setCells g 73 ([U (c64 (q'.c + c64 mm))]))) := ⟨by
        have h := H14.out.1.put 0 (off := 73) (vs := [U (c64 (q'.c + c64 mm))]) rfl (by rw [hs_len]; simp only [List.length_cons, List.length_nil]; decide)
        rw [hs_put_count _ _ _ _ _, show hs m q'.s (pr8 q'.r (q'.c % 64) mm (fun j => f (i + j))) (c64 (q'.c + c64 mm)) = hs m q'.s (pr8 q'.r (q'.c % 64) mm (fun j => f (i + j))) (q'.c + mm) by rw [c64_two (by omega)]] at h
        exact h, H14.out.2.put (Or.inl rfl)⟩
      clear H14
      generalize hgw : World.setCells _ _ _ _ = w15 at H15 ⊢
      clear hgw
      refine rest_nil (then_normal ?_)
      refine wp_seq (wp_seq ?_)
      refine walk_seqA 3 [.quiet (PT g 0), .call (.int .i64 (((q'.c + mm) % 64 : Nat) : Int)), .quiet (.bool false)] (sB H15) ?ho10 ?he10
      case ho10 => exact ak (fun _ => ⟨rfl, fun _ _ => rfl⟩) (ak (fun γ => ⟨rfl, fun w' h => ⟨57, #[PT g 0], exec_call rfl call57 rfl (mpn rfl), filled_any _ _ _ _ _ w' (h.one 0 rfl)⟩⟩) (ak (by refine fun γ => ⟨rfl, fun w' h => ?_⟩; clear h; go_simp <;> omega) trivial))
      intro γ w16 l hM hl
      have H16 := keepK H15 hM.below
      clear hM hl l H15 γ
      refine rest0 rfl (then_normal (wp_cond_false rfl ?_))
      refine wp_skip (then_normal ?_)
      refine walk_seqA 3 [.quiet (.slice (some ⟨gb, (o + i), none⟩) (n - i) (cp - i)), .quiet (.int .i64 ((mm : Nat) : Int)), .quiet (sl22 gb (o + i) (n - i) (cp - i) mm)] (sB H16) ?ho11 ?he11
      case ho11 => exact ak (fun _ => ⟨rfl, fun _ _ => rfl⟩) (ak (fun _ => ⟨rfl, fun _ _ => rfl⟩) (ak (fun γ => ⟨rfl, fun w' _ => ex_sl22 (l := mm) rfl rfl rfl (by omega) (by omega)⟩) trivial))
      intro γ w17 l hM hl
      have H17 := keepK H16 hM.below
      clear hM hl l H16 γ
      refine rest_at (l := [3]) rfl ?_
      refine rest_set (d := 1) rfl rfl rfl rfl ?_
      simp only [Act.put, sa, sz, ss]
      refine rest_nil (block_normal (then_normal ?_))
      have E := (by rw [hby_add, ← hq2.out, hby_in _ q' mm (by omega)] : hby f q (i + mm) = Hq.mk q'.s (pr8 q'.r (q'.c % 64) mm (fun j => f (i + j))) (q'.c + mm))
      exact ⟨i + mm, ⟨(slotfn [undef, sl22 gb (o + i) (n - i) (cp - i) mm, undef, undef, .int .i64 ((mm : Nat) : Int), .slice (some ⟨gb, (o + i), none⟩) (n - i) (cp - i), .int .i64 (((n - i) : Nat) : Int), .bool true, PT g 0, PT g 0, PT g 9, PT g 0, .int .i64 ((q'.c % 64 : Nat) : Int), .slice (some ⟨g, (9 + (q'.c % 64)), none⟩) (64 - (q'.c % 64)) (64 - (q'.c % 64)), .slice (some ⟨gb, (o + i), none⟩) (n - i) (cp - i), .int .i64 ((mm : Nat) : Int), PT g 0, PT g 0, PT g 73, U q'.c, .int .i64 ((mm : Nat) : Int), U (c64 mm), U (c64 (q'.c + c64 mm)), PT g 0, PT g 73, PT g 0, .int .i64 (((q'.c + mm) % 64 : Nat) : Int), .bool false, s0 28, s0 29, s0 30, s0 31, s0 32, s0 33, s0 34, s0 35, s0 36, s0 37, s0 38, s0 39, .slice (some ⟨gb, (o + i), none⟩) (n - i) (cp - i), .int .i64 ((mm : Nat) : Int), sl22 gb (o + i) (n - i) (cp - i) mm]), rfl, ⟨by rw [E]; exact H17.out.1, H17.out.2⟩, ⟨by omega, sl22_bv hcp⟩⟩, by omega⟩
  have hiN : i = n := by omega
  obtain ⟨p', c', e1⟩ := hk0.2.2 hiN
  rw [e1]
  subst hiN
  clear e1
  refine wp_seq (wp_seq ?_)
  refine walk_seqA 3 [.quiet (.slice p' 0 c'), .quiet (.int .i64 0), .quiet (.bool false)] (sB H1) ?ho12 ?he12
  case ho12 => exact ak (fun _ => ⟨rfl, fun _ _ => rfl⟩) (ak (by refine fun γ => ⟨rfl, fun w' h => ?_⟩; clear h; go_simp) (ak (by refine fun γ => ⟨rfl, fun w' h => ?_⟩; clear h; go_simp <;> omega) trivial))
  intro γ w18 l hM hl
  have H18 := keepK H1 hM.below
  clear hM hl l H1 γ
  refine rest0 rfl (then_normal (wp_cond_false rfl ?_))
  refine wp_exit ?_
  repeat refine then_exit ?_
  refine block_exit ?_
  refine bodyPost_end (v := .tuple #[]) (by simp [results, Tryd.results45, go_sem]) rfl ?_
  exact ⟨rfl, H18.out.1.one 0 rfl, H18.out.2⟩
end Rg
end Go.Proofs.YtolflfjfegngnaaDoor
end
