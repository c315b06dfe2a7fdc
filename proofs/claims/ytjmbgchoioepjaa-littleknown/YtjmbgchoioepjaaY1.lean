/- Rows of bytes; putNumber, Bytes -/
import Derived.Test.YtjmbgchoioepjaaU6
import Derived.Test.YtjmbgchoioepjaaR4
namespace Go.Proofs.Ytjmbgchoioepjaa
open Go.RowKit
namespace Rg
def by8 (f : Nat → Int) (n : Nat) : List Value := (List.range n).map fun j => .int .u8 (f j)
theorem by8_len (f : Nat → Int) (n : Nat) : (by8 f n).length = n := by simp [by8]
theorem by8_get (f : Nat → Int) {n j : Nat} (h : j < n) : (by8 f n)[j]? = some (.int .u8 (f j)) := by
  unfold by8
  rw [List.getElem?_map, List.getElem?_eq_getElem (by simpa using h), List.getElem_range]
  rfl
theorem by8_inv {f : Nat → Int} {n j : Nat} {v : Value} (h : (by8 f n)[j]? = some v) : j < n ∧ v = .int .u8 (f j) := by
  have hj : j < n := by
    have := (List.getElem?_eq_some_iff.1 h).1
    rwa [by8_len] at this
  rw [by8_get f hj] at h
  exact ⟨hj, (Option.some.inj h).symm⟩
theorem by8_congr {f f' : Nat → Int} {n : Nat} (h : ∀ j, j < n → f j = f' j) : by8 f n = by8 f' n := by
  unfold by8
  exact List.map_congr_left fun j hj => by rw [h j (by simpa using hj)]
/-- A number's bytes, the highest first. -/
theorem by8_patch (f : Nat → Int) {n : Nat} (j : Nat) (v : Int) (h : j < n) : patch (by8 f n) j [.int .u8 v] = by8 (upd f j v) n := by
  apply List.ext_getElem?
  intro k
  rw [patch_get _ _ _ (by rw [by8_len]; simp; omega)]
  by_cases hk : k < n
  · rw [by8_get _ hk, by8_get _ hk]
    unfold upd
    by_cases e : k = j
    · rw [if_pos (by simp; omega), if_pos e, e]
      simp
    · rw [if_neg (by simp; omega), if_neg e]
  · rw [if_neg (by simp; omega), List.getElem?_eq_none (by rw [by8_len]; omega), List.getElem?_eq_none (by rw [by8_len]; omega)]
theorem ex_idxS {ρ : Operand → Value} {o : Oper} {x y : Operand} {g off m c k : Nat} {w : World} (ho : o.op = .indexAddr 59 x y) (hx : ρ x = .slice (some ⟨g, off, none⟩) m c) (hy : ρ y = .int .i64 (k : Int)) (h : k < m) : (execOp ρ o).run Try.prog w = .ok (.value (PT g (off + k))) w := by
  simp only [execOp, ho, hx, hy]
  clear ho hx hy
  go_simp
theorem ex_cv8 {ρ : Operand → Value} {o : Oper} {x : Operand} {a : Nat} {w : World} (ho : o.op = .convert 23 5 x) (hx : ρ x = U a) : (execOp ρ o).run Try.prog w = .ok (.value (.int .u8 ((a % 256 : Nat) : Int))) w := by
  simp only [execOp, ho, hx]
  clear ho hx
  go_simp
  simp [IntKind.wrap, IntKind.bits, IntKind.signed]
theorem ex_mk8 {ρ : Operand → Value} {o : Oper} {x y : Operand} {w : World} (ho : o.op = .makeSlice 59 x y) (hx : ρ x = .int .i64 17) (hy : ρ y = .int .i64 17) :
    (execOp ρ o).run Try.prog w = .ok (.value (.slice (some ⟨w.heap.size, 0, none⟩) 17 17)) (w.alloc (.cells (by8 (fun _ => 0) 17).toArray 5)) := by
  simp only [execOp, ho, hx, hy]
  kernel_rfl
theorem call67 : ∀ args w, (callFunc 67 args).run Try.prog w = .ok (.enter 67 args) w := by intro args w; go_simp
/-- The bytes of a number, the highest first. -/
def byt (n k : Nat) : Int := ((n / 2 ^ (8 * (7 - k)) % 256 : Nat) : Int)
def pn (f : Nat → Int) (off n k : Nat) : Nat → Int := fun j => if off ≤ j ∧ j < off + k then byt n (j - off) else f j
theorem pn_zero (f : Nat → Int) (off n : Nat) : pn f off n 0 = f := by
  funext j
  unfold pn
  rw [if_neg (by omega)]
theorem pn_step (f : Nat → Int) (off n k : Nat) : upd (pn f off n k) (off + k) (byt n k) = pn f off n (k + 1) := by
  funext j
  unfold upd pn
  by_cases h : j = off + k
  · rw [if_pos h, if_pos (by omega), show j - off = k by omega]
  · rw [if_neg h]
    by_cases h2 : off ≤ j ∧ j < off + k
    · rw [if_pos h2, if_pos (by omega)]
    · rw [if_neg h2, if_neg (by omega)]
set_option maxHeartbeats 1000000 in
set_option maxRecDepth 100000 in
theorem put_any (g off m0 cp n : Nat) (f : Nat → Int) (ho : off + 8 ≤ 17) (hm8 : 8 ≤ m0) (w : World) (hm : Mm w [(g, by8 f 17)]) :
    Calls Try.prog 67 #[.slice (some ⟨g, off, none⟩) m0 cp, U n] w fun e w' => e = .returned (.tuple #[]) ∧ Mm w' [(g, by8 (pn f off n 8) 17)] ∧ Kp g w w' := by
  have H0 : Hid (_ ∧ _) := ⟨hm, Kp.refl g w⟩
  clear hm
  go_enter Try.func67, Try.ntmps67
  refine wp_seq ?_
  refine walk_seqA 1 [.quiet (.int .i64 0)] (sB H0) ?ho1 ?he1
  case ho1 => exact ak (fun _ => ⟨rfl, fun _ _ => rfl⟩) trivial
  intro γ w1 l hM hl
  have H1 := keepK H0 hM.below
  clear hM hl l γ
  refine rest0 rfl (then_normal (wp_block ?_))
  refine loop_ghost (α := Nat) (fun k a' w' => ∃ s0 : Nat → Value, a' = ⟨#[.slice (some ⟨g, off, none⟩) m0 cp, U n, undef, undef, s0 4, .int .i64 ((k : Nat) : Int), s0 6, s0 7, s0 8, s0 9, s0 10, s0 11, s0 12, s0 13, s0 14, s0 15, s0 16, s0 17], []⟩ ∧ (Mm w' [(g, by8 (pn f off n k) 17)] ∧ Kp g w w') ∧ k ≤ 8) (fun k => 8 - k) 0 ?st0 ?rd0
  case st0 => exact ⟨(slotfn [undef, undef, undef, undef, undef, undef, undef, undef, undef, undef, undef, undef, undef, undef, undef, undef, undef, undef]), rfl, ⟨by rw [pn_zero]; exact H1.out.1, H1.out.2⟩, by omega⟩
  intro k a' w2 hI
  obtain ⟨s0, rfl, hMB, hk0⟩ := hI
  have H2 : Hid (_ ∧ _) := hMB
  clear hMB H1
  by_cases hlt : k < 8
  · have hrd : True := trivial
    clear hrd
    refine wp_seq ?_
    refine walk_seqA 1 [.quiet (.bool true)] (sB H2) ?ho2 ?he2
    case ho2 => exact ak (by refine fun γ => ⟨rfl, fun w' h => ?_⟩; clear h; go_simp <;> omega) trivial
    intro γ w3 l hM hl
    have H3 := keepK H2 hM.below
    clear hM hl l H2 γ
    refine rest0 rfl (then_normal (wp_seq ?_))
    refine wp_cond_true rfl (wp_skip ?_)
    refine then_normal (wp_seq ?_)
    refine wp_block (wp_seq ?_)
    refine walk_seqA 2 [.quiet (.int .i64 ((k : Nat) : Int)), .quiet (.int .i64 ((k : Nat) : Int))] (sB H3) ?ho3 ?he3
    case ho3 => exact ak (fun _ => ⟨rfl, fun _ _ => rfl⟩) (ak (fun _ => ⟨rfl, fun _ _ => rfl⟩) trivial)
    intro γ w4 l hM hl
    have H4 := keepK H3 hM.below
    clear hM hl l H3 γ
    refine rest0 rfl (then_normal ?_)
    refine walk_seqA 9 [.quiet (.slice (some ⟨g, off, none⟩) m0 cp), .quiet (.int .i64 ((k : Nat) : Int)), .quiet (U n), .quiet (.int .i64 ((k : Nat) : Int)), .quiet (.int .i64 ((7 - k : Nat) : Int)), .quiet (.int .i64 ((8 * (7 - k) : Nat) : Int)), .quiet (U (n / 2 ^ (8 * (7 - k)))), .quiet (.int .u8 ((n / 2 ^ (8 * (7 - k)) % 256 : Nat) : Int)), .quiet (PT g (off + k))] (sB H4) ?ho4 ?he4
    case ho4 => exact ak (fun _ => ⟨rfl, fun _ _ => rfl⟩) (ak (fun _ => ⟨rfl, fun _ _ => rfl⟩) (ak (fun _ => ⟨rfl, fun _ _ => rfl⟩) (ak (fun _ => ⟨rfl, fun _ _ => rfl⟩) (ak (by refine fun γ => ⟨rfl, fun w' h => ?_⟩; clear h; go_simp; rw [IntKind.wrap_i64]; omega) (ak (by refine fun γ => ⟨rfl, fun w' h => ?_⟩; clear h; go_simp; rw [IntKind.wrap_i64]; omega) (ak (fun γ => ⟨rfl, fun w' _ => ex_shrU (by omega) rfl rfl rfl⟩) (ak (fun γ => ⟨rfl, fun w' _ => ex_cv8 rfl rfl⟩) (ak (fun γ => ⟨rfl, fun w' _ => ex_idxS rfl rfl rfl (by omega)⟩) trivial))))))))
    intro γ w5 l hM hl
    have H5 := keepK H4 hM.below
    clear hM hl l H4 γ
    refine rest_at (l := [9]) rfl ?_
    refine rest_store rfl rfl rfl (ex_storeI H5.out.1 0 rfl rfl Try.sizeOf5 rfl rfl (by rw [by8_len]; omega)) ?_
    have H6 : Hid (Mm (w5.setCells g (off + k) [.int .u8 ((n / 2 ^ (8 * (7 - k)) % 256 : Nat) : Int)]) [(g, by8 (upd (pn f off n k) (off + k) ((n / 2 ^ (8 * (7 - k)) % 256 : Nat) : Int)) 17)] ∧ Kp g w (w5.setCells g (off + k) [.int .u8 ((n / 2 ^ (8 * (7 - k)) % 256 : Nat) : Int)])) := ⟨by
      have h := H5.out.1.put 0 (off := (off + k)) (vs := [.int .u8 ((n / 2 ^ (8 * (7 - k)) % 256 : Nat) : Int)]) rfl (by rw [by8_len]; simp only [List.length_cons, List.length_nil]; omega)
      rw [by8_patch _ _ _ (by omega)] at h
      exact h, H5.out.2.put (Or.inl rfl)⟩
    clear H5
    generalize hgw : World.setCells _ _ _ _ = w6 at H6 ⊢
    clear hgw
    refine rest_nil (block_normal (then_normal ?_))
    refine walk_seqA 1 [.quiet (.int .i64 ((k + 1 : Nat) : Int))] (sB H6) ?ho5 ?he5
    case ho5 => exact ak (by refine fun γ => ⟨rfl, fun w' h => ?_⟩; clear h; go_simp; rw [IntKind.wrap_i64]; omega) trivial
    intro γ w7 l hM hl
    have H7 := keepK H6 hM.below
    clear hM hl l H6 γ
    refine rest_at (l := [1]) rfl ?_
    refine rest_set (d := 5) rfl rfl rfl rfl ?_
    simp only [Act.put, sa, sz, ss]
    refine rest_nil (then_normal ?_)
    exact ⟨k + 1, ⟨(slotfn [undef, undef, undef, undef, .int .i64 ((k : Nat) : Int), undef, .bool true, .int .i64 ((k : Nat) : Int), .slice (some ⟨g, off, none⟩) m0 cp, .int .i64 ((k : Nat) : Int), U n, .int .i64 ((k : Nat) : Int), .int .i64 ((7 - k : Nat) : Int), .int .i64 ((8 * (7 - k) : Nat) : Int), U (n / 2 ^ (8 * (7 - k))), .int .u8 ((n / 2 ^ (8 * (7 - k)) % 256 : Nat) : Int), PT g (off + k), .int .i64 ((k + 1 : Nat) : Int)]), rfl, ⟨by rw [← pn_step]; exact H7.out.1, H7.out.2⟩, by omega⟩, by omega⟩
  have hk8 : k = 8 := by omega
  subst hk8
  refine wp_seq ?_
  refine walk_seqA 1 [.quiet (.bool false)] (sB H2) ?ho6 ?he6
  case ho6 => exact ak (by refine fun γ => ⟨rfl, fun w' h => ?_⟩; clear h; go_simp <;> omega) trivial
  intro γ w8 l hM hl
  have H8 := keepK H2 hM.below
  clear hM hl l H2 γ
  refine rest0 rfl (then_normal (wp_seq (wp_cond_false rfl ?_)))
  refine wp_exit ?_
  repeat refine then_exit ?_
  refine block_exit ?_
  refine bodyPost_end (v := .tuple #[]) (by simp [results, Try.results67, go_sem]) rfl ?_
  exact ⟨rfl, H8.out.1, H8.out.2⟩
section
variable {s : Int} {p r c gx gy : Nat}
set_option maxHeartbeats 1000000 in
set_option maxRecDepth 100000 in
theorem bytes_f (k : Kd s p r c gx gy) (X Y : Nat) (h1 : oc p X Y false = true) (w : World) :
    Calls Try.prog 35 #[.int .i64 s, .agg (pt X Y false).toArray] w fun e w' => Below w.heap.size w w' ∧ ∃ g, e = .returned (.tuple #[.slice (some ⟨g, 0, none⟩) 17 17, .int .i64 0]) ∧ w.heap.size ≤ g ∧ g < w'.heap.size ∧ Blk w' g (by8 (pn (pn (fun _ => 0) 1 X 8) 9 Y 8) 17) := by
  have H0 : Hid (_ ∧ _) := ⟨Mm.nil w, Below.refl w.heap.size w⟩
  go_enter Try.func35, Try.ntmps35
  refine wp_seq ?_
  refine walk_seqA 3 [.made (pt X Y false) 25, .quiet (.slice none 0 0), .quiet (.int .i64 0)] (sB H0) ?ho1 ?he1
  case ho1 => exact ak (fun γ => ⟨rfl, fun w' => ex_boxT rfl rfl⟩) (ak (fun _ => ⟨rfl, fun _ _ => rfl⟩) (ak (fun _ => ⟨rfl, fun _ _ => rfl⟩) trivial))
  intro γ w1 l hM hl
  have H1 : Hid (Mm w1 [(γ 0, pt X Y false)] ∧ _) := growB H0 hM (Nat.le_refl _) hl [0] rfl (by decide)
  have o1_0 := ownB H0 hM (Nat.le_refl _) hl (i := 0) rfl
  clear hM hl l
  generalize γ 0 = γ1_0 at H1 o1_0 ⊢
  clear γ
  refine rest0 rfl (then_normal (wp_seq (wp_seq ?_)))
  refine walk_seqB 2 [.quiet (.int .i64 s), .quiet (.agg (pt X Y false).toArray)] H1 ?ho2 ?he2
  case ho2 => exact ak (fun _ => ⟨rfl, fun _ _ => rfl⟩) (ak (fun γ => ⟨rfl, fun w' h => ex_loadT h 0 rfl rfl rfl Try.isAgg25 Try.sizeOf25 rfl rfl⟩) trivial)
  intro _ w2 H2
  clear H1
  refine rest_at (l := [2, 3, 4, 5, 6, 7, 8, 9]) rfl ?_
  refine rest_set (d := 12) (v := .slice (some ⟨w2.heap.size, 0, none⟩) 1 1) (w' := w2.alloc (.cells (pt X Y false : List Value).toArray 25)) rfl rfl rfl (ex_bs1 rfl rfl) ?_
  simp only [Act.put, sa, sz, ss]
  have o_γs3 : Hid (w.heap.size ≤ w2.heap.size) := H2.out.2.size
  have H3 : Hid (Mm (w2.alloc (.cells (pt X Y false : List Value).toArray 25)) ((w2.heap.size, pt X Y false) :: [(γ1_0, pt X Y false)]) ∧ Below w.heap.size w (w2.alloc (.cells (pt X Y false : List Value).toArray 25))) := ⟨H2.out.1.alloc _ 25 rfl, H2.out.2.alloc H2.out.2.size _⟩
  clear H2
  generalize hgw : w2.alloc (.cells (pt X Y false : List Value).toArray 25) = w3 at H3 ⊢
  clear hgw
  generalize w2.heap.size = γs3 at o_γs3 H3 ⊢
  refine rest_enter (d := 13) (R := fun vv w' => vv = .tuple #[.agg (kd p r c gx gy).toArray, .int .i64 0] ∧ Below w3.heap.size w3 w') rfl rfl rfl (exec_call (args := #[.int .i64 s, .slice (some ⟨γs3, 0, none⟩) 1 1]) rfl call43 rfl (mpn rfl)) (Calls.mono (kw1_ok k X Y false h1 γs3 w3 (H3.out.1.one 0 rfl)) (fun e w2 hh => ⟨_, hh.1, rfl, hh.2⟩)) ?_
  rintro _ w4 ⟨rfl, hb⟩
  have H4 : Hid (_ ∧ _) := ⟨H3.out.1.below hb, H3.out.2.trans (hb.mono H3.out.2.size)⟩
  clear hb H3
  simp only [Act.put, sa, sz, ss]
  refine rest_set (d := 9) rfl rfl rfl rfl ?_
  simp only [Act.put, sa, sz, ss]
  refine rest_set (d := 14) (v := .agg (kd p r c gx gy).toArray) (w' := w4) rfl rfl rfl (by go_simp) ?_
  simp only [Act.put, sa, sz, ss]
  refine rest_set (d := 15) (v := .int .i64 0) (w' := w4) rfl rfl rfl (by go_simp) ?_
  simp only [Act.put, sa, sz, ss]
  refine rest_set (d := 6) (v := PT w4.heap.size 0) (w' := w4.alloc (.cells (kd 0 0 0 0 0 : List Value).toArray 72)) rfl rfl rfl (ex_made72 rfl) ?_
  simp only [Act.put, sa, sz, ss]
  have o_γs5 : Hid (w.heap.size ≤ w4.heap.size) := H4.out.2.size
  have H5 : Hid (Mm (w4.alloc (.cells (kd 0 0 0 0 0 : List Value).toArray 72)) ((w4.heap.size, kd 0 0 0 0 0) :: [(γs3, pt X Y false), (γ1_0, pt X Y false)]) ∧ Below w.heap.size w (w4.alloc (.cells (kd 0 0 0 0 0 : List Value).toArray 72))) := ⟨H4.out.1.alloc _ 72 rfl, H4.out.2.alloc H4.out.2.size _⟩
  clear H4
  generalize hgw : w4.alloc (.cells (kd 0 0 0 0 0 : List Value).toArray 72) = w5 at H5 ⊢
  clear hgw
  generalize w4.heap.size = γs5 at o_γs5 H5 ⊢
  refine rest_store rfl rfl rfl (ex_storeT (vs := kd p r c gx gy) H5.out.1 0 rfl rfl rfl rfl Try.sizeOf72 rfl (Nat.le_of_ble_eq_true rfl)) ?_
  have H6 : Hid (Mm (w5.setCells γs5 0 (kd p r c gx gy)) [(γs5, kd p r c gx gy), (γs3, pt X Y false), (γ1_0, pt X Y false)] ∧ Below w.heap.size w (w5.setCells γs5 0 (kd p r c gx gy))) := ⟨H5.out.1.put 0 (off := 0) (vs := kd p r c gx gy) rfl (Nat.le_of_ble_eq_true rfl), below_setCells _ o_γs5.out _ _ _ H5.out.2⟩
  clear H5
  generalize hgw : World.setCells _ _ _ _ = w6 at H6 ⊢
  clear hgw
  refine rest_set (d := 7) rfl rfl rfl rfl ?_
  simp only [Act.put, sa, sz, ss]
  refine rest_nil (then_normal (wp_seq ?_))
  refine walk_seqB 2 [.quiet (.int .i64 0), .quiet (.bool false)] H6 ?ho3 ?he3
  case ho3 => exact ak (fun _ => ⟨rfl, fun _ _ => rfl⟩) (ak (by refine fun γ => ⟨rfl, fun w' h => ?_⟩; clear h; go_simp) trivial)
  intro _ w7 H7
  clear H6
  refine rest0 rfl (then_normal (wp_cond_false rfl ?_))
  refine wp_skip (then_normal (wp_seq ?_))
  refine walk_seqB 0 [] H7 ?ho4 ?he4
  case ho4 => exact trivial
  intro _ w8 H8
  clear H7
  refine rest_at (l := [0, 1]) rfl ?_
  refine rest_set (d := 19) (v := .slice (some ⟨w8.heap.size, 0, none⟩) 17 17) (w' := w8.alloc (.cells (by8 (fun _ => 0) 17 : List Value).toArray 5)) rfl rfl rfl (ex_mk8 rfl rfl rfl) ?_
  simp only [Act.put, sa, sz, ss]
  have o_γs9 : Hid (w.heap.size ≤ w8.heap.size) := H8.out.2.size
  have H9 : Hid (Mm (w8.alloc (.cells (by8 (fun _ => 0) 17 : List Value).toArray 5)) ((w8.heap.size, by8 (fun _ => 0) 17) :: [(γs5, kd p r c gx gy), (γs3, pt X Y false), (γ1_0, pt X Y false)]) ∧ Below w.heap.size w (w8.alloc (.cells (by8 (fun _ => 0) 17 : List Value).toArray 5))) := ⟨H8.out.1.alloc _ 5 rfl, H8.out.2.alloc H8.out.2.size _⟩
  clear H8
  generalize hgw : w8.alloc (.cells (by8 (fun _ => 0) 17 : List Value).toArray 5) = w9 at H9 ⊢
  clear hgw
  generalize w8.heap.size = γs9 at o_γs9 H9 ⊢
  refine rest_set (d := 8) rfl rfl rfl rfl ?_
  simp only [Act.put, sa, sz, ss]
  refine rest_nil (then_normal ?_)
  refine wp_seq (wp_seq ?_)
  refine walk_seqB 2 [.quiet (PT γ1_0 2), .quiet (.bool false)] H9 ?ho5 ?he5
  case ho5 => exact ak (by refine fun γ => ⟨rfl, fun w' h => ?_⟩; clear h; go_simp) (ak (fun γ => ⟨rfl, fun w' h => ex_loadC h 3 rfl rfl rfl Try.isAgg4 rfl⟩) trivial)
  intro _ w10 H10
  clear H9
  refine rest0 rfl (then_normal (wp_cond_false rfl ?_))
  refine wp_skip (then_normal (wp_seq ?_))
  refine walk_anyB 4 [.quiet (.slice (some ⟨γs9, 0, none⟩) 17 17), .quiet (.slice (some ⟨γs9, 1, none⟩) 16 16), .quiet (PT γ1_0 0), .quiet (U X)] H10 ?ho6 ?he6
  case ho6 => exact ak (fun _ => ⟨rfl, fun _ _ => rfl⟩) (ak (by refine fun γ => ⟨rfl, fun w' h => ?_⟩; clear h; go_simp) (ak (by refine fun γ => ⟨rfl, fun w' h => ?_⟩; clear h; go_simp) (ak (fun γ => ⟨rfl, fun w' h => ex_loadC h 3 rfl rfl rfl Try.isAgg23 rfl⟩) trivial)))
  intro _ w11 H11
  clear H10
  refine rest_at (l := [4]) rfl ?_
  refine rest_enter (d := 28) (R := fun vv w' => vv = .tuple #[] ∧ Mm w' [(γs9, by8 (pn (fun _ => 0) 1 X 8) 17)] ∧ Kp γs9 w11 w') rfl rfl rfl (exec_call (args := #[.slice (some ⟨γs9, 1, none⟩) 16 16, U X]) rfl call67 rfl (mpn rfl)) (Calls.mono (put_any γs9 1 16 16 X (fun _ => 0) (by decide) (by decide) w11 (H11.out.1.one 0 rfl)) (fun e w2 hh => ⟨_, hh.1, rfl, hh.2⟩)) ?_
  rintro _ w12 ⟨rfl, hn, hp⟩
  have H12 : Hid (Mm w12 [(γs9, by8 (pn (fun _ => 0) 1 X 8) 17), (γs5, kd p r c gx gy), (γs3, pt X Y false), (γ1_0, pt X Y false)] ∧ Below w.heap.size w w12) := ⟨H11.out.1.change 0 rfl hp hn, Below.kp H11.out.2 hp o_γs9.out H11.out.2.size⟩
  clear hn hp H11
  simp only [Act.put, sa, sz, ss]
  refine rest_nil (then_normal (wp_seq ?_))
  refine walk_anyB 4 [.quiet (.slice (some ⟨γs9, 0, none⟩) 17 17), .quiet (.slice (some ⟨γs9, 9, none⟩) 8 8), .quiet (PT γ1_0 1), .quiet (U Y)] H12 ?ho7 ?he7
  case ho7 => exact ak (fun _ => ⟨rfl, fun _ _ => rfl⟩) (ak (by refine fun γ => ⟨rfl, fun w' h => ?_⟩; clear h; go_simp) (ak (by refine fun γ => ⟨rfl, fun w' h => ?_⟩; clear h; go_simp) (ak (fun γ => ⟨rfl, fun w' h => ex_loadC h 3 rfl rfl rfl Try.isAgg23 rfl⟩) trivial)))
  intro _ w13 H13
  clear H12
  refine rest_at (l := [4]) rfl ?_
  refine rest_enter (d := 33) (R := fun vv w' => vv = .tuple #[] ∧ Mm w' [(γs9, by8 (pn (pn (fun _ => 0) 1 X 8) 9 Y 8) 17)] ∧ Kp γs9 w13 w') rfl rfl rfl (exec_call (args := #[.slice (some ⟨γs9, 9, none⟩) 8 8, U Y]) rfl call67 rfl (mpn rfl)) (Calls.mono (put_any γs9 9 8 8 Y (pn (fun _ => 0) 1 X 8) (by decide) (by decide) w13 (H13.out.1.one 0 rfl)) (fun e w2 hh => ⟨_, hh.1, rfl, hh.2⟩)) ?_
  rintro _ w14 ⟨rfl, hn, hp⟩
  have H14 : Hid (Mm w14 [(γs9, by8 (pn (pn (fun _ => 0) 1 X 8) 9 Y 8) 17), (γs5, kd p r c gx gy), (γs3, pt X Y false), (γ1_0, pt X Y false)] ∧ Below w.heap.size w w14) := ⟨H13.out.1.change 0 rfl hp hn, Below.kp H13.out.2 hp o_γs9.out H13.out.2.size⟩
  clear hn hp H13
  simp only [Act.put, sa, sz, ss]
  refine rest_nil (then_normal (wp_seq ?_))
  refine walk_seqB 3 [.quiet (.slice (some ⟨γs9, 0, none⟩) 17 17), .quiet (.slice (some ⟨γs9, 0, none⟩) 17 17), .quiet (.int .i64 0)] H14 ?ho8 ?he8
  case ho8 => exact ak (fun _ => ⟨rfl, fun _ _ => rfl⟩) (ak (fun _ => ⟨rfl, fun _ _ => rfl⟩) (ak (fun _ => ⟨rfl, fun _ _ => rfl⟩) trivial))
  intro _ w15 H15
  clear H14
  refine rest0 rfl (then_normal (wp_ret ?_))
  repeat (first | refine then_ret ?_ | refine block_ret ?_)
  refine bodyPost_ret (v := .tuple #[.slice (some ⟨γs9, 0, none⟩) 17 17, .int .i64 0]) (by simp [results, Try.results35, go_sem, *]) rfl ?_
  exact ⟨H15.out.2, γs9, rfl, o_γs9.out, H15.out.1.blk _ (List.mem_of_getElem? (i := 0) rfl)⟩
set_option maxHeartbeats 1000000 in
set_option maxRecDepth 100000 in
theorem bytes_t (k : Kd s p r c gx gy) (X Y : Nat) (h1 : oc p X Y true = true) (w : World) :
    Calls Try.prog 35 #[.int .i64 s, .agg (pt X Y true).toArray] w fun e w' => Below w.heap.size w w' ∧ ∃ g, e = .returned (.tuple #[.slice (some ⟨g, 0, none⟩) 17 17, .int .i64 0]) ∧ w.heap.size ≤ g ∧ g < w'.heap.size ∧ Blk w' g (by8 (pn (pn (upd (fun _ => 0) 0 1) 1 X 8) 9 Y 8) 17) := by
  have H0 : Hid (_ ∧ _) := ⟨Mm.nil w, Below.refl w.heap.size w⟩
  go_enter Try.func35, Try.ntmps35
  refine wp_seq ?_
  refine walk_seqA 3 [.made (pt X Y true) 25, .quiet (.slice none 0 0), .quiet (.int .i64 0)] (sB H0) ?ho1 ?he1
  case ho1 => exact ak (fun γ => ⟨rfl, fun w' => ex_boxT rfl rfl⟩) (ak (fun _ => ⟨rfl, fun _ _ => rfl⟩) (ak (fun _ => ⟨rfl, fun _ _ => rfl⟩) trivial))
  intro γ w1 l hM hl
  have H1 : Hid (Mm w1 [(γ 0, pt X Y true)] ∧ _) := growB H0 hM (Nat.le_refl _) hl [0] rfl (by decide)
  have o1_0 := ownB H0 hM (Nat.le_refl _) hl (i := 0) rfl
  clear hM hl l
  generalize γ 0 = γ1_0 at H1 o1_0 ⊢
  clear γ
  refine rest0 rfl (then_normal (wp_seq (wp_seq ?_)))
  refine walk_seqB 2 [.quiet (.int .i64 s), .quiet (.agg (pt X Y true).toArray)] H1 ?ho2 ?he2
  case ho2 => exact ak (fun _ => ⟨rfl, fun _ _ => rfl⟩) (ak (fun γ => ⟨rfl, fun w' h => ex_loadT h 0 rfl rfl rfl Try.isAgg25 Try.sizeOf25 rfl rfl⟩) trivial)
  intro _ w2 H2
  clear H1
  refine rest_at (l := [2, 3, 4, 5, 6, 7, 8, 9]) rfl ?_
  refine rest_set (d := 12) (v := .slice (some ⟨w2.heap.size, 0, none⟩) 1 1) (w' := w2.alloc (.cells (pt X Y true : List Value).toArray 25)) rfl rfl rfl (ex_bs1 rfl rfl) ?_
  simp only [Act.put, sa, sz, ss]
  have o_γs3 : Hid (w.heap.size ≤ w2.heap.size) := H2.out.2.size
  have H3 : Hid (Mm (w2.alloc (.cells (pt X Y true : List Value).toArray 25)) ((w2.heap.size, pt X Y true) :: [(γ1_0, pt X Y true)]) ∧ Below w.heap.size w (w2.alloc (.cells (pt X Y true : List Value).toArray 25))) := ⟨H2.out.1.alloc _ 25 rfl, H2.out.2.alloc H2.out.2.size _⟩
  clear H2
  generalize hgw : w2.alloc (.cells (pt X Y true : List Value).toArray 25) = w3 at H3 ⊢
  clear hgw
  generalize w2.heap.size = γs3 at o_γs3 H3 ⊢
  refine rest_enter (d := 13) (R := fun vv w' => vv = .tuple #[.agg (kd p r c gx gy).toArray, .int .i64 0] ∧ Below w3.heap.size w3 w') rfl rfl rfl (exec_call (args := #[.int .i64 s, .slice (some ⟨γs3, 0, none⟩) 1 1]) rfl call43 rfl (mpn rfl)) (Calls.mono (kw1_ok k X Y true h1 γs3 w3 (H3.out.1.one 0 rfl)) (fun e w2 hh => ⟨_, hh.1, rfl, hh.2⟩)) ?_
  rintro _ w4 ⟨rfl, hb⟩
  have H4 : Hid (_ ∧ _) := ⟨H3.out.1.below hb, H3.out.2.trans (hb.mono H3.out.2.size)⟩
  clear hb H3
  simp only [Act.put, sa, sz, ss]
  refine rest_set (d := 9) rfl rfl rfl rfl ?_
  simp only [Act.put, sa, sz, ss]
  refine rest_set (d := 14) (v := .agg (kd p r c gx gy).toArray) (w' := w4) rfl rfl rfl (by go_simp) ?_
  simp only [Act.put, sa, sz, ss]
  refine rest_set (d := 15) (v := .int .i64 0) (w' := w4) rfl rfl rfl (by go_simp) ?_
  simp only [Act.put, sa, sz, ss]
  refine rest_set (d := 6) (v := PT w4.heap.size 0) (w' := w4.alloc (.cells (kd 0 0 0 0 0 : List Value).toArray 72)) rfl rfl rfl (ex_made72 rfl) ?_
  simp only [Act.put, sa, sz, ss]
  have o_γs5 : Hid (w.heap.size ≤ w4.heap.size) := H4.out.2.size
  have H5 : Hid (Mm (w4.alloc (.cells (kd 0 0 0 0 0 : List Value).toArray 72)) ((w4.heap.size, kd 0 0 0 0 0) :: [(γs3, pt X Y true), (γ1_0, pt X Y true)]) ∧ Below w.heap.size w (w4.alloc (.cells (kd 0 0 0 0 0 : List Value).toArray 72))) := ⟨H4.out.1.alloc _ 72 rfl, H4.out.2.alloc H4.out.2.size _⟩
  clear H4
  generalize hgw : w4.alloc (.cells (kd 0 0 0 0 0 : List Value).toArray 72) = w5 at H5 ⊢
  clear hgw
  generalize w4.heap.size = γs5 at o_γs5 H5 ⊢
  refine rest_store rfl rfl rfl (ex_storeT (vs := kd p r c gx gy) H5.out.1 0 rfl rfl rfl rfl Try.sizeOf72 rfl (Nat.le_of_ble_eq_true rfl)) ?_
  have H6 : Hid (Mm (w5.setCells γs5 0 (kd p r c gx gy)) [(γs5, kd p r c gx gy), (γs3, pt X Y true), (γ1_0, pt X Y true)] ∧ Below w.heap.size w (w5.setCells γs5 0 (kd p r c gx gy))) := ⟨H5.out.1.put 0 (off := 0) (vs := kd p r c gx gy) rfl (Nat.le_of_ble_eq_true rfl), below_setCells _ o_γs5.out _ _ _ H5.out.2⟩
  clear H5
  generalize hgw : World.setCells _ _ _ _ = w6 at H6 ⊢
  clear hgw
  refine rest_set (d := 7) rfl rfl rfl rfl ?_
  simp only [Act.put, sa, sz, ss]
  refine rest_nil (then_normal (wp_seq ?_))
  refine walk_seqB 2 [.quiet (.int .i64 0), .quiet (.bool false)] H6 ?ho3 ?he3
  case ho3 => exact ak (fun _ => ⟨rfl, fun _ _ => rfl⟩) (ak (by refine fun γ => ⟨rfl, fun w' h => ?_⟩; clear h; go_simp) trivial)
  intro _ w7 H7
  clear H6
  refine rest0 rfl (then_normal (wp_cond_false rfl ?_))
  refine wp_skip (then_normal (wp_seq ?_))
  refine walk_seqB 0 [] H7 ?ho4 ?he4
  case ho4 => exact trivial
  intro _ w8 H8
  clear H7
  refine rest_at (l := [0, 1]) rfl ?_
  refine rest_set (d := 19) (v := .slice (some ⟨w8.heap.size, 0, none⟩) 17 17) (w' := w8.alloc (.cells (by8 (fun _ => 0) 17 : List Value).toArray 5)) rfl rfl rfl (ex_mk8 rfl rfl rfl) ?_
  simp only [Act.put, sa, sz, ss]
  have o_γs9 : Hid (w.heap.size ≤ w8.heap.size) := H8.out.2.size
  have H9 : Hid (Mm (w8.alloc (.cells (by8 (fun _ => 0) 17 : List Value).toArray 5)) ((w8.heap.size, by8 (fun _ => 0) 17) :: [(γs5, kd p r c gx gy), (γs3, pt X Y true), (γ1_0, pt X Y true)]) ∧ Below w.heap.size w (w8.alloc (.cells (by8 (fun _ => 0) 17 : List Value).toArray 5))) := ⟨H8.out.1.alloc _ 5 rfl, H8.out.2.alloc H8.out.2.size _⟩
  clear H8
  generalize hgw : w8.alloc (.cells (by8 (fun _ => 0) 17 : List Value).toArray 5) = w9 at H9 ⊢
  clear hgw
  generalize w8.heap.size = γs9 at o_γs9 H9 ⊢
  refine rest_set (d := 8) rfl rfl rfl rfl ?_
  simp only [Act.put, sa, sz, ss]
  refine rest_nil (then_normal ?_)
  refine wp_seq (wp_seq ?_)
  refine walk_seqB 2 [.quiet (PT γ1_0 2), .quiet (.bool true)] H9 ?ho5 ?he5
  case ho5 => exact ak (by refine fun γ => ⟨rfl, fun w' h => ?_⟩; clear h; go_simp) (ak (fun γ => ⟨rfl, fun w' h => ex_loadC h 3 rfl rfl rfl Try.isAgg4 rfl⟩) trivial)
  intro _ w10 H10
  clear H9
  refine rest0 rfl (then_normal (wp_cond_true rfl ?_))
  refine walk_seqB 2 [.quiet (.slice (some ⟨γs9, 0, none⟩) 17 17), .quiet (PT γs9 0)] H10 ?ho6 ?he6
  case ho6 => exact ak (fun _ => ⟨rfl, fun _ _ => rfl⟩) (ak (by refine fun γ => ⟨rfl, fun w' h => ?_⟩; clear h; go_simp) trivial)
  intro _ w11 H11
  clear H10
  refine rest_at (l := [2]) rfl ?_
  refine rest_store rfl rfl rfl (ex_storeI H11.out.1 0 rfl rfl Try.sizeOf5 rfl rfl (by simp [by8_len])) ?_
  have H12 : Hid (Mm (w11.setCells γs9 0 [.int .u8 1]) [(γs9, by8 (upd (fun _ => 0) 0 1) 17), (γs5, kd p r c gx gy), (γs3, pt X Y true), (γ1_0, pt X Y true)] ∧ Below w.heap.size w (w11.setCells γs9 0 [.int .u8 1])) := ⟨by
    have h := H11.out.1.put 0 (off := 0) (vs := [.int .u8 1]) rfl (by simp [by8_len])
    rw [by8_patch _ _ _ (by decide)] at h
    exact h, below_setCells _ o_γs9.out _ _ _ H11.out.2⟩
  clear H11
  generalize hgw : World.setCells _ _ _ _ = w12 at H12 ⊢
  clear hgw
  refine rest_nil (then_normal (wp_seq ?_))
  refine walk_anyB 4 [.quiet (.slice (some ⟨γs9, 0, none⟩) 17 17), .quiet (.slice (some ⟨γs9, 1, none⟩) 16 16), .quiet (PT γ1_0 0), .quiet (U X)] H12 ?ho7 ?he7
  case ho7 => exact ak (fun _ => ⟨rfl, fun _ _ => rfl⟩) (ak (by refine fun γ => ⟨rfl, fun w' h => ?_⟩; clear h; go_simp) (ak (by refine fun γ => ⟨rfl, fun w' h => ?_⟩; clear h; go_simp) (ak (fun γ => ⟨rfl, fun w' h => ex_loadC h 3 rfl rfl rfl Try.isAgg23 rfl⟩) trivial)))
  intro _ w13 H13
  clear H12
  refine rest_at (l := [4]) rfl ?_
  refine rest_enter (d := 28) (R := fun vv w' => vv = .tuple #[] ∧ Mm w' [(γs9, by8 (pn (upd (fun _ => 0) 0 1) 1 X 8) 17)] ∧ Kp γs9 w13 w') rfl rfl rfl (exec_call (args := #[.slice (some ⟨γs9, 1, none⟩) 16 16, U X]) rfl call67 rfl (mpn rfl)) (Calls.mono (put_any γs9 1 16 16 X (upd (fun _ => 0) 0 1) (by decide) (by decide) w13 (H13.out.1.one 0 rfl)) (fun e w2 hh => ⟨_, hh.1, rfl, hh.2⟩)) ?_
  rintro _ w14 ⟨rfl, hn, hp⟩
  have H14 : Hid (Mm w14 [(γs9, by8 (pn (upd (fun _ => 0) 0 1) 1 X 8) 17), (γs5, kd p r c gx gy), (γs3, pt X Y true), (γ1_0, pt X Y true)] ∧ Below w.heap.size w w14) := ⟨H13.out.1.change 0 rfl hp hn, Below.kp H13.out.2 hp o_γs9.out H13.out.2.size⟩
  clear hn hp H13
  simp only [Act.put, sa, sz, ss]
  refine rest_nil (then_normal (wp_seq ?_))
  refine walk_anyB 4 [.quiet (.slice (some ⟨γs9, 0, none⟩) 17 17), .quiet (.slice (some ⟨γs9, 9, none⟩) 8 8), .quiet (PT γ1_0 1), .quiet (U Y)] H14 ?ho8 ?he8
  case ho8 => exact ak (fun _ => ⟨rfl, fun _ _ => rfl⟩) (ak (by refine fun γ => ⟨rfl, fun w' h => ?_⟩; clear h; go_simp) (ak (by refine fun γ => ⟨rfl, fun w' h => ?_⟩; clear h; go_simp) (ak (fun γ => ⟨rfl, fun w' h => ex_loadC h 3 rfl rfl rfl Try.isAgg23 rfl⟩) trivial)))
  intro _ w15 H15
  clear H14
  refine rest_at (l := [4]) rfl ?_
  refine rest_enter (d := 33) (R := fun vv w' => vv = .tuple #[] ∧ Mm w' [(γs9, by8 (pn (pn (upd (fun _ => 0) 0 1) 1 X 8) 9 Y 8) 17)] ∧ Kp γs9 w15 w') rfl rfl rfl (exec_call (args := #[.slice (some ⟨γs9, 9, none⟩) 8 8, U Y]) rfl call67 rfl (mpn rfl)) (Calls.mono (put_any γs9 9 8 8 Y (pn (upd (fun _ => 0) 0 1) 1 X 8) (by decide) (by decide) w15 (H15.out.1.one 0 rfl)) (fun e w2 hh => ⟨_, hh.1, rfl, hh.2⟩)) ?_
  rintro _ w16 ⟨rfl, hn, hp⟩
  have H16 : Hid (Mm w16 [(γs9, by8 (pn (pn (upd (fun _ => 0) 0 1) 1 X 8) 9 Y 8) 17), (γs5, kd p r c gx gy), (γs3, pt X Y true), (γ1_0, pt X Y true)] ∧ Below w.heap.size w w16) := ⟨H15.out.1.change 0 rfl hp hn, Below.kp H15.out.2 hp o_γs9.out H15.out.2.size⟩
  clear hn hp H15
  simp only [Act.put, sa, sz, ss]
  refine rest_nil (then_normal (wp_seq ?_))
  refine walk_seqB 3 [.quiet (.slice (some ⟨γs9, 0, none⟩) 17 17), .quiet (.slice (some ⟨γs9, 0, none⟩) 17 17), .quiet (.int .i64 0)] H16 ?ho9 ?he9
  case ho9 => exact ak (fun _ => ⟨rfl, fun _ _ => rfl⟩) (ak (fun _ => ⟨rfl, fun _ _ => rfl⟩) (ak (fun _ => ⟨rfl, fun _ _ => rfl⟩) trivial))
  intro _ w17 H17
  clear H16
  refine rest0 rfl (then_normal (wp_ret ?_))
  repeat (first | refine then_ret ?_ | refine block_ret ?_)
  refine bodyPost_ret (v := .tuple #[.slice (some ⟨γs9, 0, none⟩) 17 17, .int .i64 0]) (by simp [results, Try.results35, go_sem, *]) rfl ?_
  exact ⟨H17.out.2, γs9, rfl, o_γs9.out, H17.out.1.blk _ (List.mem_of_getElem? (i := 0) rfl)⟩
set_option maxHeartbeats 1000000 in
set_option maxRecDepth 100000 in
theorem bytes_pt (k : Kd s p r c gx gy) (X Y : Nat) (Z : Bool) (h1 : oc p X Y Z = false) (w : World) :
    Calls Try.prog 35 #[.int .i64 s, .agg (pt X Y Z).toArray] w fun e w' => e = .returned (.tuple #[.slice none 0 0, .int .i64 5]) ∧ Below w.heap.size w w' := by
  have H0 : Hid (_ ∧ _) := ⟨Mm.nil w, Below.refl w.heap.size w⟩
  go_enter Try.func35, Try.ntmps35
  refine wp_seq ?_
  refine walk_seqA 3 [.made (pt X Y Z) 25, .quiet (.slice none 0 0), .quiet (.int .i64 0)] (sB H0) ?ho1 ?he1
  case ho1 => exact ak (fun γ => ⟨rfl, fun w' => ex_boxT rfl rfl⟩) (ak (fun _ => ⟨rfl, fun _ _ => rfl⟩) (ak (fun _ => ⟨rfl, fun _ _ => rfl⟩) trivial))
  intro γ w1 l hM hl
  have H1 : Hid (Mm w1 [(γ 0, pt X Y Z)] ∧ _) := growB H0 hM (Nat.le_refl _) hl [0] rfl (by decide)
  have o1_0 := ownB H0 hM (Nat.le_refl _) hl (i := 0) rfl
  clear hM hl l
  generalize γ 0 = γ1_0 at H1 o1_0 ⊢
  clear γ
  refine rest0 rfl (then_normal (wp_seq (wp_seq ?_)))
  refine walk_seqB 2 [.quiet (.int .i64 s), .quiet (.agg (pt X Y Z).toArray)] H1 ?ho2 ?he2
  case ho2 => exact ak (fun _ => ⟨rfl, fun _ _ => rfl⟩) (ak (fun γ => ⟨rfl, fun w' h => ex_loadT h 0 rfl rfl rfl Try.isAgg25 Try.sizeOf25 rfl rfl⟩) trivial)
  intro _ w2 H2
  clear H1
  refine rest_at (l := [2, 3, 4, 5, 6, 7, 8, 9]) rfl ?_
  refine rest_set (d := 12) (v := .slice (some ⟨w2.heap.size, 0, none⟩) 1 1) (w' := w2.alloc (.cells (pt X Y Z : List Value).toArray 25)) rfl rfl rfl (ex_bs1 rfl rfl) ?_
  simp only [Act.put, sa, sz, ss]
  have o_γs3 : Hid (w.heap.size ≤ w2.heap.size) := H2.out.2.size
  have H3 : Hid (Mm (w2.alloc (.cells (pt X Y Z : List Value).toArray 25)) ((w2.heap.size, pt X Y Z) :: [(γ1_0, pt X Y Z)]) ∧ Below w.heap.size w (w2.alloc (.cells (pt X Y Z : List Value).toArray 25))) := ⟨H2.out.1.alloc _ 25 rfl, H2.out.2.alloc H2.out.2.size _⟩
  clear H2
  generalize hgw : w2.alloc (.cells (pt X Y Z : List Value).toArray 25) = w3 at H3 ⊢
  clear hgw
  generalize w2.heap.size = γs3 at o_γs3 H3 ⊢
  refine rest_enter (d := 13) (R := fun vv w' => vv = .tuple #[.agg (kd 0 0 0 0 0).toArray, .int .i64 5] ∧ Below w3.heap.size w3 w') rfl rfl rfl (exec_call (args := #[.int .i64 s, .slice (some ⟨γs3, 0, none⟩) 1 1]) rfl call43 rfl (mpn rfl)) (Calls.mono (kw1_no k X Y Z h1 γs3 w3 (H3.out.1.one 0 rfl)) (fun e w2 hh => ⟨_, hh.1, rfl, hh.2⟩)) ?_
  rintro _ w4 ⟨rfl, hb⟩
  have H4 : Hid (_ ∧ _) := ⟨H3.out.1.below hb, H3.out.2.trans (hb.mono H3.out.2.size)⟩
  clear hb H3
  simp only [Act.put, sa, sz, ss]
  refine rest_set (d := 9) rfl rfl rfl rfl ?_
  simp only [Act.put, sa, sz, ss]
  refine rest_set (d := 14) (v := .agg (kd 0 0 0 0 0).toArray) (w' := w4) rfl rfl rfl (by go_simp) ?_
  simp only [Act.put, sa, sz, ss]
  refine rest_set (d := 15) (v := .int .i64 5) (w' := w4) rfl rfl rfl (by go_simp) ?_
  simp only [Act.put, sa, sz, ss]
  refine rest_set (d := 6) (v := PT w4.heap.size 0) (w' := w4.alloc (.cells (kd 0 0 0 0 0 : List Value).toArray 72)) rfl rfl rfl (ex_made72 rfl) ?_
  simp only [Act.put, sa, sz, ss]
  have o_γs5 : Hid (w.heap.size ≤ w4.heap.size) := H4.out.2.size
  have H5 : Hid (Mm (w4.alloc (.cells (kd 0 0 0 0 0 : List Value).toArray 72)) ((w4.heap.size, kd 0 0 0 0 0) :: [(γs3, pt X Y Z), (γ1_0, pt X Y Z)]) ∧ Below w.heap.size w (w4.alloc (.cells (kd 0 0 0 0 0 : List Value).toArray 72))) := ⟨H4.out.1.alloc _ 72 rfl, H4.out.2.alloc H4.out.2.size _⟩
  clear H4
  generalize hgw : w4.alloc (.cells (kd 0 0 0 0 0 : List Value).toArray 72) = w5 at H5 ⊢
  clear hgw
  generalize w4.heap.size = γs5 at o_γs5 H5 ⊢
  refine rest_store rfl rfl rfl (ex_storeT (vs := kd 0 0 0 0 0) H5.out.1 0 rfl rfl rfl rfl Try.sizeOf72 rfl (Nat.le_of_ble_eq_true rfl)) ?_
  have H6 : Hid (Mm (w5.setCells γs5 0 (kd 0 0 0 0 0)) [(γs5, kd 0 0 0 0 0), (γs3, pt X Y Z), (γ1_0, pt X Y Z)] ∧ Below w.heap.size w (w5.setCells γs5 0 (kd 0 0 0 0 0))) := ⟨H5.out.1.put 0 (off := 0) (vs := kd 0 0 0 0 0) rfl (Nat.le_of_ble_eq_true rfl), below_setCells _ o_γs5.out _ _ _ H5.out.2⟩
  clear H5
  generalize hgw : World.setCells _ _ _ _ = w6 at H6 ⊢
  clear hgw
  refine rest_set (d := 7) rfl rfl rfl rfl ?_
  simp only [Act.put, sa, sz, ss]
  refine rest_nil (then_normal (wp_seq ?_))
  refine walk_seqB 2 [.quiet (.int .i64 5), .quiet (.bool true)] H6 ?ho3 ?he3
  case ho3 => exact ak (fun _ => ⟨rfl, fun _ _ => rfl⟩) (ak (by refine fun γ => ⟨rfl, fun w' h => ?_⟩; clear h; go_simp) trivial)
  intro _ w7 H7
  clear H6
  refine rest0 rfl (then_normal (wp_cond_true rfl (wp_seq ?_)))
  refine walk_seqB 3 [.quiet (.int .i64 5), .quiet (.slice none 0 0), .quiet (.int .i64 5)] H7 ?ho4 ?he4
  case ho4 => exact ak (fun _ => ⟨rfl, fun _ _ => rfl⟩) (ak (fun _ => ⟨rfl, fun _ _ => rfl⟩) (ak (fun _ => ⟨rfl, fun _ _ => rfl⟩) trivial))
  intro _ w8 H8
  clear H7
  refine rest0 rfl (then_normal (wp_ret ?_))
  repeat (first | refine then_ret ?_ | refine block_ret ?_)
  refine bodyPost_ret (v := .tuple #[.slice none 0 0, .int .i64 5]) (by simp [results, Try.results35, go_sem, *]) rfl ?_
  exact ⟨rfl, H8.out.2⟩
set_option maxHeartbeats 1000000 in
set_option maxRecDepth 100000 in
theorem bytes_no (s : Int) (h1 : s ≠ 1) (h2 : s ≠ 2) (X Y : Nat) (Z : Bool) (w : World) :
    Calls Try.prog 35 #[.int .i64 s, .agg (pt X Y Z).toArray] w fun e w' => e = .returned (.tuple #[.slice none 0 0, .int .i64 2]) ∧ Below w.heap.size w w' := by
  have H0 : Hid (_ ∧ _) := ⟨Mm.nil w, Below.refl w.heap.size w⟩
  go_enter Try.func35, Try.ntmps35
  refine wp_seq ?_
  refine walk_seqA 3 [.made (pt X Y Z) 25, .quiet (.slice none 0 0), .quiet (.int .i64 0)] (sB H0) ?ho1 ?he1
  case ho1 => exact ak (fun γ => ⟨rfl, fun w' => ex_boxT rfl rfl⟩) (ak (fun _ => ⟨rfl, fun _ _ => rfl⟩) (ak (fun _ => ⟨rfl, fun _ _ => rfl⟩) trivial))
  intro γ w1 l hM hl
  have H1 : Hid (Mm w1 [(γ 0, pt X Y Z)] ∧ _) := growB H0 hM (Nat.le_refl _) hl [0] rfl (by decide)
  have o1_0 := ownB H0 hM (Nat.le_refl _) hl (i := 0) rfl
  clear hM hl l
  generalize γ 0 = γ1_0 at H1 o1_0 ⊢
  clear γ
  refine rest0 rfl (then_normal (wp_seq (wp_seq ?_)))
  refine walk_seqB 2 [.quiet (.int .i64 s), .quiet (.agg (pt X Y Z).toArray)] H1 ?ho2 ?he2
  case ho2 => exact ak (fun _ => ⟨rfl, fun _ _ => rfl⟩) (ak (fun γ => ⟨rfl, fun w' h => ex_loadT h 0 rfl rfl rfl Try.isAgg25 Try.sizeOf25 rfl rfl⟩) trivial)
  intro _ w2 H2
  clear H1
  refine rest_at (l := [2, 3, 4, 5, 6, 7, 8, 9]) rfl ?_
  refine rest_set (d := 12) (v := .slice (some ⟨w2.heap.size, 0, none⟩) 1 1) (w' := w2.alloc (.cells (pt X Y Z : List Value).toArray 25)) rfl rfl rfl (ex_bs1 rfl rfl) ?_
  simp only [Act.put, sa, sz, ss]
  have o_γs3 : Hid (w.heap.size ≤ w2.heap.size) := H2.out.2.size
  have H3 : Hid (Mm (w2.alloc (.cells (pt X Y Z : List Value).toArray 25)) ((w2.heap.size, pt X Y Z) :: [(γ1_0, pt X Y Z)]) ∧ Below w.heap.size w (w2.alloc (.cells (pt X Y Z : List Value).toArray 25))) := ⟨H2.out.1.alloc _ 25 rfl, H2.out.2.alloc H2.out.2.size _⟩
  clear H2
  generalize hgw : w2.alloc (.cells (pt X Y Z : List Value).toArray 25) = w3 at H3 ⊢
  clear hgw
  generalize w2.heap.size = γs3 at o_γs3 H3 ⊢
  refine rest_enter (d := 13) (R := fun vv w' => vv = .tuple #[.agg (kd 0 0 0 0 0).toArray, .int .i64 2] ∧ Below w3.heap.size w3 w') rfl rfl rfl (exec_call (args := #[.int .i64 s, .slice (some ⟨γs3, 0, none⟩) 1 1]) rfl call43 rfl (mpn rfl)) (Calls.mono (kw_arg s h1 h2 _ w3) (fun e w2 hh => ⟨_, hh.1, rfl, hh.2⟩)) ?_
  rintro _ w4 ⟨rfl, hb⟩
  have H4 : Hid (_ ∧ _) := ⟨H3.out.1.below hb, H3.out.2.trans (hb.mono H3.out.2.size)⟩
  clear hb H3
  simp only [Act.put, sa, sz, ss]
  refine rest_set (d := 9) rfl rfl rfl rfl ?_
  simp only [Act.put, sa, sz, ss]
  refine rest_set (d := 14) (v := .agg (kd 0 0 0 0 0).toArray) (w' := w4) rfl rfl rfl (by go_simp) ?_
  simp only [Act.put, sa, sz, ss]
  refine rest_set (d := 15) (v := .int .i64 2) (w' := w4) rfl rfl rfl (by go_simp) ?_
  simp only [Act.put, sa, sz, ss]
  refine rest_set (d := 6) (v := PT w4.heap.size 0) (w' := w4.alloc (.cells (kd 0 0 0 0 0 : List Value).toArray 72)) rfl rfl rfl (ex_made72 rfl) ?_
  simp only [Act.put, sa, sz, ss]
  have o_γs5 : Hid (w.heap.size ≤ w4.heap.size) := H4.out.2.size
  have H5 : Hid (Mm (w4.alloc (.cells (kd 0 0 0 0 0 : List Value).toArray 72)) ((w4.heap.size, kd 0 0 0 0 0) :: [(γs3, pt X Y Z), (γ1_0, pt X Y Z)]) ∧ Below w.heap.size w (w4.alloc (.cells (kd 0 0 0 0 0 : List Value).toArray 72))) := ⟨H4.out.1.alloc _ 72 rfl, H4.out.2.alloc H4.out.2.size _⟩
  clear H4
  generalize hgw : w4.alloc (.cells (kd 0 0 0 0 0 : List Value).toArray 72) = w5 at H5 ⊢
  clear hgw
  generalize w4.heap.size = γs5 at o_γs5 H5 ⊢
  refine rest_store rfl rfl rfl (ex_storeT (vs := kd 0 0 0 0 0) H5.out.1 0 rfl rfl rfl rfl Try.sizeOf72 rfl (Nat.le_of_ble_eq_true rfl)) ?_
  have H6 : Hid (Mm (w5.setCells γs5 0 (kd 0 0 0 0 0)) [(γs5, kd 0 0 0 0 0), (γs3, pt X Y Z), (γ1_0, pt X Y Z)] ∧ Below w.heap.size w (w5.setCells γs5 0 (kd 0 0 0 0 0))) := ⟨H5.out.1.put 0 (off := 0) (vs := kd 0 0 0 0 0) rfl (Nat.le_of_ble_eq_true rfl), below_setCells _ o_γs5.out _ _ _ H5.out.2⟩
  clear H5
  generalize hgw : World.setCells _ _ _ _ = w6 at H6 ⊢
  clear hgw
  refine rest_set (d := 7) rfl rfl rfl rfl ?_
  simp only [Act.put, sa, sz, ss]
  refine rest_nil (then_normal (wp_seq ?_))
  refine walk_seqB 2 [.quiet (.int .i64 2), .quiet (.bool true)] H6 ?ho3 ?he3
  case ho3 => exact ak (fun _ => ⟨rfl, fun _ _ => rfl⟩) (ak (by refine fun γ => ⟨rfl, fun w' h => ?_⟩; clear h; go_simp) trivial)
  intro _ w7 H7
  clear H6
  refine rest0 rfl (then_normal (wp_cond_true rfl (wp_seq ?_)))
  refine walk_seqB 3 [.quiet (.int .i64 2), .quiet (.slice none 0 0), .quiet (.int .i64 2)] H7 ?ho4 ?he4
  case ho4 => exact ak (fun _ => ⟨rfl, fun _ _ => rfl⟩) (ak (fun _ => ⟨rfl, fun _ _ => rfl⟩) (ak (fun _ => ⟨rfl, fun _ _ => rfl⟩) trivial))
  intro _ w8 H8
  clear H7
  refine rest0 rfl (then_normal (wp_ret ?_))
  repeat (first | refine then_ret ?_ | refine block_ret ?_)
  refine bodyPost_ret (v := .tuple #[.slice none 0 0, .int .i64 2]) (by simp [results, Try.results35, go_sem, *]) rfl ?_
  exact ⟨rfl, H8.out.2⟩
/-- A point's bytes. -/
def pb (X Y : Nat) (Z : Bool) : Nat → Int := fun j => if j = 0 then (if Z = true then 1 else 0) else if j < 9 then byt X (j - 1) else byt Y (j - 9)
theorem pb_f (X Y j : Nat) (h : j < 17) : pn (pn (fun _ => 0) 1 X 8) 9 Y 8 j = pb X Y false j := by
  unfold pn pb
  by_cases h0 : j = 0
  · rw [if_neg (by omega), if_neg (by omega), if_pos h0, if_neg (by decide)]
  · rw [if_neg h0]
    by_cases h9 : j < 9
    · rw [if_neg (by omega), if_pos (by omega), if_pos h9]
    · rw [if_pos (by omega), if_neg h9]
theorem pb_t (X Y j : Nat) (h : j < 17) : pn (pn (upd (fun _ => 0) 0 1) 1 X 8) 9 Y 8 j = pb X Y true j := by
  unfold pn pb upd
  by_cases h0 : j = 0
  · rw [if_neg (by omega), if_neg (by omega), if_pos h0, if_pos h0, if_pos rfl]
  · simp only [if_neg h0]
    by_cases h9 : j < 9
    · rw [if_neg (by omega), if_pos (by omega), if_pos h9]
    · rw [if_pos (by omega), if_neg h9]
theorem Bytes_ok (k : Kd s p r c gx gy) (X Y : Nat) (Z : Bool) (h1 : oc p X Y Z = true) (w : World) : Calls Try.prog 35 #[.int .i64 s, V (pt X Y Z)] w fun e w' => Below w.heap.size w w' ∧ ∃ g, e = .returned (.tuple #[.slice (some ⟨g, 0, none⟩) 17 17, .int .i64 0]) ∧ w.heap.size ≤ g ∧ g < w'.heap.size ∧ Blk w' g (by8 (pb X Y Z) 17) := by
  cases Z
  · have h := bytes_f k X Y h1 w
    rw [by8_congr (fun j hj => pb_f X Y j hj)] at h
    exact h
  · have h := bytes_t k X Y h1 w
    rw [by8_congr (fun j hj => pb_t X Y j hj)] at h
    exact h
end
end Rg
end Go.Proofs.Ytjmbgchoioepjaa
