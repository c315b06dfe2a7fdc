/- Texts of the proof, joined. -/
import Derived.Test.YtolflfjfegngnaaDoorP4
import Derived.Laws.OwnMore
import Derived.Lib.Bytes
import Derived.Maps.AppendAt
import Derived.LaidMore
import Derived.Stop.Joined
import Derived.Lib.LaidTab
import Derived.ProofKit
import Derived.OpenShut
import Derived.ChangeSlices
import Derived.Test.YtolflfjfegngnaaDoorRows
import Derived.Test.YtolflfjfegngnaaDoorTie
section
namespace Go.Proofs.YtolflfjfegngnaaDoor
open Go.RowKit
namespace Rg
set_option maxRecDepth 100000
/-- The code of a message under a block. -/
def hmi (K f : Nat → Nat) (n : Nat) : Nat → Nat := fz (hby f (hby (mk8 K 54) ⟨fT, fun _ => 0, 0⟩ 64) n).s (hby f (hby (mk8 K 54) ⟨fT, fun _ => 0, 0⟩ 64) n).r (hby f (hby (mk8 K 54) ⟨fT, fun _ => 0, 0⟩ 64) n).c
def hmc (K f : Nat → Nat) (n : Nat) : Nat → Nat := fz (hby (hmi K f n) (hby (mk8 K 92) ⟨fT, fun _ => 0, 0⟩ 64) 32).s (hby (hmi K f n) (hby (mk8 K 92) ⟨fT, fun _ => 0, 0⟩ 64) 32).r (hby (hmi K f n) (hby (mk8 K 92) ⟨fT, fun _ => 0, 0⟩ 64) 32).c
theorem hby_cg {f f' : Nat → Nat} (q : Hq) : ∀ n, (∀ j, j < n → f j = f' j) → hby f q n = hby f' q n
  | 0, _ => rfl
  | n + 1, h => by
    show hone (hby f q n) (f n) = hone (hby f' q n) (f' n)
    rw [hby_cg q n fun j hj => h j (by omega), h n (by omega)]
theorem hby_ct (f g : Nat → Nat) (q : Hq) (n m : Nat) : hby (ct f n g) q (n + m) = hby g (hby f q n) m := by
  rw [hby_add]
  have e1 : hby (ct f n g) q n = hby f q n := hby_cg _ _ fun j hj => by unfold ct; rw [if_pos hj]
  rw [e1]
  exact hby_cg _ _ fun j hj => by unfold ct; rw [if_neg (by omega), Nat.add_sub_cancel_left]
/-- A part handed in is a slice. -/
structure Pok (q : Pt8) : Prop where
  bv : Bv q.gb q.o q.n q.cp 0 (.slice q.p q.n q.cp)
  le : q.n ≤ q.cp
abbrev Pt8.rs (q : Pt8) (w : World) : Prop := Rs q.gb q.o q.n q.f w
theorem Lw.of (gs : Nat) {q : Pt8} (h : Pok q) (hn : q.n ≤ 1048576) : Lw (some ⟨gs, 0, none⟩) (fun _ => q) 1 :=
  ⟨fun _ => ⟨gs, 0, rfl⟩, fun _ _ => ⟨h.bv, h.le⟩, fun i hi => by
    obtain rfl : i = 0 := by omega
    show 64 + 0 + q.n < _
    omega, by decide⟩
set_option maxHeartbeats 1000000 in
set_option maxRecDepth 100000 in
theorem Code_any (a b : Pt8) (ha : Pok a) (hb : Pok b) (hna : a.n < 4611686018427387904) (hnb : b.n ≤ 1048576) (w : World) (hm : Mm w [(0, ints .u32 fT 8), (1, ints .u32 kT 64)]) (hRa : a.rs w) (hRb : b.rs w) :
    Calls Tryd.prog 32 #[.slice a.p a.n a.cp, .slice b.p b.n b.cp] w fun e w' => e = .returned (.agg (ints .u8 (hmc (kf a.f a.n) b.f b.n) 32).toArray) ∧ Below w.heap.size w w' := by
  have H0 : Hid (_ ∧ _) := ⟨hm, Below.refl w.heap.size w⟩
  clear hm
  have RA : Hid (a.rs w) := hRa
  have RB : Hid (b.rs w) := hRb
  clear hRa hRb
  go_enter Tryd.func32, Tryd.ntmps32
  refine wp_seq ?_
  refine walk_seqA 1 [.made (ints .u8 (fun _ => 0) 32) 25] (sB H0) ?ho1 ?he1
  case ho1 => exact ak (fun γ => ⟨rfl, fun w' => ex_mk25 rfl⟩) trivial
  intro γ w1 l hM hl
  have H1 : Hid (Mm w1 [(γ 0, ints .u8 (fun _ => 0) 32), (0, ints .u32 fT 8), (1, ints .u32 kT 64)] ∧ _) := growB H0 hM (Nat.le_refl _) hl [0] rfl (by decide)
  have o1_0 := ownB H0 hM (Nat.le_refl _) hl (i := 0) rfl
  clear hM hl l
  generalize γ 0 = γ1_0 at H1 o1_0 ⊢
  clear γ
  refine rest0 rfl (then_normal (wp_seq ?_))
  refine (walk_seq) 3 [.quiet (.slice a.p a.n a.cp), .call (.agg (ints .u8 (kf a.f a.n) 64).toArray), .quiet (.slice b.p b.n b.cp)] (fun u' => Mm u' [(γ1_0, ints .u8 (fun _ => 0) 32), (0, ints .u32 fT 8), (1, ints .u32 kT 64)] ∧ (a.rs u' ∧ b.rs u')) ?pre2 ?F2 ?hpre2 (fun γ => ?hF2) (by kernel_rfl) ?hL2 ?hS2 ?ho2 ?he2
  case hpre2 => simp only [tk, tz]; rfl
  case hF2 => simp only [fill, Kind.val, Act.put, sa, sz, ss]; rfl
  case hL2 => exact trivial
  case hS2 => exact fun w' hb => ⟨H1.out.1.below hb, ⟨RA.out.below (H1.out.2.trans (hb.mono H1.out.2.size)), RB.out.below (H1.out.2.trans (hb.mono H1.out.2.size))⟩⟩
  case ho2 =>
    refine ak (fun _ => ⟨rfl, fun _ _ => rfl⟩) ?_
    refine ak (fun γ => ⟨rfl, fun w' hX => have h := hX.1; ⟨56, #[.slice a.p a.n a.cp], exec_call rfl call56 rfl (mpn rfl), kfilled_any a.gb a.o a.n a.cp a.p a.f ha.bv ha.le hna w' (h.two 1 2 rfl rfl (by decide)) hX.2.1⟩⟩) ?_
    refine ak (fun _ => ⟨rfl, fun _ _ => rfl⟩) ?_
    exact trivial
  intro γ w2 l hM hl
  have H2 := keepB H1 hM.below
  clear hM hl l H1 γ
  refine rest_at (l := [3, 4, 5]) rfl ?_
  refine rest_set (d := 8) (v := .slice (some ⟨w2.heap.size, 0, none⟩) 1 1) (w' := (w2.alloc (.cells ([Value.slice b.p b.n b.cp] : List Value).toArray 22))) rfl rfl rfl (ex_bsL rfl rfl) ?_
  simp only [Act.put, sa, sz, ss]
  have o_γs3 : Hid (w.heap.size ≤ w2.heap.size) := H2.out.2.size
  have H3 : Hid (Mm (w2.alloc (.cells ([Value.slice b.p b.n b.cp] : List Value).toArray 22)) ((w2.heap.size, [Value.slice b.p b.n b.cp]) :: [(γ1_0, ints .u8 (fun _ => 0) 32), (0, ints .u32 fT 8), (1, ints .u32 kT 64)]) ∧ Below w.heap.size w (w2.alloc (.cells ([Value.slice b.p b.n b.cp] : List Value).toArray 22))) := ⟨H2.out.1.alloc _ 22 rfl, H2.out.2.trans (((Below.refl _ _).alloc (Nat.le_refl _) _).mono H2.out.2.size)⟩
  clear H2
  generalize hgw : (w2.alloc (.cells ([Value.slice b.p b.n b.cp] : List Value).toArray 22)) = w3 at H3 ⊢
  clear hgw
  generalize w2.heap.size = γs3 at o_γs3 H3 ⊢
  refine rest_enter (d := 9) (R := fun vv w' => vv = .agg (ints .u8 (hmc (kf a.f a.n) b.f b.n) 32).toArray ∧ Below w3.heap.size w3 w') rfl rfl rfl (exec_call (args := #[.agg (ints .u8 (kf a.f a.n) 64).toArray, .slice (some ⟨γs3, 0, none⟩) 1 1]) rfl call55 rfl (mpn rfl)) (Calls.mono (code_any (kf a.f a.n) _ (fun _ => b) 1 1 (Lw.of _ hb hnb) w3 (H3.out.1.two 2 3 rfl rfl (by decide)) (Ls.one (H3.out.1.one 0 rfl) 0 rfl (RB.out.below H3.out.2))) (fun e w2 hh => ⟨_, hh.1, rfl, hh.2⟩)) ?_
  rintro _ w4 ⟨rfl, hb⟩
  have H4 : Hid (_ ∧ _) := ⟨H3.out.1.below hb, H3.out.2.trans (hb.mono H3.out.2.size)⟩
  clear hb H3
  simp only [Act.put, sa, sz, ss]
  refine rest_store rfl rfl rfl (ex_storeT (vs := ints .u8 (hmc (kf a.f a.n) b.f b.n) 32) H4.out.1 1 rfl rfl rfl rfl (by rw [ints_len]; exact Tryd.sizeOf25) (ints_all _ _ _) (by simp [ints_len])) ?_
  have H5 : Hid (Mm (w4.setCells γ1_0 0 (ints .u8 (hmc (kf a.f a.n) b.f b.n) 32)) [(γs3, [Value.slice b.p b.n b.cp]), (γ1_0, ints .u8 (hmc (kf a.f a.n) b.f b.n) 32), (0, ints .u32 fT 8), (1, ints .u32 kT 64)] ∧ Below w.heap.size w (w4.setCells γ1_0 0 (ints .u8 (hmc (kf a.f a.n) b.f b.n) 32))) := ⟨by
    have h := H4.out.1.put 1 (off := 0) (vs := ints .u8 (hmc (kf a.f a.n) b.f b.n) 32) rfl (by simp [ints_len])
    rw [ints_patch0 _ _ _ _] at h
    exact h, below_setCells _ o1_0.out _ _ _ H4.out.2⟩
  clear H4
  generalize hgw : World.setCells _ _ _ _ = w5 at H5 ⊢
  clear hgw
  refine rest_nil (then_normal (wp_ret ?_))
  repeat (first | refine then_ret ?_ | refine block_ret ?_)
  have hf0 := var_T H5.out.1 1 rfl Tryd.isAgg25 Tryd.sizeOf25 (ints_len _ _ _)
  refine bodyPost_ret (v := .agg (ints .u8 (hmc (kf a.f a.n) b.f b.n) 32).toArray) (by simp [results, Tryd.results32, asAddr, hf0]) rfl ?_
  exact ⟨rfl, H5.out.2⟩
set_option maxHeartbeats 1000000 in
set_option maxRecDepth 100000 in
theorem Extract_any (a b : Pt8) (ha : Pok a) (hb : Pok b) (hna : a.n < 4611686018427387904) (hnb : b.n ≤ 1048576) (w : World) (hm : Mm w [(0, ints .u32 fT 8), (1, ints .u32 kT 64)]) (hRa : a.rs w) (hRb : b.rs w) :
    Calls Tryd.prog 34 #[.slice a.p a.n a.cp, .slice b.p b.n b.cp] w fun e w' => e = .returned (.agg (ints .u8 (hmc (kf a.f a.n) b.f b.n) 32).toArray) ∧ Below w.heap.size w w' := by
  have H0 : Hid (_ ∧ _) := ⟨hm, Below.refl w.heap.size w⟩
  clear hm
  have RA : Hid (a.rs w) := hRa
  have RB : Hid (b.rs w) := hRb
  clear hRa hRb
  go_enter Tryd.func34, Tryd.ntmps34
  refine wp_seq ?_
  refine walk_seqA 1 [.made (ints .u8 (fun _ => 0) 32) 25] (sB H0) ?ho1 ?he1
  case ho1 => exact ak (fun γ => ⟨rfl, fun w' => ex_mk25 rfl⟩) trivial
  intro γ w1 l hM hl
  have H1 : Hid (Mm w1 [(γ 0, ints .u8 (fun _ => 0) 32), (0, ints .u32 fT 8), (1, ints .u32 kT 64)] ∧ _) := growB H0 hM (Nat.le_refl _) hl [0] rfl (by decide)
  have o1_0 := ownB H0 hM (Nat.le_refl _) hl (i := 0) rfl
  clear hM hl l
  generalize γ 0 = γ1_0 at H1 o1_0 ⊢
  clear γ
  refine rest0 rfl (then_normal (wp_seq ?_))
  refine (walk_seq) 3 [.quiet (.slice a.p a.n a.cp), .quiet (.slice b.p b.n b.cp), .call (.agg (ints .u8 (hmc (kf a.f a.n) b.f b.n) 32).toArray)] (fun u' => Mm u' [(γ1_0, ints .u8 (fun _ => 0) 32), (0, ints .u32 fT 8), (1, ints .u32 kT 64)] ∧ (a.rs u' ∧ b.rs u')) ?pre2 ?F2 ?hpre2 (fun γ => ?hF2) (by kernel_rfl) ?hL2 ?hS2 ?ho2 ?he2
  case hpre2 => simp only [tk, tz]; rfl
  case hF2 => simp only [fill, Kind.val, Act.put, sa, sz, ss]; rfl
  case hL2 => exact trivial
  case hS2 => exact fun w' hb => ⟨H1.out.1.below hb, ⟨RA.out.below (H1.out.2.trans (hb.mono H1.out.2.size)), RB.out.below (H1.out.2.trans (hb.mono H1.out.2.size))⟩⟩
  case ho2 =>
    refine ak (fun _ => ⟨rfl, fun _ _ => rfl⟩) ?_
    refine ak (fun _ => ⟨rfl, fun _ _ => rfl⟩) ?_
    refine ak (fun γ => ⟨rfl, fun w' hX => have h := hX.1; ⟨32, #[.slice a.p a.n a.cp, .slice b.p b.n b.cp], exec_call rfl call32 rfl (mpn rfl), Code_any a b ha hb hna hnb w' (h.two 1 2 rfl rfl (by decide)) hX.2.1 hX.2.2⟩⟩) ?_
    exact trivial
  intro γ w2 l hM hl
  have H2 := keepB H1 hM.below
  clear hM hl l H1 γ
  refine rest_at (l := [3]) rfl ?_
  refine rest_store rfl rfl rfl (ex_storeT (vs := ints .u8 (hmc (kf a.f a.n) b.f b.n) 32) H2.out.1 0 rfl rfl rfl rfl (by rw [ints_len]; exact Tryd.sizeOf25) (ints_all _ _ _) (by simp [ints_len])) ?_
  have H3 : Hid (Mm (w2.setCells γ1_0 0 (ints .u8 (hmc (kf a.f a.n) b.f b.n) 32)) [(γ1_0, ints .u8 (hmc (kf a.f a.n) b.f b.n) 32), (0, ints .u32 fT 8), (1, ints .u32 kT 64)] ∧ Below w.heap.size w (w2.setCells γ1_0 0 (ints .u8 (hmc (kf a.f a.n) b.f b.n) 32))) := ⟨by
    have h := H2.out.1.put 0 (off := 0) (vs := ints .u8 (hmc (kf a.f a.n) b.f b.n) 32) rfl (by simp [ints_len])
    rw [ints_patch0 _ _ _ _] at h
    exact h, below_setCells _ o1_0.out _ _ _ H2.out.2⟩
  clear H2
  generalize hgw : World.setCells _ _ _ _ = w3 at H3 ⊢
  clear hgw
  refine rest_nil (then_normal (wp_ret ?_))
  repeat (first | refine then_ret ?_ | refine block_ret ?_)
  have hf0 := var_T H3.out.1 0 rfl Tryd.isAgg25 Tryd.sizeOf25 (ints_len _ _ _)
  refine bodyPost_ret (v := .agg (ints .u8 (hmc (kf a.f a.n) b.f b.n) 32).toArray) (by simp [results, Tryd.results34, asAddr, hf0]) rfl ?_
  exact ⟨rfl, H3.out.2⟩
/-- What is unlike of n bytes, gathered by or. -/
def un (f g : Nat → Nat) : Nat → Nat
  | 0 => 0
  | k + 1 => o8 (un f g k) (x8 (f k) (g k))
theorem Pok.at {q : Pt8} (h : Pok q) (hn : 0 < q.n) : q.p = some ⟨q.gb, q.o, none⟩ := by
  have e := h.bv.1 hn
  injection e
section
variable {ρ : Operand → Value} {o : Oper} {x y : Operand} {g off m c j a : Nat} {w : World}
theorem ex_ixP22 {p : Option Addr} (he : p = some ⟨g, off, none⟩) (ho : o.op = .indexAddr 22 x y) (hx : ρ x = .slice p m c) (hy : ρ y = .int .i64 ((j : Nat) : Int)) (h : j < m) : (execOp ρ o).run Tryd.prog w = .ok (.value (PT g (off + j))) w := by
  subst he
  simp only [execOp, ho, hx, hy]
  clear ho hx hy
  go_simp
theorem ex_ldB {f : Nat → Nat} (h : Rs g off m f w) (hk : j < m) (ho : o.op = .load 5 x) (hx : ρ x = PT g (off + j)) : (execOp ρ o).run Tryd.prog w = .ok (.value (Z8 (f j))) w := by
  have c0 := h.at_ j hk
  have ha : ∀ w, (isAgg 5).run Tryd.prog w = .ok false w := Tryd.isAgg5
  clear h
  simp only [execOp, ho, hx]
  go_simp
theorem ex_eqz (ho : o.op = .binOp .eql 5 x y 5) (hx : ρ x = Z8 a) (hy : ρ y = .int .u8 0) : (execOp ρ o).run Tryd.prog w = .ok (.value (.bool (decide (a = 0)))) w := by
  simp only [execOp, ho, hx, hy]
  clear ho hx hy
  go_simp
  by_cases h : a = 0 <;> simp [h]
end
set_option maxHeartbeats 1000000 in
set_option maxRecDepth 100000 in
theorem Same_like (a b : Pt8) (ha : Pok a) (hb : Pok b) (hn : a.n = b.n) (hna : a.n < 4611686018427387904) (w : World) (hRa : a.rs w) (hRb : b.rs w) :
    Calls Tryd.prog 35 #[.slice a.p a.n a.cp, .slice b.p b.n b.cp] w fun e w' => e = .returned (.bool (decide (un a.f b.f a.n = 0))) ∧ Below w.heap.size w w' := by
  have H0 : Hid (_ ∧ _) := ⟨Mm.nil w, Below.refl w.heap.size w⟩
  have RA : Hid (a.rs w) := hRa
  have RB : Hid (b.rs w) := hRb
  clear hRa hRb
  go_enter Tryd.func35, Tryd.ntmps35
  refine wp_seq ?_
  refine walk_seqB 1 [.quiet (.bool false)] H0 ?ho1 ?he1
  case ho1 => exact ak (fun _ => ⟨rfl, fun _ _ => rfl⟩) trivial
  intro _ w1 H1
  refine rest0 rfl (then_normal (wp_seq (wp_seq ?_)))
  refine walk_seqB 5 [.quiet (.slice a.p a.n a.cp), .quiet (.int .i64 ((a.n : Nat) : Int)), .quiet (.slice b.p b.n b.cp), .quiet (.int .i64 ((b.n : Nat) : Int)), .quiet (.bool false)] H1 ?ho2 ?he2
  case ho2 => exact ak (fun _ => ⟨rfl, fun _ _ => rfl⟩) (ak (by refine fun γ => ⟨rfl, fun w' h => ?_⟩; clear h; go_simp) (ak (fun _ => ⟨rfl, fun _ _ => rfl⟩) (ak (by refine fun γ => ⟨rfl, fun w' h => ?_⟩; clear h; go_simp) (ak (by refine fun γ => ⟨rfl, fun w' h => ?_⟩; clear h; go_simp <;> omega) trivial))))
  intro _ w2 H2
  clear H1
  refine rest0 rfl (then_normal (wp_cond_false rfl ?_))
  refine wp_skip (then_normal (wp_seq ?_))
  refine walk_seqB 1 [.quiet (.int .u8 0)] H2 ?ho3 ?he3
  case ho3 => exact ak (fun _ => ⟨rfl, fun _ _ => rfl⟩) trivial
  intro _ w3 H3
  clear H2
  refine rest0 rfl (then_normal (wp_seq (wp_seq ?_)))
  refine walk_seqB 3 [.quiet (.slice a.p a.n a.cp), .quiet (.int .i64 ((a.n : Nat) : Int)), .quiet (.int .i64 0)] H3 ?ho4 ?he4
  case ho4 => exact ak (fun _ => ⟨rfl, fun _ _ => rfl⟩) (ak (by refine fun γ => ⟨rfl, fun w' h => ?_⟩; clear h; go_simp) (ak (fun _ => ⟨rfl, fun _ _ => rfl⟩) trivial))
  intro _ w4 H4
  clear H3
  refine rest0 rfl (then_normal (wp_block ?_))
  refine loop_ghost (α := Nat) (fun k a' w' => ∃ s0 : Nat → Value, a' = ⟨#[.slice a.p a.n a.cp, .slice b.p b.n b.cp, undef, undef, .bool false, Z8 (un a.f b.f k), s0 6, s0 7, .slice a.p a.n a.cp, .int .i64 ((a.n : Nat) : Int), .slice b.p b.n b.cp, .int .i64 ((b.n : Nat) : Int), .bool false, .slice a.p a.n a.cp, .int .i64 ((a.n : Nat) : Int), .int .i64 ((k : Nat) : Int), s0 16, s0 17, s0 18, s0 19, s0 20, s0 21, s0 22, s0 23, s0 24, s0 25, s0 26, s0 27, s0 28, undef, undef], []⟩ ∧ (Mm w' [] ∧ Below w.heap.size w w') ∧ k ≤ a.n) (fun k => a.n - k) 0 ?st0 ?rd0
  case st0 => exact ⟨(slotfn [undef, undef, undef, undef, undef, undef, undef, undef, undef, undef, undef, undef, undef, undef, undef, undef, undef, undef, undef, undef, undef, undef, undef, undef, undef, undef, undef, undef, undef]), rfl, ⟨H4.out.1, H4.out.2⟩, by omega⟩
  intro k a' w5 hI
  obtain ⟨s0, rfl, hMB, hk0⟩ := hI
  have H5 : Hid (_ ∧ _) := hMB
  clear hMB H4
  by_cases hlt : k < a.n
  · have hrd : True := trivial
    clear hrd
    have Ea : Hid (a.p = some ⟨a.gb, a.o, none⟩) := ha.at (by omega)
    have Eb : Hid (b.p = some ⟨b.gb, b.o, none⟩) := hb.at (by omega)
    refine wp_seq ?_
    refine walk_seqB 1 [.quiet (.bool true)] H5 ?ho5 ?he5
    case ho5 => exact ak (by refine fun γ => ⟨rfl, fun w' h => ?_⟩; clear h; go_simp <;> omega) trivial
    intro _ w6 H6
    clear H5
    refine rest0 rfl (then_normal (wp_seq ?_))
    refine wp_cond_true rfl (wp_skip ?_)
    refine then_normal (wp_seq ?_)
    refine wp_block (wp_seq ?_)
    refine (walk_seq) 5 [.quiet (.int .i64 ((k : Nat) : Int)), .quiet (PT a.gb (a.o + k)), .quiet (Z8 (a.f k)), .quiet (.int .i64 ((k : Nat) : Int)), .quiet (Z8 (a.f k))] (fun u' => Mm u' [] ∧ (a.rs u' ∧ b.rs u')) ?pre6 ?F6 ?hpre6 (fun γ => ?hF6) (by kernel_rfl) ?hL6 ?hS6 ?ho6 ?he6
    case hpre6 => simp only [tk, tz]; rfl
    case hF6 => simp only [fill, Kind.val, Act.put, sa, sz, ss]; rfl
    case hL6 => exact trivial
    case hS6 => exact fun w' hb => ⟨H6.out.1.below hb, ⟨RA.out.below (H6.out.2.trans (hb.mono H6.out.2.size)), RB.out.below (H6.out.2.trans (hb.mono H6.out.2.size))⟩⟩
    case ho6 =>
      refine ak (fun _ => ⟨rfl, fun _ _ => rfl⟩) ?_
      refine ak (fun γ => ⟨rfl, fun w' _ => ex_ixP22 (j := k) Ea.out rfl rfl rfl (by omega)⟩) ?_
      refine ak (fun γ => ⟨rfl, fun w' hX => ex_ldB (j := k) hX.2.1 (by omega) rfl rfl⟩) ?_
      refine ak (fun _ => ⟨rfl, fun _ _ => rfl⟩) ?_
      refine ak (fun _ => ⟨rfl, fun _ _ => rfl⟩) ?_
      exact trivial
    intro γ w7 l hM hl
    have H7 := keepB H6 hM.below
    clear hM hl l H6 γ
    refine rest0 rfl (then_normal ?_)
    refine (walk_seq) 8 [.quiet (Z8 (un a.f b.f k)), .quiet (Z8 (a.f k)), .quiet (.slice b.p b.n b.cp), .quiet (.int .i64 ((k : Nat) : Int)), .quiet (PT b.gb (b.o + k)), .quiet (Z8 (b.f k)), .quiet (Z8 (x8 (a.f k) (b.f k))), .quiet (Z8 (o8 (un a.f b.f k) (x8 (a.f k) (b.f k))))] (fun u' => Mm u' [] ∧ (a.rs u' ∧ b.rs u')) ?pre7 ?F7 ?hpre7 (fun γ => ?hF7) (by kernel_rfl) ?hL7 ?hS7 ?ho7 ?he7
    case hpre7 => simp only [tk, tz]; rfl
    case hF7 => simp only [fill, Kind.val, Act.put, sa, sz, ss]; rfl
    case hL7 => exact trivial
    case hS7 => exact fun w' hb => ⟨H7.out.1.below hb, ⟨RA.out.below (H7.out.2.trans (hb.mono H7.out.2.size)), RB.out.below (H7.out.2.trans (hb.mono H7.out.2.size))⟩⟩
    case ho7 =>
      refine ak (fun _ => ⟨rfl, fun _ _ => rfl⟩) ?_
      refine ak (fun _ => ⟨rfl, fun _ _ => rfl⟩) ?_
      refine ak (fun _ => ⟨rfl, fun _ _ => rfl⟩) ?_
      refine ak (fun _ => ⟨rfl, fun _ _ => rfl⟩) ?_
      refine ak (fun γ => ⟨rfl, fun w' _ => ex_ixP22 (j := k) Eb.out rfl rfl rfl (by omega)⟩) ?_
      refine ak (fun γ => ⟨rfl, fun w' hX => ex_ldB (j := k) hX.2.2 (by omega) rfl rfl⟩) ?_
      refine ak (fun γ => ⟨rfl, fun w' _ => ex_xor8 rfl rfl rfl⟩) ?_
      refine ak (fun γ => ⟨rfl, fun w' _ => ex_or8 rfl rfl rfl⟩) ?_
      exact trivial
    intro γ w8 l hM hl
    have H8 := keepB H7 hM.below
    clear hM hl l H7 γ
    refine rest_at (l := [8]) rfl ?_
    refine rest_set (d := 5) (v := Z8 (o8 (un a.f b.f k) (x8 (a.f k) (b.f k)))) (w' := w8) rfl rfl rfl rfl ?_
    simp only [Act.put, sa, sz, ss]
    refine rest_nil (block_normal (then_normal ?_))
    refine walk_seqB 1 [.quiet (.int .i64 ((k + 1 : Nat) : Int))] H8 ?ho8 ?he8
    case ho8 => exact ak (by refine fun γ => ⟨rfl, fun w' h => ?_⟩; clear h; go_simp; rw [IntKind.wrap_i64]; omega) trivial
    intro _ w9 H9
    clear H8
    refine rest_at (l := [1]) rfl ?_
    refine rest_set (d := 15) (v := .int .i64 ((k + 1 : Nat) : Int)) (w' := w9) rfl rfl rfl rfl ?_
    simp only [Act.put, sa, sz, ss]
    refine rest_nil (then_normal ?_)
    exact ⟨k + 1, ⟨(slotfn [undef, undef, undef, undef, undef, undef, .int .i64 ((k : Nat) : Int), Z8 (a.f k), undef, undef, undef, undef, undef, undef, undef, undef, .bool true, .int .i64 ((k : Nat) : Int), PT a.gb (a.o + k), Z8 (a.f k), Z8 (un a.f b.f k), Z8 (a.f k), .slice b.p b.n b.cp, .int .i64 ((k : Nat) : Int), PT b.gb (b.o + k), Z8 (b.f k), Z8 (x8 (a.f k) (b.f k)), Z8 (o8 (un a.f b.f k) (x8 (a.f k) (b.f k))), .int .i64 ((k + 1 : Nat) : Int)]), rfl, ⟨H9.out.1, H9.out.2⟩, by omega⟩, by omega⟩
  have hkm : k = a.n := by omega
  subst hkm
  refine wp_seq ?_
  refine walk_seqB 1 [.quiet (.bool false)] H5 ?ho9 ?he9
  case ho9 => exact ak (by refine fun γ => ⟨rfl, fun w' h => ?_⟩; clear h; go_simp <;> omega) trivial
  intro _ w10 H10
  clear H5
  refine rest0 rfl (then_normal (wp_seq (wp_cond_false rfl ?_)))
  refine wp_exit ?_
  repeat refine then_exit ?_
  refine block_exit ?_
  refine then_normal (wp_seq ?_)
  refine walk_seqB 3 [.quiet (Z8 (un a.f b.f a.n)), .quiet (.bool (decide (un a.f b.f a.n = 0))), .quiet (.bool (decide (un a.f b.f a.n = 0)))] H10 ?ho10 ?he10
  case ho10 => exact ak (fun _ => ⟨rfl, fun _ _ => rfl⟩) (ak (fun γ => ⟨rfl, fun w' _ => ex_eqz rfl rfl rfl⟩) (ak (fun _ => ⟨rfl, fun _ _ => rfl⟩) trivial))
  intro _ w11 H11
  clear H10
  refine rest0 rfl (then_normal (wp_ret ?_))
  repeat (first | refine then_ret ?_ | refine block_ret ?_)
  refine bodyPost_ret (v := .bool (decide (un a.f b.f a.n = 0))) (by simp [results, Tryd.results35, go_sem, *]) rfl ?_
  exact ⟨rfl, H11.out.2⟩
set_option maxHeartbeats 1000000 in
set_option maxRecDepth 100000 in
theorem Same_unlike (a b : Pt8) (hn : a.n ≠ b.n) (w : World) :
    Calls Tryd.prog 35 #[.slice a.p a.n a.cp, .slice b.p b.n b.cp] w fun e w' => e = .returned (.bool false) ∧ Below w.heap.size w w' := by
  have H0 : Hid (_ ∧ _) := ⟨Mm.nil w, Below.refl w.heap.size w⟩
  go_enter Tryd.func35, Tryd.ntmps35
  refine wp_seq ?_
  refine walk_seqB 1 [.quiet (.bool false)] H0 ?ho1 ?he1
  case ho1 => exact ak (fun _ => ⟨rfl, fun _ _ => rfl⟩) trivial
  intro _ w1 H1
  refine rest0 rfl (then_normal (wp_seq (wp_seq ?_)))
  refine walk_seqB 5 [.quiet (.slice a.p a.n a.cp), .quiet (.int .i64 ((a.n : Nat) : Int)), .quiet (.slice b.p b.n b.cp), .quiet (.int .i64 ((b.n : Nat) : Int)), .quiet (.bool true)] H1 ?ho2 ?he2
  case ho2 => exact ak (fun _ => ⟨rfl, fun _ _ => rfl⟩) (ak (by refine fun γ => ⟨rfl, fun w' h => ?_⟩; clear h; go_simp) (ak (fun _ => ⟨rfl, fun _ _ => rfl⟩) (ak (by refine fun γ => ⟨rfl, fun w' h => ?_⟩; clear h; go_simp) (ak (by refine fun γ => ⟨rfl, fun w' h => ?_⟩; clear h; go_simp <;> omega) trivial))))
  intro _ w2 H2
  clear H1
  refine rest0 rfl (then_normal (wp_cond_true rfl (wp_seq ?_)))
  refine walk_seqB 1 [.quiet (.bool false)] H2 ?ho3 ?he3
  case ho3 => exact ak (fun _ => ⟨rfl, fun _ _ => rfl⟩) trivial
  intro _ w3 H3
  clear H2
  refine rest0 rfl (then_normal (wp_ret ?_))
  repeat (first | refine then_ret ?_ | refine block_ret ?_)
  refine bodyPost_ret (v := .bool false) (by simp [results, Tryd.results35, go_sem, *]) rfl ?_
  exact ⟨rfl, H3.out.2⟩
theorem x8_zero {a b : Nat} (ha : a < 256) (hb : b < 256) : x8 a b = 0 ↔ a = b := by
  unfold x8
  have h : a ^^^ b < 2 ^ 8 := Nat.xor_lt_two_pow ha hb
  rw [Nat.mod_eq_of_lt h]
  constructor
  · intro e
    have e2 : (a ^^^ b) ^^^ b = a := by rw [Nat.xor_assoc, Nat.xor_self, Nat.xor_zero]
    rw [e, Nat.zero_xor] at e2
    exact e2.symm
  · rintro rfl
    exact Nat.xor_self _
theorem o8_zero {a b : Nat} (ha : a < 256) (hb : b < 256) : o8 a b = 0 ↔ a = 0 ∧ b = 0 := by
  unfold o8
  have h : a ||| b < 2 ^ 8 := Nat.or_lt_two_pow ha hb
  rw [Nat.mod_eq_of_lt h, Nat.or_eq_zero_iff]
theorem un_lt (f g : Nat → Nat) : ∀ n, un f g n < 256
  | 0 => by show 0 < 256; decide
  | n + 1 => Nat.mod_lt _ (by decide)
theorem x8_lt (a b : Nat) : x8 a b < 256 := Nat.mod_lt _ (by decide)
theorem un_zero {f g : Nat → Nat} (hf : ∀ j, f j < 256) (hg : ∀ j, g j < 256) : ∀ n, un f g n = 0 ↔ ∀ j, j < n → f j = g j
  | 0 => ⟨fun _ j hj => absurd hj (by omega), fun _ => rfl⟩
  | n + 1 => by
    show o8 (un f g n) (x8 (f n) (g n)) = 0 ↔ _
    rw [o8_zero (un_lt f g n) (x8_lt _ _), un_zero hf hg n, x8_zero (hf n) (hg n)]
    constructor
    · rintro ⟨h1, h2⟩ j hj
      by_cases e : j = n
      · rw [e]; exact h2
      · exact h1 j (by omega)
    · intro h
      exact ⟨fun j hj => h j (by omega), h n (by omega)⟩
end Rg
end Go.Proofs.YtolflfjfegngnaaDoor
end
section
namespace Go.Proofs.YtolflfjfegngnaaDoor
open Go.RowKit
namespace Rg
set_option maxRecDepth 100000
/-- A part that can be read, while nothing old is changed. -/
structure Bq (q : Pt8) (w w' : World) : Prop where
  b : Below w.heap.size w w'
  r : q.rs w'
theorem Bq.grow {q : Pt8} {w w1 w2 : World} (h : Bq q w w1) (hb : Below w1.heap.size w1 w2) : Bq q w w2 := ⟨h.b.trans (hb.mono h.b.size), h.r.below hb⟩
theorem Bq.size {q : Pt8} {w w1 : World} (h : Bq q w w1) : w.heap.size ≤ w1.heap.size := h.b.size
theorem ct_zero (f g : Nat → Nat) : ct f 0 g = g := by
  funext j
  unfold ct
  rw [if_neg (by omega), Nat.sub_zero]
section
variable {ρ : Operand → Value} {o : Oper} {x y z : Operand} {a c : Nat} {w : World}
theorem ex_made25 (ho : o.op = .alloc 25) : (execOp ρ o).run Tryd.prog w = .ok (.value (PT w.heap.size 0)) (w.alloc (.cells (ints .u8 (fun _ => 0) 32).toArray 25)) := ex_mk25 ho
end
end Rg
end Go.Proofs.YtolflfjfegngnaaDoor
end
section
namespace Go.Proofs.YtolflfjfegngnaaDoor
open Go.RowKit
namespace Rg
set_option maxRecDepth 100000
theorem Zo.blk {w w1 : World} {B n g cap : Nat} {l : List (Nat × List Value)} {P : Nat → Nat} (h : Zo w B l (.slice (some ⟨g, 0, none⟩) n cap) n P w1) : B ≤ g ∧ g < w1.heap.size ∧ n ≤ cap ∧ Blk w1 g (ints .u8 P n) := by
  have hl := World.ownsRow.lt h.own g rfl
  refine ⟨hl.1, hl.2, ?_, fun j v hj => ?_⟩
  · rcases h.own.2 with ⟨h1, _⟩ | ⟨g', cap', cur, h1, _, _, h2, _⟩
    · cases h1
    · injection h1 with _ _ e
      rw [e]
      exact h2
  · have hjn : j < n := by
      have := (List.getElem?_eq_some_iff.1 hj).1
      rwa [ints_len] at this
    refine ⟨?_, World.ownsRow.frozenAt h.own j⟩
    rw [World.ownsRow.cellAt h.own j (by omega)]
    exact hj
section
variable {ρ : Operand → Value} {o : Oper} {x y : Operand} {z : Int} {w : World}
end
end Rg
theorem nums_inj {xs ys : List Int} (hx : ∀ x ∈ xs, 0 ≤ x ∧ x < 256) (hy : ∀ x ∈ ys, 0 ≤ x ∧ x < 256) (e : (xs.map fun n => UInt8.ofNat n.toNat) = ys.map fun n => UInt8.ofNat n.toNat) : xs = ys := by
  have hl : xs.length = ys.length := by
    have := congrArg List.length e
    simpa using this
  apply List.ext_getElem hl
  intro i h1 h2
  have e1 := congrArg (fun l => l[i]?) e
  simp [h1, h2] at e1
  have a1 := hx _ (List.getElem_mem h1)
  have a2 := hy _ (List.getElem_mem h2)
  have e2 := congrArg UInt8.toNat e1
  rw [UInt8.toNat_ofNat', UInt8.toNat_ofNat'] at e2
  omega
set_option maxHeartbeats 400000 in
theorem same_all {xs ys : List Int} {c c' : Nat} {v v' : Value} (hx : ∀ x ∈ xs, 0 ≤ x ∧ x < 256) (hy : ∀ x ∈ ys, 0 ≤ x ∧ x < 256) (w : World) (h : BSl w xs c v) (h' : BSl w ys c' v') :
    Calls Tryd.prog 36 #[v, v'] w fun e w' => e = .returned (.bool (decide (xs = ys))) ∧ w' = w := by
  have h1 := h.text
  have h2 := h'.text
  have hb : ∀ l : List Int, (strOfNums l).toList = l.map (fun n => UInt8.ofNat n.toNat) := fun l => by
    rw [Lib.strOfNums_toList]
    rfl
  have h3 : ((strOfNums xs).toList == (strOfNums ys).toList) = decide (xs = ys) := by
    rw [hb, hb]
    by_cases e : xs = ys
    · rw [e]; simp
    · rw [decide_eq_false e]
      exact beq_eq_false_iff_ne.2 (fun e2 => e (nums_inj hx hy e2))
  rw [← h3]
  clear h h' h3 hx hy hb
  go_enter Tryd.func36, Tryd.ntmps36
  go_wp2
  go_ret
  exact ⟨rfl, rfl⟩
namespace Rg
end Rg
end Go.Proofs.YtolflfjfegngnaaDoor
end
section
namespace Go.Proofs.YtolflfjfegngnaaDoor
open Go.RowKit
namespace Rg
set_option maxRecDepth 100000
/-- A part with room behind it. -/
def pc (g n c : Nat) (f : Nat → Nat) : Pt8 := ⟨g, 0, n, c, some ⟨g, 0, none⟩, f⟩
theorem pc_ok (g n x : Nat) (f : Nat → Nat) : Pok (pc g n (n + x) f) := ⟨Bv.start _ _ _ _, Nat.le_add_right _ _⟩
section
variable {ρ : Operand → Value} {o : Oper} {x y : Operand} {a b : Nat} {w : World}
end
theorem Same_yes (a b : Pt8) (ha : Pok a) (hb : Pok b) (hn : a.n = b.n) (hna : a.n < 4611686018427387904) (hu : un a.f b.f a.n = 0) (w : World) (hRa : a.rs w) (hRb : b.rs w) : Calls Tryd.prog 35 #[.slice a.p a.n a.cp, .slice b.p b.n b.cp] w fun e w' => e = .returned (.bool true) ∧ Below w.heap.size w w' := by
  have h := Same_like a b ha hb hn hna w hRa hRb
  rw [hu] at h
  exact h
end Rg
end Go.Proofs.YtolflfjfegngnaaDoor
end
section
namespace Go.Proofs.YtolflfjfegngnaaDoor
open Go.RowKit
namespace Rg
set_option maxRecDepth 100000
theorem Zo.mm {w w1 : World} {B n g cap : Nat} {l : List (Nat × List Value)} {P : Nat → Nat} (h : Zo w B l (.slice (some ⟨g, 0, none⟩) n cap) n P w1) : Mm w1 ((g, ints .u8 P n) :: l) :=
  h.m.cons h.blk.2.2.2 h.blk.2.1 (fun p hp => by have h1 := h.lt p hp; have h2 := h.blk.1; omega)
theorem Zo.appQ {w w1 : World} {B n0 : Nat} {l : List (Nat × List Value)} {vv : Value} {P : Nat → Nat} (h : Zo w B l vv n0 P w1) {q : Pt8} (hB : Bv q.gb q.o q.n q.cp 0 (.slice q.p q.n q.cp)) (hN : q.p = none → q.cp = 0) (hR : Rs q.gb q.o q.n q.f w1) (hb : n0 + q.n ≤ 2097152) (ty : TypeId) :
    ∃ v' w2, (Builtin.append_ #[22, 22] ty #[vv, .slice q.p q.n q.cp]).run Tryd.prog w1 = .ok v' w2 ∧ Zo w B l v' (n0 + q.n) (ct P n0 q.f) w2 := by
  obtain ⟨gb, o, n, cp, p, f⟩ := q
  simp only at hB hN hR hb ⊢
  cases p with
  | none =>
    have hn : n = 0 := by
      rcases Nat.eq_zero_or_pos n with e | e
      · exact e
      · have := hB.1 e
        simp at this
    have hc := hN rfl
    subst hn hc
    exact ⟨vv, w1, h.app0 ty, h.cg (fun j hj => by unfold ct; rw [if_pos hj])⟩
  | some a =>
    refine h.app (a := a) n cp f (fun j hj => ?_) hb ty
    have e := hB.1 (by omega)
    injection e with e1
    injection e1 with e1
    rw [e1]
    exact hR.add j hj
/-- The part that a slice handed in is. -/
theorem bsl_part {w : World} {xs : List Int} {c : Nat} {v : Value} (hx : ∀ x ∈ xs, 0 ≤ x ∧ x < 256) (h : BSl w xs c v) (h0 : v = .slice none 0 0 ∨ ∃ a k c', v = .slice (some a) k c') :
    ∃ q : Pt8, v = .slice q.p q.n q.cp ∧ Pok q ∧ (q.p = none → q.cp = 0) ∧ q.rs w ∧ q.n = xs.length ∧ q.f = lf xs ∧ q.cp = c := by
  cases h using BSl.each with
  | full g o hg hc hcell =>
    refine ⟨⟨g, o, xs.length, c, some ⟨g, o, none⟩, lf xs⟩, rfl, ⟨Bv.start _ _ _ _, hc⟩, (fun e => by cases e), ⟨fun _ => hg, fun i hi => ?_⟩, rfl, rfl, rfl⟩
    rw [hcell i hi]
    have e := lf_int hx i
    show some (Value.int .u8 (xs.getD i 0)) = some (Value.int .u8 ((lf xs i : Nat) : Int))
    rw [e]
    unfold lent
    rw [if_pos hi]
  | void p hx' =>
    subst hx'
    refine ⟨⟨0, 0, 0, c, p, lf []⟩, rfl, ⟨Bv.void _ _ _ _ _, Nat.zero_le _⟩, fun e => ?_, Rs.void _ _ _ _, rfl, rfl, rfl⟩
    have e' : p = none := e
    subst e'
    rcases h0 with h0 | ⟨a, k, c', h0⟩
    · injection h0
    · injection h0 with h1
      cases h1
end Rg
end Go.Proofs.YtolflfjfegngnaaDoor
end
section
namespace Go.Proofs.YtolflfjfegngnaaDoor
open Go.RowKit
namespace Rg
set_option maxRecDepth 100000
section
variable {ρ : Operand → Value} {o : Oper} {x y : Operand} {a b : Nat} {w : World}
end
end Rg
end Go.Proofs.YtolflfjfegngnaaDoor
end
section
namespace Go.Proofs.YtolflfjfegngnaaDoor
open Go.RowKit
namespace Rg
set_option maxRecDepth 100000
def Dv (v : Value) (n : Nat) (f : Nat → Nat) (w : World) : Prop := (v = .slice none 0 0 ∧ n = 0) ∨ ∃ a cp, v = .slice (some a) n cp ∧ Ra a n f w
theorem Dv.below {v : Value} {n : Nat} {f : Nat → Nat} {w w' : World} (h : Dv v n f w) (hb : Below w.heap.size w w') : Dv v n f w' := by
  rcases h with h | ⟨a, cp, e, h⟩
  · exact .inl h
  · exact .inr ⟨a, cp, e, h.below hb⟩
end Rg
end Go.Proofs.YtolflfjfegngnaaDoor
end
section
namespace Go.Proofs.YtolflfjfegngnaaDoor
open Go.RowKit
namespace Rg
set_option maxRecDepth 100000
theorem Zo.form0 {w w1 : World} {B n : Nat} {l : List (Nat × List Value)} {vv : Value} {P : Nat → Nat} (h : Zo w B l vv n P w1) : ∃ p c, vv = .slice p n c := by
  rcases h.own.2 with ⟨h1, h2⟩ | ⟨g, cap, cur, h1, _⟩
  · subst h2
    exact ⟨_, _, h1⟩
  · exact ⟨_, _, h1⟩
theorem own_doc {w1 : World} {B n : Nat} {vv : Value} {P : Nat → Nat} (h : w1.ownsRow B 5 1 vv n (ints .u8 P n)) : Dv vv n P w1 := by
  rcases h.2 with ⟨h1, h2⟩ | ⟨g, cap, cur, h1, h2⟩
  · exact .inl ⟨h1, h2⟩
  · refine .inr ⟨⟨g, 0, none⟩, cap, h1, fun _ => ?_, fun j hj => ?_⟩
    · subst h1
      exact (World.ownsRow.lt h g rfl).2
    · subst h1
      exact World.ownsRow.cells h rfl j _ (ints_get .u8 P hj)
/-- Two slices of the call's own, beside blocks l. -/
structure Z2 (w : World) (B : Nat) (l : List (Nat × List Value)) (v1 : Value) (n1 : Nat) (P1 : Nat → Nat) (v2 : Value) (n2 : Nat) (P2 : Nat → Nat) (w' : World) : Prop where
  b : Below w.heap.size w w'
  lo : w.heap.size ≤ B
  hi : B ≤ w'.heap.size
  m : Mm w' l
  lt : ∀ p ∈ l, p.1 < B
  o1 : w'.ownsRow B 5 1 v1 n1 (ints .u8 P1 n1)
  o2 : w'.ownsRow B 5 1 v2 n2 (ints .u8 P2 n2)
  ne : v1.ownBlock = none ∨ v1.ownBlock ≠ v2.ownBlock
theorem own_step {w1 w2 : World} {B n : Nat} {vv : Value} {P : Nat → Nat} (h : w1.ownsRow B 5 1 vv n (ints .u8 P n)) (hb : Below w1.heap.size w1 w2) : w2.ownsRow B 5 1 vv n (ints .u8 P n) := by
  refine ⟨h.1, ?_⟩
  rcases h.2 with ⟨h1, h2⟩ | ⟨g, cap, cur, h1, h2, h3, h4⟩
  · exact .inl ⟨h1, h2⟩
  · refine .inr ⟨g, cap, cur, h1, h2, ?_, h4⟩
    rw [hb.block g (Array.getElem?_eq_some_iff.1 h3).1]
    exact h3
theorem own_cg {w1 : World} {B n : Nat} {vv : Value} {P P' : Nat → Nat} (h : w1.ownsRow B 5 1 vv n (ints .u8 P n)) (e : ∀ j, j < n → P j = P' j) : w1.ownsRow B 5 1 vv n (ints .u8 P' n) := by
  rw [ints_congr e] at h
  exact h
theorem own_app {w1 : World} {B n : Nat} {vv : Value} {P : Nat → Nat} (h : w1.ownsRow B 5 1 vv n (ints .u8 P n)) (hB : B ≤ w1.heap.size) {a : Addr} (m c : Nat) (Q : Nat → Nat) (hr : ∀ j, j < m → w1.cell? (a.add j) = some (Z8 (Q j))) (hb : n + m ≤ 2097152) (ty : TypeId) :
    ∃ v' w2, (Builtin.append_ #[22, 22] ty #[vv, .slice (some a) m c]).run Tryd.prog w1 = .ok v' w2 ∧ w2.ownsRow B 5 1 v' (n + m) (ints .u8 (ct P n Q) (n + m)) ∧ w1.grownBy w2 vv.ownBlock ∧ (v'.ownBlock = vv.ownBlock ∨ v'.ownBlock = some w1.heap.size) := by
  obtain ⟨i0, hi, hz0, hz1, hz2⟩ := info_byte
  obtain ⟨v', w2, h1, h2, h3, _, h5⟩ := run_append_own_at (P := Tryd.prog) w1 B 22 ty 5 i0 (.int .u8 0) 1 1 Tryd.underlying22 hi hz0 hz1 hz2 rfl (by decide) vv n _ h a m c (ints .u8 Q m) (by rw [ints_len]; omega)
    (fun j u hj => by
      have hjm : j < m := by
        have := (List.getElem?_eq_some_iff.1 hj).1
        rwa [ints_len] at this
      rw [ints_get _ _ hjm] at hj
      rw [hr j hjm]
      exact hj) (List.all_eq_true.1 (ints_all _ _ _)) (by unfold maxLen; omega) (by omega) hB
  rw [ints_cat] at h2
  exact ⟨v', w2, h1, h2, h3, h5⟩
section
variable {w w1 w2 : World} {B n1 n2 : Nat} {l : List (Nat × List Value)} {v1 v2 : Value} {P1 P2 P' : Nat → Nat}
theorem Z2.size (h : Z2 w B l v1 n1 P1 v2 n2 P2 w1) : w.heap.size ≤ w1.heap.size := h.b.size
theorem Z2.step (h : Z2 w B l v1 n1 P1 v2 n2 P2 w1) (hb : Below w1.heap.size w1 w2) : Z2 w B l v1 n1 P1 v2 n2 P2 w2 :=
  ⟨h.b.trans (hb.mono h.b.size), h.lo, Nat.le_trans h.hi hb.size, h.m.below hb, h.lt, own_step h.o1 hb, own_step h.o2 hb, h.ne⟩
theorem Z2.nil (hm : Mm w1 l) (hb : Below w.heap.size w w1) (P1 P2 : Nat → Nat) : Z2 w w1.heap.size l (.slice none 0 0) 0 P1 (.slice none 0 0) 0 P2 w1 :=
  ⟨hb, hb.size, Nat.le_refl _, hm, fun p hp => (hm.blk p hp).1, World.ownsRow_nil _ _ _ _, World.ownsRow_nil _ _ _ _, .inl rfl⟩
theorem Z2.swap (h : Z2 w B l v1 n1 P1 v2 n2 P2 w1) : Z2 w B l v2 n2 P2 v1 n1 P1 w1 :=
  ⟨h.b, h.lo, h.hi, h.m, h.lt, h.o2, h.o1, by
    rcases h.ne with e | e
    · rcases hv : v2.ownBlock with _ | g
      · exact .inl rfl
      · rw [e]; exact .inr (by simp)
    · exact .inr (Ne.symm e)⟩
theorem Z2.cg1 (h : Z2 w B l v1 n1 P1 v2 n2 P2 w1) (e : ∀ j, j < n1 → P1 j = P' j) : Z2 w B l v1 n1 P' v2 n2 P2 w1 :=
  ⟨h.b, h.lo, h.hi, h.m, h.lt, own_cg h.o1 e, h.o2, h.ne⟩
theorem Z2.cg2 (h : Z2 w B l v1 n1 P1 v2 n2 P2 w1) (e : ∀ j, j < n2 → P2 j = P' j) : Z2 w B l v1 n1 P1 v2 n2 P' w1 :=
  ⟨h.b, h.lo, h.hi, h.m, h.lt, h.o1, own_cg h.o2 e, h.ne⟩
theorem Z2.app1 (h : Z2 w B l v1 n1 P1 v2 n2 P2 w1) {a : Addr} (m c : Nat) (Q : Nat → Nat) (hr : ∀ j, j < m → w1.cell? (a.add j) = some (Z8 (Q j))) (hb : n1 + m ≤ 2097152) (ty : TypeId) :
    ∃ v' w2, (Builtin.append_ #[22, 22] ty #[v1, .slice (some a) m c]).run Tryd.prog w1 = .ok v' w2 ∧ Z2 w B l v' (n1 + m) (ct P1 n1 Q) v2 n2 P2 w2 := by
  obtain ⟨v', w2, h1, h2, h3, h5⟩ := own_app h.o1 h.hi m c Q hr hb ty
  have hb2 : Below B w1 w2 := (Below.refl _ _).grown h3 h.hi (fun k hk => (World.ownsRow.lt h.o1 k hk).1)
  have hne2 : v2.ownBlock = none ∨ v2.ownBlock ≠ v1.ownBlock := h.swap.ne
  refine ⟨v', w2, h1, h.b.trans (hb2.mono h.lo), h.lo, Nat.le_trans h.hi hb2.size, ⟨fun p hp => ⟨Nat.lt_of_lt_of_le (h.m.blk p hp).1 hb2.size, (h.m.blk p hp).2.below hb2 (h.lt p hp)⟩, h.m.nd⟩, h.lt, h2, h.o2.kept h3 hne2, ?_⟩
  rcases h5 with e | e
  · rw [e]; exact h.ne
  · refine .inr (fun e2 => ?_)
    rw [e] at e2
    have := (World.ownsRow.lt h.o2 _ e2.symm).2
    omega
theorem Z2.app2 (h : Z2 w B l v1 n1 P1 v2 n2 P2 w1) {a : Addr} (m c : Nat) (Q : Nat → Nat) (hr : ∀ j, j < m → w1.cell? (a.add j) = some (Z8 (Q j))) (hb : n2 + m ≤ 2097152) (ty : TypeId) :
    ∃ v' w2, (Builtin.append_ #[22, 22] ty #[v2, .slice (some a) m c]).run Tryd.prog w1 = .ok v' w2 ∧ Z2 w B l v1 n1 P1 v' (n2 + m) (ct P2 n2 Q) w2 := by
  obtain ⟨v', w2, h1, h2⟩ := h.swap.app1 m c Q hr hb ty
  exact ⟨v', w2, h1, h2.swap⟩
theorem Z2.appQ1 (h : Z2 w B l v1 n1 P1 v2 n2 P2 w1) {q : Pt8} (hq : Pok q) (hN : q.p = none → q.cp = 0) (hR : q.rs w1) (hb : n1 + q.n ≤ 2097152) (ty : TypeId) :
    ∃ v' w2, (Builtin.append_ #[22, 22] ty #[v1, .slice q.p q.n q.cp]).run Tryd.prog w1 = .ok v' w2 ∧ Z2 w B l v' (n1 + q.n) (ct P1 n1 q.f) v2 n2 P2 w2 := by
  obtain ⟨gb, o, n, cp, p, f⟩ := q
  obtain ⟨hB, hle⟩ := hq
  simp only [Pt8.rs] at hB hN hR hb hle ⊢
  cases p with
  | none =>
    have hn : n = 0 := by
      rcases Nat.eq_zero_or_pos n with e | e
      · exact e
      · have := hB.1 e
        simp at this
    have hc := hN rfl
    subst hn hc
    obtain ⟨i0, hi, _, _, _⟩ := info_byte
    exact ⟨v1, w1, run_append_owned_none (P := Tryd.prog) (w := w1) B 22 ty 5 i0 1 Tryd.underlying22 hi v1 n1 _ h.o1, h.cg1 (fun j hj => by unfold ct; rw [if_pos hj])⟩
  | some a =>
    refine h.app1 (a := a) n cp f (fun j hj => ?_) hb ty
    have e := hB.1 (by omega)
    injection e with e1
    injection e1 with e1
    rw [e1]
    exact hR.add j hj
end
theorem own_mono {w1 : World} {B B' n : Nat} {vv : Value} {xs : List Value} (h : w1.ownsRow B 5 1 vv n xs) (hB : B' ≤ B) : w1.ownsRow B' 5 1 vv n xs := by
  refine ⟨h.1, ?_⟩
  rcases h.2 with h1 | ⟨g, cap, cur, h1, h2, h3⟩
  · exact .inl h1
  · exact .inr ⟨g, cap, cur, h1, Nat.le_trans hB h2, h3⟩
/-- A slice of the call's own, apart from the blocks L. -/
structure Ow (w : World) (L : List Nat) (vv : Value) (n : Nat) (P : Nat → Nat) (w' : World) : Prop where
  b : Below w.heap.size w w'
  own : w'.ownsRow w.heap.size 5 1 vv n (ints .u8 P n)
  ne : ∀ g ∈ L, some g ≠ vv.ownBlock
section
variable {w w1 w2 : World} {B n n2 : Nat} {L : List Nat} {l : List (Nat × List Value)} {vv v2 : Value} {P P' P2 : Nat → Nat}
theorem Ow.size (h : Ow w L vv n P w1) : w.heap.size ≤ w1.heap.size := h.b.size
theorem Ow.step (h : Ow w L vv n P w1) (hb : Below w1.heap.size w1 w2) : Ow w L vv n P w2 := ⟨h.b.trans (hb.mono h.b.size), own_step h.own hb, h.ne⟩
theorem Ow.cg (h : Ow w L vv n P w1) (e : ∀ j, j < n → P j = P' j) : Ow w L vv n P' w1 := ⟨h.b, own_cg h.own e, h.ne⟩
theorem Ow.alloc (h : Ow w L vv n P w1) (o : Obj) : Ow w (w1.heap.size :: L) vv n P (w1.alloc o) :=
  ⟨h.b.trans (((Below.refl _ _).alloc (Nat.le_refl _) _).mono h.b.size), own_step h.own ((Below.refl _ _).alloc (Nat.le_refl _) _), fun g hg e => by
    rcases List.mem_cons.1 hg with rfl | hg
    · have := (World.ownsRow.lt h.own _ e.symm).2
      omega
    · exact h.ne g hg e⟩
theorem Ow.put (h : Ow w L vv n P w1) {g off : Nat} {vs : List Value} (hg : g ∈ L) (ho : w.heap.size ≤ g) : Ow w L vv n P (w1.setCells g off vs) := by
  refine ⟨below_setCells _ ho _ _ _ h.b, ⟨h.own.1, ?_⟩, h.ne⟩
  rcases h.own.2 with h1 | ⟨k, cap, cur, h1, h2, h3, h4⟩
  · exact .inl h1
  · refine .inr ⟨k, cap, cur, h1, h2, ?_, h4⟩
    have hk : k ≠ g := fun e => h.ne g hg (by rw [h1, ← e]; rfl)
    rw [heap_setCells0 g k hk]
    exact h3
theorem Ow.app (h : Ow w L vv n P w1) (hm : Mm w1 l) (hl : l.map Prod.fst = L) {a : Addr} (m c : Nat) (Q : Nat → Nat) (hr : ∀ j, j < m → w1.cell? (a.add j) = some (Z8 (Q j))) (hb : n + m ≤ 2097152) (ty : TypeId) :
    ∃ v' w2, (Builtin.append_ #[22, 22] ty #[vv, .slice (some a) m c]).run Tryd.prog w1 = .ok v' w2 ∧ Ow w L v' (n + m) (ct P n Q) w2 ∧ Mm w2 l := by
  obtain ⟨v', w2, h1, h2, h3, h5⟩ := own_app h.own h.b.size m c Q hr hb ty
  have hb2 : Below w.heap.size w1 w2 := (Below.refl _ _).grown h3 h.b.size (fun k hk => (World.ownsRow.lt h.own k hk).1)
  have hne : ∀ p ∈ l, some p.1 ≠ vv.ownBlock := fun p hp => h.ne p.1 (by rw [← hl]; exact List.mem_map_of_mem hp)
  refine ⟨v', w2, h1, ⟨h.b.trans hb2, h2, fun g hg e => ?_⟩, ⟨fun p hp => ?_, hm.nd⟩⟩
  · rcases h5 with e5 | e5
    · exact h.ne g hg (e.trans e5)
    · rw [e5] at e
      rw [← hl] at hg
      obtain ⟨p, hp, e6⟩ := List.mem_map.1 hg
      have := (hm.blk p hp).1
      injection e with e
      omega
  · have hlt := (hm.blk p hp).1
    have hblk := h3.block p.1 hlt (hne p hp)
    refine ⟨Nat.lt_of_lt_of_le hlt hb2.size, fun j v hj => ?_⟩
    have := (hm.blk p hp).2 j v hj
    rw [World.cell?_of_block (a := ⟨p.1, j, none⟩) hblk, World.frozen?_of_block (a := ⟨p.1, j, none⟩) hblk]
    exact this
theorem Z2.ow {v1 : Value} {n1 : Nat} {P1 : Nat → Nat} (h : Z2 w B l v1 n1 P1 v2 n2 P2 w1) (hl : l.map Prod.fst = L) : Ow w L v2 n2 P2 w1 :=
  ⟨h.b, own_mono h.o2 h.lo, fun g hg e => by
    rw [← hl] at hg
    obtain ⟨p, hp, e6⟩ := List.mem_map.1 hg
    have h1 := h.lt p hp
    have h2 := (World.ownsRow.lt h.o2 _ e.symm).1
    omega⟩
end
/-- A key's block, as the document fills it. -/
def kz (f : Nat → Nat) (n : Nat) : Nat → Nat := fun j => if j < n then f j else 0
theorem kz_lt (f : Nat → Nat) (n j : Nat) (h : j < n) : f j = kz f n j := by unfold kz; rw [if_pos h]
theorem kz_ge (f : Nat → Nat) (n k : Nat) : 0 = kz f n (n + k) := by unfold kz; rw [if_neg (by omega)]
/-- The document's code of a message under a block. -/
def dh (K f : Nat → Nat) (n : Nat) : Nat → Nat := ds (ct (mk8 K 92) 64 (ds (ct (mk8 K 54) 64 f) (64 + n))) (64 + 32)
set_option maxHeartbeats 8000000 in
set_option maxRecDepth 100000 in
theorem dCode_short (a b : Pt8) (ha : Pok a) (hb : Pok b) (hNa0 : a.p = none → a.cp = 0) (hNb0 : b.p = none → b.cp = 0) (hna : a.n ≤ 1048576) (hnb : b.n ≤ 1000000) (h64 : a.n ≤ 64) (w : World) (hRa : a.rs w) (hRb : b.rs w) :
    Calls Tryd.prog 33 #[.slice a.p a.n a.cp, .slice b.p b.n b.cp] w fun e w' => e = .returned (.agg (ints .u8 (dh (kz a.f a.n) b.f b.n) 32).toArray) ∧ Below w.heap.size w w' := by
  have H0 : Hid (_ ∧ _) := ⟨Mm.nil w, Below.refl w.heap.size w⟩
  have RA : Hid (a.rs w) := hRa
  have RB : Hid (b.rs w) := hRb
  have hNa : Hid _ := hNa0
  have hNb : Hid _ := hNb0
  obtain ⟨NN, hNN⟩ : ∃ NN, NN = 64 - a.n := ⟨_, rfl⟩
  clear hRa hRb hNa0 hNb0
  go_enter Tryd.func33, Tryd.ntmps33
  refine wp_seq ?_
  refine walk_seqA 1 [.made (ints .u8 (fun _ => 0) 32) 25] (sB H0) ?ho1 ?he1
  case ho1 => exact ak (fun γ => ⟨rfl, fun w' => ex_mk25 rfl⟩) trivial
  intro γ w1 l hM hl
  have H1 : Hid (Mm w1 [(γ 0, ints .u8 (fun _ => 0) 32)] ∧ _) := growB H0 hM (Nat.le_refl _) hl [0] rfl (by decide)
  have o1_0 := ownB H0 hM (Nat.le_refl _) hl (i := 0) rfl
  clear hM hl l
  generalize γ 0 = γ1_0 at H1 o1_0 ⊢
  clear γ
  refine rest0 rfl (then_normal (wp_seq ?_))
  refine walk_seqB 0 [] H1 ?ho2 ?he2
  case ho2 => exact trivial
  intro _ w2 H2
  clear H1
  refine rest_at (l := [0, 1, 2, 3]) rfl ?_
  refine rest_set (d := 11) (v := .slice (some ⟨w2.heap.size, 0, none⟩) 0 0) (w' := (w2.alloc (.cells #[] 5))) rfl rfl rfl (ex_bs0 rfl) ?_
  simp only [Act.put, sa, sz, ss]
  have hz := Zo.made (fun _ => 0) H2.out.1 H2.out.2
  have H3 : Hid (Mm (w2.alloc (.cells #[] 5)) [(γ1_0, ints .u8 (fun _ => 0) 32)] ∧ Zo w w2.heap.size [(γ1_0, ints .u8 (fun _ => 0) 32)] (.slice (some ⟨w2.heap.size, 0, none⟩) 0 0) 0 (fun _ => 0) (w2.alloc (.cells #[] 5))) := ⟨hz.m, hz⟩
  clear hz H2
  generalize hgw : (w2.alloc (.cells #[] 5)) = w3 at H3 ⊢
  clear hgw
  generalize w2.heap.size = γb3 at H3 ⊢
  refine rest_set (d := 12) (v := .slice a.p a.n a.cp) (w' := w3) rfl rfl rfl rfl ?_
  simp only [Act.put, sa, sz, ss]
  obtain ⟨v4, w4, hr, hZ⟩ := H3.out.2.appQ (q := a) ha.bv hNa.out (RA.out.below H3.out.2.b) (by omega) 22
  refine rest_set (d := 13) (v := v4) (w' := w4) rfl rfl rfl (ex_app rfl rfl rfl hr) ?_
  simp only [Act.put, sa, sz, ss]
  have hZ2 : Zo w γb3 [(γ1_0, ints .u8 (fun _ => 0) 32)] v4 a.n a.f w4 := by rw [Nat.zero_add] at hZ; exact hZ.cg (fun j _ => by rw [ct_zero])
  have H4 : Hid (Mm w4 [(γ1_0, ints .u8 (fun _ => 0) 32)] ∧ Zo w γb3 [(γ1_0, ints .u8 (fun _ => 0) 32)] v4 a.n a.f w4) := ⟨hZ2.m, hZ2⟩
  clear hr hZ hZ2 H3
  refine rest_set (d := 5) (v := v4) (w' := w4) rfl rfl rfl rfl ?_
  simp only [Act.put, sa, sz, ss]
  refine rest_nil ?_
  obtain ⟨p1, c1, e1⟩ := H4.out.2.form0
  rw [e1] at H4 ⊢
  clear e1
  refine then_normal (wp_seq (wp_seq ?_))
  refine walk_seqA 3 [.quiet (.slice p1 a.n c1), .quiet (.int .i64 ((a.n : Nat) : Int)), .quiet (.bool false)] (sB H4) ?ho3 ?he3
  case ho3 => exact ak (fun _ => ⟨rfl, fun _ _ => rfl⟩) (ak (by refine fun γ => ⟨rfl, fun w' h => ?_⟩; clear h; go_simp) (ak (by refine fun γ => ⟨rfl, fun w' h => ?_⟩; clear h; go_simp <;> omega) trivial))
  intro γ w5 l hM hl
  have M5 : Mm w5 [(γ1_0, ints .u8 (fun _ => 0) 32)] := H4.out.1.grow hM (Nat.le_refl _) hl [] rfl (by decide)
  have B5 : Zo w γb3 [(γ1_0, ints .u8 (fun _ => 0) 32)] (.slice p1 a.n c1) a.n a.f w5 := Zo.step H4.out.2 (hM.below)
  clear hM hl l H4
  clear γ
  have H5 : Hid (_ ∧ _) := ⟨M5, B5⟩
  clear M5 B5
  refine rest0 rfl (then_normal (wp_cond_false rfl ?_))
  refine wp_skip (then_normal (wp_seq ?_))
  have hz0 := H5.out.2.cg (kz_lt a.f a.n)
  have H6 : Hid (Mm w5 [(γ1_0, ints .u8 (fun _ => 0) 32)] ∧ Zo w γb3 [(γ1_0, ints .u8 (fun _ => 0) 32)] (.slice p1 a.n c1) a.n (kz a.f a.n) w5) := ⟨hz0.m, hz0⟩
  clear hz0 H5
  refine wp_block ?_
  refine loop_ghost (α := Nat) (fun k a' w' => ∃ s0 : Nat → Value, a' = ⟨#[.slice a.p a.n a.cp, .slice b.p b.n b.cp, undef, undef, PT γ1_0 0, s0 5, undef, undef, undef, undef, undef, .slice (some ⟨γb3, 0, none⟩) 0 0, .slice a.p a.n a.cp, .slice p1 a.n c1, .slice p1 a.n c1, .int .i64 ((a.n : Nat) : Int), .bool false, undef, undef, undef, undef, undef, s0 22, s0 23, s0 24, s0 25, s0 26, s0 27, undef, undef, undef, undef, undef, undef, undef, undef, undef, undef, undef, undef, undef, undef, undef, undef, undef, undef, undef, undef, undef, undef, undef, undef, undef, undef, undef, undef], []⟩ ∧ (Mm w' [(γ1_0, ints .u8 (fun _ => 0) 32)] ∧ Zo w γb3 [(γ1_0, ints .u8 (fun _ => 0) 32)] (s0 5) (a.n + k) (kz a.f a.n) w') ∧ k ≤ NN) (fun k => NN - k) 0 ?st0 ?rd0
  case st0 => exact ⟨(slotfn [undef, undef, undef, undef, undef, .slice p1 a.n c1, undef, undef, undef, undef, undef, undef, undef, undef, undef, undef, undef, undef, undef, undef, undef, undef, undef, undef, undef, undef, undef, undef]), rfl, ⟨H6.out.1, H6.out.2⟩, by omega⟩
  intro k a' w7 hI
  obtain ⟨s0, rfl, hMB, hk0⟩ := hI
  have H7 : Hid (_ ∧ _) := hMB
  clear hMB H6
  by_cases hlt : k < NN
  · have hrd : True := trivial
    clear hrd
    obtain ⟨p7, c7, e7⟩ := H7.out.2.form0
    rw [e7] at H7 ⊢
    clear e7
    refine wp_seq (wp_seq ?_)
    refine walk_seqA 3 [.quiet (.slice p7 (a.n + k) c7), .quiet (.int .i64 ((a.n + k : Nat) : Int)), .quiet (.bool true)] (sB H7) ?ho4 ?he4
    case ho4 => exact ak (fun _ => ⟨rfl, fun _ _ => rfl⟩) (ak (by refine fun γ => ⟨rfl, fun w' h => ?_⟩; clear h; go_simp) (ak (by refine fun γ => ⟨rfl, fun w' h => ?_⟩; clear h; go_simp <;> omega) trivial))
    intro γ w8 l hM hl
    have M8 : Mm w8 [(γ1_0, ints .u8 (fun _ => 0) 32)] := H7.out.1.grow hM (Nat.le_refl _) hl [] rfl (by decide)
    have B8 : Zo w γb3 [(γ1_0, ints .u8 (fun _ => 0) 32)] (.slice p7 (a.n + k) c7) (a.n + k) (kz a.f a.n) w8 := Zo.step H7.out.2 (hM.below)
    clear hM hl l H7
    clear γ
    have H8 : Hid (_ ∧ _) := ⟨M8, B8⟩
    clear M8 B8
    refine rest0 rfl (then_normal (wp_cond_true rfl ?_))
    refine wp_skip (then_normal (wp_block ?_))
    refine walk_seqA 1 [.quiet (.slice p7 (a.n + k) c7)] (sB H8) ?ho5 ?he5
    case ho5 => exact ak (fun _ => ⟨rfl, fun _ _ => rfl⟩) trivial
    intro γ w9 l hM hl
    have M9 : Mm w9 [(γ1_0, ints .u8 (fun _ => 0) 32)] := H8.out.1.grow hM (Nat.le_refl _) hl [] rfl (by decide)
    have B9 : Zo w γb3 [(γ1_0, ints .u8 (fun _ => 0) 32)] (.slice p7 (a.n + k) c7) (a.n + k) (kz a.f a.n) w9 := Zo.step H8.out.2 (hM.below)
    clear hM hl l H8
    clear γ
    have H9 : Hid (_ ∧ _) := ⟨M9, B9⟩
    clear M9 B9
    refine rest_at (l := [1, 2, 3]) rfl ?_
    refine rest_set (d := 26) (v := .slice (some ⟨w9.heap.size, 0, none⟩) 1 1) (w' := (w9.alloc (.cells ([Z8 0] : List Value).toArray 5))) rfl rfl rfl (ex_bs1 (a := 0) rfl rfl) ?_
    simp only [Act.put, sa, sz, ss]
    have H10 : Hid (Mm (w9.alloc (.cells ([Z8 0] : List Value).toArray 5)) [(γ1_0, ints .u8 (fun _ => 0) 32)] ∧ Zo w γb3 [(γ1_0, ints .u8 (fun _ => 0) 32)] (.slice p7 (a.n + k) c7) (a.n + k) (kz a.f a.n) (w9.alloc (.cells ([Z8 0] : List Value).toArray 5))) := ⟨(Zo.step H9.out.2 (((Below.refl _ _).alloc (Nat.le_refl _) _))).m, (Zo.step H9.out.2 (((Below.refl _ _).alloc (Nat.le_refl _) _)))⟩
    have C10 : Hid _ := cell_one w9 0
    clear H9
    generalize hgw : (w9.alloc (.cells ([Z8 0] : List Value).toArray 5)) = w10 at H10 C10 ⊢
    clear hgw
    generalize w9.heap.size = γs10 at C10 ⊢
    obtain ⟨v11, w11, hr, hZ⟩ := H10.out.2.app (a := ⟨γs10, 0, none⟩) 1 1 (fun _ => 0) C10.out (by omega) 22
    refine rest_set (d := 27) (v := v11) (w' := w11) rfl rfl rfl (ex_app rfl rfl rfl hr) ?_
    simp only [Act.put, sa, sz, ss]
    have hZ2 : Zo w γb3 [(γ1_0, ints .u8 (fun _ => 0) 32)] v11 (a.n + (k + 1)) (kz a.f a.n) w11 := hZ.cg (ct_snoc (kz_ge a.f a.n k))
    have H11 : Hid (Mm w11 [(γ1_0, ints .u8 (fun _ => 0) 32)] ∧ Zo w γb3 [(γ1_0, ints .u8 (fun _ => 0) 32)] v11 (a.n + (k + 1)) (kz a.f a.n) w11) := ⟨hZ2.m, hZ2⟩
    clear hr hZ hZ2 H10
    refine rest_set (d := 5) (v := v11) (w' := w11) rfl rfl rfl rfl ?_
    simp only [Act.put, sa, sz, ss]
    refine rest_nil (block_normal (then_normal ?_))
    exact ⟨k + 1, ⟨(slotfn [undef, undef, undef, undef, undef, v11, undef, undef, undef, undef, undef, undef, undef, undef, undef, undef, undef, undef, undef, undef, undef, undef, .slice p7 (a.n + k) c7, .int .i64 ((a.n + k : Nat) : Int), .bool true, .slice p7 (a.n + k) c7, .slice (some ⟨γs10, 0, none⟩) 1 1, v11]), rfl, ⟨H11.out.1, H11.out.2⟩, by omega⟩, by omega⟩
  have hkN : NN = k := by omega
  subst hkN
  have hn64 : a.n + NN = 64 := by omega
  rw [hn64] at H7
  obtain ⟨p8, c8, e8⟩ := H7.out.2.form0
  rw [e8] at H7 ⊢
  clear e8
  refine wp_seq (wp_seq ?_)
  refine walk_seqA 3 [.quiet (.slice p8 64 c8), .quiet (.int .i64 64), .quiet (.bool false)] (sB H7) ?ho6 ?he6
  case ho6 => exact ak (fun _ => ⟨rfl, fun _ _ => rfl⟩) (ak (by refine fun γ => ⟨rfl, fun w' h => ?_⟩; clear h; go_simp) (ak (by refine fun γ => ⟨rfl, fun w' h => ?_⟩; clear h; go_simp <;> omega) trivial))
  intro γ w12 l hM hl
  have M12 : Mm w12 [(γ1_0, ints .u8 (fun _ => 0) 32)] := H7.out.1.grow hM (Nat.le_refl _) hl [] rfl (by decide)
  have B12 : Zo w γb3 [(γ1_0, ints .u8 (fun _ => 0) 32)] (.slice p8 64 c8) 64 (kz a.f a.n) w12 := Zo.step H7.out.2 (hM.below)
  clear hM hl l H7
  clear γ
  have H12 : Hid (_ ∧ _) := ⟨M12, B12⟩
  clear M12 B12
  refine rest0 rfl (then_normal (wp_cond_false rfl ?_))
  refine wp_exit ?_
  repeat refine then_exit ?_
  refine block_exit ?_
  obtain ⟨g5, cap5, e5⟩ := H12.out.2.form (by decide)
  rw [e5] at H12 ⊢
  clear e5
  have o_g5 : Hid (w.heap.size ≤ g5) := Nat.le_trans H12.out.2.lo H12.out.2.blk.1
  have H13 : Hid (Mm w12 [(g5, ints .u8 (kz a.f a.n) 64), (γ1_0, ints .u8 (fun _ => 0) 32)] ∧ Below w.heap.size w w12) := ⟨H12.out.2.mm, H12.out.2.b⟩
  clear  H12
  refine then_normal (wp_seq ?_)
  refine walk_seqB 2 [.quiet (.slice none 0 0), .quiet (.slice none 0 0)] H13 ?ho7 ?he7
  case ho7 => exact ak (fun _ => ⟨rfl, fun _ _ => rfl⟩) (ak (fun _ => ⟨rfl, fun _ _ => rfl⟩) trivial)
  intro _ w14 H14
  clear H13
  refine rest0 rfl ?_
  have H15 : Hid (Mm w14 [(g5, ints .u8 (kz a.f a.n) 64), (γ1_0, ints .u8 (fun _ => 0) 32)] ∧ Z2 w w14.heap.size [(g5, ints .u8 (kz a.f a.n) 64), (γ1_0, ints .u8 (fun _ => 0) 32)] (.slice none 0 0) 0 (mk8 (kz a.f a.n) 54) (.slice none 0 0) 0 (mk8 (kz a.f a.n) 92) w14) := ⟨H14.out.1, Z2.nil H14.out.1 H14.out.2 _ _⟩
  clear  H14
  generalize w14.heap.size = γb at H15
  refine then_normal (wp_seq (wp_seq ?_))
  refine walk_seqA 1 [.quiet (.int .i64 0)] (sB H15) ?ho8 ?he8
  case ho8 => exact ak (fun _ => ⟨rfl, fun _ _ => rfl⟩) trivial
  intro γ w16 l hM hl
  have M16 : Mm w16 [(g5, ints .u8 (kz a.f a.n) 64), (γ1_0, ints .u8 (fun _ => 0) 32)] := H15.out.1.grow hM (Nat.le_refl _) hl [] rfl (by decide)
  have B16 : Z2 w γb [(g5, ints .u8 (kz a.f a.n) 64), (γ1_0, ints .u8 (fun _ => 0) 32)] (.slice none 0 0) 0 (mk8 (kz a.f a.n) 54) (.slice none 0 0) 0 (mk8 (kz a.f a.n) 92) w16 := Z2.step H15.out.2 (hM.below)
  clear hM hl l H15
  clear γ
  have H16 : Hid (_ ∧ _) := ⟨M16, B16⟩
  clear M16 B16
  refine rest0 rfl (then_normal (wp_block ?_))
  refine loop_ghost (α := Nat) (fun k a' w' => ∃ s2 : Nat → Value, a' = ⟨#[.slice a.p a.n a.cp, .slice b.p b.n b.cp, undef, undef, PT γ1_0 0, .slice (some ⟨g5, 0, none⟩) 64 cap5, undef, s2 7, s2 8, .int .i64 ((k : Nat) : Int), undef, .slice (some ⟨γb3, 0, none⟩) 0 0, .slice a.p a.n a.cp, .slice p1 a.n c1, .slice p1 a.n c1, .int .i64 ((a.n : Nat) : Int), .bool false, undef, undef, undef, undef, undef, .slice (some ⟨g5, 0, none⟩) 64 cap5, .int .i64 64, .bool false, s0 25, s0 26, s0 27, s2 28, s2 29, s2 30, s2 31, s2 32, s2 33, s2 34, s2 35, s2 36, s2 37, s2 38, s2 39, s2 40, s2 41, s2 42, s2 43, s2 44, s2 45, s2 46, s2 47, undef, undef, undef, undef, undef, undef, undef, undef], []⟩ ∧ (Mm w' [(g5, ints .u8 (kz a.f a.n) 64), (γ1_0, ints .u8 (fun _ => 0) 32)] ∧ Z2 w γb [(g5, ints .u8 (kz a.f a.n) 64), (γ1_0, ints .u8 (fun _ => 0) 32)] (s2 7) k (mk8 (kz a.f a.n) 54) (s2 8) k (mk8 (kz a.f a.n) 92) w') ∧ k ≤ 64) (fun k => 64 - k) 0 ?st2 ?rd2
  case st2 => exact ⟨(slotfn [undef, undef, undef, undef, undef, undef, undef, .slice none 0 0, .slice none 0 0, undef, undef, undef, undef, undef, undef, undef, undef, undef, undef, undef, undef, undef, undef, undef, undef, undef, undef, undef, undef, undef, undef, undef, undef, undef, undef, undef, undef, undef, undef, undef, undef, undef, undef, undef, undef, undef, undef, undef]), rfl, ⟨H16.out.1, H16.out.2⟩, by omega⟩
  intro k a' w17 hI
  obtain ⟨s2, rfl, hMB, hk2⟩ := hI
  have H17 : Hid (_ ∧ _) := hMB
  clear hMB H16
  by_cases hlt : k < 64
  · have hrd : True := trivial
    clear hrd
    refine wp_seq (wp_seq ?_)
    refine walk_seqA 2 [.quiet (.int .i64 ((k : Nat) : Int)), .quiet (.bool true)] (sB H17) ?ho9 ?he9
    case ho9 => exact ak (fun _ => ⟨rfl, fun _ _ => rfl⟩) (ak (by refine fun γ => ⟨rfl, fun w' h => ?_⟩; clear h; go_simp <;> omega) trivial)
    intro γ w18 l hM hl
    have M18 : Mm w18 [(g5, ints .u8 (kz a.f a.n) 64), (γ1_0, ints .u8 (fun _ => 0) 32)] := H17.out.1.grow hM (Nat.le_refl _) hl [] rfl (by decide)
    have B18 : Z2 w γb [(g5, ints .u8 (kz a.f a.n) 64), (γ1_0, ints .u8 (fun _ => 0) 32)] (s2 7) k (mk8 (kz a.f a.n) 54) (s2 8) k (mk8 (kz a.f a.n) 92) w18 := Z2.step H17.out.2 (hM.below)
    clear hM hl l H17
    clear γ
    have H18 : Hid (_ ∧ _) := ⟨M18, B18⟩
    clear M18 B18
    refine rest0 rfl (then_normal (wp_cond_true rfl ?_))
    refine wp_skip (then_normal ?_)
    refine wp_seq (wp_block (wp_seq ?_))
    refine walk_seqA 6 [.quiet ((s2 7)), .quiet (.slice (some ⟨g5, 0, none⟩) 64 cap5), .quiet (.int .i64 ((k : Nat) : Int)), .quiet (PT g5 (0 + k)), .quiet (Z8 ((kz a.f a.n) (0 + k))), .quiet (Z8 (x8 ((kz a.f a.n) (0 + k)) 54))] (sB H18) ?ho10 ?he10
    case ho10 => exact ak (fun _ => ⟨rfl, fun _ _ => rfl⟩) (ak (fun _ => ⟨rfl, fun _ _ => rfl⟩) (ak (fun _ => ⟨rfl, fun _ _ => rfl⟩) (ak (fun γ => ⟨rfl, fun w' _ => ex_ixS22 (m := 64) (j := k) rfl rfl rfl (by omega)⟩) (ak (fun γ => ⟨rfl, fun w' h => ex_loadC h 0 rfl rfl rfl Tryd.isAgg5 (ints_get _ _ (by omega))⟩) (ak (fun γ => ⟨rfl, fun w' _ => ex_xor8 rfl rfl rfl⟩) trivial)))))
    intro γ w19 l hM hl
    have M19 : Mm w19 [(g5, ints .u8 (kz a.f a.n) 64), (γ1_0, ints .u8 (fun _ => 0) 32)] := H18.out.1.grow hM (Nat.le_refl _) hl [] rfl (by decide)
    have B19 : Z2 w γb [(g5, ints .u8 (kz a.f a.n) 64), (γ1_0, ints .u8 (fun _ => 0) 32)] (s2 7) k (mk8 (kz a.f a.n) 54) (s2 8) k (mk8 (kz a.f a.n) 92) w19 := Z2.step H18.out.2 (hM.below)
    clear hM hl l H18
    clear γ
    have H19 : Hid (_ ∧ _) := ⟨M19, B19⟩
    clear M19 B19
    refine rest_at (l := [6, 7, 8]) rfl ?_
    refine rest_set (d := 38) (v := .slice (some ⟨w19.heap.size, 0, none⟩) 1 1) (w' := (w19.alloc (.cells ([Z8 (x8 ((kz a.f a.n) (0 + k)) 54)] : List Value).toArray 5))) rfl rfl rfl (ex_bs1 (a := x8 ((kz a.f a.n) (0 + k)) 54) rfl rfl) ?_
    simp only [Act.put, sa, sz, ss]
    have H20 : Hid (Mm (w19.alloc (.cells ([Z8 (x8 ((kz a.f a.n) (0 + k)) 54)] : List Value).toArray 5)) [(g5, ints .u8 (kz a.f a.n) 64), (γ1_0, ints .u8 (fun _ => 0) 32)] ∧ Z2 w γb [(g5, ints .u8 (kz a.f a.n) 64), (γ1_0, ints .u8 (fun _ => 0) 32)] (s2 7) k (mk8 (kz a.f a.n) 54) (s2 8) k (mk8 (kz a.f a.n) 92) (w19.alloc (.cells ([Z8 (x8 ((kz a.f a.n) (0 + k)) 54)] : List Value).toArray 5))) := ⟨(Z2.step H19.out.2 (((Below.refl _ _).alloc (Nat.le_refl _) _))).m, (Z2.step H19.out.2 (((Below.refl _ _).alloc (Nat.le_refl _) _)))⟩
    have C20 : Hid _ := cell_one w19 (x8 ((kz a.f a.n) (0 + k)) 54)
    clear H19
    generalize hgw : (w19.alloc (.cells ([Z8 (x8 ((kz a.f a.n) (0 + k)) 54)] : List Value).toArray 5)) = w20 at H20 C20 ⊢
    clear hgw
    generalize w19.heap.size = γs20 at C20 ⊢
    obtain ⟨v21, w21, hr, hZ⟩ := H20.out.2.app1 (a := ⟨γs20, 0, none⟩) 1 1 (fun _ => x8 ((kz a.f a.n) (0 + k)) 54) C20.out (by omega) 22
    refine rest_set (d := 39) (v := v21) (w' := w21) rfl rfl rfl (ex_app rfl rfl rfl hr) ?_
    simp only [Act.put, sa, sz, ss]
    have hZ2 : Z2 w γb [(g5, ints .u8 (kz a.f a.n) 64), (γ1_0, ints .u8 (fun _ => 0) 32)] v21 (k + 1) (mk8 (kz a.f a.n) 54) (s2 8) k (mk8 (kz a.f a.n) 92) w21 := hZ.cg1 (ct_snoc (by show x8 ((kz a.f a.n) (0 + k)) _ = x8 ((kz a.f a.n) k) _; rw [Nat.zero_add]))
    have H21 : Hid (Mm w21 [(g5, ints .u8 (kz a.f a.n) 64), (γ1_0, ints .u8 (fun _ => 0) 32)] ∧ Z2 w γb [(g5, ints .u8 (kz a.f a.n) 64), (γ1_0, ints .u8 (fun _ => 0) 32)] v21 (k + 1) (mk8 (kz a.f a.n) 54) (s2 8) k (mk8 (kz a.f a.n) 92) w21) := ⟨hZ2.m, hZ2⟩
    clear hr hZ hZ2 H20
    refine rest_set (d := 7) (v := v21) (w' := w21) rfl rfl rfl rfl ?_
    simp only [Act.put, sa, sz, ss]
    refine rest_nil (then_normal ?_)
    refine walk_seqA 6 [.quiet ((s2 8)), .quiet (.slice (some ⟨g5, 0, none⟩) 64 cap5), .quiet (.int .i64 ((k : Nat) : Int)), .quiet (PT g5 (0 + k)), .quiet (Z8 ((kz a.f a.n) (0 + k))), .quiet (Z8 (x8 ((kz a.f a.n) (0 + k)) 92))] (sB H21) ?ho11 ?he11
    case ho11 => exact ak (fun _ => ⟨rfl, fun _ _ => rfl⟩) (ak (fun _ => ⟨rfl, fun _ _ => rfl⟩) (ak (fun _ => ⟨rfl, fun _ _ => rfl⟩) (ak (fun γ => ⟨rfl, fun w' _ => ex_ixS22 (m := 64) (j := k) rfl rfl rfl (by omega)⟩) (ak (fun γ => ⟨rfl, fun w' h => ex_loadC h 0 rfl rfl rfl Tryd.isAgg5 (ints_get _ _ (by omega))⟩) (ak (fun γ => ⟨rfl, fun w' _ => ex_xor8 rfl rfl rfl⟩) trivial)))))
    intro γ w22 l hM hl
    have M22 : Mm w22 [(g5, ints .u8 (kz a.f a.n) 64), (γ1_0, ints .u8 (fun _ => 0) 32)] := H21.out.1.grow hM (Nat.le_refl _) hl [] rfl (by decide)
    have B22 : Z2 w γb [(g5, ints .u8 (kz a.f a.n) 64), (γ1_0, ints .u8 (fun _ => 0) 32)] v21 (k + 1) (mk8 (kz a.f a.n) 54) (s2 8) k (mk8 (kz a.f a.n) 92) w22 := Z2.step H21.out.2 (hM.below)
    clear hM hl l H21
    clear γ
    have H22 : Hid (_ ∧ _) := ⟨M22, B22⟩
    clear M22 B22
    refine rest_at (l := [6, 7, 8]) rfl ?_
    refine rest_set (d := 46) (v := .slice (some ⟨w22.heap.size, 0, none⟩) 1 1) (w' := (w22.alloc (.cells ([Z8 (x8 ((kz a.f a.n) (0 + k)) 92)] : List Value).toArray 5))) rfl rfl rfl (ex_bs1 (a := x8 ((kz a.f a.n) (0 + k)) 92) rfl rfl) ?_
    simp only [Act.put, sa, sz, ss]
    have H23 : Hid (Mm (w22.alloc (.cells ([Z8 (x8 ((kz a.f a.n) (0 + k)) 92)] : List Value).toArray 5)) [(g5, ints .u8 (kz a.f a.n) 64), (γ1_0, ints .u8 (fun _ => 0) 32)] ∧ Z2 w γb [(g5, ints .u8 (kz a.f a.n) 64), (γ1_0, ints .u8 (fun _ => 0) 32)] v21 (k + 1) (mk8 (kz a.f a.n) 54) (s2 8) k (mk8 (kz a.f a.n) 92) (w22.alloc (.cells ([Z8 (x8 ((kz a.f a.n) (0 + k)) 92)] : List Value).toArray 5))) := ⟨(Z2.step H22.out.2 (((Below.refl _ _).alloc (Nat.le_refl _) _))).m, (Z2.step H22.out.2 (((Below.refl _ _).alloc (Nat.le_refl _) _)))⟩
    have C23 : Hid _ := cell_one w22 (x8 ((kz a.f a.n) (0 + k)) 92)
    clear H22
    generalize hgw : (w22.alloc (.cells ([Z8 (x8 ((kz a.f a.n) (0 + k)) 92)] : List Value).toArray 5)) = w23 at H23 C23 ⊢
    clear hgw
    generalize w22.heap.size = γs23 at C23 ⊢
    obtain ⟨v24, w24, hr, hZ⟩ := H23.out.2.app2 (a := ⟨γs23, 0, none⟩) 1 1 (fun _ => x8 ((kz a.f a.n) (0 + k)) 92) C23.out (by omega) 22
    refine rest_set (d := 47) (v := v24) (w' := w24) rfl rfl rfl (ex_app rfl rfl rfl hr) ?_
    simp only [Act.put, sa, sz, ss]
    have hZ2 : Z2 w γb [(g5, ints .u8 (kz a.f a.n) 64), (γ1_0, ints .u8 (fun _ => 0) 32)] v21 (k + 1) (mk8 (kz a.f a.n) 54) v24 (k + 1) (mk8 (kz a.f a.n) 92) w24 := hZ.cg2 (ct_snoc (by show x8 ((kz a.f a.n) (0 + k)) _ = x8 ((kz a.f a.n) k) _; rw [Nat.zero_add]))
    have H24 : Hid (Mm w24 [(g5, ints .u8 (kz a.f a.n) 64), (γ1_0, ints .u8 (fun _ => 0) 32)] ∧ Z2 w γb [(g5, ints .u8 (kz a.f a.n) 64), (γ1_0, ints .u8 (fun _ => 0) 32)] v21 (k + 1) (mk8 (kz a.f a.n) 54) v24 (k + 1) (mk8 (kz a.f a.n) 92) w24) := ⟨hZ2.m, hZ2⟩
    clear hr hZ hZ2 H23
    refine rest_set (d := 8) (v := v24) (w' := w24) rfl rfl rfl rfl ?_
    simp only [Act.put, sa, sz, ss]
    refine rest_nil (block_normal (then_normal ?_))
    refine walk_seqA 2 [.quiet (.int .i64 ((k : Nat) : Int)), .quiet (.int .i64 ((k + 1 : Nat) : Int))] (sB H24) ?ho12 ?he12
    case ho12 => exact ak (fun _ => ⟨rfl, fun _ _ => rfl⟩) (ak (by refine fun γ => ⟨rfl, fun w' h => ?_⟩; clear h; go_simp; rw [IntKind.wrap_i64]; omega) trivial)
    intro γ w25 l hM hl
    have M25 : Mm w25 [(g5, ints .u8 (kz a.f a.n) 64), (γ1_0, ints .u8 (fun _ => 0) 32)] := H24.out.1.grow hM (Nat.le_refl _) hl [] rfl (by decide)
    have B25 : Z2 w γb [(g5, ints .u8 (kz a.f a.n) 64), (γ1_0, ints .u8 (fun _ => 0) 32)] v21 (k + 1) (mk8 (kz a.f a.n) 54) v24 (k + 1) (mk8 (kz a.f a.n) 92) w25 := Z2.step H24.out.2 (hM.below)
    clear hM hl l H24
    clear γ
    have H25 : Hid (_ ∧ _) := ⟨M25, B25⟩
    clear M25 B25
    refine rest_at (l := [2]) rfl ?_
    refine rest_set (d := 9) (v := .int .i64 ((k + 1 : Nat) : Int)) (w' := w25) rfl rfl rfl rfl ?_
    simp only [Act.put, sa, sz, ss]
    refine rest_nil (then_normal ?_)
    exact ⟨k + 1, ⟨(slotfn [undef, undef, undef, undef, undef, undef, undef, v21, v24, undef, undef, undef, undef, undef, undef, undef, undef, undef, undef, undef, undef, undef, undef, undef, undef, undef, undef, undef, .int .i64 ((k : Nat) : Int), .bool true, .int .i64 ((k : Nat) : Int), .int .i64 ((k + 1 : Nat) : Int), (s2 7), .slice (some ⟨g5, 0, none⟩) 64 cap5, .int .i64 ((k : Nat) : Int), PT g5 (0 + k), Z8 ((kz a.f a.n) (0 + k)), Z8 (x8 ((kz a.f a.n) (0 + k)) 54), .slice (some ⟨γs20, 0, none⟩) 1 1, v21, (s2 8), .slice (some ⟨g5, 0, none⟩) 64 cap5, .int .i64 ((k : Nat) : Int), PT g5 (0 + k), Z8 ((kz a.f a.n) (0 + k)), Z8 (x8 ((kz a.f a.n) (0 + k)) 92), .slice (some ⟨γs23, 0, none⟩) 1 1, v24]), rfl, ⟨H25.out.1, H25.out.2⟩, by omega⟩, by omega⟩
  have hk64 : k = 64 := by omega
  subst hk64
  refine wp_seq (wp_seq ?_)
  refine walk_seqA 2 [.quiet (.int .i64 ((64 : Nat) : Int)), .quiet (.bool false)] (sB H17) ?ho13 ?he13
  case ho13 => exact ak (fun _ => ⟨rfl, fun _ _ => rfl⟩) (ak (by refine fun γ => ⟨rfl, fun w' h => ?_⟩; clear h; go_simp <;> omega) trivial)
  intro γ w26 l hM hl
  have M26 : Mm w26 [(g5, ints .u8 (kz a.f a.n) 64), (γ1_0, ints .u8 (fun _ => 0) 32)] := H17.out.1.grow hM (Nat.le_refl _) hl [] rfl (by decide)
  have B26 : Z2 w γb [(g5, ints .u8 (kz a.f a.n) 64), (γ1_0, ints .u8 (fun _ => 0) 32)] (s2 7) 64 (mk8 (kz a.f a.n) 54) (s2 8) 64 (mk8 (kz a.f a.n) 92) w26 := Z2.step H17.out.2 (hM.below)
  clear hM hl l H17
  clear γ
  have H26 : Hid (_ ∧ _) := ⟨M26, B26⟩
  clear M26 B26
  refine rest0 rfl (then_normal (wp_cond_false rfl ?_))
  refine wp_exit ?_
  repeat refine then_exit ?_
  refine block_exit ?_
  refine then_normal (wp_seq ?_)
  refine walk_seqA 2 [.quiet ((s2 7)), .quiet (.slice b.p b.n b.cp)] (sB H26) ?ho14 ?he14
  case ho14 => exact ak (fun _ => ⟨rfl, fun _ _ => rfl⟩) (ak (fun _ => ⟨rfl, fun _ _ => rfl⟩) trivial)
  intro γ w27 l hM hl
  have M27 : Mm w27 [(g5, ints .u8 (kz a.f a.n) 64), (γ1_0, ints .u8 (fun _ => 0) 32)] := H26.out.1.grow hM (Nat.le_refl _) hl [] rfl (by decide)
  have B27 : Z2 w γb [(g5, ints .u8 (kz a.f a.n) 64), (γ1_0, ints .u8 (fun _ => 0) 32)] (s2 7) 64 (mk8 (kz a.f a.n) 54) (s2 8) 64 (mk8 (kz a.f a.n) 92) w27 := Z2.step H26.out.2 (hM.below)
  clear hM hl l H26
  clear γ
  have H27 : Hid (_ ∧ _) := ⟨M27, B27⟩
  clear M27 B27
  refine rest_at (l := [2, 3, 4, 5]) rfl ?_
  obtain ⟨v28, w28, hr, hZ⟩ := H27.out.2.appQ1 (q := b) hb hNb.out (RB.out.below H27.out.2.b) (by omega) 22
  refine rest_set (d := 50) (v := v28) (w' := w28) rfl rfl rfl (ex_app rfl rfl rfl hr) ?_
  simp only [Act.put, sa, sz, ss]
  have hZ2 : Z2 w γb [(g5, ints .u8 (kz a.f a.n) 64), (γ1_0, ints .u8 (fun _ => 0) 32)] v28 (64 + b.n) (ct (mk8 (kz a.f a.n) 54) 64 b.f) (s2 8) 64 (mk8 (kz a.f a.n) 92) w28 := hZ
  have H28 : Hid (Mm w28 [(g5, ints .u8 (kz a.f a.n) 64), (γ1_0, ints .u8 (fun _ => 0) 32)] ∧ Z2 w γb [(g5, ints .u8 (kz a.f a.n) 64), (γ1_0, ints .u8 (fun _ => 0) 32)] v28 (64 + b.n) (ct (mk8 (kz a.f a.n) 54) 64 b.f) (s2 8) 64 (mk8 (kz a.f a.n) 92) w28) := ⟨hZ2.m, hZ2⟩
  clear hr hZ hZ2 H27
  refine rest_enter (d := 51) (R := fun vv w' => vv = .agg (ints .u8 (ds (ct (mk8 (kz a.f a.n) 54) 64 b.f) (64 + b.n)) 32).toArray ∧ Below w28.heap.size w28 w') rfl rfl rfl (exec_call (args := #[v28]) rfl call15 rfl (mpn rfl)) (Calls.mono (dSum_any (ct (mk8 (kz a.f a.n) 54) 64 b.f) (64 + b.n) (by omega) _ w28 (own_doc H28.out.2.o1)) (fun e w2 hh => ⟨_, hh.1, rfl, hh.2⟩)) ?_
  rintro _ w29 ⟨rfl, hb⟩
  have H29 : Hid (_ ∧ _) := ⟨H28.out.1.below hb, Z2.step H28.out.2 (hb)⟩
  clear hb H28
  simp only [Act.put, sa, sz, ss]
  have H30 : Hid (Mm w29 [(g5, ints .u8 (kz a.f a.n) 64), (γ1_0, ints .u8 (fun _ => 0) 32)] ∧ Ow w [g5, γ1_0] (s2 8) 64 (mk8 (kz a.f a.n) 92) w29) := ⟨H29.out.1, H29.out.2.ow rfl⟩
  clear  H29
  refine rest_set (d := 10) (v := PT w29.heap.size 0) (w' := (w29.alloc (.cells (ints .u8 (fun _ => 0) 32 : List Value).toArray 25))) rfl rfl rfl (ex_made25 rfl) ?_
  simp only [Act.put, sa, sz, ss]
  have o_γs31 : Hid (w.heap.size ≤ w29.heap.size) := H30.out.2.size
  have H31 : Hid (Mm (w29.alloc (.cells (ints .u8 (fun _ => 0) 32 : List Value).toArray 25)) ((w29.heap.size, ints .u8 (fun _ => 0) 32) :: [(g5, ints .u8 (kz a.f a.n) 64), (γ1_0, ints .u8 (fun _ => 0) 32)]) ∧ Ow w [w29.heap.size, g5, γ1_0] (s2 8) 64 (mk8 (kz a.f a.n) 92) (w29.alloc (.cells (ints .u8 (fun _ => 0) 32 : List Value).toArray 25))) := ⟨H30.out.1.alloc _ 25 rfl, H30.out.2.alloc _⟩
  clear H30
  generalize hgw : (w29.alloc (.cells (ints .u8 (fun _ => 0) 32 : List Value).toArray 25)) = w31 at H31 ⊢
  clear hgw
  generalize w29.heap.size = γs31 at o_γs31 H31 ⊢
  refine rest_store rfl rfl rfl (ex_storeT (vs := ints .u8 (ds (ct (mk8 (kz a.f a.n) 54) 64 b.f) (64 + b.n)) 32) H31.out.1 0 rfl rfl rfl rfl (by rw [ints_len]; exact Tryd.sizeOf25) (ints_all _ _ _) (by simp [ints_len])) ?_
  have H32 : Hid (Mm (w31.setCells γs31 0 (ints .u8 (ds (ct (mk8 (kz a.f a.n) 54) 64 b.f) (64 + b.n)) 32)) [(γs31, ints .u8 (ds (ct (mk8 (kz a.f a.n) 54) 64 b.f) (64 + b.n)) 32), (g5, ints .u8 (kz a.f a.n) 64), (γ1_0, ints .u8 (fun _ => 0) 32)] ∧ Ow w [γs31, g5, γ1_0] (s2 8) 64 (mk8 (kz a.f a.n) 92) (w31.setCells γs31 0 (ints .u8 (ds (ct (mk8 (kz a.f a.n) 54) 64 b.f) (64 + b.n)) 32))) := ⟨by
    have h := H31.out.1.put 0 (off := 0) (vs := ints .u8 (ds (ct (mk8 (kz a.f a.n) 54) 64 b.f) (64 + b.n)) 32) rfl (by simp [ints_len])
    rw [ints_patch0 _ _ _ _] at h
    exact h, H31.out.2.put (by simp) o_γs31.out⟩
  clear H31
  generalize hgw : World.setCells _ _ _ _ = w32 at H32 ⊢
  clear hgw
  refine rest_nil (then_normal (wp_seq ?_))
  refine walk_seqA 2 [.quiet ((s2 8)), .quiet (.slice (some ⟨γs31, 0, none⟩) 32 32)] (sB H32) ?ho15 ?he15
  case ho15 => exact ak (fun _ => ⟨rfl, fun _ _ => rfl⟩) (ak (fun γ => ⟨rfl, fun w' _ => ex_sl25 rfl rfl⟩) trivial)
  intro γ w33 l hM hl
  have M33 : Mm w33 [(γs31, ints .u8 (ds (ct (mk8 (kz a.f a.n) 54) 64 b.f) (64 + b.n)) 32), (g5, ints .u8 (kz a.f a.n) 64), (γ1_0, ints .u8 (fun _ => 0) 32)] := H32.out.1.grow hM (Nat.le_refl _) hl [] rfl (by decide)
  have B33 : Ow w [γs31, g5, γ1_0] (s2 8) 64 (mk8 (kz a.f a.n) 92) w33 := Ow.step H32.out.2 (hM.below)
  clear hM hl l H32
  clear γ
  have H33 : Hid (_ ∧ _) := ⟨M33, B33⟩
  clear M33 B33
  refine rest_at (l := [2, 3, 4]) rfl ?_
  obtain ⟨v34, w34, hr, hZ, hM⟩ := H33.out.2.app H33.out.1 rfl (a := ⟨γs31, 0, none⟩) 32 32 (ds (ct (mk8 (kz a.f a.n) 54) 64 b.f) (64 + b.n)) (H33.out.1.rs 0 rfl (Nat.le_refl _)).add (by omega) 22
  refine rest_set (d := 54) (v := v34) (w' := w34) rfl rfl rfl (ex_app rfl rfl rfl hr) ?_
  simp only [Act.put, sa, sz, ss]
  have hZ2 : Ow w [γs31, g5, γ1_0] v34 (64 + 32) (ct (mk8 (kz a.f a.n) 92) 64 (ds (ct (mk8 (kz a.f a.n) 54) 64 b.f) (64 + b.n))) w34 := hZ
  have H34 : Hid (Mm w34 [(γs31, ints .u8 (ds (ct (mk8 (kz a.f a.n) 54) 64 b.f) (64 + b.n)) 32), (g5, ints .u8 (kz a.f a.n) 64), (γ1_0, ints .u8 (fun _ => 0) 32)] ∧ Ow w [γs31, g5, γ1_0] v34 (64 + 32) (ct (mk8 (kz a.f a.n) 92) 64 (ds (ct (mk8 (kz a.f a.n) 54) 64 b.f) (64 + b.n))) w34) := ⟨hM, hZ2⟩
  clear hr hZ hZ2 hM H33
  refine rest_enter (d := 55) (R := fun vv w' => vv = .agg (ints .u8 (ds (ct (mk8 (kz a.f a.n) 92) 64 (ds (ct (mk8 (kz a.f a.n) 54) 64 b.f) (64 + b.n))) (64 + 32)) 32).toArray ∧ Below w34.heap.size w34 w') rfl rfl rfl (exec_call (args := #[v34]) rfl call15 rfl (mpn rfl)) (Calls.mono (dSum_any (ct (mk8 (kz a.f a.n) 92) 64 (ds (ct (mk8 (kz a.f a.n) 54) 64 b.f) (64 + b.n))) (64 + 32) (by omega) _ w34 (own_doc H34.out.2.own)) (fun e w2 hh => ⟨_, hh.1, rfl, hh.2⟩)) ?_
  rintro _ w35 ⟨rfl, hb⟩
  have H35 : Hid (_ ∧ _) := ⟨H34.out.1.below hb, Ow.step H34.out.2 (hb)⟩
  clear hb H34
  simp only [Act.put, sa, sz, ss]
  refine rest_store rfl rfl rfl (ex_storeT (vs := ints .u8 (ds (ct (mk8 (kz a.f a.n) 92) 64 (ds (ct (mk8 (kz a.f a.n) 54) 64 b.f) (64 + b.n))) (64 + 32)) 32) H35.out.1 2 rfl rfl rfl rfl (by rw [ints_len]; exact Tryd.sizeOf25) (ints_all _ _ _) (by simp [ints_len])) ?_
  have H36 : Hid (Mm (w35.setCells γ1_0 0 (ints .u8 (ds (ct (mk8 (kz a.f a.n) 92) 64 (ds (ct (mk8 (kz a.f a.n) 54) 64 b.f) (64 + b.n))) (64 + 32)) 32)) [(γs31, ints .u8 (ds (ct (mk8 (kz a.f a.n) 54) 64 b.f) (64 + b.n)) 32), (g5, ints .u8 (kz a.f a.n) 64), (γ1_0, ints .u8 (ds (ct (mk8 (kz a.f a.n) 92) 64 (ds (ct (mk8 (kz a.f a.n) 54) 64 b.f) (64 + b.n))) (64 + 32)) 32)] ∧ Ow w [γs31, g5, γ1_0] v34 (64 + 32) (ct (mk8 (kz a.f a.n) 92) 64 (ds (ct (mk8 (kz a.f a.n) 54) 64 b.f) (64 + b.n))) (w35.setCells γ1_0 0 (ints .u8 (ds (ct (mk8 (kz a.f a.n) 92) 64 (ds (ct (mk8 (kz a.f a.n) 54) 64 b.f) (64 + b.n))) (64 + 32)) 32))) := ⟨by
    have h := H35.out.1.put 2 (off := 0) (vs := ints .u8 (ds (ct (mk8 (kz a.f a.n) 92) 64 (ds (ct (mk8 (kz a.f a.n) 54) 64 b.f) (64 + b.n))) (64 + 32)) 32) rfl (by simp [ints_len])
    rw [ints_patch0 _ _ _ _] at h
    exact h, H35.out.2.put (by simp) o1_0.out⟩
  clear H35
  generalize hgw : World.setCells _ _ _ _ = w36 at H36 ⊢
  clear hgw
  refine rest_nil (then_normal (wp_ret ?_))
  repeat (first | refine then_ret ?_ | refine block_ret ?_)
  have hf0 := var_T H36.out.1 2 rfl Tryd.isAgg25 Tryd.sizeOf25 (ints_len _ _ _)
  refine bodyPost_ret (v := .agg (ints .u8 (ds (ct (mk8 (kz a.f a.n) 92) 64 (ds (ct (mk8 (kz a.f a.n) 54) 64 b.f) (64 + b.n))) (64 + 32)) 32).toArray) (by simp [results, Tryd.results33, asAddr, hf0]) rfl ?_
  exact ⟨rfl, H36.out.2.b⟩
set_option maxHeartbeats 8000000 in
set_option maxRecDepth 100000 in
theorem dCode_long (a b : Pt8) (ha : Pok a) (hb : Pok b) (hNa0 : a.p = none → a.cp = 0) (hNb0 : b.p = none → b.cp = 0) (hna : a.n ≤ 1048576) (hnb : b.n ≤ 1000000) (h64 : 64 < a.n) (w : World) (hRa : a.rs w) (hRb : b.rs w) :
    Calls Tryd.prog 33 #[.slice a.p a.n a.cp, .slice b.p b.n b.cp] w fun e w' => e = .returned (.agg (ints .u8 (dh (kz (ds a.f a.n) 32) b.f b.n) 32).toArray) ∧ Below w.heap.size w w' := by
  have H0 : Hid (_ ∧ _) := ⟨Mm.nil w, Below.refl w.heap.size w⟩
  have RA : Hid (a.rs w) := hRa
  have RB : Hid (b.rs w) := hRb
  have hNa : Hid _ := hNa0
  have hNb : Hid _ := hNb0
  obtain ⟨NN, hNN⟩ : ∃ NN, NN = 64 - 32 := ⟨_, rfl⟩
  clear hRa hRb hNa0 hNb0
  go_enter Tryd.func33, Tryd.ntmps33
  refine wp_seq ?_
  refine walk_seqA 1 [.made (ints .u8 (fun _ => 0) 32) 25] (sB H0) ?ho1 ?he1
  case ho1 => exact ak (fun γ => ⟨rfl, fun w' => ex_mk25 rfl⟩) trivial
  intro γ w1 l hM hl
  have H1 : Hid (Mm w1 [(γ 0, ints .u8 (fun _ => 0) 32)] ∧ _) := growB H0 hM (Nat.le_refl _) hl [0] rfl (by decide)
  have o1_0 := ownB H0 hM (Nat.le_refl _) hl (i := 0) rfl
  clear hM hl l
  generalize γ 0 = γ1_0 at H1 o1_0 ⊢
  clear γ
  refine rest0 rfl (then_normal (wp_seq ?_))
  refine walk_seqB 0 [] H1 ?ho2 ?he2
  case ho2 => exact trivial
  intro _ w2 H2
  clear H1
  refine rest_at (l := [0, 1, 2, 3]) rfl ?_
  refine rest_set (d := 11) (v := .slice (some ⟨w2.heap.size, 0, none⟩) 0 0) (w' := (w2.alloc (.cells #[] 5))) rfl rfl rfl (ex_bs0 rfl) ?_
  simp only [Act.put, sa, sz, ss]
  have hz := Zo.made (fun _ => 0) H2.out.1 H2.out.2
  have H3 : Hid (Mm (w2.alloc (.cells #[] 5)) [(γ1_0, ints .u8 (fun _ => 0) 32)] ∧ Zo w w2.heap.size [(γ1_0, ints .u8 (fun _ => 0) 32)] (.slice (some ⟨w2.heap.size, 0, none⟩) 0 0) 0 (fun _ => 0) (w2.alloc (.cells #[] 5))) := ⟨hz.m, hz⟩
  clear hz H2
  generalize hgw : (w2.alloc (.cells #[] 5)) = w3 at H3 ⊢
  clear hgw
  generalize w2.heap.size = γb3 at H3 ⊢
  refine rest_set (d := 12) (v := .slice a.p a.n a.cp) (w' := w3) rfl rfl rfl rfl ?_
  simp only [Act.put, sa, sz, ss]
  obtain ⟨v4, w4, hr, hZ⟩ := H3.out.2.appQ (q := a) ha.bv hNa.out (RA.out.below H3.out.2.b) (by omega) 22
  refine rest_set (d := 13) (v := v4) (w' := w4) rfl rfl rfl (ex_app rfl rfl rfl hr) ?_
  simp only [Act.put, sa, sz, ss]
  have hZ2 : Zo w γb3 [(γ1_0, ints .u8 (fun _ => 0) 32)] v4 a.n a.f w4 := by rw [Nat.zero_add] at hZ; exact hZ.cg (fun j _ => by rw [ct_zero])
  have H4 : Hid (Mm w4 [(γ1_0, ints .u8 (fun _ => 0) 32)] ∧ Zo w γb3 [(γ1_0, ints .u8 (fun _ => 0) 32)] v4 a.n a.f w4) := ⟨hZ2.m, hZ2⟩
  clear hr hZ hZ2 H3
  refine rest_set (d := 5) (v := v4) (w' := w4) rfl rfl rfl rfl ?_
  simp only [Act.put, sa, sz, ss]
  refine rest_nil ?_
  obtain ⟨p1, c1, e1⟩ := H4.out.2.form0
  rw [e1] at H4 ⊢
  clear e1
  refine then_normal (wp_seq (wp_seq ?_))
  refine walk_seqA 3 [.quiet (.slice p1 a.n c1), .quiet (.int .i64 ((a.n : Nat) : Int)), .quiet (.bool true)] (sB H4) ?ho3 ?he3
  case ho3 => exact ak (fun _ => ⟨rfl, fun _ _ => rfl⟩) (ak (by refine fun γ => ⟨rfl, fun w' h => ?_⟩; clear h; go_simp) (ak (by refine fun γ => ⟨rfl, fun w' h => ?_⟩; clear h; go_simp <;> omega) trivial))
  intro γ w5 l hM hl
  have M5 : Mm w5 [(γ1_0, ints .u8 (fun _ => 0) 32)] := H4.out.1.grow hM (Nat.le_refl _) hl [] rfl (by decide)
  have B5 : Zo w γb3 [(γ1_0, ints .u8 (fun _ => 0) 32)] (.slice p1 a.n c1) a.n a.f w5 := Zo.step H4.out.2 (hM.below)
  clear hM hl l H4
  clear γ
  have H5 : Hid (_ ∧ _) := ⟨M5, B5⟩
  clear M5 B5
  refine rest0 rfl (then_normal (wp_cond_true rfl (wp_seq ?_)))
  have HD : Hid (Dv (.slice p1 a.n c1) a.n a.f w5) := own_doc H5.out.2.own
  refine (walk_seq) 4 [.quiet (.slice p1 a.n c1), .call (.agg (ints .u8 (ds a.f a.n) 32).toArray), .made (ints .u8 (fun _ => 0) 32) 25, .laid 2 (ints .u8 (fun _ => 0) 32) (ints .u8 (ds a.f a.n) 32)] (fun u' => Mm u' [(γ1_0, ints .u8 (fun _ => 0) 32)] ∧ (Dv (.slice p1 a.n c1) a.n a.f u')) ?pre4 ?F4 ?hpre4 (fun γ => ?hF4) (by kernel_rfl) ?hL4 ?hS4 ?ho4 ?he4
  case hpre4 => simp only [tk, tz]; rfl
  case hF4 => simp only [fill, Kind.val, Act.put, sa, sz, ss]; rfl
  case hL4 => exact ⟨⟨_, rfl⟩, trivial⟩
  case hS4 => exact fun w' hb => ⟨H5.out.1.below hb, HD.out.below hb⟩
  case ho4 =>
    refine ak (fun _ => ⟨rfl, fun _ _ => rfl⟩) ?_
    refine ak (fun γ => ⟨rfl, fun w' hX => ⟨15, #[.slice p1 a.n c1], exec_call rfl call15 rfl (mpn rfl), dSum_any a.f a.n (by omega) _ w' hX.2⟩⟩) ?_
    refine ak (fun γ => ⟨rfl, fun w' => ex_mk25 rfl⟩) ?_
    refine ak (fun γ => ⟨rfl, rfl, (ints_len _ _ _).trans (ints_len _ _ _).symm, fun w' h => ex_laidI h Tryd.sizeOf25 rfl rfl rfl⟩) ?_
    exact trivial
  intro γ w6 l hM hl
  have M6 : Mm w6 [(γ 2, ints .u8 (ds a.f a.n) 32), (γ1_0, ints .u8 (fun _ => 0) 32)] := H5.out.1.grow hM (Nat.le_refl _) hl [2] rfl (by decide)
  have B6 : Zo w γb3 [(γ1_0, ints .u8 (fun _ => 0) 32)] (.slice p1 a.n c1) a.n a.f w6 := Zo.step H5.out.2 (hM.below)
  have o4_2 : Hid (w.heap.size ≤ γ 2) := Nat.le_trans H5.out.2.size (hM.fin (Nat.le_refl _) hl (i := 2) rfl).2.1
  clear hM hl l H5
  generalize γ 2 = γ4_2 at M6 o4_2 ⊢
  clear γ
  have H6 : Hid (_ ∧ _) := ⟨M6, B6⟩
  clear M6 B6
  refine rest0 rfl ?_
  have H7 : Hid (Mm w6 [(γ4_2, ints .u8 (ds a.f a.n) 32), (γ1_0, ints .u8 (fun _ => 0) 32)] ∧ Below w.heap.size w w6) := ⟨H6.out.1, H6.out.2.b⟩
  clear  H6
  refine then_normal ?_
  refine walk_seqB 0 [] H7 ?ho5 ?he5
  case ho5 => exact trivial
  intro _ w8 H8
  clear H7
  refine rest_at (l := [0, 1, 2, 3]) rfl ?_
  refine rest_set (d := 19) (v := .slice (some ⟨w8.heap.size, 0, none⟩) 0 0) (w' := (w8.alloc (.cells #[] 5))) rfl rfl rfl (ex_bs0 rfl) ?_
  simp only [Act.put, sa, sz, ss]
  have hz := Zo.made (fun _ => 0) H8.out.1 H8.out.2
  have H9 : Hid (Mm (w8.alloc (.cells #[] 5)) [(γ4_2, ints .u8 (ds a.f a.n) 32), (γ1_0, ints .u8 (fun _ => 0) 32)] ∧ Zo w w8.heap.size [(γ4_2, ints .u8 (ds a.f a.n) 32), (γ1_0, ints .u8 (fun _ => 0) 32)] (.slice (some ⟨w8.heap.size, 0, none⟩) 0 0) 0 (fun _ => 0) (w8.alloc (.cells #[] 5))) := ⟨hz.m, hz⟩
  clear hz H8
  generalize hgw : (w8.alloc (.cells #[] 5)) = w9 at H9 ⊢
  clear hgw
  generalize w8.heap.size = γb9 at H9 ⊢
  refine rest_set (d := 20) (v := .slice (some ⟨γ4_2, 0, none⟩) 32 32) (w' := w9) rfl rfl rfl (ex_sl25 rfl rfl) ?_
  simp only [Act.put, sa, sz, ss]
  obtain ⟨v10, w10, hr, hZ⟩ := H9.out.2.app (a := ⟨γ4_2, 0, none⟩) 32 32 (ds a.f a.n) (H9.out.1.rs 0 rfl (Nat.le_refl _)).add (by omega) 22
  refine rest_set (d := 21) (v := v10) (w' := w10) rfl rfl rfl (ex_app rfl rfl rfl hr) ?_
  simp only [Act.put, sa, sz, ss]
  have hZ2 : Zo w γb9 [(γ4_2, ints .u8 (ds a.f a.n) 32), (γ1_0, ints .u8 (fun _ => 0) 32)] v10 32 (ds a.f a.n) w10 := by rw [Nat.zero_add] at hZ; exact hZ.cg (fun j _ => by rw [ct_zero])
  have H10 : Hid (Mm w10 [(γ4_2, ints .u8 (ds a.f a.n) 32), (γ1_0, ints .u8 (fun _ => 0) 32)] ∧ Zo w γb9 [(γ4_2, ints .u8 (ds a.f a.n) 32), (γ1_0, ints .u8 (fun _ => 0) 32)] v10 32 (ds a.f a.n) w10) := ⟨hZ2.m, hZ2⟩
  clear hr hZ hZ2 H9
  refine rest_set (d := 5) (v := v10) (w' := w10) rfl rfl rfl rfl ?_
  simp only [Act.put, sa, sz, ss]
  refine rest_nil ?_
  obtain ⟨p4, c4, e4⟩ := H10.out.2.form0
  rw [e4] at H10 ⊢
  clear e4
  refine then_normal (wp_seq ?_)
  have hz0 := H10.out.2.cg (kz_lt (ds a.f a.n) 32)
  have H11 : Hid (Mm w10 [(γ4_2, ints .u8 (ds a.f a.n) 32), (γ1_0, ints .u8 (fun _ => 0) 32)] ∧ Zo w γb9 [(γ4_2, ints .u8 (ds a.f a.n) 32), (γ1_0, ints .u8 (fun _ => 0) 32)] (.slice p4 32 c4) 32 (kz (ds a.f a.n) 32) w10) := ⟨hz0.m, hz0⟩
  clear hz0 H10
  refine wp_block ?_
  refine loop_ghost (α := Nat) (fun k a' w' => ∃ s0 : Nat → Value, a' = ⟨#[.slice a.p a.n a.cp, .slice b.p b.n b.cp, undef, undef, PT γ1_0 0, s0 5, PT γ4_2 0, undef, undef, undef, undef, .slice (some ⟨γb3, 0, none⟩) 0 0, .slice a.p a.n a.cp, .slice p1 a.n c1, .slice p1 a.n c1, .int .i64 ((a.n : Nat) : Int), .bool true, .slice p1 a.n c1, .agg (ints .u8 (ds a.f a.n) 32).toArray, .slice (some ⟨γb9, 0, none⟩) 0 0, .slice (some ⟨γ4_2, 0, none⟩) 32 32, .slice p4 32 c4, s0 22, s0 23, s0 24, s0 25, s0 26, s0 27, undef, undef, undef, undef, undef, undef, undef, undef, undef, undef, undef, undef, undef, undef, undef, undef, undef, undef, undef, undef, undef, undef, undef, undef, undef, undef, undef, undef], []⟩ ∧ (Mm w' [(γ4_2, ints .u8 (ds a.f a.n) 32), (γ1_0, ints .u8 (fun _ => 0) 32)] ∧ Zo w γb9 [(γ4_2, ints .u8 (ds a.f a.n) 32), (γ1_0, ints .u8 (fun _ => 0) 32)] (s0 5) (32 + k) (kz (ds a.f a.n) 32) w') ∧ k ≤ NN) (fun k => NN - k) 0 ?st0 ?rd0
  case st0 => exact ⟨(slotfn [undef, undef, undef, undef, undef, .slice p4 32 c4, undef, undef, undef, undef, undef, undef, undef, undef, undef, undef, undef, undef, undef, undef, undef, undef, undef, undef, undef, undef, undef, undef]), rfl, ⟨H11.out.1, H11.out.2⟩, by omega⟩
  intro k a' w12 hI
  obtain ⟨s0, rfl, hMB, hk0⟩ := hI
  have H12 : Hid (_ ∧ _) := hMB
  clear hMB H11
  by_cases hlt : k < NN
  · have hrd : True := trivial
    clear hrd
    obtain ⟨p7, c7, e7⟩ := H12.out.2.form0
    rw [e7] at H12 ⊢
    clear e7
    refine wp_seq (wp_seq ?_)
    refine walk_seqA 3 [.quiet (.slice p7 (32 + k) c7), .quiet (.int .i64 ((32 + k : Nat) : Int)), .quiet (.bool true)] (sB H12) ?ho6 ?he6
    case ho6 => exact ak (fun _ => ⟨rfl, fun _ _ => rfl⟩) (ak (by refine fun γ => ⟨rfl, fun w' h => ?_⟩; clear h; go_simp) (ak (by refine fun γ => ⟨rfl, fun w' h => ?_⟩; clear h; go_simp <;> omega) trivial))
    intro γ w13 l hM hl
    have M13 : Mm w13 [(γ4_2, ints .u8 (ds a.f a.n) 32), (γ1_0, ints .u8 (fun _ => 0) 32)] := H12.out.1.grow hM (Nat.le_refl _) hl [] rfl (by decide)
    have B13 : Zo w γb9 [(γ4_2, ints .u8 (ds a.f a.n) 32), (γ1_0, ints .u8 (fun _ => 0) 32)] (.slice p7 (32 + k) c7) (32 + k) (kz (ds a.f a.n) 32) w13 := Zo.step H12.out.2 (hM.below)
    clear hM hl l H12
    clear γ
    have H13 : Hid (_ ∧ _) := ⟨M13, B13⟩
    clear M13 B13
    refine rest0 rfl (then_normal (wp_cond_true rfl ?_))
    refine wp_skip (then_normal (wp_block ?_))
    refine walk_seqA 1 [.quiet (.slice p7 (32 + k) c7)] (sB H13) ?ho7 ?he7
    case ho7 => exact ak (fun _ => ⟨rfl, fun _ _ => rfl⟩) trivial
    intro γ w14 l hM hl
    have M14 : Mm w14 [(γ4_2, ints .u8 (ds a.f a.n) 32), (γ1_0, ints .u8 (fun _ => 0) 32)] := H13.out.1.grow hM (Nat.le_refl _) hl [] rfl (by decide)
    have B14 : Zo w γb9 [(γ4_2, ints .u8 (ds a.f a.n) 32), (γ1_0, ints .u8 (fun _ => 0) 32)] (.slice p7 (32 + k) c7) (32 + k) (kz (ds a.f a.n) 32) w14 := Zo.step H13.out.2 (hM.below)
    clear hM hl l H13
    clear γ
    have H14 : Hid (_ ∧ _) := ⟨M14, B14⟩
    clear M14 B14
    refine rest_at (l := [1, 2, 3]) rfl ?_
    refine rest_set (d := 26) (v := .slice (some ⟨w14.heap.size, 0, none⟩) 1 1) (w' := (w14.alloc (.cells ([Z8 0] : List Value).toArray 5))) rfl rfl rfl (ex_bs1 (a := 0) rfl rfl) ?_
    simp only [Act.put, sa, sz, ss]
    have H15 : Hid (Mm (w14.alloc (.cells ([Z8 0] : List Value).toArray 5)) [(γ4_2, ints .u8 (ds a.f a.n) 32), (γ1_0, ints .u8 (fun _ => 0) 32)] ∧ Zo w γb9 [(γ4_2, ints .u8 (ds a.f a.n) 32), (γ1_0, ints .u8 (fun _ => 0) 32)] (.slice p7 (32 + k) c7) (32 + k) (kz (ds a.f a.n) 32) (w14.alloc (.cells ([Z8 0] : List Value).toArray 5))) := ⟨(Zo.step H14.out.2 (((Below.refl _ _).alloc (Nat.le_refl _) _))).m, (Zo.step H14.out.2 (((Below.refl _ _).alloc (Nat.le_refl _) _)))⟩
    have C15 : Hid _ := cell_one w14 0
    clear H14
    generalize hgw : (w14.alloc (.cells ([Z8 0] : List Value).toArray 5)) = w15 at H15 C15 ⊢
    clear hgw
    generalize w14.heap.size = γs15 at C15 ⊢
    obtain ⟨v16, w16, hr, hZ⟩ := H15.out.2.app (a := ⟨γs15, 0, none⟩) 1 1 (fun _ => 0) C15.out (by omega) 22
    refine rest_set (d := 27) (v := v16) (w' := w16) rfl rfl rfl (ex_app rfl rfl rfl hr) ?_
    simp only [Act.put, sa, sz, ss]
    have hZ2 : Zo w γb9 [(γ4_2, ints .u8 (ds a.f a.n) 32), (γ1_0, ints .u8 (fun _ => 0) 32)] v16 (32 + (k + 1)) (kz (ds a.f a.n) 32) w16 := hZ.cg (ct_snoc (kz_ge (ds a.f a.n) 32 k))
    have H16 : Hid (Mm w16 [(γ4_2, ints .u8 (ds a.f a.n) 32), (γ1_0, ints .u8 (fun _ => 0) 32)] ∧ Zo w γb9 [(γ4_2, ints .u8 (ds a.f a.n) 32), (γ1_0, ints .u8 (fun _ => 0) 32)] v16 (32 + (k + 1)) (kz (ds a.f a.n) 32) w16) := ⟨hZ2.m, hZ2⟩
    clear hr hZ hZ2 H15
    refine rest_set (d := 5) (v := v16) (w' := w16) rfl rfl rfl rfl ?_
    simp only [Act.put, sa, sz, ss]
    refine rest_nil (block_normal (then_normal ?_))
    exact ⟨k + 1, ⟨(slotfn [undef, undef, undef, undef, undef, v16, undef, undef, undef, undef, undef, undef, undef, undef, undef, undef, undef, undef, undef, undef, undef, undef, .slice p7 (32 + k) c7, .int .i64 ((32 + k : Nat) : Int), .bool true, .slice p7 (32 + k) c7, .slice (some ⟨γs15, 0, none⟩) 1 1, v16]), rfl, ⟨H16.out.1, H16.out.2⟩, by omega⟩, by omega⟩
  have hkN : NN = k := by omega
  subst hkN
  have hn64 : 32 + NN = 64 := by omega
  rw [hn64] at H12
  obtain ⟨p8, c8, e8⟩ := H12.out.2.form0
  rw [e8] at H12 ⊢
  clear e8
  refine wp_seq (wp_seq ?_)
  refine walk_seqA 3 [.quiet (.slice p8 64 c8), .quiet (.int .i64 64), .quiet (.bool false)] (sB H12) ?ho8 ?he8
  case ho8 => exact ak (fun _ => ⟨rfl, fun _ _ => rfl⟩) (ak (by refine fun γ => ⟨rfl, fun w' h => ?_⟩; clear h; go_simp) (ak (by refine fun γ => ⟨rfl, fun w' h => ?_⟩; clear h; go_simp <;> omega) trivial))
  intro γ w17 l hM hl
  have M17 : Mm w17 [(γ4_2, ints .u8 (ds a.f a.n) 32), (γ1_0, ints .u8 (fun _ => 0) 32)] := H12.out.1.grow hM (Nat.le_refl _) hl [] rfl (by decide)
  have B17 : Zo w γb9 [(γ4_2, ints .u8 (ds a.f a.n) 32), (γ1_0, ints .u8 (fun _ => 0) 32)] (.slice p8 64 c8) 64 (kz (ds a.f a.n) 32) w17 := Zo.step H12.out.2 (hM.below)
  clear hM hl l H12
  clear γ
  have H17 : Hid (_ ∧ _) := ⟨M17, B17⟩
  clear M17 B17
  refine rest0 rfl (then_normal (wp_cond_false rfl ?_))
  refine wp_exit ?_
  repeat refine then_exit ?_
  refine block_exit ?_
  obtain ⟨g5, cap5, e5⟩ := H17.out.2.form (by decide)
  rw [e5] at H17 ⊢
  clear e5
  have o_g5 : Hid (w.heap.size ≤ g5) := Nat.le_trans H17.out.2.lo H17.out.2.blk.1
  have H18 : Hid (Mm w17 [(g5, ints .u8 (kz (ds a.f a.n) 32) 64), (γ4_2, ints .u8 (ds a.f a.n) 32), (γ1_0, ints .u8 (fun _ => 0) 32)] ∧ Below w.heap.size w w17) := ⟨H17.out.2.mm, H17.out.2.b⟩
  clear  H17
  refine then_normal (wp_seq ?_)
  refine walk_seqB 2 [.quiet (.slice none 0 0), .quiet (.slice none 0 0)] H18 ?ho9 ?he9
  case ho9 => exact ak (fun _ => ⟨rfl, fun _ _ => rfl⟩) (ak (fun _ => ⟨rfl, fun _ _ => rfl⟩) trivial)
  intro _ w19 H19
  clear H18
  refine rest0 rfl ?_
  have H20 : Hid (Mm w19 [(g5, ints .u8 (kz (ds a.f a.n) 32) 64), (γ4_2, ints .u8 (ds a.f a.n) 32), (γ1_0, ints .u8 (fun _ => 0) 32)] ∧ Z2 w w19.heap.size [(g5, ints .u8 (kz (ds a.f a.n) 32) 64), (γ4_2, ints .u8 (ds a.f a.n) 32), (γ1_0, ints .u8 (fun _ => 0) 32)] (.slice none 0 0) 0 (mk8 (kz (ds a.f a.n) 32) 54) (.slice none 0 0) 0 (mk8 (kz (ds a.f a.n) 32) 92) w19) := ⟨H19.out.1, Z2.nil H19.out.1 H19.out.2 _ _⟩
  clear  H19
  generalize w19.heap.size = γb at H20
  refine then_normal (wp_seq (wp_seq ?_))
  refine walk_seqA 1 [.quiet (.int .i64 0)] (sB H20) ?ho10 ?he10
  case ho10 => exact ak (fun _ => ⟨rfl, fun _ _ => rfl⟩) trivial
  intro γ w21 l hM hl
  have M21 : Mm w21 [(g5, ints .u8 (kz (ds a.f a.n) 32) 64), (γ4_2, ints .u8 (ds a.f a.n) 32), (γ1_0, ints .u8 (fun _ => 0) 32)] := H20.out.1.grow hM (Nat.le_refl _) hl [] rfl (by decide)
  have B21 : Z2 w γb [(g5, ints .u8 (kz (ds a.f a.n) 32) 64), (γ4_2, ints .u8 (ds a.f a.n) 32), (γ1_0, ints .u8 (fun _ => 0) 32)] (.slice none 0 0) 0 (mk8 (kz (ds a.f a.n) 32) 54) (.slice none 0 0) 0 (mk8 (kz (ds a.f a.n) 32) 92) w21 := Z2.step H20.out.2 (hM.below)
  clear hM hl l H20
  clear γ
  have H21 : Hid (_ ∧ _) := ⟨M21, B21⟩
  clear M21 B21
  refine rest0 rfl (then_normal (wp_block ?_))
  refine loop_ghost (α := Nat) (fun k a' w' => ∃ s2 : Nat → Value, a' = ⟨#[.slice a.p a.n a.cp, .slice b.p b.n b.cp, undef, undef, PT γ1_0 0, .slice (some ⟨g5, 0, none⟩) 64 cap5, PT γ4_2 0, s2 7, s2 8, .int .i64 ((k : Nat) : Int), undef, .slice (some ⟨γb3, 0, none⟩) 0 0, .slice a.p a.n a.cp, .slice p1 a.n c1, .slice p1 a.n c1, .int .i64 ((a.n : Nat) : Int), .bool true, .slice p1 a.n c1, .agg (ints .u8 (ds a.f a.n) 32).toArray, .slice (some ⟨γb9, 0, none⟩) 0 0, .slice (some ⟨γ4_2, 0, none⟩) 32 32, .slice p4 32 c4, .slice (some ⟨g5, 0, none⟩) 64 cap5, .int .i64 64, .bool false, s0 25, s0 26, s0 27, s2 28, s2 29, s2 30, s2 31, s2 32, s2 33, s2 34, s2 35, s2 36, s2 37, s2 38, s2 39, s2 40, s2 41, s2 42, s2 43, s2 44, s2 45, s2 46, s2 47, undef, undef, undef, undef, undef, undef, undef, undef], []⟩ ∧ (Mm w' [(g5, ints .u8 (kz (ds a.f a.n) 32) 64), (γ4_2, ints .u8 (ds a.f a.n) 32), (γ1_0, ints .u8 (fun _ => 0) 32)] ∧ Z2 w γb [(g5, ints .u8 (kz (ds a.f a.n) 32) 64), (γ4_2, ints .u8 (ds a.f a.n) 32), (γ1_0, ints .u8 (fun _ => 0) 32)] (s2 7) k (mk8 (kz (ds a.f a.n) 32) 54) (s2 8) k (mk8 (kz (ds a.f a.n) 32) 92) w') ∧ k ≤ 64) (fun k => 64 - k) 0 ?st2 ?rd2
  case st2 => exact ⟨(slotfn [undef, undef, undef, undef, undef, undef, undef, .slice none 0 0, .slice none 0 0, undef, undef, undef, undef, undef, undef, undef, undef, undef, undef, undef, undef, undef, undef, undef, undef, undef, undef, undef, undef, undef, undef, undef, undef, undef, undef, undef, undef, undef, undef, undef, undef, undef, undef, undef, undef, undef, undef, undef]), rfl, ⟨H21.out.1, H21.out.2⟩, by omega⟩
  intro k a' w22 hI
  obtain ⟨s2, rfl, hMB, hk2⟩ := hI
  have H22 : Hid (_ ∧ _) := hMB
  clear hMB H21
  by_cases hlt : k < 64
  · have hrd : True := trivial
    clear hrd
    refine wp_seq (wp_seq ?_)
    refine walk_seqA 2 [.quiet (.int .i64 ((k : Nat) : Int)), .quiet (.bool true)] (sB H22) ?ho11 ?he11
    case ho11 => exact ak (fun _ => ⟨rfl, fun _ _ => rfl⟩) (ak (by refine fun γ => ⟨rfl, fun w' h => ?_⟩; clear h; go_simp <;> omega) trivial)
    intro γ w23 l hM hl
    have M23 : Mm w23 [(g5, ints .u8 (kz (ds a.f a.n) 32) 64), (γ4_2, ints .u8 (ds a.f a.n) 32), (γ1_0, ints .u8 (fun _ => 0) 32)] := H22.out.1.grow hM (Nat.le_refl _) hl [] rfl (by decide)
    have B23 : Z2 w γb [(g5, ints .u8 (kz (ds a.f a.n) 32) 64), (γ4_2, ints .u8 (ds a.f a.n) 32), (γ1_0, ints .u8 (fun _ => 0) 32)] (s2 7) k (mk8 (kz (ds a.f a.n) 32) 54) (s2 8) k (mk8 (kz (ds a.f a.n) 32) 92) w23 := Z2.step H22.out.2 (hM.below)
    clear hM hl l H22
    clear γ
    have H23 : Hid (_ ∧ _) := ⟨M23, B23⟩
    clear M23 B23
    refine rest0 rfl (then_normal (wp_cond_true rfl ?_))
    refine wp_skip (then_normal ?_)
    refine wp_seq (wp_block (wp_seq ?_))
    refine walk_seqA 6 [.quiet ((s2 7)), .quiet (.slice (some ⟨g5, 0, none⟩) 64 cap5), .quiet (.int .i64 ((k : Nat) : Int)), .quiet (PT g5 (0 + k)), .quiet (Z8 ((kz (ds a.f a.n) 32) (0 + k))), .quiet (Z8 (x8 ((kz (ds a.f a.n) 32) (0 + k)) 54))] (sB H23) ?ho12 ?he12
    case ho12 => exact ak (fun _ => ⟨rfl, fun _ _ => rfl⟩) (ak (fun _ => ⟨rfl, fun _ _ => rfl⟩) (ak (fun _ => ⟨rfl, fun _ _ => rfl⟩) (ak (fun γ => ⟨rfl, fun w' _ => ex_ixS22 (m := 64) (j := k) rfl rfl rfl (by omega)⟩) (ak (fun γ => ⟨rfl, fun w' h => ex_loadC h 0 rfl rfl rfl Tryd.isAgg5 (ints_get _ _ (by omega))⟩) (ak (fun γ => ⟨rfl, fun w' _ => ex_xor8 rfl rfl rfl⟩) trivial)))))
    intro γ w24 l hM hl
    have M24 : Mm w24 [(g5, ints .u8 (kz (ds a.f a.n) 32) 64), (γ4_2, ints .u8 (ds a.f a.n) 32), (γ1_0, ints .u8 (fun _ => 0) 32)] := H23.out.1.grow hM (Nat.le_refl _) hl [] rfl (by decide)
    have B24 : Z2 w γb [(g5, ints .u8 (kz (ds a.f a.n) 32) 64), (γ4_2, ints .u8 (ds a.f a.n) 32), (γ1_0, ints .u8 (fun _ => 0) 32)] (s2 7) k (mk8 (kz (ds a.f a.n) 32) 54) (s2 8) k (mk8 (kz (ds a.f a.n) 32) 92) w24 := Z2.step H23.out.2 (hM.below)
    clear hM hl l H23
    clear γ
    have H24 : Hid (_ ∧ _) := ⟨M24, B24⟩
    clear M24 B24
    refine rest_at (l := [6, 7, 8]) rfl ?_
    refine rest_set (d := 38) (v := .slice (some ⟨w24.heap.size, 0, none⟩) 1 1) (w' := (w24.alloc (.cells ([Z8 (x8 ((kz (ds a.f a.n) 32) (0 + k)) 54)] : List Value).toArray 5))) rfl rfl rfl (ex_bs1 (a := x8 ((kz (ds a.f a.n) 32) (0 + k)) 54) rfl rfl) ?_
    simp only [Act.put, sa, sz, ss]
    have H25 : Hid (Mm (w24.alloc (.cells ([Z8 (x8 ((kz (ds a.f a.n) 32) (0 + k)) 54)] : List Value).toArray 5)) [(g5, ints .u8 (kz (ds a.f a.n) 32) 64), (γ4_2, ints .u8 (ds a.f a.n) 32), (γ1_0, ints .u8 (fun _ => 0) 32)] ∧ Z2 w γb [(g5, ints .u8 (kz (ds a.f a.n) 32) 64), (γ4_2, ints .u8 (ds a.f a.n) 32), (γ1_0, ints .u8 (fun _ => 0) 32)] (s2 7) k (mk8 (kz (ds a.f a.n) 32) 54) (s2 8) k (mk8 (kz (ds a.f a.n) 32) 92) (w24.alloc (.cells ([Z8 (x8 ((kz (ds a.f a.n) 32) (0 + k)) 54)] : List Value).toArray 5))) := ⟨(Z2.step H24.out.2 (((Below.refl _ _).alloc (Nat.le_refl _) _))).m, (Z2.step H24.out.2 (((Below.refl _ _).alloc (Nat.le_refl _) _)))⟩
    have C25 : Hid _ := cell_one w24 (x8 ((kz (ds a.f a.n) 32) (0 + k)) 54)
    clear H24
    generalize hgw : (w24.alloc (.cells ([Z8 (x8 ((kz (ds a.f a.n) 32) (0 + k)) 54)] : List Value).toArray 5)) = w25 at H25 C25 ⊢
    clear hgw
    generalize w24.heap.size = γs25 at C25 ⊢
    obtain ⟨v26, w26, hr, hZ⟩ := H25.out.2.app1 (a := ⟨γs25, 0, none⟩) 1 1 (fun _ => x8 ((kz (ds a.f a.n) 32) (0 + k)) 54) C25.out (by omega) 22
    refine rest_set (d := 39) (v := v26) (w' := w26) rfl rfl rfl (ex_app rfl rfl rfl hr) ?_
    simp only [Act.put, sa, sz, ss]
    have hZ2 : Z2 w γb [(g5, ints .u8 (kz (ds a.f a.n) 32) 64), (γ4_2, ints .u8 (ds a.f a.n) 32), (γ1_0, ints .u8 (fun _ => 0) 32)] v26 (k + 1) (mk8 (kz (ds a.f a.n) 32) 54) (s2 8) k (mk8 (kz (ds a.f a.n) 32) 92) w26 := hZ.cg1 (ct_snoc (by show x8 ((kz (ds a.f a.n) 32) (0 + k)) _ = x8 ((kz (ds a.f a.n) 32) k) _; rw [Nat.zero_add]))
    have H26 : Hid (Mm w26 [(g5, ints .u8 (kz (ds a.f a.n) 32) 64), (γ4_2, ints .u8 (ds a.f a.n) 32), (γ1_0, ints .u8 (fun _ => 0) 32)] ∧ Z2 w γb [(g5, ints .u8 (kz (ds a.f a.n) 32) 64), (γ4_2, ints .u8 (ds a.f a.n) 32), (γ1_0, ints .u8 (fun _ => 0) 32)] v26 (k + 1) (mk8 (kz (ds a.f a.n) 32) 54) (s2 8) k (mk8 (kz (ds a.f a.n) 32) 92) w26) := ⟨hZ2.m, hZ2⟩
    clear hr hZ hZ2 H25
    refine rest_set (d := 7) (v := v26) (w' := w26) rfl rfl rfl rfl ?_
    simp only [Act.put, sa, sz, ss]
    refine rest_nil (then_normal ?_)
    refine walk_seqA 6 [.quiet ((s2 8)), .quiet (.slice (some ⟨g5, 0, none⟩) 64 cap5), .quiet (.int .i64 ((k : Nat) : Int)), .quiet (PT g5 (0 + k)), .quiet (Z8 ((kz (ds a.f a.n) 32) (0 + k))), .quiet (Z8 (x8 ((kz (ds a.f a.n) 32) (0 + k)) 92))] (sB H26) ?ho13 ?he13
    case ho13 => exact ak (fun _ => ⟨rfl, fun _ _ => rfl⟩) (ak (fun _ => ⟨rfl, fun _ _ => rfl⟩) (ak (fun _ => ⟨rfl, fun _ _ => rfl⟩) (ak (fun γ => ⟨rfl, fun w' _ => ex_ixS22 (m := 64) (j := k) rfl rfl rfl (by omega)⟩) (ak (fun γ => ⟨rfl, fun w' h => ex_loadC h 0 rfl rfl rfl Tryd.isAgg5 (ints_get _ _ (by omega))⟩) (ak (fun γ => ⟨rfl, fun w' _ => ex_xor8 rfl rfl rfl⟩) trivial)))))
    intro γ w27 l hM hl
    have M27 : Mm w27 [(g5, ints .u8 (kz (ds a.f a.n) 32) 64), (γ4_2, ints .u8 (ds a.f a.n) 32), (γ1_0, ints .u8 (fun _ => 0) 32)] := H26.out.1.grow hM (Nat.le_refl _) hl [] rfl (by decide)
    have B27 : Z2 w γb [(g5, ints .u8 (kz (ds a.f a.n) 32) 64), (γ4_2, ints .u8 (ds a.f a.n) 32), (γ1_0, ints .u8 (fun _ => 0) 32)] v26 (k + 1) (mk8 (kz (ds a.f a.n) 32) 54) (s2 8) k (mk8 (kz (ds a.f a.n) 32) 92) w27 := Z2.step H26.out.2 (hM.below)
    clear hM hl l H26
    clear γ
    have H27 : Hid (_ ∧ _) := ⟨M27, B27⟩
    clear M27 B27
    refine rest_at (l := [6, 7, 8]) rfl ?_
    refine rest_set (d := 46) (v := .slice (some ⟨w27.heap.size, 0, none⟩) 1 1) (w' := (w27.alloc (.cells ([Z8 (x8 ((kz (ds a.f a.n) 32) (0 + k)) 92)] : List Value).toArray 5))) rfl rfl rfl (ex_bs1 (a := x8 ((kz (ds a.f a.n) 32) (0 + k)) 92) rfl rfl) ?_
    simp only [Act.put, sa, sz, ss]
    have H28 : Hid (Mm (w27.alloc (.cells ([Z8 (x8 ((kz (ds a.f a.n) 32) (0 + k)) 92)] : List Value).toArray 5)) [(g5, ints .u8 (kz (ds a.f a.n) 32) 64), (γ4_2, ints .u8 (ds a.f a.n) 32), (γ1_0, ints .u8 (fun _ => 0) 32)] ∧ Z2 w γb [(g5, ints .u8 (kz (ds a.f a.n) 32) 64), (γ4_2, ints .u8 (ds a.f a.n) 32), (γ1_0, ints .u8 (fun _ => 0) 32)] v26 (k + 1) (mk8 (kz (ds a.f a.n) 32) 54) (s2 8) k (mk8 (kz (ds a.f a.n) 32) 92) (w27.alloc (.cells ([Z8 (x8 ((kz (ds a.f a.n) 32) (0 + k)) 92)] : List Value).toArray 5))) := ⟨(Z2.step H27.out.2 (((Below.refl _ _).alloc (Nat.le_refl _) _))).m, (Z2.step H27.out.2 (((Below.refl _ _).alloc (Nat.le_refl _) _)))⟩
    have C28 : Hid _ := cell_one w27 (x8 ((kz (ds a.f a.n) 32) (0 + k)) 92)
    clear H27
    generalize hgw : (w27.alloc (.cells ([Z8 (x8 ((kz (ds a.f a.n) 32) (0 + k)) 92)] : List Value).toArray 5)) = w28 at H28 C28 ⊢
    clear hgw
    generalize w27.heap.size = γs28 at C28 ⊢
    obtain ⟨v29, w29, hr, hZ⟩ := H28.out.2.app2 (a := ⟨γs28, 0, none⟩) 1 1 (fun _ => x8 ((kz (ds a.f a.n) 32) (0 + k)) 92) C28.out (by omega) 22
    refine rest_set (d := 47) (v := v29) (w' := w29) rfl rfl rfl (ex_app rfl rfl rfl hr) ?_
    simp only [Act.put, sa, sz, ss]
    have hZ2 : Z2 w γb [(g5, ints .u8 (kz (ds a.f a.n) 32) 64), (γ4_2, ints .u8 (ds a.f a.n) 32), (γ1_0, ints .u8 (fun _ => 0) 32)] v26 (k + 1) (mk8 (kz (ds a.f a.n) 32) 54) v29 (k + 1) (mk8 (kz (ds a.f a.n) 32) 92) w29 := hZ.cg2 (ct_snoc (by show x8 ((kz (ds a.f a.n) 32) (0 + k)) _ = x8 ((kz (ds a.f a.n) 32) k) _; rw [Nat.zero_add]))
    have H29 : Hid (Mm w29 [(g5, ints .u8 (kz (ds a.f a.n) 32) 64), (γ4_2, ints .u8 (ds a.f a.n) 32), (γ1_0, ints .u8 (fun _ => 0) 32)] ∧ Z2 w γb [(g5, ints .u8 (kz (ds a.f a.n) 32) 64), (γ4_2, ints .u8 (ds a.f a.n) 32), (γ1_0, ints .u8 (fun _ => 0) 32)] v26 (k + 1) (mk8 (kz (ds a.f a.n) 32) 54) v29 (k + 1) (mk8 (kz (ds a.f a.n) 32) 92) w29) := ⟨hZ2.m, hZ2⟩
    clear hr hZ hZ2 H28
    refine rest_set (d := 8) (v := v29) (w' := w29) rfl rfl rfl rfl ?_
    simp only [Act.put, sa, sz, ss]
    refine rest_nil (block_normal (then_normal ?_))
    refine walk_seqA 2 [.quiet (.int .i64 ((k : Nat) : Int)), .quiet (.int .i64 ((k + 1 : Nat) : Int))] (sB H29) ?ho14 ?he14
    case ho14 => exact ak (fun _ => ⟨rfl, fun _ _ => rfl⟩) (ak (by refine fun γ => ⟨rfl, fun w' h => ?_⟩; clear h; go_simp; rw [IntKind.wrap_i64]; omega) trivial)
    intro γ w30 l hM hl
    have M30 : Mm w30 [(g5, ints .u8 (kz (ds a.f a.n) 32) 64), (γ4_2, ints .u8 (ds a.f a.n) 32), (γ1_0, ints .u8 (fun _ => 0) 32)] := H29.out.1.grow hM (Nat.le_refl _) hl [] rfl (by decide)
    have B30 : Z2 w γb [(g5, ints .u8 (kz (ds a.f a.n) 32) 64), (γ4_2, ints .u8 (ds a.f a.n) 32), (γ1_0, ints .u8 (fun _ => 0) 32)] v26 (k + 1) (mk8 (kz (ds a.f a.n) 32) 54) v29 (k + 1) (mk8 (kz (ds a.f a.n) 32) 92) w30 := Z2.step H29.out.2 (hM.below)
    clear hM hl l H29
    clear γ
    have H30 : Hid (_ ∧ _) := ⟨M30, B30⟩
    clear M30 B30
    refine rest_at (l := [2]) rfl ?_
    refine rest_set (d := 9) (v := .int .i64 ((k + 1 : Nat) : Int)) (w' := w30) rfl rfl rfl rfl ?_
    simp only [Act.put, sa, sz, ss]
    refine rest_nil (then_normal ?_)
    exact ⟨k + 1, ⟨(slotfn [undef, undef, undef, undef, undef, undef, undef, v26, v29, undef, undef, undef, undef, undef, undef, undef, undef, undef, undef, undef, undef, undef, undef, undef, undef, undef, undef, undef, .int .i64 ((k : Nat) : Int), .bool true, .int .i64 ((k : Nat) : Int), .int .i64 ((k + 1 : Nat) : Int), (s2 7), .slice (some ⟨g5, 0, none⟩) 64 cap5, .int .i64 ((k : Nat) : Int), PT g5 (0 + k), Z8 ((kz (ds a.f a.n) 32) (0 + k)), Z8 (x8 ((kz (ds a.f a.n) 32) (0 + k)) 54), .slice (some ⟨γs25, 0, none⟩) 1 1, v26, (s2 8), .slice (some ⟨g5, 0, none⟩) 64 cap5, .int .i64 ((k : Nat) : Int), PT g5 (0 + k), Z8 ((kz (ds a.f a.n) 32) (0 + k)), Z8 (x8 ((kz (ds a.f a.n) 32) (0 + k)) 92), .slice (some ⟨γs28, 0, none⟩) 1 1, v29]), rfl, ⟨H30.out.1, H30.out.2⟩, by omega⟩, by omega⟩
  have hk64 : k = 64 := by omega
  subst hk64
  refine wp_seq (wp_seq ?_)
  refine walk_seqA 2 [.quiet (.int .i64 ((64 : Nat) : Int)), .quiet (.bool false)] (sB H22) ?ho15 ?he15
  case ho15 => exact ak (fun _ => ⟨rfl, fun _ _ => rfl⟩) (ak (by refine fun γ => ⟨rfl, fun w' h => ?_⟩; clear h; go_simp <;> omega) trivial)
  intro γ w31 l hM hl
  have M31 : Mm w31 [(g5, ints .u8 (kz (ds a.f a.n) 32) 64), (γ4_2, ints .u8 (ds a.f a.n) 32), (γ1_0, ints .u8 (fun _ => 0) 32)] := H22.out.1.grow hM (Nat.le_refl _) hl [] rfl (by decide)
  have B31 : Z2 w γb [(g5, ints .u8 (kz (ds a.f a.n) 32) 64), (γ4_2, ints .u8 (ds a.f a.n) 32), (γ1_0, ints .u8 (fun _ => 0) 32)] (s2 7) 64 (mk8 (kz (ds a.f a.n) 32) 54) (s2 8) 64 (mk8 (kz (ds a.f a.n) 32) 92) w31 := Z2.step H22.out.2 (hM.below)
  clear hM hl l H22
  clear γ
  have H31 : Hid (_ ∧ _) := ⟨M31, B31⟩
  clear M31 B31
  refine rest0 rfl (then_normal (wp_cond_false rfl ?_))
  refine wp_exit ?_
  repeat refine then_exit ?_
  refine block_exit ?_
  refine then_normal (wp_seq ?_)
  refine walk_seqA 2 [.quiet ((s2 7)), .quiet (.slice b.p b.n b.cp)] (sB H31) ?ho16 ?he16
  case ho16 => exact ak (fun _ => ⟨rfl, fun _ _ => rfl⟩) (ak (fun _ => ⟨rfl, fun _ _ => rfl⟩) trivial)
  intro γ w32 l hM hl
  have M32 : Mm w32 [(g5, ints .u8 (kz (ds a.f a.n) 32) 64), (γ4_2, ints .u8 (ds a.f a.n) 32), (γ1_0, ints .u8 (fun _ => 0) 32)] := H31.out.1.grow hM (Nat.le_refl _) hl [] rfl (by decide)
  have B32 : Z2 w γb [(g5, ints .u8 (kz (ds a.f a.n) 32) 64), (γ4_2, ints .u8 (ds a.f a.n) 32), (γ1_0, ints .u8 (fun _ => 0) 32)] (s2 7) 64 (mk8 (kz (ds a.f a.n) 32) 54) (s2 8) 64 (mk8 (kz (ds a.f a.n) 32) 92) w32 := Z2.step H31.out.2 (hM.below)
  clear hM hl l H31
  clear γ
  have H32 : Hid (_ ∧ _) := ⟨M32, B32⟩
  clear M32 B32
  refine rest_at (l := [2, 3, 4, 5]) rfl ?_
  obtain ⟨v33, w33, hr, hZ⟩ := H32.out.2.appQ1 (q := b) hb hNb.out (RB.out.below H32.out.2.b) (by omega) 22
  refine rest_set (d := 50) (v := v33) (w' := w33) rfl rfl rfl (ex_app rfl rfl rfl hr) ?_
  simp only [Act.put, sa, sz, ss]
  have hZ2 : Z2 w γb [(g5, ints .u8 (kz (ds a.f a.n) 32) 64), (γ4_2, ints .u8 (ds a.f a.n) 32), (γ1_0, ints .u8 (fun _ => 0) 32)] v33 (64 + b.n) (ct (mk8 (kz (ds a.f a.n) 32) 54) 64 b.f) (s2 8) 64 (mk8 (kz (ds a.f a.n) 32) 92) w33 := hZ
  have H33 : Hid (Mm w33 [(g5, ints .u8 (kz (ds a.f a.n) 32) 64), (γ4_2, ints .u8 (ds a.f a.n) 32), (γ1_0, ints .u8 (fun _ => 0) 32)] ∧ Z2 w γb [(g5, ints .u8 (kz (ds a.f a.n) 32) 64), (γ4_2, ints .u8 (ds a.f a.n) 32), (γ1_0, ints .u8 (fun _ => 0) 32)] v33 (64 + b.n) (ct (mk8 (kz (ds a.f a.n) 32) 54) 64 b.f) (s2 8) 64 (mk8 (kz (ds a.f a.n) 32) 92) w33) := ⟨hZ2.m, hZ2⟩
  clear hr hZ hZ2 H32
  refine rest_enter (d := 51) (R := fun vv w' => vv = .agg (ints .u8 (ds (ct (mk8 (kz (ds a.f a.n) 32) 54) 64 b.f) (64 + b.n)) 32).toArray ∧ Below w33.heap.size w33 w') rfl rfl rfl (exec_call (args := #[v33]) rfl call15 rfl (mpn rfl)) (Calls.mono (dSum_any (ct (mk8 (kz (ds a.f a.n) 32) 54) 64 b.f) (64 + b.n) (by omega) _ w33 (own_doc H33.out.2.o1)) (fun e w2 hh => ⟨_, hh.1, rfl, hh.2⟩)) ?_
  rintro _ w34 ⟨rfl, hb⟩
  have H34 : Hid (_ ∧ _) := ⟨H33.out.1.below hb, Z2.step H33.out.2 (hb)⟩
  clear hb H33
  simp only [Act.put, sa, sz, ss]
  have H35 : Hid (Mm w34 [(g5, ints .u8 (kz (ds a.f a.n) 32) 64), (γ4_2, ints .u8 (ds a.f a.n) 32), (γ1_0, ints .u8 (fun _ => 0) 32)] ∧ Ow w [g5, γ4_2, γ1_0] (s2 8) 64 (mk8 (kz (ds a.f a.n) 32) 92) w34) := ⟨H34.out.1, H34.out.2.ow rfl⟩
  clear  H34
  refine rest_set (d := 10) (v := PT w34.heap.size 0) (w' := (w34.alloc (.cells (ints .u8 (fun _ => 0) 32 : List Value).toArray 25))) rfl rfl rfl (ex_made25 rfl) ?_
  simp only [Act.put, sa, sz, ss]
  have o_γs36 : Hid (w.heap.size ≤ w34.heap.size) := H35.out.2.size
  have H36 : Hid (Mm (w34.alloc (.cells (ints .u8 (fun _ => 0) 32 : List Value).toArray 25)) ((w34.heap.size, ints .u8 (fun _ => 0) 32) :: [(g5, ints .u8 (kz (ds a.f a.n) 32) 64), (γ4_2, ints .u8 (ds a.f a.n) 32), (γ1_0, ints .u8 (fun _ => 0) 32)]) ∧ Ow w [w34.heap.size, g5, γ4_2, γ1_0] (s2 8) 64 (mk8 (kz (ds a.f a.n) 32) 92) (w34.alloc (.cells (ints .u8 (fun _ => 0) 32 : List Value).toArray 25))) := ⟨H35.out.1.alloc _ 25 rfl, H35.out.2.alloc _⟩
  clear H35
  generalize hgw : (w34.alloc (.cells (ints .u8 (fun _ => 0) 32 : List Value).toArray 25)) = w36 at H36 ⊢
  clear hgw
  generalize w34.heap.size = γs36 at o_γs36 H36 ⊢
  refine rest_store rfl rfl rfl (ex_storeT (vs := ints .u8 (ds (ct (mk8 (kz (ds a.f a.n) 32) 54) 64 b.f) (64 + b.n)) 32) H36.out.1 0 rfl rfl rfl rfl (by rw [ints_len]; exact Tryd.sizeOf25) (ints_all _ _ _) (by simp [ints_len])) ?_
  have H37 : Hid (Mm (w36.setCells γs36 0 (ints .u8 (ds (ct (mk8 (kz (ds a.f a.n) 32) 54) 64 b.f) (64 + b.n)) 32)) [(γs36, ints .u8 (ds (ct (mk8 (kz (ds a.f a.n) 32) 54) 64 b.f) (64 + b.n)) 32), (g5, ints .u8 (kz (ds a.f a.n) 32) 64), (γ4_2, ints .u8 (ds a.f a.n) 32), (γ1_0, ints .u8 (fun _ => 0) 32)] ∧ Ow w [γs36, g5, γ4_2, γ1_0] (s2 8) 64 (mk8 (kz (ds a.f a.n) 32) 92) (w36.setCells γs36 0 (ints .u8 (ds (ct (mk8 (kz (ds a.f a.n) 32) 54) 64 b.f) (64 + b.n)) 32))) := ⟨by
    have h := H36.out.1.put 0 (off := 0) (vs := ints .u8 (ds (ct (mk8 (kz (ds a.f a.n) 32) 54) 64 b.f) (64 + b.n)) 32) rfl (by simp [ints_len])
    rw [ints_patch0 _ _ _ _] at h
    exact h, H36.out.2.put (by simp) o_γs36.out⟩
  clear H36
  generalize hgw : World.setCells _ _ _ _ = w37 at H37 ⊢
  clear hgw
  refine rest_nil (then_normal (wp_seq ?_))
  refine walk_seqA 2 [.quiet ((s2 8)), .quiet (.slice (some ⟨γs36, 0, none⟩) 32 32)] (sB H37) ?ho17 ?he17
  case ho17 => exact ak (fun _ => ⟨rfl, fun _ _ => rfl⟩) (ak (fun γ => ⟨rfl, fun w' _ => ex_sl25 rfl rfl⟩) trivial)
  intro γ w38 l hM hl
  have M38 : Mm w38 [(γs36, ints .u8 (ds (ct (mk8 (kz (ds a.f a.n) 32) 54) 64 b.f) (64 + b.n)) 32), (g5, ints .u8 (kz (ds a.f a.n) 32) 64), (γ4_2, ints .u8 (ds a.f a.n) 32), (γ1_0, ints .u8 (fun _ => 0) 32)] := H37.out.1.grow hM (Nat.le_refl _) hl [] rfl (by decide)
  have B38 : Ow w [γs36, g5, γ4_2, γ1_0] (s2 8) 64 (mk8 (kz (ds a.f a.n) 32) 92) w38 := Ow.step H37.out.2 (hM.below)
  clear hM hl l H37
  clear γ
  have H38 : Hid (_ ∧ _) := ⟨M38, B38⟩
  clear M38 B38
  refine rest_at (l := [2, 3, 4]) rfl ?_
  obtain ⟨v39, w39, hr, hZ, hM⟩ := H38.out.2.app H38.out.1 rfl (a := ⟨γs36, 0, none⟩) 32 32 (ds (ct (mk8 (kz (ds a.f a.n) 32) 54) 64 b.f) (64 + b.n)) (H38.out.1.rs 0 rfl (Nat.le_refl _)).add (by omega) 22
  refine rest_set (d := 54) (v := v39) (w' := w39) rfl rfl rfl (ex_app rfl rfl rfl hr) ?_
  simp only [Act.put, sa, sz, ss]
  have hZ2 : Ow w [γs36, g5, γ4_2, γ1_0] v39 (64 + 32) (ct (mk8 (kz (ds a.f a.n) 32) 92) 64 (ds (ct (mk8 (kz (ds a.f a.n) 32) 54) 64 b.f) (64 + b.n))) w39 := hZ
  have H39 : Hid (Mm w39 [(γs36, ints .u8 (ds (ct (mk8 (kz (ds a.f a.n) 32) 54) 64 b.f) (64 + b.n)) 32), (g5, ints .u8 (kz (ds a.f a.n) 32) 64), (γ4_2, ints .u8 (ds a.f a.n) 32), (γ1_0, ints .u8 (fun _ => 0) 32)] ∧ Ow w [γs36, g5, γ4_2, γ1_0] v39 (64 + 32) (ct (mk8 (kz (ds a.f a.n) 32) 92) 64 (ds (ct (mk8 (kz (ds a.f a.n) 32) 54) 64 b.f) (64 + b.n))) w39) := ⟨hM, hZ2⟩
  clear hr hZ hZ2 hM H38
  refine rest_enter (d := 55) (R := fun vv w' => vv = .agg (ints .u8 (ds (ct (mk8 (kz (ds a.f a.n) 32) 92) 64 (ds (ct (mk8 (kz (ds a.f a.n) 32) 54) 64 b.f) (64 + b.n))) (64 + 32)) 32).toArray ∧ Below w39.heap.size w39 w') rfl rfl rfl (exec_call (args := #[v39]) rfl call15 rfl (mpn rfl)) (Calls.mono (dSum_any (ct (mk8 (kz (ds a.f a.n) 32) 92) 64 (ds (ct (mk8 (kz (ds a.f a.n) 32) 54) 64 b.f) (64 + b.n))) (64 + 32) (by omega) _ w39 (own_doc H39.out.2.own)) (fun e w2 hh => ⟨_, hh.1, rfl, hh.2⟩)) ?_
  rintro _ w40 ⟨rfl, hb⟩
  have H40 : Hid (_ ∧ _) := ⟨H39.out.1.below hb, Ow.step H39.out.2 (hb)⟩
  clear hb H39
  simp only [Act.put, sa, sz, ss]
  refine rest_store rfl rfl rfl (ex_storeT (vs := ints .u8 (ds (ct (mk8 (kz (ds a.f a.n) 32) 92) 64 (ds (ct (mk8 (kz (ds a.f a.n) 32) 54) 64 b.f) (64 + b.n))) (64 + 32)) 32) H40.out.1 3 rfl rfl rfl rfl (by rw [ints_len]; exact Tryd.sizeOf25) (ints_all _ _ _) (by simp [ints_len])) ?_
  have H41 : Hid (Mm (w40.setCells γ1_0 0 (ints .u8 (ds (ct (mk8 (kz (ds a.f a.n) 32) 92) 64 (ds (ct (mk8 (kz (ds a.f a.n) 32) 54) 64 b.f) (64 + b.n))) (64 + 32)) 32)) [(γs36, ints .u8 (ds (ct (mk8 (kz (ds a.f a.n) 32) 54) 64 b.f) (64 + b.n)) 32), (g5, ints .u8 (kz (ds a.f a.n) 32) 64), (γ4_2, ints .u8 (ds a.f a.n) 32), (γ1_0, ints .u8 (ds (ct (mk8 (kz (ds a.f a.n) 32) 92) 64 (ds (ct (mk8 (kz (ds a.f a.n) 32) 54) 64 b.f) (64 + b.n))) (64 + 32)) 32)] ∧ Ow w [γs36, g5, γ4_2, γ1_0] v39 (64 + 32) (ct (mk8 (kz (ds a.f a.n) 32) 92) 64 (ds (ct (mk8 (kz (ds a.f a.n) 32) 54) 64 b.f) (64 + b.n))) (w40.setCells γ1_0 0 (ints .u8 (ds (ct (mk8 (kz (ds a.f a.n) 32) 92) 64 (ds (ct (mk8 (kz (ds a.f a.n) 32) 54) 64 b.f) (64 + b.n))) (64 + 32)) 32))) := ⟨by
    have h := H40.out.1.put 3 (off := 0) (vs := ints .u8 (ds (ct (mk8 (kz (ds a.f a.n) 32) 92) 64 (ds (ct (mk8 (kz (ds a.f a.n) 32) 54) 64 b.f) (64 + b.n))) (64 + 32)) 32) rfl (by simp [ints_len])
    rw [ints_patch0 _ _ _ _] at h
    exact h, H40.out.2.put (by simp) o1_0.out⟩
  clear H40
  generalize hgw : World.setCells _ _ _ _ = w41 at H41 ⊢
  clear hgw
  refine rest_nil (then_normal (wp_ret ?_))
  repeat (first | refine then_ret ?_ | refine block_ret ?_)
  have hf0 := var_T H41.out.1 3 rfl Tryd.isAgg25 Tryd.sizeOf25 (ints_len _ _ _)
  refine bodyPost_ret (v := .agg (ints .u8 (ds (ct (mk8 (kz (ds a.f a.n) 32) 92) 64 (ds (ct (mk8 (kz (ds a.f a.n) 32) 54) 64 b.f) (64 + b.n))) (64 + 32)) 32).toArray) (by simp [results, Tryd.results33, asAddr, hf0]) rfl ?_
  exact ⟨rfl, H41.out.2.b⟩
end Rg
end Go.Proofs.YtolflfjfegngnaaDoor
end
section
namespace Go.Proofs.YtolflfjfegngnaaDoor
open Go.RowKit
namespace Rg
set_option maxRecDepth 100000
theorem mk8_lt (K : Nat → Nat) (x j : Nat) : mk8 K x j < 256 := Nat.mod_lt _ (by decide)
theorem ct_lt {f g : Nat → Nat} {n : Nat} (hf : ∀ j, f j < 256) (hg : ∀ j, g j < 256) (j : Nat) : ct f n g j < 256 := by
  unfold ct
  split
  · exact hf j
  · exact hg _
theorem ob_lt (h : Nat → Nat) : ∀ i j, ob h i j < 256
  | 0, _ => by show (0 : Nat) < 256; decide
  | i + 1, j => by
    show up (ob h i) i _ j < 256
    unfold up
    split
    · exact Nat.mod_lt _ (by decide)
    · exact ob_lt h i j
theorem ds_lt (f : Nat → Nat) (n j : Nat) : ds f n j < 256 := ob_lt _ 32 j
theorem dg0_cg {f f' : Nat → Nat} {n : Nat} (h : ∀ j, j < n → f j = f' j) : dg0 f n = dg0 f' n := by
  unfold dg0
  rw [hby_cg _ n h]
theorem dg0_ct (f g : Nat → Nat) (n m : Nat) : dg0 (ct f n g) (n + m) = fz (hby g (hby f ⟨fT, fun _ => 0, 0⟩ n) m).s (hby g (hby f ⟨fT, fun _ => 0, 0⟩ n) m).r (hby g (hby f ⟨fT, fun _ => 0, 0⟩ n) m).c := by
  unfold dg0
  rw [hby_ct]
theorem ct_cg {f f' g g' : Nat → Nat} {n m : Nat} (hf : ∀ j, j < n → f j = f' j) (hg : ∀ j, j < m → g j = g' j) (j : Nat) (hj : j < n + m) : ct f n g j = ct f' n g' j := by
  unfold ct
  by_cases h : j < n
  · rw [if_pos h, if_pos h, hf j h]
  · rw [if_neg h, if_neg h, hg _ (by omega)]
/-- The program's code is the document's. -/
theorem hmc_dh {K K' f f' : Nat → Nat} {n : Nat} (hK : ∀ j, j < 64 → K j = K' j) (h : ∀ j, j < n → f j = f' j) (hf : ∀ j, f' j < 256) (hn : n ≤ 1000000) (j : Nat) (hj : j < 32) : hmc K f n j = dh K' f' n j := by
  have hm : ∀ x i, i < 64 → mk8 K x i = mk8 K' x i := fun x i hi => by
    unfold mk8
    rw [hK i hi]
  have e1 : hmi K f n = dg0 (ct (mk8 K' 54) 64 f') (64 + n) := by
    unfold hmi
    rw [← dg0_ct (mk8 K 54) f 64 n]
    exact dg0_cg (ct_cg (hm 54) h)
  have e2 : ∀ i, i < 32 → hmi K f n i = ds (ct (mk8 K' 54) 64 f') (64 + n) i := fun i hi => by
    rw [e1]
    exact dg0_ds _ (ct_lt (mk8_lt _ _) hf) _ (by omega) i hi
  unfold hmc
  rw [← dg0_ct (mk8 K 92) (hmi K f n) 64 32, dg0_cg (ct_cg (hm 92) e2)]
  exact dg0_ds _ (ct_lt (mk8_lt _ _) (ds_lt _ _)) _ (by decide) j hj
/-- A key's block, as the document has it. -/
def kd (f : Nat → Nat) (n : Nat) : Nat → Nat := if 64 < n then kz (ds f n) 32 else kz f n
theorem kf_kd {f f' : Nat → Nat} {n : Nat} (h : ∀ j, j < n → f j = f' j) (hf : ∀ j, f' j < 256) (hn : n ≤ 1048576) (j : Nat) : kf f n j = kd f' n j := by
  unfold kf kd
  by_cases h64 : 64 < n
  · rw [if_pos h64, if_pos h64]
    unfold pr8 kz
    by_cases h1 : j < 32
    · rw [if_pos (by omega), if_pos h1, Nat.sub_zero, dg0_cg h]
      exact dg0_ds _ hf _ hn j h1
    · rw [if_neg (by omega), if_neg h1]
  · rw [if_neg h64, if_neg h64]
    unfold pr8 kz
    by_cases h1 : j < n
    · rw [if_pos (by omega), if_pos h1, Nat.sub_zero, h j h1]
    · rw [if_neg (by omega), if_neg h1]
theorem dCode_any (a b : Pt8) (ha : Pok a) (hb : Pok b) (hNa : a.p = none → a.cp = 0) (hNb : b.p = none → b.cp = 0) (hna : a.n ≤ 1048576) (hnb : b.n ≤ 1000000) (w : World) (hRa : a.rs w) (hRb : b.rs w) : Calls Tryd.prog 33 #[.slice a.p a.n a.cp, .slice b.p b.n b.cp] w fun e w' => e = .returned (.agg (ints .u8 (dh (kd a.f a.n) b.f b.n) 32).toArray) ∧ Below w.heap.size w w' := by
  unfold kd
  by_cases h64 : 64 < a.n
  · rw [if_pos h64]
    exact dCode_long a b ha hb hNa hNb hna hnb h64 w hRa hRb
  · rw [if_neg h64]
    exact dCode_short a b ha hb hNa hNb hna hnb (by omega) w hRa hRb
end Rg
end Go.Proofs.YtolflfjfegngnaaDoor
end
section
namespace Go.Proofs.YtolflfjfegngnaaDoor
open Go.RowKit
namespace Rg
set_option maxRecDepth 100000
/-- A slice handed in: its bytes, its part. -/
structure Ar (xs : List Int) (a : Pt8) : Prop where
  ok : Pok a
  nn : a.p = none → a.cp = 0
  len : a.n = xs.length
  f : a.f = lf xs
  by_ : ∀ x ∈ xs, 0 ≤ x ∧ x < 256
abbrev Pt8.bs (a : Pt8) (xs : List Int) (w : World) : Prop := BSl w xs a.cp (.slice a.p a.n a.cp) ∧ a.rs w
theorem Pt8.bs.below {a : Pt8} {xs : List Int} {w w' : World} (h : a.bs xs w) (hb : Below w.heap.size w w') : a.bs xs w' := ⟨BSl.below h.1 hb, Rs.below h.2 hb⟩
theorem lent_part {xs : List Int} {a : Pt8} (h : Ar xs a) (hn : a.n ≤ 1048576) (w : World) (hB : a.bs xs w) :
    Calls Tryd.prog 13 #[.slice a.p a.n a.cp] w fun e w' => Below w.heap.size w w' ∧ ∃ g, e = .returned (.slice (some ⟨g, 0, none⟩) a.n (a.n + 3)) ∧ w.heap.size ≤ g ∧ g < w'.heap.size ∧ Blk w' g (ints .u8 (lf xs) (a.n + 3)) := by
  have hh := lent_born xs a.cp _ h.by_ (by rw [← h.len]; exact hn) w hB.1
  rw [← h.len] at hh
  exact hh
theorem kept_part {xs : List Int} {a : Pt8} (h : Ar xs a) (hn : a.n ≤ 1048576) {w : World} {l : List (Nat × List Value)} (hm : Mm w l) (k : Nat) {g : Nat} (hk : l[k]? = some (g, ints .u8 (lf xs) (a.n + 3))) (hB : a.bs xs w) : Calls Tryd.prog 16 #[.slice (some ⟨g, 0, none⟩) a.n (a.n + 3), .slice a.p a.n a.cp] w fun e w' => e = .returned (.bool true) ∧ Below w.heap.size w w' := by
  rw [h.len] at hk
  have hr := hm.row8 h.by_ k hk
  have hh := kept_any xs g a.cp _ (by rw [← h.len]; exact hn) w hr.1 hr.2 hB.1
  rw [← h.len] at hh
  exact hh
theorem lf_get {xs : List Int} (hx : ∀ x ∈ xs, 0 ≤ x ∧ x < 256) {j : Nat} (hj : j < xs.length) : ((lf xs j : Nat) : Int) = xs.getD j 0 := by
  rw [lf_int hx]
  unfold lent
  rw [if_pos hj]
theorem lf_eq {xs ys : List Int} (hx : ∀ x ∈ xs, 0 ≤ x ∧ x < 256) (hy : ∀ x ∈ ys, 0 ≤ x ∧ x < 256) (hl : xs.length = ys.length) : (∀ j, j < xs.length → lf xs j = lf ys j) ↔ xs = ys := by
  constructor
  · intro h
    apply List.ext_getElem hl
    intro i h1 h2
    have e := h i h1
    have e1 := lf_get hx h1
    have e2 := lf_get hy h2
    rw [e] at e1
    rw [e1] at e2
    simpa [h1, h2] using e2
  · rintro rfl j _
    rfl
/-- Same of two that are lent. -/
theorem Same_dec {xs ys : List Int} {a b : Pt8} (ha : Ar xs a) (hb : Ar ys b) (hna : a.n ≤ 1048576) {w : World} {l : List (Nat × List Value)} (hm : Mm w l) (i j : Nat) {g k : Nat} (hi : l[i]? = some (g, ints .u8 (lf xs) (a.n + 3))) (hj : l[j]? = some (k, ints .u8 (lf ys) (b.n + 3))) :
    Calls Tryd.prog 35 #[.slice (some ⟨g, 0, none⟩) a.n (a.n + 3), .slice (some ⟨k, 0, none⟩) b.n (b.n + 3)] w fun e w' => e = .returned (.bool (decide (xs = ys))) ∧ Below w.heap.size w w' := by
  by_cases hl : a.n = b.n
  · have hh := Same_like (pc g a.n (a.n + 3) (lf xs)) (pc k b.n (b.n + 3) (lf ys)) (pc_ok _ _ _ _) (pc_ok _ _ _ _) hl (show a.n < 4611686018427387904 by omega) w (hm.rs i hi (Nat.le_add_right _ _)) (hm.rs j hj (Nat.le_add_right _ _))
    have e : decide (un (lf xs) (lf ys) a.n = 0) = decide (xs = ys) := by
      rw [decide_eq_decide, un_zero (lf_lt ha.by_) (lf_lt hb.by_), ha.len, lf_eq ha.by_ hb.by_ (by rw [← ha.len, ← hb.len, hl])]
    rw [← e]
    exact hh
  · have e : decide (xs = ys) = false := decide_eq_false (fun e => hl (by rw [ha.len, hb.len, e]))
    rw [e]
    exact Same_unlike (pc g a.n (a.n + 3) (lf xs)) (pc k b.n (b.n + 3) (lf ys)) hl w
theorem un_self (f : Nat → Nat) : ∀ n, un f f n = 0
  | 0 => rfl
  | n + 1 => by
    show o8 (un f f n) (x8 (f n) (f n)) = 0
    rw [un_self f n]
    unfold o8 x8
    rw [Nat.xor_self]
    rfl
theorem same_bs {xs ys : List Int} {a b : Pt8} (ha : Ar xs a) (hb : Ar ys b) (w : World) (hA : a.bs xs w) (hB : b.bs ys w) : Calls Tryd.prog 36 #[.slice a.p a.n a.cp, .slice b.p b.n b.cp] w fun e w' => e = .returned (.bool (decide (xs = ys))) ∧ Below w.heap.size w w' :=
  Calls.mono (same_all ha.by_ hb.by_ w hA.1 hB.1) (fun e w' hh => ⟨hh.1, by rw [hh.2]; exact Below.refl _ _⟩)
section
variable {ρ : Operand → Value} {o : Oper} {x y : Operand} {t : Bool} {w : World}
theorem ex_eqB (ho : o.op = .binOp .eql 4 x y 4) (hx : ρ x = .bool t) (hy : ρ y = .bool t) : (execOp ρ o).run Tryd.prog w = .ok (.value (.bool true)) w := by
  simp only [execOp, ho, hx, hy]
  clear ho hx hy
  go_simp
end
set_option maxHeartbeats 8000000 in
set_option maxRecDepth 100000 in
theorem codes_l1 (xs ys : List Int) (a b : Pt8)  (hl : 20000 < a.n) (w : World) (hm : Mm w [(0, ints .u32 fT 8), (1, ints .u32 kT 64)]) (hRa : a.bs xs w) (hRb : b.bs ys w) :
    Calls Tryd.prog 9 #[.slice a.p a.n a.cp, .slice b.p b.n b.cp] w fun e w' => e = .returned (.bool true) ∧ Below w.heap.size w w' := by
  have H0 : Hid (_ ∧ _) := ⟨hm, Below.refl w.heap.size w⟩
  clear hm
  have RA : Hid (a.bs xs w) := hRa
  have RB : Hid (b.bs ys w) := hRb
  clear hRa hRb
  go_enter Tryd.func9, Tryd.ntmps9
  refine wp_seq ?_
  refine walk_seqB 1 [.quiet (.bool false)] H0 ?ho1 ?he1
  case ho1 => exact ak (fun _ => ⟨rfl, fun _ _ => rfl⟩) trivial
  intro _ w1 H1
  refine rest0 rfl (then_normal (wp_seq (wp_seq ?_)))
  refine walk_seqB 8 [.quiet (.slice a.p a.n a.cp), .quiet (.int .i64 ((a.n : Nat) : Int)), .quiet (.bool true), .quiet (.bool true), .gone, .gone, .gone, .quiet (.bool true)] H1 ?ho2 ?he2
  case ho2 => exact ak (fun _ => ⟨rfl, fun _ _ => rfl⟩) (ak (by refine fun γ => ⟨rfl, fun w' h => ?_⟩; clear h; go_simp) (ak (by refine fun γ => ⟨rfl, fun w' h => ?_⟩; clear h; go_simp <;> omega) (ak (fun _ => ⟨rfl, fun _ _ => rfl⟩) (ak (fun γ => rfl) (ak (fun γ => rfl) (ak (fun γ => rfl) (ak (by refine fun γ => ⟨rfl, fun w' h => ?_⟩; clear h; go_simp) trivial)))))))
  intro _ w2 H2
  clear H1
  refine rest0 rfl (then_normal (wp_cond_true rfl (wp_seq ?_)))
  refine walk_seqB 1 [.quiet (.bool true)] H2 ?ho3 ?he3
  case ho3 => exact ak (fun _ => ⟨rfl, fun _ _ => rfl⟩) trivial
  intro _ w3 H3
  clear H2
  refine rest0 rfl (then_normal (wp_ret ?_))
  repeat (first | refine then_ret ?_ | refine block_ret ?_)
  refine bodyPost_ret (v := .bool true) (by simp [results, Tryd.results9, go_sem, *]) rfl ?_
  exact ⟨rfl, H3.out.2⟩
set_option maxHeartbeats 8000000 in
set_option maxRecDepth 100000 in
theorem codes_l2 (xs ys : List Int) (a b : Pt8)  (hk : a.n ≤ 20000) (hl : 20000 < b.n) (w : World) (hm : Mm w [(0, ints .u32 fT 8), (1, ints .u32 kT 64)]) (hRa : a.bs xs w) (hRb : b.bs ys w) :
    Calls Tryd.prog 9 #[.slice a.p a.n a.cp, .slice b.p b.n b.cp] w fun e w' => e = .returned (.bool true) ∧ Below w.heap.size w w' := by
  have H0 : Hid (_ ∧ _) := ⟨hm, Below.refl w.heap.size w⟩
  clear hm
  have RA : Hid (a.bs xs w) := hRa
  have RB : Hid (b.bs ys w) := hRb
  clear hRa hRb
  go_enter Tryd.func9, Tryd.ntmps9
  refine wp_seq ?_
  refine walk_seqB 1 [.quiet (.bool false)] H0 ?ho1 ?he1
  case ho1 => exact ak (fun _ => ⟨rfl, fun _ _ => rfl⟩) trivial
  intro _ w1 H1
  refine rest0 rfl (then_normal (wp_seq (wp_seq ?_)))
  refine walk_seqB 8 [.quiet (.slice a.p a.n a.cp), .quiet (.int .i64 ((a.n : Nat) : Int)), .quiet (.bool false), .quiet (.bool false), .quiet (.slice b.p b.n b.cp), .quiet (.int .i64 ((b.n : Nat) : Int)), .quiet (.bool true), .quiet (.bool true)] H1 ?ho2 ?he2
  case ho2 => exact ak (fun _ => ⟨rfl, fun _ _ => rfl⟩) (ak (by refine fun γ => ⟨rfl, fun w' h => ?_⟩; clear h; go_simp) (ak (by refine fun γ => ⟨rfl, fun w' h => ?_⟩; clear h; go_simp <;> omega) (ak (fun _ => ⟨rfl, fun _ _ => rfl⟩) (ak (fun _ => ⟨rfl, fun _ _ => rfl⟩) (ak (by refine fun γ => ⟨rfl, fun w' h => ?_⟩; clear h; go_simp) (ak (by refine fun γ => ⟨rfl, fun w' h => ?_⟩; clear h; go_simp <;> omega) (ak (by refine fun γ => ⟨rfl, fun w' h => ?_⟩; clear h; go_simp) trivial)))))))
  intro _ w2 H2
  clear H1
  refine rest0 rfl (then_normal (wp_cond_true rfl (wp_seq ?_)))
  refine walk_seqB 1 [.quiet (.bool true)] H2 ?ho3 ?he3
  case ho3 => exact ak (fun _ => ⟨rfl, fun _ _ => rfl⟩) trivial
  intro _ w3 H3
  clear H2
  refine rest0 rfl (then_normal (wp_ret ?_))
  repeat (first | refine then_ret ?_ | refine block_ret ?_)
  refine bodyPost_ret (v := .bool true) (by simp [results, Tryd.results9, go_sem, *]) rfl ?_
  exact ⟨rfl, H3.out.2⟩
set_option maxHeartbeats 8000000 in
set_option maxRecDepth 100000 in
theorem codes_main (xs ys : List Int) (a b : Pt8) (ha : Ar xs a) (hb : Ar ys b) (hk : a.n ≤ 20000) (hl : b.n ≤ 20000) (w : World) (hm : Mm w [(0, ints .u32 fT 8), (1, ints .u32 kT 64)]) (hRa : a.bs xs w) (hRb : b.bs ys w) :
    Calls Tryd.prog 9 #[.slice a.p a.n a.cp, .slice b.p b.n b.cp] w fun e w' => e = .returned (.bool true) ∧ Below w.heap.size w w' := by
  have H0 : Hid (_ ∧ _) := ⟨hm, Below.refl w.heap.size w⟩
  clear hm
  have RA : Hid (a.bs xs w) := hRa
  have RB : Hid (b.bs ys w) := hRb
  clear hRa hRb
  go_enter Tryd.func9, Tryd.ntmps9
  refine wp_seq ?_
  refine walk_seqB 1 [.quiet (.bool false)] H0 ?ho1 ?he1
  case ho1 => exact ak (fun _ => ⟨rfl, fun _ _ => rfl⟩) trivial
  intro _ w1 H1
  refine rest0 rfl (then_normal (wp_seq (wp_seq ?_)))
  refine walk_seqB 8 [.quiet (.slice a.p a.n a.cp), .quiet (.int .i64 ((a.n : Nat) : Int)), .quiet (.bool false), .quiet (.bool false), .quiet (.slice b.p b.n b.cp), .quiet (.int .i64 ((b.n : Nat) : Int)), .quiet (.bool false), .quiet (.bool false)] H1 ?ho2 ?he2
  case ho2 => exact ak (fun _ => ⟨rfl, fun _ _ => rfl⟩) (ak (by refine fun γ => ⟨rfl, fun w' h => ?_⟩; clear h; go_simp) (ak (by refine fun γ => ⟨rfl, fun w' h => ?_⟩; clear h; go_simp <;> omega) (ak (fun _ => ⟨rfl, fun _ _ => rfl⟩) (ak (fun _ => ⟨rfl, fun _ _ => rfl⟩) (ak (by refine fun γ => ⟨rfl, fun w' h => ?_⟩; clear h; go_simp) (ak (by refine fun γ => ⟨rfl, fun w' h => ?_⟩; clear h; go_simp <;> omega) (ak (by refine fun γ => ⟨rfl, fun w' h => ?_⟩; clear h; go_simp) trivial)))))))
  intro _ w2 H2
  clear H1
  refine rest0 rfl (then_normal (wp_cond_false rfl ?_))
  refine wp_skip (then_normal (wp_seq ?_))
  refine (walk_seq) 4 [.quiet (.slice a.p a.n a.cp), .born (fun g => .slice (some ⟨g, 0, none⟩) a.n (a.n + 3)) (ints .u8 (lf xs) (a.n + 3)), .quiet (.slice b.p b.n b.cp), .born (fun g => .slice (some ⟨g, 0, none⟩) b.n (b.n + 3)) (ints .u8 (lf ys) (b.n + 3))] (fun u' => Mm u' [(0, ints .u32 fT 8), (1, ints .u32 kT 64)] ∧ (a.bs xs u' ∧ b.bs ys u')) ?pre3 ?F3 ?hpre3 (fun γ => ?hF3) (by kernel_rfl) ?hL3 ?hS3 ?ho3 ?he3
  case hpre3 => simp only [tk, tz]; rfl
  case hF3 => simp only [fill, Kind.val, Act.put, sa, sz, ss]; rfl
  case hL3 => exact trivial
  case hS3 => exact fun w' hb => ⟨H2.out.1.below hb, ⟨RA.out.below (H2.out.2.trans (hb.mono H2.out.2.size)), RB.out.below (H2.out.2.trans (hb.mono H2.out.2.size))⟩⟩
  case ho3 =>
    refine ak (fun _ => ⟨rfl, fun _ _ => rfl⟩) ?_
    refine ak (fun γ => ⟨rfl, fun w' hX => ⟨13, #[.slice a.p a.n a.cp], exec_call rfl call13 rfl (mpn rfl), lent_part ha (by omega) w' hX.2.1⟩⟩) ?_
    refine ak (fun _ => ⟨rfl, fun _ _ => rfl⟩) ?_
    refine ak (fun γ => ⟨rfl, fun w' hX => ⟨13, #[.slice b.p b.n b.cp], exec_call rfl call13 rfl (mpn rfl), lent_part hb (by omega) w' hX.2.2⟩⟩) ?_
    exact trivial
  intro γ w3 l hM hl
  have H3 : Hid (Mm w3 [(γ 1, ints .u8 (lf xs) (a.n + 3)), (γ 3, ints .u8 (lf ys) (b.n + 3)), (0, ints .u32 fT 8), (1, ints .u32 kT 64)] ∧ _) := growB H2 hM (Nat.le_refl _) hl [1, 3] rfl (by decide)
  have o3_1 := ownB H2 hM (Nat.le_refl _) hl (i := 1) rfl
  have o3_3 := ownB H2 hM (Nat.le_refl _) hl (i := 3) rfl
  clear hM hl l H2
  generalize γ 1 = γ3_1 at H3 o3_1 ⊢
  generalize γ 3 = γ3_3 at H3 o3_3 ⊢
  clear γ
  refine rest_at (l := [4, 5]) rfl ?_
  refine rest_set (d := 5) (v := .slice (some ⟨γ3_1, 0, none⟩) a.n (a.n + 3)) (w' := w3) rfl rfl rfl rfl ?_
  simp only [Act.put, sa, sz, ss]
  refine rest_set (d := 6) (v := .slice (some ⟨γ3_3, 0, none⟩) b.n (b.n + 3)) (w' := w3) rfl rfl rfl rfl ?_
  simp only [Act.put, sa, sz, ss]
  refine rest_nil (then_normal (wp_seq ?_))
  refine walk_seqA 5 [.quiet (.slice (some ⟨γ3_1, 0, none⟩) a.n (a.n + 3)), .quiet (.slice (some ⟨γ3_3, 0, none⟩) b.n (b.n + 3)), .call (.agg (ints .u8 (hmc (kf (lf xs) a.n) (lf ys) b.n) 32).toArray), .made (ints .u8 (fun _ => 0) 32) 25, .laid 3 (ints .u8 (fun _ => 0) 32) (ints .u8 (hmc (kf (lf xs) a.n) (lf ys) b.n) 32)] (sB H3) ?ho4 ?he4 (hL := ?hL4)
  case hL4 => exact ⟨⟨_, rfl⟩, trivial⟩
  case ho4 => exact ak (fun _ => ⟨rfl, fun _ _ => rfl⟩) (ak (fun _ => ⟨rfl, fun _ _ => rfl⟩) (ak (fun γ => ⟨rfl, fun w' h => ⟨32, #[.slice (some ⟨γ3_1, 0, none⟩) a.n (a.n + 3), .slice (some ⟨γ3_3, 0, none⟩) b.n (b.n + 3)], exec_call rfl call32 rfl (mpn rfl), Code_any (pc γ3_1 a.n (a.n + 3) (lf xs)) (pc γ3_3 b.n (b.n + 3) (lf ys)) (pc_ok _ _ _ _) (pc_ok _ _ _ _) (show a.n < 4611686018427387904 by omega) (show b.n ≤ 1048576 by omega) w' (h.two 2 3 rfl rfl (by decide)) (h.rs 0 rfl (Nat.le_add_right _ _)) (h.rs 1 rfl (Nat.le_add_right _ _))⟩⟩) (ak (fun γ => ⟨rfl, fun w' => ex_mk25 rfl⟩) (ak (fun γ => ⟨rfl, rfl, (ints_len _ _ _).trans (ints_len _ _ _).symm, fun w' h => ex_laidI h Tryd.sizeOf25 rfl rfl rfl⟩) trivial))))
  intro γ w4 l hM hl
  have H4 : Hid (Mm w4 [(γ 3, ints .u8 (hmc (kf (lf xs) a.n) (lf ys) b.n) 32), (γ3_1, ints .u8 (lf xs) (a.n + 3)), (γ3_3, ints .u8 (lf ys) (b.n + 3)), (0, ints .u32 fT 8), (1, ints .u32 kT 64)] ∧ _) := growB H3 hM (Nat.le_refl _) hl [3] rfl (by decide)
  have o4_3 := ownB H3 hM (Nat.le_refl _) hl (i := 3) rfl
  clear hM hl l H3
  generalize γ 3 = γ4_3 at H4 o4_3 ⊢
  clear γ
  refine rest0 rfl (then_normal (wp_seq ?_))
  refine (walk_any) (by kernel_rfl) 37 [.quiet (.agg (ints .u8 (hmc (kf (lf xs) a.n) (lf ys) b.n) 32).toArray), .quiet (.slice a.p a.n a.cp), .quiet (.slice b.p b.n b.cp), .call (.agg (ints .u8 (dh (kd a.f a.n) b.f b.n) 32).toArray), .quiet (.bool true), .quiet (.bool true), .quiet (.slice (some ⟨γ3_1, 0, none⟩) a.n (a.n + 3)), .quiet (.slice (some ⟨γ3_3, 0, none⟩) b.n (b.n + 3)), .call (.agg (ints .u8 (hmc (kf (lf xs) a.n) (lf ys) b.n) 32).toArray), .quiet (.agg (ints .u8 (hmc (kf (lf xs) a.n) (lf ys) b.n) 32).toArray), .quiet (.bool true), .quiet (.bool true), .quiet (.bool true), .quiet (.slice (some ⟨γ3_1, 0, none⟩) a.n (a.n + 3)), .quiet (.slice (some ⟨γ3_3, 0, none⟩) b.n (b.n + 3)), .call (.bool (decide (xs = ys))), .quiet (.slice a.p a.n a.cp), .quiet (.slice b.p b.n b.cp), .call (.bool (decide (xs = ys))), .quiet (.bool true), .quiet (.bool true), .quiet (.bool true), .quiet (.slice (some ⟨γ3_1, 0, none⟩) a.n (a.n + 3)), .quiet (.slice (some ⟨γ3_1, 0, none⟩) a.n (a.n + 3)), .call (.bool true), .quiet (.bool true), .quiet (.bool true), .quiet (.slice (some ⟨γ3_1, 0, none⟩) a.n (a.n + 3)), .quiet (.slice a.p a.n a.cp), .call (.bool true), .quiet (.bool true), .quiet (.bool true), .quiet (.slice (some ⟨γ3_3, 0, none⟩) b.n (b.n + 3)), .quiet (.slice b.p b.n b.cp), .call (.bool true), .quiet (.bool true), .quiet (.bool true)] (fun u' => Mm u' [(γ4_3, ints .u8 (hmc (kf (lf xs) a.n) (lf ys) b.n) 32), (γ3_1, ints .u8 (lf xs) (a.n + 3)), (γ3_3, ints .u8 (lf ys) (b.n + 3)), (0, ints .u32 fT 8), (1, ints .u32 kT 64)] ∧ (a.bs xs u' ∧ b.bs ys u')) ?pre5 ?F5 ?hpre5 (fun γ => ?hF5) (by kernel_rfl) ?hL5 ?hS5 ?ho5 ?he5
  case hpre5 => simp only [tk, tz]; rfl
  case hF5 => simp only [fill, Kind.val, Act.put, sa, sz, ss]; rfl
  case hL5 => exact trivial
  case hS5 => exact fun w' hb => ⟨H4.out.1.below hb, ⟨RA.out.below (H4.out.2.trans (hb.mono H4.out.2.size)), RB.out.below (H4.out.2.trans (hb.mono H4.out.2.size))⟩⟩
  case ho5 =>
    refine ak (fun γ => ⟨rfl, fun w' hX => have h := hX.1; ex_loadT h 0 rfl rfl rfl Tryd.isAgg25 Tryd.sizeOf25 (ints_whole _ _ _) (ints_len _ _ _)⟩) ?_
    refine ak (fun _ => ⟨rfl, fun _ _ => rfl⟩) ?_
    refine ak (fun _ => ⟨rfl, fun _ _ => rfl⟩) ?_
    refine ak (fun γ => ⟨rfl, fun w' hX => ⟨33, #[.slice a.p a.n a.cp, .slice b.p b.n b.cp], exec_call rfl call33 rfl (mpn rfl), dCode_any a b ha.ok hb.ok ha.nn hb.nn (by omega) (by omega) w' hX.2.1.2 hX.2.2.2⟩⟩) ?_
    refine ak (fun γ => ⟨rfl, fun w' _ => ex_eq25 (all_of (fun j hj => by rw [ha.f, hb.f]; exact hmc_dh (fun i _ => kf_kd (fun _ _ => rfl) (lf_lt ha.by_) (by omega) i) (fun _ _ => rfl) (lf_lt hb.by_) (by omega) j hj)) rfl rfl rfl⟩) ?_
    refine ak (fun _ => ⟨rfl, fun _ _ => rfl⟩) ?_
    refine ak (fun _ => ⟨rfl, fun _ _ => rfl⟩) ?_
    refine ak (fun _ => ⟨rfl, fun _ _ => rfl⟩) ?_
    refine ak (fun γ => ⟨rfl, fun w' hX => have h := hX.1; ⟨34, #[.slice (some ⟨γ3_1, 0, none⟩) a.n (a.n + 3), .slice (some ⟨γ3_3, 0, none⟩) b.n (b.n + 3)], exec_call rfl call34 rfl (mpn rfl), Extract_any (pc γ3_1 a.n (a.n + 3) (lf xs)) (pc γ3_3 b.n (b.n + 3) (lf ys)) (pc_ok _ _ _ _) (pc_ok _ _ _ _) (show a.n < 4611686018427387904 by omega) (show b.n ≤ 1048576 by omega) w' (h.two 3 4 rfl rfl (by decide)) (h.rs 1 rfl (Nat.le_add_right _ _)) (h.rs 2 rfl (Nat.le_add_right _ _))⟩⟩) ?_
    refine ak (fun γ => ⟨rfl, fun w' hX => have h := hX.1; ex_loadT h 0 rfl rfl rfl Tryd.isAgg25 Tryd.sizeOf25 (ints_whole _ _ _) (ints_len _ _ _)⟩) ?_
    refine ak (fun γ => ⟨rfl, fun w' _ => ex_eq25 (all_self _ _) rfl rfl rfl⟩) ?_
    refine ak (by refine fun γ => ⟨rfl, fun w' h => ?_⟩; clear h; go_simp) ?_
    refine ak (fun _ => ⟨rfl, fun _ _ => rfl⟩) ?_
    refine ak (fun _ => ⟨rfl, fun _ _ => rfl⟩) ?_
    refine ak (fun _ => ⟨rfl, fun _ _ => rfl⟩) ?_
    refine ak (fun γ => ⟨rfl, fun w' hX => have h := hX.1; ⟨35, #[.slice (some ⟨γ3_1, 0, none⟩) a.n (a.n + 3), .slice (some ⟨γ3_3, 0, none⟩) b.n (b.n + 3)], exec_call rfl call35 rfl (mpn rfl), Same_dec ha hb (by omega) h 1 2 rfl rfl⟩⟩) ?_
    refine ak (fun _ => ⟨rfl, fun _ _ => rfl⟩) ?_
    refine ak (fun _ => ⟨rfl, fun _ _ => rfl⟩) ?_
    refine ak (fun γ => ⟨rfl, fun w' hX => ⟨36, #[.slice a.p a.n a.cp, .slice b.p b.n b.cp], exec_call rfl call36 rfl (mpn rfl), same_bs ha hb w' hX.2.1 hX.2.2⟩⟩) ?_
    refine ak (fun γ => ⟨rfl, fun w' _ => ex_eqB rfl rfl rfl⟩) ?_
    refine ak (by refine fun γ => ⟨rfl, fun w' h => ?_⟩; clear h; go_simp) ?_
    refine ak (fun _ => ⟨rfl, fun _ _ => rfl⟩) ?_
    refine ak (fun _ => ⟨rfl, fun _ _ => rfl⟩) ?_
    refine ak (fun _ => ⟨rfl, fun _ _ => rfl⟩) ?_
    refine ak (fun γ => ⟨rfl, fun w' hX => have h := hX.1; ⟨35, #[.slice (some ⟨γ3_1, 0, none⟩) a.n (a.n + 3), .slice (some ⟨γ3_1, 0, none⟩) a.n (a.n + 3)], exec_call rfl call35 rfl (mpn rfl), Same_yes (pc γ3_1 a.n (a.n + 3) (lf xs)) (pc γ3_1 a.n (a.n + 3) (lf xs)) (pc_ok _ _ _ _) (pc_ok _ _ _ _) rfl (show a.n < 4611686018427387904 by omega) (un_self _ _) w' (h.rs 1 rfl (Nat.le_add_right _ _)) (h.rs 1 rfl (Nat.le_add_right _ _))⟩⟩) ?_
    refine ak (by refine fun γ => ⟨rfl, fun w' h => ?_⟩; clear h; go_simp) ?_
    refine ak (fun _ => ⟨rfl, fun _ _ => rfl⟩) ?_
    refine ak (fun _ => ⟨rfl, fun _ _ => rfl⟩) ?_
    refine ak (fun _ => ⟨rfl, fun _ _ => rfl⟩) ?_
    refine ak (fun γ => ⟨rfl, fun w' hX => have h := hX.1; ⟨16, #[.slice (some ⟨γ3_1, 0, none⟩) a.n (a.n + 3), .slice a.p a.n a.cp], exec_call rfl call16 rfl (mpn rfl), kept_part ha (by omega) h 1 rfl hX.2.1⟩⟩) ?_
    refine ak (by refine fun γ => ⟨rfl, fun w' h => ?_⟩; clear h; go_simp) ?_
    refine ak (fun _ => ⟨rfl, fun _ _ => rfl⟩) ?_
    refine ak (fun _ => ⟨rfl, fun _ _ => rfl⟩) ?_
    refine ak (fun _ => ⟨rfl, fun _ _ => rfl⟩) ?_
    refine ak (fun γ => ⟨rfl, fun w' hX => have h := hX.1; ⟨16, #[.slice (some ⟨γ3_3, 0, none⟩) b.n (b.n + 3), .slice b.p b.n b.cp], exec_call rfl call16 rfl (mpn rfl), kept_part hb (by omega) h 2 rfl hX.2.2⟩⟩) ?_
    refine ak (by refine fun γ => ⟨rfl, fun w' h => ?_⟩; clear h; go_simp) ?_
    refine ak (fun _ => ⟨rfl, fun _ _ => rfl⟩) ?_
    exact trivial
  intro γ w5 l hM hl
  have H5 := keepB H4 hM.below
  clear hM hl l H4 γ
  refine rest0 rfl (then_normal (wp_ret ?_))
  repeat (first | refine then_ret ?_ | refine block_ret ?_)
  refine bodyPost_ret (v := .bool true) (by simp [results, Tryd.results9, go_sem, *]) rfl ?_
  exact ⟨rfl, H5.out.2⟩
theorem bsl_ar {w : World} {xs : List Int} {c : Nat} {v : Value} (hx : ∀ x ∈ xs, 0 ≤ x ∧ x < 256) (h : BSl w xs c v) (h0 : v = .slice none 0 0 ∨ ∃ a k c', v = .slice (some a) k c') :
    ∃ q : Pt8, v = .slice q.p q.n q.cp ∧ Ar xs q ∧ q.bs xs w := by
  obtain ⟨q, e, h1, h2, h3, h4, h5, h6⟩ := bsl_part hx h h0
  subst e
  exact ⟨q, rfl, ⟨h1, h2, h4, h5, hx⟩, by rw [h6]; rw [h6] at h; exact h, h3⟩
theorem codes_any (xs : List Int) (c : Nat) (v : Value) (hx : ∀ x ∈ xs, 0 ≤ x ∧ x < 256) (ys : List Int) (d : Nat) (u : Value) (hy : ∀ x ∈ ys, 0 ≤ x ∧ x < 256) (w : World) (hm : Mm w [(0, ints .u32 fT 8), (1, ints .u32 kT 64)]) (h : BSl w xs c v) (h0 : v = .slice none 0 0 ∨ ∃ a k c', v = .slice (some a) k c') (k : BSl w ys d u) (k0 : u = .slice none 0 0 ∨ ∃ a k c', u = .slice (some a) k c') : Calls Tryd.prog 9 #[v, u] w fun e w' => e = .returned (.bool true) ∧ Below w.heap.size w w' := by
  obtain ⟨a, rfl, ha, hA⟩ := bsl_ar hx h h0
  obtain ⟨b, rfl, hb, hB⟩ := bsl_ar hy k k0
  by_cases h1 : 20000 < a.n
  · exact codes_l1 xs ys a b h1 w hm hA hB
  · by_cases h2 : 20000 < b.n
    · exact codes_l2 xs ys a b (by omega) h2 w hm hA hB
    · exact codes_main xs ys a b ha hb (by omega) (by omega) w hm hA hB
end Rg
end Go.Proofs.YtolflfjfegngnaaDoor
end
section
namespace Go.Proofs.YtolflfjfegngnaaDoor
open Go.ChangeShapes Go.WideShapes Go.ChangeAt Go.RowKit
theorem Tryd.own : ownKnob Tryd.prog.godebug = none := by kernel_rfl
theorem Tryd.laidOut : laidOutB Tryd.prog = true := by kernel_rfl
theorem Tryd.cells5 : Tryd.prog.cellsOf 5 = 1 := by kernel_rfl
set_option maxRecDepth 100000 in
theorem open_bytes {H : Type} {enc : TypeId × Value → H} {w : World} {base : Nat} {sp : Nat → Bool} {held : Bool} {r : Reach} {b0 : Nat} {v : Value} {d : DataW H} {ps : List MemPlace}
    (hval : Value.okWide Tryd.prog w r b0 22 v) (hd : DataW.Trod enc Tryd.prog w base sp held 22 v d ps) :
    ∃ xs c, BSl w xs c v ∧ (∀ x ∈ xs, 0 ≤ x ∧ x < 256) ∧ (v = .slice none 0 0 ∨ ∃ a k c', v = .slice (some a) k c') ∧ ∀ x ∈ ps, x.block < w.heap.size := by
  obtain ⟨a0, len, cap, rfl⟩ := okWide_slice Tryd.underlying22 hval
  obtain ⟨fuel, hf⟩ := hd
  rcases open_ints Tryd.underlying22 Tryd.underlying5 Tryd.cells5 hf with ⟨hcs, hx⟩ | ⟨a, len', cap', zs, hcs, _, hl, hm, hz, hx, hcell, hwz⟩
  · simp [Value.cells] at hcs
    obtain ⟨rfl, rfl, rfl⟩ := hcs
    simp only [Prod.mk.injEq] at hx
    obtain ⟨_, rfl⟩ := hx
    exact ⟨[], 0, .void none rfl, by simp, .inl rfl, by simp⟩
  · simp [Value.cells] at hcs
    obtain ⟨rfl, rfl, rfl⟩ := hcs
    simp only [Prod.mk.injEq] at hx
    obtain ⟨_, rfl⟩ := hx
    have hlz : len ≤ zs.length := by rw [hz]; split <;> omega
    have hps : ∀ x ∈ MemPlace.row a zs.length, x.block < w.heap.size := fun x hx => by
      obtain ⟨i, hi, rfl⟩ := MemPlace.mem_row.1 hx
      have := World.block_lt_of_cell? w _ (hcell i hi)
      obtain ⟨b, off, rfl, _⟩ := ints_at hcell (by omega)
      exact World.block_lt_of_cell? w _ (hcell 0 (by omega))
    have hb : ∀ x ∈ zs, 0 ≤ x ∧ x < 256 := fun x hx => by
      have := bounds_u8 (hwz x hx)
      omega
    by_cases h0 : len = 0
    · subst h0
      exact ⟨[], cap, .void (some a) rfl, by simp, .inr ⟨_, _, _, rfl⟩, hps⟩
    · obtain ⟨b, off, rfl, hc⟩ := ints_at hcell (by omega)
      refine ⟨zs.take len, cap, ?_, fun x hx => hb x (List.mem_of_mem_take hx), .inr ⟨_, _, _, rfl⟩, hps⟩
      have hlen : (zs.take len).length = len := by simp; omega
      have hf : BSl w (zs.take len) cap (.slice (some ⟨b, off, none⟩) (zs.take len).length cap) := .full b off (World.block_lt_of_cell? w _ (hc 0 (by omega))) (by rw [hlen]; exact hl) (fun i hi => by
        rw [hlen] at hi
        rw [hc i (by omega)]
        simp [hi])
      rw [hlen] at hf
      exact hf
namespace Rg
abbrev laidL : List (String × DataW Unit) := Rows.digestSumsRow.laid
abbrev laidN : List (String × DataW Unit) := Rows.digestNilRow.laid
abbrev nmA : String := match laidL with
  | (n, _) :: _ => n
  | [] => Tryd.f3.name
abbrev nmB : String := match laidN with
  | (n, _) :: _ => n
  | [] => Tryd.f3.name
theorem gA' : Tryd.prog.globalNamed nmA = some 0 := by kernel_rfl
theorem gB' : Tryd.prog.globalNamed nmB = some 1 := by kernel_rfl
theorem tA : (Tryd.prog.globals[0]?).map (·.type) = some 53 := by kernel_rfl
theorem tB : (Tryd.prog.globals[1]?).map (·.type) = some 78 := by kernel_rfl
theorem datA : (Rows.laid_reliquary_digest_first : DataW Unit) = Lib.tabData .u32 ((List.range 8).map fun j => (fT j : Int)) := by kernel_rfl
theorem datB : (Rows.laid_reliquary_digest_rounds : DataW Unit) = Lib.tabData .u32 ((List.range 64).map fun j => (kT j : Int)) := by kernel_rfl
theorem map_ints (f : Nat → Nat) (n : Nat) : (((List.range n).map fun j => (f j : Int)).map fun z => Value.int .u32 z) = ints .u32 f n := by
  unfold ints
  rw [List.map_map]
  rfl
theorem blk_of {W : World} {g n : Nat} {f : Nat → Nat} {nm : String} {cs : Array Value} (hg : Tryd.prog.globalNamed nm = some g) (hv : W.var? Tryd.prog nm = some cs) (hcs : cs.toList = ints .u32 f n) (hn : 0 < n) {ps : List MemPlace} (hpl : ∀ i, i < n → MemPlace.cell g i ∈ ps)
    (hc : ∀ b off, MemPlace.cell b off ∈ ps → (∃ c t, W.heap[b]? = some (.cells c t (0, 0))) ∧ ∀ u v, W.cell? ⟨b, off, Option.none⟩ = some (.iface u v) → Value.okWide Tryd.prog W .any 0 u v) : g < W.heap.size ∧ Blk W g (ints .u32 f n) := by
  obtain ⟨⟨c0, t0, hheap⟩, _⟩ := hc g 0 (hpl 0 hn)
  refine ⟨?_, fun j v hj => ⟨?_, ?_⟩⟩
  · rcases Nat.lt_or_ge g W.heap.size with h' | h'
    · exact h'
    · rw [Array.getElem?_eq_none (by omega)] at hheap; cases hheap
  · rw [World.var?_cell hg hv j]
    rw [← hcs] at hj
    simpa using hj
  · unfold World.frozen?
    rw [hheap]
    simp
set_option maxRecDepth 100000 in
theorem tabs_of_laid {W : World} (h : laidMetH Tryd.prog laidL W) : Mm W [(0, ints .u32 fT 8), (1, ints .u32 kT 64)] := by
  rw [MakeChecks.laidMetH_plain _ _ _ (by kernel_rfl)] at h
  obtain ⟨ps, ⟨g, t, cs, fuel, p, q, hg, ht, hv, hd, ⟨g2, t2, cs2, fuel2, p2, q2, hg2, ht2, hv2, hd2, hq2, hps2⟩, hps⟩, hnd, hc⟩ := h
  obtain rfl := Option.some.inj (gA'.symm.trans hg)
  obtain rfl := Option.some.inj (tA.symm.trans ht)
  obtain rfl := Option.some.inj (gB'.symm.trans hg2)
  obtain rfl := Option.some.inj (tB.symm.trans ht2)
  rw [datA] at hd
  rw [datB] at hd2
  have e1 := Lib.cells_of_tab (P := Tryd.prog) (t := 53) (e := 51) (n := 8) (k := .u32) (by kernel_rfl) (by kernel_rfl) (by kernel_rfl) (by kernel_rfl) hd
  have e2 := Lib.cells_of_tab (P := Tryd.prog) (t := 78) (e := 51) (n := 64) (k := .u32) (by kernel_rfl) (by kernel_rfl) (by kernel_rfl) (by kernel_rfl) hd2
  rw [map_ints] at e1 e2
  have s1 : cs.size = 8 := by rw [← Array.length_toList, e1, ints_len]
  have s2 : cs2.size = 64 := by rw [← Array.length_toList, e2, ints_len]
  have b1 := blk_of (f := fT) (n := 8) hg hv e1 (by decide) (ps := ps) (fun i hi => by
    rw [hps]
    refine List.mem_append_left _ (List.mem_append_left _ ?_)
    unfold MemPlace.row
    simp [s1]
    omega) hc
  have b2 := blk_of (f := kT) (n := 64) hg2 hv2 e2 (by decide) (ps := ps) (fun i hi => by
    rw [hps, hps2]
    refine List.mem_append_right _ (List.mem_append_left _ (List.mem_append_left _ ?_))
    unfold MemPlace.row
    simp [s2]
    omega) hc
  refine ⟨fun pq hpq => ?_, ?_⟩
  · rcases List.mem_cons.1 hpq with rfl | hpq
    · exact b1
    · rw [List.mem_singleton.1 hpq]; exact b2
  · simp
theorem door_met (os : Os) (args : Array Value) : laidMetH Tryd.prog laidL ((World.doorLaid Tryd.prog 400 os).forCall (fun _ _ => 0) ⟨#[], args, []⟩).memory :=
  laidMetH_of_parts3 (fuel := 8) (laidMet_of_run' 8 (by kernel_rfl) (by kernel_rfl)) (by kernel_rfl) (by kernel_rfl)
end Rg
end Go.Proofs.YtolflfjfegngnaaDoor
end
