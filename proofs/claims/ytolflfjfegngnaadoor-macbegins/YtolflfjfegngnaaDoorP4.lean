/- Texts of the proof, joined. -/
import Derived.Test.YtolflfjfegngnaaDoorP3
import Derived.Laws.OwnMore
import Derived.Lib.Bytes
section
namespace Go.Proofs.YtolflfjfegngnaaDoor
open Go.RowKit
namespace Rg
set_option maxRecDepth 100000
/-- The code of a message under a block. -/
def hmi (K f : Nat → Nat) (n : Nat) : Nat → Nat := fz (hby f (hby (mk8 K 54) ⟨fT, fun _ => 0, 0⟩ 64) n).s (hby f (hby (mk8 K 54) ⟨fT, fun _ => 0, 0⟩ 64) n).r (hby f (hby (mk8 K 54) ⟨fT, fun _ => 0, 0⟩ 64) n).c
def hmc (K f : Nat → Nat) (n : Nat) : Nat → Nat := fz (hby (hmi K f n) (hby (mk8 K 92) ⟨fT, fun _ => 0, 0⟩ 64) 32).s (hby (hmi K f n) (hby (mk8 K 92) ⟨fT, fun _ => 0, 0⟩ 64) 32).r (hby (hmi K f n) (hby (mk8 K 92) ⟨fT, fun _ => 0, 0⟩ 64) 32).c
theorem hby_cg {f f' : Nat → Nat} (q : Hq) : ∀ n, (∀ j, j < n → f j = f' j) → hby f q n = hby f' q n
  | 0, _ => rfl
  | n + 1, h => by
    show hone (hby f q n) (f n) = hone (hby f' q n) (f' n)
    rw [hby_cg q n fun j hj => h j (by omega), h n (by omega)]
/-- The message that parts are, one behind the other. -/
def tf (P : Nat → Pt8) : Nat → Nat → Nat
  | 0 => fun _ => 0
  | k + 1 => ct (tf P k) (tn P k) (P k).f
theorem hby_ct (f g : Nat → Nat) (q : Hq) (n m : Nat) : hby (ct f n g) q (n + m) = hby g (hby f q n) m := by
  rw [hby_add]
  have e1 : hby (ct f n g) q n = hby f q n := hby_cg _ _ fun j hj => by unfold ct; rw [if_pos hj]
  rw [e1]
  exact hby_cg _ _ fun j hj => by unfold ct; rw [if_neg (by omega), Nat.add_sub_cancel_left]
theorem sq_tf (K : Nat → Nat) (P : Nat → Pt8) : ∀ m, sq K P m = hby (tf P m) (hby K ⟨fT, fun _ => 0, 0⟩ 64) (tn P m)
  | 0 => rfl
  | m + 1 => by
    show hby (P m).f (sq K P m) (P m).n = hby (ct (tf P m) (tn P m) (P m).f) (hby K ⟨fT, fun _ => 0, 0⟩ 64) (tn P m + (P m).n)
    rw [hby_ct, sq_tf K P m]
theorem hm_cg {K f f' : Nat → Nat} {n : Nat} (h : ∀ j, j < n → f j = f' j) : hmc K f n = hmc K f' n := by
  unfold hmc hmi
  rw [hby_cg _ n h]
theorem cd_hm (K : Nat → Nat) (P : Nat → Pt8) (m : Nat) : cd K P m = hmc K (tf P m) (tn P m) := by
  unfold cd hmc hmi sd
  rw [sq_tf]
/-- A part handed in is a slice. -/
structure Pok (q : Pt8) : Prop where
  bv : Bv q.gb q.o q.n q.cp 0 (.slice q.p q.n q.cp)
  le : q.n ≤ q.cp
abbrev Pt8.rs (q : Pt8) (w : World) : Prop := Rs q.gb q.o q.n q.f w
theorem Lw.of (gs : Nat) {q : Pt8} (h : Pok q) (hn : q.n ≤ 1048576) : Lw (some ⟨gs, 0, none⟩) (fun _ => q) 1 :=
  ⟨fun _ => ⟨gs, 0, rfl⟩, fun _ _ => ⟨h.bv, h.le⟩, fun i hi => by
    obtain rfl : i = 0 := by omega
    show 64 + 0 + q.n < _
    omega, by decide⟩
set_option maxHeartbeats 1000000 in
set_option maxRecDepth 100000 in
theorem Code_any (a b : Pt8) (ha : Pok a) (hb : Pok b) (hna : a.n < 4611686018427387904) (hnb : b.n ≤ 1048576) (w : World) (hm : Mm w [(0, ints .u32 fT 8), (1, ints .u32 kT 64)]) (hRa : a.rs w) (hRb : b.rs w) :
    Calls Tryd.prog 32 #[.slice a.p a.n a.cp, .slice b.p b.n b.cp] w fun e w' => e = .returned (.agg (ints .u8 (hmc (kf a.f a.n) b.f b.n) 32).toArray) ∧ Below w.heap.size w w' := by
  have H0 : Hid (_ ∧ _) := ⟨hm, Below.refl w.heap.size w⟩
  clear hm
  have RA : Hid (a.rs w) := hRa
  have RB : Hid (b.rs w) := hRb
  clear hRa hRb
  go_enter Tryd.func32, Tryd.ntmps32
  refine wp_seq ?_
  refine walk_seqA 1 [.made (ints .u8 (fun _ => 0) 32) 25] (sB H0) ?ho1 ?he1
  case ho1 => exact ak (fun γ => ⟨rfl, fun w' => ex_mk25 rfl⟩) trivial
  intro γ w1 l hM hl
  have H1 : Hid (Mm w1 [(γ 0, ints .u8 (fun _ => 0) 32), (0, ints .u32 fT 8), (1, ints .u32 kT 64)] ∧ _) := growB H0 hM (Nat.le_refl _) hl [0] rfl (by decide)
  have o1_0 := ownB H0 hM (Nat.le_refl _) hl (i := 0) rfl
  clear hM hl l
  generalize γ 0 = γ1_0 at H1 o1_0 ⊢
  clear γ
  refine rest0 rfl (then_normal (wp_seq ?_))
  refine (walk_seq) 3 [.quiet (.slice a.p a.n a.cp), .call (.agg (ints .u8 (kf a.f a.n) 64).toArray), .quiet (.slice b.p b.n b.cp)] (fun u' => Mm u' [(γ1_0, ints .u8 (fun _ => 0) 32), (0, ints .u32 fT 8), (1, ints .u32 kT 64)] ∧ (a.rs u' ∧ b.rs u')) ?pre2 ?F2 ?hpre2 (fun γ => ?hF2) (by kernel_rfl) ?hL2 ?hS2 ?ho2 ?he2
  case hpre2 => simp only [tk, tz]; rfl
  case hF2 => simp only [fill, Kind.val, Act.put, sa, sz, ss]; rfl
  case hL2 => exact trivial
  case hS2 => exact fun w' hb => ⟨H1.out.1.below hb, ⟨RA.out.below (H1.out.2.trans (hb.mono H1.out.2.size)), RB.out.below (H1.out.2.trans (hb.mono H1.out.2.size))⟩⟩
  case ho2 =>
    refine ak (fun _ => ⟨rfl, fun _ _ => rfl⟩) ?_
    refine ak (fun γ => ⟨rfl, fun w' hX => have h := hX.1; ⟨56, #[.slice a.p a.n a.cp], exec_call rfl call56 rfl (mpn rfl), kfilled_any a.gb a.o a.n a.cp a.p a.f ha.bv ha.le hna w' (h.two 1 2 rfl rfl (by decide)) hX.2.1⟩⟩) ?_
    refine ak (fun _ => ⟨rfl, fun _ _ => rfl⟩) ?_
    exact trivial
  intro γ w2 l hM hl
  have H2 := keepB H1 hM.below
  clear hM hl l H1 γ
  refine rest_at (l := [3, 4, 5]) rfl ?_
  refine rest_set (d := 8) (v := .slice (some ⟨w2.heap.size, 0, none⟩) 1 1) (w' := (w2.alloc (.cells ([Value.slice b.p b.n b.cp] : List Value).toArray 22))) rfl rfl rfl (ex_bsL rfl rfl) ?_
  simp only [Act.put, sa, sz, ss]
  have o_γs3 : Hid (w.heap.size ≤ w2.heap.size) := H2.out.2.size
  have H3 : Hid (Mm (w2.alloc (.cells ([Value.slice b.p b.n b.cp] : List Value).toArray 22)) ((w2.heap.size, [Value.slice b.p b.n b.cp]) :: [(γ1_0, ints .u8 (fun _ => 0) 32), (0, ints .u32 fT 8), (1, ints .u32 kT 64)]) ∧ Below w.heap.size w (w2.alloc (.cells ([Value.slice b.p b.n b.cp] : List Value).toArray 22))) := ⟨H2.out.1.alloc _ 22 rfl, H2.out.2.trans (((Below.refl _ _).alloc (Nat.le_refl _) _).mono H2.out.2.size)⟩
  clear H2
  generalize hgw : (w2.alloc (.cells ([Value.slice b.p b.n b.cp] : List Value).toArray 22)) = w3 at H3 ⊢
  clear hgw
  generalize w2.heap.size = γs3 at o_γs3 H3 ⊢
  refine rest_enter (d := 9) (R := fun vv w' => vv = .agg (ints .u8 (hmc (kf a.f a.n) b.f b.n) 32).toArray ∧ Below w3.heap.size w3 w') rfl rfl rfl (exec_call (args := #[.agg (ints .u8 (kf a.f a.n) 64).toArray, .slice (some ⟨γs3, 0, none⟩) 1 1]) rfl call55 rfl (mpn rfl)) (Calls.mono (code_any (kf a.f a.n) _ (fun _ => b) 1 1 (Lw.of _ hb hnb) w3 (H3.out.1.two 2 3 rfl rfl (by decide)) (Ls.one (H3.out.1.one 0 rfl) 0 rfl (RB.out.below H3.out.2))) (fun e w2 hh => ⟨_, hh.1, rfl, hh.2⟩)) ?_
  rintro _ w4 ⟨rfl, hb⟩
  have H4 : Hid (_ ∧ _) := ⟨H3.out.1.below hb, H3.out.2.trans (hb.mono H3.out.2.size)⟩
  clear hb H3
  simp only [Act.put, sa, sz, ss]
  refine rest_store rfl rfl rfl (ex_storeT (vs := ints .u8 (hmc (kf a.f a.n) b.f b.n) 32) H4.out.1 1 rfl rfl rfl rfl (by rw [ints_len]; exact Tryd.sizeOf25) (ints_all _ _ _) (by simp [ints_len])) ?_
  have H5 : Hid (Mm (w4.setCells γ1_0 0 (ints .u8 (hmc (kf a.f a.n) b.f b.n) 32)) [(γs3, [Value.slice b.p b.n b.cp]), (γ1_0, ints .u8 (hmc (kf a.f a.n) b.f b.n) 32), (0, ints .u32 fT 8), (1, ints .u32 kT 64)] ∧ Below w.heap.size w (w4.setCells γ1_0 0 (ints .u8 (hmc (kf a.f a.n) b.f b.n) 32))) := ⟨by
    have h := H4.out.1.put 1 (off := 0) (vs := ints .u8 (hmc (kf a.f a.n) b.f b.n) 32) rfl (by simp [ints_len])
    rw [ints_patch0 _ _ _ _] at h
    exact h, below_setCells _ o1_0.out _ _ _ H4.out.2⟩
  clear H4
  generalize hgw : World.setCells _ _ _ _ = w5 at H5 ⊢
  clear hgw
  refine rest_nil (then_normal (wp_ret ?_))
  repeat (first | refine then_ret ?_ | refine block_ret ?_)
  have hf0 := var_T H5.out.1 1 rfl Tryd.isAgg25 Tryd.sizeOf25 (ints_len _ _ _)
  refine bodyPost_ret (v := .agg (ints .u8 (hmc (kf a.f a.n) b.f b.n) 32).toArray) (by simp [results, Tryd.results32, asAddr, hf0]) rfl ?_
  exact ⟨rfl, H5.out.2⟩
set_option maxHeartbeats 1000000 in
set_option maxRecDepth 100000 in
theorem Extract_any (a b : Pt8) (ha : Pok a) (hb : Pok b) (hna : a.n < 4611686018427387904) (hnb : b.n ≤ 1048576) (w : World) (hm : Mm w [(0, ints .u32 fT 8), (1, ints .u32 kT 64)]) (hRa : a.rs w) (hRb : b.rs w) :
    Calls Tryd.prog 34 #[.slice a.p a.n a.cp, .slice b.p b.n b.cp] w fun e w' => e = .returned (.agg (ints .u8 (hmc (kf a.f a.n) b.f b.n) 32).toArray) ∧ Below w.heap.size w w' := by
  have H0 : Hid (_ ∧ _) := ⟨hm, Below.refl w.heap.size w⟩
  clear hm
  have RA : Hid (a.rs w) := hRa
  have RB : Hid (b.rs w) := hRb
  clear hRa hRb
  go_enter Tryd.func34, Tryd.ntmps34
  refine wp_seq ?_
  refine walk_seqA 1 [.made (ints .u8 (fun _ => 0) 32) 25] (sB H0) ?ho1 ?he1
  case ho1 => exact ak (fun γ => ⟨rfl, fun w' => ex_mk25 rfl⟩) trivial
  intro γ w1 l hM hl
  have H1 : Hid (Mm w1 [(γ 0, ints .u8 (fun _ => 0) 32), (0, ints .u32 fT 8), (1, ints .u32 kT 64)] ∧ _) := growB H0 hM (Nat.le_refl _) hl [0] rfl (by decide)
  have o1_0 := ownB H0 hM (Nat.le_refl _) hl (i := 0) rfl
  clear hM hl l
  generalize γ 0 = γ1_0 at H1 o1_0 ⊢
  clear γ
  refine rest0 rfl (then_normal (wp_seq ?_))
  refine (walk_seq) 3 [.quiet (.slice a.p a.n a.cp), .quiet (.slice b.p b.n b.cp), .call (.agg (ints .u8 (hmc (kf a.f a.n) b.f b.n) 32).toArray)] (fun u' => Mm u' [(γ1_0, ints .u8 (fun _ => 0) 32), (0, ints .u32 fT 8), (1, ints .u32 kT 64)] ∧ (a.rs u' ∧ b.rs u')) ?pre2 ?F2 ?hpre2 (fun γ => ?hF2) (by kernel_rfl) ?hL2 ?hS2 ?ho2 ?he2
  case hpre2 => simp only [tk, tz]; rfl
  case hF2 => simp only [fill, Kind.val, Act.put, sa, sz, ss]; rfl
  case hL2 => exact trivial
  case hS2 => exact fun w' hb => ⟨H1.out.1.below hb, ⟨RA.out.below (H1.out.2.trans (hb.mono H1.out.2.size)), RB.out.below (H1.out.2.trans (hb.mono H1.out.2.size))⟩⟩
  case ho2 =>
    refine ak (fun _ => ⟨rfl, fun _ _ => rfl⟩) ?_
    refine ak (fun _ => ⟨rfl, fun _ _ => rfl⟩) ?_
    refine ak (fun γ => ⟨rfl, fun w' hX => have h := hX.1; ⟨32, #[.slice a.p a.n a.cp, .slice b.p b.n b.cp], exec_call rfl call32 rfl (mpn rfl), Code_any a b ha hb hna hnb w' (h.two 1 2 rfl rfl (by decide)) hX.2.1 hX.2.2⟩⟩) ?_
    exact trivial
  intro γ w2 l hM hl
  have H2 := keepB H1 hM.below
  clear hM hl l H1 γ
  refine rest_at (l := [3]) rfl ?_
  refine rest_store rfl rfl rfl (ex_storeT (vs := ints .u8 (hmc (kf a.f a.n) b.f b.n) 32) H2.out.1 0 rfl rfl rfl rfl (by rw [ints_len]; exact Tryd.sizeOf25) (ints_all _ _ _) (by simp [ints_len])) ?_
  have H3 : Hid (Mm (w2.setCells γ1_0 0 (ints .u8 (hmc (kf a.f a.n) b.f b.n) 32)) [(γ1_0, ints .u8 (hmc (kf a.f a.n) b.f b.n) 32), (0, ints .u32 fT 8), (1, ints .u32 kT 64)] ∧ Below w.heap.size w (w2.setCells γ1_0 0 (ints .u8 (hmc (kf a.f a.n) b.f b.n) 32))) := ⟨by
    have h := H2.out.1.put 0 (off := 0) (vs := ints .u8 (hmc (kf a.f a.n) b.f b.n) 32) rfl (by simp [ints_len])
    rw [ints_patch0 _ _ _ _] at h
    exact h, below_setCells _ o1_0.out _ _ _ H2.out.2⟩
  clear H2
  generalize hgw : World.setCells _ _ _ _ = w3 at H3 ⊢
  clear hgw
  refine rest_nil (then_normal (wp_ret ?_))
  repeat (first | refine then_ret ?_ | refine block_ret ?_)
  have hf0 := var_T H3.out.1 0 rfl Tryd.isAgg25 Tryd.sizeOf25 (ints_len _ _ _)
  refine bodyPost_ret (v := .agg (ints .u8 (hmc (kf a.f a.n) b.f b.n) 32).toArray) (by simp [results, Tryd.results34, asAddr, hf0]) rfl ?_
  exact ⟨rfl, H3.out.2⟩
/-- What is unlike of n bytes, gathered by or. -/
def un (f g : Nat → Nat) : Nat → Nat
  | 0 => 0
  | k + 1 => o8 (un f g k) (x8 (f k) (g k))
theorem Pok.at {q : Pt8} (h : Pok q) (hn : 0 < q.n) : q.p = some ⟨q.gb, q.o, none⟩ := by
  have e := h.bv.1 hn
  injection e
section
variable {ρ : Operand → Value} {o : Oper} {x y : Operand} {g off m c j a : Nat} {w : World}
theorem ex_ixP22 {p : Option Addr} (he : p = some ⟨g, off, none⟩) (ho : o.op = .indexAddr 22 x y) (hx : ρ x = .slice p m c) (hy : ρ y = .int .i64 ((j : Nat) : Int)) (h : j < m) : (execOp ρ o).run Tryd.prog w = .ok (.value (PT g (off + j))) w := by
  subst he
  simp only [execOp, ho, hx, hy]
  clear ho hx hy
  go_simp
theorem ex_ldB {f : Nat → Nat} (h : Rs g off m f w) (hk : j < m) (ho : o.op = .load 5 x) (hx : ρ x = PT g (off + j)) : (execOp ρ o).run Tryd.prog w = .ok (.value (Z8 (f j))) w := by
  have c0 := h.at_ j hk
  have ha : ∀ w, (isAgg 5).run Tryd.prog w = .ok false w := Tryd.isAgg5
  clear h
  simp only [execOp, ho, hx]
  go_simp
theorem ex_eqz (ho : o.op = .binOp .eql 5 x y 5) (hx : ρ x = Z8 a) (hy : ρ y = .int .u8 0) : (execOp ρ o).run Tryd.prog w = .ok (.value (.bool (decide (a = 0)))) w := by
  simp only [execOp, ho, hx, hy]
  clear ho hx hy
  go_simp
  by_cases h : a = 0 <;> simp [h]
end
set_option maxHeartbeats 1000000 in
set_option maxRecDepth 100000 in
theorem Same_like (a b : Pt8) (ha : Pok a) (hb : Pok b) (hn : a.n = b.n) (hna : a.n < 4611686018427387904) (w : World) (hRa : a.rs w) (hRb : b.rs w) :
    Calls Tryd.prog 35 #[.slice a.p a.n a.cp, .slice b.p b.n b.cp] w fun e w' => e = .returned (.bool (decide (un a.f b.f a.n = 0))) ∧ Below w.heap.size w w' := by
  have H0 : Hid (_ ∧ _) := ⟨Mm.nil w, Below.refl w.heap.size w⟩
  have RA : Hid (a.rs w) := hRa
  have RB : Hid (b.rs w) := hRb
  clear hRa hRb
  go_enter Tryd.func35, Tryd.ntmps35
  refine wp_seq ?_
  refine walk_seqB 1 [.quiet (.bool false)] H0 ?ho1 ?he1
  case ho1 => exact ak (fun _ => ⟨rfl, fun _ _ => rfl⟩) trivial
  intro _ w1 H1
  refine rest0 rfl (then_normal (wp_seq (wp_seq ?_)))
  refine walk_seqB 5 [.quiet (.slice a.p a.n a.cp), .quiet (.int .i64 ((a.n : Nat) : Int)), .quiet (.slice b.p b.n b.cp), .quiet (.int .i64 ((b.n : Nat) : Int)), .quiet (.bool false)] H1 ?ho2 ?he2
  case ho2 => exact ak (fun _ => ⟨rfl, fun _ _ => rfl⟩) (ak (by refine fun γ => ⟨rfl, fun w' h => ?_⟩; clear h; go_simp) (ak (fun _ => ⟨rfl, fun _ _ => rfl⟩) (ak (by refine fun γ => ⟨rfl, fun w' h => ?_⟩; clear h; go_simp) (ak (by refine fun γ => ⟨rfl, fun w' h => ?_⟩; clear h; go_simp <;> omega) trivial))))
  intro _ w2 H2
  clear H1
  refine rest0 rfl (then_normal (wp_cond_false rfl ?_))
  refine wp_skip (then_normal (wp_seq ?_))
  refine walk_seqB 1 [.quiet (.int .u8 0)] H2 ?ho3 ?he3
  case ho3 => exact ak (fun _ => ⟨rfl, fun _ _ => rfl⟩) trivial
  intro _ w3 H3
  clear H2
  refine rest0 rfl (then_normal (wp_seq (wp_seq ?_)))
  refine walk_seqB 3 [.quiet (.slice a.p a.n a.cp), .quiet (.int .i64 ((a.n : Nat) : Int)), .quiet (.int .i64 0)] H3 ?ho4 ?he4
  case ho4 => exact ak (fun _ => ⟨rfl, fun _ _ => rfl⟩) (ak (by refine fun γ => ⟨rfl, fun w' h => ?_⟩; clear h; go_simp) (ak (fun _ => ⟨rfl, fun _ _ => rfl⟩) trivial))
  intro _ w4 H4
  clear H3
  refine rest0 rfl (then_normal (wp_block ?_))
  refine loop_ghost (α := Nat) (fun k a' w' => ∃ s0 : Nat → Value, a' = ⟨#[.slice a.p a.n a.cp, .slice b.p b.n b.cp, undef, undef, .bool false, Z8 (un a.f b.f k), s0 6, s0 7, .slice a.p a.n a.cp, .int .i64 ((a.n : Nat) : Int), .slice b.p b.n b.cp, .int .i64 ((b.n : Nat) : Int), .bool false, .slice a.p a.n a.cp, .int .i64 ((a.n : Nat) : Int), .int .i64 ((k : Nat) : Int), s0 16, s0 17, s0 18, s0 19, s0 20, s0 21, s0 22, s0 23, s0 24, s0 25, s0 26, s0 27, s0 28, undef, undef], []⟩ ∧ (Mm w' [] ∧ Below w.heap.size w w') ∧ k ≤ a.n) (fun k => a.n - k) 0 ?st0 ?rd0
  case st0 => exact ⟨(slotfn [undef, undef, undef, undef, undef, undef, undef, undef, undef, undef, undef, undef, undef, undef, undef, undef, undef, undef, undef, undef, undef, undef, undef, undef, undef, undef, undef, undef, undef]), rfl, ⟨H4.out.1, H4.out.2⟩, by omega⟩
  intro k a' w5 hI
  obtain ⟨s0, rfl, hMB, hk0⟩ := hI
  have H5 : Hid (_ ∧ _) := hMB
  clear hMB H4
  by_cases hlt : k < a.n
  · have hrd : True := trivial
    clear hrd
    have Ea : Hid (a.p = some ⟨a.gb, a.o, none⟩) := ha.at (by omega)
    have Eb : Hid (b.p = some ⟨b.gb, b.o, none⟩) := hb.at (by omega)
    refine wp_seq ?_
    refine walk_seqB 1 [.quiet (.bool true)] H5 ?ho5 ?he5
    case ho5 => exact ak (by refine fun γ => ⟨rfl, fun w' h => ?_⟩; clear h; go_simp <;> omega) trivial
    intro _ w6 H6
    clear H5
    refine rest0 rfl (then_normal (wp_seq ?_))
    refine wp_cond_true rfl (wp_skip ?_)
    refine then_normal (wp_seq ?_)
    refine wp_block (wp_seq ?_)
    refine (walk_seq) 5 [.quiet (.int .i64 ((k : Nat) : Int)), .quiet (PT a.gb (a.o + k)), .quiet (Z8 (a.f k)), .quiet (.int .i64 ((k : Nat) : Int)), .quiet (Z8 (a.f k))] (fun u' => Mm u' [] ∧ (a.rs u' ∧ b.rs u')) ?pre6 ?F6 ?hpre6 (fun γ => ?hF6) (by kernel_rfl) ?hL6 ?hS6 ?ho6 ?he6
    case hpre6 => simp only [tk, tz]; rfl
    case hF6 => simp only [fill, Kind.val, Act.put, sa, sz, ss]; rfl
    case hL6 => exact trivial
    case hS6 => exact fun w' hb => ⟨H6.out.1.below hb, ⟨RA.out.below (H6.out.2.trans (hb.mono H6.out.2.size)), RB.out.below (H6.out.2.trans (hb.mono H6.out.2.size))⟩⟩
    case ho6 =>
      refine ak (fun _ => ⟨rfl, fun _ _ => rfl⟩) ?_
      refine ak (fun γ => ⟨rfl, fun w' _ => ex_ixP22 (j := k) Ea.out rfl rfl rfl (by omega)⟩) ?_
      refine ak (fun γ => ⟨rfl, fun w' hX => ex_ldB (j := k) hX.2.1 (by omega) rfl rfl⟩) ?_
      refine ak (fun _ => ⟨rfl, fun _ _ => rfl⟩) ?_
      refine ak (fun _ => ⟨rfl, fun _ _ => rfl⟩) ?_
      exact trivial
    intro γ w7 l hM hl
    have H7 := keepB H6 hM.below
    clear hM hl l H6 γ
    refine rest0 rfl (then_normal ?_)
    refine (walk_seq) 8 [.quiet (Z8 (un a.f b.f k)), .quiet (Z8 (a.f k)), .quiet (.slice b.p b.n b.cp), .quiet (.int .i64 ((k : Nat) : Int)), .quiet (PT b.gb (b.o + k)), .quiet (Z8 (b.f k)), .quiet (Z8 (x8 (a.f k) (b.f k))), .quiet (Z8 (o8 (un a.f b.f k) (x8 (a.f k) (b.f k))))] (fun u' => Mm u' [] ∧ (a.rs u' ∧ b.rs u')) ?pre7 ?F7 ?hpre7 (fun γ => ?hF7) (by kernel_rfl) ?hL7 ?hS7 ?ho7 ?he7
    case hpre7 => simp only [tk, tz]; rfl
    case hF7 => simp only [fill, Kind.val, Act.put, sa, sz, ss]; rfl
    case hL7 => exact trivial
    case hS7 => exact fun w' hb => ⟨H7.out.1.below hb, ⟨RA.out.below (H7.out.2.trans (hb.mono H7.out.2.size)), RB.out.below (H7.out.2.trans (hb.mono H7.out.2.size))⟩⟩
    case ho7 =>
      refine ak (fun _ => ⟨rfl, fun _ _ => rfl⟩) ?_
      refine ak (fun _ => ⟨rfl, fun _ _ => rfl⟩) ?_
      refine ak (fun _ => ⟨rfl, fun _ _ => rfl⟩) ?_
      refine ak (fun _ => ⟨rfl, fun _ _ => rfl⟩) ?_
      refine ak (fun γ => ⟨rfl, fun w' _ => ex_ixP22 (j := k) Eb.out rfl rfl rfl (by omega)⟩) ?_
      refine ak (fun γ => ⟨rfl, fun w' hX => ex_ldB (j := k) hX.2.2 (by omega) rfl rfl⟩) ?_
      refine ak (fun γ => ⟨rfl, fun w' _ => ex_xor8 rfl rfl rfl⟩) ?_
      refine ak (fun γ => ⟨rfl, fun w' _ => ex_or8 rfl rfl rfl⟩) ?_
      exact trivial
    intro γ w8 l hM hl
    have H8 := keepB H7 hM.below
    clear hM hl l H7 γ
    refine rest_at (l := [8]) rfl ?_
    refine rest_set (d := 5) (v := Z8 (o8 (un a.f b.f k) (x8 (a.f k) (b.f k)))) (w' := w8) rfl rfl rfl rfl ?_
    simp only [Act.put, sa, sz, ss]
    refine rest_nil (block_normal (then_normal ?_))
    refine walk_seqB 1 [.quiet (.int .i64 ((k + 1 : Nat) : Int))] H8 ?ho8 ?he8
    case ho8 => exact ak (by refine fun γ => ⟨rfl, fun w' h => ?_⟩; clear h; go_simp; rw [IntKind.wrap_i64]; omega) trivial
    intro _ w9 H9
    clear H8
    refine rest_at (l := [1]) rfl ?_
    refine rest_set (d := 15) (v := .int .i64 ((k + 1 : Nat) : Int)) (w' := w9) rfl rfl rfl rfl ?_
    simp only [Act.put, sa, sz, ss]
    refine rest_nil (then_normal ?_)
    exact ⟨k + 1, ⟨(slotfn [undef, undef, undef, undef, undef, undef, .int .i64 ((k : Nat) : Int), Z8 (a.f k), undef, undef, undef, undef, undef, undef, undef, undef, .bool true, .int .i64 ((k : Nat) : Int), PT a.gb (a.o + k), Z8 (a.f k), Z8 (un a.f b.f k), Z8 (a.f k), .slice b.p b.n b.cp, .int .i64 ((k : Nat) : Int), PT b.gb (b.o + k), Z8 (b.f k), Z8 (x8 (a.f k) (b.f k)), Z8 (o8 (un a.f b.f k) (x8 (a.f k) (b.f k))), .int .i64 ((k + 1 : Nat) : Int)]), rfl, ⟨H9.out.1, H9.out.2⟩, by omega⟩, by omega⟩
  have hkm : k = a.n := by omega
  subst hkm
  refine wp_seq ?_
  refine walk_seqB 1 [.quiet (.bool false)] H5 ?ho9 ?he9
  case ho9 => exact ak (by refine fun γ => ⟨rfl, fun w' h => ?_⟩; clear h; go_simp <;> omega) trivial
  intro _ w10 H10
  clear H5
  refine rest0 rfl (then_normal (wp_seq (wp_cond_false rfl ?_)))
  refine wp_exit ?_
  repeat refine then_exit ?_
  refine block_exit ?_
  refine then_normal (wp_seq ?_)
  refine walk_seqB 3 [.quiet (Z8 (un a.f b.f a.n)), .quiet (.bool (decide (un a.f b.f a.n = 0))), .quiet (.bool (decide (un a.f b.f a.n = 0)))] H10 ?ho10 ?he10
  case ho10 => exact ak (fun _ => ⟨rfl, fun _ _ => rfl⟩) (ak (fun γ => ⟨rfl, fun w' _ => ex_eqz rfl rfl rfl⟩) (ak (fun _ => ⟨rfl, fun _ _ => rfl⟩) trivial))
  intro _ w11 H11
  clear H10
  refine rest0 rfl (then_normal (wp_ret ?_))
  repeat (first | refine then_ret ?_ | refine block_ret ?_)
  refine bodyPost_ret (v := .bool (decide (un a.f b.f a.n = 0))) (by simp [results, Tryd.results35, go_sem, *]) rfl ?_
  exact ⟨rfl, H11.out.2⟩
set_option maxHeartbeats 1000000 in
set_option maxRecDepth 100000 in
theorem Same_unlike (a b : Pt8) (hn : a.n ≠ b.n) (w : World) :
    Calls Tryd.prog 35 #[.slice a.p a.n a.cp, .slice b.p b.n b.cp] w fun e w' => e = .returned (.bool false) ∧ Below w.heap.size w w' := by
  have H0 : Hid (_ ∧ _) := ⟨Mm.nil w, Below.refl w.heap.size w⟩
  go_enter Tryd.func35, Tryd.ntmps35
  refine wp_seq ?_
  refine walk_seqB 1 [.quiet (.bool false)] H0 ?ho1 ?he1
  case ho1 => exact ak (fun _ => ⟨rfl, fun _ _ => rfl⟩) trivial
  intro _ w1 H1
  refine rest0 rfl (then_normal (wp_seq (wp_seq ?_)))
  refine walk_seqB 5 [.quiet (.slice a.p a.n a.cp), .quiet (.int .i64 ((a.n : Nat) : Int)), .quiet (.slice b.p b.n b.cp), .quiet (.int .i64 ((b.n : Nat) : Int)), .quiet (.bool true)] H1 ?ho2 ?he2
  case ho2 => exact ak (fun _ => ⟨rfl, fun _ _ => rfl⟩) (ak (by refine fun γ => ⟨rfl, fun w' h => ?_⟩; clear h; go_simp) (ak (fun _ => ⟨rfl, fun _ _ => rfl⟩) (ak (by refine fun γ => ⟨rfl, fun w' h => ?_⟩; clear h; go_simp) (ak (by refine fun γ => ⟨rfl, fun w' h => ?_⟩; clear h; go_simp <;> omega) trivial))))
  intro _ w2 H2
  clear H1
  refine rest0 rfl (then_normal (wp_cond_true rfl (wp_seq ?_)))
  refine walk_seqB 1 [.quiet (.bool false)] H2 ?ho3 ?he3
  case ho3 => exact ak (fun _ => ⟨rfl, fun _ _ => rfl⟩) trivial
  intro _ w3 H3
  clear H2
  refine rest0 rfl (then_normal (wp_ret ?_))
  repeat (first | refine then_ret ?_ | refine block_ret ?_)
  refine bodyPost_ret (v := .bool false) (by simp [results, Tryd.results35, go_sem, *]) rfl ?_
  exact ⟨rfl, H3.out.2⟩
end Rg
end Go.Proofs.YtolflfjfegngnaaDoor
end
section
namespace Go.Proofs.YtolflfjfegngnaaDoor
open Go.RowKit
namespace Rg
set_option maxRecDepth 100000
/-- The codes that a key is expanded to, one behind the other: how long, which; the byte that numbers them. -/
def ln : Nat → Nat
  | 0 => 0
  | _ + 1 => 32
def bi (k : Nat) : Nat := (k + 1) % 256
def tt (K f : Nat → Nat) (m : Nat) : Nat → Nat → Nat
  | 0 => fun _ => 0
  | k + 1 => hmc K (ct (ct (tt K f m k) (ln k) f) (ln k + m) (fun _ => bi k)) (ln k + m + 1)
/-- What a key is expanded to. -/
def xpd (K f : Nat → Nat) (m : Nat) : Nat → Nat := fun j => tt K f m (j / 32 + 1) (j % 32)
def xo_ (K f : Nat → Nat) (m k : Nat) : Nat → Nat := fun j => if j < 32 * k then xpd K f m j else 0
theorem xo_zero (K f : Nat → Nat) (m : Nat) : xo_ K f m 0 = fun _ => 0 := by
  funext j
  unfold xo_
  rw [if_neg (by omega)]
theorem xo_step (K f : Nat → Nat) (m k n mm : Nat) (h : 32 * k < n) (hm : mm = Nat.min 32 (n - 32 * k)) : ints .u8 (pr8 (xo_ K f m k) (0 + 32 * k) mm (tt K f m (k + 1))) n = ints .u8 (xo_ K f m (k + 1)) n := by
  refine ints_congr fun j hj => ?_
  have hm' : mm = min 32 (n - 32 * k) := hm
  unfold pr8 xo_
  by_cases h1 : j < 32 * k
  · rw [if_neg (by omega), if_pos h1, if_pos (by omega)]
  · by_cases h2 : j < 32 * (k + 1)
    · rw [if_pos (by omega), if_pos h2]
      unfold xpd
      rw [show j / 32 = k by omega, show j - (0 + 32 * k) = j % 32 by omega]
    · rw [if_neg (by omega), if_neg h1, if_neg h2]
theorem xo_all (K f : Nat → Nat) (m k n : Nat) (h : n ≤ 32 * k) : ints .u8 (xo_ K f m k) n = ints .u8 (xpd K f m) n := ints_congr fun j hj => by
  unfold xo_
  rw [if_pos (by omega)]
/-- A part that can be read, while nothing old is changed. -/
structure Bq (q : Pt8) (w w' : World) : Prop where
  b : Below w.heap.size w w'
  r : q.rs w'
theorem Bq.grow {q : Pt8} {w w1 w2 : World} (h : Bq q w w1) (hb : Below w1.heap.size w1 w2) : Bq q w w2 := ⟨h.b.trans (hb.mono h.b.size), h.r.below hb⟩
theorem Bq.size {q : Pt8} {w w1 : World} (h : Bq q w w1) : w.heap.size ≤ w1.heap.size := h.b.size
/-- Three parts. -/
def P3 (a b c : Pt8) : Nat → Pt8
  | 0 => a
  | 1 => b
  | _ => c
theorem ct_zero (f g : Nat → Nat) : ct f 0 g = g := by
  funext j
  unfold ct
  rw [if_neg (by omega), Nat.sub_zero]
theorem cd_three (K : Nat → Nat) (q b : Pt8) (g v : Nat) : cd K (P3 q b (pw g 1 (fun _ => v))) 3 = hmc K (ct (ct q.f q.n b.f) (q.n + b.n) (fun _ => v)) (q.n + b.n + 1) := by
  rw [cd_hm]
  show hmc K (ct (ct (ct (fun _ => 0) 0 q.f) (0 + q.n) b.f) (0 + q.n + b.n) (fun _ => v)) (0 + q.n + b.n + 1) = _
  rw [ct_zero, Nat.zero_add]
theorem tt_next {K f : Nat → Nat} {m k : Nat} {q b : Pt8} (g : Nat) (hn : q.n = ln k) (hq : ∀ j, j < q.n → q.f j = tt K f m k j) (hb : b.f = f) (hm : b.n = m) : cd K (P3 q b (pw g 1 (fun _ => bi k))) 3 = tt K f m (k + 1) := by
  subst hb hm
  rw [cd_three, hn]
  show _ = hmc K (ct (ct (tt K b.f b.n k) (ln k) b.f) (ln k + b.n) (fun _ => bi k)) (ln k + b.n + 1)
  refine hm_cg fun j _ => ?_
  unfold ct
  by_cases h1 : j < ln k + b.n
  · rw [if_pos h1, if_pos h1]
    by_cases h2 : j < ln k
    · rw [if_pos h2, if_pos h2, hq j (by omega)]
    · rw [if_neg h2, if_neg h2]
  · rw [if_neg h1, if_neg h1]
theorem ln_le (k : Nat) : ln k ≤ 32 := by cases k <;> simp [ln]
theorem Lw.three (gs g v : Nat) {q b : Pt8} {k : Nat} (hq : Pok q) (hn : q.n = ln k) (hb : Pok b) (hnb : b.n ≤ 1048576) : Lw (some ⟨gs, 0, none⟩) (P3 q b (pw g 1 (fun _ => v))) 3 := by
  have hl := ln_le k
  refine ⟨fun _ => ⟨gs, 0, rfl⟩, fun i hi => ?_, fun i hi => ?_, by decide⟩
  · rcases (by omega : i = 0 ∨ i = 1 ∨ i = 2) with rfl | rfl | rfl
    · exact ⟨hq.bv, hq.le⟩
    · exact ⟨hb.bv, hb.le⟩
    · exact pw_bv g 1 _
  · rcases (by omega : i = 0 ∨ i = 1 ∨ i = 2) with rfl | rfl | rfl
    · show 64 + 0 + q.n < _
      omega
    · show 64 + (0 + q.n) + b.n < _
      omega
    · show 64 + (0 + q.n + b.n) + 1 < _
      omega
theorem Ls.three {w : World} {l : List (Nat × List Value)} {gs g v : Nat} {q b : Pt8} (h : Mm w l) (k i : Nat) (hk : l[k]? = some (gs, [.slice q.p q.n q.cp, .slice b.p b.n b.cp, .slice (some ⟨g, 0, none⟩) 1 1])) (hi : l[i]? = some (g, ints .u8 (fun _ => v) 1)) (hq : q.rs w) (hb : b.rs w) : Ls (some ⟨gs, 0, none⟩) (P3 q b (pw g 1 (fun _ => v))) 3 w := by
  refine Ls.mk h k hk (fun i hi => ?_) (fun j hj => ?_)
  · rcases (by omega : i = 0 ∨ i = 1 ∨ i = 2) with rfl | rfl | rfl <;> rfl
  · rcases (by omega : j = 0 ∨ j = 1 ∨ j = 2) with rfl | rfl | rfl
    · exact hq
    · exact hb
    · exact h.rs i hi (Nat.le_refl _)
section
variable {ρ : Operand → Value} {o : Oper} {x y z : Operand} {a c : Nat} {w : World}
theorem ex_bsL3 {p0 p1 p2 : Option Addr} {n0 c0 n1 c1 n2 c2 : Nat} (ho : o.op = .buildSlice 29 3 #[(0, x), (1, y), (2, z)]) (hx : ρ x = .slice p0 n0 c0) (hy : ρ y = .slice p1 n1 c1) (hz : ρ z = .slice p2 n2 c2) : (execOp ρ o).run Tryd.prog w = .ok (.value (.slice (some ⟨w.heap.size, 0, none⟩) 3 3)) (w.alloc (.cells ([.slice p0 n0 c0, .slice p1 n1 c1, .slice p2 n2 c2] : List Value).toArray 22)) := by
  simp only [execOp, ho, List.map_toArray, List.map_cons, List.map_nil, hx, hy, hz]
  kernel_rfl
theorem ex_add8w {b : Nat} (hc : (a + b) % 256 = c) (ho : o.op = .binOp .add 5 x y 5) (hx : ρ x = Z8 a) (hy : ρ y = .int .u8 (b : Int)) : (execOp ρ o).run Tryd.prog w = .ok (.value (Z8 c)) w := by
  subst hc
  simp only [execOp, ho, hx, hy]
  clear ho hx hy
  go_simp
  simp [IntKind.wrap, IntKind.bits, IntKind.signed]
theorem ints_zero (n : Nat) : madeCells #[.int .u8 0] n = (ints .u8 (fun _ => 0) n).toArray := by
  apply Array.toList_inj.1
  rw [toList_madeCells_one]
  apply List.ext_getElem?
  intro j
  by_cases h : j < n
  · rw [ints_get _ _ h, List.getElem?_replicate, if_pos h]; rfl
  · rw [ints_none _ _ (by omega), List.getElem?_replicate, if_neg h]
theorem ex_mkS {n : Nat} (hn : n ≤ 1048576) (ho : o.op = .makeSlice 22 x y) (hx : ρ x = .int .i64 ((n : Nat) : Int)) (hy : ρ y = .int .i64 ((n : Nat) : Int)) : (execOp ρ o).run Tryd.prog w = .ok (.value (.slice (some ⟨w.heap.size, 0, none⟩) n n)) (w.alloc (.cells (ints .u8 (fun _ => 0) n).toArray 5)) := by
  have hmk := run_make_row' (P := Tryd.prog) 22 5 (.int .u8 0) 1 (by kernel_rfl) (by kernel_rfl) rfl .i64 .i64 n (by omega) (by omega) w
  rw [ints_zero] at hmk
  simp only [execOp, ho, hx, hy, Sem.run_bind, hmk, Result.andThen_ok, Sem.run_pure]
theorem ex_made25 (ho : o.op = .alloc 25) : (execOp ρ o).run Tryd.prog w = .ok (.value (PT w.heap.size 0)) (w.alloc (.cells (ints .u8 (fun _ => 0) 32).toArray 25)) := ex_mk25 ho
end
theorem code_three (K : Nat → Nat) (gs g k c : Nat) {q b : Pt8} (hq : Pok q) (hn : q.n = ln k) (hf : ∀ j, j < q.n → q.f j = tt K b.f b.n k j) (hb : Pok b) (hnb : b.n ≤ 1048576) (w : World) (hm : Mm w [(0, ints .u32 fT 8), (1, ints .u32 kT 64)]) (hL : Ls (some ⟨gs, 0, none⟩) (P3 q b (pw g 1 (fun _ => bi k))) 3 w) :
    Calls Tryd.prog 55 #[.agg (ints .u8 K 64).toArray, .slice (some ⟨gs, 0, none⟩) 3 c] w fun e w' => e = .returned (.agg (ints .u8 (tt K b.f b.n (k + 1)) 32).toArray) ∧ Below w.heap.size w w' := by
  have hh := code_any K _ (P3 q b (pw g 1 (fun _ => bi k))) 3 c (Lw.three gs g (bi k) hq hn hb hnb) w hm hL
  rw [tt_next g hn hf rfl rfl] at hh
  exact hh
set_option maxHeartbeats 4000000 in
set_option maxRecDepth 100000 in
theorem Expand_ok (a b : Pt8) (n : Nat) (ha : Pok a) (hb : Pok b) (hna : a.n < 4611686018427387904) (hnb : b.n ≤ 1048576) (hn : n ≤ 8160) (w : World) (hm : Mm w [(0, ints .u32 fT 8), (1, ints .u32 kT 64)]) (hRa : a.rs w) (hRb : b.rs w) :
    Calls Tryd.prog 37 #[.slice a.p a.n a.cp, .slice b.p b.n b.cp, .int .i64 ((n : Nat) : Int)] w fun e w' => Below w.heap.size w w' ∧ ∃ g, e = .returned (.tuple #[.slice (some ⟨g, 0, none⟩) n n, .int .i64 0]) ∧ w.heap.size ≤ g ∧ g < w'.heap.size ∧ Blk w' g (ints .u8 (xpd (kf a.f a.n) b.f b.n) n) := by
  have H0 : Hid (_ ∧ _) := ⟨hm, Below.refl w.heap.size w⟩
  clear hm
  have RA : Hid (a.rs w) := hRa
  have RB : Hid (b.rs w) := hRb
  obtain ⟨NN, hNN⟩ : ∃ NN, NN = (n + 31) / 32 := ⟨_, rfl⟩
  clear hRa hRb
  go_enter Tryd.func37, Tryd.ntmps37
  refine wp_seq ?_
  refine walk_seqB 2 [.quiet (.slice none 0 0), .quiet (.int .i64 0)] H0 ?ho1 ?he1
  case ho1 => exact ak (fun _ => ⟨rfl, fun _ _ => rfl⟩) (ak (fun _ => ⟨rfl, fun _ _ => rfl⟩) trivial)
  intro _ w1 H1
  refine rest0 rfl (then_normal (wp_seq (wp_seq ?_)))
  refine walk_seqB 6 [.quiet (.int .i64 ((n : Nat) : Int)), .quiet (.bool false), .quiet (.bool false), .quiet (.int .i64 ((n : Nat) : Int)), .quiet (.bool false), .quiet (.bool false)] H1 ?ho2 ?he2
  case ho2 => exact ak (fun _ => ⟨rfl, fun _ _ => rfl⟩) (ak (by refine fun γ => ⟨rfl, fun w' h => ?_⟩; clear h; go_simp <;> omega) (ak (fun _ => ⟨rfl, fun _ _ => rfl⟩) (ak (fun _ => ⟨rfl, fun _ _ => rfl⟩) (ak (by refine fun γ => ⟨rfl, fun w' h => ?_⟩; clear h; go_simp <;> omega) (ak (by refine fun γ => ⟨rfl, fun w' h => ?_⟩; clear h; go_simp) trivial)))))
  intro _ w2 H2
  clear H1
  refine rest0 rfl (then_normal (wp_cond_false rfl ?_))
  refine wp_skip (then_normal (wp_seq ?_))
  refine (walk_seq) 4 [.quiet (.slice a.p a.n a.cp), .call (.agg (ints .u8 (kf a.f a.n) 64).toArray), .made (ints .u8 (fun _ => 0) 64) 86, .laid 2 (ints .u8 (fun _ => 0) 64) (ints .u8 (kf a.f a.n) 64)] (fun u' => Mm u' [(0, ints .u32 fT 8), (1, ints .u32 kT 64)] ∧ (a.rs u')) ?pre3 ?F3 ?hpre3 (fun γ => ?hF3) (by kernel_rfl) ?hL3 ?hS3 ?ho3 ?he3
  case hpre3 => simp only [tk, tz]; rfl
  case hF3 => simp only [fill, Kind.val, Act.put, sa, sz, ss]; rfl
  case hL3 => exact ⟨⟨_, rfl⟩, trivial⟩
  case hS3 => exact fun w' hb => ⟨H2.out.1.below hb, RA.out.below (H2.out.2.trans (hb.mono H2.out.2.size))⟩
  case ho3 =>
    refine ak (fun _ => ⟨rfl, fun _ _ => rfl⟩) ?_
    refine ak (fun γ => ⟨rfl, fun w' hX => have h := hX.1; ⟨56, #[.slice a.p a.n a.cp], exec_call rfl call56 rfl (mpn rfl), kfilled_any a.gb a.o a.n a.cp a.p a.f ha.bv ha.le hna w' (h.two 0 1 rfl rfl (by decide)) hX.2⟩⟩) ?_
    refine ak (fun γ => ⟨rfl, fun w' => ex_mk86 rfl⟩) ?_
    refine ak (fun γ => ⟨rfl, rfl, (ints_len _ _ _).trans (ints_len _ _ _).symm, fun w' h => ex_laidI h Tryd.sizeOf86 rfl rfl rfl⟩) ?_
    exact trivial
  intro γ w3 l hM hl
  have H3 : Hid (Mm w3 [(γ 2, ints .u8 (kf a.f a.n) 64), (0, ints .u32 fT 8), (1, ints .u32 kT 64)] ∧ _) := growB H2 hM (Nat.le_refl _) hl [2] rfl (by decide)
  have o3_2 := ownB H2 hM (Nat.le_refl _) hl (i := 2) rfl
  clear hM hl l H2
  generalize γ 2 = γ3_2 at H3 o3_2 ⊢
  clear γ
  refine rest0 rfl (then_normal (wp_seq ?_))
  refine walk_seqB 1 [.quiet (.int .i64 ((n : Nat) : Int))] H3 ?ho4 ?he4
  case ho4 => exact ak (fun _ => ⟨rfl, fun _ _ => rfl⟩) trivial
  intro _ w4 H4
  clear H3
  refine rest_at (l := [1, 2]) rfl ?_
  refine rest_set (d := 23) (v := .slice (some ⟨w4.heap.size, 0, none⟩) n n) (w' := (w4.alloc (.cells (ints .u8 (fun _ => 0) n : List Value).toArray 5))) rfl rfl rfl (ex_mkS (by omega) rfl rfl rfl) ?_
  simp only [Act.put, sa, sz, ss]
  have o_γs5 : Hid (w.heap.size ≤ w4.heap.size) := H4.out.2.size
  have H5 : Hid (Mm (w4.alloc (.cells (ints .u8 (fun _ => 0) n : List Value).toArray 5)) ((w4.heap.size, ints .u8 (fun _ => 0) n) :: [(γ3_2, ints .u8 (kf a.f a.n) 64), (0, ints .u32 fT 8), (1, ints .u32 kT 64)]) ∧ Below w.heap.size w (w4.alloc (.cells (ints .u8 (fun _ => 0) n : List Value).toArray 5))) := ⟨H4.out.1.alloc _ 5 rfl, H4.out.2.trans (((Below.refl _ _).alloc (Nat.le_refl _) _).mono H4.out.2.size)⟩
  clear H4
  generalize hgw : (w4.alloc (.cells (ints .u8 (fun _ => 0) n : List Value).toArray 5)) = w5 at H5 ⊢
  clear hgw
  generalize w4.heap.size = γs5 at o_γs5 H5 ⊢
  refine rest_set (d := 9) (v := .slice (some ⟨γs5, 0, none⟩) n n) (w' := w5) rfl rfl rfl rfl ?_
  simp only [Act.put, sa, sz, ss]
  refine rest_nil (then_normal (wp_seq ?_))
  refine walk_seqB 1 [.quiet (.slice none 0 0)] H5 ?ho5 ?he5
  case ho5 => exact ak (fun _ => ⟨rfl, fun _ _ => rfl⟩) trivial
  intro _ w6 H6
  clear H5
  refine rest0 rfl (then_normal (wp_seq (wp_seq ?_)))
  refine walk_seqB 3 [.quiet (.slice (some ⟨γs5, 0, none⟩) n n), .quiet (.slice (some ⟨γs5, 0, none⟩) n n), .quiet (.int .u8 1)] H6 ?ho6 ?he6
  case ho6 => exact ak (fun _ => ⟨rfl, fun _ _ => rfl⟩) (ak (fun _ => ⟨rfl, fun _ _ => rfl⟩) (ak (fun _ => ⟨rfl, fun _ _ => rfl⟩) trivial))
  intro _ w7 H7
  clear H6
  refine rest0 rfl (then_normal (wp_block ?_))
  refine loop_ghost (α := Nat) (fun k a' w' => ∃ s0 : Nat → Value, a' = ⟨#[.slice a.p a.n a.cp, .slice b.p b.n b.cp, .int .i64 ((n : Nat) : Int), undef, undef, undef, .slice none 0 0, .int .i64 0, PT γ3_2 0, .slice (some ⟨γs5, 0, none⟩) n n, s0 10, s0 11, Z8 (bi k), s0 13, .int .i64 ((n : Nat) : Int), .bool false, .bool false, .int .i64 ((n : Nat) : Int), .bool false, .bool false, .slice a.p a.n a.cp, .agg (ints .u8 (kf a.f a.n) 64).toArray, .int .i64 ((n : Nat) : Int), .slice (some ⟨γs5, 0, none⟩) n n, .slice (some ⟨γs5, 0, none⟩) n n, s0 25, s0 26, s0 27, s0 28, s0 29, s0 30, s0 31, s0 32, s0 33, s0 34, s0 35, s0 36, s0 37, s0 38, s0 39, s0 40, s0 41, s0 42, undef], []⟩ ∧ (Mm w' [(γs5, ints .u8 (xo_ (kf a.f a.n) b.f b.n k) n), (γ3_2, ints .u8 (kf a.f a.n) 64), (0, ints .u32 fT 8), (1, ints .u32 kT 64)] ∧ Below w.heap.size w w') ∧ k ≤ NN ∧ Bv γs5 0 n n (min (32 * k) n) (s0 11) ∧ ∃ q : Pt8, s0 10 = .slice q.p q.n q.cp ∧ Pok q ∧ q.n = ln k ∧ (∀ j, j < q.n → q.f j = tt (kf a.f a.n) b.f b.n k j) ∧ q.rs w') (fun k => NN - k) 0 ?st0 ?rd0
  case st0 => exact ⟨(slotfn [undef, undef, undef, undef, undef, undef, undef, undef, undef, undef, .slice none 0 0, .slice (some ⟨γs5, 0, none⟩) n n, undef, undef, undef, undef, undef, undef, undef, undef, undef, undef, undef, undef, undef, undef, undef, undef, undef, undef, undef, undef, undef, undef, undef, undef, undef, undef, undef, undef, undef, undef, undef]), rfl, ⟨by rw [xo_zero]; exact H7.out.1, H7.out.2⟩, ⟨Nat.zero_le _, by rw [Nat.mul_zero, Nat.zero_min]; exact Bv.start _ _ _ _, ⟨0, 0, 0, 0, none, fun _ => 0⟩, rfl, ⟨Bv.void _ _ _ _ _, Nat.le_refl _⟩, rfl, fun j hj => absurd hj (Nat.not_lt_zero _), Rs.void _ _ _ _⟩⟩
  intro k a' w8 hI
  obtain ⟨s0, rfl, hMB, hk0⟩ := hI
  have H8 : Hid (_ ∧ _) := hMB
  clear hMB H7
  by_cases hlt : k < NN
  · have hrd : True := trivial
    clear hrd
    obtain ⟨hkN, hB11, q, e10, hP, hqn, hqf, hqr⟩ := hk0
    have e11 := hB11.1 (by omega)
    rw [show min (32 * k) n = 32 * k by omega] at e11
    rw [e10, e11]
    clear e10 e11 hB11
    have hQ : Hid (Pok q ∧ q.n = ln k ∧ ∀ j, j < q.n → q.f j = tt (kf a.f a.n) b.f b.n k j) := ⟨hP, hqn, hqf⟩
    obtain ⟨mm, hmn⟩ : ∃ mm, mm = Nat.min 32 (n - 32 * k) := ⟨_, rfl⟩
    have hmm : Hid (mm = Nat.min 32 (n - 32 * k)) := hmn
    have m1 : mm = min 32 (n - 32 * k) := hmn
    clear hmn hP hqn hqf
    have H9 : Hid (Mm w8 [(γs5, ints .u8 (xo_ (kf a.f a.n) b.f b.n k) n), (γ3_2, ints .u8 (kf a.f a.n) 64), (0, ints .u32 fT 8), (1, ints .u32 kT 64)] ∧ Bq q w w8) := ⟨H8.out.1, H8.out.2, hqr⟩
    clear H8 hqr
    refine wp_seq (wp_seq ?_)
    refine walk_seqA 3 [.quiet (.slice (some ⟨γs5, (0 + 32 * k), none⟩) (n - 32 * k) (n - 32 * k)), .quiet (.int .i64 (((n - 32 * k) : Nat) : Int)), .quiet (.bool true)] (sB H9) ?ho7 ?he7
    case ho7 => exact ak (fun _ => ⟨rfl, fun _ _ => rfl⟩) (ak (by refine fun γ => ⟨rfl, fun w' h => ?_⟩; clear h; go_simp) (ak (by refine fun γ => ⟨rfl, fun w' h => ?_⟩; clear h; go_simp <;> omega) trivial))
    intro γ w10 l hM hl
    have M10 : Mm w10 [(γs5, ints .u8 (xo_ (kf a.f a.n) b.f b.n k) n), (γ3_2, ints .u8 (kf a.f a.n) 64), (0, ints .u32 fT 8), (1, ints .u32 kT 64)] := H9.out.1.grow hM (Nat.le_refl _) hl [] rfl (by decide)
    have B10 : Bq q w w10 := H9.out.2.grow (hM.below)
    clear hM hl l H9
    clear γ
    have H10 : Hid (_ ∧ _) := ⟨M10, B10⟩
    clear M10 B10
    refine rest0 rfl (then_normal (wp_cond_true rfl ?_))
    refine wp_skip (then_normal ?_)
    refine wp_seq (wp_block (wp_seq ?_))
    refine walk_seqA 4 [.quiet (.agg (ints .u8 (kf a.f a.n) 64).toArray), .quiet (.slice q.p q.n q.cp), .quiet (.slice b.p b.n b.cp), .quiet (Z8 (bi k))] (sB H10) ?ho8 ?he8
    case ho8 => exact ak (fun γ => ⟨rfl, fun w' h => ex_loadT h 1 rfl rfl rfl Tryd.isAgg86 Tryd.sizeOf86 (ints_whole _ _ _) (ints_len _ _ _)⟩) (ak (fun _ => ⟨rfl, fun _ _ => rfl⟩) (ak (fun _ => ⟨rfl, fun _ _ => rfl⟩) (ak (fun _ => ⟨rfl, fun _ _ => rfl⟩) trivial)))
    intro γ w11 l hM hl
    have M11 : Mm w11 [(γs5, ints .u8 (xo_ (kf a.f a.n) b.f b.n k) n), (γ3_2, ints .u8 (kf a.f a.n) 64), (0, ints .u32 fT 8), (1, ints .u32 kT 64)] := H10.out.1.grow hM (Nat.le_refl _) hl [] rfl (by decide)
    have B11 : Bq q w w11 := H10.out.2.grow (hM.below)
    clear hM hl l H10
    clear γ
    have H11 : Hid (_ ∧ _) := ⟨M11, B11⟩
    clear M11 B11
    refine rest_at (l := [4, 5, 6, 7, 8]) rfl ?_
    refine rest_set (d := 34) (v := .slice (some ⟨w11.heap.size, 0, none⟩) 1 1) (w' := (w11.alloc (.cells (ints .u8 (fun _ => bi k) 1 : List Value).toArray 5))) rfl rfl rfl (ex_bs1 (a := bi k) rfl rfl) ?_
    simp only [Act.put, sa, sz, ss]
    have o_γs12 : Hid (w.heap.size ≤ w11.heap.size) := H11.out.2.size
    have H12 : Hid (Mm (w11.alloc (.cells (ints .u8 (fun _ => bi k) 1 : List Value).toArray 5)) ((w11.heap.size, ints .u8 (fun _ => bi k) 1) :: [(γs5, ints .u8 (xo_ (kf a.f a.n) b.f b.n k) n), (γ3_2, ints .u8 (kf a.f a.n) 64), (0, ints .u32 fT 8), (1, ints .u32 kT 64)]) ∧ Bq q w (w11.alloc (.cells (ints .u8 (fun _ => bi k) 1 : List Value).toArray 5))) := ⟨H11.out.1.alloc _ 5 rfl, H11.out.2.grow (((Below.refl _ _).alloc (Nat.le_refl _) _))⟩
    clear H11
    generalize hgw : (w11.alloc (.cells (ints .u8 (fun _ => bi k) 1 : List Value).toArray 5)) = w12 at H12 ⊢
    clear hgw
    generalize w11.heap.size = γs12 at o_γs12 H12 ⊢
    refine rest_set (d := 35) (v := .slice (some ⟨w12.heap.size, 0, none⟩) 3 3) (w' := (w12.alloc (.cells ([Value.slice q.p q.n q.cp, Value.slice b.p b.n b.cp, Value.slice (some ⟨γs12, 0, none⟩) 1 1] : List Value).toArray 22))) rfl rfl rfl (ex_bsL3 rfl rfl rfl rfl) ?_
    simp only [Act.put, sa, sz, ss]
    have o_γs13 : Hid (w.heap.size ≤ w12.heap.size) := H12.out.2.size
    have H13 : Hid (Mm (w12.alloc (.cells ([Value.slice q.p q.n q.cp, Value.slice b.p b.n b.cp, Value.slice (some ⟨γs12, 0, none⟩) 1 1] : List Value).toArray 22)) ((w12.heap.size, [Value.slice q.p q.n q.cp, Value.slice b.p b.n b.cp, Value.slice (some ⟨γs12, 0, none⟩) 1 1]) :: [(γs12, ints .u8 (fun _ => bi k) 1), (γs5, ints .u8 (xo_ (kf a.f a.n) b.f b.n k) n), (γ3_2, ints .u8 (kf a.f a.n) 64), (0, ints .u32 fT 8), (1, ints .u32 kT 64)]) ∧ Bq q w (w12.alloc (.cells ([Value.slice q.p q.n q.cp, Value.slice b.p b.n b.cp, Value.slice (some ⟨γs12, 0, none⟩) 1 1] : List Value).toArray 22))) := ⟨H12.out.1.alloc _ 22 rfl, H12.out.2.grow (((Below.refl _ _).alloc (Nat.le_refl _) _))⟩
    clear H12
    generalize hgw : (w12.alloc (.cells ([Value.slice q.p q.n q.cp, Value.slice b.p b.n b.cp, Value.slice (some ⟨γs12, 0, none⟩) 1 1] : List Value).toArray 22)) = w13 at H13 ⊢
    clear hgw
    generalize w12.heap.size = γs13 at o_γs13 H13 ⊢
    refine rest_enter (d := 36) (R := fun vv w' => vv = .agg (ints .u8 (tt (kf a.f a.n) b.f b.n (k + 1)) 32).toArray ∧ Below w13.heap.size w13 w') rfl rfl rfl (exec_call (args := #[.agg (ints .u8 (kf a.f a.n) 64).toArray, .slice (some ⟨γs13, 0, none⟩) 3 3]) rfl call55 rfl (mpn rfl)) (Calls.mono (code_three (kf a.f a.n) _ γs12 k 3 hQ.out.1 hQ.out.2.1 hQ.out.2.2 hb hnb w13 (H13.out.1.two 4 5 rfl rfl (by decide)) (Ls.three (H13.out.1.two 0 1 rfl rfl (by decide)) 0 1 rfl rfl H13.out.2.r (RB.out.below H13.out.2.b))) (fun e w2 hh => ⟨_, hh.1, rfl, hh.2⟩)) ?_
    rintro _ w14 ⟨rfl, hb⟩
    have H14 : Hid (_ ∧ _) := ⟨H13.out.1.below hb, H13.out.2.grow (hb)⟩
    clear hb H13
    simp only [Act.put, sa, sz, ss]
    have H15 : Hid (Mm w14 [(γs13, [Value.slice q.p q.n q.cp, Value.slice b.p b.n b.cp, Value.slice (some ⟨γs12, 0, none⟩) 1 1]), (γs12, ints .u8 (fun _ => bi k) 1), (γs5, ints .u8 (xo_ (kf a.f a.n) b.f b.n k) n), (γ3_2, ints .u8 (kf a.f a.n) 64), (0, ints .u32 fT 8), (1, ints .u32 kT 64)] ∧ Below w.heap.size w w14) := ⟨H14.out.1, H14.out.2.b⟩
    clear H14
    refine rest_set (d := 13) (v := PT w14.heap.size 0) (w' := (w14.alloc (.cells (ints .u8 (fun _ => 0) 32 : List Value).toArray 25))) rfl rfl rfl (ex_made25 rfl) ?_
    simp only [Act.put, sa, sz, ss]
    have o_γs16 : Hid (w.heap.size ≤ w14.heap.size) := H15.out.2.size
    have H16 : Hid (Mm (w14.alloc (.cells (ints .u8 (fun _ => 0) 32 : List Value).toArray 25)) ((w14.heap.size, ints .u8 (fun _ => 0) 32) :: [(γs13, [Value.slice q.p q.n q.cp, Value.slice b.p b.n b.cp, Value.slice (some ⟨γs12, 0, none⟩) 1 1]), (γs12, ints .u8 (fun _ => bi k) 1), (γs5, ints .u8 (xo_ (kf a.f a.n) b.f b.n k) n), (γ3_2, ints .u8 (kf a.f a.n) 64), (0, ints .u32 fT 8), (1, ints .u32 kT 64)]) ∧ Below w.heap.size w (w14.alloc (.cells (ints .u8 (fun _ => 0) 32 : List Value).toArray 25))) := ⟨H15.out.1.alloc _ 25 rfl, H15.out.2.trans (((Below.refl _ _).alloc (Nat.le_refl _) _).mono H15.out.2.size)⟩
    clear H15
    generalize hgw : (w14.alloc (.cells (ints .u8 (fun _ => 0) 32 : List Value).toArray 25)) = w16 at H16 ⊢
    clear hgw
    generalize w14.heap.size = γs16 at o_γs16 H16 ⊢
    refine rest_store rfl rfl rfl (ex_storeT (vs := ints .u8 (tt (kf a.f a.n) b.f b.n (k + 1)) 32) H16.out.1 0 rfl rfl rfl rfl (by rw [ints_len]; exact Tryd.sizeOf25) (ints_all _ _ _) (by simp [ints_len])) ?_
    have H17 : Hid (Mm (w16.setCells γs16 0 (ints .u8 (tt (kf a.f a.n) b.f b.n (k + 1)) 32)) [(γs16, ints .u8 (tt (kf a.f a.n) b.f b.n (k + 1)) 32), (γs13, [Value.slice q.p q.n q.cp, Value.slice b.p b.n b.cp, Value.slice (some ⟨γs12, 0, none⟩) 1 1]), (γs12, ints .u8 (fun _ => bi k) 1), (γs5, ints .u8 (xo_ (kf a.f a.n) b.f b.n k) n), (γ3_2, ints .u8 (kf a.f a.n) 64), (0, ints .u32 fT 8), (1, ints .u32 kT 64)] ∧ Below w.heap.size w (w16.setCells γs16 0 (ints .u8 (tt (kf a.f a.n) b.f b.n (k + 1)) 32))) := ⟨by
      have h := H16.out.1.put 0 (off := 0) (vs := ints .u8 (tt (kf a.f a.n) b.f b.n (k + 1)) 32) rfl (by simp [ints_len])
      rw [ints_patch0 _ _ _ _] at h
      exact h, below_setCells _ o_γs16.out _ _ _ H16.out.2⟩
    clear H16
    generalize hgw : World.setCells _ _ _ _ = w17 at H17 ⊢
    clear hgw
    refine rest_nil (then_normal (wp_seq ?_))
    refine walk_seqB 3 [.quiet (.slice (some ⟨γs5, (0 + 32 * k), none⟩) (n - 32 * k) (n - 32 * k)), .quiet (.slice (some ⟨γs5, (0 + 32 * k), none⟩) (n - 32 * k) (n - 32 * k)), .quiet (.slice (some ⟨γs16, 0, none⟩) 32 32)] H17 ?ho9 ?he9
    case ho9 => exact ak (fun _ => ⟨rfl, fun _ _ => rfl⟩) (ak (fun _ => ⟨rfl, fun _ _ => rfl⟩) (ak (fun γ => ⟨rfl, fun w' _ => ex_sl25 rfl rfl⟩) trivial))
    intro _ w18 H18
    clear H17
    refine rest_at (l := [3, 4, 5]) rfl ?_
    refine rest_set (d := 40) (v := .int .i64 ((mm : Nat) : Int)) (w' := (w18.setCells γs5 (0 + 32 * k) (ints .u8 (tt (kf a.f a.n) b.f b.n (k + 1)) mm))) rfl rfl rfl (ex_copyR (sn := 32) H18.out.1 3 rfl (fun j hj => by have := (H18.out.1.rs 0 rfl (Nat.le_refl _)).at_ j (by omega); exact this) hmm.out (by omega) rfl rfl rfl) ?_
    simp only [Act.put, sa, sz, ss]
    have H19 : Hid (Mm (w18.setCells γs5 (0 + 32 * k) (ints .u8 (tt (kf a.f a.n) b.f b.n (k + 1)) mm)) [(γs16, ints .u8 (tt (kf a.f a.n) b.f b.n (k + 1)) 32), (γs13, [Value.slice q.p q.n q.cp, Value.slice b.p b.n b.cp, Value.slice (some ⟨γs12, 0, none⟩) 1 1]), (γs12, ints .u8 (fun _ => bi k) 1), (γs5, ints .u8 (xo_ (kf a.f a.n) b.f b.n (k + 1)) n), (γ3_2, ints .u8 (kf a.f a.n) 64), (0, ints .u32 fT 8), (1, ints .u32 kT 64)] ∧ Below w.heap.size w (w18.setCells γs5 (0 + 32 * k) (ints .u8 (tt (kf a.f a.n) b.f b.n (k + 1)) mm))) := ⟨by
      have h := H18.out.1.put 3 (off := 0 + 32 * k) (vs := ints .u8 (tt (kf a.f a.n) b.f b.n (k + 1)) mm) rfl (by rw [ints_len, ints_len]; omega)
      rw [ints_pr8 _ _ _ _ _ (by omega), xo_step (kf a.f a.n) b.f b.n k n mm (by omega) hmm.out] at h
      exact h, below_setCells _ o_γs5.out _ _ _ H18.out.2⟩
    clear H18
    generalize hgw : World.setCells _ _ _ _ = w19 at H19 ⊢
    clear hgw
    refine rest_set (d := 41) (v := sl22 γs5 (0 + 32 * k) (n - 32 * k) (n - 32 * k) mm) (w' := w19) rfl rfl rfl (ex_sl22 (l := mm) rfl rfl rfl (by omega) (Nat.le_refl _)) ?_
    simp only [Act.put, sa, sz, ss]
    refine rest_set (d := 11) (v := sl22 γs5 (0 + 32 * k) (n - 32 * k) (n - 32 * k) mm) (w' := w19) rfl rfl rfl rfl ?_
    simp only [Act.put, sa, sz, ss]
    refine rest_nil (then_normal ?_)
    refine walk_seqB 2 [.quiet (.slice (some ⟨γs16, 0, none⟩) 32 32), .quiet (.slice (some ⟨γs16, 0, none⟩) 32 32)] H19 ?ho10 ?he10
    case ho10 => exact ak (fun γ => ⟨rfl, fun w' _ => ex_sl25 rfl rfl⟩) (ak (fun _ => ⟨rfl, fun _ _ => rfl⟩) trivial)
    intro _ w20 H20
    clear H19
    refine rest0 rfl ?_
    refine block_normal (then_normal ?_)
    refine walk_seqB 2 [.quiet (Z8 (bi k)), .quiet (Z8 (bi (k + 1)))] H20 ?ho11 ?he11
    case ho11 => exact ak (fun _ => ⟨rfl, fun _ _ => rfl⟩) (ak (fun γ => ⟨rfl, fun w' _ => ex_add8w (b := 1) (by unfold bi; omega) rfl rfl rfl⟩) trivial)
    intro _ w21 H21
    clear H20
    refine rest_at (l := [2]) rfl ?_
    refine rest_set (d := 12) (v := Z8 (bi (k + 1))) (w' := w21) rfl rfl rfl rfl ?_
    simp only [Act.put, sa, sz, ss]
    refine rest_nil (then_normal ?_)
    exact ⟨k + 1, ⟨(slotfn [undef, undef, undef, undef, undef, undef, undef, undef, undef, undef, .slice (some ⟨γs16, 0, none⟩) 32 32, sl22 γs5 (0 + 32 * k) (n - 32 * k) (n - 32 * k) mm, undef, PT γs16 0, undef, undef, undef, undef, undef, undef, undef, undef, undef, undef, undef, .slice (some ⟨γs5, (0 + 32 * k), none⟩) (n - 32 * k) (n - 32 * k), .int .i64 (((n - 32 * k) : Nat) : Int), .bool true, Z8 (bi k), Z8 (bi (k + 1)), .agg (ints .u8 (kf a.f a.n) 64).toArray, .slice q.p q.n q.cp, .slice b.p b.n b.cp, Z8 (bi k), .slice (some ⟨γs12, 0, none⟩) 1 1, .slice (some ⟨γs13, 0, none⟩) 3 3, .agg (ints .u8 (tt (kf a.f a.n) b.f b.n (k + 1)) 32).toArray, .slice (some ⟨γs5, (0 + 32 * k), none⟩) (n - 32 * k) (n - 32 * k), .slice (some ⟨γs5, (0 + 32 * k), none⟩) (n - 32 * k) (n - 32 * k), .slice (some ⟨γs16, 0, none⟩) 32 32, .int .i64 ((mm : Nat) : Int), sl22 γs5 (0 + 32 * k) (n - 32 * k) (n - 32 * k) mm, .slice (some ⟨γs16, 0, none⟩) 32 32]), rfl, ⟨H21.out.1.tail.tail.tail, H21.out.2⟩, ⟨by omega, (by have hh := sl22_bv (gb := γs5) (o := 0) (n := n) (cp := n) (i := 32 * k) (m := mm) (Nat.le_refl _); rw [show min (32 * (k + 1)) n = 32 * k + mm by omega]; exact hh), pw γs16 32 (tt (kf a.f a.n) b.f b.n (k + 1)), rfl, ⟨(pw_bv _ _ _).1, (pw_bv _ _ _).2⟩, rfl, fun _ _ => rfl, H21.out.1.rs 0 rfl (Nat.le_refl _)⟩⟩, by omega⟩
  obtain ⟨hkN, hB11, _⟩ := hk0
  obtain ⟨p', c', e11⟩ := hB11.2 (by omega)
  rw [e11]
  clear e11 hB11
  refine wp_seq (wp_seq ?_)
  refine walk_seqB 3 [.quiet (.slice p' 0 c'), .quiet (.int .i64 0), .quiet (.bool false)] H8 ?ho12 ?he12
  case ho12 => exact ak (fun _ => ⟨rfl, fun _ _ => rfl⟩) (ak (by refine fun γ => ⟨rfl, fun w' h => ?_⟩; clear h; go_simp) (ak (by refine fun γ => ⟨rfl, fun w' h => ?_⟩; clear h; go_simp <;> omega) trivial))
  intro _ w22 H22
  clear H8
  refine rest0 rfl (then_normal (wp_cond_false rfl ?_))
  refine wp_exit ?_
  repeat refine then_exit ?_
  refine block_exit ?_
  refine then_normal (wp_seq ?_)
  refine walk_seqB 3 [.quiet (.slice (some ⟨γs5, 0, none⟩) n n), .quiet (.slice (some ⟨γs5, 0, none⟩) n n), .quiet (.int .i64 0)] H22 ?ho13 ?he13
  case ho13 => exact ak (fun _ => ⟨rfl, fun _ _ => rfl⟩) (ak (fun _ => ⟨rfl, fun _ _ => rfl⟩) (ak (fun _ => ⟨rfl, fun _ _ => rfl⟩) trivial))
  intro _ w23 H23
  clear H22
  refine rest0 rfl (then_normal (wp_ret ?_))
  repeat (first | refine then_ret ?_ | refine block_ret ?_)
  refine bodyPost_ret (v := .tuple #[.slice (some ⟨γs5, 0, none⟩) n n, .int .i64 0]) (by simp [results, Tryd.results37, go_sem, *]) rfl ?_
  have hfin := (H23.out.1.one 0 rfl).blk _ (List.mem_singleton.2 rfl)
  rw [xo_all (kf a.f a.n) b.f b.n k n (by omega)] at hfin
  exact ⟨H23.out.2, γs5, rfl, o_γs5.out, hfin⟩
set_option maxRecDepth 100000 in
theorem Expand_big (v1 v2 : Value) (z : Int) (hz : 8160 < z) (w : World) :
    Calls Tryd.prog 37 #[v1, v2, .int .i64 z] w fun e w' => e = .returned (.tuple #[.slice none 0 0, .int .i64 3]) ∧ Below w.heap.size w w' := by
  have H0 : Hid (_ ∧ _) := ⟨Mm.nil w, Below.refl w.heap.size w⟩
  go_enter Tryd.func37, Tryd.ntmps37
  refine wp_seq ?_
  refine walk_seqB 2 [.quiet (.slice none 0 0), .quiet (.int .i64 0)] H0 ?ho1 ?he1
  case ho1 => exact ak (fun _ => ⟨rfl, fun _ _ => rfl⟩) (ak (fun _ => ⟨rfl, fun _ _ => rfl⟩) trivial)
  intro _ w1 H1
  refine rest0 rfl (then_normal (wp_seq (wp_seq ?_)))
  refine walk_seqB 6 [.quiet (.int .i64 z), .quiet (.bool false), .quiet (.bool false), .quiet (.int .i64 z), .quiet (.bool true), .quiet (.bool true)] H1 ?ho2 ?he2
  case ho2 => exact ak (fun _ => ⟨rfl, fun _ _ => rfl⟩) (ak (by refine fun γ => ⟨rfl, fun w' h => ?_⟩; clear h; go_simp <;> omega) (ak (fun _ => ⟨rfl, fun _ _ => rfl⟩) (ak (fun _ => ⟨rfl, fun _ _ => rfl⟩) (ak (by refine fun γ => ⟨rfl, fun w' h => ?_⟩; clear h; go_simp <;> omega) (ak (by refine fun γ => ⟨rfl, fun w' h => ?_⟩; clear h; go_simp) trivial)))))
  intro _ w2 H2
  clear H1
  refine rest0 rfl (then_normal (wp_cond_true rfl (wp_seq ?_)))
  refine walk_seqB 2 [.quiet (.slice none 0 0), .quiet (.int .i64 3)] H2 ?ho3 ?he3
  case ho3 => exact ak (fun _ => ⟨rfl, fun _ _ => rfl⟩) (ak (fun _ => ⟨rfl, fun _ _ => rfl⟩) trivial)
  intro _ w3 H3
  clear H2
  refine rest0 rfl (then_normal (wp_ret ?_))
  repeat (first | refine then_ret ?_ | refine block_ret ?_)
  refine bodyPost_ret (v := .tuple #[.slice none 0 0, .int .i64 3]) (by simp [results, Tryd.results37, go_sem, *]) rfl ?_
  exact ⟨rfl, H3.out.2⟩
end Rg
end Go.Proofs.YtolflfjfegngnaaDoor
end
section
namespace Go.Proofs.YtolflfjfegngnaaDoor
open Go.RowKit
namespace Rg
set_option maxRecDepth 100000
theorem pw_ok (g n : Nat) (f : Nat → Nat) : Pok (pw g n f) := ⟨(pw_bv g n f).1, (pw_bv g n f).2⟩
set_option maxHeartbeats 1000000 in
set_option maxRecDepth 100000 in
theorem Derive_ok (a b c : Pt8) (n : Nat) (ha : Pok a) (hb : Pok b) (hc : Pok c) (hna : a.n < 4611686018427387904) (hnb : b.n ≤ 1048576) (hnc : c.n ≤ 1048576) (hn : n ≤ 8160) (w : World) (hm : Mm w [(0, ints .u32 fT 8), (1, ints .u32 kT 64)]) (hRa : a.rs w) (hRb : b.rs w) (hRc : c.rs w) :
    Calls Tryd.prog 39 #[.slice a.p a.n a.cp, .slice b.p b.n b.cp, .slice c.p c.n c.cp, .int .i64 ((n : Nat) : Int)] w fun e w' => Below w.heap.size w w' ∧ ∃ g, e = .returned (.tuple #[.slice (some ⟨g, 0, none⟩) n n, .int .i64 0]) ∧ w.heap.size ≤ g ∧ g < w'.heap.size ∧ Blk w' g (ints .u8 (xpd (kf (hmc (kf a.f a.n) b.f b.n) 32) c.f c.n) n) := by
  have H0 : Hid (_ ∧ _) := ⟨hm, Below.refl w.heap.size w⟩
  clear hm
  have RA : Hid (a.rs w) := hRa
  have RB : Hid (b.rs w) := hRb
  have RC : Hid (c.rs w) := hRc
  clear hRa hRb hRc
  go_enter Tryd.func39, Tryd.ntmps39
  refine wp_seq ?_
  refine walk_seqB 2 [.quiet (.slice none 0 0), .quiet (.int .i64 0)] H0 ?ho1 ?he1
  case ho1 => exact ak (fun _ => ⟨rfl, fun _ _ => rfl⟩) (ak (fun _ => ⟨rfl, fun _ _ => rfl⟩) trivial)
  intro _ w1 H1
  refine rest0 rfl (then_normal (wp_seq ?_))
  refine (walk_seq) 5 [.quiet (.slice a.p a.n a.cp), .quiet (.slice b.p b.n b.cp), .call (.agg (ints .u8 (hmc (kf a.f a.n) b.f b.n) 32).toArray), .made (ints .u8 (fun _ => 0) 32) 25, .laid 3 (ints .u8 (fun _ => 0) 32) (ints .u8 (hmc (kf a.f a.n) b.f b.n) 32)] (fun u' => Mm u' [(0, ints .u32 fT 8), (1, ints .u32 kT 64)] ∧ (a.rs u' ∧ b.rs u' ∧ c.rs u')) ?pre2 ?F2 ?hpre2 (fun γ => ?hF2) (by kernel_rfl) ?hL2 ?hS2 ?ho2 ?he2
  case hpre2 => simp only [tk, tz]; rfl
  case hF2 => simp only [fill, Kind.val, Act.put, sa, sz, ss]; rfl
  case hL2 => exact ⟨⟨_, rfl⟩, trivial⟩
  case hS2 => exact fun w' hb => ⟨H1.out.1.below hb, ⟨RA.out.below (H1.out.2.trans (hb.mono H1.out.2.size)), RB.out.below (H1.out.2.trans (hb.mono H1.out.2.size)), RC.out.below (H1.out.2.trans (hb.mono H1.out.2.size))⟩⟩
  case ho2 =>
    refine ak (fun _ => ⟨rfl, fun _ _ => rfl⟩) ?_
    refine ak (fun _ => ⟨rfl, fun _ _ => rfl⟩) ?_
    refine ak (fun γ => ⟨rfl, fun w' hX => have h := hX.1; ⟨34, #[.slice a.p a.n a.cp, .slice b.p b.n b.cp], exec_call rfl call34 rfl (mpn rfl), Extract_any a b ha hb hna hnb w' (h.two 0 1 rfl rfl (by decide)) hX.2.1 hX.2.2.1⟩⟩) ?_
    refine ak (fun γ => ⟨rfl, fun w' => ex_mk25 rfl⟩) ?_
    refine ak (fun γ => ⟨rfl, rfl, (ints_len _ _ _).trans (ints_len _ _ _).symm, fun w' h => ex_laidI h Tryd.sizeOf25 rfl rfl rfl⟩) ?_
    exact trivial
  intro γ w2 l hM hl
  have H2 : Hid (Mm w2 [(γ 3, ints .u8 (hmc (kf a.f a.n) b.f b.n) 32), (0, ints .u32 fT 8), (1, ints .u32 kT 64)] ∧ _) := growB H1 hM (Nat.le_refl _) hl [3] rfl (by decide)
  have o2_3 := ownB H1 hM (Nat.le_refl _) hl (i := 3) rfl
  clear hM hl l H1
  generalize γ 3 = γ2_3 at H2 o2_3 ⊢
  clear γ
  refine rest0 rfl (then_normal (wp_seq ?_))
  refine (walk_seq) 4 [.quiet (.slice (some ⟨γ2_3, 0, none⟩) 32 32), .quiet (.slice c.p c.n c.cp), .quiet (.int .i64 ((n : Nat) : Int)), .born (fun g => .tuple #[.slice (some ⟨g, 0, none⟩) n n, .int .i64 0]) (ints .u8 (xpd (kf (hmc (kf a.f a.n) b.f b.n) 32) c.f c.n) n)] (fun u' => Mm u' [(γ2_3, ints .u8 (hmc (kf a.f a.n) b.f b.n) 32), (0, ints .u32 fT 8), (1, ints .u32 kT 64)] ∧ (a.rs u' ∧ b.rs u' ∧ c.rs u')) ?pre3 ?F3 ?hpre3 (fun γ => ?hF3) (by kernel_rfl) ?hL3 ?hS3 ?ho3 ?he3
  case hpre3 => simp only [tk, tz]; rfl
  case hF3 => simp only [fill, Kind.val, Act.put, sa, sz, ss]; rfl
  case hL3 => exact trivial
  case hS3 => exact fun w' hb => ⟨H2.out.1.below hb, ⟨RA.out.below (H2.out.2.trans (hb.mono H2.out.2.size)), RB.out.below (H2.out.2.trans (hb.mono H2.out.2.size)), RC.out.below (H2.out.2.trans (hb.mono H2.out.2.size))⟩⟩
  case ho3 =>
    refine ak (fun γ => ⟨rfl, fun w' _ => ex_sl25 rfl rfl⟩) ?_
    refine ak (fun _ => ⟨rfl, fun _ _ => rfl⟩) ?_
    refine ak (fun _ => ⟨rfl, fun _ _ => rfl⟩) ?_
    refine ak (fun γ => ⟨rfl, fun w' hX => have h := hX.1; ⟨37, #[.slice (some ⟨γ2_3, 0, none⟩) 32 32, .slice c.p c.n c.cp, .int .i64 ((n : Nat) : Int)], exec_call rfl call37 rfl (mpn rfl), Expand_ok (pw γ2_3 32 (hmc (kf a.f a.n) b.f b.n)) c n (pw_ok _ _ _) hc (show 32 < 4611686018427387904 by decide) hnc hn w' (h.two 1 2 rfl rfl (by decide)) (h.rs 0 rfl (Nat.le_refl _)) hX.2.2.2⟩⟩) ?_
    exact trivial
  intro γ w3 l hM hl
  have H3 : Hid (Mm w3 [(γ 3, ints .u8 (xpd (kf (hmc (kf a.f a.n) b.f b.n) 32) c.f c.n) n), (γ2_3, ints .u8 (hmc (kf a.f a.n) b.f b.n) 32), (0, ints .u32 fT 8), (1, ints .u32 kT 64)] ∧ _) := growB H2 hM (Nat.le_refl _) hl [3] rfl (by decide)
  have o3_3 := ownB H2 hM (Nat.le_refl _) hl (i := 3) rfl
  clear hM hl l H2
  generalize γ 3 = γ3_3 at H3 o3_3 ⊢
  clear γ
  refine rest_at (l := [4, 5, 6, 7]) rfl ?_
  refine rest_set (d := 18) (v := .slice (some ⟨γ3_3, 0, none⟩) n n) (w' := w3) rfl rfl rfl (by go_simp) ?_
  simp only [Act.put, sa, sz, ss]
  refine rest_set (d := 19) (v := .int .i64 0) (w' := w3) rfl rfl rfl (by go_simp) ?_
  simp only [Act.put, sa, sz, ss]
  refine rest_set (d := 8) (v := .slice (some ⟨γ3_3, 0, none⟩) n n) (w' := w3) rfl rfl rfl rfl ?_
  simp only [Act.put, sa, sz, ss]
  refine rest_set (d := 9) (v := .int .i64 0) (w' := w3) rfl rfl rfl rfl ?_
  simp only [Act.put, sa, sz, ss]
  refine rest_nil (then_normal (wp_ret ?_))
  repeat (first | refine then_ret ?_ | refine block_ret ?_)
  refine bodyPost_ret (v := .tuple #[.slice (some ⟨γ3_3, 0, none⟩) n n, .int .i64 0]) (by simp [results, Tryd.results39, go_sem, *]) rfl ?_
  exact ⟨H3.out.2, γ3_3, rfl, o3_3.out, (H3.out.1.one 0 rfl).blk _ (List.mem_singleton.2 rfl)⟩
/-- Bytes that rise by s. -/
def fr (a s j : Nat) : Nat := (a + j * s) % 256
theorem fr_zero {a : Nat} (s : Nat) (h : a < 256) : fr a s 0 = a := by
  unfold fr
  rw [Nat.zero_mul, Nat.add_zero, Nat.mod_eq_of_lt h]
theorem fr_next (a s k : Nat) : (fr a s k + s) % 256 = fr a s (k + 1) := by
  unfold fr
  rw [Nat.succ_mul]
  omega
theorem Zo.blk {w w1 : World} {B n g cap : Nat} {l : List (Nat × List Value)} {P : Nat → Nat} (h : Zo w B l (.slice (some ⟨g, 0, none⟩) n cap) n P w1) : B ≤ g ∧ g < w1.heap.size ∧ n ≤ cap ∧ Blk w1 g (ints .u8 P n) := by
  have hl := World.ownsRow.lt h.own g rfl
  refine ⟨hl.1, hl.2, ?_, fun j v hj => ?_⟩
  · rcases h.own.2 with ⟨h1, _⟩ | ⟨g', cap', cur, h1, _, _, h2, _⟩
    · cases h1
    · injection h1 with _ _ e
      rw [e]
      exact h2
  · have hjn : j < n := by
      have := (List.getElem?_eq_some_iff.1 hj).1
      rwa [ints_len] at this
    refine ⟨?_, World.ownsRow.frozenAt h.own j⟩
    rw [World.ownsRow.cellAt h.own j (by omega)]
    exact hj
set_option maxHeartbeats 1000000 in
set_option maxRecDepth 100000 in
theorem from_any (a s n : Nat) (ha : a < 256) (hn0 : 0 < n) (hn : n ≤ 1048576) (w : World) :
    Calls Tryd.prog 42 #[Z8 a, Z8 s, .int .i64 ((n : Nat) : Int)] w fun e w' => Below w.heap.size w w' ∧ ∃ (g x y : Nat), e = .returned ((fun g x _ => .slice (some ⟨g, 0, none⟩) n (n + x)) g x y) ∧ w.heap.size ≤ g ∧ g < w'.heap.size ∧ Blk w' g (ints .u8 (fr a s) n) := by
  have H0 : Hid (_ ∧ _) := ⟨Mm.nil w, Zo.nil (fr a s) w⟩
  go_enter Tryd.func42, Tryd.ntmps42
  refine wp_seq ?_
  refine walk_seqA 1 [.quiet (.slice none 0 0)] (sB H0) ?ho1 ?he1
  case ho1 => exact ak (fun _ => ⟨rfl, fun _ _ => rfl⟩) trivial
  intro γ w1 l hM hl
  have M1 : Mm w1 [] := H0.out.1.grow hM (Nat.le_refl _) hl [] rfl (by decide)
  have B1 : Zo w w.heap.size [] (.slice none 0 0) 0 (fr a s) w1 := Zo.step H0.out.2 (hM.below)
  clear hM hl l
  clear γ
  have H1 : Hid (_ ∧ _) := ⟨M1, B1⟩
  clear M1 B1
  refine rest0 rfl (then_normal (wp_seq ?_))
  refine walk_seqA 1 [.quiet (.slice none 0 0)] (sB H1) ?ho2 ?he2
  case ho2 => exact ak (fun _ => ⟨rfl, fun _ _ => rfl⟩) trivial
  intro γ w2 l hM hl
  have M2 : Mm w2 [] := H1.out.1.grow hM (Nat.le_refl _) hl [] rfl (by decide)
  have B2 : Zo w w.heap.size [] (.slice none 0 0) 0 (fr a s) w2 := Zo.step H1.out.2 (hM.below)
  clear hM hl l H1
  clear γ
  have H2 : Hid (_ ∧ _) := ⟨M2, B2⟩
  clear M2 B2
  refine rest0 rfl (then_normal (wp_seq (wp_seq ?_)))
  refine walk_seqA 1 [.quiet (.int .i64 0)] (sB H2) ?ho3 ?he3
  case ho3 => exact ak (fun _ => ⟨rfl, fun _ _ => rfl⟩) trivial
  intro γ w3 l hM hl
  have M3 : Mm w3 [] := H2.out.1.grow hM (Nat.le_refl _) hl [] rfl (by decide)
  have B3 : Zo w w.heap.size [] (.slice none 0 0) 0 (fr a s) w3 := Zo.step H2.out.2 (hM.below)
  clear hM hl l H2
  clear γ
  have H3 : Hid (_ ∧ _) := ⟨M3, B3⟩
  clear M3 B3
  refine rest0 rfl (then_normal (wp_block ?_))
  refine loop_ghost (α := Nat) (fun k a' w' => ∃ s0 : Nat → Value, a' = ⟨#[Z8 (fr a s k), Z8 s, .int .i64 ((n : Nat) : Int), undef, undef, undef, .slice none 0 0, s0 7, .int .i64 ((k : Nat) : Int), s0 9, s0 10, s0 11, s0 12, s0 13, s0 14, s0 15, s0 16, s0 17, s0 18, s0 19, s0 20, undef], []⟩ ∧ (Mm w' [] ∧ Zo w w.heap.size [] (s0 7) k (fr a s) w') ∧ k ≤ n) (fun k => n - k) 0 ?st0 ?rd0
  case st0 => exact ⟨(slotfn [undef, undef, undef, undef, undef, undef, undef, .slice none 0 0, undef, undef, undef, undef, undef, undef, undef, undef, undef, undef, undef, undef, undef]), by rw [fr_zero s ha]; rfl, ⟨H3.out.1, H3.out.2⟩, by omega⟩
  intro k a' w4 hI
  obtain ⟨s0, rfl, hMB, hk0⟩ := hI
  have H4 : Hid (_ ∧ _) := hMB
  clear hMB H3
  by_cases hlt : k < n
  · have hrd : True := trivial
    clear hrd
    refine wp_seq (wp_seq ?_)
    refine walk_seqA 3 [.quiet (.int .i64 ((k : Nat) : Int)), .quiet (.int .i64 ((n : Nat) : Int)), .quiet (.bool true)] (sB H4) ?ho4 ?he4
    case ho4 => exact ak (fun _ => ⟨rfl, fun _ _ => rfl⟩) (ak (fun _ => ⟨rfl, fun _ _ => rfl⟩) (ak (by refine fun γ => ⟨rfl, fun w' h => ?_⟩; clear h; go_simp <;> omega) trivial))
    intro γ w5 l hM hl
    have M5 : Mm w5 [] := H4.out.1.grow hM (Nat.le_refl _) hl [] rfl (by decide)
    have B5 : Zo w w.heap.size [] (s0 7) k (fr a s) w5 := Zo.step H4.out.2 (hM.below)
    clear hM hl l H4
    clear γ
    have H5 : Hid (_ ∧ _) := ⟨M5, B5⟩
    clear M5 B5
    refine rest0 rfl (then_normal (wp_cond_true rfl ?_))
    refine wp_skip (then_normal ?_)
    refine wp_seq (wp_block (wp_seq ?_))
    refine walk_seqA 2 [.quiet (s0 7), .quiet (Z8 (fr a s k))] (sB H5) ?ho5 ?he5
    case ho5 => exact ak (fun _ => ⟨rfl, fun _ _ => rfl⟩) (ak (fun _ => ⟨rfl, fun _ _ => rfl⟩) trivial)
    intro γ w6 l hM hl
    have M6 : Mm w6 [] := H5.out.1.grow hM (Nat.le_refl _) hl [] rfl (by decide)
    have B6 : Zo w w.heap.size [] (s0 7) k (fr a s) w6 := Zo.step H5.out.2 (hM.below)
    clear hM hl l H5
    clear γ
    have H6 : Hid (_ ∧ _) := ⟨M6, B6⟩
    clear M6 B6
    refine rest_at (l := [2, 3, 4]) rfl ?_
    refine rest_set (d := 16) (v := .slice (some ⟨w6.heap.size, 0, none⟩) 1 1) (w' := (w6.alloc (.cells ([Z8 (fr a s k)] : List Value).toArray 5))) rfl rfl rfl (ex_bs1 (a := fr a s k) rfl rfl) ?_
    simp only [Act.put, sa, sz, ss]
    have H7 : Hid (Mm (w6.alloc (.cells ([Z8 (fr a s k)] : List Value).toArray 5)) [] ∧ Zo w w.heap.size [] (s0 7) k (fr a s) (w6.alloc (.cells ([Z8 (fr a s k)] : List Value).toArray 5))) := ⟨Mm.nil _, Zo.step H6.out.2 ((Below.refl _ _).alloc (Nat.le_refl _) _)⟩
    have c7 := cell_one w6 (fr a s k)
    have C7 : Hid _ := c7
    clear c7 H6
    generalize hgw : (w6.alloc (.cells ([Z8 (fr a s k)] : List Value).toArray 5)) = w7 at H7 C7 ⊢
    clear hgw
    generalize w6.heap.size = γs7 at C7 ⊢
    obtain ⟨v8, w8, hr, hZ⟩ := H7.out.2.app (a := ⟨γs7, 0, none⟩) 1 1 (fun _ => fr a s k) (C7.out) (by omega) 22
    refine rest_set (d := 17) (v := v8) (w' := w8) rfl rfl rfl (ex_app rfl rfl rfl hr) ?_
    simp only [Act.put, sa, sz, ss]
    have H8 : Hid (Mm w8 [] ∧ Zo w w.heap.size [] v8 (k + 1) (fr a s) w8) := ⟨Mm.nil _, hZ.cg (ct_snoc rfl)⟩
    clear hr hZ H7
    refine rest_set (d := 7) (v := v8) (w' := w8) rfl rfl rfl rfl ?_
    simp only [Act.put, sa, sz, ss]
    refine rest_nil (then_normal ?_)
    refine walk_seqA 3 [.quiet (Z8 (fr a s k)), .quiet (Z8 s), .quiet (Z8 (fr a s (k + 1)))] (sB H8) ?ho6 ?he6
    case ho6 => exact ak (fun _ => ⟨rfl, fun _ _ => rfl⟩) (ak (fun _ => ⟨rfl, fun _ _ => rfl⟩) (ak (fun γ => ⟨rfl, fun w' _ => ex_add8w (fr_next a s k) rfl rfl rfl⟩) trivial))
    intro γ w9 l hM hl
    have M9 : Mm w9 [] := H8.out.1.grow hM (Nat.le_refl _) hl [] rfl (by decide)
    have B9 : Zo w w.heap.size [] v8 (k + 1) (fr a s) w9 := Zo.step H8.out.2 (hM.below)
    clear hM hl l H8
    clear γ
    have H9 : Hid (_ ∧ _) := ⟨M9, B9⟩
    clear M9 B9
    refine rest_at (l := [3]) rfl ?_
    refine rest_set (d := 0) (v := Z8 (fr a s (k + 1))) (w' := w9) rfl rfl rfl rfl ?_
    simp only [Act.put, List.setIfInBounds_toArray, List.set_cons_zero]
    refine rest_nil (block_normal (then_normal ?_))
    refine walk_seqA 2 [.quiet (.int .i64 ((k : Nat) : Int)), .quiet (.int .i64 ((k + 1 : Nat) : Int))] (sB H9) ?ho7 ?he7
    case ho7 => exact ak (fun _ => ⟨rfl, fun _ _ => rfl⟩) (ak (by refine fun γ => ⟨rfl, fun w' h => ?_⟩; clear h; go_simp; rw [IntKind.wrap_i64]; omega) trivial)
    intro γ w10 l hM hl
    have M10 : Mm w10 [] := H9.out.1.grow hM (Nat.le_refl _) hl [] rfl (by decide)
    have B10 : Zo w w.heap.size [] v8 (k + 1) (fr a s) w10 := Zo.step H9.out.2 (hM.below)
    clear hM hl l H9
    clear γ
    have H10 : Hid (_ ∧ _) := ⟨M10, B10⟩
    clear M10 B10
    refine rest_at (l := [2]) rfl ?_
    refine rest_set (d := 8) (v := .int .i64 ((k + 1 : Nat) : Int)) (w' := w10) rfl rfl rfl rfl ?_
    simp only [Act.put, sa, sz, ss]
    refine rest_nil (then_normal ?_)
    exact ⟨k + 1, ⟨(slotfn [undef, undef, undef, undef, undef, undef, undef, v8, undef, .int .i64 ((k : Nat) : Int), .int .i64 ((n : Nat) : Int), .bool true, .int .i64 ((k : Nat) : Int), .int .i64 ((k + 1 : Nat) : Int), s0 7, Z8 (fr a s k), .slice (some ⟨γs7, 0, none⟩) 1 1, v8, Z8 (fr a s k), Z8 s, Z8 (fr a s (k + 1))]), rfl, ⟨H10.out.1, H10.out.2⟩, by omega⟩, by omega⟩
  have hkN : n = k := by omega
  subst hkN
  obtain ⟨g3, cap3, e3⟩ := H4.out.2.form hn0
  rw [e3] at H4 ⊢
  refine wp_seq (wp_seq ?_)
  refine walk_seqA 3 [.quiet (.int .i64 ((n : Nat) : Int)), .quiet (.int .i64 ((n : Nat) : Int)), .quiet (.bool false)] (sB H4) ?ho8 ?he8
  case ho8 => exact ak (fun _ => ⟨rfl, fun _ _ => rfl⟩) (ak (fun _ => ⟨rfl, fun _ _ => rfl⟩) (ak (by refine fun γ => ⟨rfl, fun w' h => ?_⟩; clear h; go_simp <;> omega) trivial))
  intro γ w11 l hM hl
  have M11 : Mm w11 [] := H4.out.1.grow hM (Nat.le_refl _) hl [] rfl (by decide)
  have B11 : Zo w w.heap.size [] (.slice (some ⟨g3, 0, none⟩) n cap3) n (fr a s) w11 := Zo.step H4.out.2 (hM.below)
  clear hM hl l H4
  clear γ
  have H11 : Hid (_ ∧ _) := ⟨M11, B11⟩
  clear M11 B11
  refine rest0 rfl (then_normal (wp_cond_false rfl ?_))
  refine wp_exit ?_
  repeat refine then_exit ?_
  refine block_exit ?_
  refine then_normal (wp_seq ?_)
  refine walk_seqA 2 [.quiet (.slice (some ⟨g3, 0, none⟩) n cap3), .quiet (.slice (some ⟨g3, 0, none⟩) n cap3)] (sB H11) ?ho9 ?he9
  case ho9 => exact ak (fun _ => ⟨rfl, fun _ _ => rfl⟩) (ak (fun _ => ⟨rfl, fun _ _ => rfl⟩) trivial)
  intro γ w12 l hM hl
  have M12 : Mm w12 [] := H11.out.1.grow hM (Nat.le_refl _) hl [] rfl (by decide)
  have B12 : Zo w w.heap.size [] (.slice (some ⟨g3, 0, none⟩) n cap3) n (fr a s) w12 := Zo.step H11.out.2 (hM.below)
  clear hM hl l H11
  clear γ
  have H12 : Hid (_ ∧ _) := ⟨M12, B12⟩
  clear M12 B12
  refine rest0 rfl (then_normal (wp_ret ?_))
  repeat (first | refine then_ret ?_ | refine block_ret ?_)
  refine bodyPost_ret (v := .slice (some ⟨g3, 0, none⟩) n cap3) (by simp [results, Tryd.results42, go_sem, *]) rfl ?_
  obtain ⟨hf1, hf2, hf3, hf4⟩ := H12.out.2.blk
  exact ⟨H12.out.2.b, g3, cap3 - n, 0, by rw [show n + (cap3 - n) = cap3 by omega], hf1, hf2, hf4⟩
/-- A number by 400. -/
def pk (z : Int) : Nat := (z % 400).toNat
theorem pk_lt (z : Int) : pk z < 400 := by
  unfold pk
  omega
theorem pk_neg {z : Int} (h : z.tmod 400 < 0) : z.tmod 400 + 400 = ((pk z : Nat) : Int) := by
  unfold pk
  have e := Int.tmod_eq_emod (a := z) (b := 400)
  have h1 := Int.emod_nonneg z (b := 400) (by decide)
  rw [Int.toNat_of_nonneg h1]
  have h3 : (Int.natAbs 400 : Int) = 400 := rfl
  split at e <;> omega
theorem pk_pos {z : Int} (h : 0 ≤ z.tmod 400) : z.tmod 400 = ((pk z : Nat) : Int) := by
  unfold pk
  have e := Int.tmod_eq_emod (a := z) (b := 400)
  have h1 := Int.emod_nonneg z (b := 400) (by decide)
  have h2 := Int.emod_lt_of_pos z (b := 400) (by decide)
  rw [Int.toNat_of_nonneg h1]
  have h3 : (Int.natAbs 400 : Int) = 400 := rfl
  split at e <;> omega
section
variable {ρ : Operand → Value} {o : Oper} {x y : Operand} {z : Int} {w : World}
theorem ex_rem400 (ho : o.op = .binOp .rem 3 x y 3) (hx : ρ x = .int .i64 z) (hy : ρ y = .int .i64 400) : (execOp ρ o).run Tryd.prog w = .ok (.value (.int .i64 (z.tmod 400))) w := by
  simp only [execOp, ho, hx, hy]
  clear ho hx hy
  go_simp
theorem ex_add400 {n : Nat} (h : z + 400 = (n : Int)) (hn : n < 400) (ho : o.op = .binOp .add 3 x y 3) (hx : ρ x = .int .i64 z) (hy : ρ y = .int .i64 400) : (execOp ρ o).run Tryd.prog w = .ok (.value (.int .i64 (n : Int))) w := by
  simp only [execOp, ho, hx, hy]
  clear ho hx hy
  go_simp
  rw [IntKind.wrap_i64]
  omega
end
set_option maxRecDepth 100000 in
theorem Pick_neg (z : Int) (n : Nat) (hn0 : z.tmod 400 + 400 = (n : Int) ∧ n < 400) (hz : z.tmod 400 < 0) (w : World) :
    Calls Tryd.prog 43 #[.int .i64 z, .int .i64 400] w fun e w' => e = .returned (.int .i64 (n : Int)) ∧ Below w.heap.size w w' := by
  have H0 : Hid (_ ∧ _) := ⟨Mm.nil w, Below.refl w.heap.size w⟩
  have hn : Hid _ := hn0
  clear hn0
  go_enter Tryd.func43, Tryd.ntmps43
  refine wp_seq ?_
  refine walk_seqB 1 [.quiet (.int .i64 0)] H0 ?ho1 ?he1
  case ho1 => exact ak (fun _ => ⟨rfl, fun _ _ => rfl⟩) trivial
  intro _ w1 H1
  refine rest0 rfl (then_normal (wp_seq (wp_seq ?_)))
  refine walk_seqB 2 [.quiet (.int .i64 400), .quiet (.bool false)] H1 ?ho2 ?he2
  case ho2 => exact ak (fun _ => ⟨rfl, fun _ _ => rfl⟩) (ak (by refine fun γ => ⟨rfl, fun w' h => ?_⟩; clear h; go_simp <;> omega) trivial)
  intro _ w2 H2
  clear H1
  refine rest0 rfl (then_normal (wp_cond_false rfl ?_))
  refine wp_skip (then_normal (wp_seq ?_))
  refine walk_seqB 3 [.quiet (.int .i64 z), .quiet (.int .i64 400), .quiet (.int .i64 (z.tmod 400))] H2 ?ho3 ?he3
  case ho3 => exact ak (fun _ => ⟨rfl, fun _ _ => rfl⟩) (ak (fun _ => ⟨rfl, fun _ _ => rfl⟩) (ak (fun γ => ⟨rfl, fun w' _ => ex_rem400 rfl rfl rfl⟩) trivial))
  intro _ w3 H3
  clear H2
  refine rest_at (l := [3]) rfl ?_
  refine rest_set (d := 0) rfl rfl rfl rfl ?_
  simp only [Act.put, List.setIfInBounds_toArray, List.set_cons_zero]
  refine rest_nil (then_normal ?_)
  refine wp_seq (wp_seq ?_)
  refine walk_seqB 2 [.quiet (.int .i64 (z.tmod 400)), .quiet (.bool true)] H3 ?ho4 ?he4
  case ho4 => exact ak (fun _ => ⟨rfl, fun _ _ => rfl⟩) (ak (by refine fun γ => ⟨rfl, fun w' h => ?_⟩; clear h; go_simp <;> omega) trivial)
  intro _ w4 H4
  clear H3
  refine rest0 rfl (then_normal (wp_cond_true rfl ?_))
  refine walk_seqB 3 [.quiet (.int .i64 (z.tmod 400)), .quiet (.int .i64 400), .quiet (.int .i64 ((n : Nat) : Int))] H4 ?ho5 ?he5
  case ho5 => exact ak (fun _ => ⟨rfl, fun _ _ => rfl⟩) (ak (fun _ => ⟨rfl, fun _ _ => rfl⟩) (ak (fun γ => ⟨rfl, fun w' _ => ex_add400 hn.out.1 hn.out.2 rfl rfl rfl⟩) trivial))
  intro _ w5 H5
  clear H4
  refine rest_at (l := [3]) rfl ?_
  refine rest_set (d := 0) rfl rfl rfl rfl ?_
  simp only [Act.put, List.setIfInBounds_toArray, List.set_cons_zero]
  refine rest_nil (then_normal (wp_seq ?_))
  refine walk_seqB 2 [.quiet (.int .i64 ((n : Nat) : Int)), .quiet (.int .i64 ((n : Nat) : Int))] H5 ?ho6 ?he6
  case ho6 => exact ak (fun _ => ⟨rfl, fun _ _ => rfl⟩) (ak (fun _ => ⟨rfl, fun _ _ => rfl⟩) trivial)
  intro _ w6 H6
  clear H5
  refine rest0 rfl (then_normal (wp_ret ?_))
  repeat (first | refine then_ret ?_ | refine block_ret ?_)
  refine bodyPost_ret (v := .int .i64 ((n : Nat) : Int)) (by simp [results, Tryd.results43, go_sem, *]) rfl ?_
  exact ⟨rfl, H6.out.2⟩
set_option maxRecDepth 100000 in
theorem Pick_pos (z : Int) (hz : 0 ≤ z.tmod 400) (w : World) :
    Calls Tryd.prog 43 #[.int .i64 z, .int .i64 400] w fun e w' => e = .returned (.int .i64 (z.tmod 400)) ∧ Below w.heap.size w w' := by
  have H0 : Hid (_ ∧ _) := ⟨Mm.nil w, Below.refl w.heap.size w⟩
  go_enter Tryd.func43, Tryd.ntmps43
  refine wp_seq ?_
  refine walk_seqB 1 [.quiet (.int .i64 0)] H0 ?ho1 ?he1
  case ho1 => exact ak (fun _ => ⟨rfl, fun _ _ => rfl⟩) trivial
  intro _ w1 H1
  refine rest0 rfl (then_normal (wp_seq (wp_seq ?_)))
  refine walk_seqB 2 [.quiet (.int .i64 400), .quiet (.bool false)] H1 ?ho2 ?he2
  case ho2 => exact ak (fun _ => ⟨rfl, fun _ _ => rfl⟩) (ak (by refine fun γ => ⟨rfl, fun w' h => ?_⟩; clear h; go_simp <;> omega) trivial)
  intro _ w2 H2
  clear H1
  refine rest0 rfl (then_normal (wp_cond_false rfl ?_))
  refine wp_skip (then_normal (wp_seq ?_))
  refine walk_seqB 3 [.quiet (.int .i64 z), .quiet (.int .i64 400), .quiet (.int .i64 (z.tmod 400))] H2 ?ho3 ?he3
  case ho3 => exact ak (fun _ => ⟨rfl, fun _ _ => rfl⟩) (ak (fun _ => ⟨rfl, fun _ _ => rfl⟩) (ak (fun γ => ⟨rfl, fun w' _ => ex_rem400 rfl rfl rfl⟩) trivial))
  intro _ w3 H3
  clear H2
  refine rest_at (l := [3]) rfl ?_
  refine rest_set (d := 0) rfl rfl rfl rfl ?_
  simp only [Act.put, List.setIfInBounds_toArray, List.set_cons_zero]
  refine rest_nil (then_normal ?_)
  refine wp_seq (wp_seq ?_)
  refine walk_seqB 2 [.quiet (.int .i64 (z.tmod 400)), .quiet (.bool false)] H3 ?ho4 ?he4
  case ho4 => exact ak (fun _ => ⟨rfl, fun _ _ => rfl⟩) (ak (by refine fun γ => ⟨rfl, fun w' h => ?_⟩; clear h; go_simp <;> omega) trivial)
  intro _ w4 H4
  clear H3
  refine rest0 rfl (then_normal (wp_cond_false rfl ?_))
  refine wp_skip (then_normal (wp_seq ?_))
  refine walk_seqB 2 [.quiet (.int .i64 (z.tmod 400)), .quiet (.int .i64 (z.tmod 400))] H4 ?ho5 ?he5
  case ho5 => exact ak (fun _ => ⟨rfl, fun _ _ => rfl⟩) (ak (fun _ => ⟨rfl, fun _ _ => rfl⟩) trivial)
  intro _ w5 H5
  clear H4
  refine rest0 rfl (then_normal (wp_ret ?_))
  repeat (first | refine then_ret ?_ | refine block_ret ?_)
  refine bodyPost_ret (v := .int .i64 (z.tmod 400)) (by simp [results, Tryd.results43, go_sem, *]) rfl ?_
  exact ⟨rfl, H5.out.2⟩
theorem Pick_any (z : Int) (n : Nat) (h : pk z = n) (w : World) : Calls Tryd.prog 43 #[.int .i64 z, .int .i64 400] w fun e w' => e = .returned (.int .i64 ((n : Nat) : Int)) ∧ Below w.heap.size w w' := by
  have hl := pk_lt z
  by_cases hz : z.tmod 400 < 0
  · exact Pick_neg z n ⟨by rw [← h]; exact pk_neg hz, by omega⟩ hz w
  · have hh := Pick_pos z (by omega) w
    rw [pk_pos (by omega), h] at hh
    exact hh
end Rg
namespace Rg
end Rg
end Go.Proofs.YtolflfjfegngnaaDoor
end
section
namespace Go.Proofs.YtolflfjfegngnaaDoor
open Go.RowKit
namespace Rg
set_option maxRecDepth 100000
/-- A part with room behind it. -/
def pc (g n c : Nat) (f : Nat → Nat) : Pt8 := ⟨g, 0, n, c, some ⟨g, 0, none⟩, f⟩
theorem pc_ok (g n x : Nat) (f : Nat → Nat) : Pok (pc g n (n + x) f) := ⟨Bv.start _ _ _ _, Nat.le_add_right _ _⟩
/-- No part. -/
def pno : Pt8 := ⟨0, 0, 0, 0, none, fun _ => 0⟩
theorem pno_ok : Pok pno := ⟨Bv.void _ _ _ _ _, Nat.le_refl _⟩
theorem pno_rs (w : World) : pno.rs w := Rs.void _ _ _ _
def mA : ByteArray := ⟨#[98, 48, 51, 52, 52, 99, 54, 49, 100, 56, 100, 98, 51, 56, 53, 51, 53, 99, 97, 56, 97, 102, 99, 101, 97, 102, 48, 98, 102, 49, 50, 98, 56, 56, 49, 100, 99, 50, 48, 48, 99, 57, 56, 51, 51, 100, 97, 55, 50, 54, 101, 57, 51, 55, 54, 99, 50, 101, 51, 50, 99, 102, 102, 55]⟩
def mB : ByteArray := ⟨#[53, 98, 100, 99, 99, 49, 52, 54, 98, 102, 54, 48, 55, 53, 52, 101, 54, 97, 48, 52, 50, 52, 50, 54, 48, 56, 57, 53, 55, 53, 99, 55, 53, 97, 48, 48, 51, 102, 48, 56, 57, 100, 50, 55, 51, 57, 56, 51, 57, 100, 101, 99, 53, 56, 98, 57, 54, 52, 101, 99, 51, 56, 52, 51]⟩
theorem hmc_lt (K f : Nat → Nat) (n j : Nat) : hmc K f n j < 256 := fz_lt _ _ _ _
theorem mtA : st (tx (hmc (kf (fr 11 0) 20) (fun j => [72, 105, 32, 84, 104, 101, 114, 101].getD j 0) 8) 32) 64 = mA := txt_eq _ [98, 48, 51, 52, 52, 99, 54, 49, 100, 56, 100, 98, 51, 56, 53, 51, 53, 99, 97, 56, 97, 102, 99, 101, 97, 102, 48, 98, 102, 49, 50, 98, 56, 56, 49, 100, 99, 50, 48, 48, 99, 57, 56, 51, 51, 100, 97, 55, 50, 54, 101, 57, 51, 55, 54, 99, 50, 101, 51, 50, 99, 102, 102, 55] (by decide +kernel)
theorem mtB : st (tx (hmc (kf (fun j => [74, 101, 102, 101].getD j 0) 4) (fun j => [119, 104, 97, 116, 32, 100, 111, 32, 121, 97, 32, 119, 97, 110, 116, 32, 102, 111, 114, 32, 110, 111, 116, 104, 105, 110, 103, 63].getD j 0) 28) 32) 64 = mB := txt_eq _ [53, 98, 100, 99, 99, 49, 52, 54, 98, 102, 54, 48, 55, 53, 52, 101, 54, 97, 48, 52, 50, 52, 50, 54, 48, 56, 57, 53, 55, 53, 99, 55, 53, 97, 48, 48, 51, 102, 48, 56, 57, 100, 50, 55, 51, 57, 56, 51, 57, 100, 101, 99, 53, 56, 98, 57, 54, 52, 101, 99, 51, 56, 52, 51] (by decide +kernel)
theorem un12 : un (fun j => [1, 2].getD j 0) (fun j => [1, 2].getD j 0) 2 = 0 := by decide +kernel
theorem mx0 : (xpd (kf (hmc (kf (fr 0 1) 13) (fr 11 0) 22) 32) (fr 240 1) 10) (0 + 0) = 60 := by decide +kernel
theorem mx1 : (xpd (kf (hmc (kf (fr 0 1) 13) (fr 11 0) 22) 32) (fr 240 1) 10) (0 + 1) = 178 := by decide +kernel
theorem mx40 : (xpd (kf (hmc (kf (fr 0 1) 13) (fr 11 0) 22) 32) (fr 240 1) 10) (0 + 40) = 88 := by decide +kernel
theorem mx41 : (xpd (kf (hmc (kf (fr 0 1) 13) (fr 11 0) 22) 32) (fr 240 1) 10) (0 + 41) = 101 := by decide +kernel
section
variable {ρ : Operand → Value} {o : Oper} {x y : Operand} {a b : Nat} {w : World}
theorem ex_neL (h : a = b) (ho : o.op = .binOp .neq 5 x y 5) (hx : ρ x = Z8 a) (hy : ρ y = Z8 b) : (execOp ρ o).run Tryd.prog w = .ok (.value (.bool false)) w := by
  subst h
  simp only [execOp, ho, hx, hy]
  clear ho hx hy
  go_simp
theorem ex_litH (ho : o.op = .buildSlice 22 8 #[(0, .const (.int .u8 72)), (1, .const (.int .u8 105)), (2, .const (.int .u8 32)), (3, .const (.int .u8 84)), (4, .const (.int .u8 104)), (5, .const (.int .u8 101)), (6, .const (.int .u8 114)), (7, .const (.int .u8 101))]) (hc : ∀ v, ρ (.const v) = v) : (execOp ρ o).run Tryd.prog w = .ok (.value (.slice (some ⟨w.heap.size, 0, none⟩) 8 8)) (w.alloc (.cells (ints .u8 (fun j => [72, 105, 32, 84, 104, 101, 114, 101].getD j 0) 8).toArray 5)) := by
  simp only [execOp, ho, List.map_toArray, List.map_cons, List.map_nil, hc]
  kernel_rfl
theorem ex_litJ (ho : o.op = .buildSlice 22 4 #[(0, .const (.int .u8 74)), (1, .const (.int .u8 101)), (2, .const (.int .u8 102)), (3, .const (.int .u8 101))]) (hc : ∀ v, ρ (.const v) = v) : (execOp ρ o).run Tryd.prog w = .ok (.value (.slice (some ⟨w.heap.size, 0, none⟩) 4 4)) (w.alloc (.cells (ints .u8 (fun j => [74, 101, 102, 101].getD j 0) 4).toArray 5)) := by
  simp only [execOp, ho, List.map_toArray, List.map_cons, List.map_nil, hc]
  kernel_rfl
theorem ex_litW (ho : o.op = .buildSlice 22 28 #[(0, .const (.int .u8 119)), (1, .const (.int .u8 104)), (2, .const (.int .u8 97)), (3, .const (.int .u8 116)), (4, .const (.int .u8 32)), (5, .const (.int .u8 100)), (6, .const (.int .u8 111)), (7, .const (.int .u8 32)), (8, .const (.int .u8 121)), (9, .const (.int .u8 97)), (10, .const (.int .u8 32)), (11, .const (.int .u8 119)), (12, .const (.int .u8 97)), (13, .const (.int .u8 110)), (14, .const (.int .u8 116)), (15, .const (.int .u8 32)), (16, .const (.int .u8 102)), (17, .const (.int .u8 111)), (18, .const (.int .u8 114)), (19, .const (.int .u8 32)), (20, .const (.int .u8 110)), (21, .const (.int .u8 111)), (22, .const (.int .u8 116)), (23, .const (.int .u8 104)), (24, .const (.int .u8 105)), (25, .const (.int .u8 110)), (26, .const (.int .u8 103)), (27, .const (.int .u8 63))]) (hc : ∀ v, ρ (.const v) = v) : (execOp ρ o).run Tryd.prog w = .ok (.value (.slice (some ⟨w.heap.size, 0, none⟩) 28 28)) (w.alloc (.cells (ints .u8 (fun j => [119, 104, 97, 116, 32, 100, 111, 32, 121, 97, 32, 119, 97, 110, 116, 32, 102, 111, 114, 32, 110, 111, 116, 104, 105, 110, 103, 63].getD j 0) 28).toArray 5)) := by
  simp only [execOp, ho, List.map_toArray, List.map_cons, List.map_nil, hc]
  kernel_rfl
theorem ex_litO (ho : o.op = .buildSlice 22 2 #[(0, .const (.int .u8 1)), (1, .const (.int .u8 2))]) (hc : ∀ v, ρ (.const v) = v) : (execOp ρ o).run Tryd.prog w = .ok (.value (.slice (some ⟨w.heap.size, 0, none⟩) 2 2)) (w.alloc (.cells (ints .u8 (fun j => [1, 2].getD j 0) 2).toArray 5)) := by
  simp only [execOp, ho, List.map_toArray, List.map_cons, List.map_nil, hc]
  kernel_rfl
theorem ex_litI (ho : o.op = .buildSlice 22 1 #[(0, .const (.int .u8 1))]) (hc : ∀ v, ρ (.const v) = v) : (execOp ρ o).run Tryd.prog w = .ok (.value (.slice (some ⟨w.heap.size, 0, none⟩) 1 1)) (w.alloc (.cells (ints .u8 (fun j => [1].getD j 0) 1).toArray 5)) := by
  simp only [execOp, ho, List.map_toArray, List.map_cons, List.map_nil, hc]
  kernel_rfl
end
theorem Same_yes (a b : Pt8) (ha : Pok a) (hb : Pok b) (hn : a.n = b.n) (hna : a.n < 4611686018427387904) (hu : un a.f b.f a.n = 0) (w : World) (hRa : a.rs w) (hRb : b.rs w) : Calls Tryd.prog 35 #[.slice a.p a.n a.cp, .slice b.p b.n b.cp] w fun e w' => e = .returned (.bool true) ∧ Below w.heap.size w w' := by
  have h := Same_like a b ha hb hn hna w hRa hRb
  rw [hu] at h
  exact h
set_option maxHeartbeats 8000000 in
set_option maxRecDepth 100000 in
theorem mknown_law  (w : World) (hm : Mm w [(0, ints .u32 fT 8), (1, ints .u32 kT 64)]) :
    Calls Tryd.prog 11 #[] w fun e w' => e = .returned (.bool true) ∧ Below w.heap.size w w' := by
  have H0 : Hid (_ ∧ _) := ⟨hm, Below.refl w.heap.size w⟩
  clear hm
  go_enter Tryd.func11, Tryd.ntmps11
  refine wp_seq ?_
  refine walk_seqB 1 [.quiet (.bool false)] H0 ?ho1 ?he1
  case ho1 => exact ak (fun _ => ⟨rfl, fun _ _ => rfl⟩) trivial
  intro _ w1 H1
  refine rest0 rfl (then_normal (wp_seq ?_))
  refine walk_seqA 3 [.bornX (fun g x y => .slice (some ⟨g, 0, none⟩) 20 (20 + x)) (ints .u8 (fr 11 0) 20), .row (fun g => .slice (some ⟨g, 0, none⟩) 8 8) (ints .u8 (fun j => [72, 105, 32, 84, 104, 101, 114, 101].getD j 0) 8) 5, .same (fun g => .slice (some ⟨g, 0, none⟩) 8 8) 1] (sB H1) ?ho2 ?he2
  case ho2 => exact ak (fun γ => ⟨rfl, fun w' h => ⟨42, #[.int .u8 11, .int .u8 0, .int .i64 20], exec_call rfl call42 rfl (mpn rfl), from_any 11 0 20 (by decide) (by decide) (by decide) w'⟩⟩) (ak (fun γ => ⟨rfl, fun w' => ex_litH rfl (fun _ => rfl)⟩) (ak (fun γ => ⟨rfl, fun w' _ => ex_cvS rfl rfl⟩) trivial))
  intro γ w2 l hM hl
  have H2 : Hid (Mm w2 [(γ 0, ints .u8 (fr 11 0) 20), (γ 1, ints .u8 (fun j => [72, 105, 32, 84, 104, 101, 114, 101].getD j 0) 8), (0, ints .u32 fT 8), (1, ints .u32 kT 64)] ∧ _) := growB H1 hM (Nat.le_refl _) hl [0, 1] rfl (by decide)
  have o2_0 := ownB H1 hM (Nat.le_refl _) hl (i := 0) rfl
  have o2_1 := ownB H1 hM (Nat.le_refl _) hl (i := 1) rfl
  clear hM hl l H1
  generalize γ 0 = γ2_0 at H2 o2_0 ⊢
  generalize γ 1 = γ2_1 at H2 o2_1 ⊢
  generalize γ 65536 = γ2_65536
  clear γ
  refine rest_at (l := [3, 4, 5]) rfl ?_
  refine rest_enter (d := 12) (R := fun vv w' => vv = .agg (ints .u8 (hmc (kf (fr 11 0) 20) (fun j => [72, 105, 32, 84, 104, 101, 114, 101].getD j 0) 8) 32).toArray ∧ Below w2.heap.size w2 w') rfl rfl rfl (exec_call (args := #[.slice (some ⟨γ2_0, 0, none⟩) 20 (20 + γ2_65536), .slice (some ⟨γ2_1, 0, none⟩) 8 8]) rfl call32 rfl (mpn rfl)) (Calls.mono (Code_any (pc γ2_0 20 (20 + γ2_65536) (fr 11 0)) (pw γ2_1 8 (fun j => [72, 105, 32, 84, 104, 101, 114, 101].getD j 0)) (pc_ok _ _ _ _) (pw_ok _ _ _) (show 20 < 4611686018427387904 by decide) (show 8 ≤ 1048576 by decide) w2 (H2.out.1.two 2 3 rfl rfl (by decide)) (H2.out.1.rs 0 rfl (Nat.le_refl _)) (H2.out.1.rs 1 rfl (Nat.le_refl _))) (fun e w2 hh => ⟨_, hh.1, rfl, hh.2⟩)) ?_
  rintro _ w3 ⟨rfl, hb⟩
  have H3 : Hid (_ ∧ _) := ⟨H2.out.1.below hb, H2.out.2.trans (hb.mono H2.out.2.size)⟩
  clear hb H2
  simp only [Act.put, sa, sz, ss]
  refine rest_set (d := 1) (v := PT w3.heap.size 0) (w' := (w3.alloc (.cells (ints .u8 (fun _ => 0) 32 : List Value).toArray 25))) rfl rfl rfl (ex_made25 rfl) ?_
  simp only [Act.put, sa, sz, ss]
  have o_γs4 : Hid (w.heap.size ≤ w3.heap.size) := H3.out.2.size
  have H4 : Hid (Mm (w3.alloc (.cells (ints .u8 (fun _ => 0) 32 : List Value).toArray 25)) ((w3.heap.size, ints .u8 (fun _ => 0) 32) :: [(γ2_0, ints .u8 (fr 11 0) 20), (γ2_1, ints .u8 (fun j => [72, 105, 32, 84, 104, 101, 114, 101].getD j 0) 8), (0, ints .u32 fT 8), (1, ints .u32 kT 64)]) ∧ Below w.heap.size w (w3.alloc (.cells (ints .u8 (fun _ => 0) 32 : List Value).toArray 25))) := ⟨H3.out.1.alloc _ 25 rfl, H3.out.2.trans (((Below.refl _ _).alloc (Nat.le_refl _) _).mono H3.out.2.size)⟩
  clear H3
  generalize hgw : (w3.alloc (.cells (ints .u8 (fun _ => 0) 32 : List Value).toArray 25)) = w4 at H4 ⊢
  clear hgw
  generalize w3.heap.size = γs4 at o_γs4 H4 ⊢
  refine rest_store rfl rfl rfl (ex_storeT (vs := ints .u8 (hmc (kf (fr 11 0) 20) (fun j => [72, 105, 32, 84, 104, 101, 114, 101].getD j 0) 8) 32) H4.out.1 0 rfl rfl rfl rfl (by rw [ints_len]; exact Tryd.sizeOf25) (ints_all _ _ _) (by simp [ints_len])) ?_
  have H5 : Hid (Mm (w4.setCells γs4 0 (ints .u8 (hmc (kf (fr 11 0) 20) (fun j => [72, 105, 32, 84, 104, 101, 114, 101].getD j 0) 8) 32)) [(γs4, ints .u8 (hmc (kf (fr 11 0) 20) (fun j => [72, 105, 32, 84, 104, 101, 114, 101].getD j 0) 8) 32), (γ2_0, ints .u8 (fr 11 0) 20), (γ2_1, ints .u8 (fun j => [72, 105, 32, 84, 104, 101, 114, 101].getD j 0) 8), (0, ints .u32 fT 8), (1, ints .u32 kT 64)] ∧ Below w.heap.size w (w4.setCells γs4 0 (ints .u8 (hmc (kf (fr 11 0) 20) (fun j => [72, 105, 32, 84, 104, 101, 114, 101].getD j 0) 8) 32))) := ⟨by
    have h := H4.out.1.put 0 (off := 0) (vs := ints .u8 (hmc (kf (fr 11 0) 20) (fun j => [72, 105, 32, 84, 104, 101, 114, 101].getD j 0) 8) 32) rfl (by simp [ints_len])
    rw [ints_patch0 _ _ _ _] at h
    exact h, below_setCells _ o_γs4.out _ _ _ H4.out.2⟩
  clear H4
  generalize hgw : World.setCells _ _ _ _ = w5 at H5 ⊢
  clear hgw
  refine rest_nil (then_normal (wp_seq ?_))
  refine walk_seqA 4 [.row (fun g => .slice (some ⟨g, 0, none⟩) 4 4) (ints .u8 (fun j => [74, 101, 102, 101].getD j 0) 4) 5, .same (fun g => .slice (some ⟨g, 0, none⟩) 4 4) 0, .row (fun g => .slice (some ⟨g, 0, none⟩) 28 28) (ints .u8 (fun j => [119, 104, 97, 116, 32, 100, 111, 32, 121, 97, 32, 119, 97, 110, 116, 32, 102, 111, 114, 32, 110, 111, 116, 104, 105, 110, 103, 63].getD j 0) 28) 5, .same (fun g => .slice (some ⟨g, 0, none⟩) 28 28) 2] (sB H5) ?ho3 ?he3
  case ho3 => exact ak (fun γ => ⟨rfl, fun w' => ex_litJ rfl (fun _ => rfl)⟩) (ak (fun γ => ⟨rfl, fun w' _ => ex_cvS rfl rfl⟩) (ak (fun γ => ⟨rfl, fun w' => ex_litW rfl (fun _ => rfl)⟩) (ak (fun γ => ⟨rfl, fun w' _ => ex_cvS rfl rfl⟩) trivial)))
  intro γ w6 l hM hl
  have H6 : Hid (Mm w6 [(γ 0, ints .u8 (fun j => [74, 101, 102, 101].getD j 0) 4), (γ 2, ints .u8 (fun j => [119, 104, 97, 116, 32, 100, 111, 32, 121, 97, 32, 119, 97, 110, 116, 32, 102, 111, 114, 32, 110, 111, 116, 104, 105, 110, 103, 63].getD j 0) 28), (γs4, ints .u8 (hmc (kf (fr 11 0) 20) (fun j => [72, 105, 32, 84, 104, 101, 114, 101].getD j 0) 8) 32), (γ2_0, ints .u8 (fr 11 0) 20), (γ2_1, ints .u8 (fun j => [72, 105, 32, 84, 104, 101, 114, 101].getD j 0) 8), (0, ints .u32 fT 8), (1, ints .u32 kT 64)] ∧ _) := growB H5 hM (Nat.le_refl _) hl [0, 2] rfl (by decide)
  have o3_0 := ownB H5 hM (Nat.le_refl _) hl (i := 0) rfl
  have o3_2 := ownB H5 hM (Nat.le_refl _) hl (i := 2) rfl
  clear hM hl l H5
  generalize γ 0 = γ3_0 at H6 o3_0 ⊢
  generalize γ 2 = γ3_2 at H6 o3_2 ⊢
  clear γ
  refine rest_at (l := [4, 5, 6]) rfl ?_
  refine rest_enter (d := 17) (R := fun vv w' => vv = .agg (ints .u8 (hmc (kf (fun j => [74, 101, 102, 101].getD j 0) 4) (fun j => [119, 104, 97, 116, 32, 100, 111, 32, 121, 97, 32, 119, 97, 110, 116, 32, 102, 111, 114, 32, 110, 111, 116, 104, 105, 110, 103, 63].getD j 0) 28) 32).toArray ∧ Below w6.heap.size w6 w') rfl rfl rfl (exec_call (args := #[.slice (some ⟨γ3_0, 0, none⟩) 4 4, .slice (some ⟨γ3_2, 0, none⟩) 28 28]) rfl call32 rfl (mpn rfl)) (Calls.mono (Code_any (pw γ3_0 4 (fun j => [74, 101, 102, 101].getD j 0)) (pw γ3_2 28 (fun j => [119, 104, 97, 116, 32, 100, 111, 32, 121, 97, 32, 119, 97, 110, 116, 32, 102, 111, 114, 32, 110, 111, 116, 104, 105, 110, 103, 63].getD j 0)) (pw_ok _ _ _) (pw_ok _ _ _) (show 4 < 4611686018427387904 by decide) (show 28 ≤ 1048576 by decide) w6 (H6.out.1.two 5 6 rfl rfl (by decide)) (H6.out.1.rs 0 rfl (Nat.le_refl _)) (H6.out.1.rs 1 rfl (Nat.le_refl _))) (fun e w2 hh => ⟨_, hh.1, rfl, hh.2⟩)) ?_
  rintro _ w7 ⟨rfl, hb⟩
  have H7 : Hid (_ ∧ _) := ⟨H6.out.1.below hb, H6.out.2.trans (hb.mono H6.out.2.size)⟩
  clear hb H6
  simp only [Act.put, sa, sz, ss]
  refine rest_set (d := 2) (v := PT w7.heap.size 0) (w' := (w7.alloc (.cells (ints .u8 (fun _ => 0) 32 : List Value).toArray 25))) rfl rfl rfl (ex_made25 rfl) ?_
  simp only [Act.put, sa, sz, ss]
  have o_γs8 : Hid (w.heap.size ≤ w7.heap.size) := H7.out.2.size
  have H8 : Hid (Mm (w7.alloc (.cells (ints .u8 (fun _ => 0) 32 : List Value).toArray 25)) ((w7.heap.size, ints .u8 (fun _ => 0) 32) :: [(γ3_0, ints .u8 (fun j => [74, 101, 102, 101].getD j 0) 4), (γ3_2, ints .u8 (fun j => [119, 104, 97, 116, 32, 100, 111, 32, 121, 97, 32, 119, 97, 110, 116, 32, 102, 111, 114, 32, 110, 111, 116, 104, 105, 110, 103, 63].getD j 0) 28), (γs4, ints .u8 (hmc (kf (fr 11 0) 20) (fun j => [72, 105, 32, 84, 104, 101, 114, 101].getD j 0) 8) 32), (γ2_0, ints .u8 (fr 11 0) 20), (γ2_1, ints .u8 (fun j => [72, 105, 32, 84, 104, 101, 114, 101].getD j 0) 8), (0, ints .u32 fT 8), (1, ints .u32 kT 64)]) ∧ Below w.heap.size w (w7.alloc (.cells (ints .u8 (fun _ => 0) 32 : List Value).toArray 25))) := ⟨H7.out.1.alloc _ 25 rfl, H7.out.2.trans (((Below.refl _ _).alloc (Nat.le_refl _) _).mono H7.out.2.size)⟩
  clear H7
  generalize hgw : (w7.alloc (.cells (ints .u8 (fun _ => 0) 32 : List Value).toArray 25)) = w8 at H8 ⊢
  clear hgw
  generalize w7.heap.size = γs8 at o_γs8 H8 ⊢
  refine rest_store rfl rfl rfl (ex_storeT (vs := ints .u8 (hmc (kf (fun j => [74, 101, 102, 101].getD j 0) 4) (fun j => [119, 104, 97, 116, 32, 100, 111, 32, 121, 97, 32, 119, 97, 110, 116, 32, 102, 111, 114, 32, 110, 111, 116, 104, 105, 110, 103, 63].getD j 0) 28) 32) H8.out.1 0 rfl rfl rfl rfl (by rw [ints_len]; exact Tryd.sizeOf25) (ints_all _ _ _) (by simp [ints_len])) ?_
  have H9 : Hid (Mm (w8.setCells γs8 0 (ints .u8 (hmc (kf (fun j => [74, 101, 102, 101].getD j 0) 4) (fun j => [119, 104, 97, 116, 32, 100, 111, 32, 121, 97, 32, 119, 97, 110, 116, 32, 102, 111, 114, 32, 110, 111, 116, 104, 105, 110, 103, 63].getD j 0) 28) 32)) [(γs8, ints .u8 (hmc (kf (fun j => [74, 101, 102, 101].getD j 0) 4) (fun j => [119, 104, 97, 116, 32, 100, 111, 32, 121, 97, 32, 119, 97, 110, 116, 32, 102, 111, 114, 32, 110, 111, 116, 104, 105, 110, 103, 63].getD j 0) 28) 32), (γ3_0, ints .u8 (fun j => [74, 101, 102, 101].getD j 0) 4), (γ3_2, ints .u8 (fun j => [119, 104, 97, 116, 32, 100, 111, 32, 121, 97, 32, 119, 97, 110, 116, 32, 102, 111, 114, 32, 110, 111, 116, 104, 105, 110, 103, 63].getD j 0) 28), (γs4, ints .u8 (hmc (kf (fr 11 0) 20) (fun j => [72, 105, 32, 84, 104, 101, 114, 101].getD j 0) 8) 32), (γ2_0, ints .u8 (fr 11 0) 20), (γ2_1, ints .u8 (fun j => [72, 105, 32, 84, 104, 101, 114, 101].getD j 0) 8), (0, ints .u32 fT 8), (1, ints .u32 kT 64)] ∧ Below w.heap.size w (w8.setCells γs8 0 (ints .u8 (hmc (kf (fun j => [74, 101, 102, 101].getD j 0) 4) (fun j => [119, 104, 97, 116, 32, 100, 111, 32, 121, 97, 32, 119, 97, 110, 116, 32, 102, 111, 114, 32, 110, 111, 116, 104, 105, 110, 103, 63].getD j 0) 28) 32))) := ⟨by
    have h := H8.out.1.put 0 (off := 0) (vs := ints .u8 (hmc (kf (fun j => [74, 101, 102, 101].getD j 0) 4) (fun j => [119, 104, 97, 116, 32, 100, 111, 32, 121, 97, 32, 119, 97, 110, 116, 32, 102, 111, 114, 32, 110, 111, 116, 104, 105, 110, 103, 63].getD j 0) 28) 32) rfl (by simp [ints_len])
    rw [ints_patch0 _ _ _ _] at h
    exact h, below_setCells _ o_γs8.out _ _ _ H8.out.2⟩
  clear H8
  generalize hgw : World.setCells _ _ _ _ = w9 at H9 ⊢
  clear hgw
  refine rest_nil (then_normal (wp_seq ?_))
  refine walk_seqA 3 [.bornX (fun g x y => .slice (some ⟨g, 0, none⟩) 13 (13 + x)) (ints .u8 (fr 0 1) 13), .bornX (fun g x y => .slice (some ⟨g, 0, none⟩) 22 (22 + x)) (ints .u8 (fr 11 0) 22), .bornX (fun g x y => .slice (some ⟨g, 0, none⟩) 10 (10 + x)) (ints .u8 (fr 240 1) 10)] (sB H9) ?ho4 ?he4
  case ho4 => exact ak (fun γ => ⟨rfl, fun w' h => ⟨42, #[.int .u8 0, .int .u8 1, .int .i64 13], exec_call rfl call42 rfl (mpn rfl), from_any 0 1 13 (by decide) (by decide) (by decide) w'⟩⟩) (ak (fun γ => ⟨rfl, fun w' h => ⟨42, #[.int .u8 11, .int .u8 0, .int .i64 22], exec_call rfl call42 rfl (mpn rfl), from_any 11 0 22 (by decide) (by decide) (by decide) w'⟩⟩) (ak (fun γ => ⟨rfl, fun w' h => ⟨42, #[.int .u8 240, .int .u8 1, .int .i64 10], exec_call rfl call42 rfl (mpn rfl), from_any 240 1 10 (by decide) (by decide) (by decide) w'⟩⟩) trivial))
  intro γ w10 l hM hl
  have H10 : Hid (Mm w10 [(γ 0, ints .u8 (fr 0 1) 13), (γ 1, ints .u8 (fr 11 0) 22), (γ 2, ints .u8 (fr 240 1) 10), (γs8, ints .u8 (hmc (kf (fun j => [74, 101, 102, 101].getD j 0) 4) (fun j => [119, 104, 97, 116, 32, 100, 111, 32, 121, 97, 32, 119, 97, 110, 116, 32, 102, 111, 114, 32, 110, 111, 116, 104, 105, 110, 103, 63].getD j 0) 28) 32), (γ3_0, ints .u8 (fun j => [74, 101, 102, 101].getD j 0) 4), (γ3_2, ints .u8 (fun j => [119, 104, 97, 116, 32, 100, 111, 32, 121, 97, 32, 119, 97, 110, 116, 32, 102, 111, 114, 32, 110, 111, 116, 104, 105, 110, 103, 63].getD j 0) 28), (γs4, ints .u8 (hmc (kf (fr 11 0) 20) (fun j => [72, 105, 32, 84, 104, 101, 114, 101].getD j 0) 8) 32), (γ2_0, ints .u8 (fr 11 0) 20), (γ2_1, ints .u8 (fun j => [72, 105, 32, 84, 104, 101, 114, 101].getD j 0) 8), (0, ints .u32 fT 8), (1, ints .u32 kT 64)] ∧ _) := growB H9 hM (Nat.le_refl _) hl [0, 1, 2] rfl (by decide)
  have o4_0 := ownB H9 hM (Nat.le_refl _) hl (i := 0) rfl
  have o4_1 := ownB H9 hM (Nat.le_refl _) hl (i := 1) rfl
  have o4_2 := ownB H9 hM (Nat.le_refl _) hl (i := 2) rfl
  clear hM hl l H9
  generalize γ 0 = γ4_0 at H10 o4_0 ⊢
  generalize γ 1 = γ4_1 at H10 o4_1 ⊢
  generalize γ 2 = γ4_2 at H10 o4_2 ⊢
  generalize γ 65536 = γ4_65536
  generalize γ 65537 = γ4_65537
  generalize γ 65538 = γ4_65538
  clear γ
  refine rest_at (l := [3, 4, 5, 6, 7, 8]) rfl ?_
  refine rest_enter (d := 22) rfl rfl rfl (exec_call (args := #[.slice (some ⟨γ4_0, 0, none⟩) 13 (13 + γ4_65536), .slice (some ⟨γ4_1, 0, none⟩) 22 (22 + γ4_65537), .slice (some ⟨γ4_2, 0, none⟩) 10 (10 + γ4_65538), .int .i64 42]) rfl call39 rfl (mpn rfl)) ((Calls.mono (Derive_ok (pc γ4_0 13 (13 + γ4_65536) (fr 0 1)) (pc γ4_1 22 (22 + γ4_65537) (fr 11 0)) (pc γ4_2 10 (10 + γ4_65538) (fr 240 1)) 42 (pc_ok _ _ _ _) (pc_ok _ _ _ _) (pc_ok _ _ _ _) (show 13 < 4611686018427387904 by decide) (show 22 ≤ 1048576 by decide) (show 10 ≤ 1048576 by decide) (by decide) w10 (H10.out.1.two 9 10 rfl rfl (by decide)) (H10.out.1.rs 0 rfl (Nat.le_refl _)) (H10.out.1.rs 1 rfl (Nat.le_refl _)) (H10.out.1.rs 2 rfl (Nat.le_refl _))) (fun e w2 hh => by obtain ⟨hb, g, he, h1, h2, h3⟩ := hh; exact ⟨_, he, hb, g, rfl, h1, h2, h3⟩) : Calls Tryd.prog 39 #[.slice (some ⟨γ4_0, 0, none⟩) 13 (13 + γ4_65536), .slice (some ⟨γ4_1, 0, none⟩) 22 (22 + γ4_65537), .slice (some ⟨γ4_2, 0, none⟩) 10 (10 + γ4_65538), .int .i64 42] w10 (fun e w' => ∃ v, e = .returned v ∧ (Below w10.heap.size w10 w' ∧ ∃ g, v = .tuple #[.slice (some ⟨g, 0, none⟩) 42 42, .int .i64 0] ∧ w10.heap.size ≤ g ∧ g < w'.heap.size ∧ Blk w' g (ints .u8 (xpd (kf (hmc (kf (fr 0 1) 13) (fr 11 0) 22) 32) (fr 240 1) 10) 42))))) ?_
  rintro _ w11 ⟨hb, g4, rfl, hg1, hg2, hg3⟩
  have o_g4 : Hid (w.heap.size ≤ g4) := Nat.le_trans H10.out.2.size hg1
  have H11 : Hid (Mm w11 [(g4, ints .u8 (xpd (kf (hmc (kf (fr 0 1) 13) (fr 11 0) 22) 32) (fr 240 1) 10) 42), (γ4_0, ints .u8 (fr 0 1) 13), (γ4_1, ints .u8 (fr 11 0) 22), (γ4_2, ints .u8 (fr 240 1) 10), (γs8, ints .u8 (hmc (kf (fun j => [74, 101, 102, 101].getD j 0) 4) (fun j => [119, 104, 97, 116, 32, 100, 111, 32, 121, 97, 32, 119, 97, 110, 116, 32, 102, 111, 114, 32, 110, 111, 116, 104, 105, 110, 103, 63].getD j 0) 28) 32), (γ3_0, ints .u8 (fun j => [74, 101, 102, 101].getD j 0) 4), (γ3_2, ints .u8 (fun j => [119, 104, 97, 116, 32, 100, 111, 32, 121, 97, 32, 119, 97, 110, 116, 32, 102, 111, 114, 32, 110, 111, 116, 104, 105, 110, 103, 63].getD j 0) 28), (γs4, ints .u8 (hmc (kf (fr 11 0) 20) (fun j => [72, 105, 32, 84, 104, 101, 114, 101].getD j 0) 8) 32), (γ2_0, ints .u8 (fr 11 0) 20), (γ2_1, ints .u8 (fun j => [72, 105, 32, 84, 104, 101, 114, 101].getD j 0) 8), (0, ints .u32 fT 8), (1, ints .u32 kT 64)] ∧ Below w.heap.size w w11) := ⟨Mm.over H10.out.1 hg1 (H10.out.1.below hb) hg3 hg2, H10.out.2.trans (hb.mono H10.out.2.size)⟩
  clear hb hg1 hg2 hg3 H10
  simp only [Act.put, sa, sz, ss]
  refine rest_set (d := 18) (v := .tuple #[.slice (some ⟨g4, 0, none⟩) 42 42, .int .i64 0]) (w' := w11) rfl rfl rfl rfl ?_
  simp only [Act.put, sa, sz, ss]
  refine rest_set (d := 23) (v := .slice (some ⟨g4, 0, none⟩) 42 42) (w' := w11) rfl rfl rfl (by go_simp) ?_
  simp only [Act.put, sa, sz, ss]
  refine rest_set (d := 24) (v := .int .i64 0) (w' := w11) rfl rfl rfl (by go_simp) ?_
  simp only [Act.put, sa, sz, ss]
  refine rest_set (d := 3) (v := .slice (some ⟨g4, 0, none⟩) 42 42) (w' := w11) rfl rfl rfl rfl ?_
  simp only [Act.put, sa, sz, ss]
  refine rest_set (d := 4) (v := .int .i64 0) (w' := w11) rfl rfl rfl rfl ?_
  simp only [Act.put, sa, sz, ss]
  refine rest_nil (then_normal (wp_seq ?_))
  refine walk_seqA 1 [.born (fun g => .tuple #[.slice (some ⟨g, 0, none⟩) 0 0, .int .i64 0]) (ints .u8 (xpd (kf pno.f pno.n) pno.f pno.n) 0)] (sB H11) ?ho5 ?he5
  case ho5 => exact ak (fun γ => ⟨rfl, fun w' h => ⟨37, #[.slice none 0 0, .slice none 0 0, .int .i64 0], exec_call rfl call37 rfl (mpn rfl), Expand_ok pno pno 0 pno_ok pno_ok (show 0 < 4611686018427387904 by decide) (show 0 ≤ 1048576 by decide) (by decide) w' (h.two 10 11 rfl rfl (by decide)) (pno_rs _) (pno_rs _)⟩⟩) trivial
  intro γ w12 l hM hl
  have H12 : Hid (Mm w12 [(γ 0, ints .u8 (xpd (kf pno.f pno.n) pno.f pno.n) 0), (g4, ints .u8 (xpd (kf (hmc (kf (fr 0 1) 13) (fr 11 0) 22) 32) (fr 240 1) 10) 42), (γ4_0, ints .u8 (fr 0 1) 13), (γ4_1, ints .u8 (fr 11 0) 22), (γ4_2, ints .u8 (fr 240 1) 10), (γs8, ints .u8 (hmc (kf (fun j => [74, 101, 102, 101].getD j 0) 4) (fun j => [119, 104, 97, 116, 32, 100, 111, 32, 121, 97, 32, 119, 97, 110, 116, 32, 102, 111, 114, 32, 110, 111, 116, 104, 105, 110, 103, 63].getD j 0) 28) 32), (γ3_0, ints .u8 (fun j => [74, 101, 102, 101].getD j 0) 4), (γ3_2, ints .u8 (fun j => [119, 104, 97, 116, 32, 100, 111, 32, 121, 97, 32, 119, 97, 110, 116, 32, 102, 111, 114, 32, 110, 111, 116, 104, 105, 110, 103, 63].getD j 0) 28), (γs4, ints .u8 (hmc (kf (fr 11 0) 20) (fun j => [72, 105, 32, 84, 104, 101, 114, 101].getD j 0) 8) 32), (γ2_0, ints .u8 (fr 11 0) 20), (γ2_1, ints .u8 (fun j => [72, 105, 32, 84, 104, 101, 114, 101].getD j 0) 8), (0, ints .u32 fT 8), (1, ints .u32 kT 64)] ∧ _) := growB H11 hM (Nat.le_refl _) hl [0] rfl (by decide)
  have o5_0 := ownB H11 hM (Nat.le_refl _) hl (i := 0) rfl
  clear hM hl l H11
  generalize γ 0 = γ5_0 at H12 o5_0 ⊢
  clear γ
  refine rest_at (l := [1, 2, 3, 4, 5]) rfl ?_
  refine rest_set (d := 25) (v := .tuple #[.slice (some ⟨γ5_0, 0, none⟩) 0 0, .int .i64 0]) (w' := w12) rfl rfl rfl rfl ?_
  simp only [Act.put, sa, sz, ss]
  refine rest_set (d := 27) (v := .slice (some ⟨γ5_0, 0, none⟩) 0 0) (w' := w12) rfl rfl rfl (by go_simp) ?_
  simp only [Act.put, sa, sz, ss]
  refine rest_set (d := 28) (v := .int .i64 0) (w' := w12) rfl rfl rfl (by go_simp) ?_
  simp only [Act.put, sa, sz, ss]
  refine rest_set (d := 5) (v := .slice (some ⟨γ5_0, 0, none⟩) 0 0) (w' := w12) rfl rfl rfl rfl ?_
  simp only [Act.put, sa, sz, ss]
  refine rest_set (d := 6) (v := .int .i64 0) (w' := w12) rfl rfl rfl rfl ?_
  simp only [Act.put, sa, sz, ss]
  refine rest_nil (then_normal (wp_seq ?_))
  refine walk_seqB 6 [.call (.tuple #[.slice none 0 0, .int .i64 3]), .quiet (.tuple #[.slice none 0 0, .int .i64 3]), .quiet (.slice none 0 0), .quiet (.int .i64 3), .quiet (.slice none 0 0), .quiet (.int .i64 3)] H12 ?ho6 ?he6
  case ho6 => exact ak (fun γ => ⟨rfl, fun w' h => ⟨37, #[.slice none 0 0, .slice none 0 0, .int .i64 8161], exec_call rfl call37 rfl (mpn rfl), Expand_big _ _ 8161 (by decide) w'⟩⟩) (ak (fun _ => ⟨rfl, fun _ _ => rfl⟩) (ak (by refine fun γ => ⟨rfl, fun w' h => ?_⟩; clear h; go_simp) (ak (by refine fun γ => ⟨rfl, fun w' h => ?_⟩; clear h; go_simp) (ak (fun _ => ⟨rfl, fun _ _ => rfl⟩) (ak (fun _ => ⟨rfl, fun _ _ => rfl⟩) trivial)))))
  intro _ w13 H13
  clear H12
  refine rest0 rfl (then_normal (wp_seq (wp_seq ?_)))
  refine walk_seqB 44 [.quiet (.int .i64 0), .quiet (.bool false), .quiet (.bool false), .quiet (.int .i64 0), .quiet (.bool false), .quiet (.bool false), .quiet (.bool false), .quiet (.int .i64 3), .quiet (.bool false), .quiet (.bool false), .quiet (.bool false), .quiet (.slice (some ⟨g4, 0, none⟩) 42 42), .quiet (.int .i64 42), .quiet (.bool false), .quiet (.bool false), .quiet (.bool false), .quiet (.slice (some ⟨γ5_0, 0, none⟩) 0 0), .quiet (.int .i64 0), .quiet (.bool false), .quiet (.bool false), .quiet (.bool false), .quiet (.slice (some ⟨g4, 0, none⟩) 42 42), .quiet (PT g4 (0 + 0)), .quiet (Z8 ((xpd (kf (hmc (kf (fr 0 1) 13) (fr 11 0) 22) 32) (fr 240 1) 10) (0 + 0))), .quiet (.bool false), .quiet (.bool false), .quiet (.bool false), .quiet (.slice (some ⟨g4, 0, none⟩) 42 42), .quiet (PT g4 (0 + 1)), .quiet (Z8 ((xpd (kf (hmc (kf (fr 0 1) 13) (fr 11 0) 22) 32) (fr 240 1) 10) (0 + 1))), .quiet (.bool false), .quiet (.bool false), .quiet (.bool false), .quiet (.slice (some ⟨g4, 0, none⟩) 42 42), .quiet (PT g4 (0 + 40)), .quiet (Z8 ((xpd (kf (hmc (kf (fr 0 1) 13) (fr 11 0) 22) 32) (fr 240 1) 10) (0 + 40))), .quiet (.bool false), .quiet (.bool false), .quiet (.bool false), .quiet (.slice (some ⟨g4, 0, none⟩) 42 42), .quiet (PT g4 (0 + 41)), .quiet (Z8 ((xpd (kf (hmc (kf (fr 0 1) 13) (fr 11 0) 22) 32) (fr 240 1) 10) (0 + 41))), .quiet (.bool false), .quiet (.bool false)] H13 ?ho7 ?he7 (hL := ?hL7)
  case hL7 => exact trivial
  case ho7 => exact ak (fun _ => ⟨rfl, fun _ _ => rfl⟩) (ak (by refine fun γ => ⟨rfl, fun w' h => ?_⟩; clear h; go_simp) (ak (fun _ => ⟨rfl, fun _ _ => rfl⟩) (ak (fun _ => ⟨rfl, fun _ _ => rfl⟩) (ak (by refine fun γ => ⟨rfl, fun w' h => ?_⟩; clear h; go_simp) (ak (by refine fun γ => ⟨rfl, fun w' h => ?_⟩; clear h; go_simp) (ak (fun _ => ⟨rfl, fun _ _ => rfl⟩) (ak (fun _ => ⟨rfl, fun _ _ => rfl⟩) (ak (by refine fun γ => ⟨rfl, fun w' h => ?_⟩; clear h; go_simp) (ak (by refine fun γ => ⟨rfl, fun w' h => ?_⟩; clear h; go_simp) (ak (fun _ => ⟨rfl, fun _ _ => rfl⟩) (ak (fun _ => ⟨rfl, fun _ _ => rfl⟩) (ak (by refine fun γ => ⟨rfl, fun w' h => ?_⟩; clear h; go_simp) (ak (by refine fun γ => ⟨rfl, fun w' h => ?_⟩; clear h; go_simp <;> omega) (ak (by refine fun γ => ⟨rfl, fun w' h => ?_⟩; clear h; go_simp) (ak (fun _ => ⟨rfl, fun _ _ => rfl⟩) (ak (fun _ => ⟨rfl, fun _ _ => rfl⟩) (ak (by refine fun γ => ⟨rfl, fun w' h => ?_⟩; clear h; go_simp) (ak (by refine fun γ => ⟨rfl, fun w' h => ?_⟩; clear h; go_simp <;> omega) (ak (by refine fun γ => ⟨rfl, fun w' h => ?_⟩; clear h; go_simp) (ak (fun _ => ⟨rfl, fun _ _ => rfl⟩) (ak (fun _ => ⟨rfl, fun _ _ => rfl⟩) (ak (fun γ => ⟨rfl, fun w' _ => ex_ixS22 (m := 42) (j := 0) rfl rfl rfl (by decide)⟩) (ak (fun γ => ⟨rfl, fun w' h => ex_loadC h 1 rfl rfl rfl Tryd.isAgg5 (ints_get _ _ (by omega))⟩) (ak (fun γ => ⟨rfl, fun w' _ => ex_neL mx0 rfl rfl rfl⟩) (ak (by refine fun γ => ⟨rfl, fun w' h => ?_⟩; clear h; go_simp) (ak (fun _ => ⟨rfl, fun _ _ => rfl⟩) (ak (fun _ => ⟨rfl, fun _ _ => rfl⟩) (ak (fun γ => ⟨rfl, fun w' _ => ex_ixS22 (m := 42) (j := 1) rfl rfl rfl (by decide)⟩) (ak (fun γ => ⟨rfl, fun w' h => ex_loadC h 1 rfl rfl rfl Tryd.isAgg5 (ints_get _ _ (by omega))⟩) (ak (fun γ => ⟨rfl, fun w' _ => ex_neL mx1 rfl rfl rfl⟩) (ak (by refine fun γ => ⟨rfl, fun w' h => ?_⟩; clear h; go_simp) (ak (fun _ => ⟨rfl, fun _ _ => rfl⟩) (ak (fun _ => ⟨rfl, fun _ _ => rfl⟩) (ak (fun γ => ⟨rfl, fun w' _ => ex_ixS22 (m := 42) (j := 40) rfl rfl rfl (by decide)⟩) (ak (fun γ => ⟨rfl, fun w' h => ex_loadC h 1 rfl rfl rfl Tryd.isAgg5 (ints_get _ _ (by omega))⟩) (ak (fun γ => ⟨rfl, fun w' _ => ex_neL mx40 rfl rfl rfl⟩) (ak (by refine fun γ => ⟨rfl, fun w' h => ?_⟩; clear h; go_simp) (ak (fun _ => ⟨rfl, fun _ _ => rfl⟩) (ak (fun _ => ⟨rfl, fun _ _ => rfl⟩) (ak (fun γ => ⟨rfl, fun w' _ => ex_ixS22 (m := 42) (j := 41) rfl rfl rfl (by decide)⟩) (ak (fun γ => ⟨rfl, fun w' h => ex_loadC h 1 rfl rfl rfl Tryd.isAgg5 (ints_get _ _ (by omega))⟩) (ak (fun γ => ⟨rfl, fun w' _ => ex_neL mx41 rfl rfl rfl⟩) (ak (by refine fun γ => ⟨rfl, fun w' h => ?_⟩; clear h; go_simp) trivial)))))))))))))))))))))))))))))))))))))))))))
  intro _ w14 H14
  clear H13
  refine rest0 rfl (then_normal (wp_cond_false rfl ?_))
  refine wp_skip (then_normal (wp_seq ?_))
  refine walk_seqA 11 [.quiet (.agg (ints .u8 (hmc (kf (fr 11 0) 20) (fun j => [72, 105, 32, 84, 104, 101, 114, 101].getD j 0) 8) 32).toArray), .call (.string (st (tx (hmc (kf (fr 11 0) 20) (fun j => [72, 105, 32, 84, 104, 101, 114, 101].getD j 0) 8) 32) 64)), .quiet (.bool true), .quiet (.bool true), .quiet (.agg (ints .u8 (hmc (kf (fun j => [74, 101, 102, 101].getD j 0) 4) (fun j => [119, 104, 97, 116, 32, 100, 111, 32, 121, 97, 32, 119, 97, 110, 116, 32, 102, 111, 114, 32, 110, 111, 116, 104, 105, 110, 103, 63].getD j 0) 28) 32).toArray), .call (.string (st (tx (hmc (kf (fun j => [74, 101, 102, 101].getD j 0) 4) (fun j => [119, 104, 97, 116, 32, 100, 111, 32, 121, 97, 32, 119, 97, 110, 116, 32, 102, 111, 114, 32, 110, 111, 116, 104, 105, 110, 103, 63].getD j 0) 28) 32) 64)), .quiet (.bool true), .quiet (.bool true), .quiet (.bool true), .row (fun g => .slice (some ⟨g, 0, none⟩) 2 2) (ints .u8 (fun j => [1, 2].getD j 0) 2) 5, .row (fun g => .slice (some ⟨g, 0, none⟩) 2 2) (ints .u8 (fun j => [1, 2].getD j 0) 2) 5] (sB H14) ?ho8 ?he8
  case ho8 => exact ak (fun γ => ⟨rfl, fun w' h => ex_loadT h 8 rfl rfl rfl Tryd.isAgg25 Tryd.sizeOf25 (ints_whole _ _ _) (ints_len _ _ _)⟩) (ak (fun γ => ⟨rfl, fun w' h => ⟨23, #[.agg (ints .u8 (hmc (kf (fr 11 0) 20) (fun j => [72, 105, 32, 84, 104, 101, 114, 101].getD j 0) 8) 32).toArray], exec_call rfl call23 rfl (mpn rfl), Text_any (hmc (kf (fr 11 0) 20) (fun j => [72, 105, 32, 84, 104, 101, 114, 101].getD j 0) 8) (hmc_lt _ _ _) w'⟩⟩) (ak (fun γ => ⟨rfl, fun w' _ => ex_eqS mtA rfl rfl rfl⟩) (ak (fun _ => ⟨rfl, fun _ _ => rfl⟩) (ak (fun γ => ⟨rfl, fun w' h => ex_loadT h 5 rfl rfl rfl Tryd.isAgg25 Tryd.sizeOf25 (ints_whole _ _ _) (ints_len _ _ _)⟩) (ak (fun γ => ⟨rfl, fun w' h => ⟨23, #[.agg (ints .u8 (hmc (kf (fun j => [74, 101, 102, 101].getD j 0) 4) (fun j => [119, 104, 97, 116, 32, 100, 111, 32, 121, 97, 32, 119, 97, 110, 116, 32, 102, 111, 114, 32, 110, 111, 116, 104, 105, 110, 103, 63].getD j 0) 28) 32).toArray], exec_call rfl call23 rfl (mpn rfl), Text_any (hmc (kf (fun j => [74, 101, 102, 101].getD j 0) 4) (fun j => [119, 104, 97, 116, 32, 100, 111, 32, 121, 97, 32, 119, 97, 110, 116, 32, 102, 111, 114, 32, 110, 111, 116, 104, 105, 110, 103, 63].getD j 0) 28) (hmc_lt _ _ _) w'⟩⟩) (ak (fun γ => ⟨rfl, fun w' _ => ex_eqS mtB rfl rfl rfl⟩) (ak (by refine fun γ => ⟨rfl, fun w' h => ?_⟩; clear h; go_simp) (ak (fun _ => ⟨rfl, fun _ _ => rfl⟩) (ak (fun γ => ⟨rfl, fun w' => ex_litO rfl (fun _ => rfl)⟩) (ak (fun γ => ⟨rfl, fun w' => ex_litO rfl (fun _ => rfl)⟩) trivial))))))))))
  intro γ w15 l hM hl
  have H15 : Hid (Mm w15 [(γ 9, ints .u8 (fun j => [1, 2].getD j 0) 2), (γ 10, ints .u8 (fun j => [1, 2].getD j 0) 2), (γ5_0, ints .u8 (xpd (kf pno.f pno.n) pno.f pno.n) 0), (g4, ints .u8 (xpd (kf (hmc (kf (fr 0 1) 13) (fr 11 0) 22) 32) (fr 240 1) 10) 42), (γ4_0, ints .u8 (fr 0 1) 13), (γ4_1, ints .u8 (fr 11 0) 22), (γ4_2, ints .u8 (fr 240 1) 10), (γs8, ints .u8 (hmc (kf (fun j => [74, 101, 102, 101].getD j 0) 4) (fun j => [119, 104, 97, 116, 32, 100, 111, 32, 121, 97, 32, 119, 97, 110, 116, 32, 102, 111, 114, 32, 110, 111, 116, 104, 105, 110, 103, 63].getD j 0) 28) 32), (γ3_0, ints .u8 (fun j => [74, 101, 102, 101].getD j 0) 4), (γ3_2, ints .u8 (fun j => [119, 104, 97, 116, 32, 100, 111, 32, 121, 97, 32, 119, 97, 110, 116, 32, 102, 111, 114, 32, 110, 111, 116, 104, 105, 110, 103, 63].getD j 0) 28), (γs4, ints .u8 (hmc (kf (fr 11 0) 20) (fun j => [72, 105, 32, 84, 104, 101, 114, 101].getD j 0) 8) 32), (γ2_0, ints .u8 (fr 11 0) 20), (γ2_1, ints .u8 (fun j => [72, 105, 32, 84, 104, 101, 114, 101].getD j 0) 8), (0, ints .u32 fT 8), (1, ints .u32 kT 64)] ∧ _) := growB H14 hM (Nat.le_refl _) hl [9, 10] rfl (by decide)
  have o8_9 := ownB H14 hM (Nat.le_refl _) hl (i := 9) rfl
  have o8_10 := ownB H14 hM (Nat.le_refl _) hl (i := 10) rfl
  clear hM hl l H14
  generalize γ 9 = γ8_9 at H15 o8_9 ⊢
  generalize γ 10 = γ8_10 at H15 o8_10 ⊢
  clear γ
  refine rest_at (l := [11, 12, 13, 14, 15, 16, 17, 18, 19, 20, 21, 22]) rfl ?_
  refine rest_enter (d := 88) (R := fun vv w' => vv = .bool true ∧ Below w15.heap.size w15 w') rfl rfl rfl (exec_call (args := #[.slice (some ⟨γ8_9, 0, none⟩) 2 2, .slice (some ⟨γ8_10, 0, none⟩) 2 2]) rfl call35 rfl (mpn rfl)) (Calls.mono (Same_yes (pw γ8_9 2 (fun j => [1, 2].getD j 0)) (pw γ8_10 2 (fun j => [1, 2].getD j 0)) (pw_ok _ _ _) (pw_ok _ _ _) rfl (show 2 < 4611686018427387904 by decide) un12 w15 (H15.out.1.rs 0 rfl (Nat.le_refl _)) (H15.out.1.rs 1 rfl (Nat.le_refl _))) (fun e w2 hh => ⟨_, hh.1, rfl, hh.2⟩)) ?_
  rintro _ w16 ⟨rfl, hb⟩
  have H16 : Hid (_ ∧ _) := ⟨H15.out.1.below hb, H15.out.2.trans (hb.mono H15.out.2.size)⟩
  clear hb H15
  simp only [Act.put, sa, sz, ss]
  refine rest_set (d := 89) (v := .bool true) (w' := w16) rfl rfl rfl (by go_simp) ?_
  simp only [Act.put, sa, sz, ss]
  refine rest_set (d := 90) (v := .bool true) (w' := w16) rfl rfl rfl rfl ?_
  simp only [Act.put, sa, sz, ss]
  refine rest_set (d := 91) (v := .slice (some ⟨w16.heap.size, 0, none⟩) 2 2) (w' := (w16.alloc (.cells (ints .u8 (fun j => [1, 2].getD j 0) 2 : List Value).toArray 5))) rfl rfl rfl (ex_litO rfl (fun _ => rfl)) ?_
  simp only [Act.put, sa, sz, ss]
  have o_γs17 : Hid (w.heap.size ≤ w16.heap.size) := H16.out.2.size
  have H17 : Hid (Mm (w16.alloc (.cells (ints .u8 (fun j => [1, 2].getD j 0) 2 : List Value).toArray 5)) ((w16.heap.size, ints .u8 (fun j => [1, 2].getD j 0) 2) :: [(γ8_9, ints .u8 (fun j => [1, 2].getD j 0) 2), (γ8_10, ints .u8 (fun j => [1, 2].getD j 0) 2), (γ5_0, ints .u8 (xpd (kf pno.f pno.n) pno.f pno.n) 0), (g4, ints .u8 (xpd (kf (hmc (kf (fr 0 1) 13) (fr 11 0) 22) 32) (fr 240 1) 10) 42), (γ4_0, ints .u8 (fr 0 1) 13), (γ4_1, ints .u8 (fr 11 0) 22), (γ4_2, ints .u8 (fr 240 1) 10), (γs8, ints .u8 (hmc (kf (fun j => [74, 101, 102, 101].getD j 0) 4) (fun j => [119, 104, 97, 116, 32, 100, 111, 32, 121, 97, 32, 119, 97, 110, 116, 32, 102, 111, 114, 32, 110, 111, 116, 104, 105, 110, 103, 63].getD j 0) 28) 32), (γ3_0, ints .u8 (fun j => [74, 101, 102, 101].getD j 0) 4), (γ3_2, ints .u8 (fun j => [119, 104, 97, 116, 32, 100, 111, 32, 121, 97, 32, 119, 97, 110, 116, 32, 102, 111, 114, 32, 110, 111, 116, 104, 105, 110, 103, 63].getD j 0) 28), (γs4, ints .u8 (hmc (kf (fr 11 0) 20) (fun j => [72, 105, 32, 84, 104, 101, 114, 101].getD j 0) 8) 32), (γ2_0, ints .u8 (fr 11 0) 20), (γ2_1, ints .u8 (fun j => [72, 105, 32, 84, 104, 101, 114, 101].getD j 0) 8), (0, ints .u32 fT 8), (1, ints .u32 kT 64)]) ∧ Below w.heap.size w (w16.alloc (.cells (ints .u8 (fun j => [1, 2].getD j 0) 2 : List Value).toArray 5))) := ⟨H16.out.1.alloc _ 5 rfl, H16.out.2.trans (((Below.refl _ _).alloc (Nat.le_refl _) _).mono H16.out.2.size)⟩
  clear H16
  generalize hgw : (w16.alloc (.cells (ints .u8 (fun j => [1, 2].getD j 0) 2 : List Value).toArray 5)) = w17 at H17 ⊢
  clear hgw
  generalize w16.heap.size = γs17 at o_γs17 H17 ⊢
  refine rest_set (d := 92) (v := .slice (some ⟨w17.heap.size, 0, none⟩) 1 1) (w' := (w17.alloc (.cells (ints .u8 (fun j => [1].getD j 0) 1 : List Value).toArray 5))) rfl rfl rfl (ex_litI rfl (fun _ => rfl)) ?_
  simp only [Act.put, sa, sz, ss]
  have o_γs18 : Hid (w.heap.size ≤ w17.heap.size) := H17.out.2.size
  have H18 : Hid (Mm (w17.alloc (.cells (ints .u8 (fun j => [1].getD j 0) 1 : List Value).toArray 5)) ((w17.heap.size, ints .u8 (fun j => [1].getD j 0) 1) :: [(γs17, ints .u8 (fun j => [1, 2].getD j 0) 2), (γ8_9, ints .u8 (fun j => [1, 2].getD j 0) 2), (γ8_10, ints .u8 (fun j => [1, 2].getD j 0) 2), (γ5_0, ints .u8 (xpd (kf pno.f pno.n) pno.f pno.n) 0), (g4, ints .u8 (xpd (kf (hmc (kf (fr 0 1) 13) (fr 11 0) 22) 32) (fr 240 1) 10) 42), (γ4_0, ints .u8 (fr 0 1) 13), (γ4_1, ints .u8 (fr 11 0) 22), (γ4_2, ints .u8 (fr 240 1) 10), (γs8, ints .u8 (hmc (kf (fun j => [74, 101, 102, 101].getD j 0) 4) (fun j => [119, 104, 97, 116, 32, 100, 111, 32, 121, 97, 32, 119, 97, 110, 116, 32, 102, 111, 114, 32, 110, 111, 116, 104, 105, 110, 103, 63].getD j 0) 28) 32), (γ3_0, ints .u8 (fun j => [74, 101, 102, 101].getD j 0) 4), (γ3_2, ints .u8 (fun j => [119, 104, 97, 116, 32, 100, 111, 32, 121, 97, 32, 119, 97, 110, 116, 32, 102, 111, 114, 32, 110, 111, 116, 104, 105, 110, 103, 63].getD j 0) 28), (γs4, ints .u8 (hmc (kf (fr 11 0) 20) (fun j => [72, 105, 32, 84, 104, 101, 114, 101].getD j 0) 8) 32), (γ2_0, ints .u8 (fr 11 0) 20), (γ2_1, ints .u8 (fun j => [72, 105, 32, 84, 104, 101, 114, 101].getD j 0) 8), (0, ints .u32 fT 8), (1, ints .u32 kT 64)]) ∧ Below w.heap.size w (w17.alloc (.cells (ints .u8 (fun j => [1].getD j 0) 1 : List Value).toArray 5))) := ⟨H17.out.1.alloc _ 5 rfl, H17.out.2.trans (((Below.refl _ _).alloc (Nat.le_refl _) _).mono H17.out.2.size)⟩
  clear H17
  generalize hgw : (w17.alloc (.cells (ints .u8 (fun j => [1].getD j 0) 1 : List Value).toArray 5)) = w18 at H18 ⊢
  clear hgw
  generalize w17.heap.size = γs18 at o_γs18 H18 ⊢
  refine rest_enter (d := 93) (R := fun vv w' => vv = .bool false ∧ Below w18.heap.size w18 w') rfl rfl rfl (exec_call (args := #[.slice (some ⟨γs17, 0, none⟩) 2 2, .slice (some ⟨γs18, 0, none⟩) 1 1]) rfl call35 rfl (mpn rfl)) (Calls.mono (Same_unlike (pw γs17 2 (fun j => [1, 2].getD j 0)) (pw γs18 1 (fun j => [1].getD j 0)) (show 2 ≠ 1 by decide) w18) (fun e w2 hh => ⟨_, hh.1, rfl, hh.2⟩)) ?_
  rintro _ w19 ⟨rfl, hb⟩
  have H19 : Hid (_ ∧ _) := ⟨H18.out.1.below hb, H18.out.2.trans (hb.mono H18.out.2.size)⟩
  clear hb H18
  simp only [Act.put, sa, sz, ss]
  refine rest_set (d := 94) (v := .bool true) (w' := w19) rfl rfl rfl (by go_simp) ?_
  simp only [Act.put, sa, sz, ss]
  refine rest_set (d := 95) (v := .bool true) (w' := w19) rfl rfl rfl (by go_simp) ?_
  simp only [Act.put, sa, sz, ss]
  refine rest_set (d := 96) (v := .bool true) (w' := w19) rfl rfl rfl rfl ?_
  simp only [Act.put, sa, sz, ss]
  refine rest_enter (d := 97) (R := fun vv w' => vv = .bool true ∧ Below w19.heap.size w19 w') rfl rfl rfl (exec_call (args := #[.slice none 0 0, .slice none 0 0]) rfl call35 rfl (mpn rfl)) (Calls.mono (Same_yes pno pno pno_ok pno_ok rfl (show 0 < 4611686018427387904 by decide) rfl w19 (pno_rs _) (pno_rs _)) (fun e w2 hh => ⟨_, hh.1, rfl, hh.2⟩)) ?_
  rintro _ w20 ⟨rfl, hb⟩
  have H20 : Hid (_ ∧ _) := ⟨H19.out.1.below hb, H19.out.2.trans (hb.mono H19.out.2.size)⟩
  clear hb H19
  simp only [Act.put, sa, sz, ss]
  refine rest_set (d := 98) (v := .bool true) (w' := w20) rfl rfl rfl (by go_simp) ?_
  simp only [Act.put, sa, sz, ss]
  refine rest_set (d := 0) (v := .bool true) (w' := w20) rfl rfl rfl rfl ?_
  simp only [Act.put, List.setIfInBounds_toArray, List.set_cons_zero]
  refine rest_nil (then_normal (wp_ret ?_))
  repeat (first | refine then_ret ?_ | refine block_ret ?_)
  refine bodyPost_ret (v := .bool true) (by simp [results, Tryd.results11, go_sem, *]) rfl ?_
  exact ⟨rfl, H20.out.2⟩
end Rg
end Go.Proofs.YtolflfjfegngnaaDoor
end
section
namespace Go.Proofs.YtolflfjfegngnaaDoor
open Go.RowKit
namespace Rg
set_option maxRecDepth 100000
theorem Zo.lift {w w1 w2 : World} {B n : Nat} {L : List (Nat × List Value)} {v : Value} {P : Nat → Nat} (h : Zo w1 B [] v n P w2) (hb : Below w.heap.size w w1) (hm : Mm w1 L) : Zo w B L v n P w2 :=
  ⟨hb.trans (h.b.mono hb.size), Nat.le_trans hb.size h.lo, h.hi, hm.below h.b, fun p hp => Nat.lt_of_lt_of_le (hm.blk p hp).1 h.lo, h.own⟩
theorem Zo.mm {w w1 : World} {B n g cap : Nat} {l : List (Nat × List Value)} {P : Nat → Nat} (h : Zo w B l (.slice (some ⟨g, 0, none⟩) n cap) n P w1) : Mm w1 ((g, ints .u8 P n) :: l) :=
  h.m.cons h.blk.2.2.2 h.blk.2.1 (fun p hp => by have h1 := h.lt p hp; have h2 := h.blk.1; omega)
theorem Zo.appQ {w w1 : World} {B n0 : Nat} {l : List (Nat × List Value)} {vv : Value} {P : Nat → Nat} (h : Zo w B l vv n0 P w1) {q : Pt8} (hB : Bv q.gb q.o q.n q.cp 0 (.slice q.p q.n q.cp)) (hN : q.p = none → q.cp = 0) (hR : Rs q.gb q.o q.n q.f w1) (hb : n0 + q.n ≤ 2097152) (ty : TypeId) :
    ∃ v' w2, (Builtin.append_ #[22, 22] ty #[vv, .slice q.p q.n q.cp]).run Tryd.prog w1 = .ok v' w2 ∧ Zo w B l v' (n0 + q.n) (ct P n0 q.f) w2 := by
  obtain ⟨gb, o, n, cp, p, f⟩ := q
  simp only at hB hN hR hb ⊢
  cases p with
  | none =>
    have hn : n = 0 := by
      rcases Nat.eq_zero_or_pos n with e | e
      · exact e
      · have := hB.1 e
        simp at this
    have hc := hN rfl
    subst hn hc
    exact ⟨vv, w1, h.app0 ty, h.cg (fun j hj => by unfold ct; rw [if_pos hj])⟩
  | some a =>
    refine h.app (a := a) n cp f (fun j hj => ?_) hb ty
    have e := hB.1 (by omega)
    injection e with e1
    injection e1 with e1
    rw [e1]
    exact hR.add j hj
theorem kf_pad (f : Nat → Nat) (n : Nat) (h : n + 1 ≤ 64) : kf (ct f n (fun _ => 0)) (n + 1) = kf f n := by
  unfold kf
  rw [if_neg (by omega), if_neg (by omega)]
  funext j
  unfold pr8 ct
  by_cases h1 : j < n
  · rw [if_pos (by omega), if_pos (by omega), if_pos (by omega)]
  · by_cases h2 : j < n + 1
    · rw [if_pos (by omega), if_neg (by omega), if_neg (by omega)]
    · rw [if_neg (by omega), if_neg (by omega)]
theorem Mm.bsl {w : World} {l : List (Nat × List Value)} {g m n c : Nat} {f : Nat → Nat} (h : Mm w l) (k : Nat) (hk : l[k]? = some (g, ints .u8 f m)) (hn : n ≤ m) (hc : n ≤ c) : BSl w ((List.range n).map fun i => ((f i : Nat) : Int)) c (.slice (some ⟨g, 0, none⟩) n c) :=
  Rd.bsl ⟨(h.blk _ (List.mem_of_getElem? hk)).1, (h.rs k hk hn).at_⟩ hc
theorem same_mm {w : World} {l : List (Nat × List Value)} {g1 g2 m1 m2 n c1 c2 : Nat} {f : Nat → Nat} (h : Mm w l) (i j : Nat) (hi : l[i]? = some (g1, ints .u8 f m1)) (hj : l[j]? = some (g2, ints .u8 f m2)) (h1 : n ≤ m1) (h2 : n ≤ m2) (h3 : n ≤ c1) (h4 : n ≤ c2) : Calls Tryd.prog 36 #[.slice (some ⟨g1, 0, none⟩) n c1, .slice (some ⟨g2, 0, none⟩) n c2] w fun e w' => e = .returned (.bool true) ∧ Below w.heap.size w w' :=
  Calls.mono (same_any w (h.bsl i hi h1 h3) (h.bsl j hj h2 h4)) (fun e w' hh => ⟨hh.1, by rw [hh.2]; exact Below.refl _ _⟩)
set_option maxHeartbeats 1000000 in
set_option maxRecDepth 100000 in
theorem copy_any (a : Pt8) (ha : Pok a) (hN0 : a.p = none → a.cp = 0) (hna : a.n ≤ 1048576) (w : World) (hRa : a.rs w) :
    Calls Tryd.prog 28 #[.slice a.p a.n a.cp] w fun e w' => ∃ v B, e = .returned v ∧ Zo w B [] v a.n a.f w' := by
  have H0 : Hid (_ ∧ _) := ⟨Mm.nil w, Below.refl w.heap.size w⟩
  have RA : Hid (a.rs w) := hRa
  have hN : Hid _ := hN0
  clear hRa hN0
  go_enter Tryd.func28, Tryd.ntmps28
  refine wp_seq ?_
  refine walk_seqB 1 [.quiet (.slice none 0 0)] H0 ?ho1 ?he1
  case ho1 => exact ak (fun _ => ⟨rfl, fun _ _ => rfl⟩) trivial
  intro _ w1 H1
  refine rest0 rfl (then_normal (wp_seq ?_))
  refine walk_seqB 0 [] H1 ?ho2 ?he2
  case ho2 => exact trivial
  intro _ w2 H2
  clear H1
  refine rest_at (l := [0, 1, 2, 3]) rfl ?_
  refine rest_set (d := 3) (v := .slice (some ⟨w2.heap.size, 0, none⟩) 0 0) (w' := (w2.alloc (.cells #[] 5))) rfl rfl rfl (ex_bs0 rfl) ?_
  simp only [Act.put, sa, sz, ss]
  have H3 : Hid (Mm (w2.alloc (.cells #[] 5)) [] ∧ Zo w w2.heap.size [] (.slice (some ⟨w2.heap.size, 0, none⟩) 0 0) 0 a.f (w2.alloc (.cells #[] 5))) := ⟨Mm.nil _, Zo.made a.f H2.out.1 H2.out.2⟩
  clear H2
  generalize hgw : (w2.alloc (.cells #[] 5)) = w3 at H3 ⊢
  clear hgw
  generalize w2.heap.size = γb at H3 ⊢
  refine rest_set (d := 4) (v := .slice a.p a.n a.cp) (w' := w3) rfl rfl rfl rfl ?_
  simp only [Act.put, sa, sz, ss]
  obtain ⟨v4, w4, hr, hZ⟩ := H3.out.2.appQ (q := a) ha.bv hN.out (RA.out.below H3.out.2.b) (by omega) 22
  rw [Nat.zero_add] at hZ
  refine rest_set (d := 5) (v := v4) (w' := w4) rfl rfl rfl (ex_app rfl rfl rfl hr) ?_
  simp only [Act.put, sa, sz, ss]
  have H4 : Hid (Mm w4 [] ∧ Zo w γb [] v4 a.n a.f w4) := ⟨Mm.nil _, hZ.cg (fun j _ => by rw [ct_zero])⟩
  clear hr hZ H3
  refine rest_set (d := 2) (v := v4) (w' := w4) rfl rfl rfl rfl ?_
  simp only [Act.put, sa, sz, ss]
  refine rest_nil (then_normal (wp_ret ?_))
  repeat (first | refine then_ret ?_ | refine block_ret ?_)
  refine bodyPost_ret (v := v4) (by simp [results, Tryd.results28, go_sem, *]) rfl ?_
  exact ⟨_, _, rfl, H4.out.2⟩
set_option maxHeartbeats 8000000 in
set_option maxRecDepth 100000 in
theorem begins_l1 (a b : Pt8) (z1 z2 : Int) (hl : 2000 < a.n) (w : World) (hm : Mm w [(0, ints .u32 fT 8), (1, ints .u32 kT 64)]) (hRa : a.rs w) (hRb : b.rs w) :
    Calls Tryd.prog 12 #[.slice a.p a.n a.cp, .slice b.p b.n b.cp, .int .i64 z1, .int .i64 z2] w fun e w' => e = .returned (.bool true) ∧ Below w.heap.size w w' := by
  have H0 : Hid (_ ∧ _) := ⟨hm, Below.refl w.heap.size w⟩
  clear hm
  have RA : Hid (a.rs w) := hRa
  have RB : Hid (b.rs w) := hRb
  clear hRa hRb
  go_enter Tryd.func12, Tryd.ntmps12
  refine wp_seq ?_
  refine walk_seqB 1 [.quiet (.bool false)] H0 ?ho1 ?he1
  case ho1 => exact ak (fun _ => ⟨rfl, fun _ _ => rfl⟩) trivial
  intro _ w1 H1
  refine rest0 rfl (then_normal (wp_seq ?_))
  refine walk_seqB 2 [.call (.bool true), .quiet (.bool true)] H1 ?ho2 ?he2
  case ho2 => exact ak (fun γ => ⟨rfl, fun w' h => ⟨11, #[], exec_call rfl call11 rfl (mpn rfl), mknown_law w' (h.two 0 1 rfl rfl (by decide))⟩⟩) (ak (fun _ => ⟨rfl, fun _ _ => rfl⟩) trivial)
  intro _ w2 H2
  clear H1
  refine rest0 rfl (then_normal (wp_seq (wp_seq ?_)))
  refine walk_seqB 8 [.quiet (.slice a.p a.n a.cp), .quiet (.int .i64 ((a.n : Nat) : Int)), .quiet (.bool true), .quiet (.bool true), .gone, .gone, .gone, .quiet (.bool true)] H2 ?ho3 ?he3
  case ho3 => exact ak (fun _ => ⟨rfl, fun _ _ => rfl⟩) (ak (by refine fun γ => ⟨rfl, fun w' h => ?_⟩; clear h; go_simp) (ak (by refine fun γ => ⟨rfl, fun w' h => ?_⟩; clear h; go_simp <;> omega) (ak (fun _ => ⟨rfl, fun _ _ => rfl⟩) (ak (fun γ => rfl) (ak (fun γ => rfl) (ak (fun γ => rfl) (ak (by refine fun γ => ⟨rfl, fun w' h => ?_⟩; clear h; go_simp) trivial)))))))
  intro _ w3 H3
  clear H2
  refine rest0 rfl (then_normal (wp_cond_true rfl (wp_seq ?_)))
  refine walk_seqB 2 [.quiet (.bool true), .quiet (.bool true)] H3 ?ho4 ?he4
  case ho4 => exact ak (fun _ => ⟨rfl, fun _ _ => rfl⟩) (ak (fun _ => ⟨rfl, fun _ _ => rfl⟩) trivial)
  intro _ w4 H4
  clear H3
  refine rest0 rfl (then_normal (wp_ret ?_))
  repeat (first | refine then_ret ?_ | refine block_ret ?_)
  refine bodyPost_ret (v := .bool true) (by simp [results, Tryd.results12, go_sem, *]) rfl ?_
  exact ⟨rfl, H4.out.2⟩
set_option maxHeartbeats 8000000 in
set_option maxRecDepth 100000 in
theorem begins_l2 (a b : Pt8) (z1 z2 : Int) (hk : a.n ≤ 2000) (hl : 2000 < b.n) (w : World) (hm : Mm w [(0, ints .u32 fT 8), (1, ints .u32 kT 64)]) (hRa : a.rs w) (hRb : b.rs w) :
    Calls Tryd.prog 12 #[.slice a.p a.n a.cp, .slice b.p b.n b.cp, .int .i64 z1, .int .i64 z2] w fun e w' => e = .returned (.bool true) ∧ Below w.heap.size w w' := by
  have H0 : Hid (_ ∧ _) := ⟨hm, Below.refl w.heap.size w⟩
  clear hm
  have RA : Hid (a.rs w) := hRa
  have RB : Hid (b.rs w) := hRb
  clear hRa hRb
  go_enter Tryd.func12, Tryd.ntmps12
  refine wp_seq ?_
  refine walk_seqB 1 [.quiet (.bool false)] H0 ?ho1 ?he1
  case ho1 => exact ak (fun _ => ⟨rfl, fun _ _ => rfl⟩) trivial
  intro _ w1 H1
  refine rest0 rfl (then_normal (wp_seq ?_))
  refine walk_seqB 2 [.call (.bool true), .quiet (.bool true)] H1 ?ho2 ?he2
  case ho2 => exact ak (fun γ => ⟨rfl, fun w' h => ⟨11, #[], exec_call rfl call11 rfl (mpn rfl), mknown_law w' (h.two 0 1 rfl rfl (by decide))⟩⟩) (ak (fun _ => ⟨rfl, fun _ _ => rfl⟩) trivial)
  intro _ w2 H2
  clear H1
  refine rest0 rfl (then_normal (wp_seq (wp_seq ?_)))
  refine walk_seqB 8 [.quiet (.slice a.p a.n a.cp), .quiet (.int .i64 ((a.n : Nat) : Int)), .quiet (.bool false), .quiet (.bool false), .quiet (.slice b.p b.n b.cp), .quiet (.int .i64 ((b.n : Nat) : Int)), .quiet (.bool true), .quiet (.bool true)] H2 ?ho3 ?he3
  case ho3 => exact ak (fun _ => ⟨rfl, fun _ _ => rfl⟩) (ak (by refine fun γ => ⟨rfl, fun w' h => ?_⟩; clear h; go_simp) (ak (by refine fun γ => ⟨rfl, fun w' h => ?_⟩; clear h; go_simp <;> omega) (ak (fun _ => ⟨rfl, fun _ _ => rfl⟩) (ak (fun _ => ⟨rfl, fun _ _ => rfl⟩) (ak (by refine fun γ => ⟨rfl, fun w' h => ?_⟩; clear h; go_simp) (ak (by refine fun γ => ⟨rfl, fun w' h => ?_⟩; clear h; go_simp <;> omega) (ak (by refine fun γ => ⟨rfl, fun w' h => ?_⟩; clear h; go_simp) trivial)))))))
  intro _ w3 H3
  clear H2
  refine rest0 rfl (then_normal (wp_cond_true rfl (wp_seq ?_)))
  refine walk_seqB 2 [.quiet (.bool true), .quiet (.bool true)] H3 ?ho4 ?he4
  case ho4 => exact ak (fun _ => ⟨rfl, fun _ _ => rfl⟩) (ak (fun _ => ⟨rfl, fun _ _ => rfl⟩) trivial)
  intro _ w4 H4
  clear H3
  refine rest0 rfl (then_normal (wp_ret ?_))
  repeat (first | refine then_ret ?_ | refine block_ret ?_)
  refine bodyPost_ret (v := .bool true) (by simp [results, Tryd.results12, go_sem, *]) rfl ?_
  exact ⟨rfl, H4.out.2⟩
set_option maxHeartbeats 8000000 in
set_option maxRecDepth 100000 in
theorem begins_big (a b : Pt8) (z1 z2 : Int) (n m : Nat) (ha : Pok a) (hb : Pok b) (hN0 : a.p = none → a.cp = 0) (hz10 : pk z1 = n) (hz20 : pk z2 = m) (hn : n < 400) (hm' : m < 400) (hk : a.n ≤ 2000) (hl : b.n ≤ 2000) (h64 : 64 < a.n + 1) (w : World) (hm : Mm w [(0, ints .u32 fT 8), (1, ints .u32 kT 64)]) (hRa : a.rs w) (hRb : b.rs w) :
    Calls Tryd.prog 12 #[.slice a.p a.n a.cp, .slice b.p b.n b.cp, .int .i64 z1, .int .i64 z2] w fun e w' => e = .returned (.bool true) ∧ Below w.heap.size w w' := by
  have H0 : Hid (_ ∧ _) := ⟨hm, Below.refl w.heap.size w⟩
  clear hm
  have RA : Hid (a.rs w) := hRa
  have RB : Hid (b.rs w) := hRb
  have hN : Hid _ := hN0
  have hz1 : Hid _ := hz10
  have hz2 : Hid _ := hz20
  clear hN0 hz10 hz20
  clear hRa hRb
  go_enter Tryd.func12, Tryd.ntmps12
  refine wp_seq ?_
  refine walk_seqB 1 [.quiet (.bool false)] H0 ?ho1 ?he1
  case ho1 => exact ak (fun _ => ⟨rfl, fun _ _ => rfl⟩) trivial
  intro _ w1 H1
  refine rest0 rfl (then_normal (wp_seq ?_))
  refine walk_seqB 2 [.call (.bool true), .quiet (.bool true)] H1 ?ho2 ?he2
  case ho2 => exact ak (fun γ => ⟨rfl, fun w' h => ⟨11, #[], exec_call rfl call11 rfl (mpn rfl), mknown_law w' (h.two 0 1 rfl rfl (by decide))⟩⟩) (ak (fun _ => ⟨rfl, fun _ _ => rfl⟩) trivial)
  intro _ w2 H2
  clear H1
  refine rest0 rfl (then_normal (wp_seq (wp_seq ?_)))
  refine walk_seqB 8 [.quiet (.slice a.p a.n a.cp), .quiet (.int .i64 ((a.n : Nat) : Int)), .quiet (.bool false), .quiet (.bool false), .quiet (.slice b.p b.n b.cp), .quiet (.int .i64 ((b.n : Nat) : Int)), .quiet (.bool false), .quiet (.bool false)] H2 ?ho3 ?he3
  case ho3 => exact ak (fun _ => ⟨rfl, fun _ _ => rfl⟩) (ak (by refine fun γ => ⟨rfl, fun w' h => ?_⟩; clear h; go_simp) (ak (by refine fun γ => ⟨rfl, fun w' h => ?_⟩; clear h; go_simp <;> omega) (ak (fun _ => ⟨rfl, fun _ _ => rfl⟩) (ak (fun _ => ⟨rfl, fun _ _ => rfl⟩) (ak (by refine fun γ => ⟨rfl, fun w' h => ?_⟩; clear h; go_simp) (ak (by refine fun γ => ⟨rfl, fun w' h => ?_⟩; clear h; go_simp <;> omega) (ak (by refine fun γ => ⟨rfl, fun w' h => ?_⟩; clear h; go_simp) trivial)))))))
  intro _ w3 H3
  clear H2
  refine rest0 rfl (then_normal (wp_cond_false rfl ?_))
  refine wp_skip (then_normal (wp_seq ?_))
  refine walk_seqB 2 [.quiet (.int .i64 z1), .call (.int .i64 ((n : Nat) : Int))] H3 ?ho4 ?he4
  case ho4 => exact ak (fun _ => ⟨rfl, fun _ _ => rfl⟩) (ak (fun γ => ⟨rfl, fun w' h => ⟨43, #[.int .i64 z1, .int .i64 400], exec_call rfl call43 rfl (mpn rfl), Pick_any z1 n hz1.out w'⟩⟩) trivial)
  intro _ w4 H4
  clear H3
  refine rest_at (l := [2]) rfl ?_
  refine rest_set (d := 2) (v := .int .i64 ((n : Nat) : Int)) (w' := w4) rfl rfl rfl rfl ?_
  simp only [Act.put, sa, sz, ss]
  refine rest_nil (then_normal (wp_seq ?_))
  refine walk_seqB 2 [.quiet (.int .i64 z2), .call (.int .i64 ((m : Nat) : Int))] H4 ?ho5 ?he5
  case ho5 => exact ak (fun _ => ⟨rfl, fun _ _ => rfl⟩) (ak (fun γ => ⟨rfl, fun w' h => ⟨43, #[.int .i64 z2, .int .i64 400], exec_call rfl call43 rfl (mpn rfl), Pick_any z2 m hz2.out w'⟩⟩) trivial)
  intro _ w5 H5
  clear H4
  refine rest_at (l := [2]) rfl ?_
  refine rest_set (d := 3) (v := .int .i64 ((m : Nat) : Int)) (w' := w5) rfl rfl rfl rfl ?_
  simp only [Act.put, sa, sz, ss]
  refine rest_nil (then_normal (wp_seq ?_))
  refine (walk_seq) 4 [.quiet (.slice a.p a.n a.cp), .quiet (.slice b.p b.n b.cp), .quiet (.int .i64 ((n : Nat) : Int)), .born (fun g => .tuple #[.slice (some ⟨g, 0, none⟩) n n, .int .i64 0]) (ints .u8 (xpd (kf a.f a.n) b.f b.n) n)] (fun u' => Mm u' [(0, ints .u32 fT 8), (1, ints .u32 kT 64)] ∧ (a.rs u' ∧ b.rs u')) ?pre6 ?F6 ?hpre6 (fun γ => ?hF6) (by kernel_rfl) ?hL6 ?hS6 ?ho6 ?he6
  case hpre6 => simp only [tk, tz]; rfl
  case hF6 => simp only [fill, Kind.val, Act.put, sa, sz, ss]; rfl
  case hL6 => exact trivial
  case hS6 => exact fun w' hb => ⟨H5.out.1.below hb, ⟨RA.out.below (H5.out.2.trans (hb.mono H5.out.2.size)), RB.out.below (H5.out.2.trans (hb.mono H5.out.2.size))⟩⟩
  case ho6 =>
    refine ak (fun _ => ⟨rfl, fun _ _ => rfl⟩) ?_
    refine ak (fun _ => ⟨rfl, fun _ _ => rfl⟩) ?_
    refine ak (fun _ => ⟨rfl, fun _ _ => rfl⟩) ?_
    refine ak (fun γ => ⟨rfl, fun w' hX => have h := hX.1; ⟨37, #[.slice a.p a.n a.cp, .slice b.p b.n b.cp, .int .i64 ((n : Nat) : Int)], exec_call rfl call37 rfl (mpn rfl), Expand_ok a b n ha hb (by omega) (by omega) (by omega) w' (h.two 0 1 rfl rfl (by decide)) hX.2.1 hX.2.2⟩⟩) ?_
    exact trivial
  intro γ w6 l hM hl
  have H6 : Hid (Mm w6 [(γ 3, ints .u8 (xpd (kf a.f a.n) b.f b.n) n), (0, ints .u32 fT 8), (1, ints .u32 kT 64)] ∧ _) := growB H5 hM (Nat.le_refl _) hl [3] rfl (by decide)
  have o6_3 := ownB H5 hM (Nat.le_refl _) hl (i := 3) rfl
  clear hM hl l H5
  generalize γ 3 = γ6_3 at H6 o6_3 ⊢
  clear γ
  refine rest_at (l := [4, 5, 6, 7, 8]) rfl ?_
  refine rest_set (d := 29) (v := .tuple #[.slice (some ⟨γ6_3, 0, none⟩) n n, .int .i64 0]) (w' := w6) rfl rfl rfl rfl ?_
  simp only [Act.put, sa, sz, ss]
  refine rest_set (d := 34) (v := .slice (some ⟨γ6_3, 0, none⟩) n n) (w' := w6) rfl rfl rfl (by go_simp) ?_
  simp only [Act.put, sa, sz, ss]
  refine rest_set (d := 35) (v := .int .i64 0) (w' := w6) rfl rfl rfl (by go_simp) ?_
  simp only [Act.put, sa, sz, ss]
  refine rest_set (d := 10) (v := .slice (some ⟨γ6_3, 0, none⟩) n n) (w' := w6) rfl rfl rfl rfl ?_
  simp only [Act.put, sa, sz, ss]
  refine rest_set (d := 11) (v := .int .i64 0) (w' := w6) rfl rfl rfl rfl ?_
  simp only [Act.put, sa, sz, ss]
  refine rest_nil (then_normal (wp_seq ?_))
  refine (walk_seq) 6 [.quiet (.slice a.p a.n a.cp), .quiet (.slice b.p b.n b.cp), .quiet (.int .i64 ((n : Nat) : Int)), .quiet (.int .i64 ((m : Nat) : Int)), .quiet (.int .i64 ((n + m : Nat) : Int)), .born (fun g => .tuple #[.slice (some ⟨g, 0, none⟩) (n + m) (n + m), .int .i64 0]) (ints .u8 (xpd (kf a.f a.n) b.f b.n) (n + m))] (fun u' => Mm u' [(γ6_3, ints .u8 (xpd (kf a.f a.n) b.f b.n) n), (0, ints .u32 fT 8), (1, ints .u32 kT 64)] ∧ (a.rs u' ∧ b.rs u')) ?pre7 ?F7 ?hpre7 (fun γ => ?hF7) (by kernel_rfl) ?hL7 ?hS7 ?ho7 ?he7
  case hpre7 => simp only [tk, tz]; rfl
  case hF7 => simp only [fill, Kind.val, Act.put, sa, sz, ss]; rfl
  case hL7 => exact trivial
  case hS7 => exact fun w' hb => ⟨H6.out.1.below hb, ⟨RA.out.below (H6.out.2.trans (hb.mono H6.out.2.size)), RB.out.below (H6.out.2.trans (hb.mono H6.out.2.size))⟩⟩
  case ho7 =>
    refine ak (fun _ => ⟨rfl, fun _ _ => rfl⟩) ?_
    refine ak (fun _ => ⟨rfl, fun _ _ => rfl⟩) ?_
    refine ak (fun _ => ⟨rfl, fun _ _ => rfl⟩) ?_
    refine ak (fun _ => ⟨rfl, fun _ _ => rfl⟩) ?_
    refine ak (by refine fun γ => ⟨rfl, fun w' h => ?_⟩; clear h; go_simp; rw [IntKind.wrap_i64]; omega) ?_
    refine ak (fun γ => ⟨rfl, fun w' hX => have h := hX.1; ⟨37, #[.slice a.p a.n a.cp, .slice b.p b.n b.cp, .int .i64 ((n + m : Nat) : Int)], exec_call rfl call37 rfl (mpn rfl), Expand_ok a b (n + m) ha hb (by omega) (by omega) (by omega) w' (h.two 1 2 rfl rfl (by decide)) hX.2.1 hX.2.2⟩⟩) ?_
    exact trivial
  intro γ w7 l hM hl
  have H7 : Hid (Mm w7 [(γ 5, ints .u8 (xpd (kf a.f a.n) b.f b.n) (n + m)), (γ6_3, ints .u8 (xpd (kf a.f a.n) b.f b.n) n), (0, ints .u32 fT 8), (1, ints .u32 kT 64)] ∧ _) := growB H6 hM (Nat.le_refl _) hl [5] rfl (by decide)
  have o7_5 := ownB H6 hM (Nat.le_refl _) hl (i := 5) rfl
  clear hM hl l H6
  generalize γ 5 = γ7_5 at H7 o7_5 ⊢
  clear γ
  refine rest_at (l := [6, 7, 8, 9, 10]) rfl ?_
  refine rest_set (d := 36) (v := .tuple #[.slice (some ⟨γ7_5, 0, none⟩) (n + m) (n + m), .int .i64 0]) (w' := w7) rfl rfl rfl rfl ?_
  simp only [Act.put, sa, sz, ss]
  refine rest_set (d := 43) (v := .slice (some ⟨γ7_5, 0, none⟩) (n + m) (n + m)) (w' := w7) rfl rfl rfl (by go_simp) ?_
  simp only [Act.put, sa, sz, ss]
  refine rest_set (d := 44) (v := .int .i64 0) (w' := w7) rfl rfl rfl (by go_simp) ?_
  simp only [Act.put, sa, sz, ss]
  refine rest_set (d := 12) (v := .slice (some ⟨γ7_5, 0, none⟩) (n + m) (n + m)) (w' := w7) rfl rfl rfl rfl ?_
  simp only [Act.put, sa, sz, ss]
  refine rest_set (d := 13) (v := .int .i64 0) (w' := w7) rfl rfl rfl rfl ?_
  simp only [Act.put, sa, sz, ss]
  refine rest_nil (then_normal ?_)
  refine wp_seq (wp_seq ?_)
  refine walk_seqB 28 [.quiet (.int .i64 0), .quiet (.bool false), .quiet (.bool false), .quiet (.int .i64 0), .quiet (.bool false), .quiet (.bool false), .quiet (.bool false), .quiet (.slice (some ⟨γ6_3, 0, none⟩) n n), .quiet (.int .i64 ((n : Nat) : Int)), .quiet (.int .i64 ((n : Nat) : Int)), .quiet (.bool false), .quiet (.bool false), .quiet (.bool false), .quiet (.slice (some ⟨γ7_5, 0, none⟩) (n + m) (n + m)), .quiet (.int .i64 (((n + m) : Nat) : Int)), .quiet (.int .i64 ((n : Nat) : Int)), .quiet (.int .i64 ((m : Nat) : Int)), .quiet (.int .i64 ((n + m : Nat) : Int)), .quiet (.bool false), .quiet (.bool false), .quiet (.bool false), .quiet (.slice (some ⟨γ6_3, 0, none⟩) n n), .quiet (.slice (some ⟨γ7_5, 0, none⟩) (n + m) (n + m)), .quiet (.int .i64 ((n : Nat) : Int)), .quiet (.slice (some ⟨γ7_5, 0, none⟩) n (n + m)), .call (.bool true), .quiet (.bool false), .quiet (.bool false)] H7 ?ho8 ?he8 (hL := ?hL8)
  case hL8 => exact trivial
  case ho8 => exact ak (fun _ => ⟨rfl, fun _ _ => rfl⟩) (ak (by refine fun γ => ⟨rfl, fun w' h => ?_⟩; clear h; go_simp) (ak (fun _ => ⟨rfl, fun _ _ => rfl⟩) (ak (fun _ => ⟨rfl, fun _ _ => rfl⟩) (ak (by refine fun γ => ⟨rfl, fun w' h => ?_⟩; clear h; go_simp) (ak (by refine fun γ => ⟨rfl, fun w' h => ?_⟩; clear h; go_simp) (ak (fun _ => ⟨rfl, fun _ _ => rfl⟩) (ak (fun _ => ⟨rfl, fun _ _ => rfl⟩) (ak (by refine fun γ => ⟨rfl, fun w' h => ?_⟩; clear h; go_simp) (ak (fun _ => ⟨rfl, fun _ _ => rfl⟩) (ak (by refine fun γ => ⟨rfl, fun w' h => ?_⟩; clear h; go_simp <;> omega) (ak (by refine fun γ => ⟨rfl, fun w' h => ?_⟩; clear h; go_simp) (ak (fun _ => ⟨rfl, fun _ _ => rfl⟩) (ak (fun _ => ⟨rfl, fun _ _ => rfl⟩) (ak (by refine fun γ => ⟨rfl, fun w' h => ?_⟩; clear h; go_simp) (ak (fun _ => ⟨rfl, fun _ _ => rfl⟩) (ak (fun _ => ⟨rfl, fun _ _ => rfl⟩) (ak (by refine fun γ => ⟨rfl, fun w' h => ?_⟩; clear h; go_simp; rw [IntKind.wrap_i64]; omega) (ak (by refine fun γ => ⟨rfl, fun w' h => ?_⟩; clear h; go_simp <;> omega) (ak (by refine fun γ => ⟨rfl, fun w' h => ?_⟩; clear h; go_simp) (ak (fun _ => ⟨rfl, fun _ _ => rfl⟩) (ak (fun _ => ⟨rfl, fun _ _ => rfl⟩) (ak (fun _ => ⟨rfl, fun _ _ => rfl⟩) (ak (fun _ => ⟨rfl, fun _ _ => rfl⟩) (ak (fun γ => ⟨rfl, fun w' _ => ex_slH22 (l := n) rfl rfl rfl (by omega)⟩) (ak (fun γ => ⟨rfl, fun w' h => ⟨36, #[.slice (some ⟨γ6_3, 0, none⟩) n n, .slice (some ⟨γ7_5, 0, none⟩) n (n + m)], exec_call rfl call36 rfl (mpn rfl), same_mm h 1 0 rfl rfl (by omega) (by omega) (by omega) (by omega)⟩⟩) (ak (by refine fun γ => ⟨rfl, fun w' h => ?_⟩; clear h; go_simp) (ak (by refine fun γ => ⟨rfl, fun w' h => ?_⟩; clear h; go_simp) trivial)))))))))))))))))))))))))))
  intro _ w8 H8
  clear H7
  refine rest0 rfl (then_normal (wp_cond_false rfl ?_))
  refine wp_skip (then_normal (wp_seq ?_))
  refine walk_seqB 1 [.quiet (.slice a.p a.n a.cp)] H8 ?ho9 ?he9
  case ho9 => exact ak (fun _ => ⟨rfl, fun _ _ => rfl⟩) trivial
  intro _ w9 H9
  clear H8
  refine rest_at (l := [1, 2, 3, 4]) rfl ?_
  refine rest_enter (d := 74) rfl rfl rfl (exec_call (args := #[.slice a.p a.n a.cp]) rfl call28 rfl (mpn rfl)) ((Calls.mono (copy_any a ha hN.out (by omega) w9 (RA.out.below H9.out.2)) (fun e w2 hh => by obtain ⟨v, B, he, hz⟩ := hh; exact ⟨_, he, B, hz⟩) : Calls Tryd.prog 28 #[.slice a.p a.n a.cp] w9 (fun e w' => ∃ v, e = .returned v ∧ (∃ B, Zo w9 B [] v a.n a.f w')))) ?_
  rintro vq w10 ⟨γb, hz⟩
  have H10 : Hid (Mm w10 [(γ7_5, ints .u8 (xpd (kf a.f a.n) b.f b.n) (n + m)), (γ6_3, ints .u8 (xpd (kf a.f a.n) b.f b.n) n), (0, ints .u32 fT 8), (1, ints .u32 kT 64)] ∧ Zo w γb [(γ7_5, ints .u8 (xpd (kf a.f a.n) b.f b.n) (n + m)), (γ6_3, ints .u8 (xpd (kf a.f a.n) b.f b.n) n), (0, ints .u32 fT 8), (1, ints .u32 kT 64)] vq a.n a.f w10) := ⟨(hz.lift H9.out.2 H9.out.1).m, hz.lift H9.out.2 H9.out.1⟩
  clear hz H9
  simp only [Act.put, sa, sz, ss]
  refine rest_set (d := 75) (v := .slice (some ⟨w10.heap.size, 0, none⟩) 1 1) (w' := (w10.alloc (.cells ([Z8 0] : List Value).toArray 5))) rfl rfl rfl (ex_bs1 (a := 0) rfl rfl) ?_
  simp only [Act.put, sa, sz, ss]
  have H11 : Hid (Mm (w10.alloc (.cells ([Z8 0] : List Value).toArray 5)) [(γ7_5, ints .u8 (xpd (kf a.f a.n) b.f b.n) (n + m)), (γ6_3, ints .u8 (xpd (kf a.f a.n) b.f b.n) n), (0, ints .u32 fT 8), (1, ints .u32 kT 64)] ∧ Zo w γb [(γ7_5, ints .u8 (xpd (kf a.f a.n) b.f b.n) (n + m)), (γ6_3, ints .u8 (xpd (kf a.f a.n) b.f b.n) n), (0, ints .u32 fT 8), (1, ints .u32 kT 64)] vq a.n a.f (w10.alloc (.cells ([Z8 0] : List Value).toArray 5))) := ⟨(Zo.step H10.out.2 ((Below.refl _ _).alloc (Nat.le_refl _) _)).m, Zo.step H10.out.2 ((Below.refl _ _).alloc (Nat.le_refl _) _)⟩
  have C1 : Hid _ := cell_one w10 0
  clear H10
  generalize hgw : (w10.alloc (.cells ([Z8 0] : List Value).toArray 5)) = w11 at H11 C1 ⊢
  clear hgw
  generalize w10.heap.size = γs1 at C1 ⊢
  obtain ⟨v12, w12, hr, hZ⟩ := H11.out.2.app (a := ⟨γs1, 0, none⟩) 1 1 (fun _ => 0) C1.out (by omega) 22
  refine rest_set (d := 76) (v := v12) (w' := w12) rfl rfl rfl (ex_app rfl rfl rfl hr) ?_
  simp only [Act.put, sa, sz, ss]
  have H12 : Hid (Mm w12 [(γ7_5, ints .u8 (xpd (kf a.f a.n) b.f b.n) (n + m)), (γ6_3, ints .u8 (xpd (kf a.f a.n) b.f b.n) n), (0, ints .u32 fT 8), (1, ints .u32 kT 64)] ∧ Zo w γb [(γ7_5, ints .u8 (xpd (kf a.f a.n) b.f b.n) (n + m)), (γ6_3, ints .u8 (xpd (kf a.f a.n) b.f b.n) n), (0, ints .u32 fT 8), (1, ints .u32 kT 64)] v12 (a.n + 1) (ct a.f a.n (fun _ => 0)) w12) := ⟨hZ.m, hZ⟩
  clear hr hZ C1 H11
  refine rest_set (d := 14) (v := v12) (w' := w12) rfl rfl rfl rfl ?_
  simp only [Act.put, sa, sz, ss]
  refine rest_nil ?_
  obtain ⟨g5, cap5, e5⟩ := H12.out.2.form (by omega)
  rw [e5] at H12 ⊢
  clear e5
  obtain ⟨x5, rfl⟩ : ∃ x, cap5 = a.n + 1 + x := ⟨cap5 - (a.n + 1), by have := H12.out.2.blk.2.2.1; omega⟩
  have o_g5 : Hid (w.heap.size ≤ g5) := Nat.le_trans H12.out.2.lo H12.out.2.blk.1
  have H13 : Hid (Mm w12 [(g5, ints .u8 (ct a.f a.n (fun _ => 0)) (a.n + 1)), (γ7_5, ints .u8 (xpd (kf a.f a.n) b.f b.n) (n + m)), (γ6_3, ints .u8 (xpd (kf a.f a.n) b.f b.n) n), (0, ints .u32 fT 8), (1, ints .u32 kT 64)] ∧ Below w.heap.size w w12) := ⟨H12.out.2.mm, H12.out.2.b⟩
  clear H12
  refine then_normal (wp_seq ?_)
  refine walk_seqB 16 [.quiet (.bool true), .quiet (.bool true), .quiet (.slice (some ⟨g5, 0, none⟩) (a.n + 1) (a.n + 1 + x5)), .quiet (.int .i64 (((a.n + 1) : Nat) : Int)), .quiet (.bool true), .quiet (.bool true), .gone, .gone, .gone, .gone, .gone, .gone, .gone, .quiet (.bool true), .quiet (.bool true), .quiet (.bool true)] H13 ?ho10 ?he10
  case ho10 => exact ak (fun _ => ⟨rfl, fun _ _ => rfl⟩) (ak (fun _ => ⟨rfl, fun _ _ => rfl⟩) (ak (fun _ => ⟨rfl, fun _ _ => rfl⟩) (ak (by refine fun γ => ⟨rfl, fun w' h => ?_⟩; clear h; go_simp) (ak (by refine fun γ => ⟨rfl, fun w' h => ?_⟩; clear h; go_simp <;> omega) (ak (fun _ => ⟨rfl, fun _ _ => rfl⟩) (ak (fun γ => rfl) (ak (fun γ => rfl) (ak (fun γ => rfl) (ak (fun γ => rfl) (ak (fun γ => rfl) (ak (fun γ => rfl) (ak (fun γ => rfl) (ak (by refine fun γ => ⟨rfl, fun w' h => ?_⟩; clear h; go_simp) (ak (by refine fun γ => ⟨rfl, fun w' h => ?_⟩; clear h; go_simp) (ak (fun _ => ⟨rfl, fun _ _ => rfl⟩) trivial)))))))))))))))
  intro _ w14 H14
  clear H13
  refine rest0 rfl (then_normal (wp_ret ?_))
  repeat (first | refine then_ret ?_ | refine block_ret ?_)
  refine bodyPost_ret (v := .bool true) (by simp [results, Tryd.results12, go_sem, *]) rfl ?_
  exact ⟨rfl, H14.out.2⟩
set_option maxHeartbeats 8000000 in
set_option maxRecDepth 100000 in
theorem begins_main (a b : Pt8) (z1 z2 : Int) (n m : Nat) (ha : Pok a) (hb : Pok b) (hN0 : a.p = none → a.cp = 0) (hz10 : pk z1 = n) (hz20 : pk z2 = m) (hn : n < 400) (hm' : m < 400) (hk : a.n ≤ 2000) (hl : b.n ≤ 2000) (h64 : a.n + 1 ≤ 64) (w : World) (hm : Mm w [(0, ints .u32 fT 8), (1, ints .u32 kT 64)]) (hRa : a.rs w) (hRb : b.rs w) :
    Calls Tryd.prog 12 #[.slice a.p a.n a.cp, .slice b.p b.n b.cp, .int .i64 z1, .int .i64 z2] w fun e w' => e = .returned (.bool true) ∧ Below w.heap.size w w' := by
  have H0 : Hid (_ ∧ _) := ⟨hm, Below.refl w.heap.size w⟩
  clear hm
  have RA : Hid (a.rs w) := hRa
  have RB : Hid (b.rs w) := hRb
  have hN : Hid _ := hN0
  have hz1 : Hid _ := hz10
  have hz2 : Hid _ := hz20
  clear hN0 hz10 hz20
  clear hRa hRb
  go_enter Tryd.func12, Tryd.ntmps12
  refine wp_seq ?_
  refine walk_seqB 1 [.quiet (.bool false)] H0 ?ho1 ?he1
  case ho1 => exact ak (fun _ => ⟨rfl, fun _ _ => rfl⟩) trivial
  intro _ w1 H1
  refine rest0 rfl (then_normal (wp_seq ?_))
  refine walk_seqB 2 [.call (.bool true), .quiet (.bool true)] H1 ?ho2 ?he2
  case ho2 => exact ak (fun γ => ⟨rfl, fun w' h => ⟨11, #[], exec_call rfl call11 rfl (mpn rfl), mknown_law w' (h.two 0 1 rfl rfl (by decide))⟩⟩) (ak (fun _ => ⟨rfl, fun _ _ => rfl⟩) trivial)
  intro _ w2 H2
  clear H1
  refine rest0 rfl (then_normal (wp_seq (wp_seq ?_)))
  refine walk_seqB 8 [.quiet (.slice a.p a.n a.cp), .quiet (.int .i64 ((a.n : Nat) : Int)), .quiet (.bool false), .quiet (.bool false), .quiet (.slice b.p b.n b.cp), .quiet (.int .i64 ((b.n : Nat) : Int)), .quiet (.bool false), .quiet (.bool false)] H2 ?ho3 ?he3
  case ho3 => exact ak (fun _ => ⟨rfl, fun _ _ => rfl⟩) (ak (by refine fun γ => ⟨rfl, fun w' h => ?_⟩; clear h; go_simp) (ak (by refine fun γ => ⟨rfl, fun w' h => ?_⟩; clear h; go_simp <;> omega) (ak (fun _ => ⟨rfl, fun _ _ => rfl⟩) (ak (fun _ => ⟨rfl, fun _ _ => rfl⟩) (ak (by refine fun γ => ⟨rfl, fun w' h => ?_⟩; clear h; go_simp) (ak (by refine fun γ => ⟨rfl, fun w' h => ?_⟩; clear h; go_simp <;> omega) (ak (by refine fun γ => ⟨rfl, fun w' h => ?_⟩; clear h; go_simp) trivial)))))))
  intro _ w3 H3
  clear H2
  refine rest0 rfl (then_normal (wp_cond_false rfl ?_))
  refine wp_skip (then_normal (wp_seq ?_))
  refine walk_seqB 2 [.quiet (.int .i64 z1), .call (.int .i64 ((n : Nat) : Int))] H3 ?ho4 ?he4
  case ho4 => exact ak (fun _ => ⟨rfl, fun _ _ => rfl⟩) (ak (fun γ => ⟨rfl, fun w' h => ⟨43, #[.int .i64 z1, .int .i64 400], exec_call rfl call43 rfl (mpn rfl), Pick_any z1 n hz1.out w'⟩⟩) trivial)
  intro _ w4 H4
  clear H3
  refine rest_at (l := [2]) rfl ?_
  refine rest_set (d := 2) (v := .int .i64 ((n : Nat) : Int)) (w' := w4) rfl rfl rfl rfl ?_
  simp only [Act.put, sa, sz, ss]
  refine rest_nil (then_normal (wp_seq ?_))
  refine walk_seqB 2 [.quiet (.int .i64 z2), .call (.int .i64 ((m : Nat) : Int))] H4 ?ho5 ?he5
  case ho5 => exact ak (fun _ => ⟨rfl, fun _ _ => rfl⟩) (ak (fun γ => ⟨rfl, fun w' h => ⟨43, #[.int .i64 z2, .int .i64 400], exec_call rfl call43 rfl (mpn rfl), Pick_any z2 m hz2.out w'⟩⟩) trivial)
  intro _ w5 H5
  clear H4
  refine rest_at (l := [2]) rfl ?_
  refine rest_set (d := 3) (v := .int .i64 ((m : Nat) : Int)) (w' := w5) rfl rfl rfl rfl ?_
  simp only [Act.put, sa, sz, ss]
  refine rest_nil (then_normal (wp_seq ?_))
  refine (walk_seq) 4 [.quiet (.slice a.p a.n a.cp), .quiet (.slice b.p b.n b.cp), .quiet (.int .i64 ((n : Nat) : Int)), .born (fun g => .tuple #[.slice (some ⟨g, 0, none⟩) n n, .int .i64 0]) (ints .u8 (xpd (kf a.f a.n) b.f b.n) n)] (fun u' => Mm u' [(0, ints .u32 fT 8), (1, ints .u32 kT 64)] ∧ (a.rs u' ∧ b.rs u')) ?pre6 ?F6 ?hpre6 (fun γ => ?hF6) (by kernel_rfl) ?hL6 ?hS6 ?ho6 ?he6
  case hpre6 => simp only [tk, tz]; rfl
  case hF6 => simp only [fill, Kind.val, Act.put, sa, sz, ss]; rfl
  case hL6 => exact trivial
  case hS6 => exact fun w' hb => ⟨H5.out.1.below hb, ⟨RA.out.below (H5.out.2.trans (hb.mono H5.out.2.size)), RB.out.below (H5.out.2.trans (hb.mono H5.out.2.size))⟩⟩
  case ho6 =>
    refine ak (fun _ => ⟨rfl, fun _ _ => rfl⟩) ?_
    refine ak (fun _ => ⟨rfl, fun _ _ => rfl⟩) ?_
    refine ak (fun _ => ⟨rfl, fun _ _ => rfl⟩) ?_
    refine ak (fun γ => ⟨rfl, fun w' hX => have h := hX.1; ⟨37, #[.slice a.p a.n a.cp, .slice b.p b.n b.cp, .int .i64 ((n : Nat) : Int)], exec_call rfl call37 rfl (mpn rfl), Expand_ok a b n ha hb (by omega) (by omega) (by omega) w' (h.two 0 1 rfl rfl (by decide)) hX.2.1 hX.2.2⟩⟩) ?_
    exact trivial
  intro γ w6 l hM hl
  have H6 : Hid (Mm w6 [(γ 3, ints .u8 (xpd (kf a.f a.n) b.f b.n) n), (0, ints .u32 fT 8), (1, ints .u32 kT 64)] ∧ _) := growB H5 hM (Nat.le_refl _) hl [3] rfl (by decide)
  have o6_3 := ownB H5 hM (Nat.le_refl _) hl (i := 3) rfl
  clear hM hl l H5
  generalize γ 3 = γ6_3 at H6 o6_3 ⊢
  clear γ
  refine rest_at (l := [4, 5, 6, 7, 8]) rfl ?_
  refine rest_set (d := 29) (v := .tuple #[.slice (some ⟨γ6_3, 0, none⟩) n n, .int .i64 0]) (w' := w6) rfl rfl rfl rfl ?_
  simp only [Act.put, sa, sz, ss]
  refine rest_set (d := 34) (v := .slice (some ⟨γ6_3, 0, none⟩) n n) (w' := w6) rfl rfl rfl (by go_simp) ?_
  simp only [Act.put, sa, sz, ss]
  refine rest_set (d := 35) (v := .int .i64 0) (w' := w6) rfl rfl rfl (by go_simp) ?_
  simp only [Act.put, sa, sz, ss]
  refine rest_set (d := 10) (v := .slice (some ⟨γ6_3, 0, none⟩) n n) (w' := w6) rfl rfl rfl rfl ?_
  simp only [Act.put, sa, sz, ss]
  refine rest_set (d := 11) (v := .int .i64 0) (w' := w6) rfl rfl rfl rfl ?_
  simp only [Act.put, sa, sz, ss]
  refine rest_nil (then_normal (wp_seq ?_))
  refine (walk_seq) 6 [.quiet (.slice a.p a.n a.cp), .quiet (.slice b.p b.n b.cp), .quiet (.int .i64 ((n : Nat) : Int)), .quiet (.int .i64 ((m : Nat) : Int)), .quiet (.int .i64 ((n + m : Nat) : Int)), .born (fun g => .tuple #[.slice (some ⟨g, 0, none⟩) (n + m) (n + m), .int .i64 0]) (ints .u8 (xpd (kf a.f a.n) b.f b.n) (n + m))] (fun u' => Mm u' [(γ6_3, ints .u8 (xpd (kf a.f a.n) b.f b.n) n), (0, ints .u32 fT 8), (1, ints .u32 kT 64)] ∧ (a.rs u' ∧ b.rs u')) ?pre7 ?F7 ?hpre7 (fun γ => ?hF7) (by kernel_rfl) ?hL7 ?hS7 ?ho7 ?he7
  case hpre7 => simp only [tk, tz]; rfl
  case hF7 => simp only [fill, Kind.val, Act.put, sa, sz, ss]; rfl
  case hL7 => exact trivial
  case hS7 => exact fun w' hb => ⟨H6.out.1.below hb, ⟨RA.out.below (H6.out.2.trans (hb.mono H6.out.2.size)), RB.out.below (H6.out.2.trans (hb.mono H6.out.2.size))⟩⟩
  case ho7 =>
    refine ak (fun _ => ⟨rfl, fun _ _ => rfl⟩) ?_
    refine ak (fun _ => ⟨rfl, fun _ _ => rfl⟩) ?_
    refine ak (fun _ => ⟨rfl, fun _ _ => rfl⟩) ?_
    refine ak (fun _ => ⟨rfl, fun _ _ => rfl⟩) ?_
    refine ak (by refine fun γ => ⟨rfl, fun w' h => ?_⟩; clear h; go_simp; rw [IntKind.wrap_i64]; omega) ?_
    refine ak (fun γ => ⟨rfl, fun w' hX => have h := hX.1; ⟨37, #[.slice a.p a.n a.cp, .slice b.p b.n b.cp, .int .i64 ((n + m : Nat) : Int)], exec_call rfl call37 rfl (mpn rfl), Expand_ok a b (n + m) ha hb (by omega) (by omega) (by omega) w' (h.two 1 2 rfl rfl (by decide)) hX.2.1 hX.2.2⟩⟩) ?_
    exact trivial
  intro γ w7 l hM hl
  have H7 : Hid (Mm w7 [(γ 5, ints .u8 (xpd (kf a.f a.n) b.f b.n) (n + m)), (γ6_3, ints .u8 (xpd (kf a.f a.n) b.f b.n) n), (0, ints .u32 fT 8), (1, ints .u32 kT 64)] ∧ _) := growB H6 hM (Nat.le_refl _) hl [5] rfl (by decide)
  have o7_5 := ownB H6 hM (Nat.le_refl _) hl (i := 5) rfl
  clear hM hl l H6
  generalize γ 5 = γ7_5 at H7 o7_5 ⊢
  clear γ
  refine rest_at (l := [6, 7, 8, 9, 10]) rfl ?_
  refine rest_set (d := 36) (v := .tuple #[.slice (some ⟨γ7_5, 0, none⟩) (n + m) (n + m), .int .i64 0]) (w' := w7) rfl rfl rfl rfl ?_
  simp only [Act.put, sa, sz, ss]
  refine rest_set (d := 43) (v := .slice (some ⟨γ7_5, 0, none⟩) (n + m) (n + m)) (w' := w7) rfl rfl rfl (by go_simp) ?_
  simp only [Act.put, sa, sz, ss]
  refine rest_set (d := 44) (v := .int .i64 0) (w' := w7) rfl rfl rfl (by go_simp) ?_
  simp only [Act.put, sa, sz, ss]
  refine rest_set (d := 12) (v := .slice (some ⟨γ7_5, 0, none⟩) (n + m) (n + m)) (w' := w7) rfl rfl rfl rfl ?_
  simp only [Act.put, sa, sz, ss]
  refine rest_set (d := 13) (v := .int .i64 0) (w' := w7) rfl rfl rfl rfl ?_
  simp only [Act.put, sa, sz, ss]
  refine rest_nil (then_normal ?_)
  refine wp_seq (wp_seq ?_)
  refine walk_seqB 28 [.quiet (.int .i64 0), .quiet (.bool false), .quiet (.bool false), .quiet (.int .i64 0), .quiet (.bool false), .quiet (.bool false), .quiet (.bool false), .quiet (.slice (some ⟨γ6_3, 0, none⟩) n n), .quiet (.int .i64 ((n : Nat) : Int)), .quiet (.int .i64 ((n : Nat) : Int)), .quiet (.bool false), .quiet (.bool false), .quiet (.bool false), .quiet (.slice (some ⟨γ7_5, 0, none⟩) (n + m) (n + m)), .quiet (.int .i64 (((n + m) : Nat) : Int)), .quiet (.int .i64 ((n : Nat) : Int)), .quiet (.int .i64 ((m : Nat) : Int)), .quiet (.int .i64 ((n + m : Nat) : Int)), .quiet (.bool false), .quiet (.bool false), .quiet (.bool false), .quiet (.slice (some ⟨γ6_3, 0, none⟩) n n), .quiet (.slice (some ⟨γ7_5, 0, none⟩) (n + m) (n + m)), .quiet (.int .i64 ((n : Nat) : Int)), .quiet (.slice (some ⟨γ7_5, 0, none⟩) n (n + m)), .call (.bool true), .quiet (.bool false), .quiet (.bool false)] H7 ?ho8 ?he8 (hL := ?hL8)
  case hL8 => exact trivial
  case ho8 => exact ak (fun _ => ⟨rfl, fun _ _ => rfl⟩) (ak (by refine fun γ => ⟨rfl, fun w' h => ?_⟩; clear h; go_simp) (ak (fun _ => ⟨rfl, fun _ _ => rfl⟩) (ak (fun _ => ⟨rfl, fun _ _ => rfl⟩) (ak (by refine fun γ => ⟨rfl, fun w' h => ?_⟩; clear h; go_simp) (ak (by refine fun γ => ⟨rfl, fun w' h => ?_⟩; clear h; go_simp) (ak (fun _ => ⟨rfl, fun _ _ => rfl⟩) (ak (fun _ => ⟨rfl, fun _ _ => rfl⟩) (ak (by refine fun γ => ⟨rfl, fun w' h => ?_⟩; clear h; go_simp) (ak (fun _ => ⟨rfl, fun _ _ => rfl⟩) (ak (by refine fun γ => ⟨rfl, fun w' h => ?_⟩; clear h; go_simp <;> omega) (ak (by refine fun γ => ⟨rfl, fun w' h => ?_⟩; clear h; go_simp) (ak (fun _ => ⟨rfl, fun _ _ => rfl⟩) (ak (fun _ => ⟨rfl, fun _ _ => rfl⟩) (ak (by refine fun γ => ⟨rfl, fun w' h => ?_⟩; clear h; go_simp) (ak (fun _ => ⟨rfl, fun _ _ => rfl⟩) (ak (fun _ => ⟨rfl, fun _ _ => rfl⟩) (ak (by refine fun γ => ⟨rfl, fun w' h => ?_⟩; clear h; go_simp; rw [IntKind.wrap_i64]; omega) (ak (by refine fun γ => ⟨rfl, fun w' h => ?_⟩; clear h; go_simp <;> omega) (ak (by refine fun γ => ⟨rfl, fun w' h => ?_⟩; clear h; go_simp) (ak (fun _ => ⟨rfl, fun _ _ => rfl⟩) (ak (fun _ => ⟨rfl, fun _ _ => rfl⟩) (ak (fun _ => ⟨rfl, fun _ _ => rfl⟩) (ak (fun _ => ⟨rfl, fun _ _ => rfl⟩) (ak (fun γ => ⟨rfl, fun w' _ => ex_slH22 (l := n) rfl rfl rfl (by omega)⟩) (ak (fun γ => ⟨rfl, fun w' h => ⟨36, #[.slice (some ⟨γ6_3, 0, none⟩) n n, .slice (some ⟨γ7_5, 0, none⟩) n (n + m)], exec_call rfl call36 rfl (mpn rfl), same_mm h 1 0 rfl rfl (by omega) (by omega) (by omega) (by omega)⟩⟩) (ak (by refine fun γ => ⟨rfl, fun w' h => ?_⟩; clear h; go_simp) (ak (by refine fun γ => ⟨rfl, fun w' h => ?_⟩; clear h; go_simp) trivial)))))))))))))))))))))))))))
  intro _ w8 H8
  clear H7
  refine rest0 rfl (then_normal (wp_cond_false rfl ?_))
  refine wp_skip (then_normal (wp_seq ?_))
  refine walk_seqB 1 [.quiet (.slice a.p a.n a.cp)] H8 ?ho9 ?he9
  case ho9 => exact ak (fun _ => ⟨rfl, fun _ _ => rfl⟩) trivial
  intro _ w9 H9
  clear H8
  refine rest_at (l := [1, 2, 3, 4]) rfl ?_
  refine rest_enter (d := 74) rfl rfl rfl (exec_call (args := #[.slice a.p a.n a.cp]) rfl call28 rfl (mpn rfl)) ((Calls.mono (copy_any a ha hN.out (by omega) w9 (RA.out.below H9.out.2)) (fun e w2 hh => by obtain ⟨v, B, he, hz⟩ := hh; exact ⟨_, he, B, hz⟩) : Calls Tryd.prog 28 #[.slice a.p a.n a.cp] w9 (fun e w' => ∃ v, e = .returned v ∧ (∃ B, Zo w9 B [] v a.n a.f w')))) ?_
  rintro vq w10 ⟨γb, hz⟩
  have H10 : Hid (Mm w10 [(γ7_5, ints .u8 (xpd (kf a.f a.n) b.f b.n) (n + m)), (γ6_3, ints .u8 (xpd (kf a.f a.n) b.f b.n) n), (0, ints .u32 fT 8), (1, ints .u32 kT 64)] ∧ Zo w γb [(γ7_5, ints .u8 (xpd (kf a.f a.n) b.f b.n) (n + m)), (γ6_3, ints .u8 (xpd (kf a.f a.n) b.f b.n) n), (0, ints .u32 fT 8), (1, ints .u32 kT 64)] vq a.n a.f w10) := ⟨(hz.lift H9.out.2 H9.out.1).m, hz.lift H9.out.2 H9.out.1⟩
  clear hz H9
  simp only [Act.put, sa, sz, ss]
  refine rest_set (d := 75) (v := .slice (some ⟨w10.heap.size, 0, none⟩) 1 1) (w' := (w10.alloc (.cells ([Z8 0] : List Value).toArray 5))) rfl rfl rfl (ex_bs1 (a := 0) rfl rfl) ?_
  simp only [Act.put, sa, sz, ss]
  have H11 : Hid (Mm (w10.alloc (.cells ([Z8 0] : List Value).toArray 5)) [(γ7_5, ints .u8 (xpd (kf a.f a.n) b.f b.n) (n + m)), (γ6_3, ints .u8 (xpd (kf a.f a.n) b.f b.n) n), (0, ints .u32 fT 8), (1, ints .u32 kT 64)] ∧ Zo w γb [(γ7_5, ints .u8 (xpd (kf a.f a.n) b.f b.n) (n + m)), (γ6_3, ints .u8 (xpd (kf a.f a.n) b.f b.n) n), (0, ints .u32 fT 8), (1, ints .u32 kT 64)] vq a.n a.f (w10.alloc (.cells ([Z8 0] : List Value).toArray 5))) := ⟨(Zo.step H10.out.2 ((Below.refl _ _).alloc (Nat.le_refl _) _)).m, Zo.step H10.out.2 ((Below.refl _ _).alloc (Nat.le_refl _) _)⟩
  have C1 : Hid _ := cell_one w10 0
  clear H10
  generalize hgw : (w10.alloc (.cells ([Z8 0] : List Value).toArray 5)) = w11 at H11 C1 ⊢
  clear hgw
  generalize w10.heap.size = γs1 at C1 ⊢
  obtain ⟨v12, w12, hr, hZ⟩ := H11.out.2.app (a := ⟨γs1, 0, none⟩) 1 1 (fun _ => 0) C1.out (by omega) 22
  refine rest_set (d := 76) (v := v12) (w' := w12) rfl rfl rfl (ex_app rfl rfl rfl hr) ?_
  simp only [Act.put, sa, sz, ss]
  have H12 : Hid (Mm w12 [(γ7_5, ints .u8 (xpd (kf a.f a.n) b.f b.n) (n + m)), (γ6_3, ints .u8 (xpd (kf a.f a.n) b.f b.n) n), (0, ints .u32 fT 8), (1, ints .u32 kT 64)] ∧ Zo w γb [(γ7_5, ints .u8 (xpd (kf a.f a.n) b.f b.n) (n + m)), (γ6_3, ints .u8 (xpd (kf a.f a.n) b.f b.n) n), (0, ints .u32 fT 8), (1, ints .u32 kT 64)] v12 (a.n + 1) (ct a.f a.n (fun _ => 0)) w12) := ⟨hZ.m, hZ⟩
  clear hr hZ C1 H11
  refine rest_set (d := 14) (v := v12) (w' := w12) rfl rfl rfl rfl ?_
  simp only [Act.put, sa, sz, ss]
  refine rest_nil ?_
  obtain ⟨g5, cap5, e5⟩ := H12.out.2.form (by omega)
  rw [e5] at H12 ⊢
  clear e5
  obtain ⟨x5, rfl⟩ : ∃ x, cap5 = a.n + 1 + x := ⟨cap5 - (a.n + 1), by have := H12.out.2.blk.2.2.1; omega⟩
  have o_g5 : Hid (w.heap.size ≤ g5) := Nat.le_trans H12.out.2.lo H12.out.2.blk.1
  have H13 : Hid (Mm w12 [(g5, ints .u8 (ct a.f a.n (fun _ => 0)) (a.n + 1)), (γ7_5, ints .u8 (xpd (kf a.f a.n) b.f b.n) (n + m)), (γ6_3, ints .u8 (xpd (kf a.f a.n) b.f b.n) n), (0, ints .u32 fT 8), (1, ints .u32 kT 64)] ∧ Below w.heap.size w w12) := ⟨H12.out.2.mm, H12.out.2.b⟩
  clear H12
  refine then_normal (wp_seq ?_)
  refine (walk_seq) 16 [.quiet (.bool true), .quiet (.bool true), .quiet (.slice (some ⟨g5, 0, none⟩) (a.n + 1) (a.n + 1 + x5)), .quiet (.int .i64 (((a.n + 1) : Nat) : Int)), .quiet (.bool false), .quiet (.bool false), .quiet (.slice (some ⟨g5, 0, none⟩) (a.n + 1) (a.n + 1 + x5)), .quiet (.slice b.p b.n b.cp), .call (.agg (ints .u8 (hmc (kf (ct a.f a.n (fun _ => 0)) (a.n + 1)) b.f b.n) 32).toArray), .quiet (.slice a.p a.n a.cp), .quiet (.slice b.p b.n b.cp), .call (.agg (ints .u8 (hmc (kf a.f a.n) b.f b.n) 32).toArray), .quiet (.bool true), .quiet (.bool true), .quiet (.bool true), .quiet (.bool true)] (fun u' => Mm u' [(g5, ints .u8 (ct a.f a.n (fun _ => 0)) (a.n + 1)), (γ7_5, ints .u8 (xpd (kf a.f a.n) b.f b.n) (n + m)), (γ6_3, ints .u8 (xpd (kf a.f a.n) b.f b.n) n), (0, ints .u32 fT 8), (1, ints .u32 kT 64)] ∧ (a.rs u' ∧ b.rs u')) ?pre10 ?F10 ?hpre10 (fun γ => ?hF10) (by kernel_rfl) ?hL10 ?hS10 ?ho10 ?he10
  case hpre10 => simp only [tk, tz]; rfl
  case hF10 => simp only [fill, Kind.val, Act.put, sa, sz, ss]; rfl
  case hL10 => exact trivial
  case hS10 => exact fun w' hb => ⟨H13.out.1.below hb, ⟨RA.out.below (H13.out.2.trans (hb.mono H13.out.2.size)), RB.out.below (H13.out.2.trans (hb.mono H13.out.2.size))⟩⟩
  case ho10 =>
    refine ak (fun _ => ⟨rfl, fun _ _ => rfl⟩) ?_
    refine ak (fun _ => ⟨rfl, fun _ _ => rfl⟩) ?_
    refine ak (fun _ => ⟨rfl, fun _ _ => rfl⟩) ?_
    refine ak (by refine fun γ => ⟨rfl, fun w' h => ?_⟩; clear h; go_simp) ?_
    refine ak (by refine fun γ => ⟨rfl, fun w' h => ?_⟩; clear h; go_simp <;> omega) ?_
    refine ak (fun _ => ⟨rfl, fun _ _ => rfl⟩) ?_
    refine ak (fun _ => ⟨rfl, fun _ _ => rfl⟩) ?_
    refine ak (fun _ => ⟨rfl, fun _ _ => rfl⟩) ?_
    refine ak (fun γ => ⟨rfl, fun w' hX => have h := hX.1; ⟨32, #[.slice (some ⟨g5, 0, none⟩) (a.n + 1) (a.n + 1 + x5), .slice b.p b.n b.cp], exec_call rfl call32 rfl (mpn rfl), Code_any (pc g5 (a.n + 1) (a.n + 1 + x5) (ct a.f a.n (fun _ => 0))) b (pc_ok _ _ _ _) hb (show a.n + 1 < 4611686018427387904 by omega) (by omega) w' (h.two 3 4 rfl rfl (by decide)) (h.rs 0 rfl (Nat.le_refl _)) hX.2.2⟩⟩) ?_
    refine ak (fun _ => ⟨rfl, fun _ _ => rfl⟩) ?_
    refine ak (fun _ => ⟨rfl, fun _ _ => rfl⟩) ?_
    refine ak (fun γ => ⟨rfl, fun w' hX => have h := hX.1; ⟨32, #[.slice a.p a.n a.cp, .slice b.p b.n b.cp], exec_call rfl call32 rfl (mpn rfl), Code_any a b ha hb (by omega) (by omega) w' (h.two 3 4 rfl rfl (by decide)) hX.2.1 hX.2.2⟩⟩) ?_
    refine ak (fun γ => ⟨rfl, fun w' _ => ex_eq25 (all_of (fun j _ => by rw [kf_pad a.f a.n (by omega)])) rfl rfl rfl⟩) ?_
    refine ak (by refine fun γ => ⟨rfl, fun w' h => ?_⟩; clear h; go_simp) ?_
    refine ak (by refine fun γ => ⟨rfl, fun w' h => ?_⟩; clear h; go_simp) ?_
    refine ak (fun _ => ⟨rfl, fun _ _ => rfl⟩) ?_
    exact trivial
  intro γ w14 l hM hl
  have H14 := keepB H13 hM.below
  clear hM hl l H13 γ
  refine rest0 rfl (then_normal (wp_ret ?_))
  repeat (first | refine then_ret ?_ | refine block_ret ?_)
  refine bodyPost_ret (v := .bool true) (by simp [results, Tryd.results12, go_sem, *]) rfl ?_
  exact ⟨rfl, H14.out.2⟩
/-- The part that a slice handed in is. -/
theorem bsl_part {w : World} {xs : List Int} {c : Nat} {v : Value} (hx : ∀ x ∈ xs, 0 ≤ x ∧ x < 256) (h : BSl w xs c v) (h0 : v = .slice none 0 0 ∨ ∃ a k c', v = .slice (some a) k c') :
    ∃ q : Pt8, v = .slice q.p q.n q.cp ∧ Pok q ∧ (q.p = none → q.cp = 0) ∧ q.rs w ∧ q.n = xs.length ∧ q.f = lf xs ∧ q.cp = c := by
  cases h using BSl.each with
  | full g o hg hc hcell =>
    refine ⟨⟨g, o, xs.length, c, some ⟨g, o, none⟩, lf xs⟩, rfl, ⟨Bv.start _ _ _ _, hc⟩, (fun e => by cases e), ⟨fun _ => hg, fun i hi => ?_⟩, rfl, rfl, rfl⟩
    rw [hcell i hi]
    have e := lf_int hx i
    show some (Value.int .u8 (xs.getD i 0)) = some (Value.int .u8 ((lf xs i : Nat) : Int))
    rw [e]
    unfold lent
    rw [if_pos hi]
  | void p hx' =>
    subst hx'
    refine ⟨⟨0, 0, 0, c, p, lf []⟩, rfl, ⟨Bv.void _ _ _ _ _, Nat.zero_le _⟩, fun e => ?_, Rs.void _ _ _ _, rfl, rfl, rfl⟩
    have e' : p = none := e
    subst e'
    rcases h0 with h0 | ⟨a, k, c', h0⟩
    · injection h0
    · injection h0 with h1
      cases h1
theorem begins_any (xs : List Int) (c : Nat) (v : Value) (hx : ∀ x ∈ xs, 0 ≤ x ∧ x < 256) (ys : List Int) (d : Nat) (u : Value) (hy : ∀ x ∈ ys, 0 ≤ x ∧ x < 256) (z1 z2 : Int) (w : World) (hm : Mm w [(0, ints .u32 fT 8), (1, ints .u32 kT 64)]) (h : BSl w xs c v) (h0 : v = .slice none 0 0 ∨ ∃ a k c', v = .slice (some a) k c') (k : BSl w ys d u) (k0 : u = .slice none 0 0 ∨ ∃ a k c', u = .slice (some a) k c') : Calls Tryd.prog 12 #[v, u, .int .i64 z1, .int .i64 z2] w fun e w' => e = .returned (.bool true) ∧ Below w.heap.size w w' := by
  obtain ⟨a, rfl, ha, hN, hRa, -⟩ := bsl_part hx h h0
  obtain ⟨b, rfl, hb, -, hRb, -⟩ := bsl_part hy k k0
  by_cases h1 : 2000 < a.n
  · exact begins_l1 a b z1 z2 h1 w hm hRa hRb
  · by_cases h2 : 2000 < b.n
    · exact begins_l2 a b z1 z2 (by omega) h2 w hm hRa hRb
    · by_cases h3 : 64 < a.n + 1
      · exact begins_big a b z1 z2 _ _ ha hb hN rfl rfl (pk_lt z1) (pk_lt z2) (by omega) (by omega) h3 w hm hRa hRb
      · exact begins_main a b z1 z2 _ _ ha hb hN rfl rfl (pk_lt z1) (pk_lt z2) (by omega) (by omega) (by omega) w hm hRa hRb
end Rg
end Go.Proofs.YtolflfjfegngnaaDoor
end
