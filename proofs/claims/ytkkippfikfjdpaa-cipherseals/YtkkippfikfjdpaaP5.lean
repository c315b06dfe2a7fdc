/- Texts of the proof, joined. -/
import Derived.Test.YtkkippfikfjdpaaP4
import Derived.Laws.Small
section
namespace Go.Proofs.Ytkkippfikfjdpaa
open Go.RowKit
namespace Rg
set_option maxRecDepth 100000
theorem nv_dg (n : Nat) : ∀ k, nv (dg n) k = n % 256 ^ k
  | 0 => by show 0 = n % 1; omega
  | k + 1 => by
    rw [nv_succ, nv_dg n k, Nat.pow_succ, Nat.mod_mul]
    show n % 256 ^ k + n / 256 ^ k % 256 * 256 ^ k = _
    rw [Nat.mul_comm]
theorem dg_zero : dg 0 = fun _ => 0 := by
  funext j
  unfold dg
  rw [Nat.zero_div]
/-- The first sixteen bytes of a key, with the bits off that must be. -/
def cl1 (K : Nat → Nat) (m j : Nat) : Nat := if j < 16 ∧ j % 4 = 3 ∧ j < 3 + 4 * m then K j % 16 else gr K 16 j
def clq (K : Nat → Nat) (m j : Nat) : Nat := if 4 ≤ j ∧ j < 4 + 4 * m ∧ j % 4 = 0 ∧ j < 16 then K j - K j % 4 else cl1 K 4 j
theorem cl1_zero (K : Nat → Nat) : cl1 K 0 = gr K 16 := by
  funext j
  unfold cl1
  rw [if_neg (by omega)]
theorem cl1_at (K : Nat → Nat) {m : Nat} (h : m < 4) : cl1 K m (3 + 4 * m) = K (3 + 4 * m) := by
  unfold cl1 gr
  rw [if_neg (by omega), if_pos (by omega)]
theorem cl1_set (K : Nat → Nat) {m : Nat} (h : m < 4) : up (cl1 K m) (3 + 4 * m) (cl1 K m (3 + 4 * m) % 16) = cl1 K (m + 1) := by
  rw [cl1_at K h]
  funext j
  unfold up cl1
  by_cases e : j = 3 + 4 * m
  · subst e
    rw [if_pos rfl, if_pos (by omega)]
  · rw [if_neg e]
    by_cases e2 : j < 16 ∧ j % 4 = 3 ∧ j < 3 + 4 * m
    · rw [if_pos e2, if_pos (by omega)]
    · rw [if_neg e2, if_neg (by omega)]
theorem cl_zero (K : Nat → Nat) : clq K 0 = cl1 K 4 := by
  funext j
  unfold clq
  rw [if_neg (by omega)]
theorem cl_at (K : Nat → Nat) {m : Nat} (h : m < 3) : clq K m (4 + 4 * m) = K (4 + 4 * m) := by
  unfold clq cl1 gr
  rw [if_neg (by omega), if_neg (by omega), if_pos (by omega)]
theorem cl_set (K : Nat → Nat) {m : Nat} (h : m < 3) : up (clq K m) (4 + 4 * m) (clq K m (4 + 4 * m) - clq K m (4 + 4 * m) % 4) = clq K (m + 1) := by
  rw [cl_at K h]
  funext j
  unfold up clq
  by_cases e : j = 4 + 4 * m
  · subst e
    rw [if_pos rfl, if_pos (by omega)]
  · rw [if_neg e]
    by_cases e2 : 4 ≤ j ∧ j < 4 + 4 * m ∧ j % 4 = 0 ∧ j < 16
    · rw [if_pos e2, if_pos (by omega)]
    · rw [if_neg e2, if_neg (by omega)]
theorem gr_lt {K : Nat → Nat} (h : ∀ j, K j < 256) (m j : Nat) : gr K m j < 256 := by
  unfold gr
  split
  · exact h j
  · decide
theorem cl1_lt {K : Nat → Nat} (h : ∀ j, K j < 256) (m j : Nat) : cl1 K m j < 256 := by
  unfold cl1
  split
  · have := h j; omega
  · exact gr_lt h 16 j
theorem cl_lt {K : Nat → Nat} (h : ∀ j, K j < 256) (m j : Nat) : clq K m j < 256 := by
  unfold clq
  split
  · have := h j; omega
  · exact cl1_lt h 4 j
/-- A block of the text, as a number. -/
def bl (n m : Nat) : Nat := min 16 (n - 16 * m)
def bv (P : Nat → Nat) (n m : Nat) : Nat := nv (fun i => P (16 * m + i)) (bl n m) + 256 ^ bl n m
def zt (A : Nat) (P : Nat → Nat) (n m j : Nat) : Nat := dg A j + (if j < bl n m then P (16 * m + j) else 0) + (if j = bl n m then 1 else 0)
theorem nv_at1 (l : Nat) {n : Nat} (h : l < n) : nv (fun j => if j = l then 1 else 0) n = 256 ^ l := by
  have e := nv_up (f := fun _ => 0) (j := l) (v := 1) h
  rw [nv_zero, Nat.zero_add, Nat.one_mul] at e
  rw [e, Nat.zero_add]
theorem bl_le (n m : Nat) : bl n m ≤ 16 := by unfold bl; omega
theorem nv_zt {A : Nat} (hA : A < 256 ^ 34) (P : Nat → Nat) (n m : Nat) : nv (zt A P n m) 34 = A + bv P n m := by
  have hb := bl_le n m
  have e1 : nv (zt A P n m) 34 = nv (dg A) 34 + nv (fun j => if j < bl n m then P (16 * m + j) else 0) 34 + nv (fun j => if j = bl n m then 1 else 0) 34 := by
    rw [← nv_add, ← nv_add]
    rfl
  rw [e1, nv_dg, Nat.mod_eq_of_lt hA, nv_at1 (bl n m) (by omega)]
  rw [nv_more (f := fun j => if j < bl n m then P (16 * m + j) else 0) (m := bl n m) (n := 34) (by omega) (fun i h1 _ => if_neg (by omega)), nv_cg (f := fun j => if j < bl n m then P (16 * m + j) else 0) (g := fun i => P (16 * m + i)) (bl n m) (fun i hi => if_pos hi)]
  unfold bv
  omega
theorem bv_le {P : Nat → Nat} (hP : ∀ j, P j < 256) (n m : Nat) : bv P n m ≤ 2 * 256 ^ 16 := by
  have h1 := nv_lt (f := fun i => P (16 * m + i)) (bl n m) (fun i _ => hP _)
  have h2 : 256 ^ bl n m ≤ 256 ^ 16 := Nat.pow_le_pow_right (by decide) (bl_le n m)
  unfold bv
  omega
/-- The number behind m blocks. -/
def tg (R : Nat) (P : Nat → Nat) (n : Nat) : Nat → Nat
  | 0 => 0
  | m + 1 => (tg R P n m + bv P n m) * R % P5
theorem tg_lt (R : Nat) (P : Nat → Nat) (n : Nat) : ∀ m, tg R P n m < P5
  | 0 => by show 0 < P5; decide
  | m + 1 => Nat.mod_lt _ (by decide)
theorem P5_lt : P5 < 256 ^ 17 := by decide
/-- The row while a block is added. -/
def ar (A : Nat) (P : Nat → Nat) (n m k j : Nat) : Nat := if j < k then dz (zt A P n m) j else dg A j
theorem ar_zero (A : Nat) (P : Nat → Nat) (n m : Nat) : ar A P n m 0 = dg A := by
  funext j
  unfold ar
  rw [if_neg (by omega)]
theorem ar_at (A : Nat) (P : Nat → Nat) (n m k : Nat) : ar A P n m k k = dg A k := by unfold ar; rw [if_neg (by omega)]
theorem ar_lt (A : Nat) (P : Nat → Nat) (n m k j : Nat) : ar A P n m k j < 256 := by
  unfold ar
  split
  · exact dz_lt _ _
  · exact dg_lt _ _
theorem ar_set {A : Nat} {P : Nat → Nat} {n m k x : Nat} (hx : x = cy (zt A P n m) k + zt A P n m k) : up (ar A P n m k) k (x % 256) = ar A P n m (k + 1) := by
  subst hx
  funext j
  unfold up ar
  by_cases h : j = k
  · subst h
    rw [if_pos rfl, if_pos (by omega)]
    rfl
  · rw [if_neg h]
    by_cases h2 : j < k
    · rw [if_pos h2, if_pos (by omega)]
    · rw [if_neg h2, if_neg (by omega)]
theorem ar_cy {A : Nat} {P : Nat → Nat} {n m k x : Nat} (hx : x = cy (zt A P n m) k + zt A P n m k) : x / 256 = cy (zt A P n m) (k + 1) := by
  subst hx
  rfl
theorem zt_a {A : Nat} {P : Nat → Nat} {n m k : Nat} (h : k < bl n m) : cy (zt A P n m) k + ar A P n m k k + P (16 * m + k) = cy (zt A P n m) k + zt A P n m k := by
  rw [ar_at]
  unfold zt
  rw [if_pos h, if_neg (by omega)]
  omega
theorem zt_b {A : Nat} {P : Nat → Nat} {n m k : Nat} (h : k = bl n m) : cy (zt A P n m) k + ar A P n m k k + 1 = cy (zt A P n m) k + zt A P n m k := by
  rw [ar_at]
  unfold zt
  rw [if_neg (by omega), if_pos h]
  omega
theorem zt_c {A : Nat} {P : Nat → Nat} {n m k : Nat} (h : ¬ k < bl n m) (h2 : ¬ k = bl n m) : cy (zt A P n m) k + ar A P n m k k = cy (zt A P n m) k + zt A P n m k := by
  rw [ar_at]
  unfold zt
  rw [if_neg h, if_neg h2]
  omega
theorem zt_le (A : Nat) {P : Nat → Nat} (hP : ∀ j, P j < 256) (n m j : Nat) : zt A P n m j ≤ 511 := by
  unfold zt
  have h1 := dg_lt A j
  have h2 := hP (16 * m + j)
  split <;> split <;> omega
theorem nv_ar {A : Nat} {P : Nat → Nat} (hA : A < P5) (hP : ∀ j, P j < 256) (n m : Nat) : nv (ar A P n m 34) 34 = A + bv P n m := by
  have h1 := P5_lt
  have h2 : (256 : Nat) ^ 17 + 2 * 256 ^ 16 < 256 ^ 34 := by decide
  have h3 := bv_le hP n m
  have e := nv_zt (A := A) (by omega) P n m
  rw [nv_cg (f := ar A P n m 34) (g := dz (zt A P n m)) 34 (fun i hi => if_pos hi), (dz_whole (by rw [e]; omega)).2, e]
/-- The tag's bytes. -/
def z2 (A : Nat) (K : Nat → Nat) (j : Nat) : Nat := dg A j + K (16 + j)
def tb (A : Nat) (K : Nat → Nat) : Nat → Nat := dz (z2 A K)
theorem z2_le (A : Nat) {K : Nat → Nat} (h : ∀ j, K j < 256) (j : Nat) : z2 A K j ≤ 510 := by
  unfold z2
  have h1 := dg_lt A j
  have h2 := h (16 + j)
  omega
theorem tb_at (A : Nat) (K : Nat → Nat) (k : Nat) : (cy (z2 A K) k + dg A k + K (16 + k)) % 256 % 256 = tb A K k := by
  rw [Nat.mod_mod]
  unfold tb dz z2
  rw [Nat.add_assoc]
theorem tb_cy (A : Nat) (K : Nat → Nat) (k : Nat) : (cy (z2 A K) k + dg A k + K (16 + k)) / 256 = cy (z2 A K) (k + 1) := by
  show _ = (cy (z2 A K) k + z2 A K k) / 256
  unfold z2
  rw [Nat.add_assoc]
section
variable {ρ : Operand → Value} {o : Oper} {x y : Operand} {a b : Nat} {w : World}
theorem ex_cv5_3 (h : a < 256) (ho : o.op = .convert 5 3 x) (hx : ρ x = Z8 a) : (execOp ρ o).run Try.prog w = .ok (.value (.int .i64 ((a : Nat) : Int))) w := by
  simp only [execOp, ho, hx]
  clear ho hx
  go_simp
  rw [IntKind.wrap_i64]
  omega
theorem ex_cv3_5 (ho : o.op = .convert 3 5 x) (hx : ρ x = .int .i64 ((a : Nat) : Int)) : (execOp ρ o).run Try.prog w = .ok (.value (Z8 (a % 256))) w := by
  simp only [execOp, ho, hx]
  clear ho hx
  go_simp
  simp [IntKind.wrap, IntKind.bits, IntKind.signed]
theorem ex_min3 (ho : o.op = .call { callee := .builtin .min, args := #[x, y], argTypes := #[3, 3] }) (hx : ρ x = .int .i64 ((a : Nat) : Int)) (hy : ρ y = .int .i64 ((b : Nat) : Int)) : (execOp ρ o).run Try.prog w = .ok (.value (.int .i64 ((min a b : Nat) : Int))) w := by
  simp only [execOp, ho]
  go_simp
  omega
end
end Rg
end Go.Proofs.Ytkkippfikfjdpaa
end
section
namespace Go.Proofs.Ytkkippfikfjdpaa
open Go.RowKit
namespace Rg
set_option maxRecDepth 100000
/-- Four numbers, as a row. -/
def qd (a b c d : Nat) (j : Nat) : Nat := [a, b, c, d].getD j 0
theorem cell_row (w : World) (f : Nat → Nat) (n : Nat) (j : Nat) (hj : j < n) : (w.alloc (.cells (ints .u8 f n).toArray 5)).cell? ((⟨w.heap.size, 0, none⟩ : Addr).add j) = some (Z8 (f j)) := by
  rw [show (⟨w.heap.size, 0, none⟩ : Addr).add j = ⟨w.heap.size, j, none⟩ by unfold Addr.add; split <;> simp_all]
  rw [World.cell?_alloc_at _ _ _ _ rfl, List.getElem?_toArray, ints_get .u8 f hj]
theorem ex_bsr1 {ρ : Operand → Value} {o : Oper} {w : World} {x0 : Operand} {a : Nat} (ho : o.op = .buildSlice 22 1 #[(0, x0)]) (h0 : ρ x0 = Z8 a) : (execOp ρ o).run Try.prog w = .ok (.value (.slice (some ⟨w.heap.size, 0, none⟩) 1 1)) (w.alloc (.cells (ints .u8 (fun _ => a) 1).toArray 5)) := by
  simp only [execOp, ho, List.map_toArray, List.map_cons, List.map_nil, h0]
  kernel_rfl
theorem ex_bsr4 {ρ : Operand → Value} {o : Oper} {w : World} {x0 x1 x2 x3 : Operand} {a b c d : Nat} (ho : o.op = .buildSlice 22 4 #[(0, x0), (1, x1), (2, x2), (3, x3)]) (h0 : ρ x0 = Z8 a) (h1 : ρ x1 = Z8 b) (h2 : ρ x2 = Z8 c) (h3 : ρ x3 = Z8 d) : (execOp ρ o).run Try.prog w = .ok (.value (.slice (some ⟨w.heap.size, 0, none⟩) 4 4)) (w.alloc (.cells (ints .u8 (qd a b c d) 4).toArray 5)) := by
  simp only [execOp, ho, List.map_toArray, List.map_cons, List.map_nil, h0, h1, h2, h3]
  kernel_rfl
theorem Zo.begin {w w1 : World} {l : List (Nat × List Value)} (P : Nat → Nat) (hm : Mm w1 l) (hb : Below w.heap.size w w1) : Zo w w1.heap.size l (.slice none 0 0) 0 P w1 :=
  ⟨hb, hb.size, Nat.le_refl _, hm, fun p hp => (hm.blk p hp).1, World.ownsRow_nil _ _ _ _⟩
theorem own_mono {w1 : World} {B B' n : Nat} {vv : Value} {xs : List Value} (h : w1.ownsRow B 5 1 vv n xs) (hB : B' ≤ B) : w1.ownsRow B' 5 1 vv n xs := by
  refine ⟨h.1, ?_⟩
  rcases h.2 with h1 | ⟨g, cap, cur, h1, h2, h3⟩
  · exact .inl h1
  · exact .inr ⟨g, cap, cur, h1, Nat.le_trans hB h2, h3⟩
/-- The sixteen numbers that a key, a counter and a nonce begin. -/
def kw : Nat → Nat := up (up (up (up (fun _ => 0) 0 1634760805) 1 857760878) 2 2036477234) 3 1797285236
def k1 (K : Nat → Nat) : Nat → Nat → Nat
  | 0 => kw
  | i + 1 => up (k1 K i) (4 + i) (fo K (4 * i))
def k3 (K N : Nat → Nat) (c : Nat) : Nat → Nat → Nat
  | 0 => up (k1 K 8) 12 c
  | i + 1 => up (k3 K N c i) (13 + i) (fo N (4 * i))
def ra (x : Nat → Nat) : Nat → Nat → Nat
  | 0 => x
  | k + 1 => qr (ra x k) k (k + 4) (k + 8) (k + 12)
def rb (x : Nat → Nat) : Nat → Nat → Nat
  | 0 => x
  | k + 1 => qr (rb x k) k (4 + ((k + 1) % 4)) (8 + ((k + 2) % 4)) (12 + ((k + 3) % 4))
/-- Double rounds. -/
def rr (x : Nat → Nat) : Nat → Nat → Nat
  | 0 => x
  | i + 1 => rb (ra (rr x i) 4) 4
/-- A number's bytes, the lowest first, four and four. -/
def by4 (y : Nat → Nat) (j : Nat) : Nat := sr (y (j / 4)) (8 * (j % 4)) % 256
def bn (K N : Nat → Nat) (c i : Nat) : Nat := ad (rr (k3 K N c 3) 10 i) (k3 K N c 3 i)
/-- The block of a key, a nonce, a counter. -/
def bk (K N : Nat → Nat) (c : Nat) : Nat → Nat := by4 (bn K N c)
theorem ct_four (y : Nat → Nat) (k : Nat) {n : Nat} (hn : n = y k) (j : Nat) (hj : j < 4 * (k + 1)) : ct (by4 y) (4 * k) (qd (n % 256) (sr n 8 % 256) (sr n 16 % 256) (sr n 24 % 256)) j = by4 y j := by
  unfold ct
  by_cases h : j < 4 * k
  · rw [if_pos h]
  · rw [if_neg h]
    subst hn
    have h4 : j / 4 = k := by omega
    unfold by4
    rw [h4]
    rcases (by omega : j % 4 = 0 ∨ j % 4 = 1 ∨ j % 4 = 2 ∨ j % 4 = 3) with e | e | e | e
    · rw [e, show j - 4 * k = 0 by omega]
      show y k % 256 = sr (y k) 0 % 256
      unfold sr
      rw [Nat.pow_zero, Nat.div_one]
    · rw [e, show j - 4 * k = 1 by omega]
      rfl
    · rw [e, show j - 4 * k = 2 by omega]
      rfl
    · rw [e, show j - 4 * k = 3 by omega]
      rfl
theorem call47 : ∀ args w, (callFunc 47 args).run Try.prog w = .ok (.enter 47 args) w := by intro args w; go_simp
theorem call48 : ∀ args w, (callFunc 48 args).run Try.prog w = .ok (.enter 48 args) w := by intro args w; go_simp
set_option maxHeartbeats 4000000 in
set_option maxRecDepth 100000 in
theorem block_any (K N : Nat → Nat) (gk ok ck gn on cn c : Nat) (w : World) (hRk : Rs gk ok 32 K w) (hRn : Rs gn on 12 N w) :
    Calls Try.prog 31 #[.slice (some ⟨gk, ok, none⟩) 32 ck, .slice (some ⟨gn, on, none⟩) 12 cn, W32 c] w fun e w' => Below w.heap.size w w' ∧ ∃ g cap, e = .returned (.slice (some ⟨g, 0, none⟩) 64 cap) ∧ w'.ownsRow w.heap.size 5 1 (.slice (some ⟨g, 0, none⟩) 64 cap) 64 (ints .u8 (bk K N c) 64) := by
  have H0 : Hid (_ ∧ _) := ⟨Mm.nil w, Below.refl w.heap.size w⟩
  have RK : Hid (Rs gk ok 32 K w) := hRk
  have RN : Hid (Rs gn on 12 N w) := hRn
  clear hRk hRn
  go_enter Try.func31, Try.ntmps31
  refine wp_seq ?_
  refine walk_seqB 1 [.quiet (.slice none 0 0)] H0 ?ho1 ?he1
  case ho1 => exact ak (fun _ => ⟨rfl, fun _ _ => rfl⟩) trivial
  intro _ w1 H1
  refine rest0 rfl (then_normal (wp_seq ?_))
  refine walk_seqA 1 [.made (ints .u32 (fun _ => 0) 16) 49] (sB H1) ?ho2 ?he2
  case ho2 => exact ak (fun γ => ⟨rfl, fun w' => ex_mk49 rfl⟩) trivial
  intro γ w2 l hM hl
  have H2 : Hid (Mm w2 [(γ 0, ints .u32 (fun _ => 0) 16)] ∧ _) := growB H1 hM (Nat.le_refl _) hl [0] rfl (by decide)
  have o2_0 := ownB H1 hM (Nat.le_refl _) hl (i := 0) rfl
  clear hM hl l H1
  generalize γ 0 = γ2_0 at H2 o2_0 ⊢
  clear γ
  refine rest0 rfl (then_normal (wp_seq ?_))
  refine walk_seqB 1 [.quiet (PT γ2_0 0)] H2 ?ho3 ?he3
  case ho3 => exact ak (fun γ => ⟨rfl, fun w' _ => ex_ix0_49 (j := 0) rfl rfl rfl (by decide)⟩) trivial
  intro _ w3 H3
  clear H2
  refine rest_at (l := [1]) rfl ?_
  refine rest_store rfl rfl rfl (ex_storeI (v := ((1634760805 : Nat) : Int)) H3.out.1 0 rfl rfl Try.sizeOf23 rfl rfl (by rw [ints_len]; decide)) ?_
  have H4 : Hid (Mm (w3.setCells γ2_0 0 ([W32 1634760805])) [(γ2_0, ints .u32 (up (fun _ => 0) 0 1634760805) 16)] ∧ Below w.heap.size w (w3.setCells γ2_0 0 ([W32 1634760805]))) := ⟨by
    have h := H3.out.1.put 0 (off := 0) (vs := [W32 1634760805]) rfl (by rw [ints_len]; simp only [List.length_cons, List.length_nil]; decide)
    rw [ints_patch _ _ _ _ (by decide)] at h
    exact h, below_setCells _ o2_0.out _ _ _ H3.out.2⟩
  clear H3
  generalize hgw : World.setCells _ _ _ _ = w4 at H4 ⊢
  clear hgw
  refine rest_nil (then_normal (wp_seq ?_))
  refine walk_seqB 1 [.quiet (PT γ2_0 1)] H4 ?ho4 ?he4
  case ho4 => exact ak (fun γ => ⟨rfl, fun w' _ => ex_ix0_49 (j := 1) rfl rfl rfl (by decide)⟩) trivial
  intro _ w5 H5
  clear H4
  refine rest_at (l := [1]) rfl ?_
  refine rest_store rfl rfl rfl (ex_storeI (v := ((857760878 : Nat) : Int)) H5.out.1 0 rfl rfl Try.sizeOf23 rfl rfl (by rw [ints_len]; decide)) ?_
  have H6 : Hid (Mm (w5.setCells γ2_0 1 ([W32 857760878])) [(γ2_0, ints .u32 (up (up (fun _ => 0) 0 1634760805) 1 857760878) 16)] ∧ Below w.heap.size w (w5.setCells γ2_0 1 ([W32 857760878]))) := ⟨by
    have h := H5.out.1.put 0 (off := 1) (vs := [W32 857760878]) rfl (by rw [ints_len]; simp only [List.length_cons, List.length_nil]; decide)
    rw [ints_patch _ _ _ _ (by decide)] at h
    exact h, below_setCells _ o2_0.out _ _ _ H5.out.2⟩
  clear H5
  generalize hgw : World.setCells _ _ _ _ = w6 at H6 ⊢
  clear hgw
  refine rest_nil (then_normal (wp_seq ?_))
  refine walk_seqB 1 [.quiet (PT γ2_0 2)] H6 ?ho5 ?he5
  case ho5 => exact ak (fun γ => ⟨rfl, fun w' _ => ex_ix0_49 (j := 2) rfl rfl rfl (by decide)⟩) trivial
  intro _ w7 H7
  clear H6
  refine rest_at (l := [1]) rfl ?_
  refine rest_store rfl rfl rfl (ex_storeI (v := ((2036477234 : Nat) : Int)) H7.out.1 0 rfl rfl Try.sizeOf23 rfl rfl (by rw [ints_len]; decide)) ?_
  have H8 : Hid (Mm (w7.setCells γ2_0 2 ([W32 2036477234])) [(γ2_0, ints .u32 (up (up (up (fun _ => 0) 0 1634760805) 1 857760878) 2 2036477234) 16)] ∧ Below w.heap.size w (w7.setCells γ2_0 2 ([W32 2036477234]))) := ⟨by
    have h := H7.out.1.put 0 (off := 2) (vs := [W32 2036477234]) rfl (by rw [ints_len]; simp only [List.length_cons, List.length_nil]; decide)
    rw [ints_patch _ _ _ _ (by decide)] at h
    exact h, below_setCells _ o2_0.out _ _ _ H7.out.2⟩
  clear H7
  generalize hgw : World.setCells _ _ _ _ = w8 at H8 ⊢
  clear hgw
  refine rest_nil (then_normal (wp_seq ?_))
  refine walk_seqB 1 [.quiet (PT γ2_0 3)] H8 ?ho6 ?he6
  case ho6 => exact ak (fun γ => ⟨rfl, fun w' _ => ex_ix0_49 (j := 3) rfl rfl rfl (by decide)⟩) trivial
  intro _ w9 H9
  clear H8
  refine rest_at (l := [1]) rfl ?_
  refine rest_store rfl rfl rfl (ex_storeI (v := ((1797285236 : Nat) : Int)) H9.out.1 0 rfl rfl Try.sizeOf23 rfl rfl (by rw [ints_len]; decide)) ?_
  have H10 : Hid (Mm (w9.setCells γ2_0 3 ([W32 1797285236])) [(γ2_0, ints .u32 kw 16)] ∧ Below w.heap.size w (w9.setCells γ2_0 3 ([W32 1797285236]))) := ⟨by
    have h := H9.out.1.put 0 (off := 3) (vs := [W32 1797285236]) rfl (by rw [ints_len]; simp only [List.length_cons, List.length_nil]; decide)
    rw [ints_patch _ _ _ _ (by decide), show ints .u32 (up (up (up (up (fun _ => 0) 0 1634760805) 1 857760878) 2 2036477234) 3 1797285236) 16 = ints .u32 kw 16 by rw [show (up (up (up (up (fun _ => 0) 0 1634760805) 1 857760878) 2 2036477234) 3 1797285236) = kw from rfl]] at h
    exact h, below_setCells _ o2_0.out _ _ _ H9.out.2⟩
  clear H9
  generalize hgw : World.setCells _ _ _ _ = w10 at H10 ⊢
  clear hgw
  refine rest_nil (then_normal ?_)
  refine wp_seq (wp_seq ?_)
  refine walk_seqB 1 [.quiet (.int .i64 0)] H10 ?ho7 ?he7
  case ho7 => exact ak (fun _ => ⟨rfl, fun _ _ => rfl⟩) trivial
  intro _ w11 H11
  clear H10
  refine rest0 rfl (then_normal (wp_block ?_))
  refine loop_ghost (α := Nat) (fun i0 a' w' => ∃ s0 : Nat → Value, a' = ⟨#[.slice (some ⟨gk, ok, none⟩) 32 ck, .slice (some ⟨gn, on, none⟩) 12 cn, W32 c, undef, undef, undef, .slice none 0 0, PT γ2_0 0, .int .i64 ((i0 : Nat) : Int), undef, undef, undef, undef, undef, undef, undef, undef, PT γ2_0 0, PT γ2_0 1, PT γ2_0 2, PT γ2_0 3, s0 21, s0 22, s0 23, s0 24, s0 25, s0 26, s0 27, s0 28, s0 29, s0 30, s0 31, undef, undef, undef, undef, undef, undef, undef, undef, undef, undef, undef, undef, undef, undef, undef, undef, undef, undef, undef, undef, undef, undef, undef, undef, undef, undef, undef, undef, undef, undef, undef, undef, undef, undef, undef, undef, undef, undef, undef, undef, undef, undef, undef, undef, undef, undef, undef, undef, undef, undef, undef, undef, undef, undef, undef, undef, undef, undef, undef, undef, undef, undef, undef, undef, undef, undef, undef, undef, undef, undef, undef, undef, undef, undef, undef, undef], []⟩ ∧ (Mm w' [(γ2_0, ints .u32 (k1 K i0) 16)] ∧ Below w.heap.size w w') ∧ i0 ≤ 8) (fun i0 => 8 - i0) 0 ?st0 ?rd0
  case st0 => exact ⟨(slotfn [undef, undef, undef, undef, undef, undef, undef, undef, undef, undef, undef, undef, undef, undef, undef, undef, undef, undef, undef, undef, undef, undef, undef, undef, undef, undef, undef, undef, undef, undef, undef, undef]), rfl, ⟨H11.out.1, H11.out.2⟩, by omega⟩
  intro i0 a' w12 hI
  obtain ⟨s0, rfl, hMB, hk0⟩ := hI
  have H12 : Hid (_ ∧ _) := hMB
  clear hMB H11
  by_cases hlti0 : i0 < 8
  · have hrd : True := trivial
    clear hrd
    refine wp_seq (wp_seq ?_)
    refine walk_seqB 2 [.quiet (.int .i64 ((i0 : Nat) : Int)), .quiet (.bool true)] H12 ?ho8 ?he8
    case ho8 => exact ak (fun _ => ⟨rfl, fun _ _ => rfl⟩) (ak (by refine fun γ => ⟨rfl, fun w' h => ?_⟩; clear h; go_simp <;> omega) trivial)
    intro _ w13 H13
    clear H12
    refine rest0 rfl (then_normal (wp_cond_true rfl ?_))
    refine wp_skip (then_normal ?_)
    refine wp_seq (wp_block ?_)
    refine (walk_seq) 7 [.quiet (.int .i64 ((i0 : Nat) : Int)), .quiet (.int .i64 ((4 + i0 : Nat) : Int)), .quiet (.slice (some ⟨gk, ok, none⟩) 32 ck), .quiet (.int .i64 ((i0 : Nat) : Int)), .quiet (.int .i64 ((4 * i0 : Nat) : Int)), .call (W32 (fo K (4 * i0))), .quiet (PT γ2_0 (4 + i0))] (fun u' => Mm u' [(γ2_0, ints .u32 (k1 K i0) 16)] ∧ (Rs gk ok 32 K u' ∧ Rs gn on 12 N u')) ?pre9 ?F9 ?hpre9 (fun γ => ?hF9) (by kernel_rfl) ?hL9 ?hS9 ?ho9 ?he9
    case hpre9 => simp only [tk, tz]; rfl
    case hF9 => simp only [fill, Kind.val, Act.put, sa, sz, ss]; rfl
    case hL9 => exact trivial
    case hS9 => exact fun w' hb => ⟨H13.out.1.below hb, ⟨RK.out.below (H13.out.2.trans (hb.mono H13.out.2.size)), RN.out.below (H13.out.2.trans (hb.mono H13.out.2.size))⟩⟩
    case ho9 =>
      refine ak (fun _ => ⟨rfl, fun _ _ => rfl⟩) ?_
      refine ak (by refine fun γ => ⟨rfl, fun w' h => ?_⟩; clear h; go_simp; rw [IntKind.wrap_i64]; omega) ?_
      refine ak (fun _ => ⟨rfl, fun _ _ => rfl⟩) ?_
      refine ak (fun _ => ⟨rfl, fun _ _ => rfl⟩) ?_
      refine ak (by refine fun γ => ⟨rfl, fun w' h => ?_⟩; clear h; go_simp; rw [IntKind.wrap_i64]; omega) ?_
      refine ak (fun γ => ⟨rfl, fun w' hX => ⟨47, #[.slice (some ⟨gk, ok, none⟩) 32 ck, .int .i64 ((4 * i0 : Nat) : Int)], exec_call rfl call47 rfl (mpn rfl), four_any K gk ok 32 ck (4 * i0) (by omega) (by decide) w' hX.2.1⟩⟩) ?_
      refine ak (fun γ => ⟨rfl, fun w' _ => ex_ix0_49 (j := 4 + i0) rfl rfl rfl (by omega)⟩) ?_
      exact trivial
    intro γ w14 l hM hl
    have H14 := keepB H13 hM.below
    clear hM hl l H13 γ
    refine rest_at (l := [7]) rfl ?_
    refine rest_store rfl rfl rfl (ex_storeI H14.out.1 0 rfl rfl Try.sizeOf23 rfl rfl (by rw [ints_len]; omega)) ?_
    have H15 : Hid (Mm (w14.setCells γ2_0 (4 + i0) ([W32 (fo K (4 * i0))])) [(γ2_0, ints .u32 (up (k1 K i0) (4 + i0) (fo K (4 * i0))) 16)] ∧ Below w.heap.size w (w14.setCells γ2_0 (4 + i0) ([W32 (fo K (4 * i0))]))) := ⟨by
      have h := H14.out.1.put 0 (off := 4 + i0) (vs := [W32 (fo K (4 * i0))]) rfl (by rw [ints_len]; simp only [List.length_cons, List.length_nil]; omega)
      rw [ints_patch _ _ _ _ (by omega)] at h
      exact h, below_setCells _ o2_0.out _ _ _ H14.out.2⟩
    clear H14
    generalize hgw : World.setCells _ _ _ _ = w15 at H15 ⊢
    clear hgw
    refine rest_nil (block_normal (then_normal ?_))
    refine walk_seqB 2 [.quiet (.int .i64 ((i0 : Nat) : Int)), .quiet (.int .i64 ((i0 + 1 : Nat) : Int))] H15 ?ho10 ?he10
    case ho10 => exact ak (fun _ => ⟨rfl, fun _ _ => rfl⟩) (ak (by refine fun γ => ⟨rfl, fun w' h => ?_⟩; clear h; go_simp; rw [IntKind.wrap_i64]; omega) trivial)
    intro _ w16 H16
    clear H15
    refine rest_at (l := [2]) rfl ?_
    refine rest_set (d := 8) (v := .int .i64 ((i0 + 1 : Nat) : Int)) (w' := w16) rfl rfl rfl rfl ?_
    simp only [Act.put, sa, sz, ss]
    refine rest_nil (then_normal ?_)
    exact ⟨i0 + 1, ⟨(slotfn [undef, undef, undef, undef, undef, undef, undef, undef, undef, undef, undef, undef, undef, undef, undef, undef, undef, undef, undef, undef, undef, .int .i64 ((i0 : Nat) : Int), .bool true, .int .i64 ((i0 : Nat) : Int), .int .i64 ((i0 + 1 : Nat) : Int), .int .i64 ((i0 : Nat) : Int), .int .i64 ((4 + i0 : Nat) : Int), .slice (some ⟨gk, ok, none⟩) 32 ck, .int .i64 ((i0 : Nat) : Int), .int .i64 ((4 * i0 : Nat) : Int), W32 (fo K (4 * i0)), PT γ2_0 (4 + i0)]), rfl, ⟨H16.out.1, H16.out.2⟩, by omega⟩, by omega⟩
  have hi0N : i0 = 8 := by omega
  subst hi0N
  refine wp_seq (wp_seq ?_)
  refine walk_seqB 2 [.quiet (.int .i64 ((8 : Nat) : Int)), .quiet (.bool false)] H12 ?ho11 ?he11
  case ho11 => exact ak (fun _ => ⟨rfl, fun _ _ => rfl⟩) (ak (by refine fun γ => ⟨rfl, fun w' h => ?_⟩; clear h; go_simp <;> omega) trivial)
  intro _ w17 H17
  clear H12
  refine rest0 rfl (then_normal (wp_cond_false rfl ?_))
  refine wp_exit ?_
  repeat refine then_exit ?_
  refine block_exit ?_
  refine then_normal (wp_seq ?_)
  refine walk_seqB 2 [.quiet (W32 c), .quiet (PT γ2_0 12)] H17 ?ho12 ?he12
  case ho12 => exact ak (fun _ => ⟨rfl, fun _ _ => rfl⟩) (ak (fun γ => ⟨rfl, fun w' _ => ex_ix0_49 (j := 12) rfl rfl rfl (by decide)⟩) trivial)
  intro _ w18 H18
  clear H17
  refine rest_at (l := [2]) rfl ?_
  refine rest_store rfl rfl rfl (ex_storeI H18.out.1 0 rfl rfl Try.sizeOf23 rfl rfl (by rw [ints_len]; decide)) ?_
  have H19 : Hid (Mm (w18.setCells γ2_0 12 ([W32 c])) [(γ2_0, ints .u32 (k3 K N c 0) 16)] ∧ Below w.heap.size w (w18.setCells γ2_0 12 ([W32 c]))) := ⟨by
    have h := H18.out.1.put 0 (off := 12) (vs := [W32 c]) rfl (by rw [ints_len]; simp only [List.length_cons, List.length_nil]; decide)
    rw [ints_patch _ _ _ _ (by decide), show ints .u32 (up (k1 K 8) 12 c) 16 = ints .u32 (k3 K N c 0) 16 by rw [show (up (k1 K 8) 12 c) = k3 K N c 0 from rfl]] at h
    exact h, below_setCells _ o2_0.out _ _ _ H18.out.2⟩
  clear H18
  generalize hgw : World.setCells _ _ _ _ = w19 at H19 ⊢
  clear hgw
  refine rest_nil (then_normal ?_)
  refine wp_seq (wp_seq ?_)
  refine walk_seqB 1 [.quiet (.int .i64 0)] H19 ?ho13 ?he13
  case ho13 => exact ak (fun _ => ⟨rfl, fun _ _ => rfl⟩) trivial
  intro _ w20 H20
  clear H19
  refine rest0 rfl (then_normal (wp_block ?_))
  refine loop_ghost (α := Nat) (fun i1 a' w' => ∃ s2 : Nat → Value, a' = ⟨#[.slice (some ⟨gk, ok, none⟩) 32 ck, .slice (some ⟨gn, on, none⟩) 12 cn, W32 c, undef, undef, undef, .slice none 0 0, PT γ2_0 0, .int .i64 ((8 : Nat) : Int), .int .i64 ((i1 : Nat) : Int), undef, undef, undef, undef, undef, undef, undef, PT γ2_0 0, PT γ2_0 1, PT γ2_0 2, PT γ2_0 3, .int .i64 ((8 : Nat) : Int), .bool false, s0 23, s0 24, s0 25, s0 26, s0 27, s0 28, s0 29, s0 30, s0 31, W32 c, PT γ2_0 12, s2 34, s2 35, s2 36, s2 37, s2 38, s2 39, s2 40, s2 41, s2 42, s2 43, s2 44, undef, undef, undef, undef, undef, undef, undef, undef, undef, undef, undef, undef, undef, undef, undef, undef, undef, undef, undef, undef, undef, undef, undef, undef, undef, undef, undef, undef, undef, undef, undef, undef, undef, undef, undef, undef, undef, undef, undef, undef, undef, undef, undef, undef, undef, undef, undef, undef, undef, undef, undef, undef, undef, undef, undef, undef, undef, undef, undef, undef, undef, undef, undef], []⟩ ∧ (Mm w' [(γ2_0, ints .u32 (k3 K N c i1) 16)] ∧ Below w.heap.size w w') ∧ i1 ≤ 3) (fun i1 => 3 - i1) 0 ?st2 ?rd2
  case st2 => exact ⟨(slotfn [undef, undef, undef, undef, undef, undef, undef, undef, undef, undef, undef, undef, undef, undef, undef, undef, undef, undef, undef, undef, undef, undef, undef, undef, undef, undef, undef, undef, undef, undef, undef, undef, undef, undef, undef, undef, undef, undef, undef, undef, undef, undef, undef, undef, undef]), rfl, ⟨H20.out.1, H20.out.2⟩, by omega⟩
  intro i1 a' w21 hI
  obtain ⟨s2, rfl, hMB, hk2⟩ := hI
  have H21 : Hid (_ ∧ _) := hMB
  clear hMB H20
  by_cases hlti1 : i1 < 3
  · have hrd : True := trivial
    clear hrd
    refine wp_seq (wp_seq ?_)
    refine walk_seqB 2 [.quiet (.int .i64 ((i1 : Nat) : Int)), .quiet (.bool true)] H21 ?ho14 ?he14
    case ho14 => exact ak (fun _ => ⟨rfl, fun _ _ => rfl⟩) (ak (by refine fun γ => ⟨rfl, fun w' h => ?_⟩; clear h; go_simp <;> omega) trivial)
    intro _ w22 H22
    clear H21
    refine rest0 rfl (then_normal (wp_cond_true rfl ?_))
    refine wp_skip (then_normal ?_)
    refine wp_seq (wp_block ?_)
    refine (walk_seq) 7 [.quiet (.int .i64 ((i1 : Nat) : Int)), .quiet (.int .i64 ((13 + i1 : Nat) : Int)), .quiet (.slice (some ⟨gn, on, none⟩) 12 cn), .quiet (.int .i64 ((i1 : Nat) : Int)), .quiet (.int .i64 ((4 * i1 : Nat) : Int)), .call (W32 (fo N (4 * i1))), .quiet (PT γ2_0 (13 + i1))] (fun u' => Mm u' [(γ2_0, ints .u32 (k3 K N c i1) 16)] ∧ (Rs gk ok 32 K u' ∧ Rs gn on 12 N u')) ?pre15 ?F15 ?hpre15 (fun γ => ?hF15) (by kernel_rfl) ?hL15 ?hS15 ?ho15 ?he15
    case hpre15 => simp only [tk, tz]; rfl
    case hF15 => simp only [fill, Kind.val, Act.put, sa, sz, ss]; rfl
    case hL15 => exact trivial
    case hS15 => exact fun w' hb => ⟨H22.out.1.below hb, ⟨RK.out.below (H22.out.2.trans (hb.mono H22.out.2.size)), RN.out.below (H22.out.2.trans (hb.mono H22.out.2.size))⟩⟩
    case ho15 =>
      refine ak (fun _ => ⟨rfl, fun _ _ => rfl⟩) ?_
      refine ak (by refine fun γ => ⟨rfl, fun w' h => ?_⟩; clear h; go_simp; rw [IntKind.wrap_i64]; omega) ?_
      refine ak (fun _ => ⟨rfl, fun _ _ => rfl⟩) ?_
      refine ak (fun _ => ⟨rfl, fun _ _ => rfl⟩) ?_
      refine ak (by refine fun γ => ⟨rfl, fun w' h => ?_⟩; clear h; go_simp; rw [IntKind.wrap_i64]; omega) ?_
      refine ak (fun γ => ⟨rfl, fun w' hX => ⟨47, #[.slice (some ⟨gn, on, none⟩) 12 cn, .int .i64 ((4 * i1 : Nat) : Int)], exec_call rfl call47 rfl (mpn rfl), four_any N gn on 12 cn (4 * i1) (by omega) (by decide) w' hX.2.2⟩⟩) ?_
      refine ak (fun γ => ⟨rfl, fun w' _ => ex_ix0_49 (j := 13 + i1) rfl rfl rfl (by omega)⟩) ?_
      exact trivial
    intro γ w23 l hM hl
    have H23 := keepB H22 hM.below
    clear hM hl l H22 γ
    refine rest_at (l := [7]) rfl ?_
    refine rest_store rfl rfl rfl (ex_storeI H23.out.1 0 rfl rfl Try.sizeOf23 rfl rfl (by rw [ints_len]; omega)) ?_
    have H24 : Hid (Mm (w23.setCells γ2_0 (13 + i1) ([W32 (fo N (4 * i1))])) [(γ2_0, ints .u32 (up (k3 K N c i1) (13 + i1) (fo N (4 * i1))) 16)] ∧ Below w.heap.size w (w23.setCells γ2_0 (13 + i1) ([W32 (fo N (4 * i1))]))) := ⟨by
      have h := H23.out.1.put 0 (off := 13 + i1) (vs := [W32 (fo N (4 * i1))]) rfl (by rw [ints_len]; simp only [List.length_cons, List.length_nil]; omega)
      rw [ints_patch _ _ _ _ (by omega)] at h
      exact h, below_setCells _ o2_0.out _ _ _ H23.out.2⟩
    clear H23
    generalize hgw : World.setCells _ _ _ _ = w24 at H24 ⊢
    clear hgw
    refine rest_nil (block_normal (then_normal ?_))
    refine walk_seqB 2 [.quiet (.int .i64 ((i1 : Nat) : Int)), .quiet (.int .i64 ((i1 + 1 : Nat) : Int))] H24 ?ho16 ?he16
    case ho16 => exact ak (fun _ => ⟨rfl, fun _ _ => rfl⟩) (ak (by refine fun γ => ⟨rfl, fun w' h => ?_⟩; clear h; go_simp; rw [IntKind.wrap_i64]; omega) trivial)
    intro _ w25 H25
    clear H24
    refine rest_at (l := [2]) rfl ?_
    refine rest_set (d := 9) (v := .int .i64 ((i1 + 1 : Nat) : Int)) (w' := w25) rfl rfl rfl rfl ?_
    simp only [Act.put, sa, sz, ss]
    refine rest_nil (then_normal ?_)
    exact ⟨i1 + 1, ⟨(slotfn [undef, undef, undef, undef, undef, undef, undef, undef, undef, undef, undef, undef, undef, undef, undef, undef, undef, undef, undef, undef, undef, undef, undef, undef, undef, undef, undef, undef, undef, undef, undef, undef, undef, undef, .int .i64 ((i1 : Nat) : Int), .bool true, .int .i64 ((i1 : Nat) : Int), .int .i64 ((i1 + 1 : Nat) : Int), .int .i64 ((i1 : Nat) : Int), .int .i64 ((13 + i1 : Nat) : Int), .slice (some ⟨gn, on, none⟩) 12 cn, .int .i64 ((i1 : Nat) : Int), .int .i64 ((4 * i1 : Nat) : Int), W32 (fo N (4 * i1)), PT γ2_0 (13 + i1)]), rfl, ⟨H25.out.1, H25.out.2⟩, by omega⟩, by omega⟩
  have hi1N : i1 = 3 := by omega
  subst hi1N
  refine wp_seq (wp_seq ?_)
  refine walk_seqB 2 [.quiet (.int .i64 ((3 : Nat) : Int)), .quiet (.bool false)] H21 ?ho17 ?he17
  case ho17 => exact ak (fun _ => ⟨rfl, fun _ _ => rfl⟩) (ak (by refine fun γ => ⟨rfl, fun w' h => ?_⟩; clear h; go_simp <;> omega) trivial)
  intro _ w26 H26
  clear H21
  refine rest0 rfl (then_normal (wp_cond_false rfl ?_))
  refine wp_exit ?_
  repeat refine then_exit ?_
  refine block_exit ?_
  refine then_normal (wp_seq ?_)
  refine walk_seqA 3 [.quiet (.agg (ints .u32 (k3 K N c 3) 16).toArray), .made (ints .u32 (fun _ => 0) 16) 49, .laid 1 (ints .u32 (fun _ => 0) 16) (ints .u32 (k3 K N c 3) 16)] (sB H26) ?ho18 ?he18 (hL := ?hL18)
  case hL18 => exact ⟨⟨_, rfl⟩, trivial⟩
  case ho18 => exact ak (fun γ => ⟨rfl, fun w' h => ex_loadT h 0 rfl rfl rfl Try.isAgg49 Try.sizeOf49 (ints_whole _ _ _) (ints_len _ _ _)⟩) (ak (fun γ => ⟨rfl, fun w' => ex_mk49 rfl⟩) (ak (fun γ => ⟨rfl, rfl, (ints_len _ _ _).trans (ints_len _ _ _).symm, fun w' h => ex_laidI h Try.sizeOf49 rfl rfl rfl⟩) trivial))
  intro γ w27 l hM hl
  have H27 : Hid (Mm w27 [(γ 1, ints .u32 (k3 K N c 3) 16), (γ2_0, ints .u32 (k3 K N c 3) 16)] ∧ _) := growB H26 hM (Nat.le_refl _) hl [1] rfl (by decide)
  have o18_1 := ownB H26 hM (Nat.le_refl _) hl (i := 1) rfl
  clear hM hl l H26
  generalize γ 1 = γ18_1 at H27 o18_1 ⊢
  clear γ
  refine rest0 rfl (then_normal (wp_seq (wp_seq ?_)))
  refine walk_seqB 1 [.quiet (.int .i64 0)] H27 ?ho19 ?he19
  case ho19 => exact ak (fun _ => ⟨rfl, fun _ _ => rfl⟩) trivial
  intro _ w28 H28
  clear H27
  refine rest0 rfl (then_normal (wp_block ?_))
  refine loop_ghost (α := Nat) (fun i a' w' => ∃ s4 : Nat → Value, a' = ⟨#[.slice (some ⟨gk, ok, none⟩) 32 ck, .slice (some ⟨gn, on, none⟩) 12 cn, W32 c, undef, undef, undef, .slice none 0 0, PT γ2_0 0, .int .i64 ((8 : Nat) : Int), .int .i64 ((3 : Nat) : Int), PT γ18_1 0, .int .i64 ((i : Nat) : Int), s4 12, s4 13, undef, undef, undef, PT γ2_0 0, PT γ2_0 1, PT γ2_0 2, PT γ2_0 3, .int .i64 ((8 : Nat) : Int), .bool false, s0 23, s0 24, s0 25, s0 26, s0 27, s0 28, s0 29, s0 30, s0 31, W32 c, PT γ2_0 12, .int .i64 ((3 : Nat) : Int), .bool false, s2 36, s2 37, s2 38, s2 39, s2 40, s2 41, s2 42, s2 43, s2 44, .agg (ints .u32 (k3 K N c 3) 16).toArray, s4 46, s4 47, s4 48, s4 49, s4 50, s4 51, s4 52, s4 53, s4 54, s4 55, s4 56, s4 57, s4 58, s4 59, s4 60, s4 61, s4 62, s4 63, s4 64, s4 65, s4 66, s4 67, s4 68, s4 69, s4 70, s4 71, s4 72, s4 73, s4 74, s4 75, s4 76, s4 77, s4 78, s4 79, s4 80, s4 81, undef, undef, undef, undef, undef, undef, undef, undef, undef, undef, undef, undef, undef, undef, undef, undef, undef, undef, undef, undef, undef, undef, undef, undef, undef, undef], []⟩ ∧ (Mm w' [(γ18_1, ints .u32 (k3 K N c 3) 16), (γ2_0, ints .u32 (rr (k3 K N c 3) i) 16)] ∧ Below w.heap.size w w') ∧ i ≤ 10) (fun i => 10 - i) 0 ?st4 ?rd4
  case st4 => exact ⟨(slotfn [undef, undef, undef, undef, undef, undef, undef, undef, undef, undef, undef, undef, undef, undef, undef, undef, undef, undef, undef, undef, undef, undef, undef, undef, undef, undef, undef, undef, undef, undef, undef, undef, undef, undef, undef, undef, undef, undef, undef, undef, undef, undef, undef, undef, undef, undef, undef, undef, undef, undef, undef, undef, undef, undef, undef, undef, undef, undef, undef, undef, undef, undef, undef, undef, undef, undef, undef, undef, undef, undef, undef, undef, undef, undef, undef, undef, undef, undef, undef, undef, undef, undef]), rfl, ⟨H28.out.1, H28.out.2⟩, by omega⟩
  intro i a' w29 hI
  obtain ⟨s4, rfl, hMB, hk4⟩ := hI
  have H29 : Hid (_ ∧ _) := hMB
  clear hMB H28
  by_cases hlti : i < 10
  · have hrd : True := trivial
    clear hrd
    refine wp_seq (wp_seq ?_)
    refine walk_seqB 2 [.quiet (.int .i64 ((i : Nat) : Int)), .quiet (.bool true)] H29 ?ho20 ?he20
    case ho20 => exact ak (fun _ => ⟨rfl, fun _ _ => rfl⟩) (ak (by refine fun γ => ⟨rfl, fun w' h => ?_⟩; clear h; go_simp <;> omega) trivial)
    intro _ w30 H30
    clear H29
    refine rest0 rfl (then_normal (wp_cond_true rfl ?_))
    refine wp_skip (then_normal ?_)
    refine wp_seq (wp_block ?_)
    refine wp_seq (wp_seq ?_)
    refine walk_seqB 1 [.quiet (.int .i64 0)] H30 ?ho21 ?he21
    case ho21 => exact ak (fun _ => ⟨rfl, fun _ _ => rfl⟩) trivial
    intro _ w31 H31
    clear H30
    refine rest0 rfl (then_normal (wp_block ?_))
    refine loop_ghost (α := Nat) (fun k a' w' => ∃ s6 : Nat → Value, a' = ⟨#[.slice (some ⟨gk, ok, none⟩) 32 ck, .slice (some ⟨gn, on, none⟩) 12 cn, W32 c, undef, undef, undef, .slice none 0 0, PT γ2_0 0, .int .i64 ((8 : Nat) : Int), .int .i64 ((3 : Nat) : Int), PT γ18_1 0, .int .i64 ((i : Nat) : Int), .int .i64 ((k : Nat) : Int), s4 13, undef, undef, undef, PT γ2_0 0, PT γ2_0 1, PT γ2_0 2, PT γ2_0 3, .int .i64 ((8 : Nat) : Int), .bool false, s0 23, s0 24, s0 25, s0 26, s0 27, s0 28, s0 29, s0 30, s0 31, W32 c, PT γ2_0 12, .int .i64 ((3 : Nat) : Int), .bool false, s2 36, s2 37, s2 38, s2 39, s2 40, s2 41, s2 42, s2 43, s2 44, .agg (ints .u32 (k3 K N c 3) 16).toArray, .int .i64 ((i : Nat) : Int), .bool true, s4 48, s4 49, s6 50, s6 51, s6 52, s6 53, s6 54, s6 55, s6 56, s6 57, s6 58, s6 59, s6 60, s6 61, s6 62, s4 63, s4 64, s4 65, s4 66, s4 67, s4 68, s4 69, s4 70, s4 71, s4 72, s4 73, s4 74, s4 75, s4 76, s4 77, s4 78, s4 79, s4 80, s4 81, undef, undef, undef, undef, undef, undef, undef, undef, undef, undef, undef, undef, undef, undef, undef, undef, undef, undef, undef, undef, undef, undef, undef, undef, undef, undef], []⟩ ∧ (Mm w' [(γ18_1, ints .u32 (k3 K N c 3) 16), (γ2_0, ints .u32 (ra (rr (k3 K N c 3) i) k) 16)] ∧ Below w.heap.size w w') ∧ k ≤ 4) (fun k => 4 - k) 0 ?st6 ?rd6
    case st6 => exact ⟨(slotfn [undef, undef, undef, undef, undef, undef, undef, undef, undef, undef, undef, undef, undef, undef, undef, undef, undef, undef, undef, undef, undef, undef, undef, undef, undef, undef, undef, undef, undef, undef, undef, undef, undef, undef, undef, undef, undef, undef, undef, undef, undef, undef, undef, undef, undef, undef, undef, undef, undef, undef, s4 50, s4 51, s4 52, s4 53, s4 54, s4 55, s4 56, s4 57, s4 58, s4 59, s4 60, s4 61, s4 62]), rfl, ⟨H31.out.1, H31.out.2⟩, by omega⟩
    intro k a' w32 hI
    obtain ⟨s6, rfl, hMB, hk6⟩ := hI
    have H32 : Hid (_ ∧ _) := hMB
    clear hMB H31
    by_cases hltk : k < 4
    · have hrd : True := trivial
      clear hrd
      refine wp_seq (wp_seq ?_)
      refine walk_seqB 2 [.quiet (.int .i64 ((k : Nat) : Int)), .quiet (.bool true)] H32 ?ho22 ?he22
      case ho22 => exact ak (fun _ => ⟨rfl, fun _ _ => rfl⟩) (ak (by refine fun γ => ⟨rfl, fun w' h => ?_⟩; clear h; go_simp <;> omega) trivial)
      intro _ w33 H33
      clear H32
      refine rest0 rfl (then_normal (wp_cond_true rfl ?_))
      refine wp_skip (then_normal ?_)
      refine wp_seq (wp_block ?_)
      refine walk_seqB 9 [.quiet (.agg (ints .u32 (ra (rr (k3 K N c 3) i) k) 16).toArray), .quiet (.int .i64 ((k : Nat) : Int)), .quiet (.int .i64 ((k : Nat) : Int)), .quiet (.int .i64 ((k + 4 : Nat) : Int)), .quiet (.int .i64 ((k : Nat) : Int)), .quiet (.int .i64 ((k + 8 : Nat) : Int)), .quiet (.int .i64 ((k : Nat) : Int)), .quiet (.int .i64 ((k + 12 : Nat) : Int)), .call (.agg (ints .u32 (qr (ra (rr (k3 K N c 3) i) k) k (k + 4) (k + 8) (k + 12)) 16).toArray)] H33 ?ho23 ?he23
      case ho23 => exact ak (fun γ => ⟨rfl, fun w' h => ex_loadT h 1 rfl rfl rfl Try.isAgg49 Try.sizeOf49 (ints_whole _ _ _) (ints_len _ _ _)⟩) (ak (fun _ => ⟨rfl, fun _ _ => rfl⟩) (ak (fun _ => ⟨rfl, fun _ _ => rfl⟩) (ak (by refine fun γ => ⟨rfl, fun w' h => ?_⟩; clear h; go_simp; rw [IntKind.wrap_i64]; omega) (ak (fun _ => ⟨rfl, fun _ _ => rfl⟩) (ak (by refine fun γ => ⟨rfl, fun w' h => ?_⟩; clear h; go_simp; rw [IntKind.wrap_i64]; omega) (ak (fun _ => ⟨rfl, fun _ _ => rfl⟩) (ak (by refine fun γ => ⟨rfl, fun w' h => ?_⟩; clear h; go_simp; rw [IntKind.wrap_i64]; omega) (ak (fun γ => ⟨rfl, fun w' h => ⟨48, #[.agg (ints .u32 (ra (rr (k3 K N c 3) i) k) 16).toArray, .int .i64 ((k : Nat) : Int), .int .i64 ((k + 4 : Nat) : Int), .int .i64 ((k + 8 : Nat) : Int), .int .i64 ((k + 12 : Nat) : Int)], exec_call rfl call48 rfl (mpn rfl), quarter_any (ra (rr (k3 K N c 3) i) k) k (k + 4) (k + 8) (k + 12) (by omega) (by omega) (by omega) (by omega) w'⟩⟩) trivial))))))))
      intro _ w34 H34
      clear H33
      refine rest_at (l := [9]) rfl ?_
      refine rest_store rfl rfl rfl (ex_storeT (vs := ints .u32 (qr (ra (rr (k3 K N c 3) i) k) k (k + 4) (k + 8) (k + 12)) 16) H34.out.1 1 rfl rfl rfl rfl (by rw [ints_len]; exact Try.sizeOf49) (ints_all _ _ _) (by simp [ints_len])) ?_
      have H35 : Hid (Mm (w34.setCells γ2_0 0 (ints .u32 (qr (ra (rr (k3 K N c 3) i) k) k (k + 4) (k + 8) (k + 12)) 16)) [(γ18_1, ints .u32 (k3 K N c 3) 16), (γ2_0, ints .u32 (qr (ra (rr (k3 K N c 3) i) k) k (k + 4) (k + 8) (k + 12)) 16)] ∧ Below w.heap.size w (w34.setCells γ2_0 0 (ints .u32 (qr (ra (rr (k3 K N c 3) i) k) k (k + 4) (k + 8) (k + 12)) 16))) := ⟨by
        have h := H34.out.1.put 1 (off := 0) (vs := ints .u32 (qr (ra (rr (k3 K N c 3) i) k) k (k + 4) (k + 8) (k + 12)) 16) rfl (by simp [ints_len])
        rw [ints_patch0 _ _ _ _] at h
        exact h, below_setCells _ o2_0.out _ _ _ H34.out.2⟩
      clear H34
      generalize hgw : World.setCells _ _ _ _ = w35 at H35 ⊢
      clear hgw
      refine rest_nil (block_normal (then_normal ?_))
      refine walk_seqB 2 [.quiet (.int .i64 ((k : Nat) : Int)), .quiet (.int .i64 ((k + 1 : Nat) : Int))] H35 ?ho24 ?he24
      case ho24 => exact ak (fun _ => ⟨rfl, fun _ _ => rfl⟩) (ak (by refine fun γ => ⟨rfl, fun w' h => ?_⟩; clear h; go_simp; rw [IntKind.wrap_i64]; omega) trivial)
      intro _ w36 H36
      clear H35
      refine rest_at (l := [2]) rfl ?_
      refine rest_set (d := 12) (v := .int .i64 ((k + 1 : Nat) : Int)) (w' := w36) rfl rfl rfl rfl ?_
      simp only [Act.put, sa, sz, ss]
      refine rest_nil (then_normal ?_)
      exact ⟨k + 1, ⟨(slotfn [undef, undef, undef, undef, undef, undef, undef, undef, undef, undef, undef, undef, undef, undef, undef, undef, undef, undef, undef, undef, undef, undef, undef, undef, undef, undef, undef, undef, undef, undef, undef, undef, undef, undef, undef, undef, undef, undef, undef, undef, undef, undef, undef, undef, undef, undef, undef, undef, undef, undef, .int .i64 ((k : Nat) : Int), .bool true, .int .i64 ((k : Nat) : Int), .int .i64 ((k + 1 : Nat) : Int), .agg (ints .u32 (ra (rr (k3 K N c 3) i) k) 16).toArray, .int .i64 ((k : Nat) : Int), .int .i64 ((k : Nat) : Int), .int .i64 ((k + 4 : Nat) : Int), .int .i64 ((k : Nat) : Int), .int .i64 ((k + 8 : Nat) : Int), .int .i64 ((k : Nat) : Int), .int .i64 ((k + 12 : Nat) : Int), .agg (ints .u32 (qr (ra (rr (k3 K N c 3) i) k) k (k + 4) (k + 8) (k + 12)) 16).toArray]), rfl, ⟨H36.out.1, H36.out.2⟩, by omega⟩, by omega⟩
    have hkN : k = 4 := by omega
    subst hkN
    refine wp_seq (wp_seq ?_)
    refine walk_seqB 2 [.quiet (.int .i64 ((4 : Nat) : Int)), .quiet (.bool false)] H32 ?ho25 ?he25
    case ho25 => exact ak (fun _ => ⟨rfl, fun _ _ => rfl⟩) (ak (by refine fun γ => ⟨rfl, fun w' h => ?_⟩; clear h; go_simp <;> omega) trivial)
    intro _ w37 H37
    clear H32
    refine rest0 rfl (then_normal (wp_cond_false rfl ?_))
    refine wp_exit ?_
    repeat refine then_exit ?_
    refine block_exit ?_
    refine then_normal (wp_seq ?_)
    refine walk_seqB 1 [.quiet (.int .i64 0)] H37 ?ho26 ?he26
    case ho26 => exact ak (fun _ => ⟨rfl, fun _ _ => rfl⟩) trivial
    intro _ w38 H38
    clear H37
    refine rest0 rfl (then_normal (wp_block ?_))
    refine loop_ghost (α := Nat) (fun m a' w' => ∃ s8 : Nat → Value, a' = ⟨#[.slice (some ⟨gk, ok, none⟩) 32 ck, .slice (some ⟨gn, on, none⟩) 12 cn, W32 c, undef, undef, undef, .slice none 0 0, PT γ2_0 0, .int .i64 ((8 : Nat) : Int), .int .i64 ((3 : Nat) : Int), PT γ18_1 0, .int .i64 ((i : Nat) : Int), .int .i64 ((4 : Nat) : Int), .int .i64 ((m : Nat) : Int), undef, undef, undef, PT γ2_0 0, PT γ2_0 1, PT γ2_0 2, PT γ2_0 3, .int .i64 ((8 : Nat) : Int), .bool false, s0 23, s0 24, s0 25, s0 26, s0 27, s0 28, s0 29, s0 30, s0 31, W32 c, PT γ2_0 12, .int .i64 ((3 : Nat) : Int), .bool false, s2 36, s2 37, s2 38, s2 39, s2 40, s2 41, s2 42, s2 43, s2 44, .agg (ints .u32 (k3 K N c 3) 16).toArray, .int .i64 ((i : Nat) : Int), .bool true, s4 48, s4 49, .int .i64 ((4 : Nat) : Int), .bool false, s6 52, s6 53, s6 54, s6 55, s6 56, s6 57, s6 58, s6 59, s6 60, s6 61, s6 62, s8 63, s8 64, s8 65, s8 66, s8 67, s8 68, s8 69, s8 70, s8 71, s8 72, s8 73, s8 74, s8 75, s8 76, s8 77, s8 78, s8 79, s8 80, s8 81, undef, undef, undef, undef, undef, undef, undef, undef, undef, undef, undef, undef, undef, undef, undef, undef, undef, undef, undef, undef, undef, undef, undef, undef, undef, undef], []⟩ ∧ (Mm w' [(γ18_1, ints .u32 (k3 K N c 3) 16), (γ2_0, ints .u32 (rb (ra (rr (k3 K N c 3) i) 4) m) 16)] ∧ Below w.heap.size w w') ∧ m ≤ 4) (fun m => 4 - m) 0 ?st8 ?rd8
    case st8 => exact ⟨(slotfn [undef, undef, undef, undef, undef, undef, undef, undef, undef, undef, undef, undef, undef, undef, undef, undef, undef, undef, undef, undef, undef, undef, undef, undef, undef, undef, undef, undef, undef, undef, undef, undef, undef, undef, undef, undef, undef, undef, undef, undef, undef, undef, undef, undef, undef, undef, undef, undef, undef, undef, undef, undef, undef, undef, undef, undef, undef, undef, undef, undef, undef, undef, undef, s4 63, s4 64, s4 65, s4 66, s4 67, s4 68, s4 69, s4 70, s4 71, s4 72, s4 73, s4 74, s4 75, s4 76, s4 77, s4 78, s4 79, s4 80, s4 81]), rfl, ⟨H38.out.1, H38.out.2⟩, by omega⟩
    intro m a' w39 hI
    obtain ⟨s8, rfl, hMB, hk8⟩ := hI
    have H39 : Hid (_ ∧ _) := hMB
    clear hMB H38
    by_cases hltm : m < 4
    · have hrd : True := trivial
      clear hrd
      refine wp_seq (wp_seq ?_)
      refine walk_seqB 2 [.quiet (.int .i64 ((m : Nat) : Int)), .quiet (.bool true)] H39 ?ho27 ?he27
      case ho27 => exact ak (fun _ => ⟨rfl, fun _ _ => rfl⟩) (ak (by refine fun γ => ⟨rfl, fun w' h => ?_⟩; clear h; go_simp <;> omega) trivial)
      intro _ w40 H40
      clear H39
      refine rest0 rfl (then_normal (wp_cond_true rfl ?_))
      refine wp_skip (then_normal ?_)
      refine wp_seq (wp_block ?_)
      refine walk_seqB 15 [.quiet (.agg (ints .u32 (rb (ra (rr (k3 K N c 3) i) 4) m) 16).toArray), .quiet (.int .i64 ((m : Nat) : Int)), .quiet (.int .i64 ((m : Nat) : Int)), .quiet (.int .i64 ((m + 1 : Nat) : Int)), .quiet (.int .i64 (((m + 1) % 4 : Nat) : Int)), .quiet (.int .i64 ((4 + ((m + 1) % 4) : Nat) : Int)), .quiet (.int .i64 ((m : Nat) : Int)), .quiet (.int .i64 ((m + 2 : Nat) : Int)), .quiet (.int .i64 (((m + 2) % 4 : Nat) : Int)), .quiet (.int .i64 ((8 + ((m + 2) % 4) : Nat) : Int)), .quiet (.int .i64 ((m : Nat) : Int)), .quiet (.int .i64 ((m + 3 : Nat) : Int)), .quiet (.int .i64 (((m + 3) % 4 : Nat) : Int)), .quiet (.int .i64 ((12 + ((m + 3) % 4) : Nat) : Int)), .call (.agg (ints .u32 (qr (rb (ra (rr (k3 K N c 3) i) 4) m) m (4 + ((m + 1) % 4)) (8 + ((m + 2) % 4)) (12 + ((m + 3) % 4))) 16).toArray)] H40 ?ho28 ?he28
      case ho28 => exact ak (fun γ => ⟨rfl, fun w' h => ex_loadT h 1 rfl rfl rfl Try.isAgg49 Try.sizeOf49 (ints_whole _ _ _) (ints_len _ _ _)⟩) (ak (fun _ => ⟨rfl, fun _ _ => rfl⟩) (ak (fun _ => ⟨rfl, fun _ _ => rfl⟩) (ak (by refine fun γ => ⟨rfl, fun w' h => ?_⟩; clear h; go_simp; rw [IntKind.wrap_i64]; omega) (ak (fun γ => ⟨rfl, fun w' _ => ex_rem3 (a := m + 1) (b := 4) (by omega) (by omega) rfl rfl rfl⟩) (ak (by refine fun γ => ⟨rfl, fun w' h => ?_⟩; clear h; go_simp; rw [IntKind.wrap_i64]; omega) (ak (fun _ => ⟨rfl, fun _ _ => rfl⟩) (ak (by refine fun γ => ⟨rfl, fun w' h => ?_⟩; clear h; go_simp; rw [IntKind.wrap_i64]; omega) (ak (fun γ => ⟨rfl, fun w' _ => ex_rem3 (a := m + 2) (b := 4) (by omega) (by omega) rfl rfl rfl⟩) (ak (by refine fun γ => ⟨rfl, fun w' h => ?_⟩; clear h; go_simp; rw [IntKind.wrap_i64]; omega) (ak (fun _ => ⟨rfl, fun _ _ => rfl⟩) (ak (by refine fun γ => ⟨rfl, fun w' h => ?_⟩; clear h; go_simp; rw [IntKind.wrap_i64]; omega) (ak (fun γ => ⟨rfl, fun w' _ => ex_rem3 (a := m + 3) (b := 4) (by omega) (by omega) rfl rfl rfl⟩) (ak (by refine fun γ => ⟨rfl, fun w' h => ?_⟩; clear h; go_simp; rw [IntKind.wrap_i64]; omega) (ak (fun γ => ⟨rfl, fun w' h => ⟨48, #[.agg (ints .u32 (rb (ra (rr (k3 K N c 3) i) 4) m) 16).toArray, .int .i64 ((m : Nat) : Int), .int .i64 ((4 + ((m + 1) % 4) : Nat) : Int), .int .i64 ((8 + ((m + 2) % 4) : Nat) : Int), .int .i64 ((12 + ((m + 3) % 4) : Nat) : Int)], exec_call rfl call48 rfl (mpn rfl), quarter_any (rb (ra (rr (k3 K N c 3) i) 4) m) m (4 + ((m + 1) % 4)) (8 + ((m + 2) % 4)) (12 + ((m + 3) % 4)) (by omega) (by omega) (by omega) (by omega) w'⟩⟩) trivial))))))))))))))
      intro _ w41 H41
      clear H40
      refine rest_at (l := [15]) rfl ?_
      refine rest_store rfl rfl rfl (ex_storeT (vs := ints .u32 (qr (rb (ra (rr (k3 K N c 3) i) 4) m) m (4 + ((m + 1) % 4)) (8 + ((m + 2) % 4)) (12 + ((m + 3) % 4))) 16) H41.out.1 1 rfl rfl rfl rfl (by rw [ints_len]; exact Try.sizeOf49) (ints_all _ _ _) (by simp [ints_len])) ?_
      have H42 : Hid (Mm (w41.setCells γ2_0 0 (ints .u32 (qr (rb (ra (rr (k3 K N c 3) i) 4) m) m (4 + ((m + 1) % 4)) (8 + ((m + 2) % 4)) (12 + ((m + 3) % 4))) 16)) [(γ18_1, ints .u32 (k3 K N c 3) 16), (γ2_0, ints .u32 (qr (rb (ra (rr (k3 K N c 3) i) 4) m) m (4 + ((m + 1) % 4)) (8 + ((m + 2) % 4)) (12 + ((m + 3) % 4))) 16)] ∧ Below w.heap.size w (w41.setCells γ2_0 0 (ints .u32 (qr (rb (ra (rr (k3 K N c 3) i) 4) m) m (4 + ((m + 1) % 4)) (8 + ((m + 2) % 4)) (12 + ((m + 3) % 4))) 16))) := ⟨by
        have h := H41.out.1.put 1 (off := 0) (vs := ints .u32 (qr (rb (ra (rr (k3 K N c 3) i) 4) m) m (4 + ((m + 1) % 4)) (8 + ((m + 2) % 4)) (12 + ((m + 3) % 4))) 16) rfl (by simp [ints_len])
        rw [ints_patch0 _ _ _ _] at h
        exact h, below_setCells _ o2_0.out _ _ _ H41.out.2⟩
      clear H41
      generalize hgw : World.setCells _ _ _ _ = w42 at H42 ⊢
      clear hgw
      refine rest_nil (block_normal (then_normal ?_))
      refine walk_seqB 2 [.quiet (.int .i64 ((m : Nat) : Int)), .quiet (.int .i64 ((m + 1 : Nat) : Int))] H42 ?ho29 ?he29
      case ho29 => exact ak (fun _ => ⟨rfl, fun _ _ => rfl⟩) (ak (by refine fun γ => ⟨rfl, fun w' h => ?_⟩; clear h; go_simp; rw [IntKind.wrap_i64]; omega) trivial)
      intro _ w43 H43
      clear H42
      refine rest_at (l := [2]) rfl ?_
      refine rest_set (d := 13) (v := .int .i64 ((m + 1 : Nat) : Int)) (w' := w43) rfl rfl rfl rfl ?_
      simp only [Act.put, sa, sz, ss]
      refine rest_nil (then_normal ?_)
      exact ⟨m + 1, ⟨(slotfn [undef, undef, undef, undef, undef, undef, undef, undef, undef, undef, undef, undef, undef, undef, undef, undef, undef, undef, undef, undef, undef, undef, undef, undef, undef, undef, undef, undef, undef, undef, undef, undef, undef, undef, undef, undef, undef, undef, undef, undef, undef, undef, undef, undef, undef, undef, undef, undef, undef, undef, undef, undef, undef, undef, undef, undef, undef, undef, undef, undef, undef, undef, undef, .int .i64 ((m : Nat) : Int), .bool true, .int .i64 ((m : Nat) : Int), .int .i64 ((m + 1 : Nat) : Int), .agg (ints .u32 (rb (ra (rr (k3 K N c 3) i) 4) m) 16).toArray, .int .i64 ((m : Nat) : Int), .int .i64 ((m : Nat) : Int), .int .i64 ((m + 1 : Nat) : Int), .int .i64 (((m + 1) % 4 : Nat) : Int), .int .i64 ((4 + ((m + 1) % 4) : Nat) : Int), .int .i64 ((m : Nat) : Int), .int .i64 ((m + 2 : Nat) : Int), .int .i64 (((m + 2) % 4 : Nat) : Int), .int .i64 ((8 + ((m + 2) % 4) : Nat) : Int), .int .i64 ((m : Nat) : Int), .int .i64 ((m + 3 : Nat) : Int), .int .i64 (((m + 3) % 4 : Nat) : Int), .int .i64 ((12 + ((m + 3) % 4) : Nat) : Int), .agg (ints .u32 (qr (rb (ra (rr (k3 K N c 3) i) 4) m) m (4 + ((m + 1) % 4)) (8 + ((m + 2) % 4)) (12 + ((m + 3) % 4))) 16).toArray]), rfl, ⟨H43.out.1, H43.out.2⟩, by omega⟩, by omega⟩
    have hmN : m = 4 := by omega
    subst hmN
    refine wp_seq (wp_seq ?_)
    refine walk_seqB 2 [.quiet (.int .i64 ((4 : Nat) : Int)), .quiet (.bool false)] H39 ?ho30 ?he30
    case ho30 => exact ak (fun _ => ⟨rfl, fun _ _ => rfl⟩) (ak (by refine fun γ => ⟨rfl, fun w' h => ?_⟩; clear h; go_simp <;> omega) trivial)
    intro _ w44 H44
    clear H39
    refine rest0 rfl (then_normal (wp_cond_false rfl ?_))
    refine wp_exit ?_
    repeat refine then_exit ?_
    refine block_exit ?_
    refine block_normal (then_normal ?_)
    refine walk_seqB 2 [.quiet (.int .i64 ((i : Nat) : Int)), .quiet (.int .i64 ((i + 1 : Nat) : Int))] H44 ?ho31 ?he31
    case ho31 => exact ak (fun _ => ⟨rfl, fun _ _ => rfl⟩) (ak (by refine fun γ => ⟨rfl, fun w' h => ?_⟩; clear h; go_simp; rw [IntKind.wrap_i64]; omega) trivial)
    intro _ w45 H45
    clear H44
    refine rest_at (l := [2]) rfl ?_
    refine rest_set (d := 11) (v := .int .i64 ((i + 1 : Nat) : Int)) (w' := w45) rfl rfl rfl rfl ?_
    simp only [Act.put, sa, sz, ss]
    refine rest_nil (then_normal ?_)
    exact ⟨i + 1, ⟨(slotfn [undef, undef, undef, undef, undef, undef, undef, undef, undef, undef, undef, undef, .int .i64 ((4 : Nat) : Int), .int .i64 ((4 : Nat) : Int), undef, undef, undef, undef, undef, undef, undef, undef, undef, undef, undef, undef, undef, undef, undef, undef, undef, undef, undef, undef, undef, undef, undef, undef, undef, undef, undef, undef, undef, undef, undef, undef, .int .i64 ((i : Nat) : Int), .bool true, .int .i64 ((i : Nat) : Int), .int .i64 ((i + 1 : Nat) : Int), .int .i64 ((4 : Nat) : Int), .bool false, s6 52, s6 53, s6 54, s6 55, s6 56, s6 57, s6 58, s6 59, s6 60, s6 61, s6 62, .int .i64 ((4 : Nat) : Int), .bool false, s8 65, s8 66, s8 67, s8 68, s8 69, s8 70, s8 71, s8 72, s8 73, s8 74, s8 75, s8 76, s8 77, s8 78, s8 79, s8 80, s8 81]), rfl, ⟨H45.out.1, H45.out.2⟩, by omega⟩, by omega⟩
  have hiN : i = 10 := by omega
  subst hiN
  refine wp_seq (wp_seq ?_)
  refine walk_seqB 2 [.quiet (.int .i64 ((10 : Nat) : Int)), .quiet (.bool false)] H29 ?ho32 ?he32
  case ho32 => exact ak (fun _ => ⟨rfl, fun _ _ => rfl⟩) (ak (by refine fun γ => ⟨rfl, fun w' h => ?_⟩; clear h; go_simp <;> omega) trivial)
  intro _ w46 H46
  clear H29
  refine rest0 rfl (then_normal (wp_cond_false rfl ?_))
  refine wp_exit ?_
  repeat refine then_exit ?_
  refine block_exit ?_
  refine then_normal (wp_seq ?_)
  refine walk_seqB 1 [.quiet (.slice none 0 0)] H46 ?ho33 ?he33
  case ho33 => exact ak (fun _ => ⟨rfl, fun _ _ => rfl⟩) trivial
  intro _ w47 H47
  clear H46
  refine rest0 rfl (then_normal (wp_seq (wp_seq ?_)))
  refine walk_seqB 1 [.quiet (.int .i64 0)] H47 ?ho34 ?he34
  case ho34 => exact ak (fun _ => ⟨rfl, fun _ _ => rfl⟩) trivial
  intro _ w48 H48
  clear H47
  refine rest0 rfl (then_normal (wp_block ?_))
  refine loop_ghost (α := Nat) (fun j a' w' => ∃ s10 : Nat → Value, a' = ⟨#[.slice (some ⟨gk, ok, none⟩) 32 ck, .slice (some ⟨gn, on, none⟩) 12 cn, W32 c, undef, undef, undef, .slice none 0 0, PT γ2_0 0, .int .i64 ((8 : Nat) : Int), .int .i64 ((3 : Nat) : Int), PT γ18_1 0, .int .i64 ((10 : Nat) : Int), s4 12, s4 13, s10 14, .int .i64 ((j : Nat) : Int), s10 16, PT γ2_0 0, PT γ2_0 1, PT γ2_0 2, PT γ2_0 3, .int .i64 ((8 : Nat) : Int), .bool false, s0 23, s0 24, s0 25, s0 26, s0 27, s0 28, s0 29, s0 30, s0 31, W32 c, PT γ2_0 12, .int .i64 ((3 : Nat) : Int), .bool false, s2 36, s2 37, s2 38, s2 39, s2 40, s2 41, s2 42, s2 43, s2 44, .agg (ints .u32 (k3 K N c 3) 16).toArray, .int .i64 ((10 : Nat) : Int), .bool false, s4 48, s4 49, s4 50, s4 51, s4 52, s4 53, s4 54, s4 55, s4 56, s4 57, s4 58, s4 59, s4 60, s4 61, s4 62, s4 63, s4 64, s4 65, s4 66, s4 67, s4 68, s4 69, s4 70, s4 71, s4 72, s4 73, s4 74, s4 75, s4 76, s4 77, s4 78, s4 79, s4 80, s4 81, s10 82, s10 83, s10 84, s10 85, s10 86, s10 87, s10 88, s10 89, s10 90, s10 91, s10 92, s10 93, s10 94, s10 95, s10 96, s10 97, s10 98, s10 99, s10 100, s10 101, s10 102, s10 103, s10 104, s10 105, s10 106, undef], []⟩ ∧ (Mm w' [(γ18_1, ints .u32 (k3 K N c 3) 16), (γ2_0, ints .u32 (rr (k3 K N c 3) 10) 16)] ∧ Zo w w48.heap.size [(γ18_1, ints .u32 (k3 K N c 3) 16), (γ2_0, ints .u32 (rr (k3 K N c 3) 10) 16)] (s10 14) (4 * j) (bk K N c) w') ∧ j ≤ 16) (fun j => 16 - j) 0 ?st10 ?rd10
  case st10 => exact ⟨(slotfn [undef, undef, undef, undef, undef, undef, undef, undef, undef, undef, undef, undef, undef, undef, .slice none 0 0, undef, undef, undef, undef, undef, undef, undef, undef, undef, undef, undef, undef, undef, undef, undef, undef, undef, undef, undef, undef, undef, undef, undef, undef, undef, undef, undef, undef, undef, undef, undef, undef, undef, undef, undef, undef, undef, undef, undef, undef, undef, undef, undef, undef, undef, undef, undef, undef, undef, undef, undef, undef, undef, undef, undef, undef, undef, undef, undef, undef, undef, undef, undef, undef, undef, undef, undef, undef, undef, undef, undef, undef, undef, undef, undef, undef, undef, undef, undef, undef, undef, undef, undef, undef, undef, undef, undef, undef, undef, undef, undef, undef]), rfl, ⟨H48.out.1, Zo.begin (bk K N c) H48.out.1 H48.out.2⟩, by omega⟩
  intro j a' w49 hI
  obtain ⟨s10, rfl, hMB, hk10⟩ := hI
  have H49 : Hid (_ ∧ _) := hMB
  clear hMB H48
  by_cases hltj : j < 16
  · have hrd : True := trivial
    clear hrd
    refine wp_seq (wp_seq ?_)
    refine walk_seqA 2 [.quiet (.int .i64 ((j : Nat) : Int)), .quiet (.bool true)] (sB H49) ?ho35 ?he35
    case ho35 => exact ak (fun _ => ⟨rfl, fun _ _ => rfl⟩) (ak (by refine fun γ => ⟨rfl, fun w' h => ?_⟩; clear h; go_simp <;> omega) trivial)
    intro γ w50 l hM hl
    have M50 : Mm w50 [(γ18_1, ints .u32 (k3 K N c 3) 16), (γ2_0, ints .u32 (rr (k3 K N c 3) 10) 16)] := H49.out.1.grow hM (Nat.le_refl _) hl [] rfl (by decide)
    have B50 : Zo w w48.heap.size [(γ18_1, ints .u32 (k3 K N c 3) 16), (γ2_0, ints .u32 (rr (k3 K N c 3) 10) 16)] (s10 14) (4 * j) (bk K N c) w50 := Zo.step H49.out.2 (hM.below)
    clear hM hl l H49
    clear γ
    have H50 : Hid (_ ∧ _) := ⟨M50, B50⟩
    clear M50 B50
    refine rest0 rfl (then_normal (wp_cond_true rfl ?_))
    refine wp_skip (then_normal ?_)
    refine wp_seq (wp_block (wp_seq ?_))
    refine walk_anyA 8 [.quiet (.int .i64 ((j : Nat) : Int)), .quiet (PT γ2_0 j), .quiet (W32 ((rr (k3 K N c 3) 10) j)), .quiet (.int .i64 ((j : Nat) : Int)), .quiet (PT γ18_1 j), .quiet (W32 ((k3 K N c 3) j)), .quiet (W32 (ad ((rr (k3 K N c 3) 10) j) ((k3 K N c 3) j))), .quiet (W32 (ad ((rr (k3 K N c 3) 10) j) ((k3 K N c 3) j)))] (sB H50) ?ho36 ?he36
    case ho36 => exact ak (fun _ => ⟨rfl, fun _ _ => rfl⟩) (ak (fun γ => ⟨rfl, fun w' _ => ex_ix0_49 (j := j) rfl rfl rfl (by omega)⟩) (ak (fun γ => ⟨rfl, fun w' h => ex_loadC h 1 rfl rfl rfl Try.isAgg23 (ints_get _ _ (by omega))⟩) (ak (fun _ => ⟨rfl, fun _ _ => rfl⟩) (ak (fun γ => ⟨rfl, fun w' _ => ex_ix0_49 (j := j) rfl rfl rfl (by omega)⟩) (ak (fun γ => ⟨rfl, fun w' h => ex_loadC h 0 rfl rfl rfl Try.isAgg23 (ints_get _ _ (by omega))⟩) (ak (fun γ => ⟨rfl, fun w' _ => ex_add32 rfl rfl rfl⟩) (ak (fun _ => ⟨rfl, fun _ _ => rfl⟩) trivial)))))))
    intro γ w51 l hM hl
    have M51 : Mm w51 [(γ18_1, ints .u32 (k3 K N c 3) 16), (γ2_0, ints .u32 (rr (k3 K N c 3) 10) 16)] := H50.out.1.grow hM (Nat.le_refl _) hl [] rfl (by decide)
    have B51 : Zo w w48.heap.size [(γ18_1, ints .u32 (k3 K N c 3) 16), (γ2_0, ints .u32 (rr (k3 K N c 3) 10) 16)] (s10 14) (4 * j) (bk K N c) w51 := Zo.step H50.out.2 (hM.below)
    clear hM hl l H50
    clear γ
    have H51 : Hid (_ ∧ _) := ⟨M51, B51⟩
    clear M51 B51
    refine rest0 rfl (then_normal ?_)
    refine walk_seqA 12 [.quiet (s10 14), .quiet (W32 (ad ((rr (k3 K N c 3) 10) j) ((k3 K N c 3) j))), .quiet (Z8 ((ad ((rr (k3 K N c 3) 10) j) ((k3 K N c 3) j)) % 256)), .quiet (W32 (ad ((rr (k3 K N c 3) 10) j) ((k3 K N c 3) j))), .quiet (W32 (sr (ad ((rr (k3 K N c 3) 10) j) ((k3 K N c 3) j)) 8)), .quiet (Z8 ((sr (ad ((rr (k3 K N c 3) 10) j) ((k3 K N c 3) j)) 8) % 256)), .quiet (W32 (ad ((rr (k3 K N c 3) 10) j) ((k3 K N c 3) j))), .quiet (W32 (sr (ad ((rr (k3 K N c 3) 10) j) ((k3 K N c 3) j)) 16)), .quiet (Z8 ((sr (ad ((rr (k3 K N c 3) 10) j) ((k3 K N c 3) j)) 16) % 256)), .quiet (W32 (ad ((rr (k3 K N c 3) 10) j) ((k3 K N c 3) j))), .quiet (W32 (sr (ad ((rr (k3 K N c 3) 10) j) ((k3 K N c 3) j)) 24)), .quiet (Z8 ((sr (ad ((rr (k3 K N c 3) 10) j) ((k3 K N c 3) j)) 24) % 256))] (sB H51) ?ho37 ?he37
    case ho37 => exact ak (fun _ => ⟨rfl, fun _ _ => rfl⟩) (ak (fun _ => ⟨rfl, fun _ _ => rfl⟩) (ak (fun γ => ⟨rfl, fun w' _ => ex_cv51_5 rfl rfl⟩) (ak (fun _ => ⟨rfl, fun _ _ => rfl⟩) (ak (fun γ => ⟨rfl, fun w' _ => ex_shr32 (k := 8) (by decide) rfl rfl rfl⟩) (ak (fun γ => ⟨rfl, fun w' _ => ex_cv51_5 rfl rfl⟩) (ak (fun _ => ⟨rfl, fun _ _ => rfl⟩) (ak (fun γ => ⟨rfl, fun w' _ => ex_shr32 (k := 16) (by decide) rfl rfl rfl⟩) (ak (fun γ => ⟨rfl, fun w' _ => ex_cv51_5 rfl rfl⟩) (ak (fun _ => ⟨rfl, fun _ _ => rfl⟩) (ak (fun γ => ⟨rfl, fun w' _ => ex_shr32 (k := 24) (by decide) rfl rfl rfl⟩) (ak (fun γ => ⟨rfl, fun w' _ => ex_cv51_5 rfl rfl⟩) trivial)))))))))))
    intro γ w52 l hM hl
    have M52 : Mm w52 [(γ18_1, ints .u32 (k3 K N c 3) 16), (γ2_0, ints .u32 (rr (k3 K N c 3) 10) 16)] := H51.out.1.grow hM (Nat.le_refl _) hl [] rfl (by decide)
    have B52 : Zo w w48.heap.size [(γ18_1, ints .u32 (k3 K N c 3) 16), (γ2_0, ints .u32 (rr (k3 K N c 3) 10) 16)] (s10 14) (4 * j) (bk K N c) w52 := Zo.step H51.out.2 (hM.below)
    clear hM hl l H51
    clear γ
    have H52 : Hid (_ ∧ _) := ⟨M52, B52⟩
    clear M52 B52
    refine rest_at (l := [12, 13, 14]) rfl ?_
    refine rest_set (d := 105) (v := .slice (some ⟨w52.heap.size, 0, none⟩) 4 4) (w' := (w52.alloc (.cells (ints .u8 (qd ((ad ((rr (k3 K N c 3) 10) j) ((k3 K N c 3) j)) % 256) ((sr (ad ((rr (k3 K N c 3) 10) j) ((k3 K N c 3) j)) 8) % 256) ((sr (ad ((rr (k3 K N c 3) 10) j) ((k3 K N c 3) j)) 16) % 256) ((sr (ad ((rr (k3 K N c 3) 10) j) ((k3 K N c 3) j)) 24) % 256)) 4).toArray 5))) rfl rfl rfl (ex_bsr4 (a := (ad ((rr (k3 K N c 3) 10) j) ((k3 K N c 3) j)) % 256) (b := (sr (ad ((rr (k3 K N c 3) 10) j) ((k3 K N c 3) j)) 8) % 256) (c := (sr (ad ((rr (k3 K N c 3) 10) j) ((k3 K N c 3) j)) 16) % 256) (d := (sr (ad ((rr (k3 K N c 3) 10) j) ((k3 K N c 3) j)) 24) % 256) rfl rfl rfl rfl rfl) ?_
    simp only [Act.put, sa, sz, ss]
    have H53 : Hid (Mm (w52.alloc (.cells (ints .u8 (qd ((ad ((rr (k3 K N c 3) 10) j) ((k3 K N c 3) j)) % 256) ((sr (ad ((rr (k3 K N c 3) 10) j) ((k3 K N c 3) j)) 8) % 256) ((sr (ad ((rr (k3 K N c 3) 10) j) ((k3 K N c 3) j)) 16) % 256) ((sr (ad ((rr (k3 K N c 3) 10) j) ((k3 K N c 3) j)) 24) % 256)) 4).toArray 5)) [(γ18_1, ints .u32 (k3 K N c 3) 16), (γ2_0, ints .u32 (rr (k3 K N c 3) 10) 16)] ∧ Zo w w48.heap.size [(γ18_1, ints .u32 (k3 K N c 3) 16), (γ2_0, ints .u32 (rr (k3 K N c 3) 10) 16)] (s10 14) (4 * j) (bk K N c) (w52.alloc (.cells (ints .u8 (qd ((ad ((rr (k3 K N c 3) 10) j) ((k3 K N c 3) j)) % 256) ((sr (ad ((rr (k3 K N c 3) 10) j) ((k3 K N c 3) j)) 8) % 256) ((sr (ad ((rr (k3 K N c 3) 10) j) ((k3 K N c 3) j)) 16) % 256) ((sr (ad ((rr (k3 K N c 3) 10) j) ((k3 K N c 3) j)) 24) % 256)) 4).toArray 5))) := ⟨H52.out.1.below ((Below.refl _ _).alloc (Nat.le_refl _) _), Zo.step H52.out.2 ((Below.refl _ _).alloc (Nat.le_refl _) _)⟩
    have c53 := cell_row w52 (qd ((ad ((rr (k3 K N c 3) 10) j) ((k3 K N c 3) j)) % 256) ((sr (ad ((rr (k3 K N c 3) 10) j) ((k3 K N c 3) j)) 8) % 256) ((sr (ad ((rr (k3 K N c 3) 10) j) ((k3 K N c 3) j)) 16) % 256) ((sr (ad ((rr (k3 K N c 3) 10) j) ((k3 K N c 3) j)) 24) % 256)) 4
    have C53 : Hid _ := c53
    clear c53 H52
    generalize hgw : (w52.alloc (.cells (ints .u8 (qd ((ad ((rr (k3 K N c 3) 10) j) ((k3 K N c 3) j)) % 256) ((sr (ad ((rr (k3 K N c 3) 10) j) ((k3 K N c 3) j)) 8) % 256) ((sr (ad ((rr (k3 K N c 3) 10) j) ((k3 K N c 3) j)) 16) % 256) ((sr (ad ((rr (k3 K N c 3) 10) j) ((k3 K N c 3) j)) 24) % 256)) 4).toArray 5)) = w53 at H53 C53 ⊢
    clear hgw
    generalize w52.heap.size = γs53 at C53 ⊢
    obtain ⟨v54, w54, hr, hZ⟩ := H53.out.2.app (a := ⟨γs53, 0, none⟩) 4 4 (qd ((ad ((rr (k3 K N c 3) 10) j) ((k3 K N c 3) j)) % 256) ((sr (ad ((rr (k3 K N c 3) 10) j) ((k3 K N c 3) j)) 8) % 256) ((sr (ad ((rr (k3 K N c 3) 10) j) ((k3 K N c 3) j)) 16) % 256) ((sr (ad ((rr (k3 K N c 3) 10) j) ((k3 K N c 3) j)) 24) % 256)) (C53.out) (by omega) 22
    refine rest_set (d := 106) (v := v54) (w' := w54) rfl rfl rfl (ex_app rfl rfl rfl hr) ?_
    simp only [Act.put, sa, sz, ss]
    have H54 : Hid (Mm w54 [(γ18_1, ints .u32 (k3 K N c 3) 16), (γ2_0, ints .u32 (rr (k3 K N c 3) 10) 16)] ∧ Zo w w48.heap.size [(γ18_1, ints .u32 (k3 K N c 3) 16), (γ2_0, ints .u32 (rr (k3 K N c 3) 10) 16)] v54 (4 * (j + 1)) (bk K N c) w54) := ⟨hZ.m, hZ.cg (ct_four (bn K N c) j rfl)⟩
    clear hr hZ H53
    refine rest_set (d := 14) (v := v54) (w' := w54) rfl rfl rfl rfl ?_
    simp only [Act.put, sa, sz, ss]
    refine rest_nil (block_normal (then_normal ?_))
    refine walk_seqA 2 [.quiet (.int .i64 ((j : Nat) : Int)), .quiet (.int .i64 ((j + 1 : Nat) : Int))] (sB H54) ?ho38 ?he38
    case ho38 => exact ak (fun _ => ⟨rfl, fun _ _ => rfl⟩) (ak (by refine fun γ => ⟨rfl, fun w' h => ?_⟩; clear h; go_simp; rw [IntKind.wrap_i64]; omega) trivial)
    intro γ w55 l hM hl
    have M55 : Mm w55 [(γ18_1, ints .u32 (k3 K N c 3) 16), (γ2_0, ints .u32 (rr (k3 K N c 3) 10) 16)] := H54.out.1.grow hM (Nat.le_refl _) hl [] rfl (by decide)
    have B55 : Zo w w48.heap.size [(γ18_1, ints .u32 (k3 K N c 3) 16), (γ2_0, ints .u32 (rr (k3 K N c 3) 10) 16)] v54 (4 * (j + 1)) (bk K N c) w55 := Zo.step H54.out.2 (hM.below)
    clear hM hl l H54
    clear γ
    have H55 : Hid (_ ∧ _) := ⟨M55, B55⟩
    clear M55 B55
    refine rest_at (l := [2]) rfl ?_
    refine rest_set (d := 15) (v := .int .i64 ((j + 1 : Nat) : Int)) (w' := w55) rfl rfl rfl rfl ?_
    simp only [Act.put, sa, sz, ss]
    refine rest_nil (then_normal ?_)
    exact ⟨j + 1, ⟨(slotfn [undef, undef, undef, undef, undef, undef, undef, undef, undef, undef, undef, undef, undef, undef, v54, undef, W32 (ad ((rr (k3 K N c 3) 10) j) ((k3 K N c 3) j)), undef, undef, undef, undef, undef, undef, undef, undef, undef, undef, undef, undef, undef, undef, undef, undef, undef, undef, undef, undef, undef, undef, undef, undef, undef, undef, undef, undef, undef, undef, undef, undef, undef, undef, undef, undef, undef, undef, undef, undef, undef, undef, undef, undef, undef, undef, undef, undef, undef, undef, undef, undef, undef, undef, undef, undef, undef, undef, undef, undef, undef, undef, undef, undef, undef, .int .i64 ((j : Nat) : Int), .bool true, .int .i64 ((j : Nat) : Int), .int .i64 ((j + 1 : Nat) : Int), .int .i64 ((j : Nat) : Int), PT γ2_0 j, W32 ((rr (k3 K N c 3) 10) j), .int .i64 ((j : Nat) : Int), PT γ18_1 j, W32 ((k3 K N c 3) j), W32 (ad ((rr (k3 K N c 3) 10) j) ((k3 K N c 3) j)), s10 14, W32 (ad ((rr (k3 K N c 3) 10) j) ((k3 K N c 3) j)), Z8 ((ad ((rr (k3 K N c 3) 10) j) ((k3 K N c 3) j)) % 256), W32 (ad ((rr (k3 K N c 3) 10) j) ((k3 K N c 3) j)), W32 (sr (ad ((rr (k3 K N c 3) 10) j) ((k3 K N c 3) j)) 8), Z8 ((sr (ad ((rr (k3 K N c 3) 10) j) ((k3 K N c 3) j)) 8) % 256), W32 (ad ((rr (k3 K N c 3) 10) j) ((k3 K N c 3) j)), W32 (sr (ad ((rr (k3 K N c 3) 10) j) ((k3 K N c 3) j)) 16), Z8 ((sr (ad ((rr (k3 K N c 3) 10) j) ((k3 K N c 3) j)) 16) % 256), W32 (ad ((rr (k3 K N c 3) 10) j) ((k3 K N c 3) j)), W32 (sr (ad ((rr (k3 K N c 3) 10) j) ((k3 K N c 3) j)) 24), Z8 ((sr (ad ((rr (k3 K N c 3) 10) j) ((k3 K N c 3) j)) 24) % 256), .slice (some ⟨γs53, 0, none⟩) 4 4, v54]), rfl, ⟨H55.out.1, H55.out.2⟩, by omega⟩, by omega⟩
  have hkN : j = 16 := by omega
  subst hkN
  obtain ⟨g3, cap3, e3⟩ := H49.out.2.form (by decide)
  rw [e3] at H49 ⊢
  refine wp_seq (wp_seq ?_)
  refine walk_seqA 2 [.quiet (.int .i64 ((16 : Nat) : Int)), .quiet (.bool false)] (sB H49) ?ho39 ?he39
  case ho39 => exact ak (fun _ => ⟨rfl, fun _ _ => rfl⟩) (ak (by refine fun γ => ⟨rfl, fun w' h => ?_⟩; clear h; go_simp <;> omega) trivial)
  intro γ w56 l hM hl
  have M56 : Mm w56 [(γ18_1, ints .u32 (k3 K N c 3) 16), (γ2_0, ints .u32 (rr (k3 K N c 3) 10) 16)] := H49.out.1.grow hM (Nat.le_refl _) hl [] rfl (by decide)
  have B56 : Zo w w48.heap.size [(γ18_1, ints .u32 (k3 K N c 3) 16), (γ2_0, ints .u32 (rr (k3 K N c 3) 10) 16)] (.slice (some ⟨g3, 0, none⟩) 64 cap3) (4 * 16) (bk K N c) w56 := Zo.step H49.out.2 (hM.below)
  clear hM hl l H49
  clear γ
  have H56 : Hid (_ ∧ _) := ⟨M56, B56⟩
  clear M56 B56
  refine rest0 rfl (then_normal (wp_cond_false rfl ?_))
  refine wp_exit ?_
  repeat refine then_exit ?_
  refine block_exit ?_
  refine then_normal (wp_seq ?_)
  refine walk_seqA 2 [.quiet (.slice (some ⟨g3, 0, none⟩) 64 cap3), .quiet (.slice (some ⟨g3, 0, none⟩) 64 cap3)] (sB H56) ?ho40 ?he40
  case ho40 => exact ak (fun _ => ⟨rfl, fun _ _ => rfl⟩) (ak (fun _ => ⟨rfl, fun _ _ => rfl⟩) trivial)
  intro γ w57 l hM hl
  have M57 : Mm w57 [(γ18_1, ints .u32 (k3 K N c 3) 16), (γ2_0, ints .u32 (rr (k3 K N c 3) 10) 16)] := H56.out.1.grow hM (Nat.le_refl _) hl [] rfl (by decide)
  have B57 : Zo w w48.heap.size [(γ18_1, ints .u32 (k3 K N c 3) 16), (γ2_0, ints .u32 (rr (k3 K N c 3) 10) 16)] (.slice (some ⟨g3, 0, none⟩) 64 cap3) (4 * 16) (bk K N c) w57 := Zo.step H56.out.2 (hM.below)
  clear hM hl l H56
  clear γ
  have H57 : Hid (_ ∧ _) := ⟨M57, B57⟩
  clear M57 B57
  refine rest0 rfl (then_normal (wp_ret ?_))
  repeat (first | refine then_ret ?_ | refine block_ret ?_)
  refine bodyPost_ret (v := .slice (some ⟨g3, 0, none⟩) 64 cap3) (by simp [results, Try.results31, go_sem, *]) rfl ?_
  exact ⟨H57.out.2.b, g3, cap3, rfl, own_mono H57.out.2.own H57.out.2.lo⟩
end Rg
end Go.Proofs.Ytkkippfikfjdpaa
end
section
namespace Go.Proofs.Ytkkippfikfjdpaa
open Go.RowKit
namespace Rg
set_option maxRecDepth 100000
theorem times_tg (K P : Nat → Nat) (hK : ∀ j, K j < 256) (hP : ∀ j, P j < 256) (n m : Nat) (w : World) : Calls Try.prog 53 #[.agg (ints .i64 (ar (tg (nv (clq K 3) 34) P n m) P n m 34) 34).toArray, .agg (ints .i64 (clq K 3) 34).toArray] w fun e w' => e = .returned (.agg (ints .i64 (dg (tg (nv (clq K 3) 34) P n (m + 1))) 34).toArray) ∧ Below w.heap.size w w' := by
  have h := times_any (ar (tg (nv (clq K 3) 34) P n m) P n m 34) (clq K 3) (ar_lt _ _ _ _ _) (cl_lt hK 3) w
  rw [nv_ar (tg_lt _ _ _ _) hP] at h
  exact h
theorem call53 : ∀ args w, (callFunc 53 args).run Try.prog w = .ok (.enter 53 args) w := by intro args w; go_simp
set_option maxHeartbeats 4000000 in
set_option maxRecDepth 100000 in
theorem tag_any (K P : Nat → Nat) (gk ok ck gb ob n cb : Nat) (pb : Option Addr) (hK : ∀ j, K j < 256) (hP : ∀ j, P j < 256) (hpb : 0 < n → pb = some ⟨gb, ob, none⟩) (hn : n < 4611686018427387904) (w : World) (hRk : Rs gk ok 32 K w) (hRn : Rs gb ob n P w) :
    Calls Try.prog 38 #[.slice (some ⟨gk, ok, none⟩) 32 ck, .slice pb n cb] w fun e w' => Below w.heap.size w w' ∧ ∃ g cap, e = .returned (.slice (some ⟨g, 0, none⟩) 16 cap) ∧ w'.ownsRow w.heap.size 5 1 (.slice (some ⟨g, 0, none⟩) 16 cap) 16 (ints .u8 (tb (tg (nv (clq K 3) 34) P n ((n + 15) / 16)) K) 16) := by
  have H0 : Hid (_ ∧ _) := ⟨Mm.nil w, Below.refl w.heap.size w⟩
  have RK : Hid (Rs gk ok 32 K w) := hRk
  have RN : Hid (Rs gb ob n P w) := hRn
  clear hRk hRn
  go_enter Try.func38, Try.ntmps38
  refine wp_seq ?_
  refine walk_seqB 1 [.quiet (.slice none 0 0)] H0 ?ho1 ?he1
  case ho1 => exact ak (fun _ => ⟨rfl, fun _ _ => rfl⟩) trivial
  intro _ w1 H1
  refine rest0 rfl (then_normal (wp_seq ?_))
  refine walk_seqA 2 [.made (ints .i64 (fun _ => 0) 34) 82, .made (ints .i64 (fun _ => 0) 34) 82] (sB H1) ?ho2 ?he2
  case ho2 => exact ak (fun γ => ⟨rfl, fun w' => ex_mk82 rfl⟩) (ak (fun γ => ⟨rfl, fun w' => ex_mk82 rfl⟩) trivial)
  intro γ w2 l hM hl
  have H2 : Hid (Mm w2 [(γ 0, ints .i64 (fun _ => 0) 34), (γ 1, ints .i64 (fun _ => 0) 34)] ∧ _) := growB H1 hM (Nat.le_refl _) hl [0, 1] rfl (by decide)
  have o2_0 := ownB H1 hM (Nat.le_refl _) hl (i := 0) rfl
  have o2_1 := ownB H1 hM (Nat.le_refl _) hl (i := 1) rfl
  clear hM hl l H1
  generalize γ 0 = γ2_0 at H2 o2_0 ⊢
  generalize γ 1 = γ2_1 at H2 o2_1 ⊢
  clear γ
  refine rest0 rfl (then_normal (wp_seq (wp_seq ?_)))
  refine walk_seqB 1 [.quiet (.int .i64 0)] H2 ?ho3 ?he3
  case ho3 => exact ak (fun _ => ⟨rfl, fun _ _ => rfl⟩) trivial
  intro _ w3 H3
  clear H2
  refine rest0 rfl (then_normal (wp_block ?_))
  refine loop_ghost (α := Nat) (fun k a' w' => ∃ s0 : Nat → Value, a' = ⟨#[.slice (some ⟨gk, ok, none⟩) 32 ck, .slice pb n cb, undef, undef, .slice none 0 0, PT γ2_0 0, PT γ2_1 0, .int .i64 ((k : Nat) : Int), undef, undef, undef, undef, undef, undef, undef, undef, undef, s0 17, s0 18, s0 19, s0 20, s0 21, s0 22, s0 23, s0 24, s0 25, s0 26, s0 27, undef, undef, undef, undef, undef, undef, undef, undef, undef, undef, undef, undef, undef, undef, undef, undef, undef, undef, undef, undef, undef, undef, undef, undef, undef, undef, undef, undef, undef, undef, undef, undef, undef, undef, undef, undef, undef, undef, undef, undef, undef, undef, undef, undef, undef, undef, undef, undef, undef, undef, undef, undef, undef, undef, undef, undef, undef, undef, undef, undef, undef, undef, undef, undef, undef, undef, undef, undef, undef, undef, undef, undef, undef, undef, undef, undef, undef, undef, undef, undef, undef, undef, undef, undef, undef, undef, undef, undef, undef, undef, undef, undef, undef, undef, undef], []⟩ ∧ (Mm w' [(γ2_0, ints .i64 (gr K k) 34), (γ2_1, ints .i64 (fun _ => 0) 34)] ∧ Below w.heap.size w w') ∧ k ≤ 16) (fun k => 16 - k) 0 ?st0 ?rd0
  case st0 => exact ⟨(slotfn [undef, undef, undef, undef, undef, undef, undef, undef, undef, undef, undef, undef, undef, undef, undef, undef, undef, undef, undef, undef, undef, undef, undef, undef, undef, undef, undef, undef]), rfl, ⟨by rw [gr_zero]; exact H3.out.1, H3.out.2⟩, by omega⟩
  intro k a' w4 hI
  obtain ⟨s0, rfl, hMB, hk0⟩ := hI
  have H4 : Hid (_ ∧ _) := hMB
  clear hMB H3
  by_cases hltk : k < 16
  · have hrd : True := trivial
    clear hrd
    refine wp_seq (wp_seq ?_)
    refine walk_seqB 2 [.quiet (.int .i64 ((k : Nat) : Int)), .quiet (.bool true)] H4 ?ho4 ?he4
    case ho4 => exact ak (fun _ => ⟨rfl, fun _ _ => rfl⟩) (ak (by refine fun γ => ⟨rfl, fun w' h => ?_⟩; clear h; go_simp <;> omega) trivial)
    intro _ w5 H5
    clear H4
    refine rest0 rfl (then_normal (wp_cond_true rfl ?_))
    refine wp_skip (then_normal ?_)
    refine wp_seq (wp_block ?_)
    refine (walk_seq) 7 [.quiet (.int .i64 ((k : Nat) : Int)), .quiet (.slice (some ⟨gk, ok, none⟩) 32 ck), .quiet (.int .i64 ((k : Nat) : Int)), .quiet (PT gk (ok + k)), .quiet (Z8 (K k)), .quiet (.int .i64 ((K k : Nat) : Int)), .quiet (PT γ2_0 k)] (fun u' => Mm u' [(γ2_0, ints .i64 (gr K k) 34), (γ2_1, ints .i64 (fun _ => 0) 34)] ∧ (Rs gk ok 32 K u' ∧ Rs gb ob n P u')) ?pre5 ?F5 ?hpre5 (fun γ => ?hF5) (by kernel_rfl) ?hL5 ?hS5 ?ho5 ?he5
    case hpre5 => simp only [tk, tz]; rfl
    case hF5 => simp only [fill, Kind.val, Act.put, sa, sz, ss]; rfl
    case hL5 => exact trivial
    case hS5 => exact fun w' hb => ⟨H5.out.1.below hb, ⟨RK.out.below (H5.out.2.trans (hb.mono H5.out.2.size)), RN.out.below (H5.out.2.trans (hb.mono H5.out.2.size))⟩⟩
    case ho5 =>
      refine ak (fun _ => ⟨rfl, fun _ _ => rfl⟩) ?_
      refine ak (fun _ => ⟨rfl, fun _ _ => rfl⟩) ?_
      refine ak (fun _ => ⟨rfl, fun _ _ => rfl⟩) ?_
      refine ak (fun γ => ⟨rfl, fun w' _ => ex_ixS22 (m := 32) (j := k) rfl rfl rfl (by omega)⟩) ?_
      refine ak (fun γ => ⟨rfl, fun w' hX => ex_ldR (k := k) hX.2.1 (by omega) rfl rfl⟩) ?_
      refine ak (fun γ => ⟨rfl, fun w' _ => ex_cv5_3 (hK _) rfl rfl⟩) ?_
      refine ak (fun γ => ⟨rfl, fun w' _ => ex_ix0_82 (j := k) rfl rfl rfl (by omega)⟩) ?_
      exact trivial
    intro γ w6 l hM hl
    have H6 := keepB H5 hM.below
    clear hM hl l H5 γ
    refine rest_at (l := [7]) rfl ?_
    refine rest_store rfl rfl rfl (ex_storeI H6.out.1 0 rfl rfl Try.sizeOf3 rfl rfl (by rw [ints_len]; omega)) ?_
    have H7 : Hid (Mm (w6.setCells γ2_0 k ([Value.int .i64 ((K k : Nat) : Int)])) [(γ2_0, ints .i64 (gr K (k + 1)) 34), (γ2_1, ints .i64 (fun _ => 0) 34)] ∧ Below w.heap.size w (w6.setCells γ2_0 k ([Value.int .i64 ((K k : Nat) : Int)]))) := ⟨by
      have h := H6.out.1.put 0 (off := k) (vs := [Value.int .i64 ((K k : Nat) : Int)]) rfl (by rw [ints_len]; simp only [List.length_cons, List.length_nil]; omega)
      rw [ints_patch _ _ _ _ (by omega), show ints .i64 (up (gr K k) k (K k)) 34 = ints .i64 (gr K (k + 1)) 34 by rw [show (up (gr K k) k (K k)) = gr K (k + 1) from gr_set K k]] at h
      exact h, below_setCells _ o2_0.out _ _ _ H6.out.2⟩
    clear H6
    generalize hgw : World.setCells _ _ _ _ = w7 at H7 ⊢
    clear hgw
    refine rest_nil (block_normal (then_normal ?_))
    refine walk_seqB 2 [.quiet (.int .i64 ((k : Nat) : Int)), .quiet (.int .i64 ((k + 1 : Nat) : Int))] H7 ?ho6 ?he6
    case ho6 => exact ak (fun _ => ⟨rfl, fun _ _ => rfl⟩) (ak (by refine fun γ => ⟨rfl, fun w' h => ?_⟩; clear h; go_simp; rw [IntKind.wrap_i64]; omega) trivial)
    intro _ w8 H8
    clear H7
    refine rest_at (l := [2]) rfl ?_
    refine rest_set (d := 7) (v := .int .i64 ((k + 1 : Nat) : Int)) (w' := w8) rfl rfl rfl rfl ?_
    simp only [Act.put, sa, sz, ss]
    refine rest_nil (then_normal ?_)
    exact ⟨k + 1, ⟨(slotfn [undef, undef, undef, undef, undef, undef, undef, undef, undef, undef, undef, undef, undef, undef, undef, undef, undef, .int .i64 ((k : Nat) : Int), .bool true, .int .i64 ((k : Nat) : Int), .int .i64 ((k + 1 : Nat) : Int), .int .i64 ((k : Nat) : Int), .slice (some ⟨gk, ok, none⟩) 32 ck, .int .i64 ((k : Nat) : Int), PT gk (ok + k), Z8 (K k), .int .i64 ((K k : Nat) : Int), PT γ2_0 k]), rfl, ⟨H8.out.1, H8.out.2⟩, by omega⟩, by omega⟩
  have hkN : k = 16 := by omega
  subst hkN
  refine wp_seq (wp_seq ?_)
  refine walk_seqB 2 [.quiet (.int .i64 ((16 : Nat) : Int)), .quiet (.bool false)] H4 ?ho7 ?he7
  case ho7 => exact ak (fun _ => ⟨rfl, fun _ _ => rfl⟩) (ak (by refine fun γ => ⟨rfl, fun w' h => ?_⟩; clear h; go_simp <;> omega) trivial)
  intro _ w9 H9
  clear H4
  refine rest0 rfl (then_normal (wp_cond_false rfl ?_))
  refine wp_exit ?_
  repeat refine then_exit ?_
  refine block_exit ?_
  refine then_normal (wp_seq (wp_seq ?_))
  refine walk_seqB 1 [.quiet (.int .i64 3)] H9 ?ho8 ?he8
  case ho8 => exact ak (fun _ => ⟨rfl, fun _ _ => rfl⟩) trivial
  intro _ w10 H10
  clear H9
  refine rest0 rfl (then_normal (wp_block ?_))
  refine loop_ghost (α := Nat) (fun k2 a' w' => ∃ s2 : Nat → Value, a' = ⟨#[.slice (some ⟨gk, ok, none⟩) 32 ck, .slice pb n cb, undef, undef, .slice none 0 0, PT γ2_0 0, PT γ2_1 0, .int .i64 ((16 : Nat) : Int), .int .i64 ((3 + (4 * k2) : Nat) : Int), undef, undef, undef, undef, undef, undef, undef, undef, .int .i64 ((16 : Nat) : Int), .bool false, s0 19, s0 20, s0 21, s0 22, s0 23, s0 24, s0 25, s0 26, s0 27, s2 28, s2 29, s2 30, s2 31, s2 32, s2 33, s2 34, s2 35, s2 36, s2 37, undef, undef, undef, undef, undef, undef, undef, undef, undef, undef, undef, undef, undef, undef, undef, undef, undef, undef, undef, undef, undef, undef, undef, undef, undef, undef, undef, undef, undef, undef, undef, undef, undef, undef, undef, undef, undef, undef, undef, undef, undef, undef, undef, undef, undef, undef, undef, undef, undef, undef, undef, undef, undef, undef, undef, undef, undef, undef, undef, undef, undef, undef, undef, undef, undef, undef, undef, undef, undef, undef, undef, undef, undef, undef, undef, undef, undef, undef, undef, undef, undef, undef, undef, undef, undef], []⟩ ∧ (Mm w' [(γ2_0, ints .i64 (cl1 K k2) 34), (γ2_1, ints .i64 (fun _ => 0) 34)] ∧ Below w.heap.size w w') ∧ k2 ≤ 4) (fun k2 => 4 - k2) 0 ?st2 ?rd2
  case st2 => exact ⟨(slotfn [undef, undef, undef, undef, undef, undef, undef, undef, undef, undef, undef, undef, undef, undef, undef, undef, undef, undef, undef, undef, undef, undef, undef, undef, undef, undef, undef, undef, undef, undef, undef, undef, undef, undef, undef, undef, undef, undef]), rfl, ⟨by rw [cl1_zero]; exact H10.out.1, H10.out.2⟩, by omega⟩
  intro k2 a' w11 hI
  obtain ⟨s2, rfl, hMB, hk2⟩ := hI
  have H11 : Hid (_ ∧ _) := hMB
  clear hMB H10
  by_cases hltk2 : k2 < 4
  · have hrd : True := trivial
    clear hrd
    have hc := cl1_lt hK k2 (3 + 4 * k2)
    refine wp_seq (wp_seq ?_)
    refine walk_seqB 2 [.quiet (.int .i64 ((3 + (4 * k2) : Nat) : Int)), .quiet (.bool true)] H11 ?ho9 ?he9
    case ho9 => exact ak (fun _ => ⟨rfl, fun _ _ => rfl⟩) (ak (by refine fun γ => ⟨rfl, fun w' h => ?_⟩; clear h; go_simp <;> omega) trivial)
    intro _ w12 H12
    clear H11
    refine rest0 rfl (then_normal (wp_cond_true rfl ?_))
    refine wp_skip (then_normal ?_)
    refine wp_seq (wp_block ?_)
    refine walk_seqB 6 [.quiet (.int .i64 ((3 + (4 * k2) : Nat) : Int)), .quiet (.int .i64 ((3 + (4 * k2) : Nat) : Int)), .quiet (PT γ2_0 (3 + (4 * k2))), .quiet (.int .i64 (((cl1 K k2) (3 + (4 * k2)) : Nat) : Int)), .quiet (.int .i64 ((((cl1 K k2) (3 + (4 * k2))) % 16 : Nat) : Int)), .quiet (PT γ2_0 (3 + (4 * k2)))] H12 ?ho10 ?he10
    case ho10 => exact ak (fun _ => ⟨rfl, fun _ _ => rfl⟩) (ak (fun _ => ⟨rfl, fun _ _ => rfl⟩) (ak (fun γ => ⟨rfl, fun w' _ => ex_ix0_82 (j := 3 + (4 * k2)) rfl rfl rfl (by omega)⟩) (ak (fun γ => ⟨rfl, fun w' h => ex_loadC h 0 rfl rfl rfl Try.isAgg3 (ints_get _ _ (by omega))⟩) (ak (fun γ => ⟨rfl, fun w' _ => ex_rem3 (a := (cl1 K k2) (3 + (4 * k2))) (b := 16) (by omega) (by omega) rfl rfl rfl⟩) (ak (fun γ => ⟨rfl, fun w' _ => ex_ix0_82 (j := 3 + (4 * k2)) rfl rfl rfl (by omega)⟩) trivial)))))
    intro _ w13 H13
    clear H12
    refine rest_at (l := [6]) rfl ?_
    refine rest_store rfl rfl rfl (ex_storeI H13.out.1 0 rfl rfl Try.sizeOf3 rfl rfl (by rw [ints_len]; omega)) ?_
    have H14 : Hid (Mm (w13.setCells γ2_0 (3 + (4 * k2)) ([Value.int .i64 ((((cl1 K k2) (3 + (4 * k2))) % 16 : Nat) : Int)])) [(γ2_0, ints .i64 (cl1 K (k2 + 1)) 34), (γ2_1, ints .i64 (fun _ => 0) 34)] ∧ Below w.heap.size w (w13.setCells γ2_0 (3 + (4 * k2)) ([Value.int .i64 ((((cl1 K k2) (3 + (4 * k2))) % 16 : Nat) : Int)]))) := ⟨by
      have h := H13.out.1.put 0 (off := 3 + (4 * k2)) (vs := [Value.int .i64 ((((cl1 K k2) (3 + (4 * k2))) % 16 : Nat) : Int)]) rfl (by rw [ints_len]; simp only [List.length_cons, List.length_nil]; omega)
      rw [ints_patch _ _ _ _ (by omega), show ints .i64 (up (cl1 K k2) (3 + (4 * k2)) (((cl1 K k2) (3 + (4 * k2))) % 16)) 34 = ints .i64 (cl1 K (k2 + 1)) 34 by rw [show (up (cl1 K k2) (3 + (4 * k2)) (((cl1 K k2) (3 + (4 * k2))) % 16)) = cl1 K (k2 + 1) from cl1_set K hltk2]] at h
      exact h, below_setCells _ o2_0.out _ _ _ H13.out.2⟩
    clear H13
    generalize hgw : World.setCells _ _ _ _ = w14 at H14 ⊢
    clear hgw
    refine rest_nil (block_normal (then_normal ?_))
    refine walk_seqB 2 [.quiet (.int .i64 ((3 + (4 * k2) : Nat) : Int)), .quiet (.int .i64 (((3 + (4 * k2)) + 4 : Nat) : Int))] H14 ?ho11 ?he11
    case ho11 => exact ak (fun _ => ⟨rfl, fun _ _ => rfl⟩) (ak (by refine fun γ => ⟨rfl, fun w' h => ?_⟩; clear h; go_simp; rw [IntKind.wrap_i64]; omega) trivial)
    intro _ w15 H15
    clear H14
    refine rest_at (l := [2]) rfl ?_
    refine rest_set (d := 8) (v := .int .i64 (((3 + (4 * k2)) + 4 : Nat) : Int)) (w' := w15) rfl rfl rfl rfl ?_
    simp only [Act.put, sa, sz, ss]
    refine rest_nil (then_normal ?_)
    exact ⟨k2 + 1, ⟨(slotfn [undef, undef, undef, undef, undef, undef, undef, undef, undef, undef, undef, undef, undef, undef, undef, undef, undef, undef, undef, undef, undef, undef, undef, undef, undef, undef, undef, undef, .int .i64 ((3 + (4 * k2) : Nat) : Int), .bool true, .int .i64 ((3 + (4 * k2) : Nat) : Int), .int .i64 (((3 + (4 * k2)) + 4 : Nat) : Int), .int .i64 ((3 + (4 * k2) : Nat) : Int), .int .i64 ((3 + (4 * k2) : Nat) : Int), PT γ2_0 (3 + (4 * k2)), .int .i64 (((cl1 K k2) (3 + (4 * k2)) : Nat) : Int), .int .i64 ((((cl1 K k2) (3 + (4 * k2))) % 16 : Nat) : Int), PT γ2_0 (3 + (4 * k2))]), rfl, ⟨H15.out.1, H15.out.2⟩, by omega⟩, by omega⟩
  have hk2N : k2 = 4 := by omega
  subst hk2N
  refine wp_seq (wp_seq ?_)
  refine walk_seqB 2 [.quiet (.int .i64 ((3 + (4 * 4) : Nat) : Int)), .quiet (.bool false)] H11 ?ho12 ?he12
  case ho12 => exact ak (fun _ => ⟨rfl, fun _ _ => rfl⟩) (ak (by refine fun γ => ⟨rfl, fun w' h => ?_⟩; clear h; go_simp <;> omega) trivial)
  intro _ w16 H16
  clear H11
  refine rest0 rfl (then_normal (wp_cond_false rfl ?_))
  refine wp_exit ?_
  repeat refine then_exit ?_
  refine block_exit ?_
  refine then_normal (wp_seq (wp_seq ?_))
  refine walk_seqB 1 [.quiet (.int .i64 4)] H16 ?ho13 ?he13
  case ho13 => exact ak (fun _ => ⟨rfl, fun _ _ => rfl⟩) trivial
  intro _ w17 H17
  clear H16
  refine rest0 rfl (then_normal (wp_block ?_))
  refine loop_ghost (α := Nat) (fun k3 a' w' => ∃ s4 : Nat → Value, a' = ⟨#[.slice (some ⟨gk, ok, none⟩) 32 ck, .slice pb n cb, undef, undef, .slice none 0 0, PT γ2_0 0, PT γ2_1 0, .int .i64 ((16 : Nat) : Int), .int .i64 ((3 + (4 * 4) : Nat) : Int), .int .i64 ((4 + (4 * k3) : Nat) : Int), undef, undef, undef, undef, undef, undef, undef, .int .i64 ((16 : Nat) : Int), .bool false, s0 19, s0 20, s0 21, s0 22, s0 23, s0 24, s0 25, s0 26, s0 27, .int .i64 ((3 + (4 * 4) : Nat) : Int), .bool false, s2 30, s2 31, s2 32, s2 33, s2 34, s2 35, s2 36, s2 37, s4 38, s4 39, s4 40, s4 41, s4 42, s4 43, s4 44, s4 45, s4 46, s4 47, s4 48, s4 49, s4 50, s4 51, undef, undef, undef, undef, undef, undef, undef, undef, undef, undef, undef, undef, undef, undef, undef, undef, undef, undef, undef, undef, undef, undef, undef, undef, undef, undef, undef, undef, undef, undef, undef, undef, undef, undef, undef, undef, undef, undef, undef, undef, undef, undef, undef, undef, undef, undef, undef, undef, undef, undef, undef, undef, undef, undef, undef, undef, undef, undef, undef, undef, undef, undef, undef, undef, undef, undef, undef, undef, undef, undef, undef], []⟩ ∧ (Mm w' [(γ2_0, ints .i64 (clq K k3) 34), (γ2_1, ints .i64 (fun _ => 0) 34)] ∧ Below w.heap.size w w') ∧ k3 ≤ 3) (fun k3 => 3 - k3) 0 ?st4 ?rd4
  case st4 => exact ⟨(slotfn [undef, undef, undef, undef, undef, undef, undef, undef, undef, undef, undef, undef, undef, undef, undef, undef, undef, undef, undef, undef, undef, undef, undef, undef, undef, undef, undef, undef, undef, undef, undef, undef, undef, undef, undef, undef, undef, undef, undef, undef, undef, undef, undef, undef, undef, undef, undef, undef, undef, undef, undef, undef]), rfl, ⟨by rw [cl_zero]; exact H17.out.1, H17.out.2⟩, by omega⟩
  intro k3 a' w18 hI
  obtain ⟨s4, rfl, hMB, hk4⟩ := hI
  have H18 : Hid (_ ∧ _) := hMB
  clear hMB H17
  by_cases hltk3 : k3 < 3
  · have hrd : True := trivial
    clear hrd
    have hc := cl_lt hK k3 (4 + 4 * k3)
    refine wp_seq (wp_seq ?_)
    refine walk_seqB 2 [.quiet (.int .i64 ((4 + (4 * k3) : Nat) : Int)), .quiet (.bool true)] H18 ?ho14 ?he14
    case ho14 => exact ak (fun _ => ⟨rfl, fun _ _ => rfl⟩) (ak (by refine fun γ => ⟨rfl, fun w' h => ?_⟩; clear h; go_simp <;> omega) trivial)
    intro _ w19 H19
    clear H18
    refine rest0 rfl (then_normal (wp_cond_true rfl ?_))
    refine wp_skip (then_normal ?_)
    refine wp_seq (wp_block ?_)
    refine walk_anyB 10 [.quiet (.int .i64 ((4 + (4 * k3) : Nat) : Int)), .quiet (.int .i64 ((4 + (4 * k3) : Nat) : Int)), .quiet (PT γ2_0 (4 + (4 * k3))), .quiet (.int .i64 (((clq K k3) (4 + (4 * k3)) : Nat) : Int)), .quiet (.int .i64 ((4 + (4 * k3) : Nat) : Int)), .quiet (PT γ2_0 (4 + (4 * k3))), .quiet (.int .i64 (((clq K k3) (4 + (4 * k3)) : Nat) : Int)), .quiet (.int .i64 ((((clq K k3) (4 + (4 * k3))) % 4 : Nat) : Int)), .quiet (.int .i64 ((((clq K k3) (4 + (4 * k3))) - (((clq K k3) (4 + (4 * k3))) % 4) : Nat) : Int)), .quiet (PT γ2_0 (4 + (4 * k3)))] H19 ?ho15 ?he15
    case ho15 => exact ak (fun _ => ⟨rfl, fun _ _ => rfl⟩) (ak (fun _ => ⟨rfl, fun _ _ => rfl⟩) (ak (fun γ => ⟨rfl, fun w' _ => ex_ix0_82 (j := 4 + (4 * k3)) rfl rfl rfl (by omega)⟩) (ak (fun γ => ⟨rfl, fun w' h => ex_loadC h 0 rfl rfl rfl Try.isAgg3 (ints_get _ _ (by omega))⟩) (ak (fun _ => ⟨rfl, fun _ _ => rfl⟩) (ak (fun γ => ⟨rfl, fun w' _ => ex_ix0_82 (j := 4 + (4 * k3)) rfl rfl rfl (by omega)⟩) (ak (fun γ => ⟨rfl, fun w' h => ex_loadC h 0 rfl rfl rfl Try.isAgg3 (ints_get _ _ (by omega))⟩) (ak (fun γ => ⟨rfl, fun w' _ => ex_rem3 (a := (clq K k3) (4 + (4 * k3))) (b := 4) (by omega) (by omega) rfl rfl rfl⟩) (ak (by refine fun γ => ⟨rfl, fun w' h => ?_⟩; clear h; go_simp; rw [IntKind.wrap_i64]; omega) (ak (fun γ => ⟨rfl, fun w' _ => ex_ix0_82 (j := 4 + (4 * k3)) rfl rfl rfl (by omega)⟩) trivial)))))))))
    intro _ w20 H20
    clear H19
    refine rest_at (l := [10]) rfl ?_
    refine rest_store rfl rfl rfl (ex_storeI H20.out.1 0 rfl rfl Try.sizeOf3 rfl rfl (by rw [ints_len]; omega)) ?_
    have H21 : Hid (Mm (w20.setCells γ2_0 (4 + (4 * k3)) ([Value.int .i64 ((((clq K k3) (4 + (4 * k3))) - (((clq K k3) (4 + (4 * k3))) % 4) : Nat) : Int)])) [(γ2_0, ints .i64 (clq K (k3 + 1)) 34), (γ2_1, ints .i64 (fun _ => 0) 34)] ∧ Below w.heap.size w (w20.setCells γ2_0 (4 + (4 * k3)) ([Value.int .i64 ((((clq K k3) (4 + (4 * k3))) - (((clq K k3) (4 + (4 * k3))) % 4) : Nat) : Int)]))) := ⟨by
      have h := H20.out.1.put 0 (off := 4 + (4 * k3)) (vs := [Value.int .i64 ((((clq K k3) (4 + (4 * k3))) - (((clq K k3) (4 + (4 * k3))) % 4) : Nat) : Int)]) rfl (by rw [ints_len]; simp only [List.length_cons, List.length_nil]; omega)
      rw [ints_patch _ _ _ _ (by omega), show ints .i64 (up (clq K k3) (4 + (4 * k3)) (((clq K k3) (4 + (4 * k3))) - (((clq K k3) (4 + (4 * k3))) % 4))) 34 = ints .i64 (clq K (k3 + 1)) 34 by rw [show (up (clq K k3) (4 + (4 * k3)) (((clq K k3) (4 + (4 * k3))) - (((clq K k3) (4 + (4 * k3))) % 4))) = clq K (k3 + 1) from cl_set K hltk3]] at h
      exact h, below_setCells _ o2_0.out _ _ _ H20.out.2⟩
    clear H20
    generalize hgw : World.setCells _ _ _ _ = w21 at H21 ⊢
    clear hgw
    refine rest_nil (block_normal (then_normal ?_))
    refine walk_seqB 2 [.quiet (.int .i64 ((4 + (4 * k3) : Nat) : Int)), .quiet (.int .i64 (((4 + (4 * k3)) + 4 : Nat) : Int))] H21 ?ho16 ?he16
    case ho16 => exact ak (fun _ => ⟨rfl, fun _ _ => rfl⟩) (ak (by refine fun γ => ⟨rfl, fun w' h => ?_⟩; clear h; go_simp; rw [IntKind.wrap_i64]; omega) trivial)
    intro _ w22 H22
    clear H21
    refine rest_at (l := [2]) rfl ?_
    refine rest_set (d := 9) (v := .int .i64 (((4 + (4 * k3)) + 4 : Nat) : Int)) (w' := w22) rfl rfl rfl rfl ?_
    simp only [Act.put, sa, sz, ss]
    refine rest_nil (then_normal ?_)
    exact ⟨k3 + 1, ⟨(slotfn [undef, undef, undef, undef, undef, undef, undef, undef, undef, undef, undef, undef, undef, undef, undef, undef, undef, undef, undef, undef, undef, undef, undef, undef, undef, undef, undef, undef, undef, undef, undef, undef, undef, undef, undef, undef, undef, undef, .int .i64 ((4 + (4 * k3) : Nat) : Int), .bool true, .int .i64 ((4 + (4 * k3) : Nat) : Int), .int .i64 (((4 + (4 * k3)) + 4 : Nat) : Int), .int .i64 ((4 + (4 * k3) : Nat) : Int), .int .i64 ((4 + (4 * k3) : Nat) : Int), PT γ2_0 (4 + (4 * k3)), .int .i64 (((clq K k3) (4 + (4 * k3)) : Nat) : Int), .int .i64 ((4 + (4 * k3) : Nat) : Int), PT γ2_0 (4 + (4 * k3)), .int .i64 (((clq K k3) (4 + (4 * k3)) : Nat) : Int), .int .i64 ((((clq K k3) (4 + (4 * k3))) % 4 : Nat) : Int), .int .i64 ((((clq K k3) (4 + (4 * k3))) - (((clq K k3) (4 + (4 * k3))) % 4) : Nat) : Int), PT γ2_0 (4 + (4 * k3))]), rfl, ⟨H22.out.1, H22.out.2⟩, by omega⟩, by omega⟩
  have hk3N : k3 = 3 := by omega
  subst hk3N
  refine wp_seq (wp_seq ?_)
  refine walk_seqB 2 [.quiet (.int .i64 ((4 + (4 * 3) : Nat) : Int)), .quiet (.bool false)] H18 ?ho17 ?he17
  case ho17 => exact ak (fun _ => ⟨rfl, fun _ _ => rfl⟩) (ak (by refine fun γ => ⟨rfl, fun w' h => ?_⟩; clear h; go_simp <;> omega) trivial)
  intro _ w23 H23
  clear H18
  refine rest0 rfl (then_normal (wp_cond_false rfl ?_))
  refine wp_exit ?_
  repeat refine then_exit ?_
  refine block_exit ?_
  refine then_normal (wp_seq (wp_seq ?_))
  refine walk_seqB 1 [.quiet (.int .i64 0)] H23 ?ho18 ?he18
  case ho18 => exact ak (fun _ => ⟨rfl, fun _ _ => rfl⟩) trivial
  intro _ w24 H24
  clear H23
  refine rest0 rfl (then_normal (wp_block ?_))
  refine loop_ghost (α := Nat) (fun m a' w' => ∃ s6 : Nat → Value, a' = ⟨#[.slice (some ⟨gk, ok, none⟩) 32 ck, .slice pb n cb, undef, undef, .slice none 0 0, PT γ2_0 0, PT γ2_1 0, .int .i64 ((16 : Nat) : Int), .int .i64 ((3 + (4 * 4) : Nat) : Int), .int .i64 ((4 + (4 * 3) : Nat) : Int), .int .i64 ((16 * m : Nat) : Int), s6 11, s6 12, s6 13, undef, undef, undef, .int .i64 ((16 : Nat) : Int), .bool false, s0 19, s0 20, s0 21, s0 22, s0 23, s0 24, s0 25, s0 26, s0 27, .int .i64 ((3 + (4 * 4) : Nat) : Int), .bool false, s2 30, s2 31, s2 32, s2 33, s2 34, s2 35, s2 36, s2 37, .int .i64 ((4 + (4 * 3) : Nat) : Int), .bool false, s4 40, s4 41, s4 42, s4 43, s4 44, s4 45, s4 46, s4 47, s4 48, s4 49, s4 50, s4 51, s6 52, s6 53, s6 54, s6 55, s6 56, s6 57, s6 58, s6 59, s6 60, s6 61, s6 62, s6 63, s6 64, s6 65, s6 66, s6 67, s6 68, s6 69, s6 70, s6 71, s6 72, s6 73, s6 74, s6 75, s6 76, s6 77, s6 78, s6 79, s6 80, s6 81, s6 82, s6 83, s6 84, s6 85, s6 86, s6 87, s6 88, s6 89, s6 90, s6 91, s6 92, s6 93, s6 94, s6 95, s6 96, s6 97, undef, undef, undef, undef, undef, undef, undef, undef, undef, undef, undef, undef, undef, undef, undef, undef, undef, undef, undef, undef, undef, undef, undef, undef, undef], []⟩ ∧ (Mm w' [(γ2_0, ints .i64 (clq K 3) 34), (γ2_1, ints .i64 (dg (tg (nv (clq K 3) 34) P n m)) 34)] ∧ Below w.heap.size w w') ∧ m ≤ ((n + 15) / 16)) (fun m => ((n + 15) / 16) - m) 0 ?st6 ?rd6
  case st6 => exact ⟨(slotfn [undef, undef, undef, undef, undef, undef, undef, undef, undef, undef, undef, undef, undef, undef, undef, undef, undef, undef, undef, undef, undef, undef, undef, undef, undef, undef, undef, undef, undef, undef, undef, undef, undef, undef, undef, undef, undef, undef, undef, undef, undef, undef, undef, undef, undef, undef, undef, undef, undef, undef, undef, undef, undef, undef, undef, undef, undef, undef, undef, undef, undef, undef, undef, undef, undef, undef, undef, undef, undef, undef, undef, undef, undef, undef, undef, undef, undef, undef, undef, undef, undef, undef, undef, undef, undef, undef, undef, undef, undef, undef, undef, undef, undef, undef, undef, undef, undef, undef]), rfl, ⟨by rw [show tg (nv (clq K 3) 34) P n 0 = 0 from rfl, dg_zero]; exact H24.out.1, H24.out.2⟩, by omega⟩
  intro m a' w25 hI
  obtain ⟨s6, rfl, hMB, hk6⟩ := hI
  have H25 : Hid (_ ∧ _) := hMB
  clear hMB H24
  by_cases hltm : m < ((n + 15) / 16)
  · have hrd : True := trivial
    clear hrd
    have hat : 16 * m < n := by omega
    refine wp_seq (wp_seq ?_)
    refine walk_seqB 4 [.quiet (.int .i64 ((16 * m : Nat) : Int)), .quiet (.slice pb n cb), .quiet (.int .i64 ((n : Nat) : Int)), .quiet (.bool true)] H25 ?ho19 ?he19
    case ho19 => exact ak (fun _ => ⟨rfl, fun _ _ => rfl⟩) (ak (fun _ => ⟨rfl, fun _ _ => rfl⟩) (ak (by refine fun γ => ⟨rfl, fun w' h => ?_⟩; clear h; go_simp) (ak (by refine fun γ => ⟨rfl, fun w' h => ?_⟩; clear h; go_simp <;> omega) trivial)))
    intro _ w26 H26
    clear H25
    refine rest0 rfl (then_normal (wp_cond_true rfl ?_))
    refine wp_skip (then_normal ?_)
    refine wp_seq (wp_block (wp_seq ?_))
    refine walk_seqB 6 [.quiet (.slice pb n cb), .quiet (.int .i64 ((n : Nat) : Int)), .quiet (.int .i64 ((16 * m : Nat) : Int)), .quiet (.int .i64 ((n - (16 * m) : Nat) : Int)), .quiet (.int .i64 ((bl n m : Nat) : Int)), .quiet (.int .i64 ((bl n m : Nat) : Int))] H26 ?ho20 ?he20
    case ho20 => exact ak (fun _ => ⟨rfl, fun _ _ => rfl⟩) (ak (by refine fun γ => ⟨rfl, fun w' h => ?_⟩; clear h; go_simp) (ak (fun _ => ⟨rfl, fun _ _ => rfl⟩) (ak (by refine fun γ => ⟨rfl, fun w' h => ?_⟩; clear h; go_simp; rw [IntKind.wrap_i64]; omega) (ak (fun γ => ⟨rfl, fun w' _ => ex_min3 (a := 16) (b := n - 16 * m) rfl rfl rfl⟩) (ak (fun _ => ⟨rfl, fun _ _ => rfl⟩) trivial)))))
    intro _ w27 H27
    clear H26
    refine rest0 rfl (then_normal (wp_seq ?_))
    refine walk_seqB 1 [.quiet (.int .i64 0)] H27 ?ho21 ?he21
    case ho21 => exact ak (fun _ => ⟨rfl, fun _ _ => rfl⟩) trivial
    intro _ w28 H28
    clear H27
    refine rest0 rfl (then_normal (wp_seq (wp_seq ?_)))
    refine walk_seqB 1 [.quiet (.int .i64 0)] H28 ?ho22 ?he22
    case ho22 => exact ak (fun _ => ⟨rfl, fun _ _ => rfl⟩) trivial
    intro _ w29 H29
    clear H28
    refine rest0 rfl (then_normal (wp_block ?_))
    refine loop_ghost (α := Nat) (fun k a' w' => ∃ s8 : Nat → Value, a' = ⟨#[.slice (some ⟨gk, ok, none⟩) 32 ck, .slice pb n cb, undef, undef, .slice none 0 0, PT γ2_0 0, PT γ2_1 0, .int .i64 ((16 : Nat) : Int), .int .i64 ((3 + (4 * 4) : Nat) : Int), .int .i64 ((4 + (4 * 3) : Nat) : Int), .int .i64 ((16 * m : Nat) : Int), .int .i64 ((bl n m : Nat) : Int), .int .i64 ((cy (zt (tg (nv (clq K 3) 34) P n m) P n m) k : Nat) : Int), .int .i64 ((k : Nat) : Int), undef, undef, undef, .int .i64 ((16 : Nat) : Int), .bool false, s0 19, s0 20, s0 21, s0 22, s0 23, s0 24, s0 25, s0 26, s0 27, .int .i64 ((3 + (4 * 4) : Nat) : Int), .bool false, s2 30, s2 31, s2 32, s2 33, s2 34, s2 35, s2 36, s2 37, .int .i64 ((4 + (4 * 3) : Nat) : Int), .bool false, s4 40, s4 41, s4 42, s4 43, s4 44, s4 45, s4 46, s4 47, s4 48, s4 49, s4 50, s4 51, .int .i64 ((16 * m : Nat) : Int), .slice pb n cb, .int .i64 ((n : Nat) : Int), .bool true, s6 56, s6 57, .slice pb n cb, .int .i64 ((n : Nat) : Int), .int .i64 ((16 * m : Nat) : Int), .int .i64 ((n - (16 * m) : Nat) : Int), .int .i64 ((bl n m : Nat) : Int), s8 63, s8 64, s8 65, s8 66, s8 67, s8 68, s8 69, s8 70, s8 71, s8 72, s8 73, s8 74, s8 75, s8 76, s8 77, s8 78, s8 79, s8 80, s8 81, s8 82, s8 83, s8 84, s8 85, s8 86, s8 87, s8 88, s8 89, s8 90, s8 91, s8 92, s8 93, s8 94, s6 95, s6 96, s6 97, undef, undef, undef, undef, undef, undef, undef, undef, undef, undef, undef, undef, undef, undef, undef, undef, undef, undef, undef, undef, undef, undef, undef, undef, undef], []⟩ ∧ (Mm w' [(γ2_0, ints .i64 (clq K 3) 34), (γ2_1, ints .i64 (ar (tg (nv (clq K 3) 34) P n m) P n m k) 34)] ∧ Below w.heap.size w w') ∧ k ≤ 34) (fun k => 34 - k) 0 ?st8 ?rd8
    case st8 => exact ⟨(slotfn [undef, undef, undef, undef, undef, undef, undef, undef, undef, undef, undef, undef, undef, undef, undef, undef, undef, undef, undef, undef, undef, undef, undef, undef, undef, undef, undef, undef, undef, undef, undef, undef, undef, undef, undef, undef, undef, undef, undef, undef, undef, undef, undef, undef, undef, undef, undef, undef, undef, undef, undef, undef, undef, undef, undef, undef, undef, undef, undef, undef, undef, undef, undef, s6 63, s6 64, s6 65, s6 66, s6 67, s6 68, s6 69, s6 70, s6 71, s6 72, s6 73, s6 74, s6 75, s6 76, s6 77, s6 78, s6 79, s6 80, s6 81, s6 82, s6 83, s6 84, s6 85, s6 86, s6 87, s6 88, s6 89, s6 90, s6 91, s6 92, s6 93, s6 94]), rfl, ⟨by rw [ar_zero]; exact H29.out.1, H29.out.2⟩, by omega⟩
    intro k a' w30 hI
    obtain ⟨s8, rfl, hMB, hk8⟩ := hI
    have H30 : Hid (_ ∧ _) := hMB
    clear hMB H29
    by_cases hltk : k < 34
    · have hrd : True := trivial
      clear hrd
      rcases (by omega : k < bl n m ∨ k = bl n m ∨ (¬ k < bl n m ∧ ¬ k = bl n m)) with hlb | heb | ⟨hlb, heb⟩
      · have hrd : True := trivial
        clear hrd
        have hbn : 16 * m + k < n := by unfold bl at hlb; omega
        have hPk := hP (16 * m + k)
        have hc := cy_le (zt_le (tg (nv (clq K 3) 34) P n m) hP n m) (C := 2) (by decide) k
        have hr := ar_lt (tg (nv (clq K 3) 34) P n m) P n m k k
        refine wp_seq (wp_seq ?_)
        refine walk_seqB 2 [.quiet (.int .i64 ((k : Nat) : Int)), .quiet (.bool true)] H30 ?ho23 ?he23
        case ho23 => exact ak (fun _ => ⟨rfl, fun _ _ => rfl⟩) (ak (by refine fun γ => ⟨rfl, fun w' h => ?_⟩; clear h; go_simp <;> omega) trivial)
        intro _ w31 H31
        clear H30
        refine rest0 rfl (then_normal (wp_cond_true rfl ?_))
        refine wp_skip (then_normal ?_)
        refine wp_seq (wp_block (wp_seq ?_))
        refine walk_seqB 5 [.quiet (.int .i64 ((cy (zt (tg (nv (clq K 3) 34) P n m) P n m) k : Nat) : Int)), .quiet (.int .i64 ((k : Nat) : Int)), .quiet (PT γ2_1 k), .quiet (.int .i64 (((ar (tg (nv (clq K 3) 34) P n m) P n m k) k : Nat) : Int)), .quiet (.int .i64 (((cy (zt (tg (nv (clq K 3) 34) P n m) P n m) k) + ((ar (tg (nv (clq K 3) 34) P n m) P n m k) k) : Nat) : Int))] H31 ?ho24 ?he24
        case ho24 => exact ak (fun _ => ⟨rfl, fun _ _ => rfl⟩) (ak (fun _ => ⟨rfl, fun _ _ => rfl⟩) (ak (fun γ => ⟨rfl, fun w' _ => ex_ix0_82 (j := k) rfl rfl rfl (by omega)⟩) (ak (fun γ => ⟨rfl, fun w' h => ex_loadC h 1 rfl rfl rfl Try.isAgg3 (ints_get _ _ (by omega))⟩) (ak (by refine fun γ => ⟨rfl, fun w' h => ?_⟩; clear h; go_simp; rw [IntKind.wrap_i64]; omega) trivial))))
        intro _ w32 H32
        clear H31
        refine rest_at (l := [5]) rfl ?_
        refine rest_set (d := 12) (v := .int .i64 (((cy (zt (tg (nv (clq K 3) 34) P n m) P n m) k) + ((ar (tg (nv (clq K 3) 34) P n m) P n m k) k) : Nat) : Int)) (w' := w32) rfl rfl rfl rfl ?_
        simp only [Act.put, sa, sz, ss]
        refine rest_nil (then_normal ?_)
        refine wp_seq (wp_seq ?_)
        refine walk_seqB 3 [.quiet (.int .i64 ((k : Nat) : Int)), .quiet (.int .i64 ((bl n m : Nat) : Int)), .quiet (.bool true)] H32 ?ho25 ?he25
        case ho25 => exact ak (fun _ => ⟨rfl, fun _ _ => rfl⟩) (ak (fun _ => ⟨rfl, fun _ _ => rfl⟩) (ak (by refine fun γ => ⟨rfl, fun w' h => ?_⟩; clear h; go_simp <;> omega) trivial))
        intro _ w33 H33
        clear H32
        refine rest0 rfl (then_normal (wp_cond_true rfl ?_))
        refine (walk_seq) 9 [.quiet (.int .i64 (((cy (zt (tg (nv (clq K 3) 34) P n m) P n m) k) + ((ar (tg (nv (clq K 3) 34) P n m) P n m k) k) : Nat) : Int)), .quiet (.slice pb n cb), .quiet (.int .i64 ((16 * m : Nat) : Int)), .quiet (.int .i64 ((k : Nat) : Int)), .quiet (.int .i64 (((16 * m) + k : Nat) : Int)), .quiet (PT gb (ob + ((16 * m) + k))), .quiet (Z8 (P ((16 * m) + k))), .quiet (.int .i64 ((P ((16 * m) + k) : Nat) : Int)), .quiet (.int .i64 ((((cy (zt (tg (nv (clq K 3) 34) P n m) P n m) k) + ((ar (tg (nv (clq K 3) 34) P n m) P n m k) k)) + (P ((16 * m) + k)) : Nat) : Int))] (fun u' => Mm u' [(γ2_0, ints .i64 (clq K 3) 34), (γ2_1, ints .i64 (ar (tg (nv (clq K 3) 34) P n m) P n m k) 34)] ∧ (Rs gk ok 32 K u' ∧ Rs gb ob n P u')) ?pre26 ?F26 ?hpre26 (fun γ => ?hF26) (by kernel_rfl) ?hL26 ?hS26 ?ho26 ?he26
        case hpre26 => simp only [tk, tz]; rfl
        case hF26 => simp only [fill, Kind.val, Act.put, sa, sz, ss]; rfl
        case hL26 => exact trivial
        case hS26 => exact fun w' hb => ⟨H33.out.1.below hb, ⟨RK.out.below (H33.out.2.trans (hb.mono H33.out.2.size)), RN.out.below (H33.out.2.trans (hb.mono H33.out.2.size))⟩⟩
        case ho26 =>
          refine ak (fun _ => ⟨rfl, fun _ _ => rfl⟩) ?_
          refine ak (fun _ => ⟨rfl, fun _ _ => rfl⟩) ?_
          refine ak (fun _ => ⟨rfl, fun _ _ => rfl⟩) ?_
          refine ak (fun _ => ⟨rfl, fun _ _ => rfl⟩) ?_
          refine ak (by refine fun γ => ⟨rfl, fun w' h => ?_⟩; clear h; go_simp; rw [IntKind.wrap_i64]; omega) ?_
          refine ak (fun γ => ⟨rfl, fun w' _ => ex_ixP22 (hpb (by omega)) (j := (16 * m) + k) rfl rfl rfl (by omega)⟩) ?_
          refine ak (fun γ => ⟨rfl, fun w' hX => ex_ldR (k := ((16 * m) + k)) hX.2.2 (by omega) rfl rfl⟩) ?_
          refine ak (fun γ => ⟨rfl, fun w' _ => ex_cv5_3 (hP _) rfl rfl⟩) ?_
          refine ak (by refine fun γ => ⟨rfl, fun w' h => ?_⟩; clear h; go_simp; rw [IntKind.wrap_i64]; omega) ?_
          exact trivial
        intro γ w34 l hM hl
        have H34 := keepB H33 hM.below
        clear hM hl l H33 γ
        refine rest_at (l := [9]) rfl ?_
        refine rest_set (d := 12) (v := .int .i64 ((((cy (zt (tg (nv (clq K 3) 34) P n m) P n m) k) + ((ar (tg (nv (clq K 3) 34) P n m) P n m k) k)) + (P ((16 * m) + k)) : Nat) : Int)) (w' := w34) rfl rfl rfl rfl ?_
        simp only [Act.put, sa, sz, ss]
        refine rest_nil (then_normal ?_)
        refine wp_seq (wp_seq ?_)
        refine walk_seqB 3 [.quiet (.int .i64 ((k : Nat) : Int)), .quiet (.int .i64 ((bl n m : Nat) : Int)), .quiet (.bool false)] H34 ?ho27 ?he27
        case ho27 => exact ak (fun _ => ⟨rfl, fun _ _ => rfl⟩) (ak (fun _ => ⟨rfl, fun _ _ => rfl⟩) (ak (by refine fun γ => ⟨rfl, fun w' h => ?_⟩; clear h; go_simp <;> omega) trivial))
        intro _ w35 H35
        clear H34
        refine rest0 rfl (then_normal (wp_cond_false rfl ?_))
        refine wp_skip (then_normal (wp_seq ?_))
        refine walk_seqB 4 [.quiet (.int .i64 ((k : Nat) : Int)), .quiet (.int .i64 ((((cy (zt (tg (nv (clq K 3) 34) P n m) P n m) k) + ((ar (tg (nv (clq K 3) 34) P n m) P n m k) k)) + (P ((16 * m) + k)) : Nat) : Int)), .quiet (.int .i64 (((((cy (zt (tg (nv (clq K 3) 34) P n m) P n m) k) + ((ar (tg (nv (clq K 3) 34) P n m) P n m k) k)) + (P ((16 * m) + k))) % 256 : Nat) : Int)), .quiet (PT γ2_1 k)] H35 ?ho28 ?he28
        case ho28 => exact ak (fun _ => ⟨rfl, fun _ _ => rfl⟩) (ak (fun _ => ⟨rfl, fun _ _ => rfl⟩) (ak (fun γ => ⟨rfl, fun w' _ => ex_rem3 (a := ((cy (zt (tg (nv (clq K 3) 34) P n m) P n m) k) + ((ar (tg (nv (clq K 3) 34) P n m) P n m k) k)) + (P ((16 * m) + k))) (b := 256) (by omega) (by omega) rfl rfl rfl⟩) (ak (fun γ => ⟨rfl, fun w' _ => ex_ix0_82 (j := k) rfl rfl rfl (by omega)⟩) trivial)))
        intro _ w36 H36
        clear H35
        refine rest_at (l := [4]) rfl ?_
        refine rest_store rfl rfl rfl (ex_storeI H36.out.1 1 rfl rfl Try.sizeOf3 rfl rfl (by rw [ints_len]; omega)) ?_
        have H37 : Hid (Mm (w36.setCells γ2_1 k ([Value.int .i64 (((((cy (zt (tg (nv (clq K 3) 34) P n m) P n m) k) + ((ar (tg (nv (clq K 3) 34) P n m) P n m k) k)) + (P ((16 * m) + k))) % 256 : Nat) : Int)])) [(γ2_0, ints .i64 (clq K 3) 34), (γ2_1, ints .i64 (ar (tg (nv (clq K 3) 34) P n m) P n m (k + 1)) 34)] ∧ Below w.heap.size w (w36.setCells γ2_1 k ([Value.int .i64 (((((cy (zt (tg (nv (clq K 3) 34) P n m) P n m) k) + ((ar (tg (nv (clq K 3) 34) P n m) P n m k) k)) + (P ((16 * m) + k))) % 256 : Nat) : Int)]))) := ⟨by
          have h := H36.out.1.put 1 (off := k) (vs := [Value.int .i64 (((((cy (zt (tg (nv (clq K 3) 34) P n m) P n m) k) + ((ar (tg (nv (clq K 3) 34) P n m) P n m k) k)) + (P ((16 * m) + k))) % 256 : Nat) : Int)]) rfl (by rw [ints_len]; simp only [List.length_cons, List.length_nil]; omega)
          rw [ints_patch _ _ _ _ (by omega), show ints .i64 (up (ar (tg (nv (clq K 3) 34) P n m) P n m k) k ((((cy (zt (tg (nv (clq K 3) 34) P n m) P n m) k) + ((ar (tg (nv (clq K 3) 34) P n m) P n m k) k)) + (P ((16 * m) + k))) % 256)) 34 = ints .i64 (ar (tg (nv (clq K 3) 34) P n m) P n m (k + 1)) 34 by rw [show (up (ar (tg (nv (clq K 3) 34) P n m) P n m k) k ((((cy (zt (tg (nv (clq K 3) 34) P n m) P n m) k) + ((ar (tg (nv (clq K 3) 34) P n m) P n m k) k)) + (P ((16 * m) + k))) % 256)) = ar (tg (nv (clq K 3) 34) P n m) P n m (k + 1) from ar_set (zt_a hlb)]] at h
          exact h, below_setCells _ o2_1.out _ _ _ H36.out.2⟩
        clear H36
        generalize hgw : World.setCells _ _ _ _ = w37 at H37 ⊢
        clear hgw
        refine rest_nil (then_normal ?_)
        refine walk_seqB 2 [.quiet (.int .i64 ((((cy (zt (tg (nv (clq K 3) 34) P n m) P n m) k) + ((ar (tg (nv (clq K 3) 34) P n m) P n m k) k)) + (P ((16 * m) + k)) : Nat) : Int)), .quiet (.int .i64 (((((cy (zt (tg (nv (clq K 3) 34) P n m) P n m) k) + ((ar (tg (nv (clq K 3) 34) P n m) P n m k) k)) + (P ((16 * m) + k))) / 256 : Nat) : Int))] H37 ?ho29 ?he29
        case ho29 => exact ak (fun _ => ⟨rfl, fun _ _ => rfl⟩) (ak (fun γ => ⟨rfl, fun w' _ => ex_quo3 (a := ((cy (zt (tg (nv (clq K 3) 34) P n m) P n m) k) + ((ar (tg (nv (clq K 3) 34) P n m) P n m k) k)) + (P ((16 * m) + k))) (b := 256) (by omega) (by omega) rfl rfl rfl⟩) trivial)
        intro _ w38 H38
        clear H37
        refine rest_at (l := [2]) rfl ?_
        refine rest_set (d := 12) (v := .int .i64 (((((cy (zt (tg (nv (clq K 3) 34) P n m) P n m) k) + ((ar (tg (nv (clq K 3) 34) P n m) P n m k) k)) + (P ((16 * m) + k))) / 256 : Nat) : Int)) (w' := w38) rfl rfl rfl rfl ?_
        simp only [Act.put, sa, sz, ss]
        refine rest_nil (block_normal (then_normal ?_))
        refine walk_seqB 2 [.quiet (.int .i64 ((k : Nat) : Int)), .quiet (.int .i64 ((k + 1 : Nat) : Int))] H38 ?ho30 ?he30
        case ho30 => exact ak (fun _ => ⟨rfl, fun _ _ => rfl⟩) (ak (by refine fun γ => ⟨rfl, fun w' h => ?_⟩; clear h; go_simp; rw [IntKind.wrap_i64]; omega) trivial)
        intro _ w39 H39
        clear H38
        refine rest_at (l := [2]) rfl ?_
        refine rest_set (d := 13) (v := .int .i64 ((k + 1 : Nat) : Int)) (w' := w39) rfl rfl rfl rfl ?_
        simp only [Act.put, sa, sz, ss]
        refine rest_nil (then_normal ?_)
        exact ⟨k + 1, ⟨(slotfn [undef, undef, undef, undef, undef, undef, undef, undef, undef, undef, undef, undef, undef, undef, undef, undef, undef, undef, undef, undef, undef, undef, undef, undef, undef, undef, undef, undef, undef, undef, undef, undef, undef, undef, undef, undef, undef, undef, undef, undef, undef, undef, undef, undef, undef, undef, undef, undef, undef, undef, undef, undef, undef, undef, undef, undef, undef, undef, undef, undef, undef, undef, undef, .int .i64 ((k : Nat) : Int), .bool true, .int .i64 ((k : Nat) : Int), .int .i64 ((k + 1 : Nat) : Int), .int .i64 ((cy (zt (tg (nv (clq K 3) 34) P n m) P n m) k : Nat) : Int), .int .i64 ((k : Nat) : Int), PT γ2_1 k, .int .i64 (((ar (tg (nv (clq K 3) 34) P n m) P n m k) k : Nat) : Int), .int .i64 (((cy (zt (tg (nv (clq K 3) 34) P n m) P n m) k) + ((ar (tg (nv (clq K 3) 34) P n m) P n m k) k) : Nat) : Int), .int .i64 ((k : Nat) : Int), .int .i64 ((bl n m : Nat) : Int), .bool true, .int .i64 (((cy (zt (tg (nv (clq K 3) 34) P n m) P n m) k) + ((ar (tg (nv (clq K 3) 34) P n m) P n m k) k) : Nat) : Int), .slice pb n cb, .int .i64 ((16 * m : Nat) : Int), .int .i64 ((k : Nat) : Int), .int .i64 (((16 * m) + k : Nat) : Int), PT gb (ob + ((16 * m) + k)), Z8 (P ((16 * m) + k)), .int .i64 ((P ((16 * m) + k) : Nat) : Int), .int .i64 ((((cy (zt (tg (nv (clq K 3) 34) P n m) P n m) k) + ((ar (tg (nv (clq K 3) 34) P n m) P n m k) k)) + (P ((16 * m) + k)) : Nat) : Int), .int .i64 ((k : Nat) : Int), .int .i64 ((bl n m : Nat) : Int), .bool false, s8 87, s8 88, .int .i64 ((k : Nat) : Int), .int .i64 ((((cy (zt (tg (nv (clq K 3) 34) P n m) P n m) k) + ((ar (tg (nv (clq K 3) 34) P n m) P n m k) k)) + (P ((16 * m) + k)) : Nat) : Int), .int .i64 (((((cy (zt (tg (nv (clq K 3) 34) P n m) P n m) k) + ((ar (tg (nv (clq K 3) 34) P n m) P n m k) k)) + (P ((16 * m) + k))) % 256 : Nat) : Int), PT γ2_1 k, .int .i64 ((((cy (zt (tg (nv (clq K 3) 34) P n m) P n m) k) + ((ar (tg (nv (clq K 3) 34) P n m) P n m k) k)) + (P ((16 * m) + k)) : Nat) : Int), .int .i64 (((((cy (zt (tg (nv (clq K 3) 34) P n m) P n m) k) + ((ar (tg (nv (clq K 3) 34) P n m) P n m k) k)) + (P ((16 * m) + k))) / 256 : Nat) : Int)]), by rw [← ar_cy (zt_a hlb)]; rfl, ⟨H39.out.1, H39.out.2⟩, by omega⟩, by omega⟩
      · have hrd : True := trivial
        clear hrd
        have he1 : k ≤ bl n m := by omega
        have he2 : bl n m ≤ k := by omega
        have HE : Hid (k = bl n m) := heb
        clear heb
        have hc := cy_le (zt_le (tg (nv (clq K 3) 34) P n m) hP n m) (C := 2) (by decide) k
        have hr := ar_lt (tg (nv (clq K 3) 34) P n m) P n m k k
        refine wp_seq (wp_seq ?_)
        refine walk_seqB 2 [.quiet (.int .i64 ((k : Nat) : Int)), .quiet (.bool true)] H30 ?ho31 ?he31
        case ho31 => exact ak (fun _ => ⟨rfl, fun _ _ => rfl⟩) (ak (by refine fun γ => ⟨rfl, fun w' h => ?_⟩; clear h; go_simp <;> omega) trivial)
        intro _ w40 H40
        clear H30
        refine rest0 rfl (then_normal (wp_cond_true rfl ?_))
        refine wp_skip (then_normal ?_)
        refine wp_seq (wp_block (wp_seq ?_))
        refine walk_seqB 5 [.quiet (.int .i64 ((cy (zt (tg (nv (clq K 3) 34) P n m) P n m) k : Nat) : Int)), .quiet (.int .i64 ((k : Nat) : Int)), .quiet (PT γ2_1 k), .quiet (.int .i64 (((ar (tg (nv (clq K 3) 34) P n m) P n m k) k : Nat) : Int)), .quiet (.int .i64 (((cy (zt (tg (nv (clq K 3) 34) P n m) P n m) k) + ((ar (tg (nv (clq K 3) 34) P n m) P n m k) k) : Nat) : Int))] H40 ?ho32 ?he32
        case ho32 => exact ak (fun _ => ⟨rfl, fun _ _ => rfl⟩) (ak (fun _ => ⟨rfl, fun _ _ => rfl⟩) (ak (fun γ => ⟨rfl, fun w' _ => ex_ix0_82 (j := k) rfl rfl rfl (by omega)⟩) (ak (fun γ => ⟨rfl, fun w' h => ex_loadC h 1 rfl rfl rfl Try.isAgg3 (ints_get _ _ (by omega))⟩) (ak (by refine fun γ => ⟨rfl, fun w' h => ?_⟩; clear h; go_simp; rw [IntKind.wrap_i64]; omega) trivial))))
        intro _ w41 H41
        clear H40
        refine rest_at (l := [5]) rfl ?_
        refine rest_set (d := 12) (v := .int .i64 (((cy (zt (tg (nv (clq K 3) 34) P n m) P n m) k) + ((ar (tg (nv (clq K 3) 34) P n m) P n m k) k) : Nat) : Int)) (w' := w41) rfl rfl rfl rfl ?_
        simp only [Act.put, sa, sz, ss]
        refine rest_nil (then_normal ?_)
        refine wp_seq (wp_seq ?_)
        refine walk_seqB 3 [.quiet (.int .i64 ((k : Nat) : Int)), .quiet (.int .i64 ((bl n m : Nat) : Int)), .quiet (.bool false)] H41 ?ho33 ?he33
        case ho33 => exact ak (fun _ => ⟨rfl, fun _ _ => rfl⟩) (ak (fun _ => ⟨rfl, fun _ _ => rfl⟩) (ak (by refine fun γ => ⟨rfl, fun w' h => ?_⟩; clear h; go_simp <;> omega) trivial))
        intro _ w42 H42
        clear H41
        refine rest0 rfl (then_normal (wp_cond_false rfl ?_))
        refine wp_skip (then_normal ?_)
        refine wp_seq (wp_seq ?_)
        refine walk_seqB 3 [.quiet (.int .i64 ((k : Nat) : Int)), .quiet (.int .i64 ((bl n m : Nat) : Int)), .quiet (.bool true)] H42 ?ho34 ?he34
        case ho34 => exact ak (fun _ => ⟨rfl, fun _ _ => rfl⟩) (ak (fun _ => ⟨rfl, fun _ _ => rfl⟩) (ak (by refine fun γ => ⟨rfl, fun w' h => ?_⟩; clear h; go_simp <;> omega) trivial))
        intro _ w43 H43
        clear H42
        refine rest0 rfl (then_normal (wp_cond_true rfl ?_))
        refine walk_seqB 2 [.quiet (.int .i64 (((cy (zt (tg (nv (clq K 3) 34) P n m) P n m) k) + ((ar (tg (nv (clq K 3) 34) P n m) P n m k) k) : Nat) : Int)), .quiet (.int .i64 ((((cy (zt (tg (nv (clq K 3) 34) P n m) P n m) k) + ((ar (tg (nv (clq K 3) 34) P n m) P n m k) k)) + 1 : Nat) : Int))] H43 ?ho35 ?he35
        case ho35 => exact ak (fun _ => ⟨rfl, fun _ _ => rfl⟩) (ak (by refine fun γ => ⟨rfl, fun w' h => ?_⟩; clear h; go_simp; rw [IntKind.wrap_i64]; omega) trivial)
        intro _ w44 H44
        clear H43
        refine rest_at (l := [2]) rfl ?_
        refine rest_set (d := 12) (v := .int .i64 ((((cy (zt (tg (nv (clq K 3) 34) P n m) P n m) k) + ((ar (tg (nv (clq K 3) 34) P n m) P n m k) k)) + 1 : Nat) : Int)) (w' := w44) rfl rfl rfl rfl ?_
        simp only [Act.put, sa, sz, ss]
        refine rest_nil (then_normal (wp_seq ?_))
        refine walk_seqB 4 [.quiet (.int .i64 ((k : Nat) : Int)), .quiet (.int .i64 ((((cy (zt (tg (nv (clq K 3) 34) P n m) P n m) k) + ((ar (tg (nv (clq K 3) 34) P n m) P n m k) k)) + 1 : Nat) : Int)), .quiet (.int .i64 (((((cy (zt (tg (nv (clq K 3) 34) P n m) P n m) k) + ((ar (tg (nv (clq K 3) 34) P n m) P n m k) k)) + 1) % 256 : Nat) : Int)), .quiet (PT γ2_1 k)] H44 ?ho36 ?he36
        case ho36 => exact ak (fun _ => ⟨rfl, fun _ _ => rfl⟩) (ak (fun _ => ⟨rfl, fun _ _ => rfl⟩) (ak (fun γ => ⟨rfl, fun w' _ => ex_rem3 (a := ((cy (zt (tg (nv (clq K 3) 34) P n m) P n m) k) + ((ar (tg (nv (clq K 3) 34) P n m) P n m k) k)) + 1) (b := 256) (by omega) (by omega) rfl rfl rfl⟩) (ak (fun γ => ⟨rfl, fun w' _ => ex_ix0_82 (j := k) rfl rfl rfl (by omega)⟩) trivial)))
        intro _ w45 H45
        clear H44
        refine rest_at (l := [4]) rfl ?_
        refine rest_store rfl rfl rfl (ex_storeI H45.out.1 1 rfl rfl Try.sizeOf3 rfl rfl (by rw [ints_len]; omega)) ?_
        have H46 : Hid (Mm (w45.setCells γ2_1 k ([Value.int .i64 (((((cy (zt (tg (nv (clq K 3) 34) P n m) P n m) k) + ((ar (tg (nv (clq K 3) 34) P n m) P n m k) k)) + 1) % 256 : Nat) : Int)])) [(γ2_0, ints .i64 (clq K 3) 34), (γ2_1, ints .i64 (ar (tg (nv (clq K 3) 34) P n m) P n m (k + 1)) 34)] ∧ Below w.heap.size w (w45.setCells γ2_1 k ([Value.int .i64 (((((cy (zt (tg (nv (clq K 3) 34) P n m) P n m) k) + ((ar (tg (nv (clq K 3) 34) P n m) P n m k) k)) + 1) % 256 : Nat) : Int)]))) := ⟨by
          have h := H45.out.1.put 1 (off := k) (vs := [Value.int .i64 (((((cy (zt (tg (nv (clq K 3) 34) P n m) P n m) k) + ((ar (tg (nv (clq K 3) 34) P n m) P n m k) k)) + 1) % 256 : Nat) : Int)]) rfl (by rw [ints_len]; simp only [List.length_cons, List.length_nil]; omega)
          rw [ints_patch _ _ _ _ (by omega), show ints .i64 (up (ar (tg (nv (clq K 3) 34) P n m) P n m k) k ((((cy (zt (tg (nv (clq K 3) 34) P n m) P n m) k) + ((ar (tg (nv (clq K 3) 34) P n m) P n m k) k)) + 1) % 256)) 34 = ints .i64 (ar (tg (nv (clq K 3) 34) P n m) P n m (k + 1)) 34 by rw [show (up (ar (tg (nv (clq K 3) 34) P n m) P n m k) k ((((cy (zt (tg (nv (clq K 3) 34) P n m) P n m) k) + ((ar (tg (nv (clq K 3) 34) P n m) P n m k) k)) + 1) % 256)) = ar (tg (nv (clq K 3) 34) P n m) P n m (k + 1) from ar_set (zt_b HE.out)]] at h
          exact h, below_setCells _ o2_1.out _ _ _ H45.out.2⟩
        clear H45
        generalize hgw : World.setCells _ _ _ _ = w46 at H46 ⊢
        clear hgw
        refine rest_nil (then_normal ?_)
        refine walk_seqB 2 [.quiet (.int .i64 ((((cy (zt (tg (nv (clq K 3) 34) P n m) P n m) k) + ((ar (tg (nv (clq K 3) 34) P n m) P n m k) k)) + 1 : Nat) : Int)), .quiet (.int .i64 (((((cy (zt (tg (nv (clq K 3) 34) P n m) P n m) k) + ((ar (tg (nv (clq K 3) 34) P n m) P n m k) k)) + 1) / 256 : Nat) : Int))] H46 ?ho37 ?he37
        case ho37 => exact ak (fun _ => ⟨rfl, fun _ _ => rfl⟩) (ak (fun γ => ⟨rfl, fun w' _ => ex_quo3 (a := ((cy (zt (tg (nv (clq K 3) 34) P n m) P n m) k) + ((ar (tg (nv (clq K 3) 34) P n m) P n m k) k)) + 1) (b := 256) (by omega) (by omega) rfl rfl rfl⟩) trivial)
        intro _ w47 H47
        clear H46
        refine rest_at (l := [2]) rfl ?_
        refine rest_set (d := 12) (v := .int .i64 (((((cy (zt (tg (nv (clq K 3) 34) P n m) P n m) k) + ((ar (tg (nv (clq K 3) 34) P n m) P n m k) k)) + 1) / 256 : Nat) : Int)) (w' := w47) rfl rfl rfl rfl ?_
        simp only [Act.put, sa, sz, ss]
        refine rest_nil (block_normal (then_normal ?_))
        refine walk_seqB 2 [.quiet (.int .i64 ((k : Nat) : Int)), .quiet (.int .i64 ((k + 1 : Nat) : Int))] H47 ?ho38 ?he38
        case ho38 => exact ak (fun _ => ⟨rfl, fun _ _ => rfl⟩) (ak (by refine fun γ => ⟨rfl, fun w' h => ?_⟩; clear h; go_simp; rw [IntKind.wrap_i64]; omega) trivial)
        intro _ w48 H48
        clear H47
        refine rest_at (l := [2]) rfl ?_
        refine rest_set (d := 13) (v := .int .i64 ((k + 1 : Nat) : Int)) (w' := w48) rfl rfl rfl rfl ?_
        simp only [Act.put, sa, sz, ss]
        refine rest_nil (then_normal ?_)
        exact ⟨k + 1, ⟨(slotfn [undef, undef, undef, undef, undef, undef, undef, undef, undef, undef, undef, undef, undef, undef, undef, undef, undef, undef, undef, undef, undef, undef, undef, undef, undef, undef, undef, undef, undef, undef, undef, undef, undef, undef, undef, undef, undef, undef, undef, undef, undef, undef, undef, undef, undef, undef, undef, undef, undef, undef, undef, undef, undef, undef, undef, undef, undef, undef, undef, undef, undef, undef, undef, .int .i64 ((k : Nat) : Int), .bool true, .int .i64 ((k : Nat) : Int), .int .i64 ((k + 1 : Nat) : Int), .int .i64 ((cy (zt (tg (nv (clq K 3) 34) P n m) P n m) k : Nat) : Int), .int .i64 ((k : Nat) : Int), PT γ2_1 k, .int .i64 (((ar (tg (nv (clq K 3) 34) P n m) P n m k) k : Nat) : Int), .int .i64 (((cy (zt (tg (nv (clq K 3) 34) P n m) P n m) k) + ((ar (tg (nv (clq K 3) 34) P n m) P n m k) k) : Nat) : Int), .int .i64 ((k : Nat) : Int), .int .i64 ((bl n m : Nat) : Int), .bool false, s8 75, s8 76, s8 77, s8 78, s8 79, s8 80, s8 81, s8 82, s8 83, .int .i64 ((k : Nat) : Int), .int .i64 ((bl n m : Nat) : Int), .bool true, .int .i64 (((cy (zt (tg (nv (clq K 3) 34) P n m) P n m) k) + ((ar (tg (nv (clq K 3) 34) P n m) P n m k) k) : Nat) : Int), .int .i64 ((((cy (zt (tg (nv (clq K 3) 34) P n m) P n m) k) + ((ar (tg (nv (clq K 3) 34) P n m) P n m k) k)) + 1 : Nat) : Int), .int .i64 ((k : Nat) : Int), .int .i64 ((((cy (zt (tg (nv (clq K 3) 34) P n m) P n m) k) + ((ar (tg (nv (clq K 3) 34) P n m) P n m k) k)) + 1 : Nat) : Int), .int .i64 (((((cy (zt (tg (nv (clq K 3) 34) P n m) P n m) k) + ((ar (tg (nv (clq K 3) 34) P n m) P n m k) k)) + 1) % 256 : Nat) : Int), PT γ2_1 k, .int .i64 ((((cy (zt (tg (nv (clq K 3) 34) P n m) P n m) k) + ((ar (tg (nv (clq K 3) 34) P n m) P n m k) k)) + 1 : Nat) : Int), .int .i64 (((((cy (zt (tg (nv (clq K 3) 34) P n m) P n m) k) + ((ar (tg (nv (clq K 3) 34) P n m) P n m k) k)) + 1) / 256 : Nat) : Int)]), by rw [← ar_cy (zt_b HE.out)]; rfl, ⟨H48.out.1, H48.out.2⟩, by omega⟩, by omega⟩
      · have hrd : True := trivial
        clear hrd
        have hc := cy_le (zt_le (tg (nv (clq K 3) 34) P n m) hP n m) (C := 2) (by decide) k
        have hr := ar_lt (tg (nv (clq K 3) 34) P n m) P n m k k
        refine wp_seq (wp_seq ?_)
        refine walk_seqB 2 [.quiet (.int .i64 ((k : Nat) : Int)), .quiet (.bool true)] H30 ?ho39 ?he39
        case ho39 => exact ak (fun _ => ⟨rfl, fun _ _ => rfl⟩) (ak (by refine fun γ => ⟨rfl, fun w' h => ?_⟩; clear h; go_simp <;> omega) trivial)
        intro _ w49 H49
        clear H30
        refine rest0 rfl (then_normal (wp_cond_true rfl ?_))
        refine wp_skip (then_normal ?_)
        refine wp_seq (wp_block (wp_seq ?_))
        refine walk_seqB 5 [.quiet (.int .i64 ((cy (zt (tg (nv (clq K 3) 34) P n m) P n m) k : Nat) : Int)), .quiet (.int .i64 ((k : Nat) : Int)), .quiet (PT γ2_1 k), .quiet (.int .i64 (((ar (tg (nv (clq K 3) 34) P n m) P n m k) k : Nat) : Int)), .quiet (.int .i64 (((cy (zt (tg (nv (clq K 3) 34) P n m) P n m) k) + ((ar (tg (nv (clq K 3) 34) P n m) P n m k) k) : Nat) : Int))] H49 ?ho40 ?he40
        case ho40 => exact ak (fun _ => ⟨rfl, fun _ _ => rfl⟩) (ak (fun _ => ⟨rfl, fun _ _ => rfl⟩) (ak (fun γ => ⟨rfl, fun w' _ => ex_ix0_82 (j := k) rfl rfl rfl (by omega)⟩) (ak (fun γ => ⟨rfl, fun w' h => ex_loadC h 1 rfl rfl rfl Try.isAgg3 (ints_get _ _ (by omega))⟩) (ak (by refine fun γ => ⟨rfl, fun w' h => ?_⟩; clear h; go_simp; rw [IntKind.wrap_i64]; omega) trivial))))
        intro _ w50 H50
        clear H49
        refine rest_at (l := [5]) rfl ?_
        refine rest_set (d := 12) (v := .int .i64 (((cy (zt (tg (nv (clq K 3) 34) P n m) P n m) k) + ((ar (tg (nv (clq K 3) 34) P n m) P n m k) k) : Nat) : Int)) (w' := w50) rfl rfl rfl rfl ?_
        simp only [Act.put, sa, sz, ss]
        refine rest_nil (then_normal ?_)
        refine wp_seq (wp_seq ?_)
        refine walk_seqB 3 [.quiet (.int .i64 ((k : Nat) : Int)), .quiet (.int .i64 ((bl n m : Nat) : Int)), .quiet (.bool false)] H50 ?ho41 ?he41
        case ho41 => exact ak (fun _ => ⟨rfl, fun _ _ => rfl⟩) (ak (fun _ => ⟨rfl, fun _ _ => rfl⟩) (ak (by refine fun γ => ⟨rfl, fun w' h => ?_⟩; clear h; go_simp <;> omega) trivial))
        intro _ w51 H51
        clear H50
        refine rest0 rfl (then_normal (wp_cond_false rfl ?_))
        refine wp_skip (then_normal ?_)
        refine wp_seq (wp_seq ?_)
        refine walk_seqB 3 [.quiet (.int .i64 ((k : Nat) : Int)), .quiet (.int .i64 ((bl n m : Nat) : Int)), .quiet (.bool false)] H51 ?ho42 ?he42
        case ho42 => exact ak (fun _ => ⟨rfl, fun _ _ => rfl⟩) (ak (fun _ => ⟨rfl, fun _ _ => rfl⟩) (ak (by refine fun γ => ⟨rfl, fun w' h => ?_⟩; clear h; go_simp <;> omega) trivial))
        intro _ w52 H52
        clear H51
        refine rest0 rfl (then_normal (wp_cond_false rfl ?_))
        refine wp_skip (then_normal (wp_seq ?_))
        refine walk_seqB 4 [.quiet (.int .i64 ((k : Nat) : Int)), .quiet (.int .i64 (((cy (zt (tg (nv (clq K 3) 34) P n m) P n m) k) + ((ar (tg (nv (clq K 3) 34) P n m) P n m k) k) : Nat) : Int)), .quiet (.int .i64 ((((cy (zt (tg (nv (clq K 3) 34) P n m) P n m) k) + ((ar (tg (nv (clq K 3) 34) P n m) P n m k) k)) % 256 : Nat) : Int)), .quiet (PT γ2_1 k)] H52 ?ho43 ?he43
        case ho43 => exact ak (fun _ => ⟨rfl, fun _ _ => rfl⟩) (ak (fun _ => ⟨rfl, fun _ _ => rfl⟩) (ak (fun γ => ⟨rfl, fun w' _ => ex_rem3 (a := (cy (zt (tg (nv (clq K 3) 34) P n m) P n m) k) + ((ar (tg (nv (clq K 3) 34) P n m) P n m k) k)) (b := 256) (by omega) (by omega) rfl rfl rfl⟩) (ak (fun γ => ⟨rfl, fun w' _ => ex_ix0_82 (j := k) rfl rfl rfl (by omega)⟩) trivial)))
        intro _ w53 H53
        clear H52
        refine rest_at (l := [4]) rfl ?_
        refine rest_store rfl rfl rfl (ex_storeI H53.out.1 1 rfl rfl Try.sizeOf3 rfl rfl (by rw [ints_len]; omega)) ?_
        have H54 : Hid (Mm (w53.setCells γ2_1 k ([Value.int .i64 ((((cy (zt (tg (nv (clq K 3) 34) P n m) P n m) k) + ((ar (tg (nv (clq K 3) 34) P n m) P n m k) k)) % 256 : Nat) : Int)])) [(γ2_0, ints .i64 (clq K 3) 34), (γ2_1, ints .i64 (ar (tg (nv (clq K 3) 34) P n m) P n m (k + 1)) 34)] ∧ Below w.heap.size w (w53.setCells γ2_1 k ([Value.int .i64 ((((cy (zt (tg (nv (clq K 3) 34) P n m) P n m) k) + ((ar (tg (nv (clq K 3) 34) P n m) P n m k) k)) % 256 : Nat) : Int)]))) := ⟨by
          have h := H53.out.1.put 1 (off := k) (vs := [Value.int .i64 ((((cy (zt (tg (nv (clq K 3) 34) P n m) P n m) k) + ((ar (tg (nv (clq K 3) 34) P n m) P n m k) k)) % 256 : Nat) : Int)]) rfl (by rw [ints_len]; simp only [List.length_cons, List.length_nil]; omega)
          rw [ints_patch _ _ _ _ (by omega), show ints .i64 (up (ar (tg (nv (clq K 3) 34) P n m) P n m k) k (((cy (zt (tg (nv (clq K 3) 34) P n m) P n m) k) + ((ar (tg (nv (clq K 3) 34) P n m) P n m k) k)) % 256)) 34 = ints .i64 (ar (tg (nv (clq K 3) 34) P n m) P n m (k + 1)) 34 by rw [show (up (ar (tg (nv (clq K 3) 34) P n m) P n m k) k (((cy (zt (tg (nv (clq K 3) 34) P n m) P n m) k) + ((ar (tg (nv (clq K 3) 34) P n m) P n m k) k)) % 256)) = ar (tg (nv (clq K 3) 34) P n m) P n m (k + 1) from ar_set (zt_c hlb heb)]] at h
          exact h, below_setCells _ o2_1.out _ _ _ H53.out.2⟩
        clear H53
        generalize hgw : World.setCells _ _ _ _ = w54 at H54 ⊢
        clear hgw
        refine rest_nil (then_normal ?_)
        refine walk_seqB 2 [.quiet (.int .i64 (((cy (zt (tg (nv (clq K 3) 34) P n m) P n m) k) + ((ar (tg (nv (clq K 3) 34) P n m) P n m k) k) : Nat) : Int)), .quiet (.int .i64 ((((cy (zt (tg (nv (clq K 3) 34) P n m) P n m) k) + ((ar (tg (nv (clq K 3) 34) P n m) P n m k) k)) / 256 : Nat) : Int))] H54 ?ho44 ?he44
        case ho44 => exact ak (fun _ => ⟨rfl, fun _ _ => rfl⟩) (ak (fun γ => ⟨rfl, fun w' _ => ex_quo3 (a := (cy (zt (tg (nv (clq K 3) 34) P n m) P n m) k) + ((ar (tg (nv (clq K 3) 34) P n m) P n m k) k)) (b := 256) (by omega) (by omega) rfl rfl rfl⟩) trivial)
        intro _ w55 H55
        clear H54
        refine rest_at (l := [2]) rfl ?_
        refine rest_set (d := 12) (v := .int .i64 ((((cy (zt (tg (nv (clq K 3) 34) P n m) P n m) k) + ((ar (tg (nv (clq K 3) 34) P n m) P n m k) k)) / 256 : Nat) : Int)) (w' := w55) rfl rfl rfl rfl ?_
        simp only [Act.put, sa, sz, ss]
        refine rest_nil (block_normal (then_normal ?_))
        refine walk_seqB 2 [.quiet (.int .i64 ((k : Nat) : Int)), .quiet (.int .i64 ((k + 1 : Nat) : Int))] H55 ?ho45 ?he45
        case ho45 => exact ak (fun _ => ⟨rfl, fun _ _ => rfl⟩) (ak (by refine fun γ => ⟨rfl, fun w' h => ?_⟩; clear h; go_simp; rw [IntKind.wrap_i64]; omega) trivial)
        intro _ w56 H56
        clear H55
        refine rest_at (l := [2]) rfl ?_
        refine rest_set (d := 13) (v := .int .i64 ((k + 1 : Nat) : Int)) (w' := w56) rfl rfl rfl rfl ?_
        simp only [Act.put, sa, sz, ss]
        refine rest_nil (then_normal ?_)
        exact ⟨k + 1, ⟨(slotfn [undef, undef, undef, undef, undef, undef, undef, undef, undef, undef, undef, undef, undef, undef, undef, undef, undef, undef, undef, undef, undef, undef, undef, undef, undef, undef, undef, undef, undef, undef, undef, undef, undef, undef, undef, undef, undef, undef, undef, undef, undef, undef, undef, undef, undef, undef, undef, undef, undef, undef, undef, undef, undef, undef, undef, undef, undef, undef, undef, undef, undef, undef, undef, .int .i64 ((k : Nat) : Int), .bool true, .int .i64 ((k : Nat) : Int), .int .i64 ((k + 1 : Nat) : Int), .int .i64 ((cy (zt (tg (nv (clq K 3) 34) P n m) P n m) k : Nat) : Int), .int .i64 ((k : Nat) : Int), PT γ2_1 k, .int .i64 (((ar (tg (nv (clq K 3) 34) P n m) P n m k) k : Nat) : Int), .int .i64 (((cy (zt (tg (nv (clq K 3) 34) P n m) P n m) k) + ((ar (tg (nv (clq K 3) 34) P n m) P n m k) k) : Nat) : Int), .int .i64 ((k : Nat) : Int), .int .i64 ((bl n m : Nat) : Int), .bool false, s8 75, s8 76, s8 77, s8 78, s8 79, s8 80, s8 81, s8 82, s8 83, .int .i64 ((k : Nat) : Int), .int .i64 ((bl n m : Nat) : Int), .bool false, s8 87, s8 88, .int .i64 ((k : Nat) : Int), .int .i64 (((cy (zt (tg (nv (clq K 3) 34) P n m) P n m) k) + ((ar (tg (nv (clq K 3) 34) P n m) P n m k) k) : Nat) : Int), .int .i64 ((((cy (zt (tg (nv (clq K 3) 34) P n m) P n m) k) + ((ar (tg (nv (clq K 3) 34) P n m) P n m k) k)) % 256 : Nat) : Int), PT γ2_1 k, .int .i64 (((cy (zt (tg (nv (clq K 3) 34) P n m) P n m) k) + ((ar (tg (nv (clq K 3) 34) P n m) P n m k) k) : Nat) : Int), .int .i64 ((((cy (zt (tg (nv (clq K 3) 34) P n m) P n m) k) + ((ar (tg (nv (clq K 3) 34) P n m) P n m k) k)) / 256 : Nat) : Int)]), by rw [← ar_cy (zt_c hlb heb)]; rfl, ⟨H56.out.1, H56.out.2⟩, by omega⟩, by omega⟩
    have hkN : k = 34 := by omega
    subst hkN
    refine wp_seq (wp_seq ?_)
    refine walk_seqB 2 [.quiet (.int .i64 ((34 : Nat) : Int)), .quiet (.bool false)] H30 ?ho46 ?he46
    case ho46 => exact ak (fun _ => ⟨rfl, fun _ _ => rfl⟩) (ak (by refine fun γ => ⟨rfl, fun w' h => ?_⟩; clear h; go_simp <;> omega) trivial)
    intro _ w57 H57
    clear H30
    refine rest0 rfl (then_normal (wp_cond_false rfl ?_))
    refine wp_exit ?_
    repeat refine then_exit ?_
    refine block_exit ?_
    refine then_normal ?_
    refine walk_seqB 3 [.quiet (.agg (ints .i64 (ar (tg (nv (clq K 3) 34) P n m) P n m 34) 34).toArray), .quiet (.agg (ints .i64 (clq K 3) 34).toArray), .call (.agg (ints .i64 (dg (tg (nv (clq K 3) 34) P n (m + 1))) 34).toArray)] H57 ?ho47 ?he47
    case ho47 => exact ak (fun γ => ⟨rfl, fun w' h => ex_loadT h 1 rfl rfl rfl Try.isAgg82 Try.sizeOf82 (ints_whole _ _ _) (ints_len _ _ _)⟩) (ak (fun γ => ⟨rfl, fun w' h => ex_loadT h 0 rfl rfl rfl Try.isAgg82 Try.sizeOf82 (ints_whole _ _ _) (ints_len _ _ _)⟩) (ak (fun γ => ⟨rfl, fun w' h => ⟨53, #[.agg (ints .i64 (ar (tg (nv (clq K 3) 34) P n m) P n m 34) 34).toArray, .agg (ints .i64 (clq K 3) 34).toArray], exec_call rfl call53 rfl (mpn rfl), times_tg K P hK hP n m w'⟩⟩) trivial))
    intro _ w58 H58
    clear H57
    refine rest_at (l := [3]) rfl ?_
    refine rest_store rfl rfl rfl (ex_storeT (vs := ints .i64 (dg (tg (nv (clq K 3) 34) P n (m + 1))) 34) H58.out.1 1 rfl rfl rfl rfl (by rw [ints_len]; exact Try.sizeOf82) (ints_all _ _ _) (by simp [ints_len])) ?_
    have H59 : Hid (Mm (w58.setCells γ2_1 0 (ints .i64 (dg (tg (nv (clq K 3) 34) P n (m + 1))) 34)) [(γ2_0, ints .i64 (clq K 3) 34), (γ2_1, ints .i64 (dg (tg (nv (clq K 3) 34) P n (m + 1))) 34)] ∧ Below w.heap.size w (w58.setCells γ2_1 0 (ints .i64 (dg (tg (nv (clq K 3) 34) P n (m + 1))) 34))) := ⟨by
      have h := H58.out.1.put 1 (off := 0) (vs := ints .i64 (dg (tg (nv (clq K 3) 34) P n (m + 1))) 34) rfl (by simp [ints_len])
      rw [ints_patch0 _ _ _ _] at h
      exact h, below_setCells _ o2_1.out _ _ _ H58.out.2⟩
    clear H58
    generalize hgw : World.setCells _ _ _ _ = w59 at H59 ⊢
    clear hgw
    refine rest_nil (block_normal (then_normal ?_))
    refine walk_seqB 2 [.quiet (.int .i64 ((16 * m : Nat) : Int)), .quiet (.int .i64 (((16 * m) + 16 : Nat) : Int))] H59 ?ho48 ?he48
    case ho48 => exact ak (fun _ => ⟨rfl, fun _ _ => rfl⟩) (ak (by refine fun γ => ⟨rfl, fun w' h => ?_⟩; clear h; go_simp; rw [IntKind.wrap_i64]; omega) trivial)
    intro _ w60 H60
    clear H59
    refine rest_at (l := [2]) rfl ?_
    refine rest_set (d := 10) (v := .int .i64 (((16 * m) + 16 : Nat) : Int)) (w' := w60) rfl rfl rfl rfl ?_
    simp only [Act.put, sa, sz, ss]
    refine rest_nil (then_normal ?_)
    exact ⟨m + 1, ⟨(slotfn [undef, undef, undef, undef, undef, undef, undef, undef, undef, undef, undef, .int .i64 ((bl n m : Nat) : Int), .int .i64 ((cy (zt (tg (nv (clq K 3) 34) P n m) P n m) 34 : Nat) : Int), .int .i64 ((34 : Nat) : Int), undef, undef, undef, undef, undef, undef, undef, undef, undef, undef, undef, undef, undef, undef, undef, undef, undef, undef, undef, undef, undef, undef, undef, undef, undef, undef, undef, undef, undef, undef, undef, undef, undef, undef, undef, undef, undef, undef, .int .i64 ((16 * m : Nat) : Int), .slice pb n cb, .int .i64 ((n : Nat) : Int), .bool true, .int .i64 ((16 * m : Nat) : Int), .int .i64 (((16 * m) + 16 : Nat) : Int), .slice pb n cb, .int .i64 ((n : Nat) : Int), .int .i64 ((16 * m : Nat) : Int), .int .i64 ((n - (16 * m) : Nat) : Int), .int .i64 ((bl n m : Nat) : Int), .int .i64 ((34 : Nat) : Int), .bool false, s8 65, s8 66, s8 67, s8 68, s8 69, s8 70, s8 71, s8 72, s8 73, s8 74, s8 75, s8 76, s8 77, s8 78, s8 79, s8 80, s8 81, s8 82, s8 83, s8 84, s8 85, s8 86, s8 87, s8 88, s8 89, s8 90, s8 91, s8 92, s8 93, s8 94, .agg (ints .i64 (ar (tg (nv (clq K 3) 34) P n m) P n m 34) 34).toArray, .agg (ints .i64 (clq K 3) 34).toArray, .agg (ints .i64 (dg (tg (nv (clq K 3) 34) P n (m + 1))) 34).toArray]), rfl, ⟨H60.out.1, H60.out.2⟩, by omega⟩, by omega⟩
  have hmN0 : m = (n + 15) / 16 := by omega
  have hmN : Hid (m = (n + 15) / 16) := hmN0
  clear hmN0
  refine wp_seq (wp_seq ?_)
  refine walk_seqB 4 [.quiet (.int .i64 ((16 * m : Nat) : Int)), .quiet (.slice pb n cb), .quiet (.int .i64 ((n : Nat) : Int)), .quiet (.bool false)] H25 ?ho49 ?he49
  case ho49 => exact ak (fun _ => ⟨rfl, fun _ _ => rfl⟩) (ak (fun _ => ⟨rfl, fun _ _ => rfl⟩) (ak (by refine fun γ => ⟨rfl, fun w' h => ?_⟩; clear h; go_simp) (ak (by refine fun γ => ⟨rfl, fun w' h => ?_⟩; clear h; go_simp <;> omega) trivial)))
  intro _ w61 H61
  clear H25
  refine rest0 rfl (then_normal (wp_cond_false rfl ?_))
  refine wp_exit ?_
  repeat refine then_exit ?_
  refine block_exit ?_
  refine then_normal (wp_seq ?_)
  refine walk_seqB 1 [.quiet (.slice none 0 0)] H61 ?ho50 ?he50
  case ho50 => exact ak (fun _ => ⟨rfl, fun _ _ => rfl⟩) trivial
  intro _ w62 H62
  clear H61
  refine rest0 rfl (then_normal (wp_seq ?_))
  refine walk_seqB 1 [.quiet (.int .i64 0)] H62 ?ho51 ?he51
  case ho51 => exact ak (fun _ => ⟨rfl, fun _ _ => rfl⟩) trivial
  intro _ w63 H63
  clear H62
  refine rest0 rfl (then_normal (wp_seq (wp_seq ?_)))
  refine walk_seqB 1 [.quiet (.int .i64 0)] H63 ?ho52 ?he52
  case ho52 => exact ak (fun _ => ⟨rfl, fun _ _ => rfl⟩) trivial
  intro _ w64 H64
  clear H63
  refine rest0 rfl (then_normal (wp_block ?_))
  refine loop_ghost (α := Nat) (fun j a' w' => ∃ s10 : Nat → Value, a' = ⟨#[.slice (some ⟨gk, ok, none⟩) 32 ck, .slice pb n cb, undef, undef, .slice none 0 0, PT γ2_0 0, PT γ2_1 0, .int .i64 ((16 : Nat) : Int), .int .i64 ((3 + (4 * 4) : Nat) : Int), .int .i64 ((4 + (4 * 3) : Nat) : Int), .int .i64 ((16 * m : Nat) : Int), s6 11, s6 12, s6 13, s10 14, .int .i64 ((cy (z2 (tg (nv (clq K 3) 34) P n m) K) j : Nat) : Int), .int .i64 ((j : Nat) : Int), .int .i64 ((16 : Nat) : Int), .bool false, s0 19, s0 20, s0 21, s0 22, s0 23, s0 24, s0 25, s0 26, s0 27, .int .i64 ((3 + (4 * 4) : Nat) : Int), .bool false, s2 30, s2 31, s2 32, s2 33, s2 34, s2 35, s2 36, s2 37, .int .i64 ((4 + (4 * 3) : Nat) : Int), .bool false, s4 40, s4 41, s4 42, s4 43, s4 44, s4 45, s4 46, s4 47, s4 48, s4 49, s4 50, s4 51, .int .i64 ((16 * m : Nat) : Int), .slice pb n cb, .int .i64 ((n : Nat) : Int), .bool false, s6 56, s6 57, s6 58, s6 59, s6 60, s6 61, s6 62, s6 63, s6 64, s6 65, s6 66, s6 67, s6 68, s6 69, s6 70, s6 71, s6 72, s6 73, s6 74, s6 75, s6 76, s6 77, s6 78, s6 79, s6 80, s6 81, s6 82, s6 83, s6 84, s6 85, s6 86, s6 87, s6 88, s6 89, s6 90, s6 91, s6 92, s6 93, s6 94, s6 95, s6 96, s6 97, s10 98, s10 99, s10 100, s10 101, s10 102, s10 103, s10 104, s10 105, s10 106, s10 107, s10 108, s10 109, s10 110, s10 111, s10 112, s10 113, s10 114, s10 115, s10 116, s10 117, s10 118, s10 119, s10 120, s10 121, undef], []⟩ ∧ (Mm w' [(γ2_0, ints .i64 (clq K 3) 34), (γ2_1, ints .i64 (dg (tg (nv (clq K 3) 34) P n m)) 34)] ∧ Zo w w64.heap.size [(γ2_0, ints .i64 (clq K 3) 34), (γ2_1, ints .i64 (dg (tg (nv (clq K 3) 34) P n m)) 34)] (s10 14) j (tb (tg (nv (clq K 3) 34) P n m) K) w') ∧ j ≤ 16) (fun j => 16 - j) 0 ?st10 ?rd10
  case st10 => exact ⟨(slotfn [undef, undef, undef, undef, undef, undef, undef, undef, undef, undef, undef, undef, undef, undef, .slice none 0 0, undef, undef, undef, undef, undef, undef, undef, undef, undef, undef, undef, undef, undef, undef, undef, undef, undef, undef, undef, undef, undef, undef, undef, undef, undef, undef, undef, undef, undef, undef, undef, undef, undef, undef, undef, undef, undef, undef, undef, undef, undef, undef, undef, undef, undef, undef, undef, undef, undef, undef, undef, undef, undef, undef, undef, undef, undef, undef, undef, undef, undef, undef, undef, undef, undef, undef, undef, undef, undef, undef, undef, undef, undef, undef, undef, undef, undef, undef, undef, undef, undef, undef, undef, undef, undef, undef, undef, undef, undef, undef, undef, undef, undef, undef, undef, undef, undef, undef, undef, undef, undef, undef, undef, undef, undef, undef, undef]), rfl, ⟨H64.out.1, Zo.begin (tb (tg (nv (clq K 3) 34) P n m) K) H64.out.1 H64.out.2⟩, by omega⟩
  intro j a' w65 hI
  obtain ⟨s10, rfl, hMB, hk10⟩ := hI
  have H65 : Hid (_ ∧ _) := hMB
  clear hMB H64
  by_cases hltj : j < 16
  · have hrd : True := trivial
    clear hrd
    have hc := cy_le (z2_le (tg (nv (clq K 3) 34) P n m) hK) (C := 1) (by decide) j
    have hd := dg_lt (tg (nv (clq K 3) 34) P n m) j
    have hk := hK (16 + j)
    refine wp_seq (wp_seq ?_)
    refine walk_seqA 2 [.quiet (.int .i64 ((j : Nat) : Int)), .quiet (.bool true)] (sB H65) ?ho53 ?he53
    case ho53 => exact ak (fun _ => ⟨rfl, fun _ _ => rfl⟩) (ak (by refine fun γ => ⟨rfl, fun w' h => ?_⟩; clear h; go_simp <;> omega) trivial)
    intro γ w66 l hM hl
    have M66 : Mm w66 [(γ2_0, ints .i64 (clq K 3) 34), (γ2_1, ints .i64 (dg (tg (nv (clq K 3) 34) P n m)) 34)] := H65.out.1.grow hM (Nat.le_refl _) hl [] rfl (by decide)
    have B66 : Zo w w64.heap.size [(γ2_0, ints .i64 (clq K 3) 34), (γ2_1, ints .i64 (dg (tg (nv (clq K 3) 34) P n m)) 34)] (s10 14) j (tb (tg (nv (clq K 3) 34) P n m) K) w66 := Zo.step H65.out.2 (hM.below)
    clear hM hl l H65
    clear γ
    have H66 : Hid (_ ∧ _) := ⟨M66, B66⟩
    clear M66 B66
    refine rest0 rfl (then_normal (wp_cond_true rfl ?_))
    refine wp_skip (then_normal ?_)
    refine wp_seq (wp_block (wp_seq ?_))
    refine (walk_any) (by kernel_rfl) 12 [.quiet (.int .i64 ((cy (z2 (tg (nv (clq K 3) 34) P n m) K) j : Nat) : Int)), .quiet (.int .i64 ((j : Nat) : Int)), .quiet (PT γ2_1 j), .quiet (.int .i64 (((dg (tg (nv (clq K 3) 34) P n m)) j : Nat) : Int)), .quiet (.int .i64 (((cy (z2 (tg (nv (clq K 3) 34) P n m) K) j) + ((dg (tg (nv (clq K 3) 34) P n m)) j) : Nat) : Int)), .quiet (.slice (some ⟨gk, ok, none⟩) 32 ck), .quiet (.int .i64 ((j : Nat) : Int)), .quiet (.int .i64 ((16 + j : Nat) : Int)), .quiet (PT gk (ok + (16 + j))), .quiet (Z8 (K (16 + j))), .quiet (.int .i64 ((K (16 + j) : Nat) : Int)), .quiet (.int .i64 ((((cy (z2 (tg (nv (clq K 3) 34) P n m) K) j) + ((dg (tg (nv (clq K 3) 34) P n m)) j)) + (K (16 + j)) : Nat) : Int))] (fun u' => Mm u' [(γ2_0, ints .i64 (clq K 3) 34), (γ2_1, ints .i64 (dg (tg (nv (clq K 3) 34) P n m)) 34)] ∧ (Rs gk ok 32 K u' ∧ Rs gb ob n P u')) ?pre54 ?F54 ?hpre54 (fun γ => ?hF54) (by kernel_rfl) ?hL54 ?hS54 ?ho54 ?he54
    case hpre54 => simp only [tk, tz]; rfl
    case hF54 => simp only [fill, Kind.val, Act.put, sa, sz, ss]; rfl
    case hL54 => exact trivial
    case hS54 => exact fun w' hb => ⟨H66.out.1.below hb, ⟨RK.out.below (Zo.step H66.out.2 (hb)).b, RN.out.below (Zo.step H66.out.2 (hb)).b⟩⟩
    case ho54 =>
      refine ak (fun _ => ⟨rfl, fun _ _ => rfl⟩) ?_
      refine ak (fun _ => ⟨rfl, fun _ _ => rfl⟩) ?_
      refine ak (fun γ => ⟨rfl, fun w' _ => ex_ix0_82 (j := j) rfl rfl rfl (by omega)⟩) ?_
      refine ak (fun γ => ⟨rfl, fun w' hX => have h := hX.1; ex_loadC h 1 rfl rfl rfl Try.isAgg3 (ints_get _ _ (by omega))⟩) ?_
      refine ak (by refine fun γ => ⟨rfl, fun w' h => ?_⟩; clear h; go_simp; rw [IntKind.wrap_i64]; omega) ?_
      refine ak (fun _ => ⟨rfl, fun _ _ => rfl⟩) ?_
      refine ak (fun _ => ⟨rfl, fun _ _ => rfl⟩) ?_
      refine ak (by refine fun γ => ⟨rfl, fun w' h => ?_⟩; clear h; go_simp; rw [IntKind.wrap_i64]; omega) ?_
      refine ak (fun γ => ⟨rfl, fun w' _ => ex_ixS22 (m := 32) (j := 16 + j) rfl rfl rfl (by omega)⟩) ?_
      refine ak (fun γ => ⟨rfl, fun w' hX => ex_ldR (k := 16 + j) hX.2.1 (by omega) rfl rfl⟩) ?_
      refine ak (fun γ => ⟨rfl, fun w' _ => ex_cv5_3 (hK _) rfl rfl⟩) ?_
      refine ak (by refine fun γ => ⟨rfl, fun w' h => ?_⟩; clear h; go_simp; rw [IntKind.wrap_i64]; omega) ?_
      exact trivial
    intro γ w67 l hM hl
    have M67 : Mm w67 [(γ2_0, ints .i64 (clq K 3) 34), (γ2_1, ints .i64 (dg (tg (nv (clq K 3) 34) P n m)) 34)] := H66.out.1.grow hM (Nat.le_refl _) hl [] rfl (by decide)
    have B67 : Zo w w64.heap.size [(γ2_0, ints .i64 (clq K 3) 34), (γ2_1, ints .i64 (dg (tg (nv (clq K 3) 34) P n m)) 34)] (s10 14) j (tb (tg (nv (clq K 3) 34) P n m) K) w67 := Zo.step H66.out.2 (hM.below)
    clear hM hl l H66
    clear γ
    have H67 : Hid (_ ∧ _) := ⟨M67, B67⟩
    clear M67 B67
    refine rest_at (l := [12]) rfl ?_
    refine rest_set (d := 15) (v := .int .i64 ((((cy (z2 (tg (nv (clq K 3) 34) P n m) K) j) + ((dg (tg (nv (clq K 3) 34) P n m)) j)) + (K (16 + j)) : Nat) : Int)) (w' := w67) rfl rfl rfl rfl ?_
    simp only [Act.put, sa, sz, ss]
    refine rest_nil (then_normal (wp_seq ?_))
    refine walk_seqA 4 [.quiet (s10 14), .quiet (.int .i64 ((((cy (z2 (tg (nv (clq K 3) 34) P n m) K) j) + ((dg (tg (nv (clq K 3) 34) P n m)) j)) + (K (16 + j)) : Nat) : Int)), .quiet (.int .i64 (((((cy (z2 (tg (nv (clq K 3) 34) P n m) K) j) + ((dg (tg (nv (clq K 3) 34) P n m)) j)) + (K (16 + j))) % 256 : Nat) : Int)), .quiet (Z8 (((((cy (z2 (tg (nv (clq K 3) 34) P n m) K) j) + ((dg (tg (nv (clq K 3) 34) P n m)) j)) + (K (16 + j))) % 256) % 256))] (sB H67) ?ho55 ?he55
    case ho55 => exact ak (fun _ => ⟨rfl, fun _ _ => rfl⟩) (ak (fun _ => ⟨rfl, fun _ _ => rfl⟩) (ak (fun γ => ⟨rfl, fun w' _ => ex_rem3 (a := ((cy (z2 (tg (nv (clq K 3) 34) P n m) K) j) + ((dg (tg (nv (clq K 3) 34) P n m)) j)) + (K (16 + j))) (b := 256) (by omega) (by omega) rfl rfl rfl⟩) (ak (fun γ => ⟨rfl, fun w' _ => ex_cv3_5 (a := (((cy (z2 (tg (nv (clq K 3) 34) P n m) K) j) + ((dg (tg (nv (clq K 3) 34) P n m)) j)) + (K (16 + j))) % 256) rfl rfl⟩) trivial)))
    intro γ w68 l hM hl
    have M68 : Mm w68 [(γ2_0, ints .i64 (clq K 3) 34), (γ2_1, ints .i64 (dg (tg (nv (clq K 3) 34) P n m)) 34)] := H67.out.1.grow hM (Nat.le_refl _) hl [] rfl (by decide)
    have B68 : Zo w w64.heap.size [(γ2_0, ints .i64 (clq K 3) 34), (γ2_1, ints .i64 (dg (tg (nv (clq K 3) 34) P n m)) 34)] (s10 14) j (tb (tg (nv (clq K 3) 34) P n m) K) w68 := Zo.step H67.out.2 (hM.below)
    clear hM hl l H67
    clear γ
    have H68 : Hid (_ ∧ _) := ⟨M68, B68⟩
    clear M68 B68
    refine rest_at (l := [4, 5, 6]) rfl ?_
    refine rest_set (d := 118) (v := .slice (some ⟨w68.heap.size, 0, none⟩) 1 1) (w' := (w68.alloc (.cells (ints .u8 (fun _ => ((((cy (z2 (tg (nv (clq K 3) 34) P n m) K) j) + ((dg (tg (nv (clq K 3) 34) P n m)) j)) + (K (16 + j))) % 256) % 256) 1).toArray 5))) rfl rfl rfl (ex_bsr1 (a := ((((cy (z2 (tg (nv (clq K 3) 34) P n m) K) j) + ((dg (tg (nv (clq K 3) 34) P n m)) j)) + (K (16 + j))) % 256) % 256) rfl rfl) ?_
    simp only [Act.put, sa, sz, ss]
    have H69 : Hid (Mm (w68.alloc (.cells (ints .u8 (fun _ => ((((cy (z2 (tg (nv (clq K 3) 34) P n m) K) j) + ((dg (tg (nv (clq K 3) 34) P n m)) j)) + (K (16 + j))) % 256) % 256) 1).toArray 5)) [(γ2_0, ints .i64 (clq K 3) 34), (γ2_1, ints .i64 (dg (tg (nv (clq K 3) 34) P n m)) 34)] ∧ Zo w w64.heap.size [(γ2_0, ints .i64 (clq K 3) 34), (γ2_1, ints .i64 (dg (tg (nv (clq K 3) 34) P n m)) 34)] (s10 14) j (tb (tg (nv (clq K 3) 34) P n m) K) (w68.alloc (.cells (ints .u8 (fun _ => ((((cy (z2 (tg (nv (clq K 3) 34) P n m) K) j) + ((dg (tg (nv (clq K 3) 34) P n m)) j)) + (K (16 + j))) % 256) % 256) 1).toArray 5))) := ⟨H68.out.1.below ((Below.refl _ _).alloc (Nat.le_refl _) _), Zo.step H68.out.2 ((Below.refl _ _).alloc (Nat.le_refl _) _)⟩
    have c69 := cell_row w68 (fun _ => ((((cy (z2 (tg (nv (clq K 3) 34) P n m) K) j) + ((dg (tg (nv (clq K 3) 34) P n m)) j)) + (K (16 + j))) % 256) % 256) 1
    have C69 : Hid _ := c69
    clear c69 H68
    generalize hgw : (w68.alloc (.cells (ints .u8 (fun _ => ((((cy (z2 (tg (nv (clq K 3) 34) P n m) K) j) + ((dg (tg (nv (clq K 3) 34) P n m)) j)) + (K (16 + j))) % 256) % 256) 1).toArray 5)) = w69 at H69 C69 ⊢
    clear hgw
    generalize w68.heap.size = γs69 at C69 ⊢
    obtain ⟨v70, w70, hr, hZ⟩ := H69.out.2.app (a := ⟨γs69, 0, none⟩) 1 1 (fun _ => ((((cy (z2 (tg (nv (clq K 3) 34) P n m) K) j) + ((dg (tg (nv (clq K 3) 34) P n m)) j)) + (K (16 + j))) % 256) % 256) (C69.out) (by omega) 22
    refine rest_set (d := 119) (v := v70) (w' := w70) rfl rfl rfl (ex_app rfl rfl rfl hr) ?_
    simp only [Act.put, sa, sz, ss]
    have H70 : Hid (Mm w70 [(γ2_0, ints .i64 (clq K 3) 34), (γ2_1, ints .i64 (dg (tg (nv (clq K 3) 34) P n m)) 34)] ∧ Zo w w64.heap.size [(γ2_0, ints .i64 (clq K 3) 34), (γ2_1, ints .i64 (dg (tg (nv (clq K 3) 34) P n m)) 34)] v70 (j + 1) (tb (tg (nv (clq K 3) 34) P n m) K) w70) := ⟨hZ.m, hZ.cg (ct_snoc (tb_at (tg (nv (clq K 3) 34) P n m) K j))⟩
    clear hr hZ H69
    refine rest_set (d := 14) (v := v70) (w' := w70) rfl rfl rfl rfl ?_
    simp only [Act.put, sa, sz, ss]
    refine rest_nil (then_normal ?_)
    refine walk_seqA 2 [.quiet (.int .i64 ((((cy (z2 (tg (nv (clq K 3) 34) P n m) K) j) + ((dg (tg (nv (clq K 3) 34) P n m)) j)) + (K (16 + j)) : Nat) : Int)), .quiet (.int .i64 (((((cy (z2 (tg (nv (clq K 3) 34) P n m) K) j) + ((dg (tg (nv (clq K 3) 34) P n m)) j)) + (K (16 + j))) / 256 : Nat) : Int))] (sB H70) ?ho56 ?he56
    case ho56 => exact ak (fun _ => ⟨rfl, fun _ _ => rfl⟩) (ak (fun γ => ⟨rfl, fun w' _ => ex_quo3 (a := ((cy (z2 (tg (nv (clq K 3) 34) P n m) K) j) + ((dg (tg (nv (clq K 3) 34) P n m)) j)) + (K (16 + j))) (b := 256) (by omega) (by omega) rfl rfl rfl⟩) trivial)
    intro γ w71 l hM hl
    have M71 : Mm w71 [(γ2_0, ints .i64 (clq K 3) 34), (γ2_1, ints .i64 (dg (tg (nv (clq K 3) 34) P n m)) 34)] := H70.out.1.grow hM (Nat.le_refl _) hl [] rfl (by decide)
    have B71 : Zo w w64.heap.size [(γ2_0, ints .i64 (clq K 3) 34), (γ2_1, ints .i64 (dg (tg (nv (clq K 3) 34) P n m)) 34)] v70 (j + 1) (tb (tg (nv (clq K 3) 34) P n m) K) w71 := Zo.step H70.out.2 (hM.below)
    clear hM hl l H70
    clear γ
    have H71 : Hid (_ ∧ _) := ⟨M71, B71⟩
    clear M71 B71
    refine rest_at (l := [2]) rfl ?_
    refine rest_set (d := 15) (v := .int .i64 (((((cy (z2 (tg (nv (clq K 3) 34) P n m) K) j) + ((dg (tg (nv (clq K 3) 34) P n m)) j)) + (K (16 + j))) / 256 : Nat) : Int)) (w' := w71) rfl rfl rfl rfl ?_
    simp only [Act.put, sa, sz, ss]
    refine rest_nil (block_normal (then_normal ?_))
    refine walk_seqA 2 [.quiet (.int .i64 ((j : Nat) : Int)), .quiet (.int .i64 ((j + 1 : Nat) : Int))] (sB H71) ?ho57 ?he57
    case ho57 => exact ak (fun _ => ⟨rfl, fun _ _ => rfl⟩) (ak (by refine fun γ => ⟨rfl, fun w' h => ?_⟩; clear h; go_simp; rw [IntKind.wrap_i64]; omega) trivial)
    intro γ w72 l hM hl
    have M72 : Mm w72 [(γ2_0, ints .i64 (clq K 3) 34), (γ2_1, ints .i64 (dg (tg (nv (clq K 3) 34) P n m)) 34)] := H71.out.1.grow hM (Nat.le_refl _) hl [] rfl (by decide)
    have B72 : Zo w w64.heap.size [(γ2_0, ints .i64 (clq K 3) 34), (γ2_1, ints .i64 (dg (tg (nv (clq K 3) 34) P n m)) 34)] v70 (j + 1) (tb (tg (nv (clq K 3) 34) P n m) K) w72 := Zo.step H71.out.2 (hM.below)
    clear hM hl l H71
    clear γ
    have H72 : Hid (_ ∧ _) := ⟨M72, B72⟩
    clear M72 B72
    refine rest_at (l := [2]) rfl ?_
    refine rest_set (d := 16) (v := .int .i64 ((j + 1 : Nat) : Int)) (w' := w72) rfl rfl rfl rfl ?_
    simp only [Act.put, sa, sz, ss]
    refine rest_nil (then_normal ?_)
    exact ⟨j + 1, ⟨(slotfn [undef, undef, undef, undef, undef, undef, undef, undef, undef, undef, undef, undef, undef, undef, v70, undef, undef, undef, undef, undef, undef, undef, undef, undef, undef, undef, undef, undef, undef, undef, undef, undef, undef, undef, undef, undef, undef, undef, undef, undef, undef, undef, undef, undef, undef, undef, undef, undef, undef, undef, undef, undef, undef, undef, undef, undef, undef, undef, undef, undef, undef, undef, undef, undef, undef, undef, undef, undef, undef, undef, undef, undef, undef, undef, undef, undef, undef, undef, undef, undef, undef, undef, undef, undef, undef, undef, undef, undef, undef, undef, undef, undef, undef, undef, undef, undef, undef, undef, .int .i64 ((j : Nat) : Int), .bool true, .int .i64 ((j : Nat) : Int), .int .i64 ((j + 1 : Nat) : Int), .int .i64 ((cy (z2 (tg (nv (clq K 3) 34) P n m) K) j : Nat) : Int), .int .i64 ((j : Nat) : Int), PT γ2_1 j, .int .i64 (((dg (tg (nv (clq K 3) 34) P n m)) j : Nat) : Int), .int .i64 (((cy (z2 (tg (nv (clq K 3) 34) P n m) K) j) + ((dg (tg (nv (clq K 3) 34) P n m)) j) : Nat) : Int), .slice (some ⟨gk, ok, none⟩) 32 ck, .int .i64 ((j : Nat) : Int), .int .i64 ((16 + j : Nat) : Int), PT gk (ok + (16 + j)), Z8 (K (16 + j)), .int .i64 ((K (16 + j) : Nat) : Int), .int .i64 ((((cy (z2 (tg (nv (clq K 3) 34) P n m) K) j) + ((dg (tg (nv (clq K 3) 34) P n m)) j)) + (K (16 + j)) : Nat) : Int), s10 14, .int .i64 ((((cy (z2 (tg (nv (clq K 3) 34) P n m) K) j) + ((dg (tg (nv (clq K 3) 34) P n m)) j)) + (K (16 + j)) : Nat) : Int), .int .i64 (((((cy (z2 (tg (nv (clq K 3) 34) P n m) K) j) + ((dg (tg (nv (clq K 3) 34) P n m)) j)) + (K (16 + j))) % 256 : Nat) : Int), Z8 (((((cy (z2 (tg (nv (clq K 3) 34) P n m) K) j) + ((dg (tg (nv (clq K 3) 34) P n m)) j)) + (K (16 + j))) % 256) % 256), .slice (some ⟨γs69, 0, none⟩) 1 1, v70, .int .i64 ((((cy (z2 (tg (nv (clq K 3) 34) P n m) K) j) + ((dg (tg (nv (clq K 3) 34) P n m)) j)) + (K (16 + j)) : Nat) : Int), .int .i64 (((((cy (z2 (tg (nv (clq K 3) 34) P n m) K) j) + ((dg (tg (nv (clq K 3) 34) P n m)) j)) + (K (16 + j))) / 256 : Nat) : Int)]), by rw [← tb_cy (tg (nv (clq K 3) 34) P n m) K j]; rfl, ⟨H72.out.1, H72.out.2⟩, by omega⟩, by omega⟩
  have hjN : j = 16 := by omega
  subst hjN
  obtain ⟨g3, cap3, e3⟩ := H65.out.2.form (by decide)
  rw [e3] at H65 ⊢
  refine wp_seq (wp_seq ?_)
  refine walk_seqA 2 [.quiet (.int .i64 ((16 : Nat) : Int)), .quiet (.bool false)] (sB H65) ?ho58 ?he58
  case ho58 => exact ak (fun _ => ⟨rfl, fun _ _ => rfl⟩) (ak (by refine fun γ => ⟨rfl, fun w' h => ?_⟩; clear h; go_simp <;> omega) trivial)
  intro γ w73 l hM hl
  have M73 : Mm w73 [(γ2_0, ints .i64 (clq K 3) 34), (γ2_1, ints .i64 (dg (tg (nv (clq K 3) 34) P n m)) 34)] := H65.out.1.grow hM (Nat.le_refl _) hl [] rfl (by decide)
  have B73 : Zo w w64.heap.size [(γ2_0, ints .i64 (clq K 3) 34), (γ2_1, ints .i64 (dg (tg (nv (clq K 3) 34) P n m)) 34)] (.slice (some ⟨g3, 0, none⟩) 16 cap3) 16 (tb (tg (nv (clq K 3) 34) P n m) K) w73 := Zo.step H65.out.2 (hM.below)
  clear hM hl l H65
  clear γ
  have H73 : Hid (_ ∧ _) := ⟨M73, B73⟩
  clear M73 B73
  refine rest0 rfl (then_normal (wp_cond_false rfl ?_))
  refine wp_exit ?_
  repeat refine then_exit ?_
  refine block_exit ?_
  refine then_normal (wp_seq ?_)
  refine walk_seqA 2 [.quiet (.slice (some ⟨g3, 0, none⟩) 16 cap3), .quiet (.slice (some ⟨g3, 0, none⟩) 16 cap3)] (sB H73) ?ho59 ?he59
  case ho59 => exact ak (fun _ => ⟨rfl, fun _ _ => rfl⟩) (ak (fun _ => ⟨rfl, fun _ _ => rfl⟩) trivial)
  intro γ w74 l hM hl
  have M74 : Mm w74 [(γ2_0, ints .i64 (clq K 3) 34), (γ2_1, ints .i64 (dg (tg (nv (clq K 3) 34) P n m)) 34)] := H73.out.1.grow hM (Nat.le_refl _) hl [] rfl (by decide)
  have B74 : Zo w w64.heap.size [(γ2_0, ints .i64 (clq K 3) 34), (γ2_1, ints .i64 (dg (tg (nv (clq K 3) 34) P n m)) 34)] (.slice (some ⟨g3, 0, none⟩) 16 cap3) 16 (tb (tg (nv (clq K 3) 34) P n m) K) w74 := Zo.step H73.out.2 (hM.below)
  clear hM hl l H73
  clear γ
  have H74 : Hid (_ ∧ _) := ⟨M74, B74⟩
  clear M74 B74
  refine rest0 rfl (then_normal (wp_ret ?_))
  repeat (first | refine then_ret ?_ | refine block_ret ?_)
  refine bodyPost_ret (v := .slice (some ⟨g3, 0, none⟩) 16 cap3) (by simp [results, Try.results38, go_sem, *]) rfl ?_
  exact ⟨H74.out.2.b, g3, cap3, rfl, by rw [← hmN.out]; exact own_mono H74.out.2.own H74.out.2.lo⟩
end Rg
end Go.Proofs.Ytkkippfikfjdpaa
end
