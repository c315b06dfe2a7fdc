/- Texts of the proof, joined. -/
import Derived.Test.YtkkippfikfjdpaaP6
import Derived.Laws.Externs
import Derived.Laws.Bits64b
import Derived.Laws.BitsAll
import Derived.WalkKit
import Derived.WalkSpells
import Derived.Laws.Cover3
section
namespace Go.Proofs.Ytkkippfikfjdpaa
open Go.RowKit
namespace Rg
set_option maxRecDepth 100000
theorem andNot3 (a : Nat) (ha : a < 18446744073709551616) : bits .andNot .u64 (a : Int) 3 = ((a - a % 4 : Nat) : Int) := by
  have e := u64_andNot_nat a 3 ha (by decide)
  have h : a &&& (18446744073709551615 - 3) = a - a % 4 := by
    have h1 := Nat.and_div_two_pow (a := a) (b := 18446744073709551612) (n := 2)
    have h2 := Nat.and_mod_two_pow (a := a) (b := 18446744073709551612) (n := 2)
    have h3 := Nat.and_two_pow_sub_one_eq_mod (a / 2 ^ 2) 62
    rw [show 18446744073709551612 / 2 ^ 2 = 2 ^ 62 - 1 from rfl, h3] at h1
    rw [show 18446744073709551612 % 2 ^ 2 = 0 from rfl, Nat.and_zero] at h2
    show a &&& 18446744073709551612 = _
    omega
  rw [h] at e
  exact e
theorem and3 (a : Nat) : a &&& 3 = a % 4 := Nat.and_two_pow_sub_one_eq_mod a 2
theorem fo_lt (P : Nat → Nat) (l : Nat) : fo P l < 4294967296 := Nat.mod_lt _ (by decide)
theorem num64_eq {P : Nat → Nat} (hP : ∀ j, P j < 256) (l : Nat) : (fo P l ||| c64 (fo P (l + 4) * 2 ^ 32)) = nv (fun j => P (l + j)) 8 := by
  have h4 := fo_lt P l
  have h5 := fo_lt P (l + 4)
  have e : c64 (fo P (l + 4) * 2 ^ 32) = fo P (l + 4) * 2 ^ 32 := Nat.mod_eq_of_lt (by omega)
  rw [e, or_lo (by omega), fo_nv hP, fo_nv hP, nv_split (fun j => P (l + j)) 4 4]
  rw [show (2 : Nat) ^ 32 = 256 ^ 4 from rfl, Nat.mul_comm]
  congr 2 <;> exact nv_cg 4 (fun i _ => by rw [Nat.add_assoc])
theorem fold_or {t2 t3' : Nat} (h2 : t2 < 18446744073709551616) : (sr t2 2 ||| c64 (t3' * 2 ^ 62)) = t2 / 4 + t3' % 4 * 4611686018427387904 := by
  have e : c64 (t3' * 2 ^ 62) = (t3' % 4) * 2 ^ 62 := by
    unfold c64
    omega
  have h : sr t2 2 < 2 ^ 62 := by
    unfold sr
    omega
  rw [e, or_lo h]
  rfl
section
variable {ρ : Operand → Value} {o : Oper} {x y : Operand} {a b k : Nat} {w : World} {f : Nat → Nat} {a0 a1 a2 : Operand} {p q r : Nat}
theorem add64N (x y c : Nat) (hc : c ≤ 1) (w : World) : (callFunc 60 #[U x, U y, U c]).run Try.prog w = .ok (.value (.tuple #[U (plo x y c), U (phi x y c)])) w := by
  have h := run_callFunc_extern Try.func60 (by kernel_rfl) (by kernel_rfl) (by kernel_rfl) (e := add64Entry) (by kernel_rfl) #[.int .u64 x, .int .u64 y, .int .u64 c] w
  rw [run_add64 x y c (by omega) (by omega) (by omega) (by omega)] at h
  rw [h]
  unfold plo phi
  have e1 : ((x : Int) + y + c) % 18446744073709551616 = (((x + y + c) % 18446744073709551616 : Nat) : Int) := by omega
  have e2 : ((x : Int) + y + c) / 18446744073709551616 = (((x + y + c) / 18446744073709551616 : Nat) : Int) := by omega
  rw [e1, e2]
  rfl
theorem mul64N (x y : Nat) (hx : x < 18446744073709551616) (hy : y < 18446744073709551616) (w : World) :
    Calls Try.prog 65 #[U x, U y] w fun e w' => e = .returned (.tuple #[U (x * y / 18446744073709551616), U (x * y % 18446744073709551616)]) ∧ Below w.heap.size w w' :=
  Calls.mono (Any.bits_Mul64 Try.lays264 x y hx hy w) (fun _ _ h => ⟨h.1, by rw [h.2]; exact Below.refl _ _⟩)
theorem ex_cv32_64 (h : a < 4294967296) (ho : o.op = .convert 23 57 x) (hx : ρ x = W32 a) : (execOp ρ o).run Try.prog w = .ok (.value (U a)) w := by
  simp only [execOp, ho, hx]
  clear ho hx
  go_simp
  rw [IntKind.wrap_u64]
  omega
theorem ex_shl64 {ik : IntKind} {t : TypeId} (hk : k < 64) (ho : o.op = .binOp .shl 57 x y t) (hx : ρ x = U a) (hy : ρ y = .int ik (k : Int)) : (execOp ρ o).run Try.prog w = .ok (.value (U (c64 (a * 2 ^ k)))) w := by
  have h1 : (k : Int) < 64 := by omega
  have h2 : ¬ (k : Int) < 0 := by omega
  simp only [execOp, ho, hx, hy]
  clear ho hx hy
  go_simp
  rw [IntKind.wrap_u64]
  unfold c64
  simp
theorem ex_or64 (ha : a < 18446744073709551616) (hb : b < 18446744073709551616) (ho : o.op = .binOp .or 57 x y 57) (hx : ρ x = U a) (hy : ρ y = U b) : (execOp ρ o).run Try.prog w = .ok (.value (U (a ||| b))) w := by
  have e := bits_or_u64_nat a b ha hb
  simp only [execOp, ho, hx, hy]
  clear ho hx hy
  go_simp
  first | done | exact e
theorem ex_and64 (ha : a < 18446744073709551616) (hb : b < 18446744073709551616) (ho : o.op = .binOp .and 57 x y 57) (hx : ρ x = U a) (hy : ρ y = U b) : (execOp ρ o).run Try.prog w = .ok (.value (U (a &&& b))) w := by
  have e := bits_and_u64_nat a b ha hb
  simp only [execOp, ho, hx, hy]
  clear ho hx hy
  go_simp
  first | done | exact e
theorem ex_andNot3 (ha : a < 18446744073709551616) (ho : o.op = .binOp .andNot 57 x y 57) (hx : ρ x = U a) (hy : ρ y = U 3) : (execOp ρ o).run Try.prog w = .ok (.value (U (a - a % 4))) w := by
  have e : bits .andNot .u64 (a : Int) 3 = ((a - a % 4 : Nat) : Int) := andNot3 a ha
  simp only [execOp, ho, hx, hy]
  clear ho hx hy
  go_simp
  first | done | exact e
theorem ex_mk59 (ho : o.op = .alloc 59) : (execOp ρ o).run Try.prog w = .ok (.value (.pointer (some ⟨w.heap.size, 0, none⟩))) (w.alloc (.cells (ints .u64 (fun _ => 0) 3).toArray 59)) := by
  simp only [execOp, ho]
  go_simp
  rfl
theorem ex_mk61 (ho : o.op = .alloc 61) : (execOp ρ o).run Try.prog w = .ok (.value (.pointer (some ⟨w.heap.size, 0, none⟩))) (w.alloc (.cells (ints .u64 (fun _ => 0) 9).toArray 61)) := by
  simp only [execOp, ho]
  go_simp
  rfl
theorem ex_n1 (ho : o.op = .build 59 #[(0, a0)]) (h0 : ρ a0 = U p) : (execOp ρ o).run Try.prog w = .ok (.value (V (ints .u64 (t3 p 0 0) 3))) w := by
  simp only [execOp, ho, List.map_toArray, List.map_cons, List.map_nil, h0]
  kernel_rfl
theorem ex_n2 (ho : o.op = .build 59 #[(0, a0), (1, a1)]) (h0 : ρ a0 = U p) (h1 : ρ a1 = U q) : (execOp ρ o).run Try.prog w = .ok (.value (V (ints .u64 (t3 p q 0) 3))) w := by
  simp only [execOp, ho, List.map_toArray, List.map_cons, List.map_nil, h0, h1]
  kernel_rfl
theorem ex_n3 (ho : o.op = .build 59 #[(0, a0), (1, a1), (2, a2)]) (h0 : ρ a0 = U p) (h1 : ρ a1 = U q) (h2 : ρ a2 = U r) : (execOp ρ o).run Try.prog w = .ok (.value (V (ints .u64 (t3 p q r) 3))) w := by
  simp only [execOp, ho, List.map_toArray, List.map_cons, List.map_nil, h0, h1, h2]
  kernel_rfl
theorem ex_f2 (ho : o.op = .field 59 x 2) (hx : ρ x = V (ints .u64 f 3)) : (execOp ρ o).run Try.prog w = .ok (.value (U (f 2))) w := by
  simp only [execOp, ho, hx]
  kernel_rfl
end
theorem call51 : ∀ args w, (callFunc 51 args).run Try.prog w = .ok (.enter 51 args) w := by intro args w; go_simp
theorem call63 : ∀ args w, (callFunc 63 args).run Try.prog w = .ok (.enter 63 args) w := by intro args w; go_simp
theorem call64 : ∀ args w, (callFunc 64 args).run Try.prog w = .ok (.enter 64 args) w := by intro args w; go_simp
theorem call65 : ∀ args w, (callFunc 65 args).run Try.prog w = .ok (.enter 65 args) w := by intro args w; go_simp
set_option maxHeartbeats 1000000 in
set_option maxRecDepth 100000 in
theorem num64_raw (P : Nat → Nat) (g o n cp : Nat) (hn : 8 ≤ n) (hc : n ≤ cp) (w : World) (hR : Rs g o n P w) :
    Calls Try.prog 49 #[.slice (some ⟨g, o, none⟩) n cp] w fun e w' => e = .returned (U ((fo P 0) ||| (c64 ((fo P 4) * 2 ^ 32)))) ∧ Below w.heap.size w w' := by
  have H0 : Hid (_ ∧ _) := ⟨Mm.nil w, Below.refl w.heap.size w⟩
  have R0 : Hid (Rs g o n P w) := hR
  clear hR
  go_enter Try.func49, Try.ntmps49
  refine wp_seq ?_
  refine walk_seqB 1 [.quiet (U 0)] H0 ?ho1 ?he1
  case ho1 => exact ak (fun _ => ⟨rfl, fun _ _ => rfl⟩) trivial
  intro _ w1 H1
  refine rest0 rfl (then_normal (wp_seq ?_))
  refine (walk_any) (by kernel_rfl) 10 [.quiet (.slice (some ⟨g, o, none⟩) n cp), .call (W32 (fo P 0)), .quiet (U (fo P 0)), .quiet (.slice (some ⟨g, o, none⟩) n cp), .quiet (.slice (some ⟨g, (o + 4), none⟩) (n - 4) (cp - 4)), .call (W32 (fo P 4)), .quiet (U (fo P 4)), .quiet (U (c64 ((fo P 4) * 2 ^ 32))), .quiet (U ((fo P 0) ||| (c64 ((fo P 4) * 2 ^ 32)))), .quiet (U ((fo P 0) ||| (c64 ((fo P 4) * 2 ^ 32))))] (fun u' => Mm u' [] ∧ Rs g o n P u') ?pre2 ?F2 ?hpre2 (fun γ => ?hF2) (by kernel_rfl) ?hL2 ?hS2 ?ho2 ?he2
  case hpre2 => simp only [tk, tz]; rfl
  case hF2 => simp only [fill, Kind.val, Act.put, sa, sz, ss]; rfl
  case hL2 => exact trivial
  case hS2 => exact fun w' hb => ⟨H1.out.1.below hb, R0.out.below (H1.out.2.trans (hb.mono H1.out.2.size))⟩
  case ho2 =>
    refine ak (fun _ => ⟨rfl, fun _ _ => rfl⟩) ?_
    refine ak (fun γ => ⟨rfl, fun w' hX => ⟨45, #[.slice (some ⟨g, o, none⟩) n cp], exec_call rfl call45 rfl (mpn rfl), num32_any P g o n cp (by omega) w' hX.2⟩⟩) ?_
    refine ak (fun γ => ⟨rfl, fun w' _ => ex_cv32_64 (fo_lt _ _) rfl rfl⟩) ?_
    refine ak (fun _ => ⟨rfl, fun _ _ => rfl⟩) ?_
    refine ak (fun γ => ⟨rfl, fun w' _ => ex_slT (l := 4) rfl rfl rfl (by omega) (by omega)⟩) ?_
    refine ak (fun γ => ⟨rfl, fun w' hX => ⟨45, #[.slice (some ⟨g, (o + 4), none⟩) (n - 4) (cp - 4)], exec_call rfl call45 rfl (mpn rfl), num32_at P g o n cp 4 (by omega) w' hX.2⟩⟩) ?_
    refine ak (fun γ => ⟨rfl, fun w' _ => ex_cv32_64 (fo_lt _ _) rfl rfl⟩) ?_
    refine ak (fun γ => ⟨rfl, fun w' _ => ex_shl64 (k := 32) (by decide) rfl rfl rfl⟩) ?_
    refine ak (fun γ => ⟨rfl, fun w' _ => ex_or64 (Nat.lt_trans (fo_lt _ _) (by decide)) (Nat.mod_lt _ (by decide)) rfl rfl rfl⟩) ?_
    refine ak (fun _ => ⟨rfl, fun _ _ => rfl⟩) ?_
    exact trivial
  intro γ w2 l hM hl
  have H2 := keepB H1 hM.below
  clear hM hl l H1 γ
  refine rest0 rfl (then_normal (wp_ret ?_))
  repeat (first | refine then_ret ?_ | refine block_ret ?_)
  refine bodyPost_ret (v := U ((fo P 0) ||| (c64 ((fo P 4) * 2 ^ 32)))) (by simp [results, Try.results49, go_sem, *]) rfl ?_
  exact ⟨rfl, H2.out.2⟩
theorem num64_any (P : Nat → Nat) (g o n cp : Nat) (hn : 8 ≤ n) (hc : n ≤ cp) (hP : ∀ j, P j < 256) (w : World) (hR : Rs g o n P w) : Calls Try.prog 49 #[.slice (some ⟨g, o, none⟩) n cp] w fun e w' => e = .returned (U (nv P 8)) ∧ Below w.heap.size w w' := by
  have h := num64_raw P g o n cp hn hc w hR
  rw [show (fo P 0 ||| c64 (fo P 4 * 2 ^ 32)) = nv (fun j => P (0 + j)) 8 from num64_eq hP 0, nv_cg (g := P) 8 (fun i _ => by rw [Nat.zero_add])] at h
  exact h
theorem num64_at (P : Nat → Nat) (g o n cp l : Nat) (hl : l + 8 ≤ n) (hc : n ≤ cp) (hP : ∀ j, P j < 256) (w : World) (hR : Rs g o n P w) : Calls Try.prog 49 #[.slice (some ⟨g, o + l, none⟩) (n - l) (cp - l)] w fun e w' => e = .returned (U (nv (fun j => P (l + j)) 8)) ∧ Below w.heap.size w w' :=
  num64_any (fun j => P (l + j)) g (o + l) (n - l) (cp - l) (by omega) (by omega) (fun j => hP _) w (hR.part l)
set_option maxHeartbeats 1000000 in
set_option maxRecDepth 100000 in
theorem mulAdd_raw (x y m c : Nat) (hx : x < 18446744073709551616) (hy : y < 18446744073709551616) (w : World) :
    Calls Try.prog 63 #[U x, U y, U m, U c] w fun e w' => e = .returned (.tuple #[U (plo (plo (x * y % 18446744073709551616) m 0) c 0), U (c64 (c64 (x * y / 18446744073709551616 + phi (x * y % 18446744073709551616) m 0) + phi (plo (x * y % 18446744073709551616) m 0) c 0))]) ∧ Below w.heap.size w w' := by
  have H0 : Hid (_ ∧ _) := ⟨Mm.nil w, Below.refl w.heap.size w⟩
  go_enter Try.func63, Try.ntmps63
  refine wp_seq ?_
  refine walk_seqB 2 [.quiet (U 0), .quiet (U 0)] H0 ?ho1 ?he1
  case ho1 => exact ak (fun _ => ⟨rfl, fun _ _ => rfl⟩) (ak (fun _ => ⟨rfl, fun _ _ => rfl⟩) trivial)
  intro _ w1 H1
  refine rest0 rfl (then_normal (wp_seq ?_))
  refine walk_seqB 8 [.quiet (U x), .quiet (U y), .call (.tuple #[U (x * y / 18446744073709551616), U (x * y % 18446744073709551616)]), .quiet (.tuple #[U (x * y / 18446744073709551616), U (x * y % 18446744073709551616)]), .quiet (U (x * y / 18446744073709551616)), .quiet (U (x * y % 18446744073709551616)), .quiet (U (x * y / 18446744073709551616)), .quiet (U (x * y % 18446744073709551616))] H1 ?ho2 ?he2
  case ho2 => exact ak (fun _ => ⟨rfl, fun _ _ => rfl⟩) (ak (fun _ => ⟨rfl, fun _ _ => rfl⟩) (ak (fun γ => ⟨rfl, fun w' h => ⟨65, #[U x, U y], exec_call rfl call65 rfl (mpn rfl), mul64N x y hx hy w'⟩⟩) (ak (fun _ => ⟨rfl, fun _ _ => rfl⟩) (ak (by refine fun γ => ⟨rfl, fun w' h => ?_⟩; clear h; go_simp) (ak (by refine fun γ => ⟨rfl, fun w' h => ?_⟩; clear h; go_simp) (ak (fun _ => ⟨rfl, fun _ _ => rfl⟩) (ak (fun _ => ⟨rfl, fun _ _ => rfl⟩) trivial)))))))
  intro _ w2 H2
  clear H1
  refine rest0 rfl (then_normal (wp_seq ?_))
  refine walk_seqB 6 [.quiet (U (x * y % 18446744073709551616)), .quiet (U m), .quiet (.tuple #[U (plo (x * y % 18446744073709551616) m 0), U (phi (x * y % 18446744073709551616) m 0)]), .quiet (.tuple #[U (plo (x * y % 18446744073709551616) m 0), U (phi (x * y % 18446744073709551616) m 0)]), .quiet (U (plo (x * y % 18446744073709551616) m 0)), .quiet (U (phi (x * y % 18446744073709551616) m 0))] H2 ?ho3 ?he3
  case ho3 => exact ak (fun _ => ⟨rfl, fun _ _ => rfl⟩) (ak (fun _ => ⟨rfl, fun _ _ => rfl⟩) (ak (fun γ => ⟨rfl, fun w' h => ex_extern rfl (add64N (x * y % 18446744073709551616) m 0 (by decide) w') rfl (mpn rfl)⟩) (ak (fun _ => ⟨rfl, fun _ _ => rfl⟩) (ak (by refine fun γ => ⟨rfl, fun w' h => ?_⟩; clear h; go_simp) (ak (by refine fun γ => ⟨rfl, fun w' h => ?_⟩; clear h; go_simp) trivial)))))
  intro _ w3 H3
  clear H2
  refine rest_at (l := [6, 7]) rfl ?_
  refine rest_set (d := 11) rfl rfl rfl rfl ?_
  simp only [Act.put, sa, sz, ss]
  refine rest_set (d := 12) rfl rfl rfl rfl ?_
  simp only [Act.put, sa, sz, ss]
  refine rest_nil (then_normal (wp_seq ?_))
  refine walk_seqB 3 [.quiet (U (x * y / 18446744073709551616)), .quiet (U (phi (x * y % 18446744073709551616) m 0)), .quiet (U (c64 (x * y / 18446744073709551616 + phi (x * y % 18446744073709551616) m 0)))] H3 ?ho4 ?he4
  case ho4 => exact ak (fun _ => ⟨rfl, fun _ _ => rfl⟩) (ak (fun _ => ⟨rfl, fun _ _ => rfl⟩) (ak (fun γ => ⟨rfl, fun w' _ => ex_add64 rfl rfl rfl⟩) trivial))
  intro _ w4 H4
  clear H3
  refine rest_at (l := [3]) rfl ?_
  refine rest_set (d := 10) rfl rfl rfl rfl ?_
  simp only [Act.put, sa, sz, ss]
  refine rest_nil (then_normal (wp_seq ?_))
  refine walk_seqB 6 [.quiet (U (plo (x * y % 18446744073709551616) m 0)), .quiet (U c), .quiet (.tuple #[U (plo (plo (x * y % 18446744073709551616) m 0) c 0), U (phi (plo (x * y % 18446744073709551616) m 0) c 0)]), .quiet (.tuple #[U (plo (plo (x * y % 18446744073709551616) m 0) c 0), U (phi (plo (x * y % 18446744073709551616) m 0) c 0)]), .quiet (U (plo (plo (x * y % 18446744073709551616) m 0) c 0)), .quiet (U (phi (plo (x * y % 18446744073709551616) m 0) c 0))] H4 ?ho5 ?he5
  case ho5 => exact ak (fun _ => ⟨rfl, fun _ _ => rfl⟩) (ak (fun _ => ⟨rfl, fun _ _ => rfl⟩) (ak (fun γ => ⟨rfl, fun w' h => ex_extern rfl (add64N (plo (x * y % 18446744073709551616) m 0) c 0 (by decide) w') rfl (mpn rfl)⟩) (ak (fun _ => ⟨rfl, fun _ _ => rfl⟩) (ak (by refine fun γ => ⟨rfl, fun w' h => ?_⟩; clear h; go_simp) (ak (by refine fun γ => ⟨rfl, fun w' h => ?_⟩; clear h; go_simp) trivial)))))
  intro _ w5 H5
  clear H4
  refine rest_at (l := [6, 7]) rfl ?_
  refine rest_set (d := 11) rfl rfl rfl rfl ?_
  simp only [Act.put, sa, sz, ss]
  refine rest_set (d := 12) rfl rfl rfl rfl ?_
  simp only [Act.put, sa, sz, ss]
  refine rest_nil (then_normal (wp_seq ?_))
  refine walk_seqB 6 [.quiet (U (plo (plo (x * y % 18446744073709551616) m 0) c 0)), .quiet (U (c64 (x * y / 18446744073709551616 + phi (x * y % 18446744073709551616) m 0))), .quiet (U (phi (plo (x * y % 18446744073709551616) m 0) c 0)), .quiet (U (c64 (c64 (x * y / 18446744073709551616 + phi (x * y % 18446744073709551616) m 0) + phi (plo (x * y % 18446744073709551616) m 0) c 0))), .quiet (U (plo (plo (x * y % 18446744073709551616) m 0) c 0)), .quiet (U (c64 (c64 (x * y / 18446744073709551616 + phi (x * y % 18446744073709551616) m 0) + phi (plo (x * y % 18446744073709551616) m 0) c 0)))] H5 ?ho6 ?he6
  case ho6 => exact ak (fun _ => ⟨rfl, fun _ _ => rfl⟩) (ak (fun _ => ⟨rfl, fun _ _ => rfl⟩) (ak (fun _ => ⟨rfl, fun _ _ => rfl⟩) (ak (fun γ => ⟨rfl, fun w' _ => ex_add64 rfl rfl rfl⟩) (ak (fun _ => ⟨rfl, fun _ _ => rfl⟩) (ak (fun _ => ⟨rfl, fun _ _ => rfl⟩) trivial)))))
  intro _ w6 H6
  clear H5
  refine rest0 rfl (then_normal (wp_ret ?_))
  repeat (first | refine then_ret ?_ | refine block_ret ?_)
  refine bodyPost_ret (v := .tuple #[U (plo (plo (x * y % 18446744073709551616) m 0) c 0), U (c64 (c64 (x * y / 18446744073709551616 + phi (x * y % 18446744073709551616) m 0) + phi (plo (x * y % 18446744073709551616) m 0) c 0))]) (by simp [results, Try.results63, go_sem, *]) rfl ?_
  exact ⟨rfl, H6.out.2⟩
theorem mulAdd_any (x y m c : Nat) (hx : x < 18446744073709551616) (hy : y < 18446744073709551616) (hm : m < 18446744073709551616) (hc : c < 18446744073709551616) (w : World) : Calls Try.prog 63 #[U x, U y, U m, U c] w fun e w' => e = .returned (.tuple #[U (mlo x y m c), U (mhi x y m c)]) ∧ Below w.heap.size w w' := by
  have h := mulAdd_raw x y m c hx hy w
  rw [ma_lo, ma_hi hx hy hm hc] at h
  exact h
theorem phi_le {x y : Nat} (hx : x < 18446744073709551616) (hy : y < 18446744073709551616) : phi x y 0 ≤ 1 := by unfold phi; omega
set_option maxHeartbeats 1000000 in
set_option maxRecDepth 100000 in
theorem plus_raw (a b : Nat → Nat) (a0 : a 0 < 18446744073709551616) (b0 : b 0 < 18446744073709551616) (w : World) :
    Calls Try.prog 51 #[.agg (ints .u64 a 3).toArray, .agg (ints .u64 b 3).toArray] w fun e w' => e = .returned (.agg (ints .u64 (t3 (plo (a 0) (b 0) 0) (plo (a 1) (b 1) (phi (a 0) (b 0) 0)) (c64 (c64 (a 2 + b 2) + phi (a 1) (b 1) (phi (a 0) (b 0) 0)))) 3).toArray) ∧ Below w.heap.size w w' := by
  have H0 : Hid (_ ∧ _) := ⟨Mm.nil w, Below.refl w.heap.size w⟩
  go_enter Try.func51, Try.ntmps51
  refine wp_seq ?_
  refine walk_seqA 3 [.made (ints .u64 a 3) 59, .made (ints .u64 b 3) 59, .made (ints .u64 (fun _ => 0) 3) 59] (sB H0) ?ho1 ?he1
  case ho1 => exact ak (fun γ => ⟨rfl, fun w' => ex_boxT rfl rfl⟩) (ak (fun γ => ⟨rfl, fun w' => ex_boxT rfl rfl⟩) (ak (fun γ => ⟨rfl, fun w' => ex_mk59 rfl⟩) trivial))
  intro γ w1 l hM hl
  have H1 : Hid (Mm w1 [(γ 0, ints .u64 a 3), (γ 1, ints .u64 b 3), (γ 2, ints .u64 (fun _ => 0) 3)] ∧ _) := growB H0 hM (Nat.le_refl _) hl [0, 1, 2] rfl (by decide)
  have o1_0 := ownB H0 hM (Nat.le_refl _) hl (i := 0) rfl
  have o1_1 := ownB H0 hM (Nat.le_refl _) hl (i := 1) rfl
  have o1_2 := ownB H0 hM (Nat.le_refl _) hl (i := 2) rfl
  clear hM hl l
  generalize γ 0 = γ1_0 at H1 o1_0 ⊢
  generalize γ 1 = γ1_1 at H1 o1_1 ⊢
  generalize γ 2 = γ1_2 at H1 o1_2 ⊢
  clear γ
  refine rest0 rfl (then_normal (wp_seq ?_))
  refine walk_seqB 10 [.quiet (PT γ1_0 0), .quiet (U (a 0)), .quiet (PT γ1_1 0), .quiet (U (b 0)), .quiet (.tuple #[U (plo (a 0) (b 0) 0), U (phi (a 0) (b 0) 0)]), .quiet (.tuple #[U (plo (a 0) (b 0) 0), U (phi (a 0) (b 0) 0)]), .quiet (U (plo (a 0) (b 0) 0)), .quiet (U (phi (a 0) (b 0) 0)), .quiet (U (plo (a 0) (b 0) 0)), .quiet (U (phi (a 0) (b 0) 0))] H1 ?ho2 ?he2
  case ho2 => exact ak (by refine fun γ => ⟨rfl, fun w' h => ?_⟩; clear h; go_simp) (ak (fun γ => ⟨rfl, fun w' h => ex_loadC h 0 rfl rfl rfl Try.isAgg57 (ints_get _ _ (by decide))⟩) (ak (by refine fun γ => ⟨rfl, fun w' h => ?_⟩; clear h; go_simp) (ak (fun γ => ⟨rfl, fun w' h => ex_loadC h 1 rfl rfl rfl Try.isAgg57 (ints_get _ _ (by decide))⟩) (ak (fun γ => ⟨rfl, fun w' h => ex_extern rfl (add64N (a 0) (b 0) 0 (by decide) w') rfl (mpn rfl)⟩) (ak (fun _ => ⟨rfl, fun _ _ => rfl⟩) (ak (by refine fun γ => ⟨rfl, fun w' h => ?_⟩; clear h; go_simp) (ak (by refine fun γ => ⟨rfl, fun w' h => ?_⟩; clear h; go_simp) (ak (fun _ => ⟨rfl, fun _ _ => rfl⟩) (ak (fun _ => ⟨rfl, fun _ _ => rfl⟩) trivial)))))))))
  intro _ w2 H2
  clear H1
  refine rest0 rfl (then_normal (wp_seq ?_))
  refine walk_seqB 10 [.quiet (PT γ1_0 1), .quiet (U (a 1)), .quiet (PT γ1_1 1), .quiet (U (b 1)), .quiet (U (phi (a 0) (b 0) 0)), .quiet (.tuple #[U (plo (a 1) (b 1) (phi (a 0) (b 0) 0)), U (phi (a 1) (b 1) (phi (a 0) (b 0) 0))]), .quiet (.tuple #[U (plo (a 1) (b 1) (phi (a 0) (b 0) 0)), U (phi (a 1) (b 1) (phi (a 0) (b 0) 0))]), .quiet (U (plo (a 1) (b 1) (phi (a 0) (b 0) 0))), .quiet (U (phi (a 1) (b 1) (phi (a 0) (b 0) 0))), .quiet (U (plo (a 1) (b 1) (phi (a 0) (b 0) 0)))] H2 ?ho3 ?he3
  case ho3 => exact ak (by refine fun γ => ⟨rfl, fun w' h => ?_⟩; clear h; go_simp) (ak (fun γ => ⟨rfl, fun w' h => ex_loadC h 0 rfl rfl rfl Try.isAgg57 (ints_get _ _ (by decide))⟩) (ak (by refine fun γ => ⟨rfl, fun w' h => ?_⟩; clear h; go_simp) (ak (fun γ => ⟨rfl, fun w' h => ex_loadC h 1 rfl rfl rfl Try.isAgg57 (ints_get _ _ (by decide))⟩) (ak (fun _ => ⟨rfl, fun _ _ => rfl⟩) (ak (fun γ => ⟨rfl, fun w' h => ex_extern rfl (add64N (a 1) (b 1) (phi (a 0) (b 0) 0) (phi_le a0 b0) w') rfl (mpn rfl)⟩) (ak (fun _ => ⟨rfl, fun _ _ => rfl⟩) (ak (by refine fun γ => ⟨rfl, fun w' h => ?_⟩; clear h; go_simp) (ak (by refine fun γ => ⟨rfl, fun w' h => ?_⟩; clear h; go_simp) (ak (fun _ => ⟨rfl, fun _ _ => rfl⟩) trivial)))))))))
  intro _ w3 H3
  clear H2
  refine rest_at (l := [10]) rfl ?_
  refine rest_set (d := 6) rfl rfl rfl rfl ?_
  simp only [Act.put, sa, sz, ss]
  refine rest_nil (then_normal (wp_seq ?_))
  refine walk_seqB 10 [.quiet (U (plo (a 0) (b 0) 0)), .quiet (U (plo (a 1) (b 1) (phi (a 0) (b 0) 0))), .quiet (PT γ1_0 2), .quiet (U (a 2)), .quiet (PT γ1_1 2), .quiet (U (b 2)), .quiet (U (c64 (a 2 + b 2))), .quiet (U (phi (a 1) (b 1) (phi (a 0) (b 0) 0))), .quiet (U (c64 (c64 (a 2 + b 2) + phi (a 1) (b 1) (phi (a 0) (b 0) 0)))), .quiet (.agg (ints .u64 (t3 (plo (a 0) (b 0) 0) (plo (a 1) (b 1) (phi (a 0) (b 0) 0)) (c64 (c64 (a 2 + b 2) + phi (a 1) (b 1) (phi (a 0) (b 0) 0)))) 3).toArray)] H3 ?ho4 ?he4
  case ho4 => exact ak (fun _ => ⟨rfl, fun _ _ => rfl⟩) (ak (fun _ => ⟨rfl, fun _ _ => rfl⟩) (ak (by refine fun γ => ⟨rfl, fun w' h => ?_⟩; clear h; go_simp) (ak (fun γ => ⟨rfl, fun w' h => ex_loadC h 0 rfl rfl rfl Try.isAgg57 (ints_get _ _ (by decide))⟩) (ak (by refine fun γ => ⟨rfl, fun w' h => ?_⟩; clear h; go_simp) (ak (fun γ => ⟨rfl, fun w' h => ex_loadC h 1 rfl rfl rfl Try.isAgg57 (ints_get _ _ (by decide))⟩) (ak (fun γ => ⟨rfl, fun w' _ => ex_add64 rfl rfl rfl⟩) (ak (fun _ => ⟨rfl, fun _ _ => rfl⟩) (ak (fun γ => ⟨rfl, fun w' _ => ex_add64 rfl rfl rfl⟩) (ak (fun γ => ⟨rfl, fun w' _ => ex_n3 rfl rfl rfl rfl⟩) trivial)))))))))
  intro _ w4 H4
  clear H3
  refine rest_at (l := [10]) rfl ?_
  refine rest_store rfl rfl rfl (ex_storeT (vs := ints .u64 (t3 (plo (a 0) (b 0) 0) (plo (a 1) (b 1) (phi (a 0) (b 0) 0)) (c64 (c64 (a 2 + b 2) + phi (a 1) (b 1) (phi (a 0) (b 0) 0)))) 3) H4.out.1 2 rfl rfl rfl rfl (by rw [ints_len]; exact Try.sizeOf59) (ints_all _ _ _) (by simp [ints_len])) ?_
  have H5 : Hid (Mm (w4.setCells γ1_2 0 (ints .u64 (t3 (plo (a 0) (b 0) 0) (plo (a 1) (b 1) (phi (a 0) (b 0) 0)) (c64 (c64 (a 2 + b 2) + phi (a 1) (b 1) (phi (a 0) (b 0) 0)))) 3)) [(γ1_0, ints .u64 a 3), (γ1_1, ints .u64 b 3), (γ1_2, ints .u64 (t3 (plo (a 0) (b 0) 0) (plo (a 1) (b 1) (phi (a 0) (b 0) 0)) (c64 (c64 (a 2 + b 2) + phi (a 1) (b 1) (phi (a 0) (b 0) 0)))) 3)] ∧ Below w.heap.size w (w4.setCells γ1_2 0 (ints .u64 (t3 (plo (a 0) (b 0) 0) (plo (a 1) (b 1) (phi (a 0) (b 0) 0)) (c64 (c64 (a 2 + b 2) + phi (a 1) (b 1) (phi (a 0) (b 0) 0)))) 3))) := ⟨by
    have h := H4.out.1.put 2 (off := 0) (vs := ints .u64 (t3 (plo (a 0) (b 0) 0) (plo (a 1) (b 1) (phi (a 0) (b 0) 0)) (c64 (c64 (a 2 + b 2) + phi (a 1) (b 1) (phi (a 0) (b 0) 0)))) 3) rfl (by simp [ints_len])
    rw [ints_patch0 _ _ _ _] at h
    exact h, below_setCells _ o1_2.out _ _ _ H4.out.2⟩
  clear H4
  generalize hgw : World.setCells _ _ _ _ = w5 at H5 ⊢
  clear hgw
  refine rest_nil (then_normal (wp_ret ?_))
  repeat (first | refine then_ret ?_ | refine block_ret ?_)
  have hf0 := var_T H5.out.1 2 rfl Try.isAgg59 Try.sizeOf59 (ints_len _ _ _)
  refine bodyPost_ret (v := .agg (ints .u64 (t3 (plo (a 0) (b 0) 0) (plo (a 1) (b 1) (phi (a 0) (b 0) 0)) (c64 (c64 (a 2 + b 2) + phi (a 1) (b 1) (phi (a 0) (b 0) 0)))) 3).toArray) (by simp [results, Try.results51, asAddr, hf0]) rfl ?_
  exact ⟨rfl, H5.out.2⟩
theorem plus_any (a b : Nat → Nat) (ha : ∀ j, j < 3 → a j < 18446744073709551616) (hb : ∀ j, j < 3 → b j < 18446744073709551616) (w : World) : Calls Try.prog 51 #[.agg (ints .u64 a 3).toArray, .agg (ints .u64 b 3).toArray] w fun e w' => e = .returned (.agg (ints .u64 (wN (nW a + nW b)) 3).toArray) ∧ Below w.heap.size w w' := by
  have h := plus_raw a b (ha 0 (by decide)) (hb 0 (by decide)) w
  rw [ints_congr (plus_eq ha hb)] at h
  exact h
theorem wN_lt' (a j : Nat) (_ : j < 3) : wN a j < 18446744073709551616 := wN_lt a j
theorem sr2_lt {t : Nat} (h : t < 18446744073709551616) : sr t 2 < 18446744073709551616 := by unfold sr; omega
theorem and3_lt (t : Nat) : t &&& 3 < 18446744073709551616 := by rw [and3]; omega
theorem or_lt {t2 t3' : Nat} (h2 : t2 < 18446744073709551616) : (sr t2 2 ||| c64 (t3' * 2 ^ 62)) < 18446744073709551616 := by
  rw [fold_or h2]
  omega
set_option maxHeartbeats 1000000 in
set_option maxRecDepth 100000 in
theorem folded_raw (t0 t1 t2 t3' : Nat) (h0 : t0 < 18446744073709551616) (h1 : t1 < 18446744073709551616) (h2 : t2 < 18446744073709551616) (hh3 : t3' < 18446744073709551616) (w : World) :
    Calls Try.prog 64 #[U t0, U t1, U t2, U t3'] w fun e w' => e = .returned (.agg (ints .u64 (wN (nW (wN (nW (t3 t0 t1 (t2 &&& 3)) + nW (t3 (t2 - t2 % 4) t3' 0))) + nW (t3 ((sr t2 2) ||| (c64 (t3' * 2 ^ 62))) (sr t3' 2) 0))) 3).toArray) ∧ Below w.heap.size w w' := by
  have H0 : Hid (_ ∧ _) := ⟨Mm.nil w, Below.refl w.heap.size w⟩
  go_enter Try.func64, Try.ntmps64
  refine wp_seq ?_
  refine walk_seqA 1 [.made (ints .u64 (fun _ => 0) 3) 59] (sB H0) ?ho1 ?he1
  case ho1 => exact ak (fun γ => ⟨rfl, fun w' => ex_mk59 rfl⟩) trivial
  intro γ w1 l hM hl
  have H1 : Hid (Mm w1 [(γ 0, ints .u64 (fun _ => 0) 3)] ∧ _) := growB H0 hM (Nat.le_refl _) hl [0] rfl (by decide)
  have o1_0 := ownB H0 hM (Nat.le_refl _) hl (i := 0) rfl
  clear hM hl l
  generalize γ 0 = γ1_0 at H1 o1_0 ⊢
  clear γ
  refine rest0 rfl (then_normal (wp_seq ?_))
  refine walk_seqA 7 [.quiet (U t0), .quiet (U t1), .quiet (U t2), .quiet (U (t2 &&& 3)), .quiet (.agg (ints .u64 (t3 t0 t1 (t2 &&& 3)) 3).toArray), .made (ints .u64 (fun _ => 0) 3) 59, .laid 5 (ints .u64 (fun _ => 0) 3) (ints .u64 (t3 t0 t1 (t2 &&& 3)) 3)] (sB H1) ?ho2 ?he2 (hL := ?hL2)
  case hL2 => exact ⟨⟨_, rfl⟩, trivial⟩
  case ho2 => exact ak (fun _ => ⟨rfl, fun _ _ => rfl⟩) (ak (fun _ => ⟨rfl, fun _ _ => rfl⟩) (ak (fun _ => ⟨rfl, fun _ _ => rfl⟩) (ak (fun γ => ⟨rfl, fun w' _ => ex_and64 (h2) (by decide) rfl rfl rfl⟩) (ak (fun γ => ⟨rfl, fun w' _ => ex_n3 rfl rfl rfl rfl⟩) (ak (fun γ => ⟨rfl, fun w' => ex_mk59 rfl⟩) (ak (fun γ => ⟨rfl, rfl, (ints_len _ _ _).trans (ints_len _ _ _).symm, fun w' h => ex_laidI h Try.sizeOf59 rfl rfl rfl⟩) trivial))))))
  intro γ w2 l hM hl
  have H2 : Hid (Mm w2 [(γ 5, ints .u64 (t3 t0 t1 (t2 &&& 3)) 3), (γ1_0, ints .u64 (fun _ => 0) 3)] ∧ _) := growB H1 hM (Nat.le_refl _) hl [5] rfl (by decide)
  have o2_5 := ownB H1 hM (Nat.le_refl _) hl (i := 5) rfl
  clear hM hl l H1
  generalize γ 5 = γ2_5 at H2 o2_5 ⊢
  clear γ
  refine rest0 rfl (then_normal (wp_seq ?_))
  refine walk_seqA 6 [.quiet (U t2), .quiet (U (t2 - t2 % 4)), .quiet (U t3'), .quiet (.agg (ints .u64 (t3 (t2 - t2 % 4) t3' 0) 3).toArray), .made (ints .u64 (fun _ => 0) 3) 59, .laid 4 (ints .u64 (fun _ => 0) 3) (ints .u64 (t3 (t2 - t2 % 4) t3' 0) 3)] (sB H2) ?ho3 ?he3 (hL := ?hL3)
  case hL3 => exact ⟨⟨_, rfl⟩, trivial⟩
  case ho3 => exact ak (fun _ => ⟨rfl, fun _ _ => rfl⟩) (ak (fun γ => ⟨rfl, fun w' _ => ex_andNot3 (h2) rfl rfl rfl⟩) (ak (fun _ => ⟨rfl, fun _ _ => rfl⟩) (ak (fun γ => ⟨rfl, fun w' _ => ex_n2 rfl rfl rfl⟩) (ak (fun γ => ⟨rfl, fun w' => ex_mk59 rfl⟩) (ak (fun γ => ⟨rfl, rfl, (ints_len _ _ _).trans (ints_len _ _ _).symm, fun w' h => ex_laidI h Try.sizeOf59 rfl rfl rfl⟩) trivial)))))
  intro γ w3 l hM hl
  have H3 : Hid (Mm w3 [(γ 4, ints .u64 (t3 (t2 - t2 % 4) t3' 0) 3), (γ2_5, ints .u64 (t3 t0 t1 (t2 &&& 3)) 3), (γ1_0, ints .u64 (fun _ => 0) 3)] ∧ _) := growB H2 hM (Nat.le_refl _) hl [4] rfl (by decide)
  have o3_4 := ownB H2 hM (Nat.le_refl _) hl (i := 4) rfl
  clear hM hl l H2
  generalize γ 4 = γ3_4 at H3 o3_4 ⊢
  clear γ
  refine rest0 rfl (then_normal (wp_seq ?_))
  refine walk_seqA 10 [.quiet (U t2), .quiet (U (sr t2 2)), .quiet (U t3'), .quiet (U (c64 (t3' * 2 ^ 62))), .quiet (U ((sr t2 2) ||| (c64 (t3' * 2 ^ 62)))), .quiet (U t3'), .quiet (U (sr t3' 2)), .quiet (.agg (ints .u64 (t3 ((sr t2 2) ||| (c64 (t3' * 2 ^ 62))) (sr t3' 2) 0) 3).toArray), .made (ints .u64 (fun _ => 0) 3) 59, .laid 8 (ints .u64 (fun _ => 0) 3) (ints .u64 (t3 ((sr t2 2) ||| (c64 (t3' * 2 ^ 62))) (sr t3' 2) 0) 3)] (sB H3) ?ho4 ?he4 (hL := ?hL4)
  case hL4 => exact ⟨⟨_, rfl⟩, trivial⟩
  case ho4 => exact ak (fun _ => ⟨rfl, fun _ _ => rfl⟩) (ak (fun γ => ⟨rfl, fun w' _ => ex_shr64 (k := 2) (by decide) rfl rfl rfl⟩) (ak (fun _ => ⟨rfl, fun _ _ => rfl⟩) (ak (fun γ => ⟨rfl, fun w' _ => ex_shl64 (k := 62) (by decide) rfl rfl rfl⟩) (ak (fun γ => ⟨rfl, fun w' _ => ex_or64 (sr2_lt h2) (Nat.mod_lt _ (by decide)) rfl rfl rfl⟩) (ak (fun _ => ⟨rfl, fun _ _ => rfl⟩) (ak (fun γ => ⟨rfl, fun w' _ => ex_shr64 (k := 2) (by decide) rfl rfl rfl⟩) (ak (fun γ => ⟨rfl, fun w' _ => ex_n2 rfl rfl rfl⟩) (ak (fun γ => ⟨rfl, fun w' => ex_mk59 rfl⟩) (ak (fun γ => ⟨rfl, rfl, (ints_len _ _ _).trans (ints_len _ _ _).symm, fun w' h => ex_laidI h Try.sizeOf59 rfl rfl rfl⟩) trivial)))))))))
  intro γ w4 l hM hl
  have H4 : Hid (Mm w4 [(γ 8, ints .u64 (t3 ((sr t2 2) ||| (c64 (t3' * 2 ^ 62))) (sr t3' 2) 0) 3), (γ3_4, ints .u64 (t3 (t2 - t2 % 4) t3' 0) 3), (γ2_5, ints .u64 (t3 t0 t1 (t2 &&& 3)) 3), (γ1_0, ints .u64 (fun _ => 0) 3)] ∧ _) := growB H3 hM (Nat.le_refl _) hl [8] rfl (by decide)
  have o4_8 := ownB H3 hM (Nat.le_refl _) hl (i := 8) rfl
  clear hM hl l H3
  generalize γ 8 = γ4_8 at H4 o4_8 ⊢
  clear γ
  refine rest0 rfl (then_normal (wp_seq ?_))
  refine walk_anyB 5 [.quiet (.agg (ints .u64 (t3 t0 t1 (t2 &&& 3)) 3).toArray), .quiet (.agg (ints .u64 (t3 (t2 - t2 % 4) t3' 0) 3).toArray), .call (.agg (ints .u64 (wN (nW (t3 t0 t1 (t2 &&& 3)) + nW (t3 (t2 - t2 % 4) t3' 0))) 3).toArray), .quiet (.agg (ints .u64 (t3 ((sr t2 2) ||| (c64 (t3' * 2 ^ 62))) (sr t3' 2) 0) 3).toArray), .call (.agg (ints .u64 (wN (nW (wN (nW (t3 t0 t1 (t2 &&& 3)) + nW (t3 (t2 - t2 % 4) t3' 0))) + nW (t3 ((sr t2 2) ||| (c64 (t3' * 2 ^ 62))) (sr t3' 2) 0))) 3).toArray)] H4 ?ho5 ?he5
  case ho5 => exact ak (fun γ => ⟨rfl, fun w' h => ex_loadT h 2 rfl rfl rfl Try.isAgg59 Try.sizeOf59 (ints_whole _ _ _) (ints_len _ _ _)⟩) (ak (fun γ => ⟨rfl, fun w' h => ex_loadT h 1 rfl rfl rfl Try.isAgg59 Try.sizeOf59 (ints_whole _ _ _) (ints_len _ _ _)⟩) (ak (fun γ => ⟨rfl, fun w' h => ⟨51, #[.agg (ints .u64 (t3 t0 t1 (t2 &&& 3)) 3).toArray, .agg (ints .u64 (t3 (t2 - t2 % 4) t3' 0) 3).toArray], exec_call rfl call51 rfl (mpn rfl), plus_any (t3 t0 t1 (t2 &&& 3)) (t3 (t2 - t2 % 4) t3' 0) (t3_lt h0 h1 (and3_lt _)) (t3_lt (Nat.lt_of_le_of_lt (Nat.sub_le _ _) h2) hh3 (by decide)) w'⟩⟩) (ak (fun γ => ⟨rfl, fun w' h => ex_loadT h 0 rfl rfl rfl Try.isAgg59 Try.sizeOf59 (ints_whole _ _ _) (ints_len _ _ _)⟩) (ak (fun γ => ⟨rfl, fun w' h => ⟨51, #[.agg (ints .u64 (wN (nW (t3 t0 t1 (t2 &&& 3)) + nW (t3 (t2 - t2 % 4) t3' 0))) 3).toArray, .agg (ints .u64 (t3 ((sr t2 2) ||| (c64 (t3' * 2 ^ 62))) (sr t3' 2) 0) 3).toArray], exec_call rfl call51 rfl (mpn rfl), plus_any (wN (nW (t3 t0 t1 (t2 &&& 3)) + nW (t3 (t2 - t2 % 4) t3' 0))) (t3 ((sr t2 2) ||| (c64 (t3' * 2 ^ 62))) (sr t3' 2) 0) (wN_lt' _) (t3_lt (or_lt h2) (sr2_lt hh3) (by decide)) w'⟩⟩) trivial))))
  intro _ w5 H5
  clear H4
  refine rest_at (l := [5]) rfl ?_
  refine rest_store rfl rfl rfl (ex_storeT (vs := ints .u64 (wN (nW (wN (nW (t3 t0 t1 (t2 &&& 3)) + nW (t3 (t2 - t2 % 4) t3' 0))) + nW (t3 ((sr t2 2) ||| (c64 (t3' * 2 ^ 62))) (sr t3' 2) 0))) 3) H5.out.1 3 rfl rfl rfl rfl (by rw [ints_len]; exact Try.sizeOf59) (ints_all _ _ _) (by simp [ints_len])) ?_
  have H6 : Hid (Mm (w5.setCells γ1_0 0 (ints .u64 (wN (nW (wN (nW (t3 t0 t1 (t2 &&& 3)) + nW (t3 (t2 - t2 % 4) t3' 0))) + nW (t3 ((sr t2 2) ||| (c64 (t3' * 2 ^ 62))) (sr t3' 2) 0))) 3)) [(γ4_8, ints .u64 (t3 ((sr t2 2) ||| (c64 (t3' * 2 ^ 62))) (sr t3' 2) 0) 3), (γ3_4, ints .u64 (t3 (t2 - t2 % 4) t3' 0) 3), (γ2_5, ints .u64 (t3 t0 t1 (t2 &&& 3)) 3), (γ1_0, ints .u64 (wN (nW (wN (nW (t3 t0 t1 (t2 &&& 3)) + nW (t3 (t2 - t2 % 4) t3' 0))) + nW (t3 ((sr t2 2) ||| (c64 (t3' * 2 ^ 62))) (sr t3' 2) 0))) 3)] ∧ Below w.heap.size w (w5.setCells γ1_0 0 (ints .u64 (wN (nW (wN (nW (t3 t0 t1 (t2 &&& 3)) + nW (t3 (t2 - t2 % 4) t3' 0))) + nW (t3 ((sr t2 2) ||| (c64 (t3' * 2 ^ 62))) (sr t3' 2) 0))) 3))) := ⟨by
    have h := H5.out.1.put 3 (off := 0) (vs := ints .u64 (wN (nW (wN (nW (t3 t0 t1 (t2 &&& 3)) + nW (t3 (t2 - t2 % 4) t3' 0))) + nW (t3 ((sr t2 2) ||| (c64 (t3' * 2 ^ 62))) (sr t3' 2) 0))) 3) rfl (by simp [ints_len])
    rw [ints_patch0 _ _ _ _] at h
    exact h, below_setCells _ o1_0.out _ _ _ H5.out.2⟩
  clear H5
  generalize hgw : World.setCells _ _ _ _ = w6 at H6 ⊢
  clear hgw
  refine rest_nil (then_normal (wp_ret ?_))
  repeat (first | refine then_ret ?_ | refine block_ret ?_)
  have hf0 := var_T H6.out.1 3 rfl Try.isAgg59 Try.sizeOf59 (ints_len _ _ _)
  refine bodyPost_ret (v := .agg (ints .u64 (wN (nW (wN (nW (t3 t0 t1 (t2 &&& 3)) + nW (t3 (t2 - t2 % 4) t3' 0))) + nW (t3 ((sr t2 2) ||| (c64 (t3' * 2 ^ 62))) (sr t3' 2) 0))) 3).toArray) (by simp [results, Try.results64, asAddr, hf0]) rfl ?_
  exact ⟨rfl, H6.out.2⟩
theorem folded_any (t0 t1 t2 t3' : Nat) (h0 : t0 < 18446744073709551616) (h1 : t1 < 18446744073709551616) (h2 : t2 < 18446744073709551616) (hh3 : t3' < 18446744073709551616) (w : World) : Calls Try.prog 64 #[U t0, U t1, U t2, U t3'] w fun e w' => e = .returned (.agg (ints .u64 (wN (fN (t0 + t1 * 18446744073709551616 + t2 * 340282366920938463463374607431768211456 + t3' * 6277101735386680763835789423207666416102355444464034512896))) 3).toArray) ∧ Below w.heap.size w w' := by
  have h := folded_raw t0 t1 t2 t3' h0 h1 h2 hh3 w
  rw [and3, fold_or h2, show sr t3' 2 = t3' / 4 from rfl, n3_wN (fold_lt h0 h1 h2 hh3), fold_eq h0 h1] at h
  exact h
set_option maxHeartbeats 1000000 in
set_option maxRecDepth 100000 in
theorem times_raw (a r : Nat → Nat) (A0 : a 0 < 18446744073709551616) (A1 : a 1 < 18446744073709551616) (R0 : r 0 < 18446744073709551616) (R1 : r 1 < 18446744073709551616) (w : World) :
    Calls Try.prog 59 #[.agg (ints .u64 a 3).toArray, .agg (ints .u64 r 3).toArray] w fun e w' => e = .returned (.agg (ints .u64 (wN (fN (u0 a r + u1 a r * 18446744073709551616 + u2 a r * 340282366920938463463374607431768211456 + u3 a r * 6277101735386680763835789423207666416102355444464034512896))) 3).toArray) ∧ Below w.heap.size w w' := by
  have H0 : Hid (_ ∧ _) := ⟨Mm.nil w, Below.refl w.heap.size w⟩
  go_enter Try.func59, Try.ntmps59
  refine wp_seq ?_
  refine walk_seqA 3 [.made (ints .u64 a 3) 59, .made (ints .u64 r 3) 59, .made (ints .u64 (fun _ => 0) 3) 59] (sB H0) ?ho1 ?he1
  case ho1 => exact ak (fun γ => ⟨rfl, fun w' => ex_boxT rfl rfl⟩) (ak (fun γ => ⟨rfl, fun w' => ex_boxT rfl rfl⟩) (ak (fun γ => ⟨rfl, fun w' => ex_mk59 rfl⟩) trivial))
  intro γ w1 l hM hl
  have H1 : Hid (Mm w1 [(γ 0, ints .u64 a 3), (γ 1, ints .u64 r 3), (γ 2, ints .u64 (fun _ => 0) 3)] ∧ _) := growB H0 hM (Nat.le_refl _) hl [0, 1, 2] rfl (by decide)
  have o1_0 := ownB H0 hM (Nat.le_refl _) hl (i := 0) rfl
  have o1_1 := ownB H0 hM (Nat.le_refl _) hl (i := 1) rfl
  have o1_2 := ownB H0 hM (Nat.le_refl _) hl (i := 2) rfl
  clear hM hl l
  generalize γ 0 = γ1_0 at H1 o1_0 ⊢
  generalize γ 1 = γ1_1 at H1 o1_1 ⊢
  generalize γ 2 = γ1_2 at H1 o1_2 ⊢
  clear γ
  refine rest0 rfl (then_normal (wp_seq ?_))
  refine walk_seqB 10 [.quiet (PT γ1_0 0), .quiet (U (a 0)), .quiet (PT γ1_1 0), .quiet (U (r 0)), .call (.tuple #[U (u0 a r), U (mhi (a 0) (r 0) 0 0)]), .quiet (.tuple #[U (u0 a r), U (mhi (a 0) (r 0) 0 0)]), .quiet (U (u0 a r)), .quiet (U (mhi (a 0) (r 0) 0 0)), .quiet (U (u0 a r)), .quiet (U (mhi (a 0) (r 0) 0 0))] H1 ?ho2 ?he2
  case ho2 => exact ak (by refine fun γ => ⟨rfl, fun w' h => ?_⟩; clear h; go_simp) (ak (fun γ => ⟨rfl, fun w' h => ex_loadC h 0 rfl rfl rfl Try.isAgg57 (ints_get _ _ (by decide))⟩) (ak (by refine fun γ => ⟨rfl, fun w' h => ?_⟩; clear h; go_simp) (ak (fun γ => ⟨rfl, fun w' h => ex_loadC h 1 rfl rfl rfl Try.isAgg57 (ints_get _ _ (by decide))⟩) (ak (fun γ => ⟨rfl, fun w' h => ⟨63, #[U (a 0), U (r 0), U 0, U 0], exec_call rfl call63 rfl (mpn rfl), mulAdd_any (a 0) (r 0) 0 0 A0 R0 (by decide) (by decide) w'⟩⟩) (ak (fun _ => ⟨rfl, fun _ _ => rfl⟩) (ak (by refine fun γ => ⟨rfl, fun w' h => ?_⟩; clear h; go_simp) (ak (by refine fun γ => ⟨rfl, fun w' h => ?_⟩; clear h; go_simp) (ak (fun _ => ⟨rfl, fun _ _ => rfl⟩) (ak (fun _ => ⟨rfl, fun _ _ => rfl⟩) trivial)))))))))
  intro _ w2 H2
  clear H1
  refine rest0 rfl (then_normal (wp_seq ?_))
  refine walk_seqB 10 [.quiet (PT γ1_0 1), .quiet (U (a 1)), .quiet (PT γ1_1 0), .quiet (U (r 0)), .quiet (U (mhi (a 0) (r 0) 0 0)), .call (.tuple #[U (v1 a r), U (mhi (a 1) (r 0) 0 (mhi (a 0) (r 0) 0 0))]), .quiet (.tuple #[U (v1 a r), U (mhi (a 1) (r 0) 0 (mhi (a 0) (r 0) 0 0))]), .quiet (U (v1 a r)), .quiet (U (mhi (a 1) (r 0) 0 (mhi (a 0) (r 0) 0 0))), .quiet (U (v1 a r))] H2 ?ho3 ?he3
  case ho3 => exact ak (by refine fun γ => ⟨rfl, fun w' h => ?_⟩; clear h; go_simp) (ak (fun γ => ⟨rfl, fun w' h => ex_loadC h 0 rfl rfl rfl Try.isAgg57 (ints_get _ _ (by decide))⟩) (ak (by refine fun γ => ⟨rfl, fun w' h => ?_⟩; clear h; go_simp) (ak (fun γ => ⟨rfl, fun w' h => ex_loadC h 1 rfl rfl rfl Try.isAgg57 (ints_get _ _ (by decide))⟩) (ak (fun _ => ⟨rfl, fun _ _ => rfl⟩) (ak (fun γ => ⟨rfl, fun w' h => ⟨63, #[U (a 1), U (r 0), U 0, U (mhi (a 0) (r 0) 0 0)], exec_call rfl call63 rfl (mpn rfl), mulAdd_any (a 1) (r 0) 0 (mhi (a 0) (r 0) 0 0) A1 R0 (by decide) (mhi_lt A0 R0 (by decide) (by decide)) w'⟩⟩) (ak (fun _ => ⟨rfl, fun _ _ => rfl⟩) (ak (by refine fun γ => ⟨rfl, fun w' h => ?_⟩; clear h; go_simp) (ak (by refine fun γ => ⟨rfl, fun w' h => ?_⟩; clear h; go_simp) (ak (fun _ => ⟨rfl, fun _ _ => rfl⟩) trivial)))))))))
  intro _ w3 H3
  clear H2
  refine rest_at (l := [10]) rfl ?_
  refine rest_set (d := 6) rfl rfl rfl rfl ?_
  simp only [Act.put, sa, sz, ss]
  refine rest_nil (then_normal (wp_seq ?_))
  refine walk_seqB 8 [.quiet (PT γ1_0 2), .quiet (U (a 2)), .quiet (PT γ1_1 0), .quiet (U (r 0)), .quiet (U (c64 (a 2 * r 0))), .quiet (U (mhi (a 1) (r 0) 0 (mhi (a 0) (r 0) 0 0))), .quiet (U (v2 a r)), .quiet (U (v2 a r))] H3 ?ho4 ?he4
  case ho4 => exact ak (by refine fun γ => ⟨rfl, fun w' h => ?_⟩; clear h; go_simp) (ak (fun γ => ⟨rfl, fun w' h => ex_loadC h 0 rfl rfl rfl Try.isAgg57 (ints_get _ _ (by decide))⟩) (ak (by refine fun γ => ⟨rfl, fun w' h => ?_⟩; clear h; go_simp) (ak (fun γ => ⟨rfl, fun w' h => ex_loadC h 1 rfl rfl rfl Try.isAgg57 (ints_get _ _ (by decide))⟩) (ak (fun γ => ⟨rfl, fun w' _ => ex_mul64 rfl rfl rfl⟩) (ak (fun _ => ⟨rfl, fun _ _ => rfl⟩) (ak (fun γ => ⟨rfl, fun w' _ => ex_add64 rfl rfl rfl⟩) (ak (fun _ => ⟨rfl, fun _ _ => rfl⟩) trivial)))))))
  intro _ w4 H4
  clear H3
  refine rest0 rfl (then_normal (wp_seq ?_))
  refine walk_seqB 9 [.quiet (PT γ1_0 0), .quiet (U (a 0)), .quiet (PT γ1_1 1), .quiet (U (r 1)), .quiet (U (v1 a r)), .call (.tuple #[U (u1 a r), U (mhi (a 0) (r 1) (v1 a r) 0)]), .quiet (.tuple #[U (u1 a r), U (mhi (a 0) (r 1) (v1 a r) 0)]), .quiet (U (u1 a r)), .quiet (U (mhi (a 0) (r 1) (v1 a r) 0))] H4 ?ho5 ?he5
  case ho5 => exact ak (by refine fun γ => ⟨rfl, fun w' h => ?_⟩; clear h; go_simp) (ak (fun γ => ⟨rfl, fun w' h => ex_loadC h 0 rfl rfl rfl Try.isAgg57 (ints_get _ _ (by decide))⟩) (ak (by refine fun γ => ⟨rfl, fun w' h => ?_⟩; clear h; go_simp) (ak (fun γ => ⟨rfl, fun w' h => ex_loadC h 1 rfl rfl rfl Try.isAgg57 (ints_get _ _ (by decide))⟩) (ak (fun _ => ⟨rfl, fun _ _ => rfl⟩) (ak (fun γ => ⟨rfl, fun w' h => ⟨63, #[U (a 0), U (r 1), U (v1 a r), U 0], exec_call rfl call63 rfl (mpn rfl), mulAdd_any (a 0) (r 1) (v1 a r) 0 A0 R1 (mlo_lt _ _ _ _) (by decide) w'⟩⟩) (ak (fun _ => ⟨rfl, fun _ _ => rfl⟩) (ak (by refine fun γ => ⟨rfl, fun w' h => ?_⟩; clear h; go_simp) (ak (by refine fun γ => ⟨rfl, fun w' h => ?_⟩; clear h; go_simp) trivial))))))))
  intro _ w5 H5
  clear H4
  refine rest_at (l := [9, 10]) rfl ?_
  refine rest_set (d := 7) rfl rfl rfl rfl ?_
  simp only [Act.put, sa, sz, ss]
  refine rest_set (d := 6) rfl rfl rfl rfl ?_
  simp only [Act.put, sa, sz, ss]
  refine rest_nil (then_normal (wp_seq ?_))
  refine walk_seqB 10 [.quiet (PT γ1_0 1), .quiet (U (a 1)), .quiet (PT γ1_1 1), .quiet (U (r 1)), .quiet (U (v2 a r)), .quiet (U (mhi (a 0) (r 1) (v1 a r) 0)), .call (.tuple #[U (u2 a r), U (mhi (a 1) (r 1) (v2 a r) (mhi (a 0) (r 1) (v1 a r) 0))]), .quiet (.tuple #[U (u2 a r), U (mhi (a 1) (r 1) (v2 a r) (mhi (a 0) (r 1) (v1 a r) 0))]), .quiet (U (u2 a r)), .quiet (U (mhi (a 1) (r 1) (v2 a r) (mhi (a 0) (r 1) (v1 a r) 0)))] H5 ?ho6 ?he6
  case ho6 => exact ak (by refine fun γ => ⟨rfl, fun w' h => ?_⟩; clear h; go_simp) (ak (fun γ => ⟨rfl, fun w' h => ex_loadC h 0 rfl rfl rfl Try.isAgg57 (ints_get _ _ (by decide))⟩) (ak (by refine fun γ => ⟨rfl, fun w' h => ?_⟩; clear h; go_simp) (ak (fun γ => ⟨rfl, fun w' h => ex_loadC h 1 rfl rfl rfl Try.isAgg57 (ints_get _ _ (by decide))⟩) (ak (fun _ => ⟨rfl, fun _ _ => rfl⟩) (ak (fun _ => ⟨rfl, fun _ _ => rfl⟩) (ak (fun γ => ⟨rfl, fun w' h => ⟨63, #[U (a 1), U (r 1), U (v2 a r), U (mhi (a 0) (r 1) (v1 a r) 0)], exec_call rfl call63 rfl (mpn rfl), mulAdd_any (a 1) (r 1) (v2 a r) (mhi (a 0) (r 1) (v1 a r) 0) A1 R1 (Nat.mod_lt _ (by decide)) (mhi_lt A0 R1 (mlo_lt _ _ _ _) (by decide)) w'⟩⟩) (ak (fun _ => ⟨rfl, fun _ _ => rfl⟩) (ak (by refine fun γ => ⟨rfl, fun w' h => ?_⟩; clear h; go_simp) (ak (by refine fun γ => ⟨rfl, fun w' h => ?_⟩; clear h; go_simp) trivial)))))))))
  intro _ w6 H6
  clear H5
  refine rest_at (l := [10, 11]) rfl ?_
  refine rest_set (d := 8) rfl rfl rfl rfl ?_
  simp only [Act.put, sa, sz, ss]
  refine rest_set (d := 6) rfl rfl rfl rfl ?_
  simp only [Act.put, sa, sz, ss]
  refine rest_nil (then_normal (wp_seq ?_))
  refine walk_seqB 8 [.quiet (PT γ1_0 2), .quiet (U (a 2)), .quiet (PT γ1_1 1), .quiet (U (r 1)), .quiet (U (c64 (a 2 * r 1))), .quiet (U (mhi (a 1) (r 1) (v2 a r) (mhi (a 0) (r 1) (v1 a r) 0))), .quiet (U (u3 a r)), .quiet (U (u3 a r))] H6 ?ho7 ?he7
  case ho7 => exact ak (by refine fun γ => ⟨rfl, fun w' h => ?_⟩; clear h; go_simp) (ak (fun γ => ⟨rfl, fun w' h => ex_loadC h 0 rfl rfl rfl Try.isAgg57 (ints_get _ _ (by decide))⟩) (ak (by refine fun γ => ⟨rfl, fun w' h => ?_⟩; clear h; go_simp) (ak (fun γ => ⟨rfl, fun w' h => ex_loadC h 1 rfl rfl rfl Try.isAgg57 (ints_get _ _ (by decide))⟩) (ak (fun γ => ⟨rfl, fun w' _ => ex_mul64 rfl rfl rfl⟩) (ak (fun _ => ⟨rfl, fun _ _ => rfl⟩) (ak (fun γ => ⟨rfl, fun w' _ => ex_add64 rfl rfl rfl⟩) (ak (fun _ => ⟨rfl, fun _ _ => rfl⟩) trivial)))))))
  intro _ w7 H7
  clear H6
  refine rest0 rfl (then_normal (wp_seq ?_))
  refine walk_seqB 5 [.quiet (U (u0 a r)), .quiet (U (u1 a r)), .quiet (U (u2 a r)), .quiet (U (u3 a r)), .call (.agg (ints .u64 (wN (fN (u0 a r + u1 a r * 18446744073709551616 + u2 a r * 340282366920938463463374607431768211456 + u3 a r * 6277101735386680763835789423207666416102355444464034512896))) 3).toArray)] H7 ?ho8 ?he8
  case ho8 => exact ak (fun _ => ⟨rfl, fun _ _ => rfl⟩) (ak (fun _ => ⟨rfl, fun _ _ => rfl⟩) (ak (fun _ => ⟨rfl, fun _ _ => rfl⟩) (ak (fun _ => ⟨rfl, fun _ _ => rfl⟩) (ak (fun γ => ⟨rfl, fun w' h => ⟨64, #[U (u0 a r), U (u1 a r), U (u2 a r), U (u3 a r)], exec_call rfl call64 rfl (mpn rfl), folded_any (u0 a r) (u1 a r) (u2 a r) (u3 a r) (mlo_lt _ _ _ _) (mlo_lt _ _ _ _) (mlo_lt _ _ _ _) (Nat.mod_lt _ (by decide)) w'⟩⟩) trivial))))
  intro _ w8 H8
  clear H7
  refine rest_at (l := [5]) rfl ?_
  refine rest_store rfl rfl rfl (ex_storeT (vs := ints .u64 (wN (fN (u0 a r + u1 a r * 18446744073709551616 + u2 a r * 340282366920938463463374607431768211456 + u3 a r * 6277101735386680763835789423207666416102355444464034512896))) 3) H8.out.1 2 rfl rfl rfl rfl (by rw [ints_len]; exact Try.sizeOf59) (ints_all _ _ _) (by simp [ints_len])) ?_
  have H9 : Hid (Mm (w8.setCells γ1_2 0 (ints .u64 (wN (fN (u0 a r + u1 a r * 18446744073709551616 + u2 a r * 340282366920938463463374607431768211456 + u3 a r * 6277101735386680763835789423207666416102355444464034512896))) 3)) [(γ1_0, ints .u64 a 3), (γ1_1, ints .u64 r 3), (γ1_2, ints .u64 (wN (fN (u0 a r + u1 a r * 18446744073709551616 + u2 a r * 340282366920938463463374607431768211456 + u3 a r * 6277101735386680763835789423207666416102355444464034512896))) 3)] ∧ Below w.heap.size w (w8.setCells γ1_2 0 (ints .u64 (wN (fN (u0 a r + u1 a r * 18446744073709551616 + u2 a r * 340282366920938463463374607431768211456 + u3 a r * 6277101735386680763835789423207666416102355444464034512896))) 3))) := ⟨by
    have h := H8.out.1.put 2 (off := 0) (vs := ints .u64 (wN (fN (u0 a r + u1 a r * 18446744073709551616 + u2 a r * 340282366920938463463374607431768211456 + u3 a r * 6277101735386680763835789423207666416102355444464034512896))) 3) rfl (by simp [ints_len])
    rw [ints_patch0 _ _ _ _] at h
    exact h, below_setCells _ o1_2.out _ _ _ H8.out.2⟩
  clear H8
  generalize hgw : World.setCells _ _ _ _ = w9 at H9 ⊢
  clear hgw
  refine rest_nil (then_normal (wp_ret ?_))
  repeat (first | refine then_ret ?_ | refine block_ret ?_)
  have hf0 := var_T H9.out.1 2 rfl Try.isAgg59 Try.sizeOf59 (ints_len _ _ _)
  refine bodyPost_ret (v := .agg (ints .u64 (wN (fN (u0 a r + u1 a r * 18446744073709551616 + u2 a r * 340282366920938463463374607431768211456 + u3 a r * 6277101735386680763835789423207666416102355444464034512896))) 3).toArray) (by simp [results, Try.results59, asAddr, hf0]) rfl ?_
  exact ⟨rfl, H9.out.2⟩
theorem ptimes_any (a r : Nat → Nat) (ha : ∀ j, j < 3 → a j < 18446744073709551616) (ha2 : a 2 < 8) (h0 : r 0 < 1152921504606846976) (h1 : r 1 < 1152921504606846976) (w : World) : Calls Try.prog 59 #[.agg (ints .u64 a 3).toArray, .agg (ints .u64 r 3).toArray] w fun e w' => e = .returned (.agg (ints .u64 (wN (fN (nW a * (r 0 + r 1 * 18446744073709551616)))) 3).toArray) ∧ Below w.heap.size w w' := by
  have h := times_raw a r (ha 0 (by decide)) (ha 1 (by decide)) (Nat.lt_trans h0 (by decide)) (Nat.lt_trans h1 (by decide)) w
  rw [times_eq ha ha2 h0 h1] at h
  exact h
end Rg
end Go.Proofs.Ytkkippfikfjdpaa
end
section
namespace Go.Proofs.Ytkkippfikfjdpaa
open Go.RowKit
namespace Rg
set_option maxRecDepth 100000
/-- Nine words: a number that grows, and the two of a key. -/
def w9f (a r s : Nat → Nat) (j : Nat) : Nat := if j < 3 then a j else if j < 6 then r (j - 3) else s (j - 6)
def wk9 (a r s : Nat) : Nat → Nat := w9f (wN a) (wN r) (wN s)
theorem w9_0 (a r s : Nat) : ((ints .u64 (wk9 a r s) 9).drop 0).take 3 = ints .u64 (wN a) 3 := rfl
theorem w9_1 (a r s : Nat) : ((ints .u64 (wk9 a r s) 9).drop 3).take 3 = ints .u64 (wN r) 3 := rfl
theorem w9_2 (a r s : Nat) : ((ints .u64 (wk9 a r s) 9).drop 6).take 3 = ints .u64 (wN s) 3 := rfl
theorem w9_put (a r s a' : Nat) : patch (ints .u64 (wk9 a r s) 9) 0 (ints .u64 (wN a') 3) = ints .u64 (wk9 a' r s) 9 := rfl
theorem nv8_lt {P : Nat → Nat} (hP : ∀ j, P j < 256) : nv P 8 < 18446744073709551616 := nv_lt 8 (fun i _ => hP i)
/-- The two numbers of a one-time key. -/
def rl (K : Nat → Nat) : Nat := nv K 8 &&& 1152921487695413247
def rh (K : Nat → Nat) : Nat := nv (fun j => K (8 + j)) 8 &&& 1152921487695413244
def rk (K : Nat → Nat) : Nat := rl K + rh K * 18446744073709551616
def sk (K : Nat → Nat) : Nat := nv (fun j => K (16 + j)) 16
theorem rl_lt (K : Nat → Nat) : rl K < 1152921504606846976 := Nat.lt_of_le_of_lt Nat.and_le_right (by decide)
theorem rh_lt (K : Nat → Nat) : rh K < 1152921504606846976 := Nat.lt_of_le_of_lt Nat.and_le_right (by decide)
theorem wN_two {x y : Nat} (hx : x < 18446744073709551616) (hy : y < 18446744073709551616) (j : Nat) (hj : j < 3) : t3 x y 0 j = wN (x + y * 18446744073709551616) j := by
  have e := wN_n3 (t3_lt hx hy (show 0 < 18446744073709551616 by decide)) j hj
  rw [← e, n3_t3, Nat.zero_mul, Nat.add_zero]
theorem nv16 (P : Nat → Nat) : nv P 16 = nv P 8 + nv (fun j => P (8 + j)) 8 * 18446744073709551616 := by
  rw [nv_split P 8 8, Nat.mul_comm]
theorem under_eq {K : Nat → Nat} (hK : ∀ j, K j < 256) (j : Nat) (_ : j < 9) : w9f (fun _ => 0) (t3 (rl K) (rh K) 0) (t3 (nv (fun j => K (16 + j)) 8) (nv (fun j => K (24 + j)) 8) 0) j = wk9 0 (rk K) (sk K) j := by
  unfold wk9 w9f
  by_cases h3 : j < 3
  · rw [if_pos h3, if_pos h3]
    unfold wN
    rw [Nat.zero_div]
  · rw [if_neg h3, if_neg h3]
    by_cases h6 : j < 6
    · rw [if_pos h6, if_pos h6]
      exact wN_two (Nat.lt_trans (rl_lt K) (by decide)) (Nat.lt_trans (rh_lt K) (by decide)) _ (by omega)
    · rw [if_neg h6, if_neg h6]
      rw [wN_two (nv8_lt (fun j => hK _)) (nv8_lt (fun j => hK _)) _ (by omega)]
      unfold sk
      rw [nv16]
      rfl
/-- A piece more. -/
def ga (r a x : Nat) : Nat := fN ((a + x) * r)
/-- A number that the words can go on with. -/
def Ab (a : Nat) : Prop := a < 1701411834604692317316873037158841057280
/-- A factor of two words below 2^60. -/
def Rk (r : Nat) : Prop := ∃ x y, r = x + y * 18446744073709551616 ∧ x < 1152921504606846976 ∧ y < 1152921504606846976
theorem rk_ok (K : Nat → Nat) : Rk (rk K) := ⟨_, _, rfl, rl_lt K, rh_lt K⟩
theorem Rk.words {r : Nat} (h : Rk r) : wN r 0 < 1152921504606846976 ∧ wN r 1 < 1152921504606846976 ∧ wN r 0 + wN r 1 * 18446744073709551616 = r := by
  obtain ⟨x, y, rfl, hx, hy⟩ := h
  have e0 := wN_two (x := x) (y := y) (by omega) (by omega) 0 (by decide)
  have e1 := wN_two (x := x) (y := y) (by omega) (by omega) 1 (by decide)
  rw [← e0, ← e1]
  exact ⟨hx, hy, rfl⟩
theorem ga_ok {r a x : Nat} (hr : Rk r) (ha : Ab a) (hx : x < 680564733841876926926749214863536422912) : Ab (ga r a x) := by
  obtain ⟨u, v, rfl, hu, hv⟩ := hr
  unfold Ab at *
  unfold ga fN
  have h : (a + x) * (u + v * 18446744073709551616) < 2381976568446569244243622252022377480192 * 21267647932558653966460912964485513216 := by
    refine Nat.lt_of_le_of_lt (Nat.mul_le_mul_right _ (by omega : a + x ≤ 2381976568446569244243622252022377480192)) ?_
    exact Nat.mul_lt_mul_of_pos_left (by omega) (by decide)
  rw [show (2 : Nat) ^ 130 = 1361129467683753853853498429727072845824 from rfl]
  generalize (a + x) * (u + v * 18446744073709551616) = t at h
  omega
theorem add_eq {r a x y v : Nat} (hr : Rk r) (ha : Ab a) (hx : x < 18446744073709551616) (hy : y < 18446744073709551616) (hv : v ≤ 1) :
    wN (nW (wN a) + nW (t3 x y v)) 2 < 8 ∧ fN (nW (wN (nW (wN a) + nW (t3 x y v))) * (wN r 0 + wN r 1 * 18446744073709551616)) = ga r a (x + y * 18446744073709551616 + v * 340282366920938463463374607431768211456) := by
  unfold Ab at ha
  rw [n3_wN (a := a) (by omega), n3_t3, n3_wN (by omega), hr.words.2.2]
  refine ⟨?_, rfl⟩
  unfold wN
  rw [show (18446744073709551616 : Nat) ^ 2 = 340282366920938463463374607431768211456 from rfl]
  omega
/-- The bytes of a tag. -/
def tt (a s : Nat) : Nat → Nat := dg (a + 5 * ((a + 5) / 1361129467683753853853498429727072845824) + s)
theorem dg_two {l h : Nat} (hl : l < 18446744073709551616) (j : Nat) : dg (l + h * 18446744073709551616) j = if j < 8 then dg l j else dg h (j - 8) := by
  unfold dg
  by_cases e : j < 8
  · rw [if_pos e]
    obtain ⟨k, hk⟩ : ∃ k, 8 = j + (k + 1) := ⟨7 - j, by omega⟩
    have h1 : l + h * 18446744073709551616 = l + 256 ^ j * (h * 256 ^ (k + 1)) := by
      rw [show (18446744073709551616 : Nat) = 256 ^ 8 from rfl, hk, Nat.pow_add 256 j, Nat.mul_left_comm]
    rw [h1, Nat.add_mul_div_left _ _ (pow_pos256 j), Nat.pow_succ, ← Nat.mul_assoc, Nat.add_mul_mod_self_right]
  · rw [if_neg e]
    obtain ⟨k, hk⟩ : ∃ k, j = 8 + k := ⟨j - 8, by omega⟩
    rw [hk, Nat.add_sub_cancel_left, Nat.pow_add, ← Nat.div_div_eq_div_mul, show (256 : Nat) ^ 8 = 18446744073709551616 from rfl]
    congr 2
    omega
theorem dg_low {x y : Nat} (h : x % 340282366920938463463374607431768211456 = y % 340282366920938463463374607431768211456) (j : Nat) (hj : j < 16) : dg x j = dg y j := by
  have e : ∀ n, dg n j = dg (n % 340282366920938463463374607431768211456) j := fun n => by
    unfold dg
    obtain ⟨k, hk⟩ : ∃ k, 16 = j + (k + 1) := ⟨15 - j, by omega⟩
    have h1 : n = n % 340282366920938463463374607431768211456 + 256 ^ j * (n / 340282366920938463463374607431768211456 * 256 ^ (k + 1)) := by
      have h2 : (340282366920938463463374607431768211456 : Nat) = 256 ^ j * 256 ^ (k + 1) := by rw [← Nat.pow_add, ← hk]
      have h3 := Nat.mod_add_div n 340282366920938463463374607431768211456
      rw [Nat.mul_left_comm, ← h2, Nat.mul_comm]
      exact h3.symm
    conv => lhs; rw [h1]
    rw [Nat.add_mul_div_left _ _ (pow_pos256 j), Nat.pow_succ, ← Nat.mul_assoc, Nat.add_mul_mod_self_right]
  rw [e x, e y, h]
theorem tag_eq {a s : Nat} (ha : Ab a) (hs : s < 340282366920938463463374607431768211456) (j : Nat) (hj : j < 16) : dg (wN (nW (wN (nW (wN a) + nW (t3 (c64 (5 * (sr (wN (nW (wN a) + nW (t3 5 0 0)) 2) 2))) 0 0))) + nW (wN s)) 0 + wN (nW (wN (nW (wN a) + nW (t3 (c64 (5 * (sr (wN (nW (wN a) + nW (t3 5 0 0)) 2) 2))) 0 0))) + nW (wN s)) 1 * 18446744073709551616) j = tt a s j := by
  unfold Ab at ha
  have e1 : sr (wN (nW (wN a) + nW (t3 5 0 0)) 2) 2 = (a + 5) / 1361129467683753853853498429727072845824 := by
    rw [n3_wN (a := a) (by omega), n3_t3]
    unfold sr wN
    rw [show (18446744073709551616 : Nat) ^ 2 = 340282366920938463463374607431768211456 from rfl]
    omega
  rw [e1]
  have e2 : c64 (5 * ((a + 5) / 1361129467683753853853498429727072845824)) = 5 * ((a + 5) / 1361129467683753853853498429727072845824) := Nat.mod_eq_of_lt (by omega)
  rw [e2, n3_wN (a := a) (by omega), n3_t3, n3_wN (a := s) (by omega), n3_wN (a := a + _) (by omega)]
  refine dg_low ?_ j hj
  unfold wN
  rw [Nat.pow_zero, Nat.pow_one]
  omega
/-- Two words as bytes, the first i of each. -/
def pq (l h i j : Nat) : Nat := if j < i then sr l (8 * j) % 256 else if 8 ≤ j ∧ j < 8 + i then sr h (8 * (j - 8)) % 256 else 0
theorem pq_set (l h : Nat) {i : Nat} (hi : i < 8) : up (up (pq l h i) i (sr l (8 * i) % 256)) (8 + i) (sr h (8 * i) % 256) = pq l h (i + 1) := by
  funext j
  unfold up pq
  by_cases e1 : j = 8 + i
  · subst e1
    rw [if_pos rfl, if_neg (by omega), if_pos (by omega), Nat.add_sub_cancel_left]
  · rw [if_neg e1]
    by_cases e2 : j = i
    · subst e2
      rw [if_pos rfl, if_pos (by omega)]
    · rw [if_neg e2]
      by_cases e3 : j < i
      · rw [if_pos e3, if_pos (by omega)]
      · rw [if_neg e3, if_neg (show ¬ j < i + 1 by omega)]
        by_cases e4 : 8 ≤ j ∧ j < 8 + i
        · rw [if_pos e4, if_pos (by omega)]
        · rw [if_neg e4, if_neg (by omega)]
theorem pq_all {l h : Nat} (hl : l < 18446744073709551616) (j : Nat) (hj : j < 16) : pq l h 8 j = dg (l + h * 18446744073709551616) j := by
  rw [dg_two hl]
  unfold pq dg sr
  have e : ∀ k, (2 : Nat) ^ (8 * k) = 256 ^ k := fun k => by rw [Nat.pow_mul]
  by_cases h8 : j < 8
  · rw [if_pos h8, if_pos h8, e]
  · rw [if_neg h8, if_neg h8, if_pos (by omega), e]
/-- What is unlike in two rows, gathered. -/
def ul (a b : Nat → Nat) : Nat → Nat
  | 0 => 0
  | i + 1 => o8 (ul a b i) (x8 (a i) (b i))
theorem ul_lt (a b : Nat → Nat) : ∀ i, ul a b i < 256
  | 0 => Nat.zero_lt_succ _
  | _ + 1 => Nat.mod_lt _ (by decide)
theorem ul_zero {a b : Nat → Nat} (ha : ∀ j, a j < 256) (hb : ∀ j, b j < 256) : ∀ i, ul a b i = 0 ↔ ∀ j, j < i → a j = b j
  | 0 => ⟨fun _ j hj => absurd hj (by omega), fun _ => rfl⟩
  | i + 1 => by
    have h1 := ul_lt a b i
    have h2 : x8 (a i) (b i) < 256 := Nat.mod_lt _ (by decide)
    have h3 : ul a b i ||| x8 (a i) (b i) < 2 ^ 8 := Nat.or_lt_two_pow h1 h2
    have h4 : ul a b (i + 1) = ul a b i ||| x8 (a i) (b i) := Nat.mod_eq_of_lt h3
    rw [h4, Nat.or_eq_zero_iff, ul_zero ha hb i, x8_zero (ha i) (hb i)]
    exact ⟨fun h j hj => by
      by_cases e : j = i
      · rw [e]; exact h.2
      · exact h.1 j (by omega), fun h => ⟨fun j hj => h j (by omega), h i (by omega)⟩⟩
section
variable {ρ : Operand → Value} {o : Oper} {x y : Operand} {g off n c l k a b : Nat} {w : World} {a0 a1 : Operand} {f h : Nat → Nat}
theorem ex_w2 (ho : o.op = .build 61 #[(1, a0), (2, a1)]) (h0 : ρ a0 = V (ints .u64 f 3)) (h1 : ρ a1 = V (ints .u64 h 3)) : (execOp ρ o).run Try.prog w = .ok (.value (V (ints .u64 (w9f (fun _ => 0) f h) 9))) w := by
  simp only [execOp, ho, List.map_toArray, List.map_cons, List.map_nil, h0, h1]
  kernel_rfl
theorem ex_or8x (ho : o.op = .binOp .or 5 x y 5) (hx : ρ x = Z8 a) (hy : ρ y = Z8 b) : (execOp ρ o).run Try.prog w = .ok (.value (Z8 (o8 a b))) w := by
  have e : bits .or .u8 (a : Int) (b : Int) = ((o8 a b : Nat) : Int) := by
    show IntKind.u8.wrap ((BitVec.ofInt 8 (a : Int) ||| BitVec.ofInt 8 (b : Int)).toNat : Int) = _
    rw [BitVec.toNat_or, BitVec.ofInt_natCast, BitVec.ofInt_natCast, BitVec.toNat_ofNat, BitVec.toNat_ofNat]
    unfold o8
    have := Nat.or_mod_two_pow (a := a) (b := b) (n := 8)
    rw [← this]
    simp [IntKind.wrap, IntKind.bits, IntKind.signed]
  simp only [execOp, ho, hx, hy]
  clear ho hx hy
  go_simp
  first | done | exact e
theorem ex_eq8 (ho : o.op = .binOp .eql 5 x y 5) (hx : ρ x = Z8 a) (hy : ρ y = Z8 0) : (execOp ρ o).run Try.prog w = .ok (.value (.bool (decide (a = 0)))) w := by
  simp only [execOp, ho, hx, hy]
  clear ho hx hy
  have e : decide ((a : Int) = 0) = decide (a = 0) := decide_eq_decide.2 (by omega)
  go_simp
  first | done | exact e | (rw [e]) | simp [e]
theorem ex_at65 {j : Nat} (ho : o.op = .index 65 x y) (hx : ρ x = V (ints .u8 f 16)) (hy : ρ y = .int .i64 ((j : Nat) : Int)) (hj : j < 16) : (execOp ρ o).run Try.prog w = .ok (.value (Z8 (f j))) w := by
  have e := ints_get .u8 f hj
  have h1 : (j : Int) < 16 := by omega
  simp only [execOp, ho, hx, hy]
  clear ho hx hy
  simp [Instr.index, run_underlying Try.underlying65, asIntOf, go_sem, hj, part, Try.isAgg5, e]
end
theorem call49 : ∀ args w, (callFunc 49 args).run Try.prog w = .ok (.enter 49 args) w := by intro args w; go_simp
theorem call52 : ∀ args w, (callFunc 52 args).run Try.prog w = .ok (.enter 52 args) w := by intro args w; go_simp
theorem call59 : ∀ args w, (callFunc 59 args).run Try.prog w = .ok (.enter 59 args) w := by intro args w; go_simp
set_option maxHeartbeats 1000000 in
set_option maxRecDepth 100000 in
theorem under_any (K : Nat → Nat) (gk ok ck : Nat) (hck : 32 ≤ ck) (hK : ∀ j, K j < 256) (w : World) (hRk : Rs gk ok 32 K w) :
    Calls Try.prog 34 #[.slice (some ⟨gk, ok, none⟩) 32 ck] w fun e w' => e = .returned (.agg (ints .u64 (wk9 0 (rk K) (sk K)) 9).toArray) ∧ Below w.heap.size w w' := by
  have H0 : Hid (_ ∧ _) := ⟨Mm.nil w, Below.refl w.heap.size w⟩
  have RK : Hid (Rs gk ok 32 K w) := hRk
  clear hRk
  go_enter Try.func34, Try.ntmps34
  refine wp_seq ?_
  refine walk_seqA 1 [.made (ints .u64 (fun _ => 0) 9) 61] (sB H0) ?ho1 ?he1
  case ho1 => exact ak (fun γ => ⟨rfl, fun w' => ex_mk61 rfl⟩) trivial
  intro γ w1 l hM hl
  have H1 : Hid (Mm w1 [(γ 0, ints .u64 (fun _ => 0) 9)] ∧ _) := growB H0 hM (Nat.le_refl _) hl [0] rfl (by decide)
  have o1_0 := ownB H0 hM (Nat.le_refl _) hl (i := 0) rfl
  clear hM hl l
  generalize γ 0 = γ1_0 at H1 o1_0 ⊢
  clear γ
  refine rest0 rfl (then_normal (wp_seq ?_))
  refine (walk_any) (by kernel_rfl) 16 [.quiet (.slice (some ⟨gk, ok, none⟩) 32 ck), .call (U (nv K 8)), .quiet (U ((nv K 8) &&& 1152921487695413247)), .quiet (.slice (some ⟨gk, ok, none⟩) 32 ck), .quiet (.slice (some ⟨gk, (ok + 8), none⟩) (32 - 8) (ck - 8)), .call (U (nv (fun j => K (8 + j)) 8)), .quiet (U ((nv (fun j => K (8 + j)) 8) &&& 1152921487695413244)), .quiet (.agg (ints .u64 (t3 ((nv K 8) &&& 1152921487695413247) ((nv (fun j => K (8 + j)) 8) &&& 1152921487695413244) 0) 3).toArray), .quiet (.slice (some ⟨gk, ok, none⟩) 32 ck), .quiet (.slice (some ⟨gk, (ok + 16), none⟩) (32 - 16) (ck - 16)), .call (U (nv (fun j => K (16 + j)) 8)), .quiet (.slice (some ⟨gk, ok, none⟩) 32 ck), .quiet (.slice (some ⟨gk, (ok + 24), none⟩) (32 - 24) (ck - 24)), .call (U (nv (fun j => K (24 + j)) 8)), .quiet (.agg (ints .u64 (t3 (nv (fun j => K (16 + j)) 8) (nv (fun j => K (24 + j)) 8) 0) 3).toArray), .quiet (.agg (ints .u64 (w9f (fun _ => 0) (t3 ((nv K 8) &&& 1152921487695413247) ((nv (fun j => K (8 + j)) 8) &&& 1152921487695413244) 0) (t3 (nv (fun j => K (16 + j)) 8) (nv (fun j => K (24 + j)) 8) 0)) 9).toArray)] (fun u' => Mm u' [(γ1_0, ints .u64 (fun _ => 0) 9)] ∧ Rs gk ok 32 K u') ?pre2 ?F2 ?hpre2 (fun γ => ?hF2) (by kernel_rfl) ?hL2 ?hS2 ?ho2 ?he2
  case hpre2 => simp only [tk, tz]; rfl
  case hF2 => simp only [fill, Kind.val, Act.put, sa, sz, ss]; rfl
  case hL2 => exact trivial
  case hS2 => exact fun w' hb => ⟨H1.out.1.below hb, RK.out.below (H1.out.2.trans (hb.mono H1.out.2.size))⟩
  case ho2 =>
    refine ak (fun _ => ⟨rfl, fun _ _ => rfl⟩) ?_
    refine ak (fun γ => ⟨rfl, fun w' hX => ⟨49, #[.slice (some ⟨gk, ok, none⟩) 32 ck], exec_call rfl call49 rfl (mpn rfl), num64_any K gk ok 32 ck (by decide) hck hK w' hX.2⟩⟩) ?_
    refine ak (fun γ => ⟨rfl, fun w' _ => ex_and64 (nv8_lt hK) (by decide) rfl rfl rfl⟩) ?_
    refine ak (fun _ => ⟨rfl, fun _ _ => rfl⟩) ?_
    refine ak (fun γ => ⟨rfl, fun w' _ => ex_slT (l := 8) rfl rfl rfl (by omega) (by omega)⟩) ?_
    refine ak (fun γ => ⟨rfl, fun w' hX => ⟨49, #[.slice (some ⟨gk, (ok + 8), none⟩) (32 - 8) (ck - 8)], exec_call rfl call49 rfl (mpn rfl), num64_at K gk ok 32 ck 8 (by decide) hck hK w' hX.2⟩⟩) ?_
    refine ak (fun γ => ⟨rfl, fun w' _ => ex_and64 (nv8_lt (fun j => hK _)) (by decide) rfl rfl rfl⟩) ?_
    refine ak (fun γ => ⟨rfl, fun w' _ => ex_n2 rfl rfl rfl⟩) ?_
    refine ak (fun _ => ⟨rfl, fun _ _ => rfl⟩) ?_
    refine ak (fun γ => ⟨rfl, fun w' _ => ex_slT (l := 16) rfl rfl rfl (by omega) (by omega)⟩) ?_
    refine ak (fun γ => ⟨rfl, fun w' hX => ⟨49, #[.slice (some ⟨gk, (ok + 16), none⟩) (32 - 16) (ck - 16)], exec_call rfl call49 rfl (mpn rfl), num64_at K gk ok 32 ck 16 (by decide) hck hK w' hX.2⟩⟩) ?_
    refine ak (fun _ => ⟨rfl, fun _ _ => rfl⟩) ?_
    refine ak (fun γ => ⟨rfl, fun w' _ => ex_slT (l := 24) rfl rfl rfl (by omega) (by omega)⟩) ?_
    refine ak (fun γ => ⟨rfl, fun w' hX => ⟨49, #[.slice (some ⟨gk, (ok + 24), none⟩) (32 - 24) (ck - 24)], exec_call rfl call49 rfl (mpn rfl), num64_at K gk ok 32 ck 24 (by decide) hck hK w' hX.2⟩⟩) ?_
    refine ak (fun γ => ⟨rfl, fun w' _ => ex_n2 rfl rfl rfl⟩) ?_
    refine ak (fun γ => ⟨rfl, fun w' _ => ex_w2 rfl rfl rfl⟩) ?_
    exact trivial
  intro γ w2 l hM hl
  have H2 := keepB H1 hM.below
  clear hM hl l H1 γ
  refine rest_at (l := [16]) rfl ?_
  refine rest_store rfl rfl rfl (ex_storeT (vs := ints .u64 (w9f (fun _ => 0) (t3 ((nv K 8) &&& 1152921487695413247) ((nv (fun j => K (8 + j)) 8) &&& 1152921487695413244) 0) (t3 (nv (fun j => K (16 + j)) 8) (nv (fun j => K (24 + j)) 8) 0)) 9) H2.out.1 0 rfl rfl rfl rfl (by rw [ints_len]; exact Try.sizeOf61) (ints_all _ _ _) (by simp [ints_len])) ?_
  have H3 : Hid (Mm (w2.setCells γ1_0 0 (ints .u64 (w9f (fun _ => 0) (t3 ((nv K 8) &&& 1152921487695413247) ((nv (fun j => K (8 + j)) 8) &&& 1152921487695413244) 0) (t3 (nv (fun j => K (16 + j)) 8) (nv (fun j => K (24 + j)) 8) 0)) 9)) [(γ1_0, ints .u64 (w9f (fun _ => 0) (t3 ((nv K 8) &&& 1152921487695413247) ((nv (fun j => K (8 + j)) 8) &&& 1152921487695413244) 0) (t3 (nv (fun j => K (16 + j)) 8) (nv (fun j => K (24 + j)) 8) 0)) 9)] ∧ Below w.heap.size w (w2.setCells γ1_0 0 (ints .u64 (w9f (fun _ => 0) (t3 ((nv K 8) &&& 1152921487695413247) ((nv (fun j => K (8 + j)) 8) &&& 1152921487695413244) 0) (t3 (nv (fun j => K (16 + j)) 8) (nv (fun j => K (24 + j)) 8) 0)) 9))) := ⟨by
    have h := H2.out.1.put 0 (off := 0) (vs := ints .u64 (w9f (fun _ => 0) (t3 ((nv K 8) &&& 1152921487695413247) ((nv (fun j => K (8 + j)) 8) &&& 1152921487695413244) 0) (t3 (nv (fun j => K (16 + j)) 8) (nv (fun j => K (24 + j)) 8) 0)) 9) rfl (by simp [ints_len])
    rw [ints_patch0 _ _ _ _] at h
    exact h, below_setCells _ o1_0.out _ _ _ H2.out.2⟩
  clear H2
  generalize hgw : World.setCells _ _ _ _ = w3 at H3 ⊢
  clear hgw
  refine rest_nil (then_normal (wp_ret ?_))
  repeat (first | refine then_ret ?_ | refine block_ret ?_)
  have hf0 := var_T H3.out.1 0 rfl Try.isAgg61 Try.sizeOf61 (ints_len _ _ _)
  refine bodyPost_ret (v := .agg (ints .u64 (w9f (fun _ => 0) (t3 ((nv K 8) &&& 1152921487695413247) ((nv (fun j => K (8 + j)) 8) &&& 1152921487695413244) 0) (t3 (nv (fun j => K (16 + j)) 8) (nv (fun j => K (24 + j)) 8) 0)) 9).toArray) (by simp [results, Try.results34, asAddr, hf0]) rfl ?_
  exact ⟨by rw [← ints_congr (under_eq hK)]; rfl, H3.out.2⟩
set_option maxHeartbeats 2000000 in
set_option maxRecDepth 100000 in
theorem add_raw (g a r s v : Nat) (p : Nat → Nat) (hp : ∀ j, p j < 256) (hv : v ≤ 1) (hX : wN (nW (wN a) + nW (t3 (nv p 8) (nv (fun j => p (8 + j)) 8) v)) 2 < 8) (hR : wN r 0 < 1152921504606846976 ∧ wN r 1 < 1152921504606846976 ∧ wN r 0 + wN r 1 * 18446744073709551616 = r) (w : World) (hm : Mm w [(g, ints .u64 (wk9 a r s) 9)]) :
    Calls Try.prog 50 #[PT g 0, .agg (ints .u8 p 16).toArray, U v] w fun e w' => e = .returned (.tuple #[]) ∧ Mm w' [(g, ints .u64 (wk9 (fN (nW (wN (nW (wN a) + nW (t3 (nv p 8) (nv (fun j => p (8 + j)) 8) v))) * (wN r 0 + wN r 1 * 18446744073709551616))) r s) 9)] ∧ Kp g w w' := by
  have H0 : Hid (_ ∧ _) := ⟨hm, Kp.refl g w⟩
  clear hm
  have HX : Hid _ := hX
  have HR : Hid _ := hR
  clear hX hR
  go_enter Try.func50, Try.ntmps50
  refine wp_seq ?_
  refine walk_seqA 1 [.made (ints .u8 p 16) 65] (sB H0) ?ho1 ?he1
  case ho1 => exact ak (fun γ => ⟨rfl, fun w' => ex_boxT rfl rfl⟩) trivial
  intro γ w1 l hM hl
  have H1 : Hid (Mm w1 [(γ 0, ints .u8 p 16), (g, ints .u64 (wk9 a r s) 9)] ∧ _) := growK H0 hM (Nat.le_refl _) hl [0] rfl (by decide)
  have o1_0 := ownK H0 hM (Nat.le_refl _) hl (i := 0) rfl
  clear hM hl l
  generalize γ 0 = γ1_0 at H1 o1_0 ⊢
  clear γ
  refine rest0 rfl (then_normal ?_)
  refine walk_anyA 19 [.quiet (PT g 0), .quiet (PT g 0), .quiet (PT g 0), .quiet (PT g 0), .quiet (.agg (ints .u64 (wN a) 3).toArray), .quiet (.slice (some ⟨γ1_0, 0, none⟩) 8 16), .call (U (nv p 8)), .quiet (.slice (some ⟨γ1_0, 8, none⟩) 8 8), .call (U (nv (fun j => p (8 + j)) 8)), .quiet (U v), .quiet (.agg (ints .u64 (t3 (nv p 8) (nv (fun j => p (8 + j)) 8) v) 3).toArray), .call (.agg (ints .u64 (wN (nW (wN a) + nW (t3 (nv p 8) (nv (fun j => p (8 + j)) 8) v))) 3).toArray), .quiet (PT g 0), .quiet (PT g 0), .quiet (PT g 3), .quiet (.agg (ints .u64 (wN r) 3).toArray), .call (.agg (ints .u64 (wN (fN (nW (wN (nW (wN a) + nW (t3 (nv p 8) (nv (fun j => p (8 + j)) 8) v))) * ((wN r) 0 + (wN r) 1 * 18446744073709551616)))) 3).toArray), .quiet (PT g 0), .quiet (PT g 0)] (sB H1) ?ho2 ?he2
  case ho2 => exact ak (fun _ => ⟨rfl, fun _ _ => rfl⟩) (ak (fun _ => ⟨rfl, fun _ _ => rfl⟩) (ak (by refine fun γ => ⟨rfl, fun w' h => ?_⟩; clear h; go_simp) (ak (by refine fun γ => ⟨rfl, fun w' h => ?_⟩; clear h; go_simp) (ak (fun γ => ⟨rfl, fun w' h => ex_loadT h 1 rfl rfl rfl Try.isAgg59 Try.sizeOf59 (w9_0 _ _ _) (ints_len _ _ _)⟩) (ak (by refine fun γ => ⟨rfl, fun w' h => ?_⟩; clear h; go_simp) (ak (fun γ => ⟨rfl, fun w' h => ⟨49, #[.slice (some ⟨γ1_0, 0, none⟩) 8 16], exec_call rfl call49 rfl (mpn rfl), num64_any p γ1_0 0 8 16 (by decide) (by decide) hp w' (h.rs 0 rfl (by decide))⟩⟩) (ak (by refine fun γ => ⟨rfl, fun w' h => ?_⟩; clear h; go_simp) (ak (fun γ => ⟨rfl, fun w' h => ⟨49, #[.slice (some ⟨γ1_0, 8, none⟩) 8 8], exec_call rfl call49 rfl (mpn rfl), num64_any (fun j => p (8 + j)) γ1_0 8 8 8 (by decide) (by decide) (fun j => hp _) w' ((h.rs 0 rfl (Nat.le_refl 16)).part 8)⟩⟩) (ak (fun _ => ⟨rfl, fun _ _ => rfl⟩) (ak (fun γ => ⟨rfl, fun w' _ => ex_n3 rfl rfl rfl rfl⟩) (ak (fun γ => ⟨rfl, fun w' h => ⟨51, #[.agg (ints .u64 (wN a) 3).toArray, .agg (ints .u64 (t3 (nv p 8) (nv (fun j => p (8 + j)) 8) v) 3).toArray], exec_call rfl call51 rfl (mpn rfl), plus_any (wN a) (t3 (nv p 8) (nv (fun j => p (8 + j)) 8) v) (wN_lt' _) (t3_lt (nv8_lt hp) (nv8_lt (fun j => hp _)) (Nat.lt_of_le_of_lt hv (by decide))) w'⟩⟩) (ak (fun _ => ⟨rfl, fun _ _ => rfl⟩) (ak (by refine fun γ => ⟨rfl, fun w' h => ?_⟩; clear h; go_simp) (ak (by refine fun γ => ⟨rfl, fun w' h => ?_⟩; clear h; go_simp) (ak (fun γ => ⟨rfl, fun w' h => ex_loadT h 1 rfl rfl rfl Try.isAgg59 Try.sizeOf59 (w9_1 _ _ _) (ints_len _ _ _)⟩) (ak (fun γ => ⟨rfl, fun w' h => ⟨59, #[.agg (ints .u64 (wN (nW (wN a) + nW (t3 (nv p 8) (nv (fun j => p (8 + j)) 8) v))) 3).toArray, .agg (ints .u64 (wN r) 3).toArray], exec_call rfl call59 rfl (mpn rfl), ptimes_any (wN (nW (wN a) + nW (t3 (nv p 8) (nv (fun j => p (8 + j)) 8) v))) (wN r) (wN_lt' _) HX.out HR.out.1 HR.out.2.1 w'⟩⟩) (ak (by refine fun γ => ⟨rfl, fun w' h => ?_⟩; clear h; go_simp) (ak (by refine fun γ => ⟨rfl, fun w' h => ?_⟩; clear h; go_simp) trivial))))))))))))))))))
  intro γ w2 l hM hl
  have H2 := keepK H1 hM.below
  clear hM hl l H1 γ
  refine rest_at (l := [19]) rfl ?_
  refine rest_store rfl rfl rfl (ex_storeT (vs := ints .u64 (wN (fN (nW (wN (nW (wN a) + nW (t3 (nv p 8) (nv (fun j => p (8 + j)) 8) v))) * ((wN r) 0 + (wN r) 1 * 18446744073709551616)))) 3) H2.out.1 1 rfl rfl rfl rfl (by rw [ints_len]; exact Try.sizeOf59) (ints_all _ _ _) (by simp [ints_len])) ?_
  have H3 : Hid (Mm (w2.setCells g 0 (ints .u64 (wN (fN (nW (wN (nW (wN a) + nW (t3 (nv p 8) (nv (fun j => p (8 + j)) 8) v))) * ((wN r) 0 + (wN r) 1 * 18446744073709551616)))) 3)) [(γ1_0, ints .u8 p 16), (g, ints .u64 (wk9 (fN (nW (wN (nW (wN a) + nW (t3 (nv p 8) (nv (fun j => p (8 + j)) 8) v))) * ((wN r) 0 + (wN r) 1 * 18446744073709551616))) r s) 9)] ∧ Kp g w (w2.setCells g 0 (ints .u64 (wN (fN (nW (wN (nW (wN a) + nW (t3 (nv p 8) (nv (fun j => p (8 + j)) 8) v))) * ((wN r) 0 + (wN r) 1 * 18446744073709551616)))) 3))) := ⟨by
    have h := H2.out.1.put 1 (off := 0) (vs := ints .u64 (wN (fN (nW (wN (nW (wN a) + nW (t3 (nv p 8) (nv (fun j => p (8 + j)) 8) v))) * ((wN r) 0 + (wN r) 1 * 18446744073709551616)))) 3) rfl (by simp [ints_len])
    rw [w9_put] at h
    exact h, H2.out.2.put (Or.inl rfl)⟩
  clear H2
  generalize hgw : World.setCells _ _ _ _ = w3 at H3 ⊢
  clear hgw
  refine rest_nil ?_
  refine bodyPost_end (v := .tuple #[]) (by simp [results, Try.results50, go_sem]) rfl ?_
  exact ⟨rfl, H3.out.1.one 1 rfl, H3.out.2⟩
theorem add_any (g a r s v : Nat) (p : Nat → Nat) (hp : ∀ j, p j < 256) (hv : v ≤ 1) (hr : Rk r) (ha : Ab a) (w : World) (hm : Mm w [(g, ints .u64 (wk9 a r s) 9)]) :
    Calls Try.prog 50 #[PT g 0, .agg (ints .u8 p 16).toArray, U v] w fun e w' => e = .returned (.tuple #[]) ∧ Mm w' [(g, ints .u64 (wk9 (ga r a (nv p 16 + v * 340282366920938463463374607431768211456)) r s) 9)] ∧ Kp g w w' := by
  have e := add_eq (v := v) hr ha (nv8_lt hp) (nv8_lt (P := fun j => p (8 + j)) (fun j => hp _)) hv
  have h := add_raw g a r s v p hp hv e.1 hr.words w hm
  rw [e.2, ← nv16] at h
  exact h
set_option maxHeartbeats 1000000 in
set_option maxRecDepth 100000 in
theorem pieceOf_any (l m : Nat) (hl : l < 18446744073709551616) (w : World) :
    Calls Try.prog 52 #[U l, U m] w fun e w' => e = .returned (.agg (ints .u8 (dg (l + m * 18446744073709551616)) 16).toArray) ∧ Below w.heap.size w w' := by
  have H0 : Hid (_ ∧ _) := ⟨Mm.nil w, Below.refl w.heap.size w⟩
  go_enter Try.func52, Try.ntmps52
  refine wp_seq ?_
  refine walk_seqA 1 [.made (ints .u8 (fun _ => 0) 16) 65] (sB H0) ?ho1 ?he1
  case ho1 => exact ak (fun γ => ⟨rfl, fun w' => ex_mk65 rfl⟩) trivial
  intro γ w1 l hM hl
  have H1 : Hid (Mm w1 [(γ 0, ints .u8 (fun _ => 0) 16)] ∧ _) := growB H0 hM (Nat.le_refl _) hl [0] rfl (by decide)
  have o1_0 := ownB H0 hM (Nat.le_refl _) hl (i := 0) rfl
  clear hM hl l
  generalize γ 0 = γ1_0 at H1 o1_0 ⊢
  clear γ
  refine rest0 rfl (then_normal (wp_seq ?_))
  refine walk_seqA 1 [.made (ints .u8 (fun _ => 0) 16) 65] (sB H1) ?ho2 ?he2
  case ho2 => exact ak (fun γ => ⟨rfl, fun w' => ex_mk65 rfl⟩) trivial
  intro γ w2 l hM hl
  have H2 : Hid (Mm w2 [(γ 0, ints .u8 (fun _ => 0) 16), (γ1_0, ints .u8 (fun _ => 0) 16)] ∧ _) := growB H1 hM (Nat.le_refl _) hl [0] rfl (by decide)
  have o2_0 := ownB H1 hM (Nat.le_refl _) hl (i := 0) rfl
  clear hM hl l H1
  generalize γ 0 = γ2_0 at H2 o2_0 ⊢
  clear γ
  refine rest0 rfl (then_normal (wp_seq (wp_seq ?_)))
  refine walk_seqB 1 [.quiet (.int .i64 0)] H2 ?ho3 ?he3
  case ho3 => exact ak (fun _ => ⟨rfl, fun _ _ => rfl⟩) trivial
  intro _ w3 H3
  clear H2
  refine rest0 rfl (then_normal (wp_block ?_))
  refine loop_ghost (α := Nat) (fun i a' w' => ∃ s0 : Nat → Value, a' = ⟨#[U l, U m, undef, undef, PT γ1_0 0, PT γ2_0 0, s0 6, .int .i64 ((i : Nat) : Int), s0 8, s0 9, s0 10, s0 11, s0 12, s0 13, s0 14, s0 15, s0 16, s0 17, s0 18, s0 19, s0 20, s0 21, s0 22, s0 23, s0 24, s0 25, undef], []⟩ ∧ (Mm w' [(γ2_0, ints .u8 (pq l m i) 16), (γ1_0, ints .u8 (fun _ => 0) 16)] ∧ Below w.heap.size w w') ∧ i ≤ 8) (fun i => 8 - i) 0 ?st0 ?rd0
  case st0 => exact ⟨(slotfn [undef, undef, undef, undef, undef, undef, undef, undef, undef, undef, undef, undef, undef, undef, undef, undef, undef, undef, undef, undef, undef, undef, undef, undef, undef, undef]), rfl, ⟨H3.out.1, H3.out.2⟩, by omega⟩
  intro i a' w4 hI
  obtain ⟨s0, rfl, hMB, hk0⟩ := hI
  have H4 : Hid (_ ∧ _) := hMB
  clear hMB H3
  by_cases hlti : i < 8
  · have hrd : True := trivial
    clear hrd
    refine wp_seq ?_
    refine walk_seqB 1 [.quiet (.bool true)] H4 ?ho4 ?he4
    case ho4 => exact ak (by refine fun γ => ⟨rfl, fun w' h => ?_⟩; clear h; go_simp <;> omega) trivial
    intro _ w5 H5
    clear H4
    refine rest0 rfl (then_normal (wp_seq ?_))
    refine wp_cond_true rfl (wp_skip ?_)
    refine then_normal (wp_seq ?_)
    refine wp_block (wp_seq ?_)
    refine walk_seqB 2 [.quiet (.int .i64 ((i : Nat) : Int)), .quiet (.int .i64 ((i : Nat) : Int))] H5 ?ho5 ?he5
    case ho5 => exact ak (fun _ => ⟨rfl, fun _ _ => rfl⟩) (ak (fun _ => ⟨rfl, fun _ _ => rfl⟩) trivial)
    intro _ w6 H6
    clear H5
    refine rest0 rfl (then_normal ?_)
    refine walk_put (by kernel_rfl) 14 [1, 2, 8, 9, 10, 11, 12] [.quiet (.int .i64 ((i : Nat) : Int)), .quiet (.int .i64 ((i : Nat) : Int)), .quiet (.int .i64 ((8 + i : Nat) : Int)), .quiet (U l), .quiet (.int .i64 ((i : Nat) : Int)), .quiet (.int .i64 ((8 * i : Nat) : Int)), .quiet (U (sr l (8 * i))), .quiet (Z8 ((sr l (8 * i)) % 256)), .quiet (U m), .quiet (.int .i64 ((i : Nat) : Int)), .quiet (.int .i64 ((8 * i : Nat) : Int)), .quiet (U (sr m (8 * i))), .quiet (Z8 ((sr m (8 * i)) % 256)), .quiet (PT γ2_0 i)] _ ?pre6 ?F6 _ ?hpre6 (fun γ => ?hF6) (by kernel_rfl) rfl trivial (sB H6) ?ho6 ?hla6 ?he6
    case hpre6 => simp only [tk, tz]; rfl
    case hF6 => simp only [fill, Kind.val, Act.put, sa, sz, ss]; rfl
    case ho6 =>
      refine ak (fun _ => ⟨rfl, fun _ _ => rfl⟩) ?_
      refine ak (fun _ => ⟨rfl, fun _ _ => rfl⟩) ?_
      refine ak (by refine fun γ => ⟨rfl, fun w' h => ?_⟩; clear h; go_simp; rw [IntKind.wrap_i64]; omega) ?_
      refine ak (fun _ => ⟨rfl, fun _ _ => rfl⟩) ?_
      refine ak (fun _ => ⟨rfl, fun _ _ => rfl⟩) ?_
      refine ak (by refine fun γ => ⟨rfl, fun w' h => ?_⟩; clear h; go_simp; rw [IntKind.wrap_i64]; omega) ?_
      refine ak (fun γ => ⟨rfl, fun w' _ => ex_shr64 (k := 8 * i) (by omega) rfl rfl rfl⟩) ?_
      refine ak (fun γ => ⟨rfl, fun w' _ => ex_cv56_5 rfl rfl⟩) ?_
      refine ak (fun _ => ⟨rfl, fun _ _ => rfl⟩) ?_
      refine ak (fun _ => ⟨rfl, fun _ _ => rfl⟩) ?_
      refine ak (by refine fun γ => ⟨rfl, fun w' h => ?_⟩; clear h; go_simp; rw [IntKind.wrap_i64]; omega) ?_
      refine ak (fun γ => ⟨rfl, fun w' _ => ex_shr64 (k := 8 * i) (by omega) rfl rfl rfl⟩) ?_
      refine ak (fun γ => ⟨rfl, fun w' _ => ex_cv56_5 rfl rfl⟩) ?_
      refine ak (fun γ => ⟨rfl, fun w' _ => ex_ix0_65 (j := i) rfl rfl rfl (by omega)⟩) ?_
      exact trivial
    case hla6 => exact ⟨⟨_, _, rfl, rfl, fun γ => ⟨rfl, fun w' => rfl⟩⟩, ⟨_, _, rfl, rfl, fun γ => ⟨rfl, fun w' => by go_simp; rw [IntKind.wrap_i64]; omega⟩⟩, ⟨_, _, rfl, rfl, fun γ => ⟨rfl, fun w' => rfl⟩⟩, ⟨_, _, rfl, rfl, fun γ => ⟨rfl, fun w' => rfl⟩⟩, ⟨_, _, rfl, rfl, fun γ => ⟨rfl, fun w' => by go_simp; rw [IntKind.wrap_i64]; omega⟩⟩, ⟨_, _, rfl, rfl, fun γ => ⟨rfl, fun w' => ex_shr64 (k := 8 * i) (by omega) rfl rfl rfl⟩⟩, ⟨_, _, rfl, rfl, fun γ => ⟨rfl, fun w' => ex_cv56_5 rfl rfl⟩⟩, trivial⟩
    intro γ w7 l hM hl
    have H7 := keepB H6 hM.below
    clear hM hl l H6 γ
    refine ⟨_, ex_storeI H7.out.1 0 rfl rfl Try.sizeOf5 rfl rfl (by rw [ints_len]; omega), ?_⟩
    have H8 : Hid (Mm (w7.setCells γ2_0 i ([Z8 ((sr l (8 * i)) % 256)])) [(γ2_0, ints .u8 (up (pq l m i) i ((sr l (8 * i)) % 256)) 16), (γ1_0, ints .u8 (fun _ => 0) 16)] ∧ Below w.heap.size w (w7.setCells γ2_0 i ([Z8 ((sr l (8 * i)) % 256)]))) := ⟨by
      have h := H7.out.1.put 0 (off := i) (vs := [Z8 ((sr l (8 * i)) % 256)]) rfl (by rw [ints_len]; simp only [List.length_cons, List.length_nil]; omega)
      rw [ints_patch _ _ _ _ (by omega)] at h
      exact h, below_setCells _ o2_0.out _ _ _ H7.out.2⟩
    clear H7
    generalize hgw : World.setCells _ _ _ _ = w8 at H8 ⊢
    clear hgw
    refine rest_at (l := [15, 16]) rfl ?_
    refine rest_set (d := 24) (v := PT γ2_0 (8 + i)) (w' := w8) rfl rfl rfl (ex_ix0_65 (j := 8 + i) rfl rfl rfl (by omega)) ?_
    simp only [Act.put, sa, sz, ss]
    refine rest_store rfl rfl rfl (ex_storeI H8.out.1 0 rfl rfl Try.sizeOf5 rfl rfl (by rw [ints_len]; omega)) ?_
    have H9 : Hid (Mm (w8.setCells γ2_0 (8 + i) ([Z8 ((sr m (8 * i)) % 256)])) [(γ2_0, ints .u8 (pq l m (i + 1)) 16), (γ1_0, ints .u8 (fun _ => 0) 16)] ∧ Below w.heap.size w (w8.setCells γ2_0 (8 + i) ([Z8 ((sr m (8 * i)) % 256)]))) := ⟨by
      have h := H8.out.1.put 0 (off := 8 + i) (vs := [Z8 ((sr m (8 * i)) % 256)]) rfl (by rw [ints_len]; simp only [List.length_cons, List.length_nil]; omega)
      rw [ints_patch _ _ _ _ (by omega), show ints .u8 (up (up (pq l m i) i ((sr l (8 * i)) % 256)) (8 + i) ((sr m (8 * i)) % 256)) 16 = ints .u8 (pq l m (i + 1)) 16 by rw [show (up (up (pq l m i) i ((sr l (8 * i)) % 256)) (8 + i) ((sr m (8 * i)) % 256)) = pq l m (i + 1) from pq_set l m hlti]] at h
      exact h, below_setCells _ o2_0.out _ _ _ H8.out.2⟩
    clear H8
    generalize hgw : World.setCells _ _ _ _ = w9 at H9 ⊢
    clear hgw
    refine rest_nil (block_normal (then_normal ?_))
    refine walk_seqB 1 [.quiet (.int .i64 ((i + 1 : Nat) : Int))] H9 ?ho7 ?he7
    case ho7 => exact ak (by refine fun γ => ⟨rfl, fun w' h => ?_⟩; clear h; go_simp; rw [IntKind.wrap_i64]; omega) trivial
    intro _ w10 H10
    clear H9
    refine rest_at (l := [1]) rfl ?_
    refine rest_set (d := 7) rfl rfl rfl rfl ?_
    simp only [Act.put, sa, sz, ss]
    refine rest_nil (then_normal ?_)
    exact ⟨i + 1, ⟨(slotfn [undef, undef, undef, undef, undef, undef, .int .i64 ((i : Nat) : Int), undef, .bool true, .int .i64 ((i : Nat) : Int), .int .i64 ((i : Nat) : Int), .int .i64 ((i : Nat) : Int), .int .i64 ((8 + i : Nat) : Int), U l, .int .i64 ((i : Nat) : Int), .int .i64 ((8 * i : Nat) : Int), U (sr l (8 * i)), Z8 ((sr l (8 * i)) % 256), U m, .int .i64 ((i : Nat) : Int), .int .i64 ((8 * i : Nat) : Int), U (sr m (8 * i)), Z8 ((sr m (8 * i)) % 256), PT γ2_0 i, PT γ2_0 (8 + i), .int .i64 ((i + 1 : Nat) : Int)]), rfl, ⟨H10.out.1, H10.out.2⟩, by omega⟩, by omega⟩
  have hiN : i = 8 := by omega
  subst hiN
  refine wp_seq ?_
  refine walk_seqB 1 [.quiet (.bool false)] H4 ?ho8 ?he8
  case ho8 => exact ak (by refine fun γ => ⟨rfl, fun w' h => ?_⟩; clear h; go_simp <;> omega) trivial
  intro _ w11 H11
  clear H4
  refine rest0 rfl (then_normal (wp_seq (wp_cond_false rfl ?_)))
  refine wp_exit ?_
  repeat refine then_exit ?_
  refine block_exit ?_
  refine then_normal (wp_seq ?_)
  refine walk_seqB 1 [.quiet (.agg (ints .u8 (pq l m 8) 16).toArray)] H11 ?ho9 ?he9
  case ho9 => exact ak (fun γ => ⟨rfl, fun w' h => ex_loadT h 0 rfl rfl rfl Try.isAgg65 Try.sizeOf65 (ints_whole _ _ _) (ints_len _ _ _)⟩) trivial
  intro _ w12 H12
  clear H11
  refine rest_at (l := [1]) rfl ?_
  refine rest_store rfl rfl rfl (ex_storeT (vs := ints .u8 (pq l m 8) 16) H12.out.1 1 rfl rfl rfl rfl (by rw [ints_len]; exact Try.sizeOf65) (ints_all _ _ _) (by simp [ints_len])) ?_
  have H13 : Hid (Mm (w12.setCells γ1_0 0 (ints .u8 (pq l m 8) 16)) [(γ2_0, ints .u8 (pq l m 8) 16), (γ1_0, ints .u8 (pq l m 8) 16)] ∧ Below w.heap.size w (w12.setCells γ1_0 0 (ints .u8 (pq l m 8) 16))) := ⟨by
    have h := H12.out.1.put 1 (off := 0) (vs := ints .u8 (pq l m 8) 16) rfl (by simp [ints_len])
    rw [ints_patch0 _ _ _ _] at h
    exact h, below_setCells _ o1_0.out _ _ _ H12.out.2⟩
  clear H12
  generalize hgw : World.setCells _ _ _ _ = w13 at H13 ⊢
  clear hgw
  refine rest_nil (then_normal (wp_ret ?_))
  repeat (first | refine then_ret ?_ | refine block_ret ?_)
  have hf0 := var_T H13.out.1 1 rfl Try.isAgg65 Try.sizeOf65 (ints_len _ _ _)
  refine bodyPost_ret (v := .agg (ints .u8 (pq l m 8) 16).toArray) (by simp [results, Try.results52, asAddr, hf0]) rfl ?_
  exact ⟨by rw [ints_congr (pq_all hl)], H13.out.2⟩
set_option maxHeartbeats 2000000 in
set_option maxRecDepth 100000 in
theorem wtag_any (g a r s : Nat) (ha : Ab a) (hs : s < 340282366920938463463374607431768211456) (w : World) (hm : Mm w [(g, ints .u64 (wk9 a r s) 9)]) :
    Calls Try.prog 37 #[PT g 0] w fun e w' => e = .returned (.agg (ints .u8 (tt a s) 16).toArray) ∧ Below w.heap.size w w' := by
  have H0 : Hid (_ ∧ _) := ⟨hm, Below.refl w.heap.size w⟩
  clear hm
  go_enter Try.func37, Try.ntmps37
  refine wp_seq ?_
  refine walk_seqA 1 [.made (ints .u8 (fun _ => 0) 16) 65] (sB H0) ?ho1 ?he1
  case ho1 => exact ak (fun γ => ⟨rfl, fun w' => ex_mk65 rfl⟩) trivial
  intro γ w1 l hM hl
  have H1 : Hid (Mm w1 [(γ 0, ints .u8 (fun _ => 0) 16), (g, ints .u64 (wk9 a r s) 9)] ∧ _) := growB H0 hM (Nat.le_refl _) hl [0] rfl (by decide)
  have o1_0 := ownB H0 hM (Nat.le_refl _) hl (i := 0) rfl
  clear hM hl l
  generalize γ 0 = γ1_0 at H1 o1_0 ⊢
  clear γ
  refine rest0 rfl (then_normal (wp_seq ?_))
  refine walk_seqB 9 [.quiet (PT g 0), .quiet (PT g 0), .quiet (PT g 0), .quiet (.agg (ints .u64 (wN a) 3).toArray), .quiet (.agg (ints .u64 (t3 5 0 0) 3).toArray), .call (.agg (ints .u64 (wN (nW (wN a) + nW (t3 5 0 0))) 3).toArray), .quiet (U ((wN (nW (wN a) + nW (t3 5 0 0))) 2)), .quiet (U (sr ((wN (nW (wN a) + nW (t3 5 0 0))) 2) 2)), .quiet (U (sr ((wN (nW (wN a) + nW (t3 5 0 0))) 2) 2))] H1 ?ho2 ?he2
  case ho2 => exact ak (fun _ => ⟨rfl, fun _ _ => rfl⟩) (ak (by refine fun γ => ⟨rfl, fun w' h => ?_⟩; clear h; go_simp) (ak (by refine fun γ => ⟨rfl, fun w' h => ?_⟩; clear h; go_simp) (ak (fun γ => ⟨rfl, fun w' h => ex_loadT h 1 rfl rfl rfl Try.isAgg59 Try.sizeOf59 (w9_0 _ _ _) (ints_len _ _ _)⟩) (ak (fun γ => ⟨rfl, fun w' _ => ex_n1 rfl rfl⟩) (ak (fun γ => ⟨rfl, fun w' h => ⟨51, #[.agg (ints .u64 (wN a) 3).toArray, .agg (ints .u64 (t3 5 0 0) 3).toArray], exec_call rfl call51 rfl (mpn rfl), plus_any (wN a) (t3 5 0 0) (wN_lt' _) (t3_lt (by decide) (by decide) (by decide)) w'⟩⟩) (ak (fun γ => ⟨rfl, fun w' _ => ex_f2 rfl rfl⟩) (ak (fun γ => ⟨rfl, fun w' _ => ex_shr64 (k := 2) (by decide) rfl rfl rfl⟩) (ak (fun _ => ⟨rfl, fun _ _ => rfl⟩) trivial))))))))
  intro _ w2 H2
  clear H1
  refine rest0 rfl (then_normal (wp_seq ?_))
  refine walk_anyA 15 [.quiet (PT g 0), .quiet (PT g 0), .quiet (PT g 0), .quiet (.agg (ints .u64 (wN a) 3).toArray), .quiet (U (sr ((wN (nW (wN a) + nW (t3 5 0 0))) 2) 2)), .quiet (U (c64 (5 * sr ((wN (nW (wN a) + nW (t3 5 0 0))) 2) 2))), .quiet (.agg (ints .u64 (t3 (c64 (5 * sr ((wN (nW (wN a) + nW (t3 5 0 0))) 2) 2)) 0 0) 3).toArray), .call (.agg (ints .u64 (wN (nW (wN a) + nW (t3 (c64 (5 * sr ((wN (nW (wN a) + nW (t3 5 0 0))) 2) 2)) 0 0))) 3).toArray), .quiet (PT g 0), .quiet (PT g 0), .quiet (PT g 6), .quiet (.agg (ints .u64 (wN s) 3).toArray), .call (.agg (ints .u64 (wN (nW (wN (nW (wN a) + nW (t3 (c64 (5 * sr ((wN (nW (wN a) + nW (t3 5 0 0))) 2) 2)) 0 0))) + nW (wN s))) 3).toArray), .made (ints .u64 (fun _ => 0) 3) 59, .laid 13 (ints .u64 (fun _ => 0) 3) (ints .u64 (wN (nW (wN (nW (wN a) + nW (t3 (c64 (5 * sr ((wN (nW (wN a) + nW (t3 5 0 0))) 2) 2)) 0 0))) + nW (wN s))) 3)] (sB H2) ?ho3 ?he3 (hL := ?hL3)
  case hL3 => exact ⟨⟨_, rfl⟩, trivial⟩
  case ho3 => exact ak (fun _ => ⟨rfl, fun _ _ => rfl⟩) (ak (by refine fun γ => ⟨rfl, fun w' h => ?_⟩; clear h; go_simp) (ak (by refine fun γ => ⟨rfl, fun w' h => ?_⟩; clear h; go_simp) (ak (fun γ => ⟨rfl, fun w' h => ex_loadT h 1 rfl rfl rfl Try.isAgg59 Try.sizeOf59 (w9_0 _ _ _) (ints_len _ _ _)⟩) (ak (fun _ => ⟨rfl, fun _ _ => rfl⟩) (ak (fun γ => ⟨rfl, fun w' _ => ex_mul64 rfl rfl rfl⟩) (ak (fun γ => ⟨rfl, fun w' _ => ex_n1 rfl rfl⟩) (ak (fun γ => ⟨rfl, fun w' h => ⟨51, #[.agg (ints .u64 (wN a) 3).toArray, .agg (ints .u64 (t3 (c64 (5 * sr ((wN (nW (wN a) + nW (t3 5 0 0))) 2) 2)) 0 0) 3).toArray], exec_call rfl call51 rfl (mpn rfl), plus_any (wN a) (t3 (c64 (5 * sr ((wN (nW (wN a) + nW (t3 5 0 0))) 2) 2)) 0 0) (wN_lt' _) (t3_lt (Nat.mod_lt _ (by decide)) (by decide) (by decide)) w'⟩⟩) (ak (fun _ => ⟨rfl, fun _ _ => rfl⟩) (ak (by refine fun γ => ⟨rfl, fun w' h => ?_⟩; clear h; go_simp) (ak (by refine fun γ => ⟨rfl, fun w' h => ?_⟩; clear h; go_simp) (ak (fun γ => ⟨rfl, fun w' h => ex_loadT h 1 rfl rfl rfl Try.isAgg59 Try.sizeOf59 (w9_2 _ _ _) (ints_len _ _ _)⟩) (ak (fun γ => ⟨rfl, fun w' h => ⟨51, #[.agg (ints .u64 (wN (nW (wN a) + nW (t3 (c64 (5 * sr ((wN (nW (wN a) + nW (t3 5 0 0))) 2) 2)) 0 0))) 3).toArray, .agg (ints .u64 (wN s) 3).toArray], exec_call rfl call51 rfl (mpn rfl), plus_any (wN (nW (wN a) + nW (t3 (c64 (5 * sr ((wN (nW (wN a) + nW (t3 5 0 0))) 2) 2)) 0 0))) (wN s) (wN_lt' _) (wN_lt' _) w'⟩⟩) (ak (fun γ => ⟨rfl, fun w' => ex_mk59 rfl⟩) (ak (fun γ => ⟨rfl, rfl, (ints_len _ _ _).trans (ints_len _ _ _).symm, fun w' h => ex_laidI h Try.sizeOf59 rfl rfl rfl⟩) trivial))))))))))))))
  intro γ w3 l hM hl
  have H3 : Hid (Mm w3 [(γ 13, ints .u64 (wN (nW (wN (nW (wN a) + nW (t3 (c64 (5 * sr ((wN (nW (wN a) + nW (t3 5 0 0))) 2) 2)) 0 0))) + nW (wN s))) 3), (γ1_0, ints .u8 (fun _ => 0) 16), (g, ints .u64 (wk9 a r s) 9)] ∧ _) := growB H2 hM (Nat.le_refl _) hl [13] rfl (by decide)
  have o3_13 := ownB H2 hM (Nat.le_refl _) hl (i := 13) rfl
  clear hM hl l H2
  generalize γ 13 = γ3_13 at H3 o3_13 ⊢
  clear γ
  refine rest0 rfl (then_normal (wp_seq ?_))
  refine walk_seqB 5 [.quiet (PT γ3_13 0), .quiet (U ((wN (nW (wN (nW (wN a) + nW (t3 (c64 (5 * sr ((wN (nW (wN a) + nW (t3 5 0 0))) 2) 2)) 0 0))) + nW (wN s))) 0)), .quiet (PT γ3_13 1), .quiet (U ((wN (nW (wN (nW (wN a) + nW (t3 (c64 (5 * sr ((wN (nW (wN a) + nW (t3 5 0 0))) 2) 2)) 0 0))) + nW (wN s))) 1)), .call (.agg (ints .u8 (dg ((wN (nW (wN (nW (wN a) + nW (t3 (c64 (5 * sr ((wN (nW (wN a) + nW (t3 5 0 0))) 2) 2)) 0 0))) + nW (wN s))) 0 + ((wN (nW (wN (nW (wN a) + nW (t3 (c64 (5 * sr ((wN (nW (wN a) + nW (t3 5 0 0))) 2) 2)) 0 0))) + nW (wN s))) 1) * 18446744073709551616)) 16).toArray)] H3 ?ho4 ?he4
  case ho4 => exact ak (by refine fun γ => ⟨rfl, fun w' h => ?_⟩; clear h; go_simp) (ak (fun γ => ⟨rfl, fun w' h => ex_loadC h 0 rfl rfl rfl Try.isAgg57 (ints_get _ _ (by decide))⟩) (ak (by refine fun γ => ⟨rfl, fun w' h => ?_⟩; clear h; go_simp) (ak (fun γ => ⟨rfl, fun w' h => ex_loadC h 0 rfl rfl rfl Try.isAgg57 (ints_get _ _ (by decide))⟩) (ak (fun γ => ⟨rfl, fun w' h => ⟨52, #[U ((wN (nW (wN (nW (wN a) + nW (t3 (c64 (5 * sr ((wN (nW (wN a) + nW (t3 5 0 0))) 2) 2)) 0 0))) + nW (wN s))) 0), U ((wN (nW (wN (nW (wN a) + nW (t3 (c64 (5 * sr ((wN (nW (wN a) + nW (t3 5 0 0))) 2) 2)) 0 0))) + nW (wN s))) 1)], exec_call rfl call52 rfl (mpn rfl), pieceOf_any _ _ (wN_lt _ _) w'⟩⟩) trivial))))
  intro _ w4 H4
  clear H3
  refine rest_at (l := [5]) rfl ?_
  refine rest_store rfl rfl rfl (ex_storeT (vs := ints .u8 (dg ((wN (nW (wN (nW (wN a) + nW (t3 (c64 (5 * sr ((wN (nW (wN a) + nW (t3 5 0 0))) 2) 2)) 0 0))) + nW (wN s))) 0 + ((wN (nW (wN (nW (wN a) + nW (t3 (c64 (5 * sr ((wN (nW (wN a) + nW (t3 5 0 0))) 2) 2)) 0 0))) + nW (wN s))) 1) * 18446744073709551616)) 16) H4.out.1 1 rfl rfl rfl rfl (by rw [ints_len]; exact Try.sizeOf65) (ints_all _ _ _) (by simp [ints_len])) ?_
  have H5 : Hid (Mm (w4.setCells γ1_0 0 (ints .u8 (dg ((wN (nW (wN (nW (wN a) + nW (t3 (c64 (5 * sr ((wN (nW (wN a) + nW (t3 5 0 0))) 2) 2)) 0 0))) + nW (wN s))) 0 + ((wN (nW (wN (nW (wN a) + nW (t3 (c64 (5 * sr ((wN (nW (wN a) + nW (t3 5 0 0))) 2) 2)) 0 0))) + nW (wN s))) 1) * 18446744073709551616)) 16)) [(γ3_13, ints .u64 (wN (nW (wN (nW (wN a) + nW (t3 (c64 (5 * sr ((wN (nW (wN a) + nW (t3 5 0 0))) 2) 2)) 0 0))) + nW (wN s))) 3), (γ1_0, ints .u8 (dg ((wN (nW (wN (nW (wN a) + nW (t3 (c64 (5 * sr ((wN (nW (wN a) + nW (t3 5 0 0))) 2) 2)) 0 0))) + nW (wN s))) 0 + ((wN (nW (wN (nW (wN a) + nW (t3 (c64 (5 * sr ((wN (nW (wN a) + nW (t3 5 0 0))) 2) 2)) 0 0))) + nW (wN s))) 1) * 18446744073709551616)) 16), (g, ints .u64 (wk9 a r s) 9)] ∧ Below w.heap.size w (w4.setCells γ1_0 0 (ints .u8 (dg ((wN (nW (wN (nW (wN a) + nW (t3 (c64 (5 * sr ((wN (nW (wN a) + nW (t3 5 0 0))) 2) 2)) 0 0))) + nW (wN s))) 0 + ((wN (nW (wN (nW (wN a) + nW (t3 (c64 (5 * sr ((wN (nW (wN a) + nW (t3 5 0 0))) 2) 2)) 0 0))) + nW (wN s))) 1) * 18446744073709551616)) 16))) := ⟨by
    have h := H4.out.1.put 1 (off := 0) (vs := ints .u8 (dg ((wN (nW (wN (nW (wN a) + nW (t3 (c64 (5 * sr ((wN (nW (wN a) + nW (t3 5 0 0))) 2) 2)) 0 0))) + nW (wN s))) 0 + ((wN (nW (wN (nW (wN a) + nW (t3 (c64 (5 * sr ((wN (nW (wN a) + nW (t3 5 0 0))) 2) 2)) 0 0))) + nW (wN s))) 1) * 18446744073709551616)) 16) rfl (by simp [ints_len])
    rw [ints_patch0 _ _ _ _] at h
    exact h, below_setCells _ o1_0.out _ _ _ H4.out.2⟩
  clear H4
  generalize hgw : World.setCells _ _ _ _ = w5 at H5 ⊢
  clear hgw
  refine rest_nil (then_normal (wp_ret ?_))
  repeat (first | refine then_ret ?_ | refine block_ret ?_)
  have hf0 := var_T H5.out.1 1 rfl Try.isAgg65 Try.sizeOf65 (ints_len _ _ _)
  refine bodyPost_ret (v := .agg (ints .u8 (dg ((wN (nW (wN (nW (wN a) + nW (t3 (c64 (5 * sr ((wN (nW (wN a) + nW (t3 5 0 0))) 2) 2)) 0 0))) + nW (wN s))) 0 + ((wN (nW (wN (nW (wN a) + nW (t3 (c64 (5 * sr ((wN (nW (wN a) + nW (t3 5 0 0))) 2) 2)) 0 0))) + nW (wN s))) 1) * 18446744073709551616)) 16).toArray) (by simp [results, Try.results37, asAddr, hf0]) rfl ?_
  exact ⟨by rw [← ints_congr (tag_eq ha hs)], H5.out.2⟩
set_option maxHeartbeats 1000000 in
set_option maxRecDepth 100000 in
theorem psame_raw (a b : Nat → Nat) (w : World) :
    Calls Try.prog 42 #[.agg (ints .u8 a 16).toArray, .agg (ints .u8 b 16).toArray] w fun e w' => e = .returned (.bool (decide (ul a b 16 = 0))) ∧ Below w.heap.size w w' := by
  have H0 : Hid (_ ∧ _) := ⟨Mm.nil w, Below.refl w.heap.size w⟩
  go_enter Try.func42, Try.ntmps42
  refine wp_seq ?_
  refine walk_seqA 3 [.made (ints .u8 a 16) 65, .made (ints .u8 b 16) 65, .quiet (.bool false)] (sB H0) ?ho1 ?he1
  case ho1 => exact ak (fun γ => ⟨rfl, fun w' => ex_boxT rfl rfl⟩) (ak (fun γ => ⟨rfl, fun w' => ex_boxT rfl rfl⟩) (ak (fun _ => ⟨rfl, fun _ _ => rfl⟩) trivial))
  intro γ w1 l hM hl
  have H1 : Hid (Mm w1 [(γ 0, ints .u8 a 16), (γ 1, ints .u8 b 16)] ∧ _) := growB H0 hM (Nat.le_refl _) hl [0, 1] rfl (by decide)
  have o1_0 := ownB H0 hM (Nat.le_refl _) hl (i := 0) rfl
  have o1_1 := ownB H0 hM (Nat.le_refl _) hl (i := 1) rfl
  clear hM hl l
  generalize γ 0 = γ1_0 at H1 o1_0 ⊢
  generalize γ 1 = γ1_1 at H1 o1_1 ⊢
  clear γ
  refine rest0 rfl (then_normal (wp_seq ?_))
  refine walk_seqB 1 [.quiet (.int .u8 0)] H1 ?ho2 ?he2
  case ho2 => exact ak (fun _ => ⟨rfl, fun _ _ => rfl⟩) trivial
  intro _ w2 H2
  clear H1
  refine rest0 rfl (then_normal (wp_seq (wp_seq ?_)))
  refine walk_seqB 2 [.quiet (.agg (ints .u8 a 16).toArray), .quiet (.int .i64 0)] H2 ?ho3 ?he3
  case ho3 => exact ak (fun γ => ⟨rfl, fun w' h => ex_loadT h 0 rfl rfl rfl Try.isAgg65 Try.sizeOf65 (ints_whole _ _ _) (ints_len _ _ _)⟩) (ak (fun _ => ⟨rfl, fun _ _ => rfl⟩) trivial)
  intro _ w3 H3
  clear H2
  refine rest0 rfl (then_normal (wp_block ?_))
  refine loop_ghost (α := Nat) (fun i a' w' => ∃ s0 : Nat → Value, a' = ⟨#[.agg (ints .u8 a 16).toArray, .agg (ints .u8 b 16).toArray, PT γ1_0 0, PT γ1_1 0, .bool false, Z8 (ul a b i), s0 6, s0 7, .agg (ints .u8 a 16).toArray, .int .i64 ((i : Nat) : Int), s0 10, s0 11, s0 12, s0 13, s0 14, s0 15, s0 16, s0 17, s0 18, s0 19, s0 20, undef, undef], []⟩ ∧ (Mm w' [(γ1_0, ints .u8 a 16), (γ1_1, ints .u8 b 16)] ∧ Below w.heap.size w w') ∧ i ≤ 16) (fun i => 16 - i) 0 ?st0 ?rd0
  case st0 => exact ⟨(slotfn [undef, undef, undef, undef, undef, undef, undef, undef, undef, undef, undef, undef, undef, undef, undef, undef, undef, undef, undef, undef, undef]), rfl, ⟨H3.out.1, H3.out.2⟩, by omega⟩
  intro i a' w4 hI
  obtain ⟨s0, rfl, hMB, hk0⟩ := hI
  have H4 : Hid (_ ∧ _) := hMB
  clear hMB H3
  by_cases hlti : i < 16
  · have hrd : True := trivial
    clear hrd
    refine wp_seq ?_
    refine walk_seqB 1 [.quiet (.bool true)] H4 ?ho4 ?he4
    case ho4 => exact ak (by refine fun γ => ⟨rfl, fun w' h => ?_⟩; clear h; go_simp <;> omega) trivial
    intro _ w5 H5
    clear H4
    refine rest0 rfl (then_normal (wp_seq ?_))
    refine wp_cond_true rfl (wp_skip ?_)
    refine then_normal (wp_seq ?_)
    refine wp_block (wp_seq ?_)
    refine walk_seqB 4 [.quiet (.int .i64 ((i : Nat) : Int)), .quiet (Z8 (a i)), .quiet (.int .i64 ((i : Nat) : Int)), .quiet (Z8 (a i))] H5 ?ho5 ?he5
    case ho5 => exact ak (fun _ => ⟨rfl, fun _ _ => rfl⟩) (ak (fun γ => ⟨rfl, fun w' _ => ex_at65 (j := i) rfl rfl rfl (by omega)⟩) (ak (fun _ => ⟨rfl, fun _ _ => rfl⟩) (ak (fun _ => ⟨rfl, fun _ _ => rfl⟩) trivial)))
    intro _ w6 H6
    clear H5
    refine rest0 rfl (then_normal ?_)
    refine walk_seqB 7 [.quiet (Z8 (ul a b i)), .quiet (Z8 (a i)), .quiet (.int .i64 ((i : Nat) : Int)), .quiet (PT γ1_1 i), .quiet (Z8 (b i)), .quiet (Z8 (x8 (a i) (b i))), .quiet (Z8 (o8 (ul a b i) (x8 (a i) (b i))))] H6 ?ho6 ?he6
    case ho6 => exact ak (fun _ => ⟨rfl, fun _ _ => rfl⟩) (ak (fun _ => ⟨rfl, fun _ _ => rfl⟩) (ak (fun _ => ⟨rfl, fun _ _ => rfl⟩) (ak (fun γ => ⟨rfl, fun w' _ => ex_ix0_65 (j := i) rfl rfl rfl (by omega)⟩) (ak (fun γ => ⟨rfl, fun w' h => ex_loadC h 1 rfl rfl rfl Try.isAgg5 (ints_get _ _ (by omega))⟩) (ak (fun γ => ⟨rfl, fun w' _ => ex_xor8 rfl rfl rfl⟩) (ak (fun γ => ⟨rfl, fun w' _ => ex_or8x rfl rfl rfl⟩) trivial))))))
    intro _ w7 H7
    clear H6
    refine rest_at (l := [7]) rfl ?_
    refine rest_set (d := 5) rfl rfl rfl rfl ?_
    simp only [Act.put, sa, sz, ss]
    refine rest_nil (block_normal (then_normal ?_))
    refine walk_seqB 1 [.quiet (.int .i64 ((i + 1 : Nat) : Int))] H7 ?ho7 ?he7
    case ho7 => exact ak (by refine fun γ => ⟨rfl, fun w' h => ?_⟩; clear h; go_simp; rw [IntKind.wrap_i64]; omega) trivial
    intro _ w8 H8
    clear H7
    refine rest_at (l := [1]) rfl ?_
    refine rest_set (d := 9) rfl rfl rfl rfl ?_
    simp only [Act.put, sa, sz, ss]
    refine rest_nil (then_normal ?_)
    exact ⟨i + 1, ⟨(slotfn [undef, undef, undef, undef, undef, undef, .int .i64 ((i : Nat) : Int), Z8 (a i), undef, undef, .bool true, .int .i64 ((i : Nat) : Int), Z8 (a i), Z8 (ul a b i), Z8 (a i), .int .i64 ((i : Nat) : Int), PT γ1_1 i, Z8 (b i), Z8 (x8 (a i) (b i)), Z8 (o8 (ul a b i) (x8 (a i) (b i))), .int .i64 ((i + 1 : Nat) : Int)]), rfl, ⟨H8.out.1, H8.out.2⟩, by omega⟩, by omega⟩
  have hiN : i = 16 := by omega
  subst hiN
  refine wp_seq ?_
  refine walk_seqB 1 [.quiet (.bool false)] H4 ?ho8 ?he8
  case ho8 => exact ak (by refine fun γ => ⟨rfl, fun w' h => ?_⟩; clear h; go_simp <;> omega) trivial
  intro _ w9 H9
  clear H4
  refine rest0 rfl (then_normal (wp_seq (wp_cond_false rfl ?_)))
  refine wp_exit ?_
  repeat refine then_exit ?_
  refine block_exit ?_
  refine then_normal (wp_seq ?_)
  refine walk_seqB 3 [.quiet (Z8 (ul a b 16)), .quiet (.bool (decide (ul a b 16 = 0))), .quiet (.bool (decide (ul a b 16 = 0)))] H9 ?ho9 ?he9
  case ho9 => exact ak (fun _ => ⟨rfl, fun _ _ => rfl⟩) (ak (fun γ => ⟨rfl, fun w' _ => ex_eq8 rfl rfl rfl⟩) (ak (fun _ => ⟨rfl, fun _ _ => rfl⟩) trivial))
  intro _ w10 H10
  clear H9
  refine rest0 rfl (then_normal (wp_ret ?_))
  repeat (first | refine then_ret ?_ | refine block_ret ?_)
  refine bodyPost_ret (v := .bool (decide (ul a b 16 = 0))) (by simp [results, Try.results42, go_sem, *]) rfl ?_
  exact ⟨rfl, H10.out.2⟩
theorem psame_any (a b : Nat → Nat) (ha : ∀ j, a j < 256) (hb : ∀ j, b j < 256) (t : Bool) (ht : t = true ↔ ∀ j, j < 16 → a j = b j) (w : World) : Calls Try.prog 42 #[.agg (ints .u8 a 16).toArray, .agg (ints .u8 b 16).toArray] w fun e w' => e = .returned (.bool t) ∧ Below w.heap.size w w' := by
  have h := psame_raw a b w
  have e : decide (ul a b 16 = 0) = t := by
    cases t with
    | true => exact decide_eq_true ((ul_zero ha hb 16).2 (ht.1 rfl))
    | false => exact decide_eq_false (fun h0 => Bool.noConfusion (ht.2 ((ul_zero ha hb 16).1 h0)))
  rw [e] at h
  exact h
end Rg
end Go.Proofs.Ytkkippfikfjdpaa
end
section
namespace Go.Proofs.Ytkkippfikfjdpaa
open Go.RowKit
namespace Rg
set_option maxRecDepth 100000
/-- What is left of a slice without its first l places. -/
def sl22 (g off m c l : Nat) : Value := if c - l = 0 then .slice (some ⟨g, off, none⟩) (m - l) (c - l) else .slice (some ⟨g, off + l, none⟩) (m - l) (c - l)
/-- A part on its way: i of its bytes are taken. -/
def Bw (q : Pt8) (i : Nat) (v : Value) : Prop := ∃ p c, v = .slice p (q.n - i) c ∧ (i < q.n → p = some ⟨q.gb, q.o + i, none⟩ ∧ c = q.cp - i)
theorem Bw.start {q : Pt8} (h : Pok q) : Bw q 0 (.slice q.p q.n q.cp) := ⟨q.p, q.cp, rfl, fun hn => ⟨h.at hn, rfl⟩⟩
theorem Bw.step {q : Pt8} {i l : Nat} (h : q.n ≤ q.cp) : Bw q (i + l) (sl22 q.gb (q.o + i) (q.n - i) (q.cp - i) l) := by
  unfold sl22
  by_cases e : q.cp - i - l = 0
  · rw [if_pos e, show q.n - i - l = q.n - (i + l) by omega]
    exact ⟨_, _, rfl, fun hn => absurd hn (by omega)⟩
  · rw [if_neg e, show q.n - i - l = q.n - (i + l) by omega]
    exact ⟨_, _, rfl, fun _ => ⟨by rw [Nat.add_assoc], by omega⟩⟩
/-- The number behind k whole pieces. -/
def pgs (r a : Nat) (f : Nat → Nat) : Nat → Nat
  | 0 => a
  | k + 1 => ga r (pgs r a f k) (nv (fun j => f (16 * k + j)) 16 + 1 * 340282366920938463463374607431768211456)
theorem nv16_lt {P : Nat → Nat} (hP : ∀ j, P j < 256) : nv P 16 < 340282366920938463463374607431768211456 := nv_lt 16 (fun i _ => hP i)
theorem pgs_ok {r a : Nat} {f : Nat → Nat} (hr : Rk r) (ha : Ab a) (hf : ∀ j, f j < 256) : ∀ k, Ab (pgs r a f k)
  | 0 => ha
  | k + 1 => ga_ok hr (pgs_ok hr ha hf k) (by
    have := nv16_lt (P := fun j => f (16 * k + j)) (fun j => hf _)
    omega)
theorem pgs_succ (r a : Nat) (f : Nat → Nat) (k : Nat) : pgs r a f (k + 1) = ga r (pgs r a f k) (nv (fun j => f (16 * k + j)) 16 + 1 * 340282366920938463463374607431768211456) := rfl
theorem pgs_add (r a : Nat) (f : Nat → Nat) (k : Nat) : ∀ l, pgs r a f (k + l) = pgs r (pgs r a f k) (fun j => f (16 * k + j)) l
  | 0 => rfl
  | l + 1 => by
    rw [← Nat.add_assoc, pgs_succ, pgs_succ, pgs_add r a f k l, nv_cg (f := fun j => f (16 * (k + l) + j)) (g := fun j => f (16 * k + (16 * l + j))) 16 (fun i _ => by
      show f (16 * (k + l) + i) = f (16 * k + (16 * l + i))
      rw [show 16 * (k + l) + i = 16 * k + (16 * l + i) by omega])]
theorem pgs_cg {r a : Nat} {f f' : Nat → Nat} : ∀ {k : Nat}, (∀ j, j < 16 * k → f j = f' j) → pgs r a f k = pgs r a f' k
  | 0, _ => rfl
  | k + 1, h => by
    rw [pgs_succ, pgs_succ, pgs_cg (k := k) (fun j hj => h j (by omega)), nv_cg (f := fun j => f (16 * k + j)) (g := fun j => f' (16 * k + j)) 16 (fun i hi => h _ (by omega))]
/-- Bytes put into a row. -/
def py (r : Nat → Nat) (o m : Nat) (F : Nat → Nat) : Nat → Nat := fun j => if o ≤ j ∧ j < o + m then F (j - o) else r j
theorem ints_part (r F : Nat → Nat) {o m N : Nat} (h : o + m ≤ N) : patch (ints .u8 r N) o (ints .u8 F m) = ints .u8 (py r o m F) N := by
  refine List.ext_getElem? (fun j => ?_)
  rw [patch_get _ _ _ (by rw [ints_len, ints_len]; exact h), ints_len]
  by_cases hj : j < N
  · rw [ints_get .u8 (py r o m F) hj]
    unfold py
    by_cases e : o ≤ j ∧ j < o + m
    · rw [if_pos e, if_pos e, ints_get .u8 F (by omega)]
    · rw [if_neg e, if_neg e, ints_get .u8 r hj]
  · rw [ints_none .u8 (py r o m F) (by omega), if_neg (by omega), ints_none .u8 r (by omega)]
/-- The last piece, with a byte 1 behind it. -/
theorem last_nv (f : Nat → Nat) {m : Nat} (hm : m < 16) : nv (up (py (fun _ => 0) 0 m f) m 1) 16 = nv f m + 256 ^ m := by
  rw [nv_more (m := m + 1) (n := 16) (by omega) (fun i h1 _ => by
    unfold up py
    rw [if_neg (by omega), if_neg (by omega)]), nv_succ, nv_cg (g := f) m (fun i hi => by
    unfold up py
    rw [if_neg (by omega), if_pos (by omega), Nat.sub_zero])]
  unfold up
  rw [if_pos rfl, Nat.one_mul]
theorem py_kz (f : Nat → Nat) (m : Nat) : py (fun _ => 0) 0 m f = kz f m := by
  funext j
  unfold py kz
  by_cases h : j < m
  · rw [if_pos (by omega), if_pos h, Nat.sub_zero]
  · rw [if_neg (by omega), if_neg h]
/-- All pieces of a text that is filled. -/
def fl16 (r a : Nat) (f : Nat → Nat) (n : Nat) : Nat := pgs r a (kz f n) ((n + 15) / 16)
theorem fl16_whole (r a : Nat) (f : Nat → Nat) {n : Nat} (h : n % 16 = 0) : pgs r a f (n / 16) = fl16 r a f n := by
  unfold fl16
  rw [show (n + 15) / 16 = n / 16 by omega]
  exact pgs_cg (fun j hj => kz_lt f n j (by omega))
theorem fl16_more (r a : Nat) (f : Nat → Nat) {n : Nat} (h : 0 < n % 16) : ga r (pgs r a f (n / 16)) (nv (kz (fun j => f (16 * (n / 16) + j)) (n % 16)) 16 + 1 * 340282366920938463463374607431768211456) = fl16 r a f n := by
  unfold fl16
  rw [show (n + 15) / 16 = n / 16 + 1 by omega, pgs_succ, pgs_cg (f := f) (f' := kz f n) (k := n / 16) (fun j hj => kz_lt f n j (by omega)), nv_cg (f := kz (fun j => f (16 * (n / 16) + j)) (n % 16)) (g := fun j => kz f n (16 * (n / 16) + j)) 16 (fun i _ => by
    unfold kz
    by_cases e : i < n % 16
    · rw [if_pos e, if_pos (by omega)]
    · rw [if_neg e, if_neg (by omega)])]
section
variable {ρ : Operand → Value} {o : Oper} {x y : Operand} {g off n c l k : Nat} {w : World} {f : Nat → Nat}
theorem ex_sl22 (ho : o.op = .slice 22 x (some y) none none) (hx : ρ x = .slice (some ⟨g, off, none⟩) n c) (hy : ρ y = .int .i64 ((l : Nat) : Int)) (hl : l ≤ n) (hc : n ≤ c) : (execOp ρ o).run Try.prog w = .ok (.value (sl22 g off n c l)) w := by
  simp only [execOp, ho, hx, hy, Option.map_some, Option.map_none]
  clear ho hx hy
  unfold sl22
  go_simp
  by_cases e : c = l
  · rw [if_pos e, if_pos (by omega)]
  · rw [if_neg e, if_neg (by omega)]
theorem ex_toArr (ho : o.op = .sliceToArrayPointer 65 x) (hx : ρ x = .slice (some ⟨g, off, none⟩) n c) (hn : 16 ≤ n) : (execOp ρ o).run Try.prog w = .ok (.value (PT g off)) w := by
  have h := run_arrayAt (P := Try.prog) w 65 _ 16 (some ⟨g, off, none⟩) n c Try.underlying65 hn
  simp only [execOp, ho, hx]
  clear ho hx
  simp [h]
theorem ex_ldG {t : TypeId} {m : Nat} (h : Rs g off n f w) (hn : m ≤ n) (ha : ∀ w, (isAgg t).run Try.prog w = .ok true w) (hs : ∀ w, (sizeOf t).run Try.prog w = .ok m w) (ho : o.op = .load t x) (hx : ρ x = PT g off) : (execOp ρ o).run Try.prog w = .ok (.value (.agg (ints .u8 f m).toArray)) w := by
  have hcell := run_loadCells_list (P := Try.prog) (w := w) ⟨g, off, none⟩ (ints .u8 f m) (fun j v hv => by
    have hj : j < m := by
      have := (List.getElem?_eq_some_iff.1 hv).1
      rwa [ints_len] at this
    rw [ints_get _ _ hj] at hv
    rw [h.add j (by omega)]
    exact hv)
  rw [ints_len] at hcell
  have hf : (loadCellsFrom ⟨g, off, none⟩ 0 m #[]).run Try.prog w = .ok (ints .u8 f m).toArray w := hcell
  clear hcell h hn
  simp only [execOp, ho, hx]
  go_simp
theorem ex_ldA (h : Rs g off n f w) (hn : 16 ≤ n) (ho : o.op = .load 65 x) (hx : ρ x = PT g off) : (execOp ρ o).run Try.prog w = .ok (.value (.agg (ints .u8 f 16).toArray)) w := ex_ldG h hn Try.isAgg65 Try.sizeOf65 ho hx
/-- copy into a row of bytes. -/
theorem ex_copyR {gb so sn sc dn dc kk mm N : Nat} {F r : Nat → Nat} {l : List (Nat × List Value)} (h : Mm w l) (q : Nat) (hk : l[q]? = some (g, ints .u8 r N)) (hf : ∀ j, j < mm → w.cell? ⟨gb, so + j, none⟩ = some (Z8 (F j))) (hm : mm = Nat.min sn dn) (hd : kk + mm ≤ N)
    (ho : o.op = .call { callee := .builtin .copy, args := #[x, y], argTypes := #[22, 22] }) (hx : ρ x = .slice (some ⟨g, kk, none⟩) dn dc) (hy : ρ y = .slice (some ⟨gb, so, none⟩) sn sc) : (execOp ρ o).run Try.prog w = .ok (.value (.int .i64 ((mm : Nat) : Int))) (w.setCells g kk (ints .u8 F mm)) := by
  have hmem := List.mem_of_getElem? hk
  have hcell : ∀ j, j < mm → ∃ u, (ints .u8 r N)[kk + j]? = some u := fun j hj => ⟨_, List.getElem?_eq_getElem (by rw [ints_len]; omega)⟩
  have hr : (Builtin.copy_ #[22, 22] o.type #[.slice (some ⟨g, kk, none⟩) dn dc, .slice (some ⟨gb, so, none⟩) sn sc]).run Try.prog w = .ok (goInt (ints .u8 F mm).length) (w.setCells g kk (ints .u8 F mm)) :=
    run_copy_cells (P := Try.prog) w 22 22 o.type 5 g kk dn dc ⟨gb, so, none⟩ sn sc (ints .u8 F mm) (by kernel_rfl) (by kernel_rfl) (by rw [ints_len, hm])
      (fun j v hv => by
        have hj : j < mm := by
          have := (List.getElem?_eq_some_iff.1 hv).1
          rwa [ints_len] at this
        rw [ints_get _ _ hj] at hv
        rw [show (⟨gb, so, none⟩ : Addr).add j = ⟨gb, so + j, none⟩ from by unfold Addr.add; split <;> simp_all, hf j hj]
        exact hv)
      (fun j hj => by
        rw [ints_len] at hj
        obtain ⟨u, hu⟩ := hcell j hj
        rw [h.cell hmem hu]; rfl)
      (fun j hj => by
        rw [ints_len] at hj
        obtain ⟨u, hu⟩ := hcell j hj
        exact h.free hmem hu)
      (List.all_eq_true.1 (ints_all _ _ _))
  rw [ints_len] at hr
  clear h hk hf hm hcell hmem
  unfold execOp
  simp only [ho, resolve, invoke, builtin, Sem.run_bind, Sem.run_pure, Result.andThen_ok, List.map_toArray, List.map_cons, List.map_nil, hx, hy, hr]
  rfl
end
theorem call36 : ∀ args w, (callFunc 36 args).run Try.prog w = .ok (.enter 36 args) w := by intro args w; go_simp
theorem call50 : ∀ args w, (callFunc 50 args).run Try.prog w = .ok (.enter 50 args) w := by intro args w; go_simp
set_option maxHeartbeats 2000000 in
set_option maxRecDepth 100000 in
theorem whole_any (g a r s : Nat) (q : Pt8) (hq : Pok q) (hr : Rk r) (ha : Ab a) (hf : ∀ j, q.f j < 256) (hne : 0 < q.n → q.gb ≠ g) (_hn : q.n ≤ 1048592) (w : World) (hm : Mm w [(g, ints .u64 (wk9 a r s) 9)]) (hRb : q.rs w) :
    Calls Try.prog 36 #[PT g 0, .slice q.p q.n q.cp] w fun e w' => (∃ p c, e = .returned (.slice p (q.n % 16) c) ∧ (0 < q.n % 16 → p = some ⟨q.gb, q.o + 16 * (q.n / 16), none⟩ ∧ q.n % 16 ≤ c)) ∧ Mm w' [(g, ints .u64 (wk9 (pgs r a q.f (q.n / 16)) r s) 9)] ∧ Kp g w w' := by
  have H0 : Hid (_ ∧ _) := ⟨hm, Kp.refl g w⟩
  clear hm
  have RB : Hid (q.rs w) := hRb
  clear hRb
  go_enter Try.func36, Try.ntmps36
  refine wp_seq ?_
  refine walk_seqA 1 [.quiet (.slice none 0 0)] (sB H0) ?ho1 ?he1
  case ho1 => exact ak (fun _ => ⟨rfl, fun _ _ => rfl⟩) trivial
  intro γ w1 l hM hl
  have H1 := keepK H0 hM.below
  clear hM hl l γ
  refine rest0 rfl (then_normal (wp_seq (wp_block ?_)))
  refine loop_ghost (α := Nat) (fun k a' w' => ∃ s0 : Nat → Value, a' = ⟨#[PT g 0, s0 1, undef, undef, .slice none 0 0, s0 5, s0 6, s0 7, s0 8, s0 9, s0 10, s0 11, s0 12, s0 13, s0 14, undef], []⟩ ∧ (Mm w' [(g, ints .u64 (wk9 (pgs r a q.f k) r s) 9)] ∧ Kp g w w') ∧ (k ≤ (q.n / 16) ∧ Bw q (16 * k) (s0 1))) (fun k => (q.n / 16) - k) 0 ?st0 ?rd0
  case st0 => exact ⟨(slotfn [undef, .slice q.p q.n q.cp, undef, undef, undef, undef, undef, undef, undef, undef, undef, undef, undef, undef, undef]), rfl, ⟨H1.out.1, H1.out.2⟩, ⟨Nat.zero_le _, Bw.start hq⟩⟩
  intro k a' w2 hI
  obtain ⟨s0, rfl, hMB, hk0⟩ := hI
  have H2 : Hid (_ ∧ _) := hMB
  clear hMB H1
  by_cases hltk : k < (q.n / 16)
  · have hrd : True := trivial
    clear hrd
    have hle := hq.le
    obtain ⟨p1, c1, e1, h1⟩ := hk0.2
    obtain ⟨rfl, rfl⟩ := h1 (by omega)
    rw [e1]
    clear e1 h1
    refine wp_seq (wp_seq ?_)
    refine walk_seqA 3 [.quiet (.slice (some ⟨q.gb, (q.o + 16 * k), none⟩) (q.n - 16 * k) (q.cp - 16 * k)), .quiet (.int .i64 (((q.n - 16 * k) : Nat) : Int)), .quiet (.bool true)] (sB H2) ?ho2 ?he2
    case ho2 => exact ak (fun _ => ⟨rfl, fun _ _ => rfl⟩) (ak (by refine fun γ => ⟨rfl, fun w' h => ?_⟩; clear h; go_simp) (ak (by refine fun γ => ⟨rfl, fun w' h => ?_⟩; clear h; go_simp <;> omega) trivial))
    intro γ w3 l hM hl
    have H3 := keepK H2 hM.below
    clear hM hl l H2 γ
    refine rest0 rfl (then_normal (wp_cond_true rfl ?_))
    refine wp_skip (then_normal ?_)
    refine wp_seq (wp_block ?_)
    refine (walk_seq) 4 [.quiet (PT g 0), .quiet (.slice (some ⟨q.gb, (q.o + 16 * k), none⟩) (q.n - 16 * k) (q.cp - 16 * k)), .quiet (PT q.gb (q.o + 16 * k)), .quiet (.agg (ints .u8 (fun j => q.f (16 * k + j)) 16).toArray)] (fun u' => Mm u' [(g, ints .u64 (wk9 (pgs r a q.f k) r s) 9)] ∧ q.rs u') ?pre3 ?F3 ?hpre3 (fun γ => ?hF3) (by kernel_rfl) ?hL3 ?hS3 ?ho3 ?he3
    case hpre3 => simp only [tk, tz]; rfl
    case hF3 => simp only [fill, Kind.val, Act.put, sa, sz, ss]; rfl
    case hL3 => exact trivial
    case hS3 => exact fun w' hb => ⟨H3.out.1.below hb, RB.out.kpx (H3.out.2.trans (hb)) hne⟩
    case ho3 =>
      refine ak (fun _ => ⟨rfl, fun _ _ => rfl⟩) ?_
      refine ak (fun _ => ⟨rfl, fun _ _ => rfl⟩) ?_
      refine ak (fun γ => ⟨rfl, fun w' _ => ex_toArr rfl rfl (by omega)⟩) ?_
      refine ak (fun γ => ⟨rfl, fun w' hX => ex_ldA (hX.2.part (16 * k)) (by omega) rfl rfl⟩) ?_
      exact trivial
    intro γ w4 l hM hl
    have H4 := keepK H3 hM.below
    clear hM hl l H3 γ
    refine rest_at (l := [4]) rfl ?_
    refine rest_enter (d := 14) (R := fun vv w' => vv = .tuple #[] ∧ Mm w' [(g, ints .u64 (wk9 (ga r (pgs r a q.f k) (nv (fun j => q.f (16 * k + j)) 16 + 1 * 340282366920938463463374607431768211456)) r s) 9)] ∧ Kp g w4 w') rfl rfl rfl (exec_call (args := #[PT g 0, .agg (ints .u8 (fun j => q.f (16 * k + j)) 16).toArray, U 1]) rfl call50 rfl (mpn rfl)) (Calls.mono (add_any g (pgs r a q.f k) r s 1 (fun j => q.f (16 * k + j)) (fun j => hf _) (by decide) hr (pgs_ok hr ha hf k) w4 (H4.out.1.one 0 rfl)) (fun e w2 hh => ⟨_, hh.1, rfl, hh.2⟩)) ?_
    rintro _ w5 ⟨rfl, hn, hp⟩
    have H5 : Hid (Mm w5 [(g, ints .u64 (wk9 (ga r (pgs r a q.f k) (nv (fun j => q.f (16 * k + j)) 16 + 1 * 340282366920938463463374607431768211456)) r s) 9)] ∧ Kp g w w5) := ⟨H4.out.1.change 0 rfl hp hn, H4.out.2.join hp⟩
    clear hn hp H4
    simp only [Act.put, sa, sz, ss]
    refine rest_nil (block_normal (then_normal ?_))
    refine walk_seqA 2 [.quiet (.slice (some ⟨q.gb, (q.o + 16 * k), none⟩) (q.n - 16 * k) (q.cp - 16 * k)), .quiet (sl22 q.gb (q.o + 16 * k) (q.n - 16 * k) (q.cp - 16 * k) 16)] (sB H5) ?ho4 ?he4
    case ho4 => exact ak (fun _ => ⟨rfl, fun _ _ => rfl⟩) (ak (fun γ => ⟨rfl, fun w' _ => ex_sl22 (l := 16) rfl rfl rfl (by omega) (by omega)⟩) trivial)
    intro γ w6 l hM hl
    have H6 := keepK H5 hM.below
    clear hM hl l H5 γ
    refine rest_at (l := [2]) rfl ?_
    refine rest_set (d := 1) rfl rfl rfl rfl ?_
    simp only [Act.put, sa, sz, ss]
    refine rest_nil (then_normal ?_)
    exact ⟨k + 1, ⟨(slotfn [undef, sl22 q.gb (q.o + 16 * k) (q.n - 16 * k) (q.cp - 16 * k) 16, undef, undef, undef, .slice (some ⟨q.gb, (q.o + 16 * k), none⟩) (q.n - 16 * k) (q.cp - 16 * k), .int .i64 (((q.n - 16 * k) : Nat) : Int), .bool true, .slice (some ⟨q.gb, (q.o + 16 * k), none⟩) (q.n - 16 * k) (q.cp - 16 * k), sl22 q.gb (q.o + 16 * k) (q.n - 16 * k) (q.cp - 16 * k) 16, PT g 0, .slice (some ⟨q.gb, (q.o + 16 * k), none⟩) (q.n - 16 * k) (q.cp - 16 * k), PT q.gb (q.o + 16 * k), .agg (ints .u8 (fun j => q.f (16 * k + j)) 16).toArray, .tuple #[]]), rfl, ⟨H6.out.1, H6.out.2⟩, ⟨by omega, Bw.step (i := 16 * k) (l := 16) hq.le⟩⟩, by omega⟩
  have hkN : k = (q.n / 16) := by omega
  subst hkN
  obtain ⟨p1, c1, e1, h1⟩ := hk0.2
  rw [e1]
  clear e1
  have HP : Hid _ := h1
  clear h1
  refine wp_seq (wp_seq ?_)
  refine walk_seqA 3 [.quiet (.slice p1 (q.n - 16 * (q.n / 16)) c1), .quiet (.int .i64 (((q.n - 16 * (q.n / 16)) : Nat) : Int)), .quiet (.bool false)] (sB H2) ?ho5 ?he5
  case ho5 => exact ak (fun _ => ⟨rfl, fun _ _ => rfl⟩) (ak (by refine fun γ => ⟨rfl, fun w' h => ?_⟩; clear h; go_simp) (ak (by refine fun γ => ⟨rfl, fun w' h => ?_⟩; clear h; go_simp <;> omega) trivial))
  intro γ w7 l hM hl
  have H7 := keepK H2 hM.below
  clear hM hl l H2 γ
  refine rest0 rfl (then_normal (wp_cond_false rfl ?_))
  refine wp_exit ?_
  repeat refine then_exit ?_
  refine block_exit ?_
  refine then_normal (wp_seq ?_)
  refine walk_seqA 2 [.quiet (.slice p1 (q.n - 16 * (q.n / 16)) c1), .quiet (.slice p1 (q.n - 16 * (q.n / 16)) c1)] (sB H7) ?ho6 ?he6
  case ho6 => exact ak (fun _ => ⟨rfl, fun _ _ => rfl⟩) (ak (fun _ => ⟨rfl, fun _ _ => rfl⟩) trivial)
  intro γ w8 l hM hl
  have H8 := keepK H7 hM.below
  clear hM hl l H7 γ
  refine rest0 rfl (then_normal (wp_ret ?_))
  repeat (first | refine then_ret ?_ | refine block_ret ?_)
  refine bodyPost_ret (v := .slice p1 (q.n - 16 * (q.n / 16)) c1) (by simp [results, Try.results36, go_sem, *]) rfl ?_
  refine ⟨⟨p1, c1, by rw [show q.n - 16 * (q.n / 16) = q.n % 16 by omega], fun h => ?_⟩, H8.out.1, H8.out.2⟩
  obtain ⟨h1, h2⟩ := HP.out (by omega)
  exact ⟨h1, by have := hq.le; omega⟩
theorem up_256 {f : Nat → Nat} (hf : ∀ j, f j < 256) {k v : Nat} (hv : v < 256) (j : Nat) : up f k v j < 256 := by
  unfold up
  split
  · exact hv
  · exact hf j
theorem py_256 {r F : Nat → Nat} (hr : ∀ j, r j < 256) (hF : ∀ j, F j < 256) {o m : Nat} (j : Nat) : py r o m F j < 256 := by
  unfold py
  split
  · exact hF _
  · exact hr j
/-- What is left of a text, with a byte 1 behind it. -/
def lst (f : Nat → Nat) (m : Nat) : Nat := nv f m + 256 ^ m
theorem lst_bd {f : Nat → Nat} (hf : ∀ j, f j < 256) {m : Nat} (hm : m < 16) : lst f m < 680564733841876926926749214863536422912 := by
  unfold lst
  rw [← last_nv f hm]
  have := nv16_lt (P := up (py (fun _ => 0) 0 m f) m 1) (fun j => up_256 (py_256 (fun _ => by decide) hf) (by decide) j)
  omega
set_option maxHeartbeats 1000000 in
set_option maxRecDepth 100000 in
theorem filled_big (g a r s : Nat) (q : Pt8) (hq : Pok q) (hr : Rk r) (ha : Ab a) (hf : ∀ j, q.f j < 256) (hne : 0 < q.n → q.gb ≠ g) (hn : q.n ≤ 1048592) (hm : 0 < q.n % 16) (w : World) (hm : Mm w [(g, ints .u64 (wk9 a r s) 9)]) (hRb : q.rs w) :
    Calls Try.prog 54 #[PT g 0, .slice q.p q.n q.cp] w fun e w' => e = .returned (.tuple #[]) ∧ Mm w' [(g, ints .u64 (wk9 (ga r (pgs r a q.f (q.n / 16)) (nv (py (fun _ => 0) 0 (q.n % 16) (fun j => q.f (16 * (q.n / 16) + j))) 16 + 1 * 340282366920938463463374607431768211456)) r s) 9)] ∧ Kp g w w' := by
  have H0 : Hid (_ ∧ _) := ⟨hm, Kp.refl g w⟩
  clear hm
  have RB : Hid (q.rs w) := hRb
  clear hRb
  go_enter Try.func54, Try.ntmps54
  refine wp_seq ?_
  refine walk_seqA 2 [.quiet (PT g 0), .quiet (.slice q.p q.n q.cp)] (sB H0) ?ho1 ?he1
  case ho1 => exact ak (fun _ => ⟨rfl, fun _ _ => rfl⟩) (ak (fun _ => ⟨rfl, fun _ _ => rfl⟩) trivial)
  intro γ w1 l hM hl
  have H1 := keepK H0 hM.below
  clear hM hl l γ
  refine rest_at (l := [2, 3]) rfl ?_
  refine rest_enter (d := 8) (R := fun vv w' => (∃ p c, vv = .slice p (q.n % 16) c ∧ (0 < q.n % 16 → p = some ⟨q.gb, q.o + 16 * (q.n / 16), none⟩ ∧ q.n % 16 ≤ c)) ∧ Mm w' [(g, ints .u64 (wk9 (pgs r a q.f (q.n / 16)) r s) 9)] ∧ Kp g w1 w') rfl rfl rfl (exec_call (args := #[PT g 0, .slice q.p q.n q.cp]) rfl call36 rfl (mpn rfl)) (Calls.mono (whole_any g a r s q hq hr ha hf hne hn w1 (H1.out.1.one 0 rfl) (RB.out.kpx H1.out.2 hne)) (fun e w2 hh => by obtain ⟨⟨p, c, he, hp⟩, h2⟩ := hh; exact ⟨_, he, ⟨p, c, rfl, hp⟩, h2⟩)) ?_
  rintro _ w2 ⟨⟨p1, c1, rfl, hp1⟩, hn1, hk1⟩
  simp only [Act.put, sa, sz, ss]
  have H2 : Hid (Mm w2 [(g, ints .u64 (wk9 (pgs r a q.f (q.n / 16)) r s) 9)] ∧ Kp g w w2) := ⟨H1.out.1.change 0 rfl hk1 hn1, H1.out.2.join hk1⟩
  clear hn1 hk1 H1
  obtain ⟨rfl, hc1⟩ := hp1 hm
  refine rest_set (d := 4) (v := .slice (some ⟨q.gb, (q.o + 16 * (q.n / 16)), none⟩) (q.n % 16) c1) (w' := w2) rfl rfl rfl rfl ?_
  simp only [Act.put, sa, sz, ss]
  refine rest_nil (then_normal (wp_seq ?_))
  refine walk_seqA 3 [.quiet (.slice (some ⟨q.gb, (q.o + 16 * (q.n / 16)), none⟩) (q.n % 16) c1), .quiet (.int .i64 (((q.n % 16) : Nat) : Int)), .quiet (.bool true)] (sB H2) ?ho2 ?he2
  case ho2 => exact ak (fun _ => ⟨rfl, fun _ _ => rfl⟩) (ak (by refine fun γ => ⟨rfl, fun w' h => ?_⟩; clear h; go_simp) (ak (by refine fun γ => ⟨rfl, fun w' h => ?_⟩; clear h; go_simp <;> omega) trivial))
  intro γ w3 l hM hl
  have H3 := keepK H2 hM.below
  clear hM hl l H2 γ
  refine rest0 rfl (then_normal (wp_cond_true rfl (wp_seq ?_)))
  refine walk_seqA 1 [.made (ints .u8 (fun _ => 0) 16) 65] (sB H3) ?ho3 ?he3
  case ho3 => exact ak (fun γ => ⟨rfl, fun w' => ex_mk65 rfl⟩) trivial
  intro γ w4 l hM hl
  have H4 : Hid (Mm w4 [(γ 0, ints .u8 (fun _ => 0) 16), (g, ints .u64 (wk9 (pgs r a q.f (q.n / 16)) r s) 9)] ∧ _) := growK H3 hM (Nat.le_refl _) hl [0] rfl (by decide)
  have o3_0 := ownK H3 hM (Nat.le_refl _) hl (i := 0) rfl
  clear hM hl l H3
  generalize γ 0 = γ3_0 at H4 o3_0 ⊢
  clear γ
  refine rest0 rfl (then_normal (wp_seq ?_))
  refine walk_seqA 2 [.quiet (.slice (some ⟨γ3_0, 0, none⟩) 16 16), .quiet (.slice (some ⟨q.gb, (q.o + 16 * (q.n / 16)), none⟩) (q.n % 16) c1)] (sB H4) ?ho4 ?he4
  case ho4 => exact ak (by refine fun γ => ⟨rfl, fun w' h => ?_⟩; clear h; go_simp) (ak (fun _ => ⟨rfl, fun _ _ => rfl⟩) trivial)
  intro γ w5 l hM hl
  have H5 := keepK H4 hM.below
  clear hM hl l H4 γ
  refine rest_at (l := [2]) rfl ?_
  refine rest_set (d := 14) (v := .int .i64 (((q.n % 16) : Nat) : Int)) (w' := w5.setCells γ3_0 0 (ints .u8 (fun j => q.f (16 * (q.n / 16) + j)) (q.n % 16))) rfl rfl rfl (ex_copyR (mm := (q.n % 16)) H5.out.1 0 rfl (fun j hj => ((RB.out.kpx H5.out.2 hne).part (16 * (q.n / 16))).at_ j (by omega)) ((Nat.min_eq_left (by omega)).symm) (by omega) rfl rfl rfl) ?_
  simp only [Act.put, sa, sz, ss]
  have H6 : Hid (Mm (w5.setCells γ3_0 0 (ints .u8 (fun j => q.f (16 * (q.n / 16) + j)) (q.n % 16))) [(γ3_0, ints .u8 (py (fun _ => 0) 0 (q.n % 16) (fun j => q.f (16 * (q.n / 16) + j))) 16), (g, ints .u64 (wk9 (pgs r a q.f (q.n / 16)) r s) 9)] ∧ Kp g w (w5.setCells γ3_0 0 (ints .u8 (fun j => q.f (16 * (q.n / 16) + j)) (q.n % 16)))) := ⟨by
    have h := H5.out.1.put 0 (off := 0) (vs := ints .u8 (fun j => q.f (16 * (q.n / 16) + j)) (q.n % 16)) rfl (by rw [ints_len, ints_len]; omega)
    rw [ints_part _ _ (by omega)] at h
    exact h, H5.out.2.put (Or.inr o3_0.out)⟩
  clear H5
  generalize hgw : World.setCells _ _ _ _ = w6 at H6 ⊢
  clear hgw
  refine rest_nil (then_normal ?_)
  refine walk_seqA 2 [.quiet (PT g 0), .quiet (.agg (ints .u8 (py (fun _ => 0) 0 (q.n % 16) (fun j => q.f (16 * (q.n / 16) + j))) 16).toArray)] (sB H6) ?ho5 ?he5
  case ho5 => exact ak (fun _ => ⟨rfl, fun _ _ => rfl⟩) (ak (fun γ => ⟨rfl, fun w' h => ex_loadT h 0 rfl rfl rfl Try.isAgg65 Try.sizeOf65 (ints_whole _ _ _) (ints_len _ _ _)⟩) trivial)
  intro γ w7 l hM hl
  have H7 := keepK H6 hM.below
  clear hM hl l H6 γ
  refine rest_at (l := [2]) rfl ?_
  refine rest_enter (d := 17) (R := fun vv w' => vv = .tuple #[] ∧ Mm w' [(g, ints .u64 (wk9 (ga r (pgs r a q.f (q.n / 16)) (nv (py (fun _ => 0) 0 (q.n % 16) (fun j => q.f (16 * (q.n / 16) + j))) 16 + 1 * 340282366920938463463374607431768211456)) r s) 9)] ∧ Kp g w7 w') rfl rfl rfl (exec_call (args := #[PT g 0, .agg (ints .u8 (py (fun _ => 0) 0 (q.n % 16) (fun j => q.f (16 * (q.n / 16) + j))) 16).toArray, U 1]) rfl call50 rfl (mpn rfl)) (Calls.mono (add_any g (pgs r a q.f (q.n / 16)) r s 1 (py (fun _ => 0) 0 (q.n % 16) (fun j => q.f (16 * (q.n / 16) + j))) (py_256 (fun _ => by decide) (fun j => hf _)) (by decide) hr (pgs_ok hr ha hf _) w7 (H7.out.1.one 1 rfl)) (fun e w2 hh => ⟨_, hh.1, rfl, hh.2⟩)) ?_
  rintro _ w8 ⟨rfl, hn, hp⟩
  have H8 : Hid (Mm w8 [(γ3_0, ints .u8 (py (fun _ => 0) 0 (q.n % 16) (fun j => q.f (16 * (q.n / 16) + j))) 16), (g, ints .u64 (wk9 (ga r (pgs r a q.f (q.n / 16)) (nv (py (fun _ => 0) 0 (q.n % 16) (fun j => q.f (16 * (q.n / 16) + j))) 16 + 1 * 340282366920938463463374607431768211456)) r s) 9)] ∧ Kp g w w8) := ⟨H7.out.1.change 1 rfl hp hn, H7.out.2.join hp⟩
  clear hn hp H7
  simp only [Act.put, sa, sz, ss]
  refine rest_nil ?_
  refine bodyPost_end (v := .tuple #[]) (by simp [results, Try.results54, go_sem]) rfl ?_
  exact ⟨rfl, H8.out.1.one 1 rfl, H8.out.2⟩
set_option maxHeartbeats 1000000 in
set_option maxRecDepth 100000 in
theorem filled_none (g a r s : Nat) (q : Pt8) (hq : Pok q) (hr : Rk r) (ha : Ab a) (hf : ∀ j, q.f j < 256) (hne : 0 < q.n → q.gb ≠ g) (hn : q.n ≤ 1048592) (hm : q.n % 16 = 0) (w : World) (hm : Mm w [(g, ints .u64 (wk9 a r s) 9)]) (hRb : q.rs w) :
    Calls Try.prog 54 #[PT g 0, .slice q.p q.n q.cp] w fun e w' => e = .returned (.tuple #[]) ∧ Mm w' [(g, ints .u64 (wk9 (pgs r a q.f (q.n / 16)) r s) 9)] ∧ Kp g w w' := by
  have H0 : Hid (_ ∧ _) := ⟨hm, Kp.refl g w⟩
  clear hm
  have RB : Hid (q.rs w) := hRb
  clear hRb
  go_enter Try.func54, Try.ntmps54
  refine wp_seq ?_
  refine walk_seqA 2 [.quiet (PT g 0), .quiet (.slice q.p q.n q.cp)] (sB H0) ?ho1 ?he1
  case ho1 => exact ak (fun _ => ⟨rfl, fun _ _ => rfl⟩) (ak (fun _ => ⟨rfl, fun _ _ => rfl⟩) trivial)
  intro γ w1 l hM hl
  have H1 := keepK H0 hM.below
  clear hM hl l γ
  refine rest_at (l := [2, 3]) rfl ?_
  refine rest_enter (d := 8) (R := fun vv w' => (∃ p c, vv = .slice p (q.n % 16) c ∧ (0 < q.n % 16 → p = some ⟨q.gb, q.o + 16 * (q.n / 16), none⟩ ∧ q.n % 16 ≤ c)) ∧ Mm w' [(g, ints .u64 (wk9 (pgs r a q.f (q.n / 16)) r s) 9)] ∧ Kp g w1 w') rfl rfl rfl (exec_call (args := #[PT g 0, .slice q.p q.n q.cp]) rfl call36 rfl (mpn rfl)) (Calls.mono (whole_any g a r s q hq hr ha hf hne hn w1 (H1.out.1.one 0 rfl) (RB.out.kpx H1.out.2 hne)) (fun e w2 hh => by obtain ⟨⟨p, c, he, hp⟩, h2⟩ := hh; exact ⟨_, he, ⟨p, c, rfl, hp⟩, h2⟩)) ?_
  rintro _ w2 ⟨⟨p1, c1, rfl, hp1⟩, hn1, hk1⟩
  simp only [Act.put, sa, sz, ss]
  have H2 : Hid (Mm w2 [(g, ints .u64 (wk9 (pgs r a q.f (q.n / 16)) r s) 9)] ∧ Kp g w w2) := ⟨H1.out.1.change 0 rfl hk1 hn1, H1.out.2.join hk1⟩
  clear hn1 hk1 H1
  rw [hm]
  clear hp1
  refine rest_set (d := 4) (v := .slice p1 0 c1) (w' := w2) rfl rfl rfl rfl ?_
  simp only [Act.put, sa, sz, ss]
  refine rest_nil (then_normal (wp_seq ?_))
  refine walk_seqA 3 [.quiet (.slice p1 0 c1), .quiet (.int .i64 ((0 : Nat) : Int)), .quiet (.bool false)] (sB H2) ?ho2 ?he2
  case ho2 => exact ak (fun _ => ⟨rfl, fun _ _ => rfl⟩) (ak (by refine fun γ => ⟨rfl, fun w' h => ?_⟩; clear h; go_simp) (ak (by refine fun γ => ⟨rfl, fun w' h => ?_⟩; clear h; go_simp <;> omega) trivial))
  intro γ w3 l hM hl
  have H3 := keepK H2 hM.below
  clear hM hl l H2 γ
  refine rest0 rfl (then_normal (wp_cond_false rfl (wp_skip ?_)))
  refine bodyPost_end (v := .tuple #[]) (by simp [results, Try.results54, go_sem]) rfl ?_
  exact ⟨rfl, H3.out.1.one 0 rfl, H3.out.2⟩
theorem filled_all (g a r s : Nat) (q : Pt8) (hq : Pok q) (hr : Rk r) (ha : Ab a) (hf : ∀ j, q.f j < 256) (hne : 0 < q.n → q.gb ≠ g) (hn : q.n ≤ 1048592) (w : World) (hm : Mm w [(g, ints .u64 (wk9 a r s) 9)]) (hRb : q.rs w) :
    Calls Try.prog 54 #[PT g 0, .slice q.p q.n q.cp] w fun e w' => e = .returned (.tuple #[]) ∧ Mm w' [(g, ints .u64 (wk9 (fl16 r a q.f q.n) r s) 9)] ∧ Kp g w w' := by
  rcases Nat.eq_zero_or_pos (q.n % 16) with e | e
  · rw [← fl16_whole r a q.f e]
    exact filled_none g a r s q hq hr ha hf hne hn e w hm hRb
  · rw [← fl16_more r a q.f e, ← py_kz]
    exact filled_big g a r s q hq hr ha hf hne hn e w hm hRb
theorem fl16_ok {r a : Nat} {f : Nat → Nat} (hr : Rk r) (ha : Ab a) (hf : ∀ j, f j < 256) (n : Nat) : Ab (fl16 r a f n) := pgs_ok hr ha (kz_256 hf n) _
end Rg
end Go.Proofs.Ytkkippfikfjdpaa
end
section
namespace Go.Proofs.Ytkkippfikfjdpaa
open Go.RowKit
namespace Rg
set_option maxRecDepth 100000
/-- A slice of block g on its way: i of its n bytes are written. -/
def Bo (g n N i : Nat) (v : Value) : Prop := ∃ p c, v = .slice p (n - i) c ∧ (i < n → p = some ⟨g, i, none⟩ ∧ c = N - i)
theorem Bo.start (g n N : Nat) : Bo g n N 0 (.slice (some ⟨g, 0, none⟩) n N) := ⟨_, _, rfl, fun _ => ⟨rfl, rfl⟩⟩
theorem Bo.step {g n N i l : Nat} (h : n ≤ N) : Bo g n N (i + l) (sl22 g i (n - i) (N - i) l) := by
  unfold sl22
  by_cases e : N - i - l = 0
  · rw [if_pos e, show n - i - l = n - (i + l) by omega]
    exact ⟨_, _, rfl, fun hn => absurd hn (by omega)⟩
  · rw [if_neg e, show n - i - l = n - (i + l) by omega]
    exact ⟨_, _, rfl, fun _ => ⟨rfl, by omega⟩⟩
/-- How many bytes are done behind k blocks. -/
def mi (n k : Nat) : Nat := min n (64 * k)
theorem mi_zero (n : Nat) : mi n 0 = 0 := by unfold mi; omega
/-- A row whose first t bytes are under the stream. -/
def szr (K N : Nat → Nat) (c : Nat) (P F : Nat → Nat) (t : Nat) : Nat → Nat := fun j => if j < t then so K N c P j else F j
theorem szr_zero (K N : Nat → Nat) (c : Nat) (P F : Nat → Nat) : szr K N c P F 0 = F := by
  funext j
  unfold szr
  rw [if_neg (by omega)]
theorem szr_set {K N : Nat → Nat} {c : Nat} {P F : Nat → Nat} {t v : Nat} (hv : v = so K N c P t) : up (szr K N c P F t) t v = szr K N c P F (t + 1) := by
  subst hv
  funext j
  unfold up szr
  by_cases e : j = t
  · subst e
    rw [if_pos rfl, if_pos (by omega)]
  · rw [if_neg e]
    by_cases e2 : j < t
    · rw [if_pos e2, if_pos (by omega)]
    · rw [if_neg e2, if_neg (by omega)]
theorem so_at (K N : Nat → Nat) (c : Nat) (P : Nat → Nat) (k : Nat) {i : Nat} (hi : i < 64) : x8 (P (64 * k + i)) (bs (k3 K N (ad c (c32 k)) 3) i) = so K N c P (64 * k + i) := by
  unfold so
  rw [show (64 * k + i) / 64 = k by omega, show (64 * k + i) % 64 = i by omega]
  rfl
theorem up_comm (f : Nat → Nat) {a b : Nat} (x y : Nat) (h : a ≠ b) : up (up f a x) b y = up (up f b y) a x := by
  funext j
  unfold up
  by_cases e : j = b
  · rw [if_pos e, if_neg (by omega), if_pos e]
  · rw [if_neg e, if_neg e]
theorem up_up (f : Nat → Nat) (a x y : Nat) : up (up f a x) a y = up f a y := by
  funext j
  unfold up
  by_cases e : j = a
  · rw [if_pos e, if_pos e]
  · rw [if_neg e, if_neg e, if_neg e]
theorem k3_form (K N : Nat → Nat) (c : Nat) : k3 K N c 3 = up (up (up (up (k1 K 8) 12 c) 13 (fo N (4 * 0))) 14 (fo N (4 * 1))) 15 (fo N (4 * 2)) := rfl
theorem k3_at (K N : Nat → Nat) (c : Nat) : k3 K N c 3 12 = c := by
  rw [k3_form]
  generalize k1 K 8 = f
  rfl
theorem k3_up (K N : Nat → Nat) (c v : Nat) : up (k3 K N c 3) 12 v = k3 K N v 3 := by
  rw [k3_form, k3_form, up_comm _ _ _ (by decide), up_comm (up (up (k1 K 8) 12 c) 13 _) _ _ (by decide), up_comm (up (k1 K 8) 12 c) _ _ (by decide), up_up]
theorem cnt_next (c k : Nat) : ad (ad c (c32 k)) 1 = ad c (c32 (k + 1)) := by
  unfold ad c32
  omega
theorem cnt_zero {c : Nat} (h : c < 4294967296) : ad c (c32 0) = c := by
  unfold ad c32
  omega
theorem call29 : ∀ args w, (callFunc 29 args).run Try.prog w = .ok (.enter 29 args) w := by intro args w; go_simp
set_option maxHeartbeats 4000000 in
set_option maxRecDepth 100000 in
theorem pstream_any (K N F : Nat → Nat) (c g NN : Nat) (q : Pt8) (hc : c < 4294967296) (hq : Pok q) (hne : 0 < q.n → q.gb ≠ g) (_hn : q.n ≤ 1048592) (hN : q.n ≤ NN) (w : World) (hm : Mm w [(g, ints .u8 F NN)]) (hRb : q.rs w) :
    Calls Try.prog 32 #[.slice (some ⟨g, 0, none⟩) q.n NN, .agg (ints .u32 (k3 K N c 3) 16).toArray, .slice q.p q.n q.cp] w fun e w' => e = .returned (.tuple #[]) ∧ Mm w' [(g, ints .u8 (szr K N c q.f F q.n) NN)] ∧ Kp g w w' := by
  have H0 : Hid (_ ∧ _) := ⟨hm, Kp.refl g w⟩
  clear hm
  have RB : Hid (q.rs w) := hRb
  clear hRb
  go_enter Try.func32, Try.ntmps32
  refine wp_seq ?_
  refine walk_seqA 1 [.made (ints .u32 (k3 K N c 3) 16) 50] (sB H0) ?ho1 ?he1
  case ho1 => exact ak (fun γ => ⟨rfl, fun w' => ex_boxT rfl rfl⟩) trivial
  intro γ w1 l hM hl
  have H1 : Hid (Mm w1 [(γ 0, ints .u32 (k3 K N c 3) 16), (g, ints .u8 F NN)] ∧ _) := growK H0 hM (Nat.le_refl _) hl [0] rfl (by decide)
  have o1_0 := ownK H0 hM (Nat.le_refl _) hl (i := 0) rfl
  clear hM hl l
  generalize γ 0 = γ1_0 at H1 o1_0 ⊢
  clear γ
  refine rest0 rfl (then_normal (wp_block ?_))
  refine loop_ghost (α := Nat) (fun k a' w' => ∃ s0 : Nat → Value, a' = ⟨#[s0 0, .agg (ints .u32 (k3 K N c 3) 16).toArray, s0 2, undef, PT γ1_0 0, undef, s0 6, s0 7, s0 8, s0 9, s0 10, s0 11, s0 12, s0 13, s0 14, s0 15, s0 16, s0 17, s0 18, s0 19, s0 20, s0 21, s0 22, s0 23, s0 24, s0 25, s0 26, s0 27, s0 28, s0 29, s0 30, s0 31, s0 32, s0 33, s0 34, s0 35, s0 36, s0 37, s0 38, s0 39, s0 40, s0 41, s0 42, s0 43, s0 44, s0 45], []⟩ ∧ (Mm w' [(γ1_0, ints .u32 (k3 K N (ad c (c32 k)) 3) 16), (g, ints .u8 (szr K N c q.f F (mi q.n k)) NN)] ∧ Kp g w w') ∧ (k ≤ ((q.n + 63) / 64) ∧ Bo g q.n NN (mi q.n k) (s0 0) ∧ Bw q (mi q.n k) (s0 2))) (fun k => ((q.n + 63) / 64) - k) 0 ?st0 ?rd0
  case st0 => exact ⟨(slotfn [.slice (some ⟨g, 0, none⟩) q.n NN, undef, .slice q.p q.n q.cp, undef, undef, undef, undef, undef, undef, undef, undef, undef, undef, undef, undef, undef, undef, undef, undef, undef, undef, undef, undef, undef, undef, undef, undef, undef, undef, undef, undef, undef, undef, undef, undef, undef, undef, undef, undef, undef, undef, undef, undef, undef, undef, undef]), rfl, ⟨by rw [mi_zero, szr_zero, cnt_zero hc]; exact H1.out.1, H1.out.2⟩, ⟨Nat.zero_le _, by rw [mi_zero]; exact Bo.start g q.n NN, by rw [mi_zero]; exact Bw.start hq⟩⟩
  intro k a' w2 hI
  obtain ⟨s0, rfl, hMB, hk0⟩ := hI
  have H2 : Hid (_ ∧ _) := hMB
  clear hMB H1
  by_cases hltk : k < ((q.n + 63) / 64)
  · have hrd : True := trivial
    clear hrd
    have hle := hq.le
    have hmi : mi q.n k = 64 * k := by unfold mi; omega
    rw [hmi] at hk0 H2
    obtain ⟨pa, ca, ea, ha⟩ := hk0.2.1
    obtain ⟨rfl, rfl⟩ := ha (by omega)
    obtain ⟨pb, cb, eb, hb⟩ := hk0.2.2
    obtain ⟨rfl, rfl⟩ := hb (by omega)
    rw [ea, eb]
    clear ea eb ha hb
    refine wp_seq (wp_seq ?_)
    refine walk_seqA 3 [.quiet (.slice (some ⟨q.gb, (q.o + 64 * k), none⟩) (q.n - 64 * k) (q.cp - 64 * k)), .quiet (.int .i64 (((q.n - 64 * k) : Nat) : Int)), .quiet (.bool true)] (sB H2) ?ho2 ?he2
    case ho2 => exact ak (fun _ => ⟨rfl, fun _ _ => rfl⟩) (ak (by refine fun γ => ⟨rfl, fun w' h => ?_⟩; clear h; go_simp) (ak (by refine fun γ => ⟨rfl, fun w' h => ?_⟩; clear h; go_simp <;> omega) trivial))
    intro γ w3 l hM hl
    have H3 := keepK H2 hM.below
    clear hM hl l H2 γ
    refine rest0 rfl (then_normal (wp_cond_true rfl ?_))
    refine wp_skip (then_normal ?_)
    refine wp_block (wp_seq ?_)
    refine walk_seqA 4 [.quiet (.agg (ints .u32 (k3 K N (ad c (c32 k)) 3) 16).toArray), .call (.agg (ints .u8 (bs (k3 K N (ad c (c32 k)) 3)) 64).toArray), .made (ints .u8 (fun _ => 0) 64) 48, .laid 2 (ints .u8 (fun _ => 0) 64) (ints .u8 (bs (k3 K N (ad c (c32 k)) 3)) 64)] (sB H3) ?ho3 ?he3 (hL := ?hL3)
    case hL3 => exact ⟨⟨_, rfl⟩, trivial⟩
    case ho3 => exact ak (fun γ => ⟨rfl, fun w' h => ex_loadT h 0 rfl rfl rfl Try.isAgg50 Try.sizeOf50 (ints_whole _ _ _) (ints_len _ _ _)⟩) (ak (fun γ => ⟨rfl, fun w' h => ⟨29, #[.agg (ints .u32 (k3 K N (ad c (c32 k)) 3) 16).toArray], exec_call rfl call29 rfl (mpn rfl), sblock_any (k3 K N (ad c (c32 k)) 3) w'⟩⟩) (ak (fun γ => ⟨rfl, fun w' => ex_mk48 rfl⟩) (ak (fun γ => ⟨rfl, rfl, (ints_len _ _ _).trans (ints_len _ _ _).symm, fun w' h => ex_laidI h Try.sizeOf48 rfl rfl rfl⟩) trivial)))
    intro γ w4 l hM hl
    have H4 : Hid (Mm w4 [(γ 2, ints .u8 (bs (k3 K N (ad c (c32 k)) 3)) 64), (γ1_0, ints .u32 (k3 K N (ad c (c32 k)) 3) 16), (g, ints .u8 (szr K N c q.f F (64 * k)) NN)] ∧ _) := growK H3 hM (Nat.le_refl _) hl [2] rfl (by decide)
    have o3_2 := ownK H3 hM (Nat.le_refl _) hl (i := 2) rfl
    clear hM hl l H3
    generalize γ 2 = γ3_2 at H4 o3_2 ⊢
    clear γ
    refine rest0 rfl (then_normal (wp_seq ?_))
    refine walk_seqA 4 [.quiet (PT γ1_0 12), .quiet (W32 ((k3 K N (ad c (c32 k)) 3) 12)), .quiet (W32 (ad ((k3 K N (ad c (c32 k)) 3) 12) 1)), .quiet (PT γ1_0 12)] (sB H4) ?ho4 ?he4
    case ho4 => exact ak (fun γ => ⟨rfl, fun w' _ => ex_ix0_50 (j := 12) rfl rfl rfl (by decide)⟩) (ak (fun γ => ⟨rfl, fun w' h => ex_loadC h 1 rfl rfl rfl Try.isAgg23 (ints_get _ _ (by decide))⟩) (ak (fun γ => ⟨rfl, fun w' _ => ex_add32 rfl rfl rfl⟩) (ak (fun γ => ⟨rfl, fun w' _ => ex_ix0_50 (j := 12) rfl rfl rfl (by decide)⟩) trivial)))
    intro γ w5 l hM hl
    have H5 := keepK H4 hM.below
    clear hM hl l H4 γ
    refine rest_at (l := [4]) rfl ?_
    refine rest_store rfl rfl rfl (ex_storeI H5.out.1 1 rfl rfl Try.sizeOf23 rfl rfl (by rw [ints_len]; decide)) ?_
    have H6 : Hid (Mm (w5.setCells γ1_0 12 ([W32 (ad ((k3 K N (ad c (c32 k)) 3) 12) 1)])) [(γ3_2, ints .u8 (bs (k3 K N (ad c (c32 k)) 3)) 64), (γ1_0, ints .u32 (k3 K N (ad c (c32 (k + 1))) 3) 16), (g, ints .u8 (szr K N c q.f F (64 * k)) NN)] ∧ Kp g w (w5.setCells γ1_0 12 ([W32 (ad ((k3 K N (ad c (c32 k)) 3) 12) 1)]))) := ⟨by
      have h := H5.out.1.put 1 (off := 12) (vs := [W32 (ad ((k3 K N (ad c (c32 k)) 3) 12) 1)]) rfl (by rw [ints_len]; simp only [List.length_cons, List.length_nil]; decide)
      rw [ints_patch _ _ _ _ (by decide), show ints .u32 (up (k3 K N (ad c (c32 k)) 3) 12 (ad ((k3 K N (ad c (c32 k)) 3) 12) 1)) 16 = ints .u32 (k3 K N (ad c (c32 (k + 1))) 3) 16 by rw [show (up (k3 K N (ad c (c32 k)) 3) 12 (ad ((k3 K N (ad c (c32 k)) 3) 12) 1)) = (k3 K N (ad c (c32 (k + 1))) 3) from by rw [k3_at, cnt_next, k3_up]]] at h
      exact h, H5.out.2.put (Or.inr o1_0.out)⟩
    clear H5
    generalize hgw : World.setCells _ _ _ _ = w6 at H6 ⊢
    clear hgw
    refine rest_nil (then_normal (wp_seq ?_))
    refine walk_seqA 4 [.quiet (.slice (some ⟨q.gb, (q.o + 64 * k), none⟩) (q.n - 64 * k) (q.cp - 64 * k)), .quiet (.int .i64 (((q.n - 64 * k) : Nat) : Int)), .quiet (.int .i64 (((min (q.n - 64 * k) 64) : Nat) : Int)), .quiet (.int .i64 (((min (q.n - 64 * k) 64) : Nat) : Int))] (sB H6) ?ho5 ?he5
    case ho5 => exact ak (fun _ => ⟨rfl, fun _ _ => rfl⟩) (ak (by refine fun γ => ⟨rfl, fun w' h => ?_⟩; clear h; go_simp) (ak (fun γ => ⟨rfl, fun w' _ => ex_min3 (a := q.n - 64 * k) (b := 64) rfl rfl rfl⟩) (ak (fun _ => ⟨rfl, fun _ _ => rfl⟩) trivial)))
    intro γ w7 l hM hl
    have H7 := keepK H6 hM.below
    clear hM hl l H6 γ
    refine rest0 rfl (then_normal (wp_seq (wp_seq ?_)))
    refine walk_seqA 5 [.quiet (.slice (some ⟨q.gb, (q.o + 64 * k), none⟩) (q.n - 64 * k) (q.cp - 64 * k)), .quiet (.int .i64 (((min (q.n - 64 * k) 64) : Nat) : Int)), .quiet (.slice (some ⟨q.gb, (q.o + 64 * k), none⟩) (min (q.n - 64 * k) 64) (q.cp - 64 * k)), .quiet (.int .i64 (((min (q.n - 64 * k) 64) : Nat) : Int)), .quiet (.int .i64 0)] (sB H7) ?ho6 ?he6
    case ho6 => exact ak (fun _ => ⟨rfl, fun _ _ => rfl⟩) (ak (fun _ => ⟨rfl, fun _ _ => rfl⟩) (ak (fun γ => ⟨rfl, fun w' _ => ex_slH22 (l := (min (q.n - 64 * k) 64)) rfl rfl rfl (by omega)⟩) (ak (by refine fun γ => ⟨rfl, fun w' h => ?_⟩; clear h; go_simp) (ak (fun _ => ⟨rfl, fun _ _ => rfl⟩) trivial))))
    intro γ w8 l hM hl
    have H8 := keepK H7 hM.below
    clear hM hl l H7 γ
    refine rest0 rfl (then_normal (wp_block ?_))
    refine loop_ghost (α := Nat) (fun i a' w' => ∃ s2 : Nat → Value, a' = ⟨#[.slice (some ⟨g, (64 * k), none⟩) (q.n - 64 * k) (NN - 64 * k), .agg (ints .u32 (k3 K N c 3) 16).toArray, .slice (some ⟨q.gb, (q.o + 64 * k), none⟩) (q.n - 64 * k) (q.cp - 64 * k), undef, PT γ1_0 0, undef, PT γ3_2 0, .int .i64 (((min (q.n - 64 * k) 64) : Nat) : Int), s2 8, s2 9, .slice (some ⟨q.gb, (q.o + 64 * k), none⟩) (q.n - 64 * k) (q.cp - 64 * k), .int .i64 (((q.n - 64 * k) : Nat) : Int), .bool true, .agg (ints .u32 (k3 K N (ad c (c32 k)) 3) 16).toArray, .agg (ints .u8 (bs (k3 K N (ad c (c32 k)) 3)) 64).toArray, PT γ1_0 12, W32 ((k3 K N (ad c (c32 k)) 3) 12), W32 (ad ((k3 K N (ad c (c32 k)) 3) 12) 1), PT γ1_0 12, .slice (some ⟨q.gb, (q.o + 64 * k), none⟩) (q.n - 64 * k) (q.cp - 64 * k), .int .i64 (((q.n - 64 * k) : Nat) : Int), .int .i64 (((min (q.n - 64 * k) 64) : Nat) : Int), .slice (some ⟨q.gb, (q.o + 64 * k), none⟩) (q.n - 64 * k) (q.cp - 64 * k), .int .i64 (((min (q.n - 64 * k) 64) : Nat) : Int), .slice (some ⟨q.gb, (q.o + 64 * k), none⟩) (min (q.n - 64 * k) 64) (q.cp - 64 * k), .int .i64 (((min (q.n - 64 * k) 64) : Nat) : Int), .int .i64 ((i : Nat) : Int), s2 27, s2 28, s2 29, s2 30, s2 31, s2 32, s2 33, s2 34, s2 35, s2 36, s2 37, s2 38, s2 39, s0 40, s0 41, s0 42, s0 43, s0 44, s0 45], []⟩ ∧ (Mm w' [(γ3_2, ints .u8 (bs (k3 K N (ad c (c32 k)) 3)) 64), (γ1_0, ints .u32 (k3 K N (ad c (c32 (k + 1))) 3) 16), (g, ints .u8 (szr K N c q.f F ((64 * k) + i)) NN)] ∧ Kp g w w') ∧ i ≤ (min (q.n - 64 * k) 64)) (fun i => (min (q.n - 64 * k) 64) - i) 0 ?st2 ?rd2
    case st2 => exact ⟨(slotfn [undef, undef, undef, undef, undef, undef, undef, undef, s0 8, s0 9, undef, undef, undef, undef, undef, undef, undef, undef, undef, undef, undef, undef, undef, undef, undef, undef, undef, s0 27, s0 28, s0 29, s0 30, s0 31, s0 32, s0 33, s0 34, s0 35, s0 36, s0 37, s0 38, s0 39]), rfl, ⟨H8.out.1, H8.out.2⟩, by omega⟩
    intro i a' w9 hI
    obtain ⟨s2, rfl, hMB, hk2⟩ := hI
    have H9 : Hid (_ ∧ _) := hMB
    clear hMB H8
    by_cases hlti : i < (min (q.n - 64 * k) 64)
    · have hrd : True := trivial
      clear hrd
      refine wp_seq ?_
      refine walk_seqA 1 [.quiet (.bool true)] (sB H9) ?ho7 ?he7
      case ho7 => exact ak (by refine fun γ => ⟨rfl, fun w' h => ?_⟩; clear h; go_simp <;> omega) trivial
      intro γ w10 l hM hl
      have H10 := keepK H9 hM.below
      clear hM hl l H9 γ
      refine rest0 rfl (then_normal (wp_seq ?_))
      refine wp_cond_true rfl (wp_skip ?_)
      refine then_normal (wp_seq ?_)
      refine wp_block (wp_seq ?_)
      refine (walk_seq) 5 [.quiet (.int .i64 ((i : Nat) : Int)), .quiet (PT q.gb ((q.o + 64 * k) + i)), .quiet (Z8 (q.f (64 * k + i))), .quiet (.int .i64 ((i : Nat) : Int)), .quiet (Z8 (q.f (64 * k + i)))] (fun u' => Mm u' [(γ3_2, ints .u8 (bs (k3 K N (ad c (c32 k)) 3)) 64), (γ1_0, ints .u32 (k3 K N (ad c (c32 (k + 1))) 3) 16), (g, ints .u8 (szr K N c q.f F ((64 * k) + i)) NN)] ∧ q.rs u') ?pre8 ?F8 ?hpre8 (fun γ => ?hF8) (by kernel_rfl) ?hL8 ?hS8 ?ho8 ?he8
      case hpre8 => simp only [tk, tz]; rfl
      case hF8 => simp only [fill, Kind.val, Act.put, sa, sz, ss]; rfl
      case hL8 => exact trivial
      case hS8 => exact fun w' hb => ⟨H10.out.1.below hb, RB.out.kpx (H10.out.2.trans (hb)) hne⟩
      case ho8 =>
        refine ak (fun _ => ⟨rfl, fun _ _ => rfl⟩) ?_
        refine ak (fun γ => ⟨rfl, fun w' _ => ex_ixS22 (m := (min (q.n - 64 * k) 64)) (j := i) rfl rfl rfl (by omega)⟩) ?_
        refine ak (fun γ => ⟨rfl, fun w' hX => ex_ldR (k := i) (hX.2.part (64 * k)) (by omega) rfl rfl⟩) ?_
        refine ak (fun _ => ⟨rfl, fun _ _ => rfl⟩) ?_
        refine ak (fun _ => ⟨rfl, fun _ _ => rfl⟩) ?_
        exact trivial
      intro γ w11 l hM hl
      have H11 := keepK H10 hM.below
      clear hM hl l H10 γ
      refine rest0 rfl (then_normal ?_)
      refine walk_seqA 8 [.quiet (.slice (some ⟨g, (64 * k), none⟩) (q.n - 64 * k) (NN - 64 * k)), .quiet (.int .i64 ((i : Nat) : Int)), .quiet (Z8 (q.f (64 * k + i))), .quiet (.int .i64 ((i : Nat) : Int)), .quiet (PT γ3_2 i), .quiet (Z8 ((bs (k3 K N (ad c (c32 k)) 3)) i)), .quiet (Z8 (x8 (q.f (64 * k + i)) ((bs (k3 K N (ad c (c32 k)) 3)) i))), .quiet (PT g ((64 * k) + i))] (sB H11) ?ho9 ?he9
      case ho9 => exact ak (fun _ => ⟨rfl, fun _ _ => rfl⟩) (ak (fun _ => ⟨rfl, fun _ _ => rfl⟩) (ak (fun _ => ⟨rfl, fun _ _ => rfl⟩) (ak (fun _ => ⟨rfl, fun _ _ => rfl⟩) (ak (fun γ => ⟨rfl, fun w' _ => ex_ix0_48 (j := i) rfl rfl rfl (by omega)⟩) (ak (fun γ => ⟨rfl, fun w' h => ex_loadC h 0 rfl rfl rfl Try.isAgg5 (ints_get _ _ (by omega))⟩) (ak (fun γ => ⟨rfl, fun w' _ => ex_xor8 rfl rfl rfl⟩) (ak (fun γ => ⟨rfl, fun w' _ => ex_ixS22 (m := (q.n - 64 * k)) (j := i) rfl rfl rfl (by omega)⟩) trivial)))))))
      intro γ w12 l hM hl
      have H12 := keepK H11 hM.below
      clear hM hl l H11 γ
      refine rest_at (l := [8]) rfl ?_
      refine rest_store rfl rfl rfl (ex_storeI H12.out.1 2 rfl rfl Try.sizeOf5 rfl rfl (by rw [ints_len]; omega)) ?_
      have H13 : Hid (Mm (w12.setCells g ((64 * k) + i) ([Z8 (x8 (q.f (64 * k + i)) ((bs (k3 K N (ad c (c32 k)) 3)) i))])) [(γ3_2, ints .u8 (bs (k3 K N (ad c (c32 k)) 3)) 64), (γ1_0, ints .u32 (k3 K N (ad c (c32 (k + 1))) 3) 16), (g, ints .u8 (szr K N c q.f F ((64 * k) + (i + 1))) NN)] ∧ Kp g w (w12.setCells g ((64 * k) + i) ([Z8 (x8 (q.f (64 * k + i)) ((bs (k3 K N (ad c (c32 k)) 3)) i))]))) := ⟨by
        have h := H12.out.1.put 2 (off := ((64 * k) + i)) (vs := [Z8 (x8 (q.f (64 * k + i)) ((bs (k3 K N (ad c (c32 k)) 3)) i))]) rfl (by rw [ints_len]; simp only [List.length_cons, List.length_nil]; omega)
        rw [ints_patch _ _ _ _ (by omega), show ints .u8 (up (szr K N c q.f F ((64 * k) + i)) ((64 * k) + i) (x8 (q.f (64 * k + i)) ((bs (k3 K N (ad c (c32 k)) 3)) i))) NN = ints .u8 (szr K N c q.f F ((64 * k) + (i + 1))) NN by rw [show (up (szr K N c q.f F ((64 * k) + i)) ((64 * k) + i) (x8 (q.f (64 * k + i)) ((bs (k3 K N (ad c (c32 k)) 3)) i))) = szr K N c q.f F ((64 * k) + (i + 1)) from szr_set (so_at K N c q.f k (by omega))]] at h
        exact h, H12.out.2.put (Or.inl rfl)⟩
      clear H12
      generalize hgw : World.setCells _ _ _ _ = w13 at H13 ⊢
      clear hgw
      refine rest_nil (block_normal (then_normal ?_))
      refine walk_seqA 1 [.quiet (.int .i64 ((i + 1 : Nat) : Int))] (sB H13) ?ho10 ?he10
      case ho10 => exact ak (by refine fun γ => ⟨rfl, fun w' h => ?_⟩; clear h; go_simp; rw [IntKind.wrap_i64]; omega) trivial
      intro γ w14 l hM hl
      have H14 := keepK H13 hM.below
      clear hM hl l H13 γ
      refine rest_at (l := [1]) rfl ?_
      refine rest_set (d := 26) rfl rfl rfl rfl ?_
      simp only [Act.put, sa, sz, ss]
      refine rest_nil (then_normal ?_)
      exact ⟨i + 1, ⟨(slotfn [undef, undef, undef, undef, undef, undef, undef, undef, .int .i64 ((i : Nat) : Int), Z8 (q.f (64 * k + i)), undef, undef, undef, undef, undef, undef, undef, undef, undef, undef, undef, undef, undef, undef, undef, undef, undef, .bool true, .int .i64 ((i : Nat) : Int), PT q.gb ((q.o + 64 * k) + i), Z8 (q.f (64 * k + i)), .slice (some ⟨g, (64 * k), none⟩) (q.n - 64 * k) (NN - 64 * k), .int .i64 ((i : Nat) : Int), Z8 (q.f (64 * k + i)), .int .i64 ((i : Nat) : Int), PT γ3_2 i, Z8 ((bs (k3 K N (ad c (c32 k)) 3)) i), Z8 (x8 (q.f (64 * k + i)) ((bs (k3 K N (ad c (c32 k)) 3)) i)), PT g ((64 * k) + i), .int .i64 ((i + 1 : Nat) : Int)]), rfl, ⟨H14.out.1, H14.out.2⟩, by omega⟩, by omega⟩
    have hiN : i = (min (q.n - 64 * k) 64) := by omega
    subst hiN
    refine wp_seq ?_
    refine walk_seqA 1 [.quiet (.bool false)] (sB H9) ?ho11 ?he11
    case ho11 => exact ak (by refine fun γ => ⟨rfl, fun w' h => ?_⟩; clear h; go_simp <;> omega) trivial
    intro γ w15 l hM hl
    have H15 := keepK H9 hM.below
    clear hM hl l H9 γ
    refine rest0 rfl (then_normal (wp_seq (wp_cond_false rfl ?_)))
    refine wp_exit ?_
    repeat refine then_exit ?_
    refine block_exit ?_
    refine then_normal ?_
    refine walk_value (by kernel_rfl) 6 [3, 4, 5] [.quiet (.slice (some ⟨g, (64 * k), none⟩) (q.n - 64 * k) (NN - 64 * k)), .quiet (.int .i64 (((min (q.n - 64 * k) 64) : Nat) : Int)), .quiet (sl22 g (64 * k) (q.n - 64 * k) (NN - 64 * k) (min (q.n - 64 * k) 64)), .quiet (.slice (some ⟨q.gb, (q.o + 64 * k), none⟩) (q.n - 64 * k) (q.cp - 64 * k)), .quiet (.int .i64 (((min (q.n - 64 * k) 64) : Nat) : Int)), .quiet (sl22 q.gb (q.o + 64 * k) (q.n - 64 * k) (q.cp - 64 * k) (min (q.n - 64 * k) 64))] (fun w' => Mm w' [(γ3_2, ints .u8 (bs (k3 K N (ad c (c32 k)) 3)) 64), (γ1_0, ints .u32 (k3 K N (ad c (c32 (k + 1))) 3) 16), (g, ints .u8 (szr K N c q.f F ((64 * k) + (min (q.n - 64 * k) 64))) NN)]) ?pre12 ?F12 ?G12 _ 0 ?hpre12 (fun γ => ?hF12) (fun v γ => ?hG12) (by kernel_rfl) rfl ?hL12 ?hS12 ?ho12 (fun v => ?hla12) ?he12
    case hpre12 => simp only [tk, tz]; rfl
    case hF12 => simp only [fill, Kind.val, Act.put, sa, sz, ss]; rfl
    case hG12 => simp only [fill, Kind.val, Act.put, sa, sz, ss]; rfl
    case hL12 => exact trivial
    case hS12 => exact fun w' hb => H15.out.1.below hb
    case ho12 =>
      refine ak (fun _ => ⟨rfl, fun _ _ => rfl⟩) ?_
      refine ak (fun _ => ⟨rfl, fun _ _ => rfl⟩) ?_
      refine ak (fun γ => ⟨rfl, fun w' _ => ex_sl22 (l := (min (q.n - 64 * k) 64)) rfl rfl rfl (by omega) (by omega)⟩) ?_
      refine ak (fun _ => ⟨rfl, fun _ _ => rfl⟩) ?_
      refine ak (fun _ => ⟨rfl, fun _ _ => rfl⟩) ?_
      refine ak (fun γ => ⟨rfl, fun w' _ => ex_sl22 (l := (min (q.n - 64 * k) 64)) rfl rfl rfl (by omega) (by omega)⟩) ?_
      exact trivial
    case hla12 => exact ⟨⟨_, _, rfl, rfl, fun γ => ⟨rfl, fun w' => rfl⟩⟩, ⟨_, _, rfl, rfl, fun γ => ⟨rfl, fun w' => rfl⟩⟩, ⟨_, _, rfl, rfl, fun γ => ⟨rfl, fun w' => ex_sl22 (l := (min (q.n - 64 * k) 64)) rfl rfl rfl (by omega) (by omega)⟩⟩, trivial⟩
    intro γ w16 l hM hl
    have H16 := keepK H15 hM.below
    clear hM hl l H15 γ
    refine ⟨sl22 g (64 * k) (q.n - 64 * k) (NN - 64 * k) (min (q.n - 64 * k) 64), w16, rfl, ?_⟩
    refine rest_at (l := [7]) rfl ?_
    refine rest_set (d := 2) rfl rfl rfl rfl ?_
    simp only [Act.put, sa, sz, ss]
    refine rest_nil (block_normal (then_normal ?_))
    exact ⟨k + 1, ⟨(slotfn [sl22 g (64 * k) (q.n - 64 * k) (NN - 64 * k) (min (q.n - 64 * k) 64), undef, sl22 q.gb (q.o + 64 * k) (q.n - 64 * k) (q.cp - 64 * k) (min (q.n - 64 * k) 64), undef, undef, undef, PT γ3_2 0, .int .i64 (((min (q.n - 64 * k) 64) : Nat) : Int), s2 8, s2 9, .slice (some ⟨q.gb, (q.o + 64 * k), none⟩) (q.n - 64 * k) (q.cp - 64 * k), .int .i64 (((q.n - 64 * k) : Nat) : Int), .bool true, .agg (ints .u32 (k3 K N (ad c (c32 k)) 3) 16).toArray, .agg (ints .u8 (bs (k3 K N (ad c (c32 k)) 3)) 64).toArray, PT γ1_0 12, W32 ((k3 K N (ad c (c32 k)) 3) 12), W32 (ad ((k3 K N (ad c (c32 k)) 3) 12) 1), PT γ1_0 12, .slice (some ⟨q.gb, (q.o + 64 * k), none⟩) (q.n - 64 * k) (q.cp - 64 * k), .int .i64 (((q.n - 64 * k) : Nat) : Int), .int .i64 (((min (q.n - 64 * k) 64) : Nat) : Int), .slice (some ⟨q.gb, (q.o + 64 * k), none⟩) (q.n - 64 * k) (q.cp - 64 * k), .int .i64 (((min (q.n - 64 * k) 64) : Nat) : Int), .slice (some ⟨q.gb, (q.o + 64 * k), none⟩) (min (q.n - 64 * k) 64) (q.cp - 64 * k), .int .i64 (((min (q.n - 64 * k) 64) : Nat) : Int), .int .i64 (((min (q.n - 64 * k) 64) : Nat) : Int), .bool false, s2 28, s2 29, s2 30, s2 31, s2 32, s2 33, s2 34, s2 35, s2 36, s2 37, s2 38, s2 39, .slice (some ⟨g, (64 * k), none⟩) (q.n - 64 * k) (NN - 64 * k), .int .i64 (((min (q.n - 64 * k) 64) : Nat) : Int), sl22 g (64 * k) (q.n - 64 * k) (NN - 64 * k) (min (q.n - 64 * k) 64), .slice (some ⟨q.gb, (q.o + 64 * k), none⟩) (q.n - 64 * k) (q.cp - 64 * k), .int .i64 (((min (q.n - 64 * k) 64) : Nat) : Int), sl22 q.gb (q.o + 64 * k) (q.n - 64 * k) (q.cp - 64 * k) (min (q.n - 64 * k) 64)]), rfl, ⟨by rw [show mi q.n (k + 1) = 64 * k + (min (q.n - 64 * k) 64) by unfold mi; omega]; exact H16.out.1.tail, H16.out.2⟩, ⟨by omega, by rw [show mi q.n (k + 1) = 64 * k + (min (q.n - 64 * k) 64) by unfold mi; omega]; exact Bo.step hN, by rw [show mi q.n (k + 1) = 64 * k + (min (q.n - 64 * k) 64) by unfold mi; omega]; exact Bw.step hq.le⟩⟩, by omega⟩
  have hkN : k = ((q.n + 63) / 64) := by omega
  have hmi : mi q.n k = q.n := by unfold mi; omega
  rw [hmi] at hk0 H2
  obtain ⟨pb, cb, eb, hb⟩ := hk0.2.2
  rw [eb]
  clear eb hb
  refine wp_seq (wp_seq ?_)
  refine walk_seqA 3 [.quiet (.slice pb (q.n - q.n) cb), .quiet (.int .i64 (((q.n - q.n) : Nat) : Int)), .quiet (.bool false)] (sB H2) ?ho13 ?he13
  case ho13 => exact ak (fun _ => ⟨rfl, fun _ _ => rfl⟩) (ak (by refine fun γ => ⟨rfl, fun w' h => ?_⟩; clear h; go_simp) (ak (by refine fun γ => ⟨rfl, fun w' h => ?_⟩; clear h; go_simp <;> omega) trivial))
  intro γ w17 l hM hl
  have H17 := keepK H2 hM.below
  clear hM hl l H2 γ
  refine rest0 rfl (then_normal (wp_cond_false rfl ?_))
  refine wp_exit ?_
  repeat refine then_exit ?_
  refine block_exit ?_
  refine bodyPost_end (v := .tuple #[]) (by simp [results, Try.results32, go_sem]) rfl ?_
  exact ⟨rfl, H17.out.1.one 1 rfl, H17.out.2⟩
end Rg
end Go.Proofs.Ytkkippfikfjdpaa
end
section
namespace Go.Proofs.Ytkkippfikfjdpaa
open Go.RowKit
namespace Rg
set_option maxRecDepth 100000
theorem sk_lt {K : Nat → Nat} (hK : ∀ j, K j < 256) : sk K < 340282366920938463463374607431768211456 := nv16_lt (fun _j => hK _)
theorem ab_zero : Ab 0 := by unfold Ab; decide
/-- The number of a sealed text and of what comes with it. -/
def sgn (B M : Nat → Nat) (m : Nat) (S : Nat → Nat) (n : Nat) : Nat := ga (rk B) (fl16 (rk B) (fl16 (rk B) 0 M m) S n) (nv (dg (c64 m + c64 n * 18446744073709551616)) 16 + 1 * 340282366920938463463374607431768211456)
/-- The tag. -/
def mt (K N M : Nat → Nat) (m : Nat) (S : Nat → Nat) (n : Nat) : Nat → Nat := tt (sgn (bk K N 0) M m S n) (sk (bk K N 0))
theorem mt_256 (K N M : Nat → Nat) (m : Nat) (S : Nat → Nat) (n j : Nat) : mt K N M m S n j < 256 := dg_lt _ _
theorem sgn_ok {B M S : Nat → Nat} (hM : ∀ j, M j < 256) (hS : ∀ j, S j < 256) (m n : Nat) : Ab (sgn B M m S n) := by
  unfold sgn
  refine ga_ok (rk_ok B) (fl16_ok (rk_ok B) (fl16_ok (rk_ok B) ab_zero hM m) hS n) ?_
  have := nv16_lt (P := dg (c64 m + c64 n * 18446744073709551616)) (dg_lt _)
  omega
theorem call28 : ∀ args w, (callFunc 28 args).run Try.prog w = .ok (.enter 28 args) w := by intro args w; go_simp
theorem call34 : ∀ args w, (callFunc 34 args).run Try.prog w = .ok (.enter 34 args) w := by intro args w; go_simp
theorem call37 : ∀ args w, (callFunc 37 args).run Try.prog w = .ok (.enter 37 args) w := by intro args w; go_simp
theorem call54 : ∀ args w, (callFunc 54 args).run Try.prog w = .ok (.enter 54 args) w := by intro args w; go_simp
set_option maxHeartbeats 2000000 in
set_option maxRecDepth 100000 in
theorem sealTag_any (K N : Nat → Nat) (gk ok ck gn on cn : Nat) (hck : 32 ≤ ck) (hcn : 12 ≤ cn) (q mo : Pt8) (hq : Pok q) (hmo : Pok mo) (hfq : ∀ j, q.f j < 256) (hfmo : ∀ j, mo.f j < 256) (hnq : q.n ≤ 1048592) (hnmo : mo.n ≤ 1048592) (w : World) (hRk : Rs gk ok 32 K w) (hRn : Rs gn on 12 N w) (hRb : q.rs w) (hRm : mo.rs w) :
    Calls Try.prog 40 #[.slice (some ⟨gk, ok, none⟩) 32 ck, .slice (some ⟨gn, on, none⟩) 12 cn, .slice q.p q.n q.cp, .slice mo.p mo.n mo.cp] w fun e w' => e = .returned (.agg (ints .u8 (mt K N mo.f mo.n q.f q.n) 16).toArray) ∧ Below w.heap.size w w' := by
  have H0 : Hid (_ ∧ _) := ⟨Mm.nil w, Below.refl w.heap.size w⟩
  have RK : Hid (Rs gk ok 32 K w) := hRk
  have RN : Hid (Rs gn on 12 N w) := hRn
  have RB : Hid (q.rs w) := hRb
  have RM : Hid (mo.rs w) := hRm
  clear hRk hRn hRb hRm
  go_enter Try.func40, Try.ntmps40
  refine wp_seq ?_
  refine walk_seqA 1 [.made (ints .u8 (fun _ => 0) 16) 65] (sB H0) ?ho1 ?he1
  case ho1 => exact ak (fun γ => ⟨rfl, fun w' => ex_mk65 rfl⟩) trivial
  intro γ w1 l hM hl
  have H1 : Hid (Mm w1 [(γ 0, ints .u8 (fun _ => 0) 16)] ∧ _) := growB H0 hM (Nat.le_refl _) hl [0] rfl (by decide)
  have o1_0 := ownB H0 hM (Nat.le_refl _) hl (i := 0) rfl
  clear hM hl l
  generalize γ 0 = γ1_0 at H1 o1_0 ⊢
  clear γ
  refine rest0 rfl (then_normal (wp_seq ?_))
  refine (walk_seq) 6 [.quiet (.slice (some ⟨gk, ok, none⟩) 32 ck), .quiet (.slice (some ⟨gn, on, none⟩) 12 cn), .call (.agg (ints .u32 (k3 K N 0 3) 16).toArray), .call (.agg (ints .u8 (bs (k3 K N 0 3)) 64).toArray), .made (ints .u8 (fun _ => 0) 64) 48, .laid 4 (ints .u8 (fun _ => 0) 64) (ints .u8 (bs (k3 K N 0 3)) 64)] (fun u' => Mm u' [(γ1_0, ints .u8 (fun _ => 0) 16)] ∧ (Rs gk ok 32 K u' ∧ Rs gn on 12 N u')) ?pre2 ?F2 ?hpre2 (fun γ => ?hF2) (by kernel_rfl) ?hL2 ?hS2 ?ho2 ?he2
  case hpre2 => simp only [tk, tz]; rfl
  case hF2 => simp only [fill, Kind.val, Act.put, sa, sz, ss]; rfl
  case hL2 => exact ⟨⟨_, rfl⟩, trivial⟩
  case hS2 => exact fun w' hb => ⟨H1.out.1.below hb, ⟨RK.out.below (H1.out.2.trans (hb.mono H1.out.2.size)), RN.out.below (H1.out.2.trans (hb.mono H1.out.2.size))⟩⟩
  case ho2 =>
    refine ak (fun _ => ⟨rfl, fun _ _ => rfl⟩) ?_
    refine ak (fun _ => ⟨rfl, fun _ _ => rfl⟩) ?_
    refine ak (fun γ => ⟨rfl, fun w' hX => ⟨28, #[.slice (some ⟨gk, ok, none⟩) 32 ck, .slice (some ⟨gn, on, none⟩) 12 cn, .int .u32 0], exec_call rfl call28 rfl (mpn rfl), begun_any K N gk ok ck gn on cn 0 hck hcn w' hX.2.1 hX.2.2⟩⟩) ?_
    refine ak (fun γ => ⟨rfl, fun w' hX => ⟨29, #[.agg (ints .u32 (k3 K N 0 3) 16).toArray], exec_call rfl call29 rfl (mpn rfl), sblock_any (k3 K N 0 3) w'⟩⟩) ?_
    refine ak (fun γ => ⟨rfl, fun w' => ex_mk48 rfl⟩) ?_
    refine ak (fun γ => ⟨rfl, rfl, (ints_len _ _ _).trans (ints_len _ _ _).symm, fun w' h => ex_laidI h Try.sizeOf48 rfl rfl rfl⟩) ?_
    exact trivial
  intro γ w2 l hM hl
  have H2 : Hid (Mm w2 [(γ 4, ints .u8 (bs (k3 K N 0 3)) 64), (γ1_0, ints .u8 (fun _ => 0) 16)] ∧ _) := growB H1 hM (Nat.le_refl _) hl [4] rfl (by decide)
  have o2_4 := ownB H1 hM (Nat.le_refl _) hl (i := 4) rfl
  clear hM hl l H1
  generalize γ 4 = γ2_4 at H2 o2_4 ⊢
  clear γ
  refine rest0 rfl (then_normal (wp_seq ?_))
  refine walk_seqA 4 [.quiet (.slice (some ⟨γ2_4, 0, none⟩) 32 64), .call (.agg (ints .u64 (wk9 0 (rk (bk K N 0)) (sk (bk K N 0))) 9).toArray), .made (ints .u64 (fun _ => 0) 9) 61, .laid 2 (ints .u64 (fun _ => 0) 9) (ints .u64 (wk9 0 (rk (bk K N 0)) (sk (bk K N 0))) 9)] (sB H2) ?ho3 ?he3 (hL := ?hL3)
  case hL3 => exact ⟨⟨_, rfl⟩, trivial⟩
  case ho3 => exact ak (by refine fun γ => ⟨rfl, fun w' h => ?_⟩; clear h; go_simp) (ak (fun γ => ⟨rfl, fun w' h => ⟨34, #[.slice (some ⟨γ2_4, 0, none⟩) 32 64], exec_call rfl call34 rfl (mpn rfl), under_any (bk K N 0) γ2_4 0 64 (by decide) (bk_256 K N 0) w' (h.rs 0 rfl (by decide))⟩⟩) (ak (fun γ => ⟨rfl, fun w' => ex_mk61 rfl⟩) (ak (fun γ => ⟨rfl, rfl, (ints_len _ _ _).trans (ints_len _ _ _).symm, fun w' h => ex_laidI h Try.sizeOf61 rfl rfl rfl⟩) trivial)))
  intro γ w3 l hM hl
  have H3 : Hid (Mm w3 [(γ 2, ints .u64 (wk9 0 (rk (bk K N 0)) (sk (bk K N 0))) 9), (γ2_4, ints .u8 (bs (k3 K N 0 3)) 64), (γ1_0, ints .u8 (fun _ => 0) 16)] ∧ _) := growB H2 hM (Nat.le_refl _) hl [2] rfl (by decide)
  have o3_2 := ownB H2 hM (Nat.le_refl _) hl (i := 2) rfl
  clear hM hl l H2
  generalize γ 2 = γ3_2 at H3 o3_2 ⊢
  clear γ
  refine rest0 rfl (then_normal (wp_seq ?_))
  refine walk_seqB 1 [.quiet (.slice mo.p mo.n mo.cp)] H3 ?ho4 ?he4
  case ho4 => exact ak (fun _ => ⟨rfl, fun _ _ => rfl⟩) trivial
  intro _ w4 H4
  clear H3
  refine rest_at (l := [1]) rfl ?_
  refine rest_enter (d := 18) (R := fun vv w' => vv = .tuple #[] ∧ Mm w' [(γ3_2, ints .u64 (wk9 (fl16 (rk (bk K N 0)) 0 mo.f mo.n) (rk (bk K N 0)) (sk (bk K N 0))) 9)] ∧ Kp γ3_2 w4 w') rfl rfl rfl (exec_call (args := #[PT γ3_2 0, .slice mo.p mo.n mo.cp]) rfl call54 rfl (mpn rfl)) (Calls.mono (filled_all γ3_2 0 (rk (bk K N 0)) (sk (bk K N 0)) mo hmo (rk_ok _) (ab_zero) hfmo (fun hn => by have h1 := RM.out.lt hn; have h2 := o3_2.out; omega) hnmo w4 (H4.out.1.one 0 rfl) (RM.out.below H4.out.2)) (fun e w2 hh => ⟨_, hh.1, rfl, hh.2⟩)) ?_
  rintro _ w5 ⟨rfl, hn, hp⟩
  have H5 : Hid (Mm w5 [(γ3_2, ints .u64 (wk9 (fl16 (rk (bk K N 0)) 0 mo.f mo.n) (rk (bk K N 0)) (sk (bk K N 0))) 9), (γ2_4, ints .u8 (bs (k3 K N 0 3)) 64), (γ1_0, ints .u8 (fun _ => 0) 16)] ∧ Below w.heap.size w w5) := ⟨H4.out.1.change 0 rfl hp hn, Below.kp H4.out.2 hp o3_2.out H4.out.2.size⟩
  clear hn hp H4
  simp only [Act.put, sa, sz, ss]
  refine rest_nil (then_normal (wp_seq ?_))
  refine walk_seqB 1 [.quiet (.slice q.p q.n q.cp)] H5 ?ho5 ?he5
  case ho5 => exact ak (fun _ => ⟨rfl, fun _ _ => rfl⟩) trivial
  intro _ w6 H6
  clear H5
  refine rest_at (l := [1]) rfl ?_
  refine rest_enter (d := 20) (R := fun vv w' => vv = .tuple #[] ∧ Mm w' [(γ3_2, ints .u64 (wk9 (fl16 (rk (bk K N 0)) (fl16 (rk (bk K N 0)) 0 mo.f mo.n) q.f q.n) (rk (bk K N 0)) (sk (bk K N 0))) 9)] ∧ Kp γ3_2 w6 w') rfl rfl rfl (exec_call (args := #[PT γ3_2 0, .slice q.p q.n q.cp]) rfl call54 rfl (mpn rfl)) (Calls.mono (filled_all γ3_2 (fl16 (rk (bk K N 0)) 0 mo.f mo.n) (rk (bk K N 0)) (sk (bk K N 0)) q hq (rk_ok _) (fl16_ok (rk_ok _) ab_zero hfmo _) hfq (fun hn => by have h1 := RB.out.lt hn; have h2 := o3_2.out; omega) hnq w6 (H6.out.1.one 0 rfl) (RB.out.below H6.out.2)) (fun e w2 hh => ⟨_, hh.1, rfl, hh.2⟩)) ?_
  rintro _ w7 ⟨rfl, hn, hp⟩
  have H7 : Hid (Mm w7 [(γ3_2, ints .u64 (wk9 (fl16 (rk (bk K N 0)) (fl16 (rk (bk K N 0)) 0 mo.f mo.n) q.f q.n) (rk (bk K N 0)) (sk (bk K N 0))) 9), (γ2_4, ints .u8 (bs (k3 K N 0 3)) 64), (γ1_0, ints .u8 (fun _ => 0) 16)] ∧ Below w.heap.size w w7) := ⟨H6.out.1.change 0 rfl hp hn, Below.kp H6.out.2 hp o3_2.out H6.out.2.size⟩
  clear hn hp H6
  simp only [Act.put, sa, sz, ss]
  refine rest_nil (then_normal (wp_seq ?_))
  refine walk_seqB 7 [.quiet (.slice mo.p mo.n mo.cp), .quiet (.int .i64 ((mo.n : Nat) : Int)), .quiet (U (c64 mo.n)), .quiet (.slice q.p q.n q.cp), .quiet (.int .i64 ((q.n : Nat) : Int)), .quiet (U (c64 q.n)), .call (.agg (ints .u8 (dg (c64 mo.n + (c64 q.n) * 18446744073709551616)) 16).toArray)] H7 ?ho6 ?he6
  case ho6 => exact ak (fun _ => ⟨rfl, fun _ _ => rfl⟩) (ak (by refine fun γ => ⟨rfl, fun w' h => ?_⟩; clear h; go_simp) (ak (fun γ => ⟨rfl, fun w' _ => ex_cv3_56 (a := mo.n) rfl rfl⟩) (ak (fun _ => ⟨rfl, fun _ _ => rfl⟩) (ak (by refine fun γ => ⟨rfl, fun w' h => ?_⟩; clear h; go_simp) (ak (fun γ => ⟨rfl, fun w' _ => ex_cv3_56 (a := q.n) rfl rfl⟩) (ak (fun γ => ⟨rfl, fun w' h => ⟨52, #[U (c64 mo.n), U (c64 q.n)], exec_call rfl call52 rfl (mpn rfl), pieceOf_any _ _ (Nat.mod_lt _ (by decide)) w'⟩⟩) trivial))))))
  intro _ w8 H8
  clear H7
  refine rest_at (l := [7]) rfl ?_
  refine rest_enter (d := 28) (R := fun vv w' => vv = .tuple #[] ∧ Mm w' [(γ3_2, ints .u64 (wk9 (ga (rk (bk K N 0)) (fl16 (rk (bk K N 0)) (fl16 (rk (bk K N 0)) 0 mo.f mo.n) q.f q.n) (nv (dg (c64 mo.n + (c64 q.n) * 18446744073709551616)) 16 + 1 * 340282366920938463463374607431768211456)) (rk (bk K N 0)) (sk (bk K N 0))) 9)] ∧ Kp γ3_2 w8 w') rfl rfl rfl (exec_call (args := #[PT γ3_2 0, .agg (ints .u8 (dg (c64 mo.n + (c64 q.n) * 18446744073709551616)) 16).toArray, U 1]) rfl call50 rfl (mpn rfl)) (Calls.mono (add_any γ3_2 (fl16 (rk (bk K N 0)) (fl16 (rk (bk K N 0)) 0 mo.f mo.n) q.f q.n) (rk (bk K N 0)) (sk (bk K N 0)) 1 (dg (c64 mo.n + (c64 q.n) * 18446744073709551616)) (dg_lt _) (by decide) (rk_ok _) (fl16_ok (rk_ok _) (fl16_ok (rk_ok _) ab_zero hfmo _) hfq _) w8 (H8.out.1.one 0 rfl)) (fun e w2 hh => ⟨_, hh.1, rfl, hh.2⟩)) ?_
  rintro _ w9 ⟨rfl, hn, hp⟩
  have H9 : Hid (Mm w9 [(γ3_2, ints .u64 (wk9 (ga (rk (bk K N 0)) (fl16 (rk (bk K N 0)) (fl16 (rk (bk K N 0)) 0 mo.f mo.n) q.f q.n) (nv (dg (c64 mo.n + (c64 q.n) * 18446744073709551616)) 16 + 1 * 340282366920938463463374607431768211456)) (rk (bk K N 0)) (sk (bk K N 0))) 9), (γ2_4, ints .u8 (bs (k3 K N 0 3)) 64), (γ1_0, ints .u8 (fun _ => 0) 16)] ∧ Below w.heap.size w w9) := ⟨H8.out.1.change 0 rfl hp hn, Below.kp H8.out.2 hp o3_2.out H8.out.2.size⟩
  clear hn hp H8
  simp only [Act.put, sa, sz, ss]
  refine rest_nil (then_normal (wp_seq ?_))
  refine walk_seqB 1 [.call (.agg (ints .u8 (tt (ga (rk (bk K N 0)) (fl16 (rk (bk K N 0)) (fl16 (rk (bk K N 0)) 0 mo.f mo.n) q.f q.n) (nv (dg (c64 mo.n + (c64 q.n) * 18446744073709551616)) 16 + 1 * 340282366920938463463374607431768211456)) (sk (bk K N 0))) 16).toArray)] H9 ?ho7 ?he7
  case ho7 => exact ak (fun γ => ⟨rfl, fun w' h => ⟨37, #[PT γ3_2 0], exec_call rfl call37 rfl (mpn rfl), wtag_any γ3_2 (ga (rk (bk K N 0)) (fl16 (rk (bk K N 0)) (fl16 (rk (bk K N 0)) 0 mo.f mo.n) q.f q.n) (nv (dg (c64 mo.n + (c64 q.n) * 18446744073709551616)) 16 + 1 * 340282366920938463463374607431768211456)) (rk (bk K N 0)) (sk (bk K N 0)) (sgn_ok hfmo hfq mo.n q.n) (sk_lt (bk_256 K N 0)) w' (h.one 0 rfl)⟩⟩) trivial
  intro _ w10 H10
  clear H9
  refine rest_at (l := [1]) rfl ?_
  refine rest_store rfl rfl rfl (ex_storeT (vs := ints .u8 (tt (ga (rk (bk K N 0)) (fl16 (rk (bk K N 0)) (fl16 (rk (bk K N 0)) 0 mo.f mo.n) q.f q.n) (nv (dg (c64 mo.n + (c64 q.n) * 18446744073709551616)) 16 + 1 * 340282366920938463463374607431768211456)) (sk (bk K N 0))) 16) H10.out.1 2 rfl rfl rfl rfl (by rw [ints_len]; exact Try.sizeOf65) (ints_all _ _ _) (by simp [ints_len])) ?_
  have H11 : Hid (Mm (w10.setCells γ1_0 0 (ints .u8 (tt (ga (rk (bk K N 0)) (fl16 (rk (bk K N 0)) (fl16 (rk (bk K N 0)) 0 mo.f mo.n) q.f q.n) (nv (dg (c64 mo.n + (c64 q.n) * 18446744073709551616)) 16 + 1 * 340282366920938463463374607431768211456)) (sk (bk K N 0))) 16)) [(γ3_2, ints .u64 (wk9 (ga (rk (bk K N 0)) (fl16 (rk (bk K N 0)) (fl16 (rk (bk K N 0)) 0 mo.f mo.n) q.f q.n) (nv (dg (c64 mo.n + (c64 q.n) * 18446744073709551616)) 16 + 1 * 340282366920938463463374607431768211456)) (rk (bk K N 0)) (sk (bk K N 0))) 9), (γ2_4, ints .u8 (bs (k3 K N 0 3)) 64), (γ1_0, ints .u8 (tt (ga (rk (bk K N 0)) (fl16 (rk (bk K N 0)) (fl16 (rk (bk K N 0)) 0 mo.f mo.n) q.f q.n) (nv (dg (c64 mo.n + (c64 q.n) * 18446744073709551616)) 16 + 1 * 340282366920938463463374607431768211456)) (sk (bk K N 0))) 16)] ∧ Below w.heap.size w (w10.setCells γ1_0 0 (ints .u8 (tt (ga (rk (bk K N 0)) (fl16 (rk (bk K N 0)) (fl16 (rk (bk K N 0)) 0 mo.f mo.n) q.f q.n) (nv (dg (c64 mo.n + (c64 q.n) * 18446744073709551616)) 16 + 1 * 340282366920938463463374607431768211456)) (sk (bk K N 0))) 16))) := ⟨by
    have h := H10.out.1.put 2 (off := 0) (vs := ints .u8 (tt (ga (rk (bk K N 0)) (fl16 (rk (bk K N 0)) (fl16 (rk (bk K N 0)) 0 mo.f mo.n) q.f q.n) (nv (dg (c64 mo.n + (c64 q.n) * 18446744073709551616)) 16 + 1 * 340282366920938463463374607431768211456)) (sk (bk K N 0))) 16) rfl (by simp [ints_len])
    rw [ints_patch0 _ _ _ _] at h
    exact h, below_setCells _ o1_0.out _ _ _ H10.out.2⟩
  clear H10
  generalize hgw : World.setCells _ _ _ _ = w11 at H11 ⊢
  clear hgw
  refine rest_nil (then_normal (wp_ret ?_))
  repeat (first | refine then_ret ?_ | refine block_ret ?_)
  have hf0 := var_T H11.out.1 2 rfl Try.isAgg65 Try.sizeOf65 (ints_len _ _ _)
  refine bodyPost_ret (v := .agg (ints .u8 (tt (ga (rk (bk K N 0)) (fl16 (rk (bk K N 0)) (fl16 (rk (bk K N 0)) 0 mo.f mo.n) q.f q.n) (nv (dg (c64 mo.n + (c64 q.n) * 18446744073709551616)) 16 + 1 * 340282366920938463463374607431768211456)) (sk (bk K N 0))) 16).toArray) (by simp [results, Try.results40, asAddr, hf0]) rfl ?_
  exact ⟨rfl, H11.out.2⟩
end Rg
end Go.Proofs.Ytkkippfikfjdpaa
end
