/- Texts of the proof, joined. -/
import Derived.Test.YtmcpagjhpfbpgaaGreatDoorP7
import Derived.Deep.RegionLaw
import Derived.Maps.OwnSet
import Derived.Lib.ConvBytes
import Derived.Maps.RangeWalk
import Derived.Laws.IdiomRangeMap
import Derived.Laws.CopyOwn
set_option maxRecDepth 100000
set_option maxHeartbeats 8000000
section
namespace Go.Proofs.YtmcpagjhpfbpgaaGreatDoor
open Go.RowKit
namespace Rg
namespace Wi
set_option maxRecDepth 100000
def shk (k j:Nat):Int:=8*(k:Int) - 8 - 8*(j:Int)
def pbf (P:Nat→Nat) (n:Nat) (A:Nat→Nat) (k:Nat) (t:Nat):Nat:=if t<n then P t else A ((t - n) / k) / 2 ^ (8*(k - 1 - (t - n) % k)) % 256
theorem pbf_at (P:Nat→Nat) (n:Nat) (A:Nat→Nat) {k i j:Nat} (h:j<k):pbf P n A k (n+k*i+j)=A i / 2 ^ (8*(k - 1 - j)) % 256:=by
 unfold pbf
 rw[if_neg (by omega),show n+k*i+j - n=k*i+j by omega,Nat.mul_add_div (by omega),Nat.div_eq_of_lt h,Nat.add_zero,Nat.mul_add_mod,Nat.mod_eq_of_lt h]
theorem pbf_low (P:Nat→Nat) (n:Nat) (A:Nat→Nat) (k:Nat) (j:Nat) (h:j<n):P j=pbf P n A k j:=by
 unfold pbf
 rw[if_pos h]
theorem own_st1 {w:World} {B n:Nat} {v:Value} {xs:List Value} (h:w.ownsRow B 5 1 v n xs):st1 v=true:=by
 rcases h.2 with ⟨h1,_⟩ | ⟨g,cap,cur,h1,_⟩ <;> rw[h1] <;> rfl
section
variable {ρ:Operand→Value} {o:Oper} {x y:Operand} {a k j:Nat} {w:World}
theorem ex_shrS (hj:j<k) (hk:k≤8) (ho:o.op=.binOp .shr 3 x y 3) (hx:ρ x=.int .i64 ((a:Nat):Int)) (hy:ρ y=.int .i64 (shk k j)):(execOp ρ o).run Tryz.prog w=.ok (.value (.int .i64 ((a / 2 ^ (8*(k - 1 - j)):Nat):Int))) w:=by
 have es:shk k j=((8*(k - 1 - j):Nat):Int):=by unfold shk;omega
 rw[es] at hy
 generalize hs8:8*(k - 1 - j)=s at hy ⊢
 have hs64:s<64:=by omega
 simp only[execOp,ho,hx,hy]
 clear ho hx hy es
 have hs:=shift_shr_any .i64 .i64 (a:Int) (s:Int) (by omega)
 have e:min ((s:Int).toNat) IntKind.i64.bits=s:=by rw[Int.toNat_natCast];show min s 64=s;omega
 rw[e,show (a:Int) / 2 ^ s=((a / 2 ^ s:Nat):Int) by rw[Int.natCast_ediv,Int.natCast_pow];rfl] at hs
 go_simp
theorem ex_cvB (ho:o.op=.convert 3 5 x) (hx:ρ x=.int .i64 ((a:Nat):Int)):(execOp ρ o).run Tryz.prog w=.ok (.value (Z8 (a % 256))) w:=by
 simp only[execOp,ho,hx]
 clear ho hx
 go_simp
 simp[IntKind.wrap,IntKind.bits,IntKind.signed]
theorem ex_bsB (ho:o.op=.buildSlice 40 1 #[(0,x)]) (hx:ρ x=Z8 a):(execOp ρ o).run Tryz.prog w=.ok (.value (.slice (some ⟨w.heap.size,0,none⟩) 1 1)) (w.alloc (.cells ([Z8 a]:List Value).toArray 5)):=by
 simp only[execOp,ho,List.map_toArray,List.map_cons,List.map_nil,hx]
 kernel_rfl
end
theorem add_z (g j:Nat):(⟨g,0,none⟩:Addr).add j=⟨g,j,none⟩:=by unfold Addr.add;split <;> simp_all
theorem Ow.appP {w w1:World} {L:List Nat} {l:List (Nat×List Value)} {vv:Value} {n:Nat} {P:Nat→Nat} (h:Ow w L vv n P w1) (hm:Mm w1 l) (hl:l.map Prod.fst=L) {q:Pt8} (hq:Pok q) (hN:q.p=none→q.cp=0) (hR:q.rs w1) (hb:n+q.n≤2097152) (ty:TypeId) :
  ∃ v' w2,(Builtin.append_ #[40,40] ty #[vv,.slice q.p q.n q.cp]).run Tryz.prog w1=.ok v' w2∧Ow w L v' (n+q.n) (ct P n q.f) w2∧Mm w2 l:=by
 obtain⟨v',w2,h1,h2,h3,h5⟩:=own_appQ h.own h.b.size hq hN hR hb ty
 have hb2:Below w.heap.size w1 w2:=(Below.refl _ _).grown h3 h.b.size (fun k hk=>(World.ownsRow.lt h.own k hk).1)
 have hne:∀ p∈l,some p.1≠vv.ownBlock:=fun p hp=>h.ne p.1 (by rw[← hl];exact List.mem_map_of_mem hp)
 refine⟨v',w2,h1,⟨h.b.trans hb2,h2,fun g hg e => ?_⟩,⟨fun p hp => ?_,hm.nd⟩⟩
 ·rcases h5 with e5 | e5
  ·exact h.ne g hg (e.trans e5)
  ·rw[e5] at e
   rw[← hl] at hg
   obtain⟨p,hp,e6⟩:=List.mem_map.1 hg
   have:=(hm.blk p hp).1
   injection e with e
   omega
 ·have hlt:=(hm.blk p hp).1
  have hblk:=h3.block p.1 hlt (hne p hp)
  refine⟨Nat.lt_of_lt_of_le hlt hb2.size,fun j v hj => ?_⟩
  have:=(hm.blk p hp).2 j v hj
  rw[World.cell?_of_block (a:=⟨p.1,j,none⟩) hblk,World.frozen?_of_block (a:=⟨p.1,j,none⟩) hblk]
  exact this
theorem ex_ixI {ρ:Operand→Value} {o:Oper} {x y:Operand} {g off m c j:Nat} {w:World} (ho:o.op=.indexAddr 22 x y) (hx:ρ x=.slice (some ⟨g,off,none⟩) m c) (hy:ρ y=.int .i64 ((j:Nat):Int)) (h:j<m):(execOp ρ o).run Tryz.prog w=.ok (.value (PT g (off+j))) w:=by
 simp only[execOp,ho,hx,hy]
 clear ho hx hy
 go_simp
theorem put_old (W:World) (gw ga:Nat) (lz:List (Nat×List Value)) (vv:Value) (n:Nat) (P:Nat→Nat) (q:Pt8) (hq0:Pok q) (hqn0:q.p=none→q.cp=0) (hqr0:∀ u,Below W.heap.size W u→q.rs u) (A:Nat→Nat) (mm k:Nat) (h1:1≤k) (h8:k≤8) (hmm:mm≤64) (hbd:n+k*mm+q.n≤2097152) (hg0:W.heap.size≤gw) (w:World) (hm:Mm w ((gw,[vv]) :: (ga,zN .i64 A mm) :: lz)) (hO:Ow W (gw :: ga :: lz.map Prod.fst) vv n P w) :
  Calls Tryz.prog 142 #[PT gw 0,.int .i64 ((k:Nat):Int),.slice q.p q.n q.cp,.slice (some ⟨ga,0,none⟩) mm mm] w fun e w'=>e=.returned (.tuple #[])∧∃ v',Ow W (gw :: ga :: lz.map Prod.fst) v' (n+k*mm+q.n) (ct (pbf P n A k) (n+k*mm) q.f) w'∧Mm w' ((gw,[v']) :: (ga,zN .i64 A mm) :: lz):=by
 have H0:Hid (_∧_):=⟨hm,hO⟩
 clear hm
 have hq:Hid _:=hq0
 have hqn:Hid _:=hqn0
 have hqr:Hid _:=hqr0
 have hg:Hid _:=hg0
 clear hq0 hqn0 hqr0 hg0 hO
 go_enter Tryz.func142,Tryz.ntmps142
 refine wp_seq (wp_seq ?_)
 refine zD (l:=[0,1,2]) rfl ?_
 refine zA (d:=11) (v:=.slice (some ⟨ga,0,none⟩) mm mm) (w':=w) rfl rfl rfl rfl ?_
 simp only[Act.put,sa,sz,ss]
 refine zA (d:=12) (v:=.int .i64 ((mm:Nat):Int)) (w':=w) rfl rfl rfl (by go_simp) ?_
 simp only[Act.put,sa,sz,ss]
 refine zA (d:=13) (v:=.int .i64 0) (w':=w) rfl rfl rfl rfl ?_
 simp only[Act.put,sa,sz,ss]
 refine zC (zB (wp_block ?_))
 refine loop_ghost (α:=Nat×Value) (fun x a' w'=>∃ s0:Nat→Value,a'=⟨#[PT gw 0,.int .i64 ((k:Nat):Int),.slice q.p q.n q.cp,.slice (some ⟨ga,0,none⟩) mm mm,ud,ud,ud,ud,ud,s0 9,s0 10,.slice (some ⟨ga,0,none⟩) mm mm,.int .i64 ((mm:Nat):Int),.int .i64 ((x.1:Nat):Int),s0 14,s0 15,s0 16,s0 17,s0 18,s0 19,s0 20,s0 21,s0 22,s0 23,s0 24,s0 25,s0 26,s0 27,s0 28,s0 29,s0 30,s0 31,s0 32,s0 33,s0 34,s0 35,s0 36,s0 37,ud,ud,ud,ud,ud,ud,ud,ud,ud],[]⟩∧(Mm w' ((gw,[x.2]) :: (ga,zN .i64 A mm) :: lz)∧Ow W (gw :: ga :: lz.map Prod.fst) x.2 (n+k*x.1) (pbf P n A k) w')∧x.1≤mm) (fun x=>mm - x.1) (0,vv) ?st0 ?rd0
 case st0=>exact⟨(slotfn [ud,ud,ud,ud,ud,ud,ud,ud,ud,ud,ud,ud,ud,ud,ud,ud,ud,ud,ud,ud,ud,ud,ud,ud,ud,ud,ud,ud,ud,ud,ud,ud,ud,ud,ud,ud,ud,ud]),rfl,⟨H0.out.1,H0.out.2.cg (pbf_low P n A k)⟩,(show 0≤mm by omega)⟩
 intro x a' w1 hI
 obtain⟨s0,rfl,hMB,hk0⟩:=hI
 have H1:Hid (_∧_):=hMB
 clear hMB
 by_cases hltx:x.1<mm
 ·have hrd:True:=trivial
  clear hrd
  have hkx:k*x.1+k≤k*mm:=by have h:=Nat.mul_le_mul_left k (show x.1+1≤mm by omega);rw[Nat.mul_succ] at h;exact h
  refine wp_seq ?_
  refine zD (l:=[0]) rfl ?_
  refine zA (d:=14) (v:=.bool true) (w':=w1) rfl rfl rfl (by go_simp <;> omega) ?_
  simp only[Act.put,sa,sz,ss]
  refine zC (zB ?_)
  refine wp_seq (wp_cond_true rfl ?_)
  refine wp_skip (zB ?_)
  refine wp_seq (wp_block (wp_seq ?_))
  refine zD (l:=[0,1,2]) rfl ?_
  refine zA (d:=15) (v:=PT ga (0+x.1)) (w':=w1) rfl rfl rfl (ex_ixI (j:=x.1) rfl rfl rfl (by omega)) ?_
  simp only[Act.put,sa,sz,ss]
  refine zA (d:=16) (v:=.int .i64 ((A x.1:Nat):Int)) (w':=w1) rfl rfl rfl (zJ H1.out.1 1 rfl rfl rfl Ai3 (by rw[Nat.zero_add];exact ints_get _ _ (by omega))) ?_
  simp only[Act.put,sa,sz,ss]
  refine zA (d:=9) (v:=.int .i64 ((A x.1:Nat):Int)) (w':=w1) rfl rfl rfl rfl ?_
  simp only[Act.put,sa,sz,ss]
  refine zC (zB (wp_seq ?_))
  refine zD (l:=[0,1,2,3]) rfl ?_
  refine zA (d:=17) (v:=.int .i64 ((k:Nat):Int)) (w':=w1) rfl rfl rfl rfl ?_
  simp only[Act.put,sa,sz,ss]
  refine zA (d:=18) (v:=.int .i64 ((k - 1:Nat):Int)) (w':=w1) rfl rfl rfl (by go_simp;rw[IntKind.wrap_i64];omega) ?_
  simp only[Act.put,sa,sz,ss]
  refine zA (d:=19) (v:=.int .i64 (shk k 0)) (w':=w1) rfl rfl rfl (by unfold shk;go_simp;rw[IntKind.wrap_i64];omega) ?_
  simp only[Act.put,sa,sz,ss]
  refine zA (d:=10) (v:=.int .i64 (shk k 0)) (w':=w1) rfl rfl rfl rfl ?_
  simp only[Act.put,sa,sz,ss]
  refine zC (zB (wp_block ?_))
  refine loop_ghost (α:=Nat×Value) (fun y a' w'=>∃ s2:Nat→Value,a'=⟨#[PT gw 0,.int .i64 ((k:Nat):Int),.slice q.p q.n q.cp,.slice (some ⟨ga,0,none⟩) mm mm,ud,ud,ud,ud,ud,.int .i64 ((A x.1:Nat):Int),.int .i64 (shk k y.1),.slice (some ⟨ga,0,none⟩) mm mm,.int .i64 ((mm:Nat):Int),.int .i64 ((x.1:Nat):Int),.bool true,PT ga (0+x.1),.int .i64 ((A x.1:Nat):Int),.int .i64 ((k:Nat):Int),.int .i64 ((k - 1:Nat):Int),.int .i64 (shk k 0),s2 20,s2 21,s2 22,s2 23,s2 24,s2 25,s2 26,s2 27,s2 28,s2 29,s2 30,s2 31,s2 32,s2 33,s2 34,s2 35,s2 36,s0 37,ud,ud,ud,ud,ud,ud,ud,ud,ud],[]⟩∧(Mm w' ((gw,[y.2]) :: (ga,zN .i64 A mm) :: lz)∧Ow W (gw :: ga :: lz.map Prod.fst) y.2 (n+k*x.1+y.1) (pbf P n A k) w')∧y.1≤k) (fun y=>k - y.1) (0,x.2) ?st2 ?rd2
  case st2=>exact⟨(slotfn [ud,ud,ud,ud,ud,ud,ud,ud,ud,ud,ud,ud,ud,ud,ud,ud,ud,ud,ud,ud,s0 20,s0 21,s0 22,s0 23,s0 24,s0 25,s0 26,s0 27,s0 28,s0 29,s0 30,s0 31,s0 32,s0 33,s0 34,s0 35,s0 36]),rfl,⟨H1.out.1,H1.out.2⟩,by omega⟩
  intro y a' w2 hI
  obtain⟨s2,rfl,hMB,hk2⟩:=hI
  have H2:Hid (_∧_):=hMB
  clear hMB H1
  by_cases hlty:y.1<k
  ·have hrd:True:=trivial
   clear hrd
   refine wp_seq (wp_seq ?_)
   refine zD (l:=[0,1]) rfl ?_
   refine zA (d:=20) (v:=.int .i64 (shk k y.1)) (w':=w2) rfl rfl rfl rfl ?_
   simp only[Act.put,sa,sz,ss]
   refine zA (d:=21) (v:=.bool true) (w':=w2) rfl rfl rfl (by unfold shk;go_simp <;> omega) ?_
   simp only[Act.put,sa,sz,ss]
   refine zC (zB ?_)
   refine wp_cond_true rfl (wp_skip ?_)
   refine zB (wp_seq (wp_block ?_))
   refine walk_value (by kernel_rfl) 10 [0] [.q (PT gw 0),.q (PT gw 0),.q (PT gw 0),.q (PT gw 0),.q (y.2),.q (.int .i64 ((A x.1:Nat):Int)),.q (.int .i64 (shk k y.1)),.q (.int .i64 ((A x.1 / 2 ^ (8*(k - 1 - y.1)):Nat):Int)),.q (Z8 (A x.1 / 2 ^ (8*(k - 1 - y.1)) % 256)),.row (fun g=>.slice (some ⟨g,0,none⟩) 1 1) ([Z8 (A x.1 / 2 ^ (8*(k - 1 - y.1)) % 256)]) 5] (fun w'=>Mm w' ((gw,[y.2]) :: (ga,zN .i64 A mm) :: lz)) ?pre6 ?F6 ?G6 _ 34 ?hpre6 (fun γ => ?hF6) (fun v γ => ?hG6) (by kernel_rfl) rfl ?hL6 ?hS6 ?ho6 (fun v => ?hla6) ?he6
   case hpre6=>simp only[tk,tz];rfl
   case hF6=>simp only[fill,Kind.val,Act.put,sa,sz,ss];rfl
   case hG6=>simp only[fill,Kind.val,Act.put,sa,sz,ss];rfl
   case hL6=>exact trivial
   case hS6=>exact fun w' hb=>H2.out.1.below hb
   case ho6 =>
    refine ar ?_
    refine ar ?_
    refine ag ?_
    refine ag ?_
    refine bC 0 Ai40 ?_
    refine ar ?_
    refine ar ?_
    refine ak (fun γ=>⟨rfl,fun w' _=>ex_shrS hlty h8 rfl rfl rfl⟩) ?_
    refine ak (fun γ=>⟨rfl,fun w' _=>ex_cvB rfl rfl⟩) ?_
    refine ak (fun γ=>⟨rfl,fun w'=>ex_bsB (w:=w') rfl rfl⟩) ?_
    exact trivial
   case hla6=>exact⟨⟨_,_,rfl,rfl,fun γ=>⟨rfl,fun w'=>rfl⟩⟩,trivial⟩
   intro γ w3 l hM hl
   have M3:Mm w3 ((γ 9,[Z8 (A x.1 / 2 ^ (8*(k - 1 - y.1)) % 256)]) :: (gw,[y.2]) :: (ga,zN .i64 A mm) :: lz):=H2.out.1.grow hM (Nat.le_refl _) hl [9] rfl (by decide)
   have B3:Ow W (gw :: ga :: lz.map Prod.fst) y.2 (n+k*x.1+y.1) (pbf P n A k) w3:=Ow.step H2.out.2 (hM.below)
   have o6_9:Hid (W.heap.size≤γ 9):=Nat.le_trans H2.out.2.size (hM.fin (Nat.le_refl _) hl (i:=9) rfl).2.1
   clear hM hl l H2
   generalize γ 9=γ6_9 at M3 o6_9 ⊢
   clear γ
   have H3:Hid (_∧_):=⟨M3,B3⟩
   clear M3 B3
   obtain⟨v4,w4,hr,hO,hM⟩:=H3.out.2.app H3.out.1.tail rfl (a:=⟨γ6_9,0,none⟩) 1 1 (fun _=>A x.1 / 2 ^ (8*(k - 1 - y.1)) % 256) (fun j hj=>by rw[add_z];obtain rfl:j=0:=(by omega);exact H3.out.1.get 0 rfl 0 rfl) (by omega) 40
   refine⟨v4,w4,ex_app rfl rfl rfl hr,?_⟩
   have hO2:=hO.cg (P':=(pbf P n A k)) (fun j hj=>ct_snoc (pbf_at P n A hlty).symm (fun _ _=>rfl) j hj)
   have hs1:Hid _:=own_st1 hO.own
   have H4:Hid (Mm w4 ((gw,[y.2]) :: (ga,zN .i64 A mm) :: lz)∧Ow W (gw :: ga :: lz.map Prod.fst) v4 (n+k*x.1+y.1+1) (pbf P n A k) w4):=⟨hM,hO2⟩
   clear hr hO hO2 hM H3
   refine rest_at (l:=[11,12,13]) rfl ?_
   refine zA (d:=35) (v:=PT gw 0) (w':=w4) rfl rfl rfl (by go_simp) ?_
   simp only[Act.put,sa,sz,ss]
   refine zA (d:=36) (v:=PT gw 0) (w':=w4) rfl rfl rfl (by go_simp) ?_
   simp only[Act.put,sa,sz,ss]
   refine zM rfl rfl rfl (ex_st1 (v:=v4) H4.out.1 0 rfl rfl As40 rfl rfl (hs1.out) (Nat.le_of_ble_eq_true rfl)) ?_
   have H5:Hid (Mm (w4.setCells gw 0 [v4]) ((gw,[v4]) :: (ga,zN .i64 A mm) :: lz)∧Ow W (gw :: ga :: lz.map Prod.fst) v4 (n+k*x.1+y.1+1) (pbf P n A k) (w4.setCells gw 0 [v4])):=⟨H4.out.1.put 0 (off:=0) (vs:=[v4]) rfl (Nat.le_of_ble_eq_true rfl),H4.out.2.put (List.mem_cons_self ..) hg.out⟩
   clear H4
   generalize hgw:World.setCells _ _ _ _=w5 at H5 ⊢
   clear hgw
   refine zC (block_normal (zB ?_))
   refine zD (l:=[0,1,2]) rfl ?_
   refine zA (d:=22) (v:=.int .i64 (shk k y.1)) (w':=w5) rfl rfl rfl rfl ?_
   simp only[Act.put,sa,sz,ss]
   refine zA (d:=23) (v:=.int .i64 (shk k (y.1+1))) (w':=w5) rfl rfl rfl (by unfold shk;go_simp;rw[IntKind.wrap_i64];omega) ?_
   simp only[Act.put,sa,sz,ss]
   refine zA (d:=10) (v:=.int .i64 (shk k (y.1+1))) (w':=w5) rfl rfl rfl rfl ?_
   simp only[Act.put,sa,sz,ss]
   refine zC (zB ?_)
   exact⟨(y.1+1,v4),⟨(slotfn [ud,ud,ud,ud,ud,ud,ud,ud,ud,ud,ud,ud,ud,ud,ud,ud,ud,ud,ud,ud,.int .i64 (shk k y.1),.bool true,.int .i64 (shk k y.1),.int .i64 (shk k (y.1+1)),PT gw 0,PT gw 0,PT gw 0,PT gw 0,y.2,.int .i64 ((A x.1:Nat):Int),.int .i64 (shk k y.1),.int .i64 ((A x.1 / 2 ^ (8*(k - 1 - y.1)):Nat):Int),Z8 (A x.1 / 2 ^ (8*(k - 1 - y.1)) % 256),.slice (some ⟨γ6_9,0,none⟩) 1 1,v4,PT gw 0,PT gw 0]),rfl,⟨H5.out.1,H5.out.2⟩,(show y.1+1≤k by omega)⟩,(show k - (y.1+1)<k - y.1 by omega)⟩
  have hyN:y.1=k:=by omega
  refine wp_seq (wp_seq ?_)
  refine zD (l:=[0,1]) rfl ?_
  refine zA (d:=20) (v:=.int .i64 (shk k y.1)) (w':=w2) rfl rfl rfl rfl ?_
  simp only[Act.put,sa,sz,ss]
  refine zA (d:=21) (v:=.bool false) (w':=w2) rfl rfl rfl (by unfold shk;go_simp <;> omega) ?_
  simp only[Act.put,sa,sz,ss]
  refine zC (zB (wp_cond_false rfl ?_))
  refine wp_exit ?_
  repeat refine then_exit ?_
  refine block_exit ?_
  have H6:Hid (Mm w2 ((gw,[y.2]) :: (ga,zN .i64 A mm) :: lz)∧Ow W (gw :: ga :: lz.map Prod.fst) y.2 (n+k*(x.1+1)) (pbf P n A k) w2):=⟨H2.out.1,by rw[show n+k*(x.1+1)=n+k*x.1+y.1 by rw[Nat.mul_succ,hyN,Nat.add_assoc]];exact H2.out.2⟩
  clear H2
  refine block_normal (zB ?_)
  refine zD (l:=[0,1]) rfl ?_
  refine zA (d:=37) (v:=.int .i64 ((x.1+1:Nat):Int)) (w':=w2) rfl rfl rfl (by go_simp;rw[IntKind.wrap_i64];omega) ?_
  simp only[Act.put,sa,sz,ss]
  refine zA (d:=13) (v:=.int .i64 ((x.1+1:Nat):Int)) (w':=w2) rfl rfl rfl rfl ?_
  simp only[Act.put,sa,sz,ss]
  refine zC (zB ?_)
  exact⟨(x.1+1,y.2),⟨(slotfn [ud,ud,ud,ud,ud,ud,ud,ud,ud,.int .i64 ((A x.1:Nat):Int),.int .i64 (shk k y.1),ud,ud,ud,.bool true,PT ga (0+x.1),.int .i64 ((A x.1:Nat):Int),.int .i64 ((k:Nat):Int),.int .i64 ((k - 1:Nat):Int),.int .i64 (shk k 0),.int .i64 (shk k y.1),.bool false,s2 22,s2 23,s2 24,s2 25,s2 26,s2 27,s2 28,s2 29,s2 30,s2 31,s2 32,s2 33,s2 34,s2 35,s2 36,.int .i64 ((x.1+1:Nat):Int)]),rfl,⟨H6.out.1,H6.out.2⟩,(show x.1+1≤mm by omega)⟩,(show mm - (x.1+1)<mm - x.1 by omega)⟩
 have hxN:x.1=mm:=by omega
 refine wp_seq ?_
 refine zD (l:=[0]) rfl ?_
 refine zA (d:=14) (v:=.bool false) (w':=w1) rfl rfl rfl (by go_simp <;> omega) ?_
 simp only[Act.put,sa,sz,ss]
 refine zC (zB ?_)
 refine wp_seq (wp_cond_false rfl ?_)
 refine wp_exit ?_
 repeat refine then_exit ?_
 refine block_exit ?_
 have H7:Hid (Mm w1 ((gw,[x.2]) :: (ga,zN .i64 A mm) :: lz)∧Ow W (gw :: ga :: lz.map Prod.fst) x.2 (n+k*mm) (pbf P n A k) w1):=⟨H1.out.1,by rw[← hxN];exact H1.out.2⟩
 clear H1
 refine zB ?_
 refine zD (l:=[0,1,2,3,4,5,6,7,8,9]) rfl ?_
 refine zA (d:=38) (v:=PT gw 0) (w':=w1) rfl rfl rfl rfl ?_
 simp only[Act.put,sa,sz,ss]
 refine zA (d:=39) (v:=PT gw 0) (w':=w1) rfl rfl rfl rfl ?_
 simp only[Act.put,sa,sz,ss]
 refine zA (d:=40) (v:=PT gw 0) (w':=w1) rfl rfl rfl (by go_simp) ?_
 simp only[Act.put,sa,sz,ss]
 refine zA (d:=41) (v:=PT gw 0) (w':=w1) rfl rfl rfl (by go_simp) ?_
 simp only[Act.put,sa,sz,ss]
 refine zA (d:=42) (v:=x.2) (w':=w1) rfl rfl rfl (zJ H7.out.1 0 rfl rfl rfl Ai40 rfl) ?_
 simp only[Act.put,sa,sz,ss]
 refine zA (d:=43) (v:=.slice q.p q.n q.cp) (w':=w1) rfl rfl rfl rfl ?_
 simp only[Act.put,sa,sz,ss]
 obtain⟨v8,w8,hr,hO,hM⟩:=H7.out.2.appP H7.out.1 rfl hq.out hqn.out (hqr.out _ H7.out.2.b) (by omega) 40
 have hs1:Hid _:=own_st1 hO.own
 refine zA (d:=44) (v:=v8) (w':=w8) rfl rfl rfl (ex_app rfl rfl rfl hr) ?_
 simp only[Act.put,sa,sz,ss]
 have H8:Hid (Mm w8 ((gw,[x.2]) :: (ga,zN .i64 A mm) :: lz)∧Ow W (gw :: ga :: lz.map Prod.fst) v8 (n+k*mm+q.n) (ct (pbf P n A k) (n+k*mm) q.f) w8):=⟨hM,hO⟩
 clear hr hO hM H7
 refine zA (d:=45) (v:=PT gw 0) (w':=w8) rfl rfl rfl (by go_simp) ?_
 simp only[Act.put,sa,sz,ss]
 refine zA (d:=46) (v:=PT gw 0) (w':=w8) rfl rfl rfl (by go_simp) ?_
 simp only[Act.put,sa,sz,ss]
 refine zM rfl rfl rfl (ex_st1 (v:=v8) H8.out.1 0 rfl rfl As40 rfl rfl (hs1.out) (Nat.le_of_ble_eq_true rfl)) ?_
 have H9:Hid (Mm (w8.setCells gw 0 [v8]) ((gw,[v8]) :: (ga,zN .i64 A mm) :: lz)∧Ow W (gw :: ga :: lz.map Prod.fst) v8 (n+k*mm+q.n) (ct (pbf P n A k) (n+k*mm) q.f) (w8.setCells gw 0 [v8])):=⟨H8.out.1.put 0 (off:=0) (vs:=[v8]) rfl (Nat.le_of_ble_eq_true rfl),H8.out.2.put (List.mem_cons_self ..) hg.out⟩
 clear H8
 generalize hgw:World.setCells _ _ _ _=w9 at H9 ⊢
 clear hgw
 refine zC ?_
 refine bodyPost_end (v:=.tuple #[]) (by simp[results,Tryz.results142,go_sem]) rfl ?_
 exact⟨rfl,v8,H9.out.2,H9.out.1⟩
end Wi
end Rg
end Go.Proofs.YtmcpagjhpfbpgaaGreatDoor
end
section
namespace Go.Proofs.YtmcpagjhpfbpgaaGreatDoor
open Go.RowKit
namespace Rg
namespace Wi
set_option maxRecDepth 100000
def lb (l:List Nat) (j:Nat):Nat:=l.getD j 0
theorem Ow.sub {w w1:World} {L L':List Nat} {vv:Value} {n:Nat} {P:Nat→Nat} (h:Ow w L vv n P w1) (hs:∀ g,g∈L'→g∈L):Ow w L' vv n P w1:=⟨h.b,h.own,fun g hg=>h.ne g (hs g hg)⟩
theorem Ow.start {w w1:World} (hb:Below w.heap.size w w1) (P:Nat→Nat) (L:List Nat):Ow w L (.slice none 0 0) 0 P w1:=⟨hb,World.ownsRow_nil _ _ _ _,fun g _ e=>by cases e⟩
theorem Ow.made {w w1:World} {l:List (Nat×List Value)} (hb:Below w.heap.size w w1) (hm:Mm w1 l) (P:Nat→Nat) (c:Nat) (hc:c≤maxLen) (cur:Array Value) (hs:cur.size=c*1):Ow w (l.map Prod.fst) (.slice (some ⟨w1.heap.size,0,none⟩) 0 c) 0 P (w1.alloc (.cells cur 5)) :=
 ⟨hb.trans (((Below.refl _ _).alloc (Nat.le_refl _) _).mono hb.size),World.ownsRow_made _ _ _ hb.size hc hs,fun g hg e=>by
  obtain⟨p,hp,e6⟩:=List.mem_map.1 hg
  have:=(hm.blk p hp).1
  injection e with e
  simp at e
  omega⟩
theorem Ow.fin {w w1:World} {L:List Nat} {vv:Value} {n:Nat} {P:Nat→Nat} (h:Ow w L vv n P w1) (hn:0<n):∃ g x,vv=.slice (some ⟨g,0,none⟩) n (n+x)∧w.heap.size≤g∧g<w1.heap.size∧Blk w1 g (zN .u8 P n):=by
 have ho:=h.own
 rcases ho.2 with ⟨_,h2⟩ | ⟨g,cap,cur,h1,h2,h3,h4,_⟩
 ·omega
 ·subst h1
  refine⟨g,cap - n,by rw[show n+(cap - n)=cap by omega],h2,(World.ownsRow.lt ho g rfl).2,fun j v hj => ?_⟩
  have hlt:j<n:=by
   have:=(List.getElem?_eq_some_iff.1 hj).1
   rwa [zO] at this
  exact⟨by rw[ho.cellAt j (by omega)];exact hj,ho.frozenAt j⟩
def Pt8.no:Pt8:=⟨0,0,0,0,none,fun _=>0⟩
theorem Pt8.no_ok:Pok Pt8.no:=⟨Bv.void _ _ _ _ _,Nat.le_refl _⟩
theorem Pt8.no_rs (w:World):Pt8.no.rs w:=Rs.void _ _ _ _
def Pt8.at (g n c:Nat) (f:Nat→Nat):Pt8:=⟨g,0,n,c,some ⟨g,0,none⟩,f⟩
section
variable {ρ:Operand→Value} {o:Oper} {x y z:Operand} {w:World}
end
end Wi
end Rg
end Go.Proofs.YtmcpagjhpfbpgaaGreatDoor
end
section
namespace Go.Proofs.YtmcpagjhpfbpgaaGreatDoor
open Go.RowKit
namespace Rg
namespace Wi
set_option maxRecDepth 100000
def wn (k n:Nat):List Nat:=bs k fun j=>n / 2 ^ (8*(k - 1 - j)) % 256
def wfs (l:List (List Nat)):List Nat:=(l.map fun b=>wn 4 b.length++b).flatten
def wf (l:List (List Nat)):List Nat:=wn 4 l.length++wfs l
theorem bs_put (P f:Nat→Nat) (n k a m:Nat):bs (n+k*1+m) (ct (pbf P n (fun _=>a) k) (n+k*1) f)=bs n P++wn k a++bs m f:=by
 rw[bs_ct (Nat.le_refl _),List.take_of_length_le (by rw[bs_len];exact Nat.le_refl _),Nat.mul_one,bs_add]
 congr 2
 ·exact bs_cg fun i hi=>(pbf_low P n _ k i hi).symm
 ·refine bs_cg fun i hi => ?_
  have:=pbf_at P n (fun _=>a) (k:=k) (i:=0) (j:=i) hi
  rwa [Nat.mul_zero,Nat.add_zero] at this
def Wt (W:World) (gw:Nat) (l:List Nat) (u:World):Prop:=∃ vv n P,Ow W [gw] vv n P u∧Mm u [(gw,[vv])]∧bs n P=l∧W.heap.size≤gw
theorem Wt.start {W u:World} {vv:Value} {n:Nat} {P:Nat→Nat} (h:Cw W vv n P u):Wt W u.heap.size (bs n P) (u.alloc (.cells #[vv] 204)):=by
 have h0:Ow W [] vv n P u:=⟨h.b,h.own,fun g hg=>by cases hg⟩
 exact⟨vv,n,P,h0.alloc _,(Mm.nil u).alloc [vv] 204 rfl,rfl,h.b.size⟩
theorem Wt.below {W u u':World} {gw:Nat} {l:List Nat} (h:Wt W gw l u) (hb:Below u.heap.size u u'):Wt W gw l u':=by
 obtain⟨vv,n,P,h1,h2,h3,h4⟩:=h
 exact⟨vv,n,P,h1.step hb,h2.below hb,h3,h4⟩
theorem Wt.b {W u:World} {gw:Nat} {l:List Nat} (h:Wt W gw l u):Below W.heap.size W u:=by
 obtain⟨vv,n,P,h1,_⟩:=h
 exact h1.b
theorem Mm.swap2 {w:World} {a b:Nat×List Value} (h:Mm w [a,b]):Mm w [b,a]:=⟨fun p hp=>h.blk p (by rcases List.mem_cons.1 hp with e | e <;> simp_all),by
 have:=h.nd
 simp only[List.pairwise_cons,List.mem_singleton,forall_eq,List.not_mem_nil,false_implies,implies_true,List.Pairwise.nil,and_true,and_self] at this ⊢
 exact this.symm⟩
theorem put_more {W u:World} {gw k:Nat} {l:List Nat} (h:Wt W gw l u) (h1:1≤k) (h8:k≤8) (a:Nat) (q:Pt8) (hq:Pok q∧(q.p=none→q.cp=0)∧q.rs W) (hb:l.length+k+q.n≤2097152) :
  Calls Tryz.prog 142 #[PT gw 0,.int .i64 ((k:Nat):Int),.slice q.p q.n q.cp,.slice (some ⟨u.heap.size,0,none⟩) 1 1] (u.alloc (.cells #[.int .i64 ((a:Nat):Int)] 3)) fun e w'=>e=.returned (.tuple #[])∧Wt W gw (l++wn k a++bs q.n q.f) w':=by
 obtain⟨vv,n,P,e1,e2,rfl,e4⟩:=h
 rw[bs_len] at hb
 have m2:Mm (u.alloc (.cells #[.int .i64 ((a:Nat):Int)] 3)) [(gw,[vv]),(u.heap.size,zN .i64 (fun _=>a) 1)]:=Mm.swap2 (e2.alloc (zN .i64 (fun _=>a) 1) 3 rfl)
 have o2:Ow W (gw :: u.heap.size :: ([]:List (Nat×List Value)).map Prod.fst) vv n P (u.alloc (.cells #[.int .i64 ((a:Nat):Int)] 3)):=(e1.alloc _).sub fun g hg=>by simp only[List.map_nil,List.mem_cons,List.not_mem_nil,or_false] at hg ⊢;exact hg.symm
 refine(put_old W gw u.heap.size [] vv n P q hq.1 hq.2.1 (fun u' hb'=>hq.2.2.keep hb'.size fun h0=>hb'.block _ (hq.2.2.lt h0)) (fun _=>a) 1 k h1 h8 (by decide) (by omega) e4 _ m2 o2).mono fun e w' hh => ?_
 obtain⟨r1,v',r2,r3⟩:=hh
 refine⟨r1,v',_,_,r2.sub fun g hg => ?_,r3.sub (by simp),bs_put P q.f n k a q.n,e4⟩
 rw[List.mem_singleton.1 hg]
 exact List.mem_cons_self ..
def fsum (F:Nat→Pt8):Nat→Nat
 | 0=>4
 | i+1=>fsum F i+(4+(F i).n)
def fls (F:Nat→Pt8) (m:Nat):List (List Nat):=(List.range m).map fun i=>bs (F i).n (F i).f
theorem fls_snoc (F:Nat→Pt8) (m:Nat):fls F (m+1)=fls F m++[bs (F m).n (F m).f]:=by simp[fls,List.range_succ]
theorem fls_len (F:Nat→Pt8) (m:Nat):(fls F m).length=m:=by simp[fls]
theorem wfs_snoc (l:List (List Nat)) (b:List Nat):wfs (l++[b])=wfs l++(wn 4 b.length++b):=by simp[wfs]
theorem wn_len (k n:Nat):(wn k n).length=k:=bs_len _ _
theorem fsum_len (F:Nat→Pt8):∀ m,4+(wfs (fls F m)).length=fsum F m
 | 0=>rfl
 | m+1=>by
  rw[fls_snoc,wfs_snoc,List.length_append,List.length_append,wn_len,bs_len]
  have:=fsum_len F m
  show _=fsum F m+_
  omega
theorem fsum_mono (F:Nat→Pt8) {i m:Nat} (h:i≤m):fsum F i≤fsum F m:=by
 induction m with
 | zero=>rw[show i=0 by omega];exact Nat.le_refl _
 | succ m ih =>
  by_cases e:i=m+1
  ·rw[e];exact Nat.le_refl _
  ·have:=ih (by omega)
   show _≤fsum F m+_
   omega
theorem fsum_step (F:Nat→Pt8) (i:Nat):fsum F (i+1)=fsum F i+(4+(F i).n):=rfl
theorem Fields_any (p:Option Addr) (m c g o:Nat) (F:Nat→Pt8) (hm:m≤4096) (hr:fsum F m≤1048576) (w:World) (hl:Lv p g o m F w) :
  Calls Tryz.prog 104 #[.slice p m c] w fun e w'=>∃ v,e=.returned (.tuple #[v,.int .i64 0])∧∃ N P,Cw w v N P w'∧bs N P=wf (fls F m):=by
 have HL:Hid _:=hl
 clear hl
 have hmI:¬(4096:Int)<m:=by omega
 go_enter Tryz.func104,Tryz.ntmps104
 go_wp2
 go_loopw [4,15] (fun vr vi wr=>∃ i:Nat,vi=.int .i64 (i:Int)∧i≤m∧vr=.int .i64 ((fsum F i:Nat):Int)∧Below w.heap.size w wr)
  (fun _ vi _=>m - (RowKit.intOf vi).toNat)
 case atStart=>exact⟨0,rfl,Nat.zero_le _,rfl,Below.refl _ _⟩
 case round =>
  obtain⟨i,rfl,hi,rfl,hb⟩:=hrel
  by_cases hlt:i<m
  ·have hL:=HL.out.below hb
   have hp:=hL.p (by omega)
   have hat:=hL.at_ i hlt
   have hltI:(i:Int)<m:=by omega
   have hs:=fsum_mono F (show i+1≤m by omega)
   rw[fsum_step] at hs
   have hs2:fsum F i+(4+(F i).n)≤1048576:=by omega
   have HS:Hid _:=fsum_step F i
   subst hp
   clear hL hs
   go_wp2
   go_roundw
   case rel=>exact⟨i+1,by simp,by omega,congrArg (Value.int .i64) (by have:=HS.out;omega),hb⟩
   case measure=>simp[RowKit.intOf];omega
  ·obtain rfl:i=m:=by omega
   obtain⟨w2,hmk,hcw,hb2⟩:=made_own hb (fsum F i) (by omega)
   have hrI:¬(1048576:Int)<(fsum F i:Nat):=by omega
   have HW:Hid _:=Wt.start hcw
   have HB:Hid _:=hb2
   clear hcw hb2
   have hnq:Hid (Pok Pt8.no∧(Pt8.no.p=none→Pt8.no.cp=0)∧Pt8.no.rs w):=⟨Pt8.no_ok,fun _=>rfl,Pt8.no_rs w⟩
   have hsz:(w2.alloc (.cells #[.slice (some ⟨wr.heap.size,0,none⟩) 0 (fsum F i)] 204)).heap.size=w2.heap.size+1:=by simp
   have HP:=put_more HW.out (k:=4) (by decide) (by decide) i Pt8.no hnq.out (by rw[bs_len];show 0+4+0≤_;omega)
   rw[hsz] at HP
   have HP:Hid _:=HP
   go_wp2_with (first
    | (go_at_call 142;refine Calls.mono HP.out ?_;rintro e w5 ⟨rfl,hW5⟩)
    | fail)
   obtain⟨gw,hgw⟩:∃ gw,gw=w2.heap.size:=⟨_,rfl⟩
   rw[← hgw] at hW5 ⊢
   have HF5:Hid _:=hW5
   clear hgw hW5 HP HW hsz hmk
   go_loopw [36] (fun v wr=>∃ k:Nat,v=.int .i64 (k:Int)∧k≤i∧Hid (Wt w gw (wn 4 i++wfs (fls F k)) wr))
    (fun v _=>i - (RowKit.intOf v).toNat)
   case atStart=>exact⟨0,rfl,Nat.zero_le _,Eq.mp (congrArg (fun l=>Wt w gw l w5) (by simp[bs,Pt8.no,fls,wfs])) HF5.out⟩
   case round =>
    obtain⟨k,rfl,hk,hWk⟩:=hrel
    have hbk:=hWk.out.b
    have hL:=HL.out.below hbk
    by_cases hlt:k<i
    ·have hp:=hL.p (by omega)
     have hat:=hL.at_ k hlt
     have hltI:(k:Int)<i:=by omega
     have hs:=fsum_mono F (show k+1≤i by omega)
     rw[fsum_step] at hs
     have hln:=fsum_len F k
     have HP:=put_more hWk.out (k:=4) (by decide) (by decide) (F k).n (F k) ⟨(HL.out.ok k hlt).1,(HL.out.ok k hlt).2.1,(HL.out.ok k hlt).2.2⟩ (by rw[List.length_append,wn_len];omega)
     have HP:Hid _:=HP
     subst hp
     clear hL hs hln
     go_wp2_with (first
      | (go_at_call 142;refine Calls.mono HP.out ?_;rintro e w6 ⟨rfl,hW6⟩;have HF6:Hid _:=hW6;clear hW6)
      | fail)
     go_roundw
     case rel=>exact⟨k+1,by simp,by omega,Eq.mp (congrArg (fun l=>Wt w gw l w6) (by rw[fls_snoc,wfs_snoc,bs_len];simp only[List.append_assoc])) HF6.out⟩
     case measure=>simp[RowKit.intOf];omega
    ·obtain rfl:k=i:=by omega
     obtain⟨vv,N,P,e1,e2,e3,e4⟩:=hWk.out
     have hc:=e2.cell (List.mem_cons_self ..) (k:=0) rfl
     have HR:Hid (Cw w vv N P wr∧bs N P=wn 4 k++wfs (fls F k)):=⟨⟨e1.b,e1.own⟩,e3⟩
     clear e1 e2 e3 hL hWk
     go_wp2
     go_ret2
     exact⟨vv,rfl,N,P,HR.out.1,by rw[HR.out.2];unfold wf;rw[fls_len]⟩
end Wi
end Rg
end Go.Proofs.YtmcpagjhpfbpgaaGreatDoor
end
section
namespace Go.Proofs.YtmcpagjhpfbpgaaGreatDoor
open Go.RowKit
namespace Rg
namespace Wi
set_option maxRecDepth 100000
open Go.Shelf Go.Maps
def Vb (Q:Nat→Prop) (w:World) (mv:Nat) (B:ByteArray→Option (List Nat)) (N:Nat):Prop:=∃ V M,Vm w mv V M∧M≤N∧(∀ s,(V s).map (fun x=>bs x.n x.P)=B s)∧∀ s x,V s=some x→x.n≤8192∧∀ b∈vbl x.v,Q b
section
variable {Q:Nat→Prop} {w u:World} {mv N:Nat} {B:ByteArray→Option (List Nat)}
theorem Vb.below (h:Vb Q w mv B N) (hb:Below w.heap.size w u):Vb Q u mv B N:=by
 obtain⟨V,M,h1,h2⟩:=h
 exact⟨V,M,h1.below hb,h2⟩
theorem Vb.mono {N':Nat} (h:Vb Q w mv B N) (hN:N≤N'):Vb Q w mv B N':=by
 obtain⟨V,M,h1,h2,h3⟩:=h
 exact⟨V,M,h1,by omega,h3⟩
theorem Vb.del (h:Vb Q w mv B N) (s:ByteArray) (hs:s.size≤maxLen) (ty:TypeId):∃ u,(Builtin.delete_ #[46,9] ty #[.map (some mv),.string s]).run Tryz.prog w=.ok (.tuple #[]) u∧Vb Q u mv (fun t=>if t=s then none else B t) N∧Chg [mv] w u:=by
 obtain⟨V,M,h1,h2,h3,h4⟩:=h
 obtain⟨X,x1,x2,x3,x4⟩:=h1.mp
 obtain⟨u,hr,hm,ht⟩:=x1.drop (Maps.string_keyed Tryz.underlying9) Tryz.underlying46 (WideMaps.keyOf_string_mk Tryz.underlying9 hs) ty
 refine⟨u,hr,⟨_,_,h1.del s x1 x2 x3 x4 hm ht.grown,?_,fun t => ?_,fun t x hx => ?_⟩,Chg.grown ht.grown⟩
 ·split <;> omega
 ·unfold vdel
  by_cases e:t=s
  ·simp only[if_pos e];rfl
  ·simp only[if_neg e];exact h3 t
 ·unfold vdel at hx
  split at hx
  ·cases hx
  ·exact h4 t x hx
theorem del_ty {a b:TypeId} {v k:Value} {w:World} (ty ty':TypeId):(Builtin.delete_ #[a,b] ty #[v,k]).run Tryz.prog w=(Builtin.delete_ #[a,b] ty' #[v,k]).run Tryz.prog w:=rfl
theorem Vb.delA (h:Vb Q w mv B N) (s:ByteArray) (hs:s.size≤maxLen):∃ u,(∀ ty,(Builtin.delete_ #[46,9] ty #[.map (some mv),.string s]).run Tryz.prog w=.ok (.tuple #[]) u)∧Vb Q u mv (fun t=>if t=s then none else B t) N∧Chg [mv] w u:=by
 obtain⟨u,h1,h2⟩:=h.del s hs 0
 exact⟨u,fun ty=>(del_ty ty 0).trans h1,h2⟩
theorem Vb.put (h:Vb Q w mv B N) (s:ByteArray) (hs:s.size≤maxLen) (hN:N<maxLen) (v:Value) (n:Nat) (P:Nat→Nat) (hn:n≤8192) (hx:w.ownsRow 0 5 1 v n (zN .u8 P n)) (hb:mv∉vbl v) (hQ:∀ b∈vbl v,Q b):∃ u,(Instr.mapUpdate 46 (.map (some mv)) (.string s) v).run Tryz.prog w=.ok () u∧Vb Q u mv (fun t=>if t=s then some (bs n P) else B t) (N+1)∧Chg [mv] w u:=by
 obtain⟨V,M,h1,h2,h3,h4⟩:=h
 obtain⟨u,hr,hm,hg⟩:=h1.put s hs (Nat.lt_of_le_of_lt h2 hN) ⟨v,n,P⟩ hx hb
 refine⟨u,hr,⟨_,_,hm,?_,fun t => ?_,fun t x hx => ?_⟩,Chg.grown hg⟩
 ·split <;> omega
 ·unfold vput
  by_cases e:t=s
  ·simp only[if_pos e];rfl
  ·simp only[if_neg e];exact h3 t
 ·unfold vput at hx
  split at hx
  ·obtain rfl:=Option.some.inj hx
   exact⟨hn,hQ⟩
  ·exact h4 t x hx
end
theorem step_del {P:Program} {ops:Array Oper} {o:Oper} {a:Act} {w u:World} {K:Act→World→Prop} {Q:Exit→Act→World→Prop} {E:Prop}
  (hg:o.guard=none) (m x:Operand) (t k:TypeId) (hop:o.op=Op.call { callee:=Callee.builtin Builtin.delete,args:=#[m,x],argTypes:=#[t,k] })
  (mm key:Value) (hm:a.eval m=mm) (hx:a.eval x=key) (hr:∀ ty,(Builtin.delete_ #[t,k] ty #[mm,key]).run P w=.ok (.tuple #[]) u)
  (hK:K (a.put o.dst (.tuple #[])) u) :
  if Region.wanted o (yielded ops a.tmps)=true then Oper.wp P o a w K Q else E:=by
 have hw:Region.wanted o (yielded ops a.tmps)=true:=by simp[Region.wanted,hg]
 rw[if_pos hw]
 unfold Oper.wp
 simp[execOp,hop,resolve,invoke,builtin,hm,hx,hr o.type,Result.andThen]
 exact hK
theorem al_new (u:World) (C:Array Value) (T i:Nat) (v:Value) (h0:C[i]?=some v):(u.alloc (.cells C T)).cell? ⟨u.heap.size,i,none⟩=some v:=by
 have h:=World.alloc_heap_new u (.cells C T)
 unfold World.cell?
 dsimp only
 rw[h]
 simpa using h0
theorem al_old (u:World) (o:Obj) {p:Addr} (hp:p.block<u.heap.size):(u.alloc o).cell? p=u.cell? p:=((Below.refl _ u).alloc (Nat.le_refl _) o).cell hp
def bdo (B:ByteArray→Option (List Nat)) (C:Nat→Cq):Nat→ByteArray→Option (List Nat)
 | 0=>B
 | i+1=>fun s=>if s=(C i).k then (if (C i).gn then none else some (bs (C i).q.n (C i).q.f)) else bdo B C i s
theorem do_any (Q:Nat→Prop) (g mv N:Nat) (B:ByteArray→Option (List Nat)) (p:Option Addr) (m c gl o:Nat) (C:Nat→Cq) (hm:m≤64) (hN:N≤1000000) (w:World) (c4:w.cell? ⟨g,4,none⟩=some (.map (some mv))) (hg:g<w.heap.size∧g≠mv) (hl:Cl p gl o m C w) (hgl:gl≠mv) (hC:∀ i,i<m→Pq (C i).q w∧mv∉gbl (C i).q∧(C i).q.n≤8192∧(C i).k.size≤128) (hV:Vb Q w mv B N) (hmv:mv<w.heap.size) (hQ:∀ b,w.heap.size≤b→Q b) :
  Calls Tryz.prog 48 #[PT g 0,.slice p m c] w fun e w'=>e=.returned (.tuple #[])∧Chg [mv] w w'∧Vb Q w' mv (bdo B C m) (N+m):=by
 have HL:Hid _:=hl
 have HC:Hid _:=hC
 have HV:Hid _:=hV
 clear hl hC hV
 go_enter Tryz.func48,Tryz.ntmps48
 go_wp2
 go_loopw [8] (fun v wr=>∃ i:Nat,v=.int .i64 (i:Int)∧i≤m∧Hid (Chg [mv] w wr∧Vb Q wr mv (bdo B C i) (N+i)))
  (fun v _=>m - (RowKit.intOf v).toNat)
 case atStart=>exact⟨0,rfl,Nat.zero_le _,Chg.refl _ _,HV.out⟩
 case round =>
  obtain⟨i,rfl,hi,hh⟩:=hrel
  by_cases hlt:i<m
  ·have hch:=hh.out.1
   have hp:=HL.out.p (by omega)
   have hlg:=HL.out.lt (by omega)
   have ngl:gl∉[mv]:=fun e=>hgl (List.mem_singleton.1 e)
   have k0:=(hch.cell (p:=⟨gl,o+i*3,none⟩) hlg ngl).trans (HL.out.a0 i hlt)
   have k1:=(hch.cell (p:=⟨gl,o+i*3+1,none⟩) hlg ngl).trans (HL.out.a1 i hlt)
   have k2:=(hch.cell (p:=⟨gl,o+i*3+2,none⟩) hlg ngl).trans (HL.out.a2 i hlt)
   have k4:=(hch.cell (p:=⟨g,4,none⟩) hg.1 (fun e=>hg.2 (List.mem_singleton.1 e))).trans c4
   have hgw:g<wr.heap.size:=Nat.lt_of_lt_of_le hg.1 hch.size
   have hltI:(i:Int)<m:=by omega
   obtain⟨hq,hqm,hqn,hks⟩:=HC.out i hlt
   have hq':Pq (C i).q wr:=hq.kx (M:=gbl (C i).q) ⟨hch.size,fun x hx=>hch.block x (by
    unfold gbl at hx
    split at hx
    ·cases hx
    ·obtain rfl:=List.mem_singleton.1 hx
     exact hq.2.2.lt (by omega)) (fun e=>hqm (by rw[← List.mem_singleton.1 e];exact hx))⟩ (fun _ hx=>hx)
   have HQ:Hid (Pq (C i).q wr):=hq'
   have hmw:mv<wr.heap.size:=Nat.lt_of_lt_of_le hmv hch.size
   clear hq hq' hqm
   subst hp
   clear hch
   have hba:Hid (Below wr.heap.size wr (wr.alloc (.cells #[.string (C i).k,.slice (C i).q.p (C i).q.n (C i).q.cp,.bool (C i).gn] 65)).drew):=((Below.refl _ wr).alloc (Nat.le_refl _) _).drew
   cases hgn:(C i).gn with
   | true =>
    rw[hgn] at k2 hba
    obtain⟨u9,hr9,hv9,hc9⟩:=(hh.out.2.below hba.out).delA (C i).k (Nat.le_trans hks (by decide))
    have HR:Hid _:=hr9
    have HE:Hid (Chg [mv] w u9∧Vb Q u9 mv (bdo B C (i+1)) (N+(i+1))):=⟨(hh.out.1.below hba.out).trans hc9 (fun x hx=>.inl hx),by
     have e:bdo B C (i+1)=fun t=>if t=(C i).k then none else bdo B C i t:=by funext t;show (if t=_ then (if (C i).gn then _ else _) else _)=_;rw[hgn];rfl
     rw[e]
     exact hv9.mono (by omega)⟩
    clear hr9 hv9 hc9
    go_wp2
    go_region_law (refine step_del rfl (.tmp 17) (.tmp 19) 46 9 rfl (.map (some mv)) (.string (C i).k) (by simp[Act.eval]) (by simp[Act.eval]) HR.out ?_)
    all_goals go_wp2
    all_goals exact⟨⟨i+1,by simp,by omega,HE⟩,by simp[RowKit.intOf];omega⟩
   | false =>
    rw[hgn] at k2 hba
    have hb1:Hid (∀ u1,Below (wr.alloc (.cells #[.string (C i).k,.slice (C i).q.p (C i).q.n (C i).q.cp,.bool false] 65)).drew.heap.size (wr.alloc (.cells #[.string (C i).k,.slice (C i).q.p (C i).q.n (C i).q.cp,.bool false] 65)).drew u1→Calls Tryz.prog 43 #[.slice (C i).q.p (C i).q.n (C i).q.cp] u1 fun e u2=>Below u1.heap.size u1 u2∧∃ v u9,e=.returned v∧(Instr.mapUpdate 46 (.map (some mv)) (.string (C i).k) v).run Tryz.prog u2=.ok () u9∧Hid (Chg [mv] w u9∧Vb Q u9 mv (bdo B C (i+1)) (N+(i+1)))):=fun u1 hbu=>by
     have hb2:=zR _ _ hba.out hbu
     have hq2:=HQ.out.below hb2
     refine(bclone_any (C i).q (by omega) u1 hq2.1 hq2.2.1 hq2.2.2).mono fun e u2 h2 => ?_
     obtain⟨v,rfl,hw⟩:=h2
     obtain⟨u9,hr9,hv9,hc9⟩:=(hh.out.2.below (zR _ _ hb2 hw.b)).put (C i).k (Nat.le_trans hks (by decide)) (by unfold maxLen;omega) v (C i).q.n (C i).q.f hqn (own_base hw.own (Nat.zero_le _)) (fun hm2=>absurd (hw.lo _ hm2) (by have:=hb2.size;omega)) (fun b hb=>hQ b (Nat.le_trans hh.out.1.size (Nat.le_trans hb2.size (hw.lo b hb))))
     refine⟨hw.b,v,u9,rfl,hr9,(hh.out.1.below (zR _ _ hb2 hw.b)).trans hc9 (fun x hx=>.inl hx),?_⟩
     have e:bdo B C (i+1)=fun t=>if t=(C i).k then some (bs (C i).q.n (C i).q.f) else bdo B C i t:=by funext t;show (if t=_ then (if (C i).gn then _ else _) else _)=_;rw[hgn];rfl
     rw[e]
     exact hv9.mono (by omega)
    have n0:Hid ((wr.alloc (.cells #[.string (C i).k,.slice (C i).q.p (C i).q.n (C i).q.cp,.bool false] 65)).drew.cell? ⟨wr.heap.size,0,none⟩=some (.string (C i).k)):=al_new wr #[.string (C i).k,.slice (C i).q.p (C i).q.n (C i).q.cp,.bool false] 65 0 _ rfl
    have n1:Hid ((wr.alloc (.cells #[.string (C i).k,.slice (C i).q.p (C i).q.n (C i).q.cp,.bool false] 65)).drew.cell? ⟨wr.heap.size,1,none⟩=some (.slice (C i).q.p (C i).q.n (C i).q.cp)):=al_new wr #[.string (C i).k,.slice (C i).q.p (C i).q.n (C i).q.cp,.bool false] 65 1 _ rfl
    have n4:Hid ((wr.alloc (.cells #[.string (C i).k,.slice (C i).q.p (C i).q.n (C i).q.cp,.bool false] 65)).drew.cell? ⟨g,4,none⟩=some (.map (some mv))):=(hba.out.cell (p:=⟨g,4,none⟩) hgw).trans k4
    have hsz:wr.heap.size<(wr.alloc (.cells #[.string (C i).k,.slice (C i).q.p (C i).q.n (C i).q.cp,.bool false] 65)).drew.heap.size:=by show wr.heap.size<(wr.alloc _).heap.size;simp
    have HSZ:Hid _:=hsz
    clear hsz
    go_wp2
    go_region_with (first
     | (go_at_call 57;refine(sclone_any (C i).k (by omega) _).mono ?_;rintro e w1 ⟨rfl,hbw⟩;have d1:=(hbw.cell (p:=⟨wr.heap.size,1,none⟩) HSZ.out).trans n1.out;have d4:=(hbw.cell (p:=⟨g,4,none⟩) (Nat.lt_of_lt_of_le hgw hba.out.size)).trans n4.out)
     | (go_at_call 43;refine Calls.mono (hb1.out _ hbw) ?_;rintro e w2 ⟨hbw2,v,u9,rfl,hr9,hE⟩;have d5:=(hbw2.cell (p:=⟨g,4,none⟩) (Nat.lt_of_lt_of_le hgw (Nat.le_trans hba.out.size hbw.size))).trans d4))
    all_goals go_wp2
    all_goals exact⟨⟨i+1,by simp,by omega,hE⟩,by simp[RowKit.intOf];omega⟩
  ·obtain rfl:i=m:=by omega
   go_wp2
   refine bodyPost_end (v:=.tuple #[]) (by simp[results,Tryz.results48,go_sem]) rfl ?_
   exact⟨rfl,hh.out⟩
end Wi
end Rg
end Go.Proofs.YtmcpagjhpfbpgaaGreatDoor
end
section
namespace Go.Proofs.YtmcpagjhpfbpgaaGreatDoor
open Go.RowKit
namespace Rg
namespace Wi
set_option maxRecDepth 100000
structure Ch where
 k:ByteArray
 v:List Nat
 gn:Bool
def kb (s:ByteArray):List Nat:=s.data.toList.map UInt8.toNat
def Ch.fs (c:Ch):List (List Nat):=[[if c.gn then 1 else 0],kb c.k,c.v]
def rc (l:List Ch):List Nat:=wf (l.flatMap Ch.fs)
def Cq.ch (c:Cq):Ch:=⟨c.k,bs c.q.n c.q.f,c.gn⟩
def chl (C:Nat→Cq) (m:Nat):List Ch:=(List.range m).map fun i=>(C i).ch
theorem chl_snoc (C:Nat→Cq) (m:Nat):chl C (m+1)=chl C m++[(C m).ch]:=by simp[chl,List.range_succ]
theorem chl_len (C:Nat→Cq) (m:Nat):(chl C m).length=m:=by simp[chl]
theorem kb_len (s:ByteArray):(kb s).length=s.size:=by unfold kb;rw[List.length_map,Array.length_toList];rfl
theorem kb_bs (s:ByteArray):bs s.size (fun j=>(s.data.toList.getD j 0).toNat)=kb s:=by
 refine List.ext_getElem? fun i => ?_
 have hl:s.data.toList.length=s.size:=by rw[Array.length_toList];rfl
 by_cases h:i<s.size
 ·rw[bs_get _ h]
  unfold kb
  rw[List.getElem?_map,List.getD_eq_getElem?_getD,List.getElem?_eq_getElem (show i<s.data.toList.length by omega)]
  rfl
 ·rw[List.getElem?_eq_none (by rw[bs_len];omega),List.getElem?_eq_none (by rw[kb_len];omega)]
theorem s2p (s:ByteArray) (w:World):∃ cap u,(convert 9 40 (.string s)).run Tryz.prog w=.ok (.slice (some ⟨w.heap.size,0,none⟩) s.size cap) u∧s.size≤cap∧Below w.heap.size w u∧u.heap.size=w.heap.size+1∧Rs w.heap.size 0 s.size (fun j=>(s.data.toList.getD j 0).toNat) u:=by
 have hr:=Go.Lib.run_convert_string_bytes (P:=Tryz.prog) w 9 40 5 s Tryz.underlying9 (by kernel_rfl) (by kernel_rfl)
 have hge:=grownCap_ge w s.size 0 5
 refine⟨_,_,hr,hge,?_,Go.Lib.bytesWorld_size w 5 s,fun _=>by rw[Go.Lib.bytesWorld_size];omega,fun j hj => ?_⟩
 ·exact⟨rfl,rfl,rfl,by rw[Go.Lib.bytesWorld_size];omega,fun j hj=>Go.Lib.bytesWorld_at_old w 5 s j hj⟩
 ·rw[Nat.zero_add]
  exact Go.Lib.bytesWorld_cell w 5 s j hj
structure Rf (w:World) (vv:Value) (n:Nat) (P:Nat→Pt8) (u:World):Prop where
 b:Below w.heap.size w u
 own:u.ownsRow w.heap.size 40 1 vv n (pcs P n)
 ok:∀ i,i<n→Pok (P i)∧((P i).p=none→(P i).cp=0)∧(P i).rs u∧(0<(P i).n→(P i).gb∉vbl vv)
section
variable {w u u':World} {vv:Value} {n:Nat} {P:Nat→Pt8}
theorem Rf.step (h:Rf w vv n P u) (hb:Below u.heap.size u u'):Rf w vv n P u' :=
 ⟨h.b.trans (hb.mono h.b.size),own_keep h.own (fun x hx=>hb.block x (own_lt h.own x hx)),fun i hi=>⟨(h.ok i hi).1,(h.ok i hi).2.1,(h.ok i hi).2.2.1.below hb,(h.ok i hi).2.2.2⟩⟩
def Bsd (vv:Value) (q:Pt8) (u:World):Prop:=Pok q∧(q.p=none→q.cp=0)∧q.rs u∧(0<q.n→q.gb∉vbl vv)
theorem Rf.app3 (h:Rf w vv n P u) (hn:n≤1000000) {q1 q2 q3:Pt8} (h1:Bsd vv q1 u) (h2:Bsd vv q2 u) (h3:Bsd vv q3 u) {gs:Nat} (hs:∀ j v,[Value.slice q1.p q1.n q1.cp,.slice q2.p q2.n q2.cp,.slice q3.p q3.n q3.cp][j]?=some v→u.cell? ⟨gs,j,none⟩=some v) (ty:TypeId) :
  ∃ v' u2,(Builtin.append_ #[131,131] ty #[vv,.slice (some ⟨gs,0,none⟩) 3 3]).run Tryz.prog u=.ok v' u2∧Rf w v' (n+3) (upP (upP (upP P n q1) (n+1) q2) (n+2) q3) u2:=by
 obtain⟨i0,hi,hz0,hz1,hz2⟩:=info_sl
 obtain⟨v',w2,r1,r2,r3,_,r5⟩:=run_append_own_at (P:=Tryz.prog) u w.heap.size 131 ty 40 i0 (.slice none 0 0) 1 24 Tryz.underlying131 hi hz0 hz1 hz2 rfl (by decide) vv n _ h.own ⟨gs,0,none⟩ 3 3 [.slice q1.p q1.n q1.cp,.slice q2.p q2.n q2.cp,.slice q3.p q3.n q3.cp] rfl
  (fun j v hj=>by rw[add_z];exact hs j v hj) (fun v hv=>by
   rcases List.mem_cons.1 hv with e | hv
   ·rw[e];rfl
   rcases List.mem_cons.1 hv with e | hv
   ·rw[e];rfl
   ·rw[List.mem_singleton.1 hv];rfl) (by unfold maxLen;omega) (by omega) h.b.size
 have e3:pcs P n++[.slice q1.p q1.n q1.cp,.slice q2.p q2.n q2.cp,.slice q3.p q3.n q3.cp]=pcs (upP (upP (upP P n q1) (n+1) q2) (n+2) q3) (n+3):=by
  rw[← pcs_snoc,← pcs_snoc,← pcs_snoc]
  simp
 rw[e3] at r2
 have hc:=Chg.grown r3
 have key:∀ p:Pt8,Bsd vv p u→Bsd v' p w2:=fun p hp=>⟨hp.1,hp.2.1,hp.2.2.1.keep hc.size (fun h0=>hc.block _ (hp.2.2.1.lt h0) (hp.2.2.2 h0)),fun h0 hx=>by
  unfold vbl at hx
  rcases r5 with e | e
  ·rw[e] at hx;exact hp.2.2.2 h0 hx
  ·rw[e] at hx
   have:p.gb=u.heap.size:=by simpa using hx
   have:=hp.2.2.1.lt h0
   omega⟩
 refine⟨v',w2,r1,h.b.trans (hc.toBelow (fun x hx => ?_) h.b.size),r2,fun i hi => ?_⟩
 ·unfold vbl at hx
  cases hv:vv.ownBlock with
  | none=>rw[hv] at hx;simp at hx
  | some k=>rw[hv] at hx;simp at hx;subst hx;exact(World.ownsRow.lt h.own _ hv).1
 ·unfold upP
  by_cases a3:i=n+2
  ·rw[if_pos a3];exact key _ h3
  ·rw[if_neg a3]
   by_cases a2:i=n+1
   ·rw[if_pos a2];exact key _ h2
   ·rw[if_neg a2]
    by_cases a1:i=n
    ·rw[if_pos a1];exact key _ h1
    ·rw[if_neg a1];exact key _ (h.ok i (by omega))
end
theorem fls_cg {F G:Nat→Pt8} {m:Nat} (h:∀ i,i<m→bs (F i).n (F i).f=bs (G i).n (G i).f):fls F m=fls G m:=by
 unfold fls
 exact List.map_congr_left fun i hi=>h i (List.mem_range.1 hi)
theorem fls_up (F:Nat→Pt8) (m:Nat) (q:Pt8):fls (upP F m q) (m+1)=fls F m++[bs q.n q.f]:=by
 rw[fls_snoc]
 congr 1
 ·refine fls_cg fun i hi => ?_
  unfold upP
  rw[if_neg (by omega)]
 ·unfold upP
  rw[if_pos rfl]
theorem wpl_app {P:Program} {w u:World} {ops:Array Oper} {rest:List Oper} {o:Oper} {a:Act} {Q:Exit→Act→World→Prop} (hgd:o.guard=none) (s x:Operand) (t:TypeId)
  (ho:o.op=.call { callee:=.builtin .append,args:=#[s,x],argTypes:=#[t,t] }) (v y v':Value) (hs:a.eval s=v) (hx:a.eval x=y)
  (hr:(Builtin.append_ #[t,t] o.type #[v,y]).run P w=.ok v' u) (h:wpList P ops Q rest (a.put o.dst v') u):wpList P ops Q (o :: rest) a w :=
 wpList_plain hgd fun _ hK=>by
  unfold Oper.wp execOp
  simp only[ho,resolve,invoke,builtin,Sem.run_bind,Sem.run_pure,Result.andThen_ok,List.map_toArray,List.map_cons,List.map_nil,hs,hx,hr]
  exact hK _ _ h
theorem app_ty {t:TypeId} {a b:Value} {w:World} (ty ty':TypeId):(Builtin.append_ #[t,t] ty #[a,b]).run Tryz.prog w=(Builtin.append_ #[t,t] ty' #[a,b]).run Tryz.prog w:=rfl
theorem fsum_up (F:Nat→Pt8) (m:Nat) (q:Pt8):fsum (upP F m q) (m+1)=fsum F m+(4+q.n):=by
 have e:∀ k,k≤m→fsum (upP F m q) k=fsum F k:=fun k=>by
  induction k with
  | zero=>intro _;rfl
  | succ k ih =>
   intro hk
   rw[fsum_step,fsum_step,ih (by omega)]
   unfold upP
   rw[if_neg (by omega)]
 rw[fsum_step,e m (Nat.le_refl _)]
 unfold upP
 rw[if_pos rfl]
def rowq (g n:Nat) (f:Nat→Nat):Pt8:=⟨g,0,n,n,some ⟨g,0,none⟩,f⟩
theorem rowq_ok (g n:Nat) (f:Nat→Nat):Pok (rowq g n f):=⟨Bv.start _ _ _ _,Nat.le_refl _⟩
theorem rec_step {w wr:World} {vv:Value} {n:Nat} {P:Nat→Pt8} (h:Rf w vv n P wr) (hn:n≤1000000) (q:Pt8) (hq:Pq q w) (k:ByteArray) (b:Bool) (mk:Nat) (mi:Int) (hmi:mi=((mk:Nat):Int)) :
  ∃ cap u,(convert 9 40 (.string k)).run Tryz.prog ((wr.alloc (.cells #[.string k,.slice q.p q.n q.cp,.bool b] 65)).alloc (.cells #[.int .u8 mi] 5))=.ok (.slice (some ⟨wr.heap.size+1+1,0,none⟩) k.size cap) u∧u.cell? ⟨wr.heap.size,1,none⟩=some (.slice q.p q.n q.cp) ∧
   ∃ v' u2,(∀ ty,(Builtin.append_ #[131,131] ty #[vv,.slice (some ⟨u.heap.size,0,none⟩) 3 3]).run Tryz.prog (u.alloc (.cells #[.slice (some ⟨wr.heap.size+1,0,none⟩) 1 1,.slice (some ⟨wr.heap.size+1+1,0,none⟩) k.size cap,.slice q.p q.n q.cp] 40))=.ok v' u2) ∧
    ∃ P',Rf w v' (n+3) P' u2∧fls P' (n+3)=fls P n++[[mk],kb k,bs q.n q.f]∧fsum P' (n+3)=fsum P n+(13+k.size+q.n):=by
 subst hmi
 have s1:(wr.alloc (.cells #[.string k,.slice q.p q.n q.cp,.bool b] 65)).heap.size=wr.heap.size+1:=by simp
 have s2:((wr.alloc (.cells #[.string k,.slice q.p q.n q.cp,.bool b] 65)).alloc (.cells #[.int .u8 ((mk:Nat):Int)] 5)).heap.size=wr.heap.size+1+1:=by simp
 have b1:Below wr.heap.size wr (wr.alloc (.cells #[.string k,.slice q.p q.n q.cp,.bool b] 65)):=(Below.refl _ wr).alloc (Nat.le_refl _) _
 have b2:Below wr.heap.size wr ((wr.alloc (.cells #[.string k,.slice q.p q.n q.cp,.bool b] 65)).alloc (.cells #[.int .u8 ((mk:Nat):Int)] 5)):=b1.alloc (by omega) _
 have n1:=al_new wr #[.string k,.slice q.p q.n q.cp,.bool b] 65 1 _ rfl
 have n2:=al_new (wr.alloc (.cells #[.string k,.slice q.p q.n q.cp,.bool b] 65)) #[.int .u8 ((mk:Nat):Int)] 5 0 _ rfl
 rw[s1] at n2
 obtain⟨cap,u,r1,r2,r3,r4,r5⟩:=s2p k ((wr.alloc (.cells #[.string k,.slice q.p q.n q.cp,.bool b] 65)).alloc (.cells #[.int .u8 ((mk:Nat):Int)] 5))
 rw[s2] at r1 r4 r5
 have b3:Below wr.heap.size wr u:=b2.trans (r3.mono (by omega))
 have b4:Below u.heap.size u (u.alloc (.cells #[.slice (some ⟨wr.heap.size+1,0,none⟩) 1 1,.slice (some ⟨wr.heap.size+1+1,0,none⟩) k.size cap,.slice q.p q.n q.cp] 40)):=(Below.refl _ u).alloc (Nat.le_refl _) _
 have b5:=zR _ _ b3 b4
 refine⟨cap,u,r1,?_,?_⟩
 ·rw[r3.cell (p:=⟨wr.heap.size,1,none⟩) (show wr.heap.size<_ by omega),al_old _ _ (show wr.heap.size<_ by omega)]
  exact n1
 have hlo:∀ x∈vbl vv,w.heap.size≤x∧x<wr.heap.size:=fun x hx=>⟨by
  unfold vbl at hx
  cases hv:vv.ownBlock with
  | none=>rw[hv] at hx;simp at hx
  | some k=>rw[hv] at hx;simp at hx;subst hx;exact(World.ownsRow.lt h.own _ hv).1,own_lt h.own x hx⟩
 have c1:Bsd vv (rowq (wr.heap.size+1) 1 (fun _=>mk)) (u.alloc (.cells #[.slice (some ⟨wr.heap.size+1,0,none⟩) 1 1,.slice (some ⟨wr.heap.size+1+1,0,none⟩) k.size cap,.slice q.p q.n q.cp] 40)):=⟨rowq_ok _ _ _,fun e=>(by cases e),⟨fun _=>by show wr.heap.size+1<_;have:=b4.size;omega,fun i hi=>by
  obtain rfl:i=0:=by have:i<1:=hi;omega
  show World.cell? _ ⟨wr.heap.size+1,0+0,none⟩=_
  rw[al_old _ _ (show wr.heap.size+1<_ by omega),r3.cell (p:=⟨wr.heap.size+1,0+0,none⟩) (show wr.heap.size+1<_ by omega)]
  exact n2⟩,fun _ hx=>by have:=(hlo _ hx).2;have e:(rowq (wr.heap.size+1) 1 (fun _=>mk)).gb=wr.heap.size+1:=rfl;omega⟩
 have c2:Bsd vv (⟨wr.heap.size+1+1,0,k.size,cap,some ⟨wr.heap.size+1+1,0,none⟩,fun j=>(k.data.toList.getD j 0).toNat⟩:Pt8) (u.alloc (.cells #[.slice (some ⟨wr.heap.size+1,0,none⟩) 1 1,.slice (some ⟨wr.heap.size+1+1,0,none⟩) k.size cap,.slice q.p q.n q.cp] 40)):=⟨⟨Bv.start _ _ _ _,r2⟩,(fun e=>by cases e),Rs.below r5 b4,fun _ hx=>by have:=(hlo _ hx).2;have e:wr.heap.size+1+1<wr.heap.size:=this;omega⟩
 have c3:Bsd vv q (u.alloc (.cells #[.slice (some ⟨wr.heap.size+1,0,none⟩) 1 1,.slice (some ⟨wr.heap.size+1+1,0,none⟩) k.size cap,.slice q.p q.n q.cp] 40)):=by
  have hw:Below w.heap.size w (u.alloc (.cells #[.slice (some ⟨wr.heap.size+1,0,none⟩) 1 1,.slice (some ⟨wr.heap.size+1+1,0,none⟩) k.size cap,.slice q.p q.n q.cp] 40)):=zR _ _ h.b b5
  have:=hq.below hw
  exact⟨this.1,this.2.1,this.2.2,fun h0 hx=>by have e1:=(hlo _ hx).1;have e2:=hq.2.2.lt h0;omega⟩
 obtain⟨v',u2,a1,a2⟩:=(h.step b5).app3 hn c1 c2 c3 (gs:=u.heap.size) (fun j v hj=>al_new u _ 40 j v (by rw[List.getElem?_toArray];exact hj)) 0
 refine⟨v',u2,fun ty=>(app_ty ty 0).trans a1,_,a2,?_,?_⟩
 ·rw[fls_up,fls_up,fls_up]
  show fls P n++[bs 1 (fun _=>mk)]++[bs k.size _]++[bs q.n q.f]=_
  rw[kb_bs]
  simp[bs]
 ·rw[fsum_up,fsum_up,fsum_up]
  show fsum P n+(4+1)+(4+k.size)+(4+q.n)=_
  omega
theorem Cl.pq {p:Option Addr} {g o m:Nat} {C:Nat→Cq} {u:World} (h:Cl p g o m C u) {i:Nat} (hi:i<m):g<u.heap.size:=h.lt (by omega)
def rsum (C:Nat→Cq):Nat→Nat
 | 0=>4
 | i+1=>rsum C i+(13+(C i).k.size+(C i).q.n)
theorem rsum_step (C:Nat→Cq) (i:Nat):rsum C (i+1)=rsum C i+(13+(C i).k.size+(C i).q.n):=rfl
theorem record_any (p:Option Addr) (m c g o:Nat) (C:Nat→Cq) (hm:m≤64) (hr:rsum C m≤1048576) (w:World) (hl:Cl p g o m C w) (hC:∀ i,i<m→Pq (C i).q w∧(C i).k.size≤128) :
  Calls Tryz.prog 46 #[.slice p m c] w fun e w'=>∃ v,e=.returned (.tuple #[v,.int .i64 0])∧∃ N P,Cw w v N P w'∧bs N P=rc (chl C m):=by
 have HL:Hid _:=hl
 have HC:Hid _:=hC
 clear hl hC
 obtain⟨i0,hi0,hz0,hz1,hz2⟩:=info_sl
 have hmk:∃ w2,(Instr.makeSlice 131 (.int .i64 0) (.int .i64 (3*(m:Int)))).run Tryz.prog w=.ok (.slice (some ⟨w.heap.size,0,none⟩) 0 (3*m)) w2∧Rf w (.slice (some ⟨w.heap.size,0,none⟩) 0 (3*m)) 0 (fun _=>Pt8.no) w2:=by
  obtain⟨w2,h1,h2,h3⟩:=run_make_own (P:=Tryz.prog) w w.heap.size 131 40 i0 (.slice none 0 0) 1 Tryz.underlying131 hi0 hz0 hz1 .i64 .i64 (3*m) (by rw[hz2];omega) (by unfold maxLen;omega) (Nat.le_refl _)
  have e:((3*m:Nat):Int)=3*(m:Int):=by omega
  rw[e] at h1
  exact⟨w2,h1,(Chg.grown h3).toBelow (fun x hx=>by simp at hx) (Nat.le_refl _),h2,fun i hi=>absurd hi (Nat.not_lt_zero _)⟩
 obtain⟨w2,hmk,hR2⟩:=hmk
 have HR2:Hid _:=hR2
 clear hR2
 go_enter Tryz.func46,Tryz.ntmps46
 go_wp2
 go_loopw [4,14] (fun vv v wr=>∃ (i:Nat) (P:Nat→Pt8),v=.int .i64 (i:Int)∧i≤m∧Hid (Rf w vv (3*i) P wr∧fls P (3*i)=(chl C i).flatMap Ch.fs∧fsum P (3*i)=rsum C i))
  (fun _ v _=>m - (RowKit.intOf v).toNat)
 case atStart=>exact⟨0,_,rfl,Nat.zero_le _,HR2.out,rfl,rfl⟩
 case round =>
  obtain⟨i,P,rfl,hi,hh⟩:=hrel
  have hb:=hh.out.1.b
  by_cases hlt:i<m
  ·have hL:=HL.out.below hb
   have hp:=hL.p (by omega)
   have k0:=hL.a0 i hlt
   have k1:=hL.a1 i hlt
   have k2:=hL.a2 i hlt
   have hltI:(i:Int)<m:=by omega
   have hks:=(HC.out i hlt).2
   subst hp
   clear hL
   cases hgn:(C i).gn with
   | true =>
    rw[hgn] at k2
    obtain⟨cap,u,hcv,hld,v',u2,hap,P',hR',hf',hs'⟩:=rec_step hh.out.1 (by omega) (C i).q (HC.out i hlt).1 (C i).k true 1 1 rfl
    have HA:Hid _:=hap
    have HF:Hid (Rf w v' (3*(i+1)) P' u2∧fls P' (3*(i+1))=(chl C (i+1)).flatMap Ch.fs∧fsum P' (3*(i+1))=rsum C (i+1)):=⟨hR',by
     rw[show 3*(i+1)=3*i+3 by omega,hf',hh.out.2.1,chl_snoc,List.flatMap_append]
     congr 1
     unfold Ch.fs Cq.ch
     simp[hgn],by rw[show 3*(i+1)=3*i+3 by omega,hs',hh.out.2.2,rsum_step]⟩
    clear hap hR' hf' hs' hh
    go_wp2_with (first
     | (at_builtin;refine wpl_app rfl _ _ 131 rfl u4 (.slice (some ⟨u.heap.size,0,none⟩) 3 3) v' rfl rfl (HA.out _) ?_)
     | fail)
    go_roundw
    case rel=>exact⟨i+1,P',by simp,by omega,HF⟩
    case measure=>simp[RowKit.intOf];omega
   | false =>
    rw[hgn] at k2
    obtain⟨cap,u,hcv,hld,v',u2,hap,P',hR',hf',hs'⟩:=rec_step hh.out.1 (by omega) (C i).q (HC.out i hlt).1 (C i).k false 0 0 rfl
    have HA:Hid _:=hap
    have HF:Hid (Rf w v' (3*(i+1)) P' u2∧fls P' (3*(i+1))=(chl C (i+1)).flatMap Ch.fs∧fsum P' (3*(i+1))=rsum C (i+1)):=⟨hR',by
     rw[show 3*(i+1)=3*i+3 by omega,hf',hh.out.2.1,chl_snoc,List.flatMap_append]
     congr 1
     unfold Ch.fs Cq.ch
     simp[hgn],by rw[show 3*(i+1)=3*i+3 by omega,hs',hh.out.2.2,rsum_step]⟩
    clear hap hR' hf' hs' hh
    go_wp2_with (first
     | (at_builtin;refine wpl_app rfl _ _ 131 rfl u4 (.slice (some ⟨u.heap.size,0,none⟩) 3 3) v' rfl rfl (HA.out _) ?_)
     | fail)
    go_roundw
    case rel=>exact⟨i+1,P',by simp,by omega,HF⟩
    case measure=>simp[RowKit.intOf];omega
  ·obtain rfl:i=m:=by omega
   obtain⟨pl,cl,gl,rfl,hlv⟩:=Lq.lv (B:=0) (P:=P) ⟨own_base hh.out.1.own (Nat.zero_le _),fun j hj=>⟨(hh.out.1.ok j hj).1,(hh.out.1.ok j hj).2.1,(hh.out.1.ok j hj).2.2.1,fun _=>Nat.zero_le _⟩⟩
   have HFi:Hid _:=Fields_any pl (3*i) cl gl 0 P (by omega) (by rw[hh.out.2.2];exact hr) wr hlv
   have HF:Hid _:=hh.out.2.1
   clear hlv hh
   go_wp2_with (first
    | (go_at_call 104;refine Calls.mono HFi.out ?_;rintro e w5 ⟨v,rfl,N,Q,hcw,hbs⟩)
    | fail)
   go_ret2
   exact⟨v,rfl,N,Q,Cw.up hb hcw,by rw[hbs,HF.out];rfl⟩
end Wi
end Rg
end Go.Proofs.YtmcpagjhpfbpgaaGreatDoor
end
section
namespace Go.Proofs.YtmcpagjhpfbpgaaGreatDoor
open Go.RowKit
namespace Rg
namespace Wi
set_option maxRecDepth 100000
open Go.Shelf Go.Maps
def RC:Value→Option (DataW Nat×List MemPlace)
  | .agg ⟨[.string _,.slice _ _ _,.bool _]⟩=>some (.nil,[])
  | _=>none
structure Cv where
  k:ByteArray
  p:Option Addr
  n:Nat
  c:Nat
  g:Bool
def cqv (c:Cv):Value:=.agg #[.string c.k,.slice c.p c.n c.c,.bool c.g]
theorem RC_cqv (c:Cv):RC (cqv c)=some (.nil,[]):=rfl
theorem RC_inv (v:Value) (y:DataW Nat×List MemPlace) (h:RC v=some y):∃ c,v=cqv c:=by
  unfold RC at h
  split at h
  · exact⟨⟨_,_,_,_,_⟩,rfl⟩
  · cases h
theorem mk165 (u:World):(Instr.makeMap 165 none).run Tryz.prog u=.ok (.map (some u.heap.size)) (u.alloc (.map #[] 0)):=by
  simp[run_makeMap]
theorem ranges_kc {w w':World} {b r n cnt:Nat} {D:DataW Nat} {left:Lit→Bool} (h:w.ranges Tryz.prog 9 RC b r n D left cnt) (hb:w'.heap[b]?=w.heap[b]?) (hr:w'.heap[r]?=w.heap[r]?):w'.ranges Tryz.prog 9 RC b r n D left cnt:=by
  obtain⟨es,clock,since,seen,c0,h1,F,hs,hD,h2,rest⟩:=h
  exact⟨es,clock,since,seen,c0,hb.trans h1,F,hs,hD,hr.trans h2,rest⟩
theorem count_any (g mv N : Nat) (V : ByteArray → Option Vq) (p : Option Addr) (m c gl o : Nat) (C : Nat → Cq) (hm : m ≤ 64) (hN : N ≤ 4000) (w : World) (c4 : w.cell? ⟨g, 4, none⟩ = some (.map (some mv))) (hg : g < w.heap.size) (hl : Cl p gl o m C w) (hV : Vm w mv V N) (hk : ∀ i, i < m → (C i).k.size ≤ 128) :
    Calls Tryz.prog 45 #[PT g 0,.slice p m c] w fun e w'=>(∃ n:Int,e=.returned (.int .i64 n)∧¬4096<n)∧Below w.heap.size w w':=by
  have HL:Hid _:=hl
  have HV:Hid _:=hV
  clear hl hV
  have K:Keyed Tryz.prog 9:=Maps.string_keyed Tryz.underlying9
  go_enter Tryz.func45,Tryz.ntmps45
  go_wp2
  rw[mk165,Result.andThen_ok]
  go_wp2
  go_loopw [16] (fun v wr=>∃ i X,v=.int .i64 ((i:Nat):Int)∧i≤m∧Hid (Below w.heap.size w wr∧wr.ownsMap Tryz.prog 9 RC w.heap.size i X∧Maps.size X≤i))
    (fun v _=>m - (RowKit.intOf v).toNat)
  case atStart=>exact⟨0,_,rfl,Nat.zero_le _,(Below.refl _ w).alloc (Nat.le_refl _) _,World.ownsMap_made _ _ _ _,Nat.le_refl _⟩
  case round =>
    obtain⟨i,X,rfl,hi,hh⟩:=hrel
    by_cases hlt:i<m
    · have hL:=HL.out.below hh.out.1
      have hp:=hL.p (by omega)
      have k0:=hL.a0 i hlt
      have k1:=hL.a1 i hlt
      have k2:=hL.a2 i hlt
      have hltI:(i:Int)<m:=by omega
      have hks:=hk i hlt
      subst hp
      clear hL
      have hup:∃ u,(Instr.mapUpdate 165 (.map (some w.heap.size)) (.string (C i).k) (.agg #[.string (C i).k,.slice (C i).q.p (C i).q.n (C i).q.cp,.bool (C i).gn])).run Tryz.prog (wr.alloc (.cells #[.string (C i).k,.slice (C i).q.p (C i).q.n (C i).q.cp,.bool (C i).gn] 65))=.ok () u∧∃ X',Below w.heap.size w u∧u.ownsMap Tryz.prog 9 RC w.heap.size (i+1) X'∧Maps.size X'≤i+1:=by
        obtain⟨h1,h2,h3⟩:=hh.out
        have h2':=zQ h2 (((Below.refl _ wr).alloc (Nat.le_refl _) (.cells #[.string (C i).k,.slice (C i).q.p (C i).q.n (C i).q.cp,.bool (C i).gn] 65)).block _ h2.lt)
        obtain⟨u,r1,r2,r3⟩:=h2'.update K Tryz.underlying165 (show i<maxLen by unfold maxLen;omega) (WideMaps.keyOf_string_mk Tryz.underlying9 (Nat.le_trans hks (by decide))) (RC_cqv ⟨(C i).k,(C i).q.p,(C i).q.n,(C i).q.cp,(C i).gn⟩)
        refine⟨u,r1,_,?_,r2,?_⟩
        · have hb2:=zR _ _ h1 ((Below.refl _ wr).alloc (Nat.le_refl _) (.cells #[.string (C i).k,.slice (C i).q.p (C i).q.n (C i).q.cp,.bool (C i).gn] 65))
          exact hb2.trans ((Chg.grown r3).toBelow (fun x hx=>by simp at hx;omega) hb2.size)
        · rw[Maps.size_put (h2.tidy K)]
          split <;> omega
      obtain⟨u,hr,X',hX'⟩:=hup
      have HX:Hid _:=hX'
      clear hX' hh
      go_wp2
      go_roundw
      case rel=>exact⟨i+1,X',by simp,by omega,HX⟩
      case measure=>simp[RowKit.intOf];omega
    · obtain rfl:i=m:=by omega
      have HB:Hid _:=hh.out.1
      have hown:=hh.out.2.1
      have hsz:=hh.out.2.2
      have k4:=(HB.out.cell (p:=⟨g,4,none⟩) hg).trans c4
      clear hh
      have hVl:=Vm.len (HV.out.below HB.out)
      go_wp2_with (first
        | (at_range;refine wpList_range_own _ rfl _ 165 rfl 9 65 K Tryz.underlying165 RC w.heap.size i X rfl hown ?_;intro w0 hrg0 hg0 hs0)
        | fail)
      clear hVl
      go_frame
      have hB0:Hid (Below w.heap.size w w0):=HB.out.trans ((Chg.grown hg0).toBelow (fun x hx=>by simp at hx) HB.out.size)
      obtain⟨r,hrr⟩:∃ r,r=wr.heap.size:=⟨_,rfl⟩
      have hlt0:w.heap.size≤r:=by rw[hrr];exact HB.out.size
      rw[← hrr] at hrg0 ⊢
      clear hrr
      go_loopw [8] (fun v wr2=>∃ (z:Int) (left:Lit→Bool) (cnt:Nat),v=.int .i64 z∧z≤(N:Int)+i - cnt∧(cnt:Int) - i≤z∧cnt≤i∧wr2.ranges Tryz.prog 9 RC w.heap.size r i X left cnt∧Hid (Below w.heap.size w wr2))
        (fun _ wr2=>wr2.rangeLeft w.heap.size r)
      case atStart=>exact⟨(N:Int),_,_,rfl,by omega,by omega,hsz,hrg0,hB0.out⟩
      case round =>
        obtain⟨z,left,cnt,rfl,hz1,hz2,hcn,hrg,hb⟩:=hrel
        go_wp2_with (first
          | (at_next;refine wpList_next_ranges _ rfl _ rfl 9 K RC Value.string cqv (fun key kl h=>(key_string h).imp fun _ q=>q.1) RC_inv w.heap.size r i X _ _ rfl hrg ?_ ?_)
          | fail)
        · intro _ hl0
          go_wp2
          go_ret
          exact⟨⟨z,rfl,by omega⟩,hb.out⟩
        · intro x c kl yd yp w1 cnt1 hkey hlx hv hat hrg1 hlt hg1 hs1 hen
          obtain⟨ck,cp,cn,cc,cg⟩:=c
          have hb1:Hid (Below w.heap.size w w1):=hb.out.trans ((Chg.grown hg1).toBelow (fun x hx=>by simp at hx;omega) hb.out.size)
          have hxs:x.size≤maxLen:=by obtain⟨s,e1,_,e3⟩:=key_string hkey;cases e1;exact e3
          unfold cqv at hen
          have k4:=(hb1.out.cell (p:=⟨g,4,none⟩) hg).trans c4
          have hgw:g<wr.heap.size:=by rw[← hs1];exact Nat.lt_of_lt_of_le hg hb1.out.size
          have hB2:Hid (Below w1.heap.size w1 (w1.alloc (.cells #[.string ck,.slice cp cn cc,.bool cg] 65))):=(Below.refl _ w1).alloc (Nat.le_refl _) _
          have hlk:=(HV.out.below (zR _ _ hb1.out hB2.out)).lookok x hxs
          have hrg2:Hid ((w1.alloc (.cells #[.string ck,.slice cp cn cc,.bool cg] 65)).ranges Tryz.prog 9 RC w.heap.size r i X (fun z=>left z && !z.sameKey kl) cnt1):=ranges_kc hrg1 (hB2.out.block _ hrg1.owns.lt) (hB2.out.block _ hrg1.lt)
          have hB3:Hid (Below w.heap.size w (w1.alloc (.cells #[.string ck,.slice cp cn cc,.bool cg] 65))):=zR _ _ hb1.out hB2.out
          have hms:Hid ((w1.alloc (.cells #[.string ck,.slice cp cn cc,.bool cg] 65)).rangeLeft w.heap.size r<wr.rangeLeft w.heap.size r):=show _<_ by rw[hrg2.out.left_eq,hrg.left_eq];exact hlt
          clear hB2 hb1 hv hat
          generalize hvv:vvl (V x)=vv at hlk
          cases hV:(V x).isSome <;> rw[hV] at hlk <;> cases cg
          all_goals go_wp2
          all_goals go_roundw
          all_goals (first
            | exact hms.out
            | exact⟨_,_,cnt1,rfl,by omega,by omega,by omega,hrg2.out,hB3⟩
           )
end Wi
end Rg
end Go.Proofs.YtmcpagjhpfbpgaaGreatDoor
end
section
namespace Go.Proofs.YtmcpagjhpfbpgaaGreatDoor
open Go.RowKit
namespace Rg
namespace Wi
set_option maxRecDepth 100000
theorem Vb.keep {Q:Nat→Prop} {u u':World} {mv N:Nat} {B:ByteArray→Option (List Nat)} (h:Vb Q u mv B N) (hm:u'.heap[mv]?=u.heap[mv]?) (hQ:∀ b,Q b→u'.heap[b]?=u.heap[b]?):Vb Q u' mv B N:=by
 obtain⟨V,M,h1,h2,h3,h4⟩:=h
 exact⟨V,M,h1.keep hm fun s x hx b hb=>hQ b ((h4 s x hx).2 b hb),h2,h3,h4⟩
theorem Vb.wide {Q Q':Nat→Prop} {u:World} {mv N:Nat} {B:ByteArray→Option (List Nat)} (h:Vb Q u mv B N) (hQ:∀ b,Q b→Q' b):Vb Q' u mv B N:=by
 obtain⟨V,M,h1,h2,h3,h4⟩:=h
 exact⟨V,M,h1,h2,h3,fun s x hx=>⟨(h4 s x hx).1,fun b hb=>hQ b ((h4 s x hx).2 b hb)⟩⟩
theorem Vb.lt {Q:Nat→Prop} {u:World} {mv N:Nat} {B:ByteArray→Option (List Nat)} (h:Vb Q u mv B N):mv<u.heap.size:=by
 obtain⟨V,M,h1,_⟩:=h
 exact h1.lt
structure Sy (w0:World) (d:Nat) (A:Ad) (g mv:Nat) (base:ByteArray) (G:Int) (B:ByteArray→Option (List Nat)) (N:Nat) (O L:List Nat) (u:World):Prop where
 da:Da w0 d A (O++L) u
 c0:u.cell? ⟨g,0,none⟩=some (PT d 0)
 c1:u.cell? ⟨g,1,none⟩=some (.string base)
 c3:u.cell? ⟨g,3,none⟩=some (.int .i64 G)
 c4:u.cell? ⟨g,4,none⟩=some (.map (some mv))
 fz:∀ k,u.frozen? ⟨g,k,none⟩=false
 vb:Vb (fun b=>b∈O) u mv B N
 lo:∀ x∈O,w0.heap.size≤x
 og:g∈O
 om:mv∈O
 gm:g≠mv
 ap:∀ x∈O,x∉L
section
variable {w0 u u':World} {d g mv N:Nat} {A A':Ad} {base:ByteArray} {G:Int} {B:ByteArray→Option (List Nat)} {O L:List Nat}
theorem Sy.gl (h:Sy w0 d A g mv base G B N O L u):g<u.heap.size:=h.da.lt (List.mem_append_left _ h.og)
theorem Sy.kx (h:Sy w0 d A g mv base G B N O L u) (ha:Da w0 d A' (O++L) u') (hk:Kx O u u'):Sy w0 d A' g mv base G B N O L u':=by
 have hg:∀ k,u'.cell? ⟨g,k,none⟩=u.cell? ⟨g,k,none⟩:=fun k=>World.cell?_of_block (hk.2 g h.og)
 exact⟨ha,(hg 0).trans h.c0,(hg 1).trans h.c1,(hg 3).trans h.c3,(hg 4).trans h.c4,fun k=>(World.frozen?_of_block (hk.2 g h.og)).trans (h.fz k),h.vb.keep (hk.2 mv h.om) fun b hb=>hk.2 b hb,h.lo,h.og,h.om,h.gm,h.ap⟩
theorem Sy.below (h:Sy w0 d A g mv base G B N O L u) (hb:Below u.heap.size u u'):Sy w0 d A g mv base G B N O L u'∧Kx L u u' :=
 ⟨h.kx (h.da.step hb) ((h.da.kx hb).sub fun _x hx=>List.mem_append_left _ hx),(h.da.kx hb).sub fun _x hx=>List.mem_append_right _ hx⟩
theorem Sy.mono (h:Sy w0 d A g mv base G B N O L u) {N':Nat} (h2:N≤N'):Sy w0 d A g mv base G B N' O L u :=
 ⟨h.da,h.c0,h.c1,h.c3,h.c4,h.fz,h.vb.mono h2,h.lo,h.og,h.om,h.gm,h.ap⟩
theorem Sy.sub (h:Sy w0 d A g mv base G B N O L u) {L':List Nat} (hs:∀ x∈L',x∈L):Sy w0 d A g mv base G B N O L' u :=
 ⟨h.da.sub fun x hx=>List.mem_append.2 ((List.mem_append.1 hx).imp_right (hs x)),h.c0,h.c1,h.c3,h.c4,h.fz,h.vb,h.lo,h.og,h.om,h.gm,fun x hx hm=>h.ap x hx (hs x hm)⟩
theorem Sy.add (h:Sy w0 d A g mv base G B N O L u) (hb:Below u.heap.size u u') {M:List Nat} (hn:∀ x∈M,u.heap.size≤x∧x<u'.heap.size):Sy w0 d A g mv base G B N O (M++L) u':=by
 have h1:=(h.below hb).1
 refine⟨(h.da.add hb hn).sub fun x hx => ?_,h1.c0,h1.c1,h1.c3,h1.c4,h1.fz,h1.vb,h1.lo,h1.og,h1.om,h1.gm,fun x hx hm => ?_⟩
 ·simp only[List.mem_append] at hx ⊢
  rcases hx with e | e | e
  ·exact .inr (.inl e)
  ·exact .inl e
  ·exact .inr (.inr e)
 ·rcases List.mem_append.1 hm with e | e
  ·have:=(hn x e).1
   have:=h.da.lt (List.mem_append_left _ hx)
   omega
  ·exact h.ap x hx e
theorem Sy.did (h:Sy w0 d A g mv base G B N O L u) (hc:Chg [mv] u u') {B':ByteArray→Option (List Nat)} {N':Nat} (hv:Vb (fun b=>b∈O∨u.heap.size≤b) u' mv B' N'):(∃ O',Sy w0 d A g mv base G B' N' O' L u')∧Kx L u u':=by
 have hgm:g∉[mv]:=fun e=>h.gm (List.mem_singleton.1 e)
 have hg:∀ k,u'.cell? ⟨g,k,none⟩=u.cell? ⟨g,k,none⟩:=fun k=>hc.cell (p:=⟨g,k,none⟩) h.gl hgm
 have hlo0:w0.heap.size≤u.heap.size:=h.da.b.size
 have hmlo:∀ x∈[mv],w0.heap.size≤x:=fun x hx=>by rw[List.mem_singleton.1 hx];exact h.lo _ h.om
 have hkx:Kx L u u':=hc.kx (fun x hx=>h.da.lt (List.mem_append_right _ hx)) (fun x hx hm=>h.ap mv h.om (by rw[← List.mem_singleton.1 hm];exact hx))
 obtain⟨V,M,v1,v2,v3,v4⟩:=hv
 have hda:Da w0 d A ((O++List.range' u.heap.size (u'.heap.size - u.heap.size))++L) u':=by
  obtain⟨D,h1,h2,h3,h4⟩:=h.da
  refine⟨D,⟨h1.b.trans (hc.toBelow hmlo h1.b.size),h1.dk.chg hc fun x hx=>by rw[List.mem_singleton.1 hx];exact(h4 _ (List.mem_append_left _ h.om)).2,h1.lo⟩,h2,h3,fun x hx => ?_⟩
  have key:x∈O++L∨(u.heap.size≤x∧x<u'.heap.size):=by
   simp only[List.mem_append,List.mem_range'_1] at hx ⊢
   have:=hc.size
   rcases hx with (e | e) | e
   ·exact .inl (.inl e)
   ·exact .inr (by omega)
   ·exact .inl (.inr e)
  rcases key with e | ⟨e1,e2⟩
  ·exact⟨Nat.lt_of_lt_of_le (h4 x e).1 hc.size,(h4 x e).2⟩
  ·exact⟨e2,fun hm=>absurd (h1.dk.blt x hm) (Nat.not_lt.2 e1)⟩
 refine⟨⟨O++List.range' u.heap.size (u'.heap.size - u.heap.size),hda,(hg 0).trans h.c0,(hg 1).trans h.c1,(hg 3).trans h.c3,(hg 4).trans h.c4,fun k=>(hc.frozen (p:=⟨g,k,none⟩) h.gl hgm).trans (h.fz k),⟨V,M,v1,v2,v3,fun t x hx=>⟨(v4 t x hx).1,fun b hb => ?_⟩⟩,fun x hx => ?_,List.mem_append_left _ h.og,List.mem_append_left _ h.om,h.gm,fun x hx hm => ?_⟩,hkx⟩
 ·have hlt:=own_lt (v1.ow t x hx) b hb
  rcases (v4 t x hx).2 b hb with e | e
  ·exact List.mem_append_left _ e
  ·refine List.mem_append_right _ ?_
   rw[List.mem_range'_1]
   omega
 ·rcases List.mem_append.1 hx with e | e
  ·exact h.lo _ e
  ·rw[List.mem_range'_1] at e
   omega
 ·rcases List.mem_append.1 hx with e | e
  ·exact h.ap _ e hm
  ·rw[List.mem_range'_1] at e
   have:=h.da.lt (List.mem_append_right _ hm)
   omega
end
def So (w0:World) (d:Nat) (A:Ad) (g j mv:Nat) (base s:ByteArray) (G:Int) (nb:Nat) (B:ByteArray→Option (List Nat)) (N:Nat) (L0:List Nat) (u:World):Prop :=
 (∃ O,Sy w0 d A g mv base G B N O (j :: L0) u)∧u.cell? ⟨g,2,none⟩=some (PT j 0)∧(∃ c z,c≤nb∧z≤nb∧Mm u [(j,jc d s c z)])∧w0.heap.size≤j∧j∉L0
section
variable {w0 u u':World} {d g j mv nb N:Nat} {A A':Ad} {base s:ByteArray} {G:Int} {B:ByteArray→Option (List Nat)} {L0:List Nat}
theorem So.da (h:So w0 d A g j mv base s G nb B N L0 u):Da w0 d A L0 u:=by
 obtain⟨⟨O,h1⟩,_⟩:=h
 exact h1.da.sub fun x hx=>List.mem_append_right _ (List.mem_cons_of_mem _ hx)
theorem So.below (h:So w0 d A g j mv base s G nb B N L0 u) (hb:Below u.heap.size u u'):So w0 d A g j mv base s G nb B N L0 u'∧Kx L0 u u':=by
 obtain⟨⟨O,h1⟩,h2,⟨c,z,h3,h4,h5⟩,h6,h7⟩:=h
 exact⟨⟨⟨O,(h1.below hb).1⟩,(hb.cell (p:=⟨g,2,none⟩) h1.gl).trans h2,⟨c,z,h3,h4,h5.below hb⟩,h6,h7⟩,(h1.below hb).2.sub fun x hx=>List.mem_cons_of_mem _ hx⟩
theorem So.mono (h:So w0 d A g j mv base s G nb B N L0 u) {nb' N':Nat} (h1:nb≤nb') (h2:N≤N'):So w0 d A g j mv base s G nb' B N' L0 u:=by
 obtain⟨⟨O,k1⟩,k2,⟨c,z,k3,k4,k5⟩,k6⟩:=h
 exact⟨⟨O,k1.mono h2⟩,k2,⟨c,z,by omega,by omega,k5⟩,k6⟩
theorem So.dj (h:So w0 d A g j mv base s G nb B N L0 u):∃ O,Da w0 d A (j :: (O++L0)) u∧j∉O++L0∧∀ u' A' nb',Jst w0 d j A' (O++L0) u u'→(∃ c z,c≤nb'∧z≤nb'∧Mm u' [(j,jc d s c z)])→So w0 d A' g j mv base s G nb' B N L0 u'∧Kx L0 u u':=by
 obtain⟨⟨O,h1⟩,h2,h3,h6,h7⟩:=h
 refine⟨O,h1.da.sub fun x hx => ?_,fun hm=>(List.mem_append.1 hm).elim (fun e=>h1.ap j e (List.mem_cons_self ..)) h7,fun u' A' nb' hj hm=>⟨⟨⟨O,h1.kx (hj.1.sub fun x hx => ?_) (hj.2.sub fun x hx=>List.mem_append_left _ hx)⟩,?_,hm,h6,h7⟩,hj.2.sub fun x hx=>List.mem_append_right _ hx⟩⟩
 ·simp only[List.mem_cons,List.mem_append] at hx ⊢
  rcases hx with e | e | e
  ·exact .inr (.inl e)
  ·exact .inl e
  ·exact .inr (.inr e)
 ·simp only[List.mem_cons,List.mem_append] at hx ⊢
  rcases hx with e | e | e
  ·exact .inr (.inl e)
  ·exact .inl e
  ·exact .inr (.inr e)
 ·exact(World.cell?_of_block (hj.2.2 g (List.mem_append_left _ h1.og))).trans h2
theorem So.app (h:So w0 d A g j mv base s G nb B N L0 u) (hk:A.k<1000000000) (ho:∀ f∈A.fs,f.ops.length<1000000) (hs:s.size≤281474976710656) (hnb:nb≤1000000000000) (q:Pt8) (hq:Pq q u) (hL:q.n≤65536) (r:Int) (A':Ad) (ha:A.app s (fr (bs q.n q.f))=(r,A')) :
  Calls Tryz.prog 47 #[PT j 0,.slice q.p q.n q.cp] u fun e u'=>e=.returned (.int .i64 r)∧So w0 d A' g j mv base s G (nb+70000) B N L0 u'∧Kx L0 u u':=by
 obtain⟨O,h1,h2,h3⟩:=h.dj
 obtain⟨_,_,⟨c,z,k3,k4,k5⟩,k6,_⟩:=h
 refine(japp_a h1 h2 k6 hk ho hs k5 (by omega) (by omega) q hq hL r A' ha).mono fun e u' hh => ?_
 obtain⟨e1,⟨c',z',e2,e3,e4⟩,e5⟩:=hh
 exact⟨e1,h3 u' A' (nb+70000) e5 ⟨c',z',by omega,by omega,e4⟩⟩
theorem So.jsy (h:So w0 d A g j mv base s G nb B N L0 u) (hk:A.k<1000000000) (hs:s.size≤281474976710656) (r:Int) (A':Ad) (ha:A.jsy s=(r,A')) :
  Calls Tryz.prog 49 #[PT j 0] u fun e u'=>e=.returned (.int .i64 r)∧So w0 d A' g j mv base s G nb B N L0 u'∧Kx L0 u u':=by
 obtain⟨O,h1,h2,h3⟩:=h.dj
 obtain⟨_,_,⟨c,z,k3,k4,k5⟩,k6,_⟩:=h
 refine(jsync_a h1 h2 hk hs k5 r A' ha).mono fun e u' hh => ?_
 exact⟨hh.1,h3 u' A' nb hh.2.2 ⟨c,z,k3,k4,hh.2.1⟩⟩
theorem So.sync (h:So w0 d A g j mv base s G nb B N L0 u) (hk:A.k<1000000000) (hs:s.size≤281474976710656) (r:Int) (A':Ad) (ha:A.jsy s=(r,A')) :
  Calls Tryz.prog 14 #[PT g 0] u fun e u'=>e=.returned (.int .i64 r)∧So w0 d A' g j mv base s G nb B N L0 u'∧Kx L0 u u' :=
 ssync_any g j r (fun u'=>So w0 d A' g j mv base s G nb B N L0 u'∧Kx L0 u u') u h.2.1 (h.jsy hk hs r A' ha)
end
end Wi
end Rg
end Go.Proofs.YtmcpagjhpfbpgaaGreatDoor
end
section
namespace Go.Proofs.YtmcpagjhpfbpgaaGreatDoor
open Go.RowKit
namespace Rg
namespace Wi
set_option maxRecDepth 100000
theorem ferr_fit (C:Nat→Cq):∀ {m:Nat},ferr C m=0→∀ i,i<m→(C i).fit=0
 | 0,_,i,hi=>absurd hi (Nat.not_lt_zero _)
 | m+1,h,i,hi=>by
  have h':(if ferr C m=0 then (C m).fit else ferr C m)=0:=h
  by_cases e:ferr C m=0
  ·rw[if_pos e] at h'
   by_cases e2:i=m
   ·rw[e2];exact h'
   ·exact ferr_fit C e i (by omega)
  ·rw[if_neg e] at h'
   exact absurd h' e
theorem fit_b {c:Cq} (h:c.fit=0):c.k.size≤128∧c.q.n≤8192∧0<c.k.size∧(c.gn=true→c.q.n=0):=by
 unfold Cq.fit at h
 by_cases h1:c.k.size=0∨(c.gn=true∧0<c.q.n)
 ·rw[if_pos h1] at h;cases h
 ·rw[if_neg h1] at h
  by_cases h2:128<c.k.size∨8192<c.q.n
  ·rw[if_pos h2] at h;cases h
  ·refine⟨by omega,by omega,?_,fun e => ?_⟩
   ·rcases Nat.eq_zero_or_pos c.k.size with e | e
    ·exact absurd (.inl e) h1
    ·exact e
   ·rcases Nat.eq_zero_or_pos c.q.n with e2 | e2
    ·exact e2
    ·exact absurd (.inr ⟨e,e2⟩) h1
theorem rc_len (C:Nat→Cq):∀ m,(rc (chl C m)).length≤rsum C m:=fun m=>by
 have key:∀ m,4+(wfs ((chl C m).flatMap Ch.fs)).length=rsum C m:=fun m=>by
  induction m with
  | zero=>rfl
  | succ m ih =>
   rw[chl_snoc,List.flatMap_append,rsum_step,← ih]
   have e1:∀ a b:List (List Nat),wfs (a++b)=wfs a++wfs b:=fun a b=>by simp[wfs]
   rw[e1,List.length_append]
   have e2:(wfs ([(C m).ch].flatMap Ch.fs)).length=13+(C m).k.size+(C m).q.n:=by
    show (wfs ((C m).ch.fs++[])).length=_
    rw[List.append_nil]
    unfold Ch.fs wfs
    simp only[List.map_cons,List.map_nil,List.flatten_cons,List.flatten_nil,List.length_append,wn_len,kb_len,List.length_cons,List.length_nil,Cq.ch,bs_len]
    omega
   omega
 unfold rc wf
 rw[List.length_append,wn_len]
 exact Nat.le_of_eq (key m)
structure Ca (w0:World) (L0:List Nat) (p:Option Addr) (g o m:Nat) (C:Nat→Cq) (u:World):Prop where
 cl:Cl p g o m C u
 gb:0<m→(g∈L0∨g<w0.heap.size)
 pq:∀ i,i<m→Pq (C i).q u
 qb:∀ i,i<m→∀ x∈gbl (C i).q,x∈L0∨x<w0.heap.size
section
variable {w0 u u':World} {d g j mv nb N gl o m:Nat} {A A':Ad} {base s:ByteArray} {G:Int} {B:ByteArray→Option (List Nat)} {L0:List Nat} {p:Option Addr} {C:Nat→Cq}
theorem Ca.to (h:Ca w0 L0 p gl o m C u) (hk:Kx L0 u u') (hold:∀ x,x<w0.heap.size→u'.heap[x]?=u.heap[x]?):Ca w0 L0 p gl o m C u':=by
 have key:∀ x,(x∈L0∨x<w0.heap.size)→u'.heap[x]?=u.heap[x]?:=fun x hx=>hx.elim (hk.2 x) (hold x)
 refine⟨⟨h.cl.p,fun h0=>Nat.lt_of_lt_of_le (h.cl.lt h0) hk.1,fun i hi => ?_,fun i hi => ?_,fun i hi => ?_⟩,h.gb,fun i hi => ?_,h.qb⟩
 ·exact(World.cell?_of_block (a:=⟨gl,_,none⟩) (key gl (h.gb (by omega)))).trans (h.cl.a0 i hi)
 ·exact(World.cell?_of_block (a:=⟨gl,_,none⟩) (key gl (h.gb (by omega)))).trans (h.cl.a1 i hi)
 ·exact(World.cell?_of_block (a:=⟨gl,_,none⟩) (key gl (h.gb (by omega)))).trans (h.cl.a2 i hi)
 ·exact(h.pq i hi).kx (M:=gbl (C i).q) ⟨hk.1,fun x hx=>key x (h.qb i hi x hx)⟩ fun _ hx=>hx
theorem Ca.below (h:Ca w0 L0 p gl o m C u) (hd:Da w0 d A L0 u) (hb:Below u.heap.size u u'):Ca w0 L0 p gl o m C u' :=
 h.to (hd.kx hb) fun x hx=>hb.block x (Nat.lt_of_lt_of_le hx hd.b.size)
theorem So.did (h:So w0 d A g j mv base s G nb B N L0 u) (hN:N≤1000000) (c:Nat) (hm:m≤64) (hca:Ca w0 L0 p gl o m C u) (hC:∀ i,i<m→(C i).fit=0) :
  Calls Tryz.prog 48 #[PT g 0,.slice p m c] u fun e u'=>e=.returned (.tuple #[])∧So w0 d A g j mv base s G nb (bdo B C m) (N+m) L0 u'∧Kx L0 u u':=by
 obtain⟨⟨O,h1⟩,h2,⟨cc,z,k3,k4,k5⟩,k6,k7⟩:=h
 have hmv:∀ x,(x∈L0∨x<w0.heap.size)→x≠mv:=fun x hx e=>by
  rcases hx with e2 | e2
  ·exact h1.ap mv h1.om (by rw[← e];exact List.mem_cons_of_mem _ e2)
  ·have:=h1.lo mv h1.om
   omega
 by_cases hm0:m=0
 ·subst hm0
  refine(do_any (fun b=>b∈O∨u.heap.size≤b) g mv N B p 0 c (mv+1) o C (by decide) hN u h1.c4 ⟨h1.gl,h1.gm⟩ ⟨fun h=>absurd h (Nat.lt_irrefl _),fun h=>absurd h (Nat.lt_irrefl _),fun i hi=>absurd hi (Nat.not_lt_zero _),fun i hi=>absurd hi (Nat.not_lt_zero _),fun i hi=>absurd hi (Nat.not_lt_zero _)⟩ (by omega) (fun i hi=>absurd hi (Nat.not_lt_zero _)) (h1.vb.wide fun b hb=>.inl hb) h1.vb.lt (fun b hb=>.inr hb)).mono fun e u' hh => ?_
  obtain⟨e1,e2,e3⟩:=hh
  obtain⟨f1,f2⟩:=h1.did e2 e3
  exact⟨e1,⟨f1,(e2.cell (p:=⟨g,2,none⟩) h1.gl (fun e=>h1.gm (List.mem_singleton.1 e))).trans h2,⟨cc,z,k3,k4,Mm.keep1 k5 f2.1 (f2.2 j (List.mem_cons_self ..))⟩,k6,k7⟩,f2.sub fun x hx=>List.mem_cons_of_mem _ hx⟩
 ·refine(do_any (fun b=>b∈O∨u.heap.size≤b) g mv N B p m c gl o C hm hN u h1.c4 ⟨h1.gl,h1.gm⟩ hca.cl (hmv gl (hca.gb (by omega))) (fun i hi=>⟨hca.pq i hi,fun hx=>hmv mv (hca.qb i hi mv hx) rfl,(fit_b (hC i hi)).2.1,(fit_b (hC i hi)).1⟩) (h1.vb.wide fun b hb=>.inl hb) h1.vb.lt (fun b hb=>.inr hb)).mono fun e u' hh => ?_
  obtain⟨e1,e2,e3⟩:=hh
  obtain⟨f1,f2⟩:=h1.did e2 e3
  exact⟨e1,⟨f1,(e2.cell (p:=⟨g,2,none⟩) h1.gl (fun e=>h1.gm (List.mem_singleton.1 e))).trans h2,⟨cc,z,k3,k4,Mm.keep1 k5 f2.1 (f2.2 j (List.mem_cons_self ..))⟩,k6,k7⟩,f2.sub fun x hx=>List.mem_cons_of_mem _ hx⟩
theorem So.count (h:So w0 d A g j mv base s G nb B N L0 u) (hN:N≤4000) (c:Nat) (hm:m≤64) (hl:Cl p gl o m C u) (hC:∀ i,i<m→(C i).fit=0) :
  Calls Tryz.prog 45 #[PT g 0,.slice p m c] u fun e w'=>(∃ n:Int,e=.returned (.int .i64 n)∧¬4096<n)∧Below u.heap.size u w':=by
 obtain⟨⟨O,h1⟩,_⟩:=h
 obtain⟨V,M,v1,v2,_⟩:=h1.vb
 exact count_any g mv M V p m c gl o C hm (by omega) u h1.c4 h1.gl hl v1 fun i hi=>(fit_b (hC i hi)).1
theorem So.commit (h:So w0 d A g j mv base s G nb B N L0 u) (c:Nat) (hm:m≤64) (hca:Ca w0 L0 p gl o m C u) (hf:ferr C m=0) (hN:N≤4000) (hr:rsum C m≤65536) (hk:A.k<1000000000) (ho:∀ f∈A.fs,f.ops.length<1000000) (hs:s.size≤281474976710656) (hnb:nb≤1000000000000) (r:Int) (A':Ad) (ha:A.app s (fr (rc (chl C m)))=(r,A')) :
  Calls Tryz.prog 13 #[PT g 0,.slice p m c] u fun e u'=>e=.returned (.int .i64 r)∧So w0 d A' g j mv base s G (nb+70000) (if r=0 then bdo B C m else B) (N+m) L0 u'∧Kx L0 u u':=by
 have hfit:=ferr_fit C hf
 have c2:=h.2.1
 have b1:Calls Tryz.prog 44 #[.slice p m c] u fun e u1=>e=.returned (.int .i64 0)∧Below u.heap.size u u1:=(bounded_any p m c gl o C hm u hca.cl).mono fun e u1 hh=>⟨by rw[hh.1,hf],hh.2⟩
 have b2:∀ u1,Below u.heap.size u u1→Calls Tryz.prog 45 #[PT g 0,.slice p m c] u1 fun e w'=>(∃ n:Int,e=.returned (.int .i64 n)∧¬4096<n)∧Below u.heap.size u w':=fun u1 hb=>((h.below hb).1.count hN c hm (hca.cl.below hb) hfit).mono fun e w' hh=>⟨hh.1,zR _ _ hb hh.2⟩
 have b3:∀ u2,Below u.heap.size u u2→Calls Tryz.prog 46 #[.slice p m c] u2 fun e u3=>∃ v,e=.returned (.tuple #[v,.int .i64 0])∧(Below u.heap.size u u3∧∃ q:Pt8,v=.slice q.p q.n q.cp∧Pq q u3∧bs q.n q.f=rc (chl C m)):=fun u2 hb=>(record_any p m c gl o C hm (by omega) u2 (hca.cl.below hb) fun i hi=>⟨(hca.pq i hi).below hb,(fit_b (hfit i hi)).1⟩).mono fun e u3 hh=>by
  obtain⟨v,e1,n,P,e2,e3⟩:=hh
  obtain⟨q,rfl,q1,q2,q3,q4,q5,q6⟩:=e2.part
  exact⟨_,e1,zR _ _ hb e2.b,q,rfl,⟨q1,q2,q5⟩,by rw[q3,q4];exact e3⟩
 have b4:∀ v u3,(Below u.heap.size u u3∧∃ q:Pt8,v=.slice q.p q.n q.cp∧Pq q u3∧bs q.n q.f=rc (chl C m))→Calls Tryz.prog 47 #[PT j 0,v] u3 fun e u4=>e=.returned (.int .i64 r)∧(So w0 d A' g j mv base s G (nb+70000) B N L0 u4∧Kx L0 u u4):=fun v u3 hh=>by
  obtain⟨hb,q,rfl,hq,hqb⟩:=hh
  have hln:q.n≤65536:=by
   have e1:q.n=(rc (chl C m)).length:=by rw[← hqb,bs_len]
   rw[e1]
   exact Nat.le_trans (rc_len C m) hr
  refine((h.below hb).1.app hk ho hs hnb q hq hln r A' (by rw[hqb];exact ha)).mono fun e u4 hh=>⟨hh.1,hh.2.1,(h.below hb).2.trans hh.2.2⟩
 by_cases hr0:r=0
 ·subst hr0
  rw[if_pos rfl]
  refine scommit_ok g j (.slice p m c) _ _ _ (fun u'=>So w0 d A' g j mv base s G (nb+70000) (bdo B C m) (N+m) L0 u'∧Kx L0 u u') _ u c2 b1 b2 b3 (fun v u3 hh=>(h.below hh.1).1.2.1) b4 (fun u4 hh => ?_)
  have hca4:=hca.to hh.2 fun x hx=>(hh.1.da.b.block x hx).trans (h.da.b.block x hx).symm
  exact(hh.1.did (by omega) c hm hca4 hfit).mono fun e u5 hg=>⟨hg.1,hg.2.1,hh.2.trans hg.2.2⟩
 ·rw[if_neg hr0]
  refine(scommit_app g j (.slice p m c) r hr0 _ _ _ _ u c2 b1 b2 b3 (fun v u3 hh=>(h.below hh.1).1.2.1) b4).mono fun e u4 hh=>⟨hh.1,hh.2.1.mono (Nat.le_refl _) (by omega),hh.2.2⟩
theorem So.cbad (h:So w0 d A g j mv base s G nb B N L0 u) (c:Nat) (hm:m≤64) (hl:Cl p gl o m C u) (hf:¬ferr C m=0) :
  Calls Tryz.prog 13 #[PT g 0,.slice p m c] u fun e u'=>e=.returned (.int .i64 (ferr C m))∧Below u.heap.size u u' :=
 scommit_bad g j (.slice p m c) (ferr C m) hf (fun u'=>Below u.heap.size u u') u h.2.1 (bounded_any p m c gl o C hm u hl)
theorem So.clong (h:So w0 d A g j mv base s G nb B N L0 u) (c:Nat) (hm:64<m) :
  Calls Tryz.prog 13 #[PT g 0,.slice p m c] u fun e u'=>e=.returned (.int .i64 3)∧Below u.heap.size u u' :=
 scommit_bad g j (.slice p m c) 3 (by decide) (fun u'=>Below u.heap.size u u') u h.2.1 (bounded_long p m c hm u)
end
end Wi
end Rg
end Go.Proofs.YtmcpagjhpfbpgaaGreatDoor
end
section
namespace Go.Proofs.YtmcpagjhpfbpgaaGreatDoor
open Go.RowKit
namespace Rg
namespace Wi
set_option maxRecDepth 100000
theorem ex_ld5 {ρ:Operand→Value} {o:Oper} {x:Operand} {g off a:Nat} {w:World} (c0:w.cell? ⟨g,off,none⟩=some (Z8 a)) (ho:o.op=.load 5 x) (hx:ρ x=PT g off):(execOp ρ o).run Tryz.prog w=.ok (.value (Z8 a)) w:=by
 simp only[execOp,ho,hx]
 clear ho hx
 go_simp
theorem number_x (gr gb o m c k most:Nat) (f:Nat→Nat) (hk:k≤m) (h8:k≤8) (hc:m≤c) (hmo:most<9223372036854775808) (hf:∀ j,j<k→f j<256) (hn:∀ z,z<k→nv f z*256<18446744073709551616) (w:World) (hcs:∀ u,Kp gr w u→∀ i,i<k→u.cell? ⟨gb,o+i,none⟩=some (Z8 (f i))) (hV:nv f k≤most) (hm:Mm w [(gr,[Value.slice (some ⟨gb,o,none⟩) m c,Value.bool false])]) :
  Calls Tryz.prog 153 #[PT gr 0,.int .i64 ((k:Nat):Int),.int .i64 ((most:Nat):Int)] w fun e w'=>e=.returned (.int .i64 ((nv f k:Nat):Int))∧Mm w' [(gr,[sdrop (.slice (some ⟨gb,o,none⟩) m c) k,Value.bool false])]∧Kp gr w w':=by
 have H0:Hid (_∧_):=⟨hm,Kp.refl gr w⟩
 clear hm
 have hF:Hid _:=hf
 have hN:Hid _:=hn
 have hC:Hid _:=hcs
 clear hf hn hcs
 go_enter Tryz.func153,Tryz.ntmps153
 refine wp_seq ?_
 refine zG (l:=[0]) rfl (fun u0 hu0 => ?_)
 have H1:Hid (Mm u0 [(gr,[Value.slice (some ⟨gb,o,none⟩) m c,Value.bool false])]∧Kp gr w u0):=by rw[hu0];exact H0
 clear hu0 H0
 refine zA (d:=6) (v:=.int .i64 0) (w':=u0) rfl rfl rfl rfl ?_
 simp only[Act.put,sa,sz,ss]
 refine zC (zB (wp_seq ?_))
 refine zD (l:=[0]) rfl ?_
 refine zA (d:=7) (v:=U 0) (w':=u0) rfl rfl rfl rfl ?_
 simp only[Act.put,sa,sz,ss]
 refine zC (zB ?_)
 refine wp_seq (wp_seq ?_)
 refine zD (l:=[0,1,2,3,4]) rfl ?_
 refine zA (d:=10) (v:=PT gr 0) (w':=u0) rfl rfl rfl rfl ?_
 simp only[Act.put,sa,sz,ss]
 refine zA (d:=11) (v:=.int .i64 ((k:Nat):Int)) (w':=u0) rfl rfl rfl rfl ?_
 simp only[Act.put,sa,sz,ss]
 refine zE (d:=12) (R:=fun vv w'=>vv=.slice (some ⟨gb,o,none⟩) k c∧Mm w' [(gr,[sdrop (.slice (some ⟨gb,o,none⟩) m c) k,Value.bool false])]∧Kp gr u0 w') rfl rfl rfl (zF (args:=#[PT gr 0,.int .i64 ((k:Nat):Int)]) rfl call171 rfl (mpn rfl)) (Calls.mono (take_ok gr (some ⟨gb,o,none⟩) m c k (by omega) (by omega) u0 (H1.out.1.one 0 rfl)) (fun e w2 hh=>⟨_,hh.1,rfl,hh.2⟩)) ?_
 rintro _ w2 ⟨rfl,hn,hp⟩
 have H2:Hid (Mm w2 [(gr,[sdrop (.slice (some ⟨gb,o,none⟩) m c) k,Value.bool false])]∧Kp gr w w2):=⟨H1.out.1.change 0 rfl hp hn,H1.out.2.join hp⟩
 clear hn hp
 clear H1
 simp only[Act.put,sa,sz,ss]
 refine zA (d:=13) (v:=.int .i64 ((k:Nat):Int)) (w':=w2) rfl rfl rfl (by go_simp) ?_
 simp only[Act.put,sa,sz,ss]
 refine zA (d:=14) (v:=.int .i64 0) (w':=w2) rfl rfl rfl rfl ?_
 simp only[Act.put,sa,sz,ss]
 refine zC (zB (wp_block ?_))
 refine loop_ghost (α:=Nat) (fun z a' w'=>∃ s0:Nat→Value,a'=⟨#[PT gr 0,.int .i64 ((k:Nat):Int),.int .i64 ((most:Nat):Int),ud,ud,ud,.int .i64 0,U (nv f z),ud,s0 9,PT gr 0,.int .i64 ((k:Nat):Int),.slice (some ⟨gb,o,none⟩) k c,.int .i64 ((k:Nat):Int),.int .i64 ((z:Nat):Int),s0 15,s0 16,s0 17,s0 18,s0 19,s0 20,s0 21,s0 22,s0 23,ud,ud,ud,ud,ud,ud,ud,ud,ud],[]⟩∧(Mm w' [(gr,[sdrop (.slice (some ⟨gb,o,none⟩) m c) k,Value.bool false])]∧Kp gr w w')∧z≤k) (fun z=>k - z) 0 ?st0 ?rd0
 case st0=>exact⟨(slotfn [ud,ud,ud,ud,ud,ud,ud,ud,ud,ud,ud,ud,ud,ud,ud,ud,ud,ud,ud,ud,ud,ud,ud,ud]),rfl,⟨H2.out.1,H2.out.2⟩,by omega⟩
 intro z a' w3 hI
 obtain⟨s0,rfl,hMB,hk0⟩:=hI
 have H3:Hid (_∧_):=hMB
 clear hMB H2
 by_cases hltz:z<k
 ·have hrd:True:=trivial
  clear hrd
  refine wp_seq ?_
  refine zD (l:=[0]) rfl ?_
  refine zA (d:=15) (v:=.bool true) (w':=w3) rfl rfl rfl (by go_simp <;> omega) ?_
  simp only[Act.put,sa,sz,ss]
  refine zC (zB ?_)
  refine wp_seq (wp_cond_true rfl ?_)
  refine wp_skip (zB ?_)
  refine wp_seq (wp_block (wp_seq ?_))
  refine zD (l:=[0,1,2]) rfl ?_
  refine zA (d:=16) (v:=PT gb (o+z)) (w':=w3) rfl rfl rfl (ex_ixS22 (j:=z) rfl rfl rfl (by omega)) ?_
  simp only[Act.put,sa,sz,ss]
  refine zA (d:=17) (v:=Z8 (f z)) (w':=w3) rfl rfl rfl (ex_ld5 (hC.out _ H3.out.2 z (by omega)) rfl rfl) ?_
  simp only[Act.put,sa,sz,ss]
  refine zA (d:=9) (v:=Z8 (f z)) (w':=w3) rfl rfl rfl rfl ?_
  simp only[Act.put,sa,sz,ss]
  refine zC (zB ?_)
  refine zD (l:=[0,1,2,3,4,5]) rfl ?_
  refine zA (d:=18) (v:=U (nv f z)) (w':=w3) rfl rfl rfl rfl ?_
  simp only[Act.put,sa,sz,ss]
  refine zA (d:=19) (v:=U ((nv f z)*256)) (w':=w3) rfl rfl rfl (ex_shl8 (hN.out z (by omega)) rfl rfl rfl) ?_
  simp only[Act.put,sa,sz,ss]
  refine zA (d:=20) (v:=Z8 (f z)) (w':=w3) rfl rfl rfl rfl ?_
  simp only[Act.put,sa,sz,ss]
  refine zA (d:=21) (v:=U (f z)) (w':=w3) rfl rfl rfl (ex_cv64 (hF.out z (by omega)) rfl rfl) ?_
  simp only[Act.put,sa,sz,ss]
  refine zA (d:=22) (v:=U ((nv f z)*256+(f z))) (w':=w3) rfl rfl rfl (ex_or8 (hN.out z (by omega)) (hF.out z (by omega)) rfl rfl rfl) ?_
  simp only[Act.put,sa,sz,ss]
  refine zA (d:=7) (v:=U ((nv f z)*256+(f z))) (w':=w3) rfl rfl rfl rfl ?_
  simp only[Act.put,sa,sz,ss]
  refine zC (block_normal (zB ?_))
  refine zD (l:=[0,1]) rfl ?_
  refine zA (d:=23) (v:=.int .i64 ((z+1:Nat):Int)) (w':=w3) rfl rfl rfl (by go_simp;rw[IntKind.wrap_i64];omega) ?_
  simp only[Act.put,sa,sz,ss]
  refine zA (d:=14) (v:=.int .i64 ((z+1:Nat):Int)) (w':=w3) rfl rfl rfl rfl ?_
  simp only[Act.put,sa,sz,ss]
  refine zC (zB ?_)
  exact⟨z+1,⟨(slotfn [ud,ud,ud,ud,ud,ud,ud,ud,ud,Z8 (f z),ud,ud,ud,ud,ud,.bool true,PT gb (o+z),Z8 (f z),U (nv f z),U ((nv f z)*256),Z8 (f z),U (f z),U ((nv f z)*256+(f z)),.int .i64 ((z+1:Nat):Int)]),rfl,⟨H3.out.1,H3.out.2⟩,by omega⟩,by omega⟩
 have hzN:z=k:=by omega
 subst hzN
 have hV2:Hid _:=hV
 clear hV
 have hV:=hV2.out
 refine wp_seq ?_
 refine zD (l:=[0]) rfl ?_
 refine zA (d:=15) (v:=.bool false) (w':=w3) rfl rfl rfl (by go_simp <;> omega) ?_
 simp only[Act.put,sa,sz,ss]
 refine zC (zB ?_)
 refine wp_seq (wp_cond_false rfl ?_)
 refine wp_exit ?_
 repeat refine then_exit ?_
 refine block_exit ?_
 refine zB (wp_seq (wp_seq ?_))
 refine zD (l:=[0,1,2,3]) rfl ?_
 refine zA (d:=24) (v:=U (nv f z)) (w':=w3) rfl rfl rfl rfl ?_
 simp only[Act.put,sa,sz,ss]
 refine zA (d:=25) (v:=.int .i64 ((most:Nat):Int)) (w':=w3) rfl rfl rfl rfl ?_
 simp only[Act.put,sa,sz,ss]
 refine zA (d:=26) (v:=U most) (w':=w3) rfl rfl rfl (ex_cvI (by omega) rfl rfl) ?_
 simp only[Act.put,sa,sz,ss]
 refine zA (d:=27) (v:=.bool false) (w':=w3) rfl rfl rfl (ex_gtN (by omega) rfl rfl rfl) ?_
 simp only[Act.put,sa,sz,ss]
 refine zC (zB ?_)
 refine wp_cond_false rfl (wp_skip ?_)
 refine zB (wp_seq ?_)
 refine zD (l:=[0,1,2]) rfl ?_
 refine zA (d:=31) (v:=U (nv f z)) (w':=w3) rfl rfl rfl rfl ?_
 simp only[Act.put,sa,sz,ss]
 refine zA (d:=32) (v:=.int .i64 ((nv f z:Nat):Int)) (w':=w3) rfl rfl rfl (ex_cvU (by omega) rfl rfl) ?_
 simp only[Act.put,sa,sz,ss]
 refine zA (d:=6) (v:=.int .i64 ((nv f z:Nat):Int)) (w':=w3) rfl rfl rfl rfl ?_
 simp only[Act.put,sa,sz,ss]
 refine zC (zB (wp_ret ?_))
 repeat (first | refine zI ?_ | refine zH ?_)
 refine bodyPost_ret (v:=.int .i64 ((nv f z:Nat):Int)) (by simp[results,Tryz.results153,go_sem, *]) rfl ?_
 exact⟨rfl,H3.out.1.one 0 rfl,H3.out.2⟩
theorem sdrop_q (q:Pt8) (k:Nat):sdrop (.slice q.p q.n q.cp) k=.slice (q.dp k).p (q.dp k).n (q.dp k).cp:=rfl
theorem Pok.addr {q:Pt8} (h:Pok q) (h0:0<q.n):q.p=some ⟨q.gb,q.o,none⟩:=by
 have:=h.bv.1 h0
 simpa using this
theorem nv4 {f:Nat→Nat} {n:Nat} (hn:n<4294967296) (h:bs 4 f=wn 4 n):nv f 4=n:=by
 obtain⟨_,h⟩:=bs_eq (m:=4) h
 have h0:=h 0 (by decide)
 have h1:=h 1 (by decide)
 have h2:=h 2 (by decide)
 have h3:=h 3 (by decide)
 show (((0*256+f 0)*256+f 1)*256+f 2)*256+f 3=n
 rw[h0,h1,h2,h3]
 show (((0*256+n / 16777216 % 256)*256+n / 65536 % 256)*256+n / 256 % 256)*256+n / 1 % 256=n
 omega
theorem nv8 {f:Nat→Nat} {n:Nat} (hn:n<4611686018427387904) (h:bs 8 f=wn 8 n):nv f 8=n:=by
 obtain⟨_,h⟩:=bs_eq (m:=8) h
 have h0:=h 0 (by decide)
 simp only[Nat.reduceSub,Nat.reduceMul,Nat.reducePow,Nat.sub_zero] at h0
 have h1:=h 1 (by decide)
 simp only[Nat.reduceSub,Nat.reduceMul,Nat.reducePow] at h1
 have h2:=h 2 (by decide)
 simp only[Nat.reduceSub,Nat.reduceMul,Nat.reducePow] at h2
 have h3:=h 3 (by decide)
 simp only[Nat.reduceSub,Nat.reduceMul,Nat.reducePow] at h3
 have h4:=h 4 (by decide)
 simp only[Nat.reduceSub,Nat.reduceMul,Nat.reducePow] at h4
 have h5:=h 5 (by decide)
 simp only[Nat.reduceSub,Nat.reduceMul,Nat.reducePow] at h5
 have h6:=h 6 (by decide)
 simp only[Nat.reduceSub,Nat.reduceMul,Nat.reducePow] at h6
 have h7:=h 7 (by decide)
 simp only[Nat.reduceSub,Nat.reduceMul,Nat.reducePow,Nat.div_one] at h7
 show (((((((0*256+f 0)*256+f 1)*256+f 2)*256+f 3)*256+f 4)*256+f 5)*256+f 6)*256+f 7=n
 omega
theorem nv_mono (f:Nat→Nat):∀ {z k:Nat},z<k→nv f z*256≤nv f k
 | z,0,h=>absurd h (Nat.not_lt_zero _)
 | z,k+1,h=>by
  show nv f z*256≤nv f k*256+f k
  by_cases e:z=k
  ·rw[e];omega
  ·have:=nv_mono f (z:=z) (k:=k) (by omega)
   have:nv f k≤nv f k*256:=Nat.le_mul_of_pos_right _ (by decide)
   omega
def Rdr (gr:Nat) (q:Pt8) (u:World):Prop:=Mm u [(gr,[.slice q.p q.n q.cp,.bool false])]
theorem number_q (gr k most n:Nat) (q:Pt8) (h0:0<k) (h8:k≤8) (hk:k≤q.n) (hmo:most<9223372036854775808) (hb:bs k q.f=wn k n) (hn:nv q.f k=n) (hle:n≤most) (w:World) (hg:q.gb≠gr) (hq:Pok q∧q.rs w) (hm:Rdr gr q w) :
  Calls Tryz.prog 153 #[PT gr 0,.int .i64 ((k:Nat):Int),.int .i64 ((most:Nat):Int)] w fun e w'=>e=.returned (.int .i64 ((n:Nat):Int))∧Rdr gr (q.dp k) w'∧Kp gr w w':=by
 have hp:=hq.1.addr (by omega)
 have hm':=hm
 unfold Rdr at hm'
 rw[hp] at hm'
 have h256:∀ j,j<k→q.f j<256:=fun j hj=>by
  rw[(bs_eq (m:=k) hb).2 j hj]
  exact Nat.mod_lt _ (by decide)
 refine(number_x gr q.gb q.o q.n q.cp k most q.f hk h8 hq.1.le hmo h256 (fun z hz=>by have:=nv_mono q.f hz;omega) w (fun u hu i hi => ?_) (by omega) hm').mono fun e w' hh=>⟨by rw[hh.1,hn],by
  unfold Rdr
  rw[← sdrop_q,hp]
  exact hh.2.1,hh.2.2⟩
 have h1:=hq.2.at_ i (by omega)
 have h2:=hq.2.lt (by omega)
 exact(World.cell?_of_block (a:=⟨q.gb,q.o+i,none⟩) (hu.block q.gb h2 hg)).trans h1
theorem text_q (gr L:Nat) (q:Pt8) (hk:4+L≤q.n) (hn:q.n≤1048576) (hb:bs 4 q.f=wn 4 L) (w:World) (hg:q.gb≠gr) (hq:Pok q∧q.rs w) (hm:Rdr gr q w) :
  Calls Tryz.prog 175 #[PT gr 0,.int .i64 4,.int .i64 1048576] w fun e w'=>e=.returned (.slice ((q.dp 4).tk L).p L ((q.dp 4).tk L).cp)∧Rdr gr ((q.dp 4).dp L) w'∧Kp gr w w':=by
 have HN:Hid _:=number_q gr 4 1048576 L q (by decide) (by decide) (by omega) (by decide) hb (nv4 (by omega) hb) (by omega) w hg hq hm
 have hle:L≤(q.dp 4).n:=by show L≤q.n - 4;omega
 have hcp:(q.dp 4).n≤(q.dp 4).cp:=(hq.1.dp (show 4≤q.n by omega)).le
 clear hm hq
 go_enter Tryz.func175,Tryz.ntmps175
 go_wp2_with (first
  | (go_at_call 153;refine Calls.mono HN.out ?_;rintro e w1 ⟨rfl,h1,k1⟩;have H1:Hid _:=h1;clear h1)
  | (go_at_call 171;refine(take_ok gr (q.dp 4).p (q.dp 4).n (q.dp 4).cp L hle hcp w1 H1.out).mono ?_;rintro e w2 ⟨rfl,h2,k2⟩;have H2:Hid (Rdr gr ((q.dp 4).dp L) w2∧Kp gr w w2):=⟨h2,k1.join k2⟩)
  | fail)
 go_ret
 exact⟨rfl,H2.out⟩
end Wi
end Rg
end Go.Proofs.YtmcpagjhpfbpgaaGreatDoor
end
section
namespace Go.Proofs.YtmcpagjhpfbpgaaGreatDoor
open Go.RowKit
namespace Rg
namespace Wi
set_option maxRecDepth 100000
theorem info_b:∃ i,Tryz.prog.info? 5=some i∧i.zero=some (.int .u8 0)∧i.size=1∧i.bytes=1:=by
 obtain⟨i,hi⟩:∃ i,Tryz.prog.info? 5=some i:=by
  have h:(Tryz.prog.info? 5).isSome=true:=by kernel_rfl
  rcases e:Tryz.prog.info? 5 with _ | i
  ·rw[e] at h;cases h
  ·exact⟨i,rfl⟩
 have h1:(Tryz.prog.info? 5).map (·.zero)=some (some (.int .u8 0)):=by kernel_rfl
 have h2:(Tryz.prog.info? 5).map (·.size)=some 1:=by kernel_rfl
 have h3:(Tryz.prog.info? 5).map (·.bytes)=some 1:=by kernel_rfl
 rw[hi] at h1 h2 h3
 exact⟨i,hi,Option.some.inj h1,Option.some.inj h2,Option.some.inj h3⟩
theorem info_bs:(Tryz.prog.info? 5).map (·.size)=some 1:=by kernel_rfl
theorem fresh_q (q:Pt8) (hn:q.n≤1048576) (w:World) (hq:Pok q∧q.rs w) :
  Calls Tryz.prog 174 #[.slice q.p q.n q.cp] w fun e w'=>∃ v,e=.returned v∧Cw w v q.n q.f w':=by
 have HQ:Hid _:=hq
 have hle:=hq.1.le
 go_enter Tryz.func174,Tryz.ntmps174
 by_cases h0:q.n=0
 ·have h0I:(q.n:Int)=0:=by omega
  have HC:Hid (Cw w (.slice none 0 0) q.n q.f w):=by rw[h0];exact⟨Below.refl _ _,World.ownsRow_nil _ _ _ _⟩
  clear hq hle h0
  go_wp2
  go_ret
  exact⟨_,rfl,HC.out⟩
 ·have h0I:¬(q.n:Int)=0:=by omega
  have HA:Hid (q.p=some ⟨q.gb,q.o,none⟩):=hq.1.addr (by omega)
  obtain⟨i0,hi,hz0,hz1,hz2⟩:=info_b
  have hmk:=run_make_row (P:=Tryz.prog) 40 5 i0 (.int .u8 0) Tryz.underlying40 hi hz0 hz1 rfl .i64 .i64 q.n (by rw[hz2];omega) (by omega) w
  have hnew:Hid ((w.alloc (.cells (madeCells #[.int .u8 0] q.n) 5)).heap[w.heap.size]?=some (.cells (madeCells #[.int .u8 0] q.n).toList.toArray 5 (0,0))):=heap_alloc_new w _
  have hlen:(madeCells #[Value.int .u8 0] q.n).toList.length=q.n:=by simp[madeCells]
  have HLEN:Hid _:=hlen
  have HB:Hid (Below w.heap.size w (w.alloc (.cells (madeCells #[.int .u8 0] q.n) 5))):=(Below.refl _ w).alloc (Nat.le_refl _) _
  have HI:Hid ((zN .u8 q.f q.n).length=q.n):=zO _ _ _
  clear hq hi hz0 hz1 hz2 hlen h0
  go_wp2_with (first
   | (refine wpList_copy_splice rfl _ _ 40 40 rfl 5 Tryz.underlying40 info_bs (some ⟨w.heap.size,0,none⟩) q.p q.n q.n q.n q.cp rfl rfl w.heap.size 0 (madeCells #[.int .u8 0] q.n).toList 5 hnew.out (zN .u8 q.f q.n) (by rw[zO];simp) (fun _=>⟨rfl,_,HA.out,fun j v hj => ?_⟩) (by rw[zO,HLEN.out];omega) ?_ w.heap.size w HB.out (Nat.le_refl _) ?_)
   | fail)
  ·have hlt:j<q.n:=by have:=(List.getElem?_eq_some_iff.1 hj).1;rwa [zO] at this
   rw[ints_get _ _ hlt] at hj
   rw[← Option.some.inj hj,show (⟨q.gb,q.o,none⟩:Addr).add j=⟨q.gb,q.o+j,none⟩ by unfold Addr.add;split <;> simp_all]
   exact(HB.out.cell (p:=⟨q.gb,q.o+j,none⟩) (HQ.out.2.lt (by omega))).trans (HQ.out.2.at_ j hlt)
  ·intro v hv
   unfold zN at hv
   obtain⟨k,_,rfl⟩:=List.mem_map.1 hv
   rfl
  ·intro w' hw hb
   have HW:Hid (Cw w (.slice (some ⟨w.heap.size,0,none⟩) q.n q.n) q.n q.f w'):=by
    refine⟨hb,by rw[zO,Nat.mul_one],.inr ⟨w.heap.size,q.n,_,rfl,Nat.le_refl _,hw.out,Nat.le_refl _,by unfold maxLen;omega,?_,?_⟩⟩
    ·rw[List.size_toArray,length_splice _ _ _ (by rw[HI.out,HLEN.out];omega),HLEN.out,Nat.mul_one]
    ·unfold splice
     rw[List.take_zero,List.nil_append,HI.out,Nat.zero_add,List.drop_of_length_le (by rw[HLEN.out];exact Nat.le_refl _),List.append_nil,Nat.mul_one]
     exact List.take_of_length_le (by rw[HI.out];exact Nat.le_refl _)
   clear hw hb
   go_wp2
   go_ret
   exact⟨_,rfl,HW.out⟩
theorem bs_split {n:Nat} {F:Nat→Nat} {A R:List Nat} (h:bs n F=A++R):A.length≤n∧bs A.length F=A∧bs (n - A.length) (fun j=>F (A.length+j))=R:=by
 have hn:n=A.length+R.length:=by have:=congrArg List.length h;rwa [bs_len,List.length_append] at this
 have e:bs (A.length+(n - A.length)) F=A++R:=by rw[show A.length+(n - A.length)=n by omega];exact h
 rw[bs_add] at e
 obtain⟨e1,e2⟩:=List.append_inj e (by rw[bs_len])
 exact⟨by omega,e1,e2⟩
theorem one_q (gr L:Nat) (q:Pt8) (hk:4+L≤q.n) (hn:q.n≤1048576) (hb:bs 4 q.f=wn 4 L) (w:World) (hg:q.gb≠gr) (hq:Pok q∧q.rs w) (hm:Rdr gr q w) :
  Calls Tryz.prog 173 #[PT gr 0] w fun e w'=>∃ v,e=.returned v∧Rdr gr ((q.dp 4).dp L) w'∧Kp gr w w'∧w'.ownsRow w.heap.size 5 1 v L (zN .u8 (fun j=>q.f (4+j)) L):=by
 have HT:Hid _:=text_q gr L q hk hn hb w hg hq hm
 have hle:L≤(q.dp 4).n:=by show L≤q.n - 4;omega
 have HF:Hid (∀ u,Kp gr w u→Calls Tryz.prog 174 #[.slice ((q.dp 4).tk L).p L ((q.dp 4).tk L).cp] u fun e u'=>∃ v,e=.returned v∧Cw u v L (fun j=>q.f (4+j)) u'):=fun u hu=>fresh_q ((q.dp 4).tk L) (show L≤1048576 by omega) u ⟨(hq.1.dp (show 4≤q.n by omega)).tk hle,Rs.keep (Pt8.rs_tk (Pt8.rs_dp hq.2 (show 4≤q.n by omega)) hle) hu.size (fun h0=>hu.block _ (hq.2.lt (by omega)) hg)⟩
 clear hm hq
 go_enter Tryz.func173,Tryz.ntmps173
 go_wp2_with (first
  | (go_at_call 175;refine Calls.mono HT.out ?_;rintro e w1 ⟨rfl,h1,k1⟩;have H1:Hid _:=h1;have K1:Hid _:=k1;clear h1 k1)
  | (go_at_call 174;refine Calls.mono (HF.out w1 K1.out) ?_;rintro e w2 ⟨v,rfl,hcw⟩)
  | fail)
 go_ret
 exact⟨v,rfl,Mm.below H1.out hcw.b,K1.out.trans hcw.b,own_base hcw.own K1.out.size⟩
theorem Lr.kp {W u u':World} {vv:Value} {m gr:Nat} {P:Nat→Pt8} (h:Lr W vv m P u) (hk:Kp gr u u') (h1:W.heap.size≤gr) (h2:gr∉vbl vv) (h3:∀ i,i<m→0<(P i).n→(P i).gb≠gr):Lr W vv m P u' :=
 ⟨h.b.trans ((Kp.chg hk).toBelow (fun x hx=>by rw[List.mem_singleton.1 hx];exact h1) h.b.size),own_keep h.own (fun x hx=>hk.block x (own_lt h.own x hx) (fun e=>h2 (by rw[← e];exact hx))),fun i hi=>⟨(h.ok i hi).1,(h.ok i hi).2.1,Rs.keep (h.ok i hi).2.2.1 hk.size (fun h0=>hk.block _ ((h.ok i hi).2.2.1.lt h0) (h3 i hi h0)),(h.ok i hi).2.2.2⟩⟩
structure Rst (W:World) (gr gb:Nat) (l:List (List Nat)) (i:Nat) (r:Pt8):Prop where
 ok:Pok r∧r.rs W
 gb:r.gb=gb
 n:r.n≤1048576
 b:bs r.n r.f=wfs (l.drop i)
theorem Rst.next {W:World} {gr gb:Nat} {l:List (List Nat)} {i:Nat} {r:Pt8} (h:Rst W gr gb l i r) (hi:i<l.length):∃ L,L=(l.getD i []).length∧4+L≤r.n∧bs 4 r.f=wn 4 L∧bs L (fun j=>r.f (4+j))=l.getD i []∧Rst W gr gb l (i+1) ((r.dp 4).dp L):=by
 have e:l.drop i=l.getD i [] :: l.drop (i+1):=by
  rw[List.drop_eq_getElem_cons hi,List.getD_eq_getElem?_getD,List.getElem?_eq_getElem hi]
  rfl
 have hb:=h.b
 rw[e] at hb
 have e2:wfs (l.getD i [] :: l.drop (i+1))=wn 4 (l.getD i []).length++(l.getD i []++wfs (l.drop (i+1))):=by simp[wfs,List.append_assoc]
 rw[e2] at hb
 obtain⟨s1,s2,s3⟩:=bs_split hb
 rw[wn_len] at s1 s2 s3
 obtain⟨t1,t2,t3⟩:=bs_split s3
 have hn:4+(l.getD i []).length≤r.n:=by omega
 refine⟨(l.getD i []).length,rfl,hn,s2,t2,⟨⟨(h.ok.1.dp (by omega)).dp (by show _≤r.n - 4;omega),Pt8.rs_dp (Pt8.rs_dp h.ok.2 (by omega)) (by show _≤r.n - 4;omega)⟩,h.gb,?_,t3⟩⟩
 show r.n - 4 - _≤_
 have:=h.n
 omega
theorem Lr.app2 {w u:World} {vv:Value} {m:Nat} {P:Nat→Pt8} (h:Lr w vv m P u) (hm:m≤1000000) {q:Pt8} (hq:Pok q∧(q.p=none→q.cp=0)∧q.rs u∧(0<q.n→w.heap.size≤q.gb∧q.gb∉vbl vv)) {gs:Nat} (hs:u.cell? ⟨gs,0,none⟩=some (.slice q.p q.n q.cp)) (ty:TypeId) :
  ∃ v' u2,(Builtin.append_ #[131,131] ty #[vv,.slice (some ⟨gs,0,none⟩) 1 1]).run Tryz.prog u=.ok v' u2∧Lr w v' (m+1) (upP P m q) u2∧Chg (vbl vv) u u2∧∀ x∈vbl v',x∈vbl vv∨x=u.heap.size:=by
 obtain⟨i0,hi,hz0,hz1,hz2⟩:=info_sl
 obtain⟨v',w2,r1,r2,r3,_,r5⟩:=run_append_own_at (P:=Tryz.prog) u w.heap.size 131 ty 40 i0 (.slice none 0 0) 1 24 Tryz.underlying131 hi hz0 hz1 hz2 rfl (by decide) vv m _ h.own ⟨gs,0,none⟩ 1 1 [.slice q.p q.n q.cp] rfl
  (fun j v hj=>by
   rcases j with _ | j
   ·rw[show (⟨gs,0,none⟩:Addr).add 0=⟨gs,0,none⟩ by unfold Addr.add;split <;> simp_all,hs];exact hj
   ·cases hj) (fun v hv=>by rw[List.mem_singleton.1 hv];rfl) (by unfold maxLen;omega) (by omega) h.b.size
 rw[pcs_snoc] at r2
 have hc:=Chg.grown r3
 have key:∀ p:Pt8,p.rs u→(0<p.n→w.heap.size≤p.gb∧p.gb∉vbl vv)→p.rs w2∧(0<p.n→w.heap.size≤p.gb∧p.gb∉vbl v'):=fun p h1 h2=>⟨h1.keep hc.size (fun h0=>hc.block _ (h1.lt h0) (h2 h0).2),fun h0=>⟨(h2 h0).1,fun hx=>by
  unfold vbl at hx
  rcases r5 with e | e
  ·rw[e] at hx;exact(h2 h0).2 hx
  ·rw[e] at hx
   have:p.gb=u.heap.size:=by simpa using hx
   have:=h1.lt h0
   omega⟩⟩
 refine⟨v',w2,r1,⟨h.b.trans (hc.toBelow (fun x hx => ?_) h.b.size),r2,fun i hi => ?_⟩,hc,fun x hx => ?_⟩
 ·unfold vbl at hx
  cases hv:vv.ownBlock with
  | none=>rw[hv] at hx;simp at hx
  | some k=>rw[hv] at hx;simp at hx;subst hx;exact(World.ownsRow.lt h.own _ hv).1
 ·unfold upP
  by_cases e:i=m
  ·rw[if_pos e]
   exact⟨hq.1,hq.2.1,key q hq.2.2.1 hq.2.2.2⟩
  ·rw[if_neg e]
   have h3:=h.ok i (by omega)
   exact⟨h3.1,h3.2.1,key _ h3.2.2.1 h3.2.2.2⟩
 ·unfold vbl at hx ⊢
  rcases r5 with e | e
  ·rw[e] at hx;exact .inl hx
  ·rw[e] at hx
   exact .inr (by simpa using hx)
structure Mst (W:World) (gr gb:Nat) (l:List (List Nat)) (i:Nat) (vv:Value) (P:Nat→Pt8) (r:Pt8) (u:World):Prop where
 lr:Lr W vv i P u
 rd:Rdr gr r u
 st:Rst W gr gb l i r
 vg:gr∉vbl vv
 pg:∀ k,k<i→0<(P k).n→(P k).gb≠gr
 pb:∀ k,k<i→bs (P k).n (P k).f=l.getD k []
theorem many_q (W:World) (gr gb:Nat) (l:List (List Nat)) (hl:l.length≤4096) (hgr:W.heap.size≤gr) (hgb:gb<W.heap.size) (q _r0:Pt8) (hq:Pok q∧q.rs W) (hqg:q.gb=gb) (hqn:4≤q.n) (hq4:bs 4 q.f=wn 4 l.length) (hr0:Rst W gr gb l 0 (q.dp 4)) (w:World) (hb:Below W.heap.size W w) (hm:Rdr gr q w) :
  Calls Tryz.prog 172 #[PT gr 0,.int .i64 4,.int .i64 4096,.func (.func 173) #[] #[PT gr 0]] w fun e w'=>∃ v P r,e=.returned v∧Mst W gr gb l l.length v P r w':=by
 have HN:Hid _:=number_q gr 4 4096 l.length q (by decide) (by decide) hqn (by decide) hq4 (nv4 (by omega) hq4) hl w (by omega) ⟨hq.1,hq.2.below hb⟩ hm
 have HS:Hid _:=hr0
 clear hm hq hr0 hq4
 go_enter Tryz.func172,Tryz.ntmps172
 go_wp2_with (first
  | (go_at_call 153;refine Calls.mono HN.out ?_;rintro e w1 ⟨rfl,h1,k1⟩;have H1:Hid (Mst W gr gb l 0 (.slice none 0 0) (fun _=>Pt8.no) (q.dp 4) w1):=⟨Lr.start _ (hb.trans ((Kp.chg k1).toBelow (fun x hx=>by rw[List.mem_singleton.1 hx];exact hgr) hb.size)),h1,HS.out,by (intro hx;cases hx),fun k hk=>absurd hk (Nat.not_lt_zero _),fun k hk=>absurd hk (Nat.not_lt_zero _)⟩;clear h1 k1)
  | fail)
 go_loopw [9,14] (fun vv v wr=>∃ (i:Nat) (P:Nat→Pt8) (r:Pt8),v=.int .i64 (i:Int)∧i≤l.length∧Hid (Mst W gr gb l i vv P r wr))
  (fun _ v _=>l.length - (RowKit.intOf v).toNat)
 case atStart=>exact⟨0,_,_,rfl,Nat.zero_le _,H1⟩
 case round =>
  obtain⟨i,P,r,rfl,hi,hM⟩:=hrel
  by_cases hlt:i<l.length
  ·have hltI:(i:Int)<l.length:=by omega
   have c1:=hM.out.rd.cell (List.mem_cons_self ..) (k:=1) rfl
   obtain⟨L,hL,n1,n2,n3,n4⟩:=hM.out.st.next hlt
   have HO:Hid _:=one_q gr L r n1 hM.out.st.n n2 wr (by rw[hM.out.st.gb];omega) ⟨hM.out.st.ok.1,hM.out.st.ok.2.below hM.out.lr.b⟩ hM.out.rd
   have HA:Hid (∀ v u,Rdr gr ((r.dp 4).dp L) u→Kp gr wr u→u.ownsRow wr.heap.size 5 1 v L (zN .u8 (fun j=>r.f (4+j)) L)→∃ p c,v=.slice p L c∧∃ v' u2,(∀ ty,(Builtin.append_ #[131,131] ty #[u9,.slice (some ⟨u.heap.size,0,none⟩) 1 1]).run Tryz.prog (u.alloc (.cells #[v] 40))=.ok v' u2)∧∃ P',Mst W gr gb l (i+1) v' P' ((r.dp 4).dp L) u2):=fun v u g1 g2 g3=>by
    obtain⟨q2,rfl,q3,q4,q5,q6,q7,q8⟩:=own_part g3
    have hgl:gr<wr.heap.size:=hM.out.rd.lt (List.mem_cons_self ..)
    refine⟨q2.p,q2.cp,by rw[q5],?_⟩
    have l1:=(hM.out.lr.kp g2 hgr hM.out.vg hM.out.pg).step ((Below.refl _ u).alloc (Nat.le_refl _) (.cells #[.slice q2.p q2.n q2.cp] 40))
    have hq8:0<q2.n→wr.heap.size≤q2.gb:=fun h0=>(World.ownsRow.lt g3 _ (q8 h0)).1
    obtain⟨v',u2,a1,a2,a3,a4⟩:=l1.app2 (by omega) (q:=q2) ⟨q3,q4,q7.below ((Below.refl _ u).alloc (Nat.le_refl _) _),fun h0=>⟨Nat.le_trans hM.out.lr.b.size (hq8 h0),fun hx=>by have:=own_lt hM.out.lr.own _ hx;have:=hq8 h0;omega⟩⟩ (al_new u #[.slice q2.p q2.n q2.cp] 40 0 _ rfl) 0
    have hus:wr.heap.size≤u.heap.size:=g2.size
    have hsz:(u.alloc (.cells #[.slice q2.p q2.n q2.cp] 40)).heap.size=u.heap.size+1:=by simp
    refine⟨v',u2,fun ty=>(app_ty ty 0).trans a1,_,⟨a2,?_,n4,fun hx => ?_,fun k hk => ?_,fun k hk => ?_⟩⟩
    ·have hB:=(Below.refl u.heap.size u).alloc (Nat.le_refl _) (.cells #[.slice q2.p q2.n q2.cp] 40)
     exact Mm.keep1 (Mm.below g1 hB) a3.size (a3.block gr (by omega) hM.out.vg)
    ·rcases a4 gr hx with e | e
     ·exact hM.out.vg e
     ·omega
    ·unfold upP
     by_cases e:k=i
     ·rw[if_pos e]
      intro h0 e2
      have:=hq8 h0
      omega
     ·rw[if_neg e]
      exact hM.out.pg k (by omega)
    ·unfold upP
     by_cases e:k=i
     ·rw[if_pos e,e,q5,q6]
      exact n3
     ·rw[if_neg e]
      exact hM.out.pb k (by omega)
   clear hL n2 n3 n4
   go_wp2_with (first
    | (go_at_call 173;refine Calls.mono HO.out ?_;rintro e w2 ⟨v,rfl,g1,g2,g3⟩;obtain⟨pp,pc,rfl,v',u2,ha,P',hP'⟩:=HA.out v w2 g1 g2 g3;have HAp:Hid _:=ha;have HP:Hid _:=hP';clear ha hP' g1 g2 g3)
    | (at_builtin;refine wpl_app rfl _ _ 131 rfl u9 (.slice (some ⟨w2.heap.size,0,none⟩) 1 1) v' rfl rfl (HAp.out _) ?_)
    | fail)
   go_roundw
   case rel=>exact⟨i+1,P',_,by simp,by omega,HP⟩
   case measure=>simp[RowKit.intOf];omega
  ·obtain rfl:i=l.length:=by omega
   go_wp2
   go_ret
   exact⟨_,_,_,rfl,hM.out⟩
end Wi
end Rg
end Go.Proofs.YtmcpagjhpfbpgaaGreatDoor
end
section
namespace Go.Proofs.YtmcpagjhpfbpgaaGreatDoor
open Go.RowKit
namespace Rg
namespace Wi
set_option maxRecDepth 100000
theorem ReadFields_q (q:Pt8) (l:List (List Nat)) (hl:l.length≤4096) (hn:q.n≤1048576) (hb:bs q.n q.f=wf l) (w:World) (hq:Pok q∧q.rs w) :
  Calls Tryz.prog 155 #[.slice q.p q.n q.cp] w fun e w'=>∃ v P,e=.returned (.tuple #[v,.int .i64 0])∧Lr w v l.length P w'∧∀ k,k<l.length→bs (P k).n (P k).f=l.getD k []:=by
 have hnI:¬(1048576:Int)<q.n:=by omega
 obtain⟨s1,s2,s3⟩:=bs_split (A:=wn 4 l.length) (R:=wfs l) hb
 rw[wn_len] at s1 s2 s3
 have hqlt:=hq.2.lt (by omega)
 have hb0:Below w.heap.size w (w.alloc (.cells #[.slice q.p q.n q.cp,.bool false] 216)):=(Below.refl _ w).alloc (Nat.le_refl _) _
 have hm0:Rdr w.heap.size q (w.alloc (.cells #[.slice q.p q.n q.cp,.bool false] 216)):=(Mm.nil w).alloc [.slice q.p q.n q.cp,.bool false] 216 rfl
 have HM:Hid _:=many_q w w.heap.size q.gb l hl (Nat.le_refl _) hqlt q (q.dp 4) hq rfl s1 s2 ⟨⟨hq.1.dp s1,Pt8.rs_dp hq.2 s1⟩,rfl,(by show q.n - 4≤_;omega),s3⟩ _ hb0 hm0
 clear s1 s2 s3 hb hb0 hm0 hq
 go_enter Tryz.func155,Tryz.ntmps155
 go_wp2_with (first
  | (go_at_call 172;refine Calls.mono HM.out ?_;rintro e w1 ⟨v,P,r,rfl,hM⟩;have H1:Hid _:=hM;have hr0:r.n=0:=(by have h:=hM.st.b;rw[List.drop_of_length_le (Nat.le_refl _)] at h;have:=congrArg List.length h;rwa [bs_len] at this);have hrd:=hM.rd;unfold Rdr at hrd;rw[hr0] at hrd;clear hM)
  | (go_at_call 154;refine(whole_yes w.heap.size r.p r.cp w1 hrd).mono ?_;rintro e w2 ⟨rfl,hb2⟩)
  | fail)
 go_ret2
 exact⟨v,P,rfl,H1.out.lr.step hb2,H1.out.pb⟩
theorem ReadInt_q (q:Pt8) (n:Nat) (hn:n<4611686018427387904) (hb:bs q.n q.f=wn 8 n) (w:World) (hq:Pok q∧q.rs w) :
  Calls Tryz.prog 120 #[.slice q.p q.n q.cp] w (Rt w (.tuple #[.int .i64 ((n:Nat):Int),.int .i64 0])):=by
 have hqn:q.n=8:=by have:=congrArg List.length hb;rwa [bs_len,wn_len] at this
 have hqlt:=hq.2.lt (by omega)
 have hm0:Rdr w.heap.size q (w.alloc (.cells #[.slice q.p q.n q.cp,.bool false] 216)):=(Mm.nil w).alloc [.slice q.p q.n q.cp,.bool false] 216 rfl
 have hb0:Hid (Below w.heap.size w (w.alloc (.cells #[.slice q.p q.n q.cp,.bool false] 216))):=(Below.refl _ w).alloc (Nat.le_refl _) _
 have hb8:bs 8 q.f=wn 8 n:=by rw[hqn] at hb;exact hb
 have HN:Hid _:=number_q w.heap.size 8 4611686018427387903 n q (by decide) (by decide) (by omega) (by decide) hb8 (nv8 hn hb8) (by omega) _ (by omega) ⟨hq.1,hq.2.below hb0.out⟩ hm0
 have hr0:(q.dp 8).n=0:=by show q.n - 8=0;omega
 clear hb hb8 hm0 hq hqn
 go_enter Tryz.func120,Tryz.ntmps120
 go_wp2_with (first
  | (go_at_call 153;refine Calls.mono HN.out ?_;rintro e w1 ⟨rfl,hrd,k1⟩;unfold Rdr at hrd;rw[hr0] at hrd;have hb1:Hid (Below w.heap.size w w1):=hb0.out.trans ((Kp.chg k1).toBelow (fun x hx=>by rw[List.mem_singleton.1 hx];exact Nat.le_refl _) hb0.out.size))
  | (go_at_call 154;refine(whole_yes w.heap.size (q.dp 8).p (q.dp 8).cp w1 hrd).mono ?_;rintro e w2 ⟨rfl,hb2⟩)
  | fail)
 go_ret2
 exact⟨rfl,zR _ _ hb1.out hb2⟩
end Wi
end Rg
end Go.Proofs.YtmcpagjhpfbpgaaGreatDoor
end
section
namespace Go.Proofs.YtmcpagjhpfbpgaaGreatDoor
open Go.RowKit
namespace Rg
namespace Wi
set_option maxRecDepth 100000
def noDefer (full:Array Oper):Bool:=full.all fun o=>match o.op with | .defer _=>false | _=>true
theorem up_in {P:Program} {o:Oper} {a:Act} {next next':Act→World→Prop} {Q:Exit→Act→World→Prop} (ro n:Nat) (hn:∀ a w,next a w→next' a w) (r:Result Next) (h:o.upon P a next Q r):o.uponIn (Fence.wide.inRound ro) n P a next' Q r:=by
 cases r with
 | ok x w =>
  cases x with
  | value v=>exact hn _ _ h
  | skip=>exact hn _ _ h
  | defer d=>exact hn _ _ h
  | enter f args =>
   refine⟨fun hd=>(by cases hd),CallsIn.inRound ro (callsIn_wide.2 (Calls.mono h fun e w' hh => ?_))⟩
   cases e with
   | returned v=>exact hn _ _ hh
   | panicked c=>exact hh
   | outgrown=>exact hh
  | row s args =>
   refine⟨fun hd=>(by cases hd),fun c cs _ => ?_⟩
   obtain⟨v,w',h1,h2⟩:=h c cs
   exact⟨v,w',hn _ _ h1,stepsIn_wide.2 h2⟩
  | _=>exact False.elim h
 | halt x w=>cases x <;> first | exact h | exact False.elim h
theorem op_in {P:Program} {full:Array Oper} {Q:Exit→Act→World→Prop} (ro n:Nat) (hnd:noDefer full=true) (hlo:¬LetsOut Q) {i:Nat} {K K':Act→World→Prop} (hK:∀ a w,K a w→K' a w) {a:Act} {w:World} (h:wpOp P full Q i K a w):wpOpIn (Fence.wide.inRound ro) n P full Q i K' a w:=by
 unfold wpOp at h
 unfold wpOpIn
 cases ho:full[i]? with
 | none=>rw[ho] at h;exact hK _ _ h
 | some o =>
  rw[ho] at h
  dsimp only at h ⊢
  split
  ·rename_i hw
   rw[if_pos hw] at h
   rcases h with h | h
   ·refine⟨fun _ _=>trivial,?_⟩
    have hd:∀ c,o.op≠.defer c:=fun c e=>by
     have:=Array.all_eq_true_iff_forall_mem.1 hnd o (Array.mem_of_getElem? ho)
     rw[e] at this
     cases this
    rw[Oper.semAt_eq _ _ _ hd]
    exact up_in ro n hK _ h
   ·exact absurd h.2 hlo
  ·rename_i hw
   rw[if_neg hw] at h
   exact⟨fun _ _=>trivial,hK _ _ h⟩
theorem any_in {P:Program} {full:Array Oper} {md:Region.Mode} {Q:Exit→Act→World→Prop} (ro n:Nat) (hnd:noDefer full=true) (hlo:¬LetsOut Q):∀ (fuel:Nat) (l:Array Bool) (a:Act) (w:World),wpAny P md full Q fuel l a w→wpAnyIn (Fence.wide.inRound ro) n P md full Q fuel l a w
 | 0,_,_,_,h=>h
 | fuel+1,_,_,_,h=>⟨h.1,fun i hi=>op_in ro n hnd hlo (fun a w hh=>any_in ro n hnd hlo fuel _ a w hh) (h.2 i hi)⟩
def Qn (K:Act→World→Prop):Exit→Act→World→Prop:=fun e a w=>e=.normal∧K a w
theorem Qn.lo (K:Act→World→Prop):¬LetsOut (Qn K):=by
 rintro⟨a,w,h,_⟩
 cases h
theorem wpIn_qn {F:Fence} {n:Nat} {P:Program} {c:Code} {Q:Exit→Act→World→Prop} {a:Act} {w:World} (h:c.wpIn F n P (Qn (Q .normal)) a w):c.wpIn F n P Q a w :=
 wpIn_mono h fun e a w hh=>by rw[hh.1];exact hh.2
theorem walk_value_in {P:Program} {Q:Exit→Act→World→Prop} {full:Array Oper} (ro n:Nat) (hnd:noDefer full=true) (hlo:¬LetsOut Q) {a:Act} {w:World} {id:Nat} (hm:P.follows .mixedOrders=true) (p:Nat) (late:List Nat) (ks:List Kind) (S:World→Prop) (pre:List Oper) (F:(Nat→Nat)→Act) (F':Value→(Nat→Nat)→Act) (op:Oper) (d:Nat) (hpre:full.toList.take p=pre)
  (hF:∀ γ,fill γ 0 pre ks a=F γ) (hF':∀ v γ,fill γ 0 pre ks (a.put (some d) v)=F' v γ) (hor:(orderly pre.toArray ks a.tmps.size && guarded pre.toArray p && enterly full p d a.tmps.size late)=true) (hop:full[p]?=some op) (hL:LaidOk ks ks) (hS:∀ w',Below w.heap.size w w'→S w')
  (hops:AllOk P pre.toArray S F pre ks) (hlate:∀ v,LateOk P pre.toArray ks (F' v) late)
  (hend:∀ γ w' l,Mem ks w l γ w'→(∀ i,i<p→l.getD i false=true)→∃ (v:Value) (w'':World),(execOp (F γ).eval op).run P w'=.ok (.value v) w''∧wpOps P full Q (List.range' (p+1) (full.size - (p+1))) (F' v γ) w'') :
  (Code.region id full true).wpIn (Fence.wide.inRound ro) n P Q a w:=by
 subst hpre
 obtain rfl:(fun γ=>fill γ 0 (full.toList.take p) ks a)=F:=funext hF
 obtain rfl:(fun v γ=>fill γ 0 (full.toList.take p) ks (a.put (some d) v))=F':=funext fun v=>funext (hF' v)
 simp only[Bool.and_eq_true] at hor
 obtain⟨⟨h1,h2⟩,h3⟩:=hor
 unfold enterly at h3
 rw[hop] at h3
 simp only[Bool.and_eq_true,decide_eq_true_eq,Option.isNone_iff_eq_none,beq_iff_eq] at h3
 obtain⟨⟨⟨⟨⟨⟨h5,h6⟩,h7⟩,⟨⟨h8,h9⟩,h10⟩,h11⟩,h12⟩,h13⟩,h14⟩:=h3
 have hsz:(full.toList.take p).toArray.size=p:=by simp;omega
 have hfu:∀ i,i<p→full[i]?=(full.toList.take p).toArray[i]?:=fun i hi=>by rw[← take_arr];exact first_full hi
 refine wpIn_region_any hm (any_in ro n hnd hlo _ _ _ _ (first_value (ops:=(full.toList.take p).toArray) (Orderly.of h1) rfl hL hS hsz h6 hfu (fun ho hg=>guarded_spec h2 ho hg) (fun ho e he hb => ?_) hop h8 h13 (fun j oj hj => ?_) h9 (fun cs b=>Region.noSelect_spec h7 p op cs b hop) (late:=late) (fun j hj => ?_) (fun d hd j oj hj hdj => ?_) (fun ho hi j hj => ?_) hlate hops hend full.size _ (fun _=>0) a w.drew (by simp) (by simp) (Closed.none _ _) (fun i _ hi=>none_listed' hi) (start_agree _ _) (start_mem _ _ (Below.refl _ _).drew)))
 ·have:=Array.all_eq_true_iff_forall_mem.1 (zK h5 ho) e he
  simpa [hb] using this
 ·have hj':j<p:=by rw[← hsz];exact(Array.getElem?_eq_some_iff.1 hj).1
  have:=zK h14 (by rw[hfu j hj'];exact hj)
  simp only[Bool.or_eq_true,decide_eq_true_eq,bne_iff_ne,ne_eq] at this
  rcases this with h | h
  ·omega
  ·exact h
 ·have:=List.all_eq_true.1 h10 j (List.mem_range.2 hj)
  simpa using this
 ·have hj':j<p:=by rw[← hsz];exact(Array.getElem?_eq_some_iff.1 hj).1
  have:=zK (List.all_eq_true.1 h11 d hd) (by rw[hfu j hj'];exact hj)
  simp only[hdj,bne_self_eq_false,Bool.false_or,Bool.or_eq_true,decide_eq_true_eq] at this
  rcases this with h | h
  ·exact h
  ·omega
 ·have:=zK h12 ho
  simp only[Bool.or_eq_true,decide_eq_true_eq] at this
  rcases this with h | h
  ·omega
  ·exact List.all_eq_true.1 h j (List.mem_range.2 hj)
end Wi
end Rg
end Go.Proofs.YtmcpagjhpfbpgaaGreatDoor
end
section
namespace Go.Proofs.YtmcpagjhpfbpgaaGreatDoor
open Go.RowKit
namespace Rg
namespace Wi
set_option maxRecDepth 100000
open Go.Shelf
attribute [local go_sem] Oper.semAt_some
def three (b:Nat) (j:Nat):Value:=.slice (some ⟨b,3*j,none⟩) 3 3
def fk (m k:Nat):List (Fin m):=(List.finRange m).take k
theorem fk_succ {m k:Nat} (h:k<m):fk m (k+1)=fk m k++[⟨k,h⟩]:=by
 unfold fk
 rw[List.take_add_one,List.getElem?_eq_getElem (by rw[List.length_finRange];exact h),List.getElem_finRange]
 rfl
theorem fk_len {m k:Nat} (h:k≤m):(fk m k).length=k:=by
 unfold fk
 rw[List.length_take,List.length_finRange,Nat.min_eq_left h]
def Kc (n₀ Bs Bn:Nat) (W W':World):Prop:=Below n₀ W W'∧W'.heap[Bs]?=W.heap[Bs]?∧W'.heap[Bn]?=W.heap[Bn]?
theorem Kc.refl (n₀ Bs Bn:Nat) (W:World):Kc n₀ Bs Bn W W:=⟨Below.refl _ _,rfl,rfl⟩
theorem Kc.trans {n₀ Bs Bn:Nat} {A B C:World} (h:Kc n₀ Bs Bn A B) (k:Kc n₀ Bs Bn B C):Kc n₀ Bs Bn A C:=⟨h.1.trans k.1,k.2.1.trans h.2.1,k.2.2.trans h.2.2⟩
theorem Kc.drew {n₀ Bs Bn:Nat} {A B:World} (h:Kc n₀ Bs Bn A B):Kc n₀ Bs Bn A B.drew:=⟨h.1.drew,h.2.1,h.2.2⟩
theorem Kc.put {n₀ Bs Bn:Nat} {w:World} (h1:n₀≤w.heap.size) (h2:Bs<w.heap.size) (h3:Bn<w.heap.size) (W:World) (l:Nat) (o o':Obj) (hl:w.heap.size≤l) (ho:W.heap[l]?=some o) (hc:o.isCells=false) (hw:o.isWalk=false):Kc n₀ Bs Bn W (W.putObj l o') :=
 ⟨belowK_b h1 W l o o' hl ho hc hw,by simp[World.putObj];rw[Array.getElem?_setIfInBounds_ne (by omega)],by simp[World.putObj];rw[Array.getElem?_setIfInBounds_ne (by omega)]⟩
theorem grown_drew (W:World):W.grownBy W.drew none:=⟨rfl,rfl,rfl,Nat.le_refl _,fun _ _ _=>rfl⟩
theorem chunk1_in (F:Fence) (n:Nat) (h8:F.fn 176) (hro:F.round=none) (hn:1≤n) (l Bs Bn n₀ b m M cap:Nat) (hm:m≤1000000) (hM0:M=3*m) (hcap:M≤cap) (J Jx:List (Fin m)→World→Prop) (hdr:∀ pre W,J pre W→J pre W.drew)
  (hY:∀ pre x W,J pre W→pre.length<m→YieldAt F (n - 1) Tryz.prog l #[three b x.1] W fun e W' =>
   (e=.returned (.bool true)∧J (pre++[x]) W'∧Kc n₀ Bs Bn W W')∨(e=.returned (.bool false)∧Jx (pre++[x]) W'))
  (W:World) (hBs:W.cell? ⟨Bs,0,none⟩=some (.slice (some ⟨b,0,none⟩) M cap)) (hBn:W.cell? ⟨Bn,0,none⟩=some (.int .i64 3)) (h0:J [] W) :
  CallsIn F n Tryz.prog 176 #[.func (.yield l) #[] #[],.pointer (some ⟨Bs,0,none⟩),.pointer (some ⟨Bn,0,none⟩)] W fun e W'=>(∃ v,e=.returned v) ∧
   ((∃ ys,ys=fk m m∧J ys W')∨(∃ pre,(∃ k,k≤m∧pre=fk m k)∧Jx pre W')):=by
 refine callsIn_of_wp Tryz.func176 rfl h8 ?_ hro
 simp only[Tryz.ntmps176,List.size_toArray,List.length_cons,List.length_nil,Nat.reduceAdd,Nat.reduceSub,Array.replicate_succ,Array.replicate_zero,List.push_toArray,List.append_toArray,List.nil_append,List.cons_append]
 have HM:Hid _:=hM0
 clear hM0
 gi_wp2
 gi_loopw [4] (fun i wr=>∃ k:Nat,k≤m∧i=.int .i64 ((3*k:Nat):Int)∧J (fk m k) wr∧Kc n₀ Bs Bn W wr)
  (fun i _=>((M:Int) - RowKit.intOf i).toNat)
 case atStart=>exact⟨0,Nat.zero_le _,by simp,h0,Kc.refl _ _ _ _⟩
 case round =>
  obtain⟨k,hk,rfl,hJs,hnx⟩:=hrel
  have hBs':=(World.cell?_of_block (a:=⟨Bs,0,none⟩) hnx.2.1).trans hBs
  have hBn':=(World.cell?_of_block (a:=⟨Bn,0,none⟩) hnx.2.2).trans hBn
  have hM1:=HM.out
  by_cases hlt:k<m
  ·obtain⟨fn,tmps,assign,body,hy,hR⟩:=hY _ ⟨k,hlt⟩ wr.drew (hdr _ _ hJs) (by rw[fk_len hk];exact hlt)
   obtain⟨t,ht⟩:∃ t,t=3*k:=⟨_,rfl⟩
   unfold three at hy
   dsimp only at hy
   rw[← ht] at hy ⊢
   have hltI:(t:Int)<(M:Int):=by omega
   have ht3:t+3≤M:=by rw[ht,HM.out];omega
   have htc:t+3≤cap:=by omega
   have hMb:M≤3000000:=by rw[HM.out];omega
   have hmin:min (3:Int) ((M - t:Nat):Int)=3:=by omega
   have HK:Hid (t=3*k∧k<m):=⟨ht,hlt⟩
   clear ht hk hM1
   gi_wp2
   gi_region
   all_goals (try (exfalso;omega))
   all_goals (
    gi_wp2
    refine hR.mono ?_
    rintro e W3 (⟨rfl,hJ3,hk3⟩ | ⟨rfl,hJx3⟩)
    ·have hBn3:W3.cell? ⟨Bn,0,none⟩=some (.int .i64 3):=(World.cell?_of_block (a:=⟨Bn,0,none⟩) hk3.2.2).trans hBn'
     gi_wp2
     go_roundw
     case rel=>exact⟨k+1,by omega,by rw[HK.out.1];simp;omega,by rw[fk_succ hlt];exact hJ3,hnx.drew.trans hk3⟩
     case measure=>simp[RowKit.intOf];omega
    ·gi_wp2
     refine bodyPost_ret (results_none rfl _ _ _) rfl ?_
     exact⟨⟨_,rfl⟩,.inr ⟨_,⟨k+1,by omega,(fk_succ hlt).symm⟩,hJx3⟩⟩)
  ·obtain rfl:k=m:=by omega
   rw[← hM1]
   clear hM1
   gi_wp2
   go_end0
   exact⟨⟨_,rfl⟩,.inl ⟨_,rfl,hJs⟩⟩
end Wi
end Rg
end Go.Proofs.YtmcpagjhpfbpgaaGreatDoor
end
section
namespace Go.Proofs.YtmcpagjhpfbpgaaGreatDoor
open Go.RowKit
namespace Rg
namespace Wi
set_option maxRecDepth 100000
open Go.Shelf
attribute [local go_sem] Oper.semAt_some
theorem chunk_in (F:Fence) (n:Nat) (h6:F.fn 156) (hro:F.round=none) (a:Option Addr) (len cap:Nat) (w:World) :
  CallsIn F n Tryz.prog 156 #[.slice a len cap,.int .i64 3] w fun e w'=>e=.returned (.func (.func 176) #[] #[.pointer (some ⟨w.heap.size,0,none⟩),.pointer (some ⟨w.heap.size+1,0,none⟩)])∧w'=(w.alloc (.cells #[.slice a len cap] 131)).alloc (.cells #[.int .i64 3] 3):=by
 refine callsIn_of_wp Tryz.func156 rfl h6 ?_ hro
 simp only[Tryz.ntmps156,List.size_toArray,List.length_cons,List.length_nil,Nat.reduceAdd,Nat.reduceSub,Array.replicate_succ,Array.replicate_zero,List.push_toArray,List.append_toArray,List.nil_append,List.cons_append]
 gi_wp2
 go_ret
 exact⟨rfl,rfl⟩
theorem chunk1_nil (F:Fence) (n:Nat) (h8:F.fn 176) (hro:F.round=none) (l Bs Bn:Nat) (J:List (Fin 0)→World→Prop) (W:World) (hBs:W.cell? ⟨Bs,0,none⟩=some (.slice none 0 0)) (h0:J [] W) :
  CallsIn F n Tryz.prog 176 #[.func (.yield l) #[] #[],.pointer (some ⟨Bs,0,none⟩),.pointer (some ⟨Bn,0,none⟩)] W fun e W'=>(∃ v,e=.returned v)∧J [] W':=by
 refine callsIn_of_wp Tryz.func176 rfl h8 ?_ hro
 simp only[Tryz.ntmps176,List.size_toArray,List.length_cons,List.length_nil,Nat.reduceAdd,Nat.reduceSub,Array.replicate_succ,Array.replicate_zero,List.push_toArray,List.append_toArray,List.nil_append,List.cons_append]
 gi_wp2
 gi_loopw [4] (fun i wr=>i=.int .i64 0∧wr=W) (fun _ _=>0)
 case atStart=>exact⟨rfl,rfl⟩
 case round =>
  obtain⟨rfl,rfl⟩:=hrel
  gi_wp2
  go_end0
  exact⟨⟨_,rfl⟩,h0⟩
def Fls (b m:Nat) (sv:Value):Prop:=(sv=.slice none 0 0∧m=0)∨∃ cap,sv=.slice (some ⟨b,0,none⟩) (3*m) cap∧3*m≤cap
theorem chunk_stops (F:Fence) (n:Nat) (h8:F.fn 176) (hro:F.round=none) (hn:1≤n) (Bs Bn n₀ b m:Nat) (hm:m≤1000000) (sv:Value) (hsv:Fls b m sv) (w:World) (h1:Bs<w.heap.size) (h2:Bn<w.heap.size)
  (hc:w.cell? ⟨Bs,0,none⟩=some sv) (hc2:w.cell? ⟨Bn,0,none⟩=some (.int .i64 3)) :
  SeqStopsK F n Tryz.prog 176 #[.pointer (some ⟨Bs,0,none⟩),.pointer (some ⟨Bn,0,none⟩)] (fun x:Fin m=>#[three b x.1]) (Kc n₀ Bs Bn) (fun ys=>ys=fk m m)
   (fun pre=>∃ k,k≤m∧pre=fk m k) m w:=fun l J Jx W hW hJ _ hY h0=>by
 have hc':=(hW.cell (p:=⟨Bs,0,none⟩) h1).trans hc
 have hc2':=(hW.cell (p:=⟨Bn,0,none⟩) h2).trans hc2
 rcases hsv with ⟨rfl,rfl⟩ | ⟨cap,rfl,h3⟩
 ·exact(chunk1_nil F n h8 hro l Bs Bn J W hc' h0).mono fun e W' ⟨he,hj⟩=>⟨he,.inl ⟨_,rfl,hj⟩⟩
 ·exact chunk1_in F n h8 hro hn l Bs Bn n₀ b m (3*m) cap hm rfl h3 J Jx (fun pre W hp=>hJ pre W W.drew none hp (grown_drew W) (fun r e=>by cases e)) hY W hc' hc2' h0
theorem p2s (q:Pt8) (s:ByteArray) (hn:q.n=s.size) (h0:0<s.size) (hb:bs q.n q.f=kb s) (u:World) (hq:Pok q∧q.rs u):(convert 40 9 (.slice q.p q.n q.cp)).run Tryz.prog u=.ok (.string s) u:=by
 have hp:=hq.1.addr (by omega)
 have hl:s.data.toList.length=q.n:=by rw[Array.length_toList];exact hn.symm
 have h:=run_convert_bytes_back (P:=Tryz.prog) u 40 9 5 ⟨q.gb,q.o,none⟩ q.cp s.data.toList Tryz.underlying40 (by kernel_rfl) Tryz.underlying9 (fun j hj=>by
  have hj':j<q.n:=by omega
  have ea:(⟨q.gb,q.o,none⟩:Addr).add j=⟨q.gb,q.o+j,none⟩:=by unfold Addr.add;split <;> simp_all
  rw[ea,hq.2.at_ j hj']
  have e:=congrArg (fun l=>l[j]?) hb
  rw[bs_get _ hj'] at e
  unfold kb at e
  rw[List.getElem?_map,List.getElem?_eq_getElem hj] at e
  rw[show q.f j=_ from Option.some.inj e])
 rw[hl] at h
 rw[hp]
 rw[h,Array.toArray_toList]
def cc (P:Nat→Pt8) (K:Nat→ByteArray) (G:Nat→Bool) (k:Nat):List Value:=[.string (K k),.slice (P (3*k+2)).p (P (3*k+2)).n (P (3*k+2)).cp,.bool (G k)]
theorem info_ch:∃ i,Tryz.prog.info? 65=some i∧i.zero=some (.agg #[.string ByteArray.empty,.slice none 0 0,.bool false])∧i.size=3∧i.bytes=48:=by
 obtain⟨i,hi⟩:∃ i,Tryz.prog.info? 65=some i:=by
  have h:(Tryz.prog.info? 65).isSome=true:=by kernel_rfl
  rcases e:Tryz.prog.info? 65 with _ | i
  ·rw[e] at h;cases h
  ·exact⟨i,rfl⟩
 have h1:(Tryz.prog.info? 65).map (·.zero)=some (some (.agg #[.string ByteArray.empty,.slice none 0 0,.bool false])):=by kernel_rfl
 have h2:(Tryz.prog.info? 65).map (·.size)=some 3:=by kernel_rfl
 have h3:(Tryz.prog.info? 65).map (·.bytes)=some 48:=by kernel_rfl
 rw[hi] at h1 h2 h3
 exact⟨i,hi,Option.some.inj h1,Option.some.inj h2,Option.some.inj h3⟩
section
variable {ρ:Operand→Value} {o:Oper} {x y z:Operand} {g k j m c:Nat} {v:Value} {w:World}
theorem ex_ld39 (c0:w.cell? ⟨g,k,none⟩=some v) (ho:o.op=.load 39 x) (hx:ρ x=PT g k):(execOp ρ o).run Tryz.prog w=.ok (.value v) w:=by
 simp only[execOp,ho,hx]
 clear ho hx
 go_simp
theorem ex_ix131 (ho:o.op=.indexAddr 131 x y) (hx:ρ x=.slice (some ⟨g,k,none⟩) m c) (hy:ρ y=.int .i64 ((j:Nat):Int)) (h:j<m):(execOp ρ o).run Tryz.prog w=.ok (.value (PT g (k+j))) w:=by
 simp only[execOp,ho,hx,hy]
 clear ho hx hy
 go_simp
theorem ex_cv {r:Value} (ho:o.op=.convert 40 9 x) (hx:ρ x=v) (h:(convert 40 9 v).run Tryz.prog w=.ok r w):(execOp ρ o).run Tryz.prog w=.ok (.value r) w:=by
 simp only[execOp,ho,hx,Sem.run_bind,h,Result.andThen_ok,Sem.run_pure]
theorem ex_st39 {n:Nat} (hb:Boxed w g 39 v) (ho:o.op=.store 39 x y) (hx:ρ x=PT g 0) (hy:ρ y=.slice (some ⟨k,0,none⟩) n c):(execOp ρ o).run Tryz.prog w=.ok .skip (w.setCell ⟨g,0,none⟩ (.slice (some ⟨k,0,none⟩) n c)):=by
 have c0:=hb.cell
 have f0:=hb.frozen
 simp only[execOp,ho,hx,hy]
 clear ho hx hy hb
 go_simp
theorem ex_bs39 {a b d:Value} (ho:o.op=.buildSlice 39 1 #[(0,x)]) (hx:ρ x=.agg #[a,b,d]):(execOp ρ o).run Tryz.prog w=.ok (.value (.slice (some ⟨w.heap.size,0,none⟩) 1 1)) (w.alloc (.cells ([a,b,d]:List Value).toArray 65)):=by
 simp only[execOp,ho,List.map_toArray,List.map_cons,List.map_nil,hx]
 kernel_rfl
theorem ex_app39 {vv sv v':Value} {w2:World} (ho:o.op=.call { callee:=.builtin .append,args:=#[x,y],argTypes:=#[39,39] }) (hx:ρ x=vv) (hy:ρ y=sv) (hr:(Builtin.append_ #[39,39] o.type #[vv,sv]).run Tryz.prog w=.ok v' w2):(execOp ρ o).run Tryz.prog w=.ok (.value v') w2:=by
 unfold execOp
 simp only[ho,resolve,invoke,builtin,Sem.run_bind,Sem.run_pure,Result.andThen_ok,List.map_toArray,List.map_cons,List.map_nil,hx,hy,hr]
end
theorem box_app {W w3:World} {bl Bs Bn gs k:Nat} {sv v:Value} {xs news:List Value} (hv:Boxed W bl 39 v) (hrow:W.ownsRow bl 65 3 v k xs) (hs:Boxed W Bs 131 sv) (hn:Boxed W Bn 3 (.int .i64 3)) (hk:k≤1000) (hb:Below W.heap.size W w3) (hsb:Bs≠bl) (hnb:Bn≠bl)
  (hl:news.length=3) (hnew:∀ j u,news[j]?=some u→w3.cell? ⟨gs,j,none⟩=some u) (h1:∀ u∈news,u.oneCell'=true) (ty:TypeId) :
  ∃ g c w2,(Builtin.append_ #[39,39] ty #[v,.slice (some ⟨gs,0,none⟩) 1 1]).run Tryz.prog w3=.ok (.slice (some ⟨g,0,none⟩) (k+1) c) w2∧Boxed w2 bl 39 v ∧
   Boxed (w2.setCell ⟨bl,0,none⟩ (.slice (some ⟨g,0,none⟩) (k+1) c)) bl 39 (.slice (some ⟨g,0,none⟩) (k+1) c) ∧
   (w2.setCell ⟨bl,0,none⟩ (.slice (some ⟨g,0,none⟩) (k+1) c)).ownsRow bl 65 3 (.slice (some ⟨g,0,none⟩) (k+1) c) (k+1) (xs++news) ∧
   KeepsOthers W (w2.setCell ⟨bl,0,none⟩ (.slice (some ⟨g,0,none⟩) (k+1) c))∧Kc bl Bs Bn W (w2.setCell ⟨bl,0,none⟩ (.slice (some ⟨g,0,none⟩) (k+1) c)):=by
 obtain⟨i0,hi,hz0,hz1,hz2⟩:=info_ch
 have hrow3:w3.ownsRow bl 65 3 v k xs:=own_keep hrow (fun x hx=>hb.block x (own_lt hrow x hx))
 have hv3:Boxed w3 bl 39 v:=(hb.block bl hv.lt).trans hv
 have hs3:Boxed w3 Bs 131 sv:=(hb.block Bs hs.lt).trans hs
 have hn3:Boxed w3 Bn 3 (.int .i64 3):=(hb.block Bn hn.lt).trans hn
 obtain⟨v',w2,r1,r2,r3,_,r5⟩:=run_append_own_at (P:=Tryz.prog) w3 bl 39 ty 65 i0 _ 3 48 Tryz.underlying39 hi hz0 hz1 hz2 rfl (by decide) v k _ hrow3 ⟨gs,0,none⟩ 1 1 news (by rw[hl])
  (fun j u hj=>by rw[add_z];exact hnew j u hj) h1 (by unfold maxLen;omega) (by omega) (Nat.le_trans (Nat.le_of_lt hv.lt) hb.size)
 obtain⟨g,c,rfl⟩:=ownsRow_succ r2
 have hv2:Boxed w2 bl 39 v:=hv3.kept r3 (hv3.not_row (by decide) hrow3)
 have hne:some bl≠(Value.slice (some ⟨g,0,none⟩) (k+1) c).ownBlock:=hv2.not_row (by decide) r2
 refine⟨g,c,w2,r1,hv2,hv2.set _,r2.kept (grownBy_setCell' w2 bl _) (.inr hne.symm),?_,?_,?_,?_⟩
 ·have k1:KeepsOthers W w3:=⟨hb.size,fun x o hx _=>(hb.block x (Array.getElem?_eq_some_iff.1 hx).1).trans hx⟩
  refine(k1.trans (KeepsOthers.of_grownBy r3 fun j o ej hj => ?_)).trans (KeepsOthers.setCell _ _ _)
  rcases hrow3.2 with ⟨rfl,_⟩ | ⟨g',cap,cur,rfl,_,hgb,_⟩
  ·simp[Value.ownBlock] at ej
  ·obtain rfl:g'=j:=by simpa [Value.ownBlock] using ej
   rw[hgb] at hj;cases hj;rfl
 ·refine((hb.mono (Nat.le_of_lt hv.lt)).grown r3 (Nat.le_trans (Nat.le_of_lt hv.lt) hb.size) fun j ej => ?_).setCell (p:=⟨bl,0,none⟩) (Nat.le_refl _) _
  rcases hrow3.2 with ⟨rfl,_⟩ | ⟨g',cap,cur,rfl,hb',_,_⟩
  ·simp[Value.ownBlock] at ej
  ·obtain rfl:g'=j:=by simpa [Value.ownBlock] using ej
   exact hb'
 ·exact(((hs3.kept r3 (hs3.not_row (by decide) hrow3)).other hsb _).trans hs.symm)
 ·exact(((hn3.kept r3 (hn3.not_row (by decide) hrow3)).other hnb _).trans hn.symm)
end Wi
end Rg
end Go.Proofs.YtmcpagjhpfbpgaaGreatDoor
end
section
namespace Go.Proofs.YtmcpagjhpfbpgaaGreatDoor
open Go.RowKit
namespace Rg
namespace Wi
set_option maxRecDepth 100000
open Go.Shelf
attribute [local go_sem] Oper.semAt_some
def Qm (K:Act→World→Prop):Exit→Act→World→Prop
 | .normal,a,w=>K a w
 | _,_,_=>False
theorem wpIn_qm {F:Fence} {n:Nat} {P:Program} {c:Code} {Q:Exit→Act→World→Prop} {a:Act} {w:World} (h:c.wpIn F n P (Qm (Q .normal)) a w):c.wpIn F n P Q a w :=
 wpIn_mono h fun e a w hh=>by cases e <;> first | exact hh | exact hh.elim
def Ch.ok (c:Ch):Prop:=0<c.k.size∧c.k.size≤128∧c.v.length≤8192∧(c.gn=true→c.v=[])
def ch0:Ch:=⟨ByteArray.empty,[],false⟩
theorem fs_at:∀ (l:List Ch) (i:Nat),i<l.length→(l.flatMap Ch.fs).getD (3*i) []=[if (l.getD i ch0).gn then 1 else 0]∧(l.flatMap Ch.fs).getD (3*i+1) []=kb (l.getD i ch0).k∧(l.flatMap Ch.fs).getD (3*i+2) []=(l.getD i ch0).v
 | [],i,h=>absurd h (Nat.not_lt_zero _)
 | c :: r,0,_=>⟨rfl,rfl,rfl⟩
 | c :: r,i+1,h=>by
  have ih:=fs_at r i (by simpa using h)
  have e:∀ j,((c :: r).flatMap Ch.fs).getD (3*(i+1)+j) []=(r.flatMap Ch.fs).getD (3*i+j) []:=fun j=>by
   rw[show 3*(i+1)+j=(3*i+j)+1+1+1 by omega]
   rfl
  exact⟨(e 0).trans ih.1,(e 1).trans ih.2.1,(e 2).trans ih.2.2⟩
theorem fs_len:∀ (l:List Ch),(l.flatMap Ch.fs).length=3*l.length
 | []=>rfl
 | c :: r=>by
  rw[List.flatMap_cons,List.length_append,fs_len r]
  simp[Ch.fs]
  omega
theorem mark_at {q:Pt8} {a:Nat} {u:World} (hb:bs q.n q.f=[a]) (hq:Pok q∧q.rs u):q.p=some ⟨q.gb,q.o,none⟩∧q.n=1∧u.cell? ⟨q.gb,q.o,none⟩=some (Z8 a):=by
 have h1:q.n=1:=by have:=congrArg List.length hb;rwa [bs_len] at this
 have e:=congrArg (fun l=>l[0]?) hb
 rw[bs_get _ (by omega)] at e
 have e':q.f 0=a:=Option.some.inj e
 exact⟨hq.1.addr (by omega),h1,by have:=hq.2.at_ 0 (by omega);rwa [e'] at this⟩
theorem Kc.own {β:Type} {n₀ Bs Bn:Nat} {w:World} (h1:n₀≤w.heap.size) (h2:Bs<w.heap.size) (h3:Bn<w.heap.size):OwnFrom w.heap.size (fun (_:β) W=>Kc n₀ Bs Bn w W) :=
 fun s A B row hs hg hr=>⟨ownFrom_below (β:=β) h1 h1 s A B row hs.1 hg hr,
  (hg.block Bs (Nat.lt_of_lt_of_le h2 hs.1.size) (fun e=>by have:=(hr _ e.symm).1;omega)).trans hs.2.1,
  (hg.block Bn (Nat.lt_of_lt_of_le h3 hs.1.size) (fun e=>by have:=(hr _ e.symm).1;omega)).trans hs.2.2⟩
def Fx (m:Nat) (P:Nat→Pt8) (K:Nat→ByteArray) (G:Nat→Bool) (V:Nat→List Nat):Prop :=
 ∀ k,k<m→bs (P (3*k)).n (P (3*k)).f=[if G k then 1 else 0]∧bs (P (3*k+1)).n (P (3*k+1)).f=kb (K k)∧0<(K k).size∧bs (P (3*k+2)).n (P (3*k+2)).f=V k
def Vx (m:Nat) (K:Nat→ByteArray) (G:Nat→Bool) (V:Nat→List Nat):Prop:=∀ k,k<m→0<(K k).size∧(K k).size≤128∧(V k).length≤8192∧(G k=true→V k=[])
def cqs (P:Nat→Pt8) (K:Nat→ByteArray) (G:Nat→Bool) (i:Nat):Cq:={ k:=K i,q:=P (3*i+2),gn:=G i }
theorem ferr_z (C:Nat→Cq):∀ m,(∀ i,i<m→(C i).fit=0)→ferr C m=0
 | 0,_=>rfl
 | m+1,h=>by
  unfold ferr
  rw[if_pos (ferr_z C m fun i hi=>h i (by omega))]
  exact h m (by omega)
theorem Fx.fit {m:Nat} {P:Nat→Pt8} {K:Nat→ByteArray} {G:Nat→Bool} {V:Nat→List Nat} (h:Fx m P K G V) (hv:Vx m K G V):ferr (cqs P K G) m=0 :=
 ferr_z _ m fun i hi=>by
  obtain⟨h1,h2,h3,h4⟩:=hv i hi
  have hn:(P (3*i+2)).n=(V i).length:=by have:=congrArg List.length (h i hi).2.2.2;rwa [bs_len] at this
  unfold Cq.fit cqs
  dsimp only
  rw[if_neg,if_neg]
  ·omega
  ·rintro (h | ⟨h,h'⟩)
   ·omega
   ·rw[h4 h] at hn
    simp at hn
    omega
theorem fk_flat {m:Nat} (f:Nat→List Value) (hf:∀ i,(f i).length=3):∀ k,k≤m→((fk m k).flatMap fun x=>f x.1).length=3*k∧∀ i j,i<k→j<3→((fk m k).flatMap fun x=>f x.1)[3*i+j]?=(f i)[j]?
 | 0,_=>⟨by simp[fk],fun i j hi=>absurd hi (Nat.not_lt_zero _)⟩
 | k+1,hk=>by
  obtain⟨h1,h2⟩:=fk_flat (m:=m) f hf k (by omega)
  rw[fk_succ (show k<m by omega),List.flatMap_append,List.flatMap_singleton]
  refine⟨by rw[List.length_append,h1,hf];omega,fun i j hi hj => ?_⟩
  by_cases h:i<k
  ·rw[List.getElem?_append_left (by omega)]
   exact h2 i j h hj
  ·obtain rfl:i=k:=by omega
   rw[List.getElem?_append_right (by omega),h1,show 3*i+j - 3*i=j by omega]
theorem row_cl {W:World} {bl m:Nat} {v:Value} {P:Nat→Pt8} {K:Nat→ByteArray} {G:Nat→Bool} (h:W.ownsRow bl 65 3 v (fk m m).length ((fk m m).flatMap fun x=>cc P K G x.1)) :
  ∃ p g c,v=.slice p m c∧(0<m→bl≤g)∧Cl p g 0 m (cqs P K G) W:=by
 rw[fk_len (Nat.le_refl m)] at h
 obtain⟨f1,f2⟩:=fk_flat (m:=m) (cc P K G) (fun _=>rfl) m (Nat.le_refl _)
 rcases h.2 with ⟨h1,h2⟩ | ⟨g,cap,cur,h1,h2,h3,_⟩
 ·exact⟨none,0,0,by rw[h1,h2],fun h0=>by omega,fun h0=>by omega,fun h0=>by omega,fun i hi=>by omega,fun i hi=>by omega,fun i hi=>by omega⟩
 ·subst h1
  have key:∀ i j,i<m→j<3→W.cell? ⟨g,0+i*3+j,none⟩=(cc P K G i)[j]?:=fun i j hi hj=>by
   rw[show 0+i*3+j=3*i+j by omega,h.cellAt (3*i+j) (by omega)]
   exact f2 i j hi hj
  exact⟨_,g,cap,rfl,fun _=>h2,fun _=>rfl,fun _=>(Array.getElem?_eq_some_iff.1 h3).1,fun i hi=>key i 0 hi (by omega),fun i hi=>key i 1 hi (by omega),fun i hi=>key i 2 hi (by omega)⟩
theorem cell_ne {W:World} {D:Nat} {r:Option (List Deferred)} {p:Addr} {v:Value} (hd:W.heap[D]?=some (.deferred r)) (hc:W.cell? p=some v):p.block≠D:=fun e=>by
 unfold World.cell? at hc
 rw[e,hd] at hc
 simp at hc
theorem results_c2 {fn:Func} {p u:Tmp} (h:fn.results=#[.cell p 39,.cell u 4]) (tmps:Array Value) (w:World) {g1 g2:Nat} {pp:Option Addr} {n c:Nat} {bv:Bool} (h1:tmps.getD p undef=PT g1 0) (h2:tmps.getD u undef=PT g2 0) (c1:w.cell? ⟨g1,0,none⟩=some (.slice pp n c)) (c2:w.cell? ⟨g2,0,none⟩=some (.bool bv)) :
  (results fn tmps).run Tryz.prog w=.ok (.tuple #[.slice pp n c,.bool bv]) w:=by
 have e1:tmps[p]?.getD undef=.pointer (some ⟨g1,0,none⟩):=by rw[← Array.getD_eq_getD_getElem?];exact h1
 have e2:tmps[u]?.getD undef=.pointer (some ⟨g2,0,none⟩):=by rw[← Array.getD_eq_getD_getElem?];exact h2
 clear h1 h2
 simp only[results,h]
 simp[Sem.run_bind,Result.andThen,e1,e2]
 go_simp
structure Bt (w:World) (m:Nat) (P:Nat→Pt8) (K:Nat→ByteArray) (G:Nat→Bool) (V:Nat→List Nat) (p:Option Addr) (g:Nat) (u:World):Prop where
 b:Below w.heap.size w u
 cl:Cl p g 0 m (cqs P K G) u
 gl:0<m→w.heap.size≤g
 vs:∀ i,i<m→Pq (P (3*i+2)) u∧(∀ x∈gbl (P (3*i+2)),w.heap.size≤x)∧bs (P (3*i+2)).n (P (3*i+2)).f=V i
theorem rbatch_q (q:Pt8) (m N:Nat) (l:List (List Nat)) (hm:l.length=N) (hN0:N=3*m) (hm64:m≤64) (hn:q.n≤1048576) (hb:bs q.n q.f=wf l) (K:Nat→ByteArray) (G:Nat→Bool) (V:Nat→List Nat) (hV:Vx m K G V)
  (hK:∀ k,k<m→l.getD (3*k) []=[if G k then 1 else 0]∧l.getD (3*k+1) []=kb (K k)∧l.getD (3*k+2) []=V k) (w:World) (hq:Pok q∧q.rs w) :
  Calls Tryz.prog 122 #[.slice q.p q.n q.cp] w fun e w'=>∃ (p:Option Addr) (g c:Nat) (P:Nat→Pt8),e=.returned (.tuple #[.slice p m c,.bool true])∧Bt w m P K G V p g w':=by
 have HR:Hid (∀ u,Below w.heap.size w u→Calls Tryz.prog 155 #[.slice q.p q.n q.cp] u fun e w'=>∃ (v:Value) (P:Nat→Pt8),e=.returned (.tuple #[v,.int .i64 0])∧Lr u v N P w'∧Fx m P K G V):=fun u hu=>by
  have h:=ReadFields_q q l (by omega) hn hb u ⟨hq.1,hq.2.below hu⟩
  rw[hm] at h
  exact h.mono fun e w' ⟨v,P,h1,h2,h3⟩=>⟨v,P,h1,h2,fun k hk=>⟨(h3 _ (by omega)).trans (hK k hk).1,(h3 _ (by omega)).trans (hK k hk).2.1,(hV k hk).1,(h3 _ (by omega)).trans (hK k hk).2.2⟩⟩
 have hmod:((N:Nat):Int).tmod 3=0:=by
  rw[hN0]
  exact Int.tmod_eq_zero_of_dvd ⟨(m:Int),by push_cast;rfl⟩
 have HN:Hid _:=hN0
 have HV:Hid _:=hV
 clear hN0 hm hb hq hK hV
 refine(callsIn_wide (n:=9)).1 ?_
 have hro:Fence.wide.round=none:=rfl
 refine callsIn_of_wp_marks Tryz.func122 rfl trivial ?_ hro
 simp only[Tryz.ntmps122,List.size_toArray,List.length_cons,List.length_nil,Nat.reduceAdd,Nat.reduceSub,Array.replicate_succ,Array.replicate_zero,List.push_toArray,List.append_toArray,List.nil_append,List.cons_append]
 have hB0:Hid (Below w.heap.size w ((w.alloc (.cells #[.slice none 0 0] 39)).alloc (.cells #[.bool false] 4))):=((Below.refl _ w).alloc (Nat.le_refl _) _).alloc (by simp) _
 gi_wp2_with (first
  | (gi_at_call 155;refine(callsIn_wide.2 (HR.out _ hB0.out)).mono ?_;rintro e w1 ⟨v,P,rfl,hL,hP⟩;obtain⟨pv,cv,rfl,hcv⟩:=own_slice hL.own;have HL:Hid _:=hL;have HP:Hid _:=hP;clear hL hP)
  | (refine⟨trivial,?_⟩;gi_at_call 155;refine(callsIn_wide.2 (HR.out _ hB0.out)).mono ?_;rintro e w1 ⟨v,P,rfl,hL,hP⟩;obtain⟨pv,cv,rfl,hcv⟩:=own_slice hL.own;have HL:Hid _:=hL;have HP:Hid _:=hP;clear hL hP)
  | (gi_at_call 156;refine(chunk_in Fence.wide _ trivial hro _ _ _ _).mono ?_;rintro e w' ⟨rfl,rfl⟩)
  | (refine⟨trivial,?_⟩;gi_at_call 156;refine(chunk_in Fence.wide _ trivial hro _ _ _ _).mono ?_;rintro e w' ⟨rfl,rfl⟩))
 have hL:=HL.out
 have hN0:=HN.out
 have hsw:w.heap.size+2≤w1.heap.size:=by have:=hL.b.size;simpa using this
 have bF:=((Boxed.new w1 39 (.slice none 0 0)).alloc (.cells #[.slice pv N cv] 131)).alloc (.cells #[.int .i64 3] 3)
 have bS:=(Boxed.new (w1.alloc (.cells #[.slice none 0 0] 39)) 131 (.slice pv N cv)).alloc (.cells #[.int .i64 3] 3)
 have bN:=Boxed.new ((w1.alloc (.cells #[.slice none 0 0] 39)).alloc (.cells #[.slice pv N cv] 131)) 3 (.int .i64 3)
 simp only[World.size_alloc] at bF bS bN
 have hB1:Below w1.heap.size w1 (((w1.alloc (.cells #[.slice none 0 0] 39)).alloc (.cells #[.slice pv N cv] 131)).alloc (.cells #[.int .i64 3] 3)):=(((Below.refl _ w1).alloc (Nat.le_refl _) _).alloc (by simp) _).alloc (by simp;omega) _
 have hsz:(((w1.alloc (.cells #[.slice none 0 0] 39)).alloc (.cells #[.slice pv N cv] 131)).alloc (.cells #[.int .i64 3] 3)).heap.size=w1.heap.size+3:=by simp
 obtain⟨W0,hW0⟩:∃ W0,((w1.alloc (.cells #[.slice none 0 0] 39)).alloc (.cells #[.slice pv N cv] 131)).alloc (.cells #[.int .i64 3] 3)=W0:=⟨_,rfl⟩
 rw[hW0] at bF bS bN hB1 hsz ⊢
 clear hW0
 obtain⟨b,hbp,hFl⟩:∃ b,(0<m→pv=some ⟨b,0,none⟩∧b<w1.heap.size∧∀ i,i<N→w1.cell? ⟨b,i,none⟩=some (.slice (P i).p (P i).n (P i).cp))∧Fls b m (.slice pv N cv):=by
  rcases hL.own.2 with ⟨h1,h2⟩ | ⟨g,cap,cur,h1,h2,h3,h4⟩
  ·exact⟨0,fun h0=>absurd h2 (by omega),.inl ⟨h1,by omega⟩⟩
  ·have hO:=hL.own
   rw[h1] at hO
   refine⟨g,fun _=>⟨by cases h1;rfl,(Array.getElem?_eq_some_iff.1 h3).1,fun i hi => ?_⟩,.inr ⟨cap,by rw[h1,hN0],by omega⟩⟩
   rw[hO.cellAt i (by omega),pcs_get P hi]
 refine wpIn_rangeFunc_ownF hro (by decide) (gf:=176) (lb:=#[.pointer (some ⟨w1.heap.size+1,0,none⟩),.pointer (some ⟨w1.heap.size+1+1,0,none⟩)]) rfl trivial (enters_of Tryz.func176 (by kernel_rfl) rfl)
  (chunk_stops Fence.wide _ trivial hro (by decide) (w1.heap.size+1) (w1.heap.size+1+1) w1.heap.size b m (by omega) (.slice pv N cv) hFl W0 (by omega) (by omega) bS.cell bN.cell)
  Kc.trans (Kc.put (by omega) (by omega) (by omega)) (Below.refl _ _) (fun _=>rfl)
  (fun pre W=>(∃ v,Boxed W w1.heap.size 39 v∧W.ownsRow w1.heap.size 65 3 v pre.length (pre.flatMap fun x=>cc P K G x.1)∧True)∧Kc w1.heap.size (w1.heap.size+1) (w1.heap.size+1+1) W0 W)
  (fun _ _ _=>False)
  (OwnFrom.and (Own.from (holdsRow_own _ _ _ _ _ List.length _ (fun _ _=>True)) _) (Kc.own (by omega) (by omega) (by omega)))
  (fun _ _ _ _ _ h _ _=>h)
  ⟨⟨_,bF,World.ownsRow_nil _ _ _ _,trivial⟩,Kc.refl _ _ _ _⟩
  (fun x=>{ tmps:=#[.slice q.p q.n q.cp,ud,PT w.heap.size 0,PT (w.heap.size+1) 0,.slice pv N cv,.int .i64 0,PT w1.heap.size 0,three b x.1,ud,.tuple #[.slice pv N cv,.int .i64 0],.slice q.p q.n q.cp,.tuple #[.slice pv N cv,.int .i64 0],.slice pv N cv,.int .i64 0,.int .i64 0,.bool false,.bool false,.slice pv N cv,.int .i64 (N:Int),.int .i64 0,.bool false,.bool false,.slice pv N cv,.func (.func 176) #[] #[.pointer (some ⟨w1.heap.size+1,0,none⟩),.pointer (some ⟨w1.heap.size+1+1,0,none⟩)],three b x.1,ud,ud,ud,ud,ud,ud,ud,ud,ud,ud,ud,ud,ud,ud,ud,ud,ud,ud,ud,ud,ud,ud,ud,ud,ud,ud,ud,ud,ud,ud,ud,ud,ud,ud,ud,ud,ud],defers:=[] }) ?assign ?body ?done ?stop
 all_goals clear hN0
 case assign =>
  intro l x W K' hK'
  gi_wp2
  exact hK'
 case body =>
  rintro l pre ⟨k,hk⟩ W ⟨⟨v,hv,hrow,-⟩,hG⟩ hlt
  have hN0:=HN.out
  obtain⟨hpv,hblt,hcel⟩:=hbp (by omega)
  have hBW:Below w1.heap.size w1 W:=hB1.trans hG.1
  have hc0:=(hBW.cell (p:=⟨b,3*k,none⟩) hblt).trans (hcel (3*k) (by omega))
  have hc1:=(hBW.cell (p:=⟨b,3*k+1,none⟩) hblt).trans (hcel (3*k+1) (by omega))
  have hc2:=(hBW.cell (p:=⟨b,3*k+2,none⟩) hblt).trans (hcel (3*k+2) (by omega))
  obtain⟨f0,f1,f2,-⟩:=HP.out k hk
  have o0:=hL.ok (3*k) (by omega)
  have o1:=hL.ok (3*k+1) (by omega)
  obtain⟨gk,hgk⟩:∃ gk,gk=G k:=⟨_,rfl⟩
  rw[← hgk] at f0
  obtain⟨p0,n0,m0⟩:=mark_at f0 ⟨o0.1,o0.2.2.1.below hBW⟩
  have hn1:(P (3*k+1)).n=(K k).size:=by have:=congrArg List.length f1;rwa [bs_len,kb_len] at this
  have hcvt:Hid (∀ u,Below W.heap.size W u→(convert 40 9 (.slice (P (3*k+1)).p (P (3*k+1)).n (P (3*k+1)).cp)).run Tryz.prog u=.ok (.string (K k)) u):=fun u hu=>p2s _ _ hn1 f2 f1 u ⟨o1.1,(o1.2.2.1.below hBW).below hu⟩
  rw[p0,n0] at hc0
  have hgm:(P (3*k)).gb<W.heap.size:=by have:=(o0.2.2.1.below hBW).lt (by omega);exact this
  clear p0 n0 o0 o1 f0 f1 f2 hn1 hcel hBW hpv
  have hcc:Hid (cc P K G k=[.string (K k),.slice (P (3*k+2)).p (P (3*k+2)).n (P (3*k+2)).cp,.bool gk]):=by rw[hgk];rfl
  clear hgk
  generalize (P (3*k)).gb=gm at hc0 m0 hgm
  generalize (P (3*k)).o=om at hc0 m0
  generalize (P (3*k)).cp=cm at hc0
  obtain⟨q1,hq1⟩:∃ x,x=P (3*k+1):=⟨_,rfl⟩
  obtain⟨q2,hq2⟩:∃ x,x=P (3*k+2):=⟨_,rfl⟩
  rw[← hq1] at hc1 hcvt
  rw[← hq2] at hc2 hcc
  obtain⟨t,ht⟩:∃ t,t=3*k:=⟨_,rfl⟩
  unfold three
  dsimp only
  rw[← ht] at hc0 hc1 hc2 ⊢
  have hv0:=hv.cell
  have hbW:b<W.heap.size:=by have:=hG.1.size;omega
  have bS':Boxed W (w1.heap.size+1) 131 (.slice pv N cv):=hG.2.1.trans bS
  have bN':Boxed W (w1.heap.size+1+1) 3 (.int .i64 3):=hG.2.2.trans bN
  clear hN0 ht hq1 hq2
  cases gk
  ·have m1:W.cell? ⟨gm,om,none⟩=some (.int .u8 0):=m0
   clear m0
   gi_wp2
   refine wpIn_qn ?_
   refine walk_value_in l _ (by kernel_rfl) (Qn.lo _) (by kernel_rfl) 14 [] [.q v,.q (.slice (some ⟨b,t,none⟩) 3 3),.q (PT b (t+1)),.q (.slice q1.p q1.n q1.cp),.q (.string (K k)),.q (.slice (some ⟨b,t,none⟩) 3 3),.q (PT b (t+2)),.q (Value.slice q2.p q2.n q2.cp),.q (.slice (some ⟨gm,om,none⟩) 1 cm),.q (PT gm om),.q (Z8 0),.q (.bool false),.q (.agg #[.string (K k),Value.slice q2.p q2.n q2.cp,.bool false]),.row (fun g=>.slice (some ⟨g,0,none⟩) 1 1) [.string (K k),Value.slice q2.p q2.n q2.cp,.bool false] 65]
    (fun u=>Below W.heap.size W u∧u.cell? ⟨w1.heap.size,0,none⟩=some v∧u.cell? ⟨b,t+1,none⟩=some (.slice q1.p q1.n q1.cp)∧u.cell? ⟨b,t+2,none⟩=some (Value.slice q2.p q2.n q2.cp)∧u.cell? ⟨gm,om,none⟩=some (Z8 0))
    ?prez0 ?Fz0 ?Gz0 _ 57 ?hprez0 (fun γ => ?hFz0) (fun v γ => ?hGz0) (by kernel_rfl) rfl ?hLz0 ?hSz0 ?hoz0 (fun v => ?hlaz0) ?hez0
   case hprez0=>simp only[tk,tz];rfl
   case hFz0=>simp only[fill,Kind.val,Act.put,sa,sz,ss];rfl
   case hGz0=>simp only[fill,Kind.val,Act.put,sa,sz,ss];rfl
   case hLz0=>exact trivial
   case hSz0=>exact fun u hu=>⟨hu,(hu.cell (p:=⟨_,0,none⟩) hv.lt).trans hv0,(hu.cell (p:=⟨b,t+1,none⟩) hbW).trans hc1,(hu.cell (p:=⟨b,t+2,none⟩) hbW).trans hc2,(hu.cell (p:=⟨gm,om,none⟩) hgm).trans m1⟩
   case hoz0 =>
    refine ak (fun γ=>⟨rfl,fun u h=>ex_ld39 h.2.1 rfl rfl⟩) ?_
    refine ar ?_
    refine ak (fun γ=>⟨rfl,fun u _=>ex_ix131 (j:=1) rfl rfl rfl (by decide)⟩) ?_
    refine ak (fun γ=>⟨rfl,fun u h=>ex_ldS h.2.2.1 rfl rfl⟩) ?_
    refine ak (fun γ=>⟨rfl,fun u h=>ex_cv rfl rfl (hcvt.out u h.1)⟩) ?_
    refine ar ?_
    refine ak (fun γ=>⟨rfl,fun u _=>ex_ix131 (j:=2) rfl rfl rfl (by decide)⟩) ?_
    refine ak (fun γ=>⟨rfl,fun u h=>ex_ldS h.2.2.2.1 rfl rfl⟩) ?_
    refine ar ?_
    refine ak (fun γ=>⟨rfl,fun u _=>ex_ixS22 (j:=0) rfl rfl rfl (by decide)⟩) ?_
    refine ak (fun γ=>⟨rfl,fun u h=>ex_ld5 h.2.2.2.2 rfl rfl⟩) ?_
    refine ak (fun γ=>⟨rfl,fun u h=>by clear h;go_simp⟩) ?_
    refine ak (fun γ=>⟨rfl,fun u h=>by clear h;go_simp⟩) ?_
    refine ak (fun γ=>⟨rfl,fun u=>ex_bs39 rfl rfl⟩) ?_
    exact trivial
   case hlaz0=>exact trivial
   intro γ w3 l3 hM hl
   have hM3:=(Mm.nil W).grow hM (Nat.le_refl _) hl [13] rfl (by decide)
   have hb3:=hM.below
   clear hM hl
   have hpk:pre.length≤1000:=by omega
   obtain⟨gv,cv',w4,h1,h2,h3,h4,h5,h6⟩:=box_app (ty:=39) (news:=[.string (K k),Value.slice q2.p q2.n q2.cp,.bool false]) hv hrow bS' bN' hpk hb3 (by omega) (by omega) rfl (gs:=γ 13)
    (fun j u hj=>hM3.get 0 rfl j hj) (by simp[Value.oneCell'])
   refine⟨_,w4,ex_app39 rfl rfl rfl h1,?_⟩
   refine rest_at (l:=[15]) rfl ?_
   refine zM rfl rfl rfl (ex_st39 h2 rfl rfl rfl) ?_
   refine zC ⟨rfl,?_⟩
   exact⟨h5,h6,⟨_,h3,by rw[List.flatMap_append,List.flatMap_singleton,List.length_append,hcc.out];exact h4,trivial⟩,hG.trans h6⟩
  ·have m1:W.cell? ⟨gm,om,none⟩=some (.int .u8 1):=m0
   clear m0
   gi_wp2
   refine wpIn_qn ?_
   refine walk_value_in l _ (by kernel_rfl) (Qn.lo _) (by kernel_rfl) 14 [] [.q v,.q (.slice (some ⟨b,t,none⟩) 3 3),.q (PT b (t+1)),.q (.slice q1.p q1.n q1.cp),.q (.string (K k)),.q (.slice (some ⟨b,t,none⟩) 3 3),.q (PT b (t+2)),.q (Value.slice q2.p q2.n q2.cp),.q (.slice (some ⟨gm,om,none⟩) 1 cm),.q (PT gm om),.q (Z8 1),.q (.bool true),.q (.agg #[.string (K k),Value.slice q2.p q2.n q2.cp,.bool true]),.row (fun g=>.slice (some ⟨g,0,none⟩) 1 1) [.string (K k),Value.slice q2.p q2.n q2.cp,.bool true] 65]
    (fun u=>Below W.heap.size W u∧u.cell? ⟨w1.heap.size,0,none⟩=some v∧u.cell? ⟨b,t+1,none⟩=some (.slice q1.p q1.n q1.cp)∧u.cell? ⟨b,t+2,none⟩=some (Value.slice q2.p q2.n q2.cp)∧u.cell? ⟨gm,om,none⟩=some (Z8 1))
    ?prez1 ?Fz1 ?Gz1 _ 57 ?hprez1 (fun γ => ?hFz1) (fun v γ => ?hGz1) (by kernel_rfl) rfl ?hLz1 ?hSz1 ?hoz1 (fun v => ?hlaz1) ?hez1
   case hprez1=>simp only[tk,tz];rfl
   case hFz1=>simp only[fill,Kind.val,Act.put,sa,sz,ss];rfl
   case hGz1=>simp only[fill,Kind.val,Act.put,sa,sz,ss];rfl
   case hLz1=>exact trivial
   case hSz1=>exact fun u hu=>⟨hu,(hu.cell (p:=⟨_,0,none⟩) hv.lt).trans hv0,(hu.cell (p:=⟨b,t+1,none⟩) hbW).trans hc1,(hu.cell (p:=⟨b,t+2,none⟩) hbW).trans hc2,(hu.cell (p:=⟨gm,om,none⟩) hgm).trans m1⟩
   case hoz1 =>
    refine ak (fun γ=>⟨rfl,fun u h=>ex_ld39 h.2.1 rfl rfl⟩) ?_
    refine ar ?_
    refine ak (fun γ=>⟨rfl,fun u _=>ex_ix131 (j:=1) rfl rfl rfl (by decide)⟩) ?_
    refine ak (fun γ=>⟨rfl,fun u h=>ex_ldS h.2.2.1 rfl rfl⟩) ?_
    refine ak (fun γ=>⟨rfl,fun u h=>ex_cv rfl rfl (hcvt.out u h.1)⟩) ?_
    refine ar ?_
    refine ak (fun γ=>⟨rfl,fun u _=>ex_ix131 (j:=2) rfl rfl rfl (by decide)⟩) ?_
    refine ak (fun γ=>⟨rfl,fun u h=>ex_ldS h.2.2.2.1 rfl rfl⟩) ?_
    refine ar ?_
    refine ak (fun γ=>⟨rfl,fun u _=>ex_ixS22 (j:=0) rfl rfl rfl (by decide)⟩) ?_
    refine ak (fun γ=>⟨rfl,fun u h=>ex_ld5 h.2.2.2.2 rfl rfl⟩) ?_
    refine ak (fun γ=>⟨rfl,fun u h=>by clear h;go_simp⟩) ?_
    refine ak (fun γ=>⟨rfl,fun u h=>by clear h;go_simp⟩) ?_
    refine ak (fun γ=>⟨rfl,fun u=>ex_bs39 rfl rfl⟩) ?_
    exact trivial
   case hlaz1=>exact trivial
   intro γ w3 l3 hM hl
   have hM3:=(Mm.nil W).grow hM (Nat.le_refl _) hl [13] rfl (by decide)
   have hb3:=hM.below
   clear hM hl
   have hpk:pre.length≤1000:=by omega
   obtain⟨gv,cv',w4,h1,h2,h3,h4,h5,h6⟩:=box_app (ty:=39) (news:=[.string (K k),Value.slice q2.p q2.n q2.cp,.bool true]) hv hrow bS' bN' hpk hb3 (by omega) (by omega) rfl (gs:=γ 13)
    (fun j u hj=>hM3.get 0 rfl j hj) (by simp[Value.oneCell'])
   refine⟨_,w4,ex_app39 rfl rfl rfl h1,?_⟩
   refine rest_at (l:=[15]) rfl ?_
   refine zM rfl rfl rfl (ex_st39 h2 rfl rfl rfl) ?_
   refine zC ⟨rfl,?_⟩
   exact⟨h5,h6,⟨_,h3,by rw[List.flatMap_append,List.flatMap_singleton,List.length_append,hcc.out];exact h4,trivial⟩,hG.trans h6⟩
 case done =>
  rintro D ys W hD rfl ⟨⟨v,hv,hrow,-⟩,hG⟩ hKd
  obtain⟨p,g,c,rfl,hgl,hcl⟩:=row_cl hrow
  have hbd:Hid (∀ u,Below W.heap.size W u→Calls Tryz.prog 44 #[.slice p m c] u fun e w'=>e=.returned (.int .i64 0)∧Below u.heap.size u w'):=fun u hu=>by
   have:=bounded_any p m c g 0 _ hm64 u (hcl.below hu)
   rwa [Fx.fit HP.out HV.out] at this
  have hBW:Below w1.heap.size w1 W:=hB1.trans hG.1
  have q0:Boxed W w.heap.size 39 (.slice none 0 0):=(hBW.block _ (by omega)).trans ((hL.b.block _ (by simp;omega)).trans ((Boxed.new w 39 (.slice none 0 0)).alloc _))
  have q1:Boxed W (w.heap.size+1) 4 (.bool false):=(hBW.block _ (by omega)).trans ((hL.b.block _ (by simp)).trans (by have:=Boxed.new (w.alloc (.cells #[.slice none 0 0] 39)) 4 (.bool false);rw[World.size_alloc] at this;exact this))
  have hDlt:=(Array.getElem?_eq_some_iff.1 hKd).1
  have hwW:Below w.heap.size w W:=(hB0.out.trans (hL.b.mono hB0.out.size)).trans (hBW.mono (by omega))
  have hsW:=hwW.size
  have hs1W:=hBW.size
  have fin:Hid (∀ w2,Below W.drew.heap.size W.drew w2→(((w2.setCell ⟨w.heap.size,0,none⟩ (.slice p m c)).setCell ⟨w.heap.size+1,0,none⟩ (.bool true)).heap[D]?=some (.deferred (some []))) ∧
    (∀ tmps,tmps.getD 2 undef=PT w.heap.size 0→tmps.getD 3 undef=PT (w.heap.size+1) 0→(results Tryz.f122 tmps).run Tryz.prog (((w2.setCell ⟨w.heap.size,0,none⟩ (.slice p m c)).setCell ⟨w.heap.size+1,0,none⟩ (.bool true)).putObj D (.deferred none))=.ok (.tuple #[.slice p m c,.bool true]) (((w2.setCell ⟨w.heap.size,0,none⟩ (.slice p m c)).setCell ⟨w.heap.size+1,0,none⟩ (.bool true)).putObj D (.deferred none))) ∧
    Bt w m P K G V p g (((w2.setCell ⟨w.heap.size,0,none⟩ (.slice p m c)).setCell ⟨w.heap.size+1,0,none⟩ (.bool true)).putObj D (.deferred none))):=fun w2 hb2=>by
   have hz2:W.heap.size≤w2.heap.size:=hb2.size
   have g1:=grownBy_setCell' w2 w.heap.size (.slice p m c)
   have g2:=grownBy_setCell' (w2.setCell ⟨w.heap.size,0,none⟩ (.slice p m c)) (w.heap.size+1) (.bool true)
   have x0:Boxed w2 w.heap.size 39 (.slice none 0 0):=(hb2.block _ q0.lt).trans q0
   have x1:Boxed w2 (w.heap.size+1) 4 (.bool false):=(hb2.block _ q1.lt).trans q1
   have y0:=(x0.set (.slice p m c)).other (B':=w.heap.size+1) (by omega) (.bool true)
   have y1:=(x1.other (B':=w.heap.size) (by omega) (.slice p m c)).set (.bool true)
   obtain⟨w5,h5⟩:∃ w5,(w2.setCell ⟨w.heap.size,0,none⟩ (.slice p m c)).setCell ⟨w.heap.size+1,0,none⟩ (.bool true)=w5:=⟨_,rfl⟩
   have hz5:w2.heap.size≤w5.heap.size:=by rw[← h5];exact Nat.le_trans g1.size g2.size
   have k5:∀ x,x<W.heap.size→x≠w.heap.size→x≠w.heap.size+1→w5.heap[x]?=W.heap[x]?:=fun x hx n1 n2=>by
    rw[← h5]
    exact(g2.block x (Nat.lt_of_lt_of_le (Nat.lt_of_lt_of_le hx hz2) g1.size) (by simpa using n2)).trans ((g1.block x (Nat.lt_of_lt_of_le hx hz2) (by simpa using n1)).trans (hb2.block x hx))
   rw[h5] at y0 y1 ⊢
   have b5:Below w.heap.size w w5:=by
    rw[← h5]
    exact((hwW.trans ((Below.refl _ W).drew.trans (hb2.mono hsW))).setCell (p:=⟨w.heap.size,0,none⟩) (Nat.le_refl _) _).setCell (p:=⟨w.heap.size+1,0,none⟩) (Nat.le_succ _) _
   clear g1 g2 h5
   have hD5:=(k5 D hDlt (by omega) (by omega)).trans hKd
   have gD:=grownBy_putObj' w5 D (.deferred none)
   have z0:=y0.kept gD (by simp;omega)
   have z1:=y1.kept gD (by simp;omega)
   have k6:∀ x,x<W.heap.size→x≠w.heap.size→x≠w.heap.size+1→x≠D→(w5.putObj D (.deferred none)).heap[x]?=W.heap[x]?:=fun x hx n1 n2 n3=>(World.putObj_heap_other n3).trans (k5 x hx n1 n2)
   have hz6:W.heap.size≤(w5.putObj D (.deferred none)).heap.size:=by rw[World.putObj_size];omega
   have b6:Below w.heap.size w (w5.putObj D (.deferred none)):=b5.trans (belowK_b (w:=w) (Nat.le_refl _) w5 D _ _ (by omega) hD5 rfl rfl)
   have kc:∀ (a:Addr) (v:Value),W.cell? a=some v→a.block<W.heap.size→w.heap.size+1<a.block→(w5.putObj D (.deferred none)).cell? a=some v:=fun a v ha hl hg=>(World.cell?_of_block (k6 a.block hl (by omega) (by omega) (cell_ne hKd ha))).trans ha
   refine⟨hD5,fun tmps t1 t2=>results_c2 rfl tmps _ t1 t2 z0.cell z1.cell,b6,⟨hcl.p,fun h0=>Nat.lt_of_lt_of_le (hcl.lt h0) hz6,fun i hi => ?_,fun i hi => ?_,fun i hi => ?_⟩,fun h0=>by have:=hgl h0;omega,fun i hi => ?_⟩
   ·have e1:=hgl (by omega)
    exact kc _ _ (hcl.a0 i hi) (hcl.lt (by omega)) (by show _<g;omega)
   ·have e1:=hgl (by omega)
    exact kc _ _ (hcl.a1 i hi) (hcl.lt (by omega)) (by show _<g;omega)
   ·have e1:=hgl (by omega)
    exact kc _ _ (hcl.a2 i hi) (hcl.lt (by omega)) (by show _<g;omega)
   ·have hN1:=HN.out
    obtain⟨o1,o2,o3,o4⟩:=hL.ok (3*i+2) (by omega)
    have r3:Rs (P (3*i+2)).gb (P (3*i+2)).o (P (3*i+2)).n (P (3*i+2)).f W:=o3.below hBW
    have o5:0<(P (3*i+2)).n→w.heap.size+2≤(P (3*i+2)).gb:=fun h0=>by have:=(o4 h0).1;simpa using this
    refine⟨⟨o1,o2,fun h0=>Nat.lt_of_lt_of_le (r3.lt h0) hz6,fun j hj => ?_⟩,fun x hx => ?_,((HP.out:Fx m P K G V) i hi).2.2.2⟩
    ·have e1:=o5 (by omega)
     exact kc _ _ (r3.at_ j hj) (r3.lt (by omega)) (by show _<(P (3*i+2)).gb;omega)
    ·unfold gbl at hx
     by_cases h0:(P (3*i+2)).n=0
     ·rw[if_pos h0] at hx
      cases hx
     ·rw[if_neg h0] at hx
      have e1:=o5 (by omega)
      rw[List.mem_singleton.1 hx]
      omega
  clear hwW hsW hs1W hDlt hgl
  have hvc:=hv.cell
  have q0c:=q0.cell
  have q0f:=q0.frozen
  have q1c:=q1.cell
  have q1f:=q1.frozen
  clear hrow hcl hG
  gi_wp2
  refine wpIn_qm (wpIn_wide.2 ?_)
  go_region_with (first | (go_at_call 44;refine(hbd.out _ (by first | exact Below.refl _ _ | exact(Below.refl _ _).drew)).mono ?_;rintro e w2 ⟨rfl,hb2⟩;have hvc2:=(hb2.cell (p:=⟨w1.heap.size,0,none⟩) hv.lt).trans hvc;have q0c2:=(hb2.cell (p:=⟨w.heap.size,0,none⟩) q0.lt).trans q0c;have q0f2:=(hb2.frozen (p:=⟨w.heap.size,0,none⟩) q0.lt).trans q0f;have q1c2:=(hb2.cell (p:=⟨w.heap.size+1,0,none⟩) q1.lt).trans q1c;have q1f2:=(hb2.frozen (p:=⟨w.heap.size+1,0,none⟩) q1.lt).trans q1f) | fail)
  all_goals (
   simp only[Qm]
   have hf:=fin.out w2 hb2
   gi_wp2
   exact⟨by simp,.inl ⟨_,_,rfl,run_takeDeferred hf.1,_,hf.2.1 _ rfl rfl,p,g,c,P,rfl,hf.2.2⟩⟩)
 case stop =>
  rintro D c pre W _ _ h _
  exact h.elim
end Wi
end Rg
end Go.Proofs.YtmcpagjhpfbpgaaGreatDoor
end
