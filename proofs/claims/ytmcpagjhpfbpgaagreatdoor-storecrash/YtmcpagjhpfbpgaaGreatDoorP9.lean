/- Texts of the proof, joined. -/
import Derived.Test.YtmcpagjhpfbpgaaGreatDoorP8
import Derived.Shelf.SlIter.Nil
import Derived.Shelf.SortM.Plain
import Derived.Shelf.SortM.SortNone
import Derived.Deep.QuietTactic
import Derived.BigQuiet
set_option maxRecDepth 100000
set_option maxHeartbeats 8000000
section
namespace Go.Proofs.YtmcpagjhpfbpgaaGreatDoor
open Go.RowKit
namespace Rg
namespace Wi
set_option maxRecDepth 100000
theorem clos_any (bx:Nat) (Q:Nat→Prop) (g mv N:Nat) (B:ByteArray→Option (List Nat)) (p:Option Addr) (m c gl o:Nat) (C:Nat→Cq) (hm:m≤64) (hN:N+m≤4096) (w:World) (cb:w.cell? ⟨bx,0,none⟩=some (PT g 0)) (hbx:bx<w.heap.size∧bx≠mv) (c4:w.cell? ⟨g,4,none⟩=some (.map (some mv))) (hg:g<w.heap.size∧g≠mv) (hl:Cl p gl o m C w) (hgl:gl≠mv) (hC:∀ i,i<m→Pq (C i).q w∧mv∉gbl (C i).q∧(C i).q.n≤8192∧(C i).k.size≤128) (hV:Vb Q w mv B N) (hmv:mv<w.heap.size) (hQ:∀ b,w.heap.size≤b→Q b) :
  Calls Tryz.prog 58 #[.slice p m c,PT bx 0] w fun e w'=>e=.returned (.bool true)∧Chg [mv] w w'∧Vb Q w' mv (bdo B C m) (N+m):=by
 have HD:Hid _:=do_any Q g mv N B p m c gl o C hm (by omega) w c4 hg hl hgl hC hV hmv hQ
 have HBX:Hid _:=hbx
 have HG:Hid _:=hg
 have HN:Hid _:=hN
 clear hC hV hQ hl hbx hg hN
 go_enter Tryz.func58,Tryz.ntmps58
 go_wp2_with (first
  | (go_at_call 48;refine Calls.mono HD.out ?_;rintro e w1 ⟨rfl,hc,hv⟩;have cb1:=(hc.cell (p:=⟨bx,0,none⟩) HBX.out.1 (fun h=>HBX.out.2 (List.mem_singleton.1 h))).trans cb;have c41:=(hc.cell (p:=⟨g,4,none⟩) HG.out.1 (fun h=>HG.out.2 (List.mem_singleton.1 h))).trans c4;have HC:Hid _:=hc;have HV:Hid _:=hv;clear hc hv)
  | fail)
 obtain⟨V,M,v1,v2,v3,v4⟩:=HV.out
 have hM:((M:Nat):Int)≤4096:=by have:=HN.out;omega
 have H1:Hid _:=v1
 clear v1 v2 v3 v4
 rw[Vm.len H1.out,Result.andThen_ok]
 go_wp2
 go_ret
 exact⟨rfl,HC.out,HV.out⟩
def cput (B:ByteArray→Option (List Nat)) (c:Ch):ByteArray→Option (List Nat):=fun s=>if s=c.k then (if c.gn then none else some c.v) else B s
def cdo (B:ByteArray→Option (List Nat)) (l:List Ch):ByteArray→Option (List Nat):=l.foldl cput B
theorem bdo_cdo (B:ByteArray→Option (List Nat)) (C:Nat→Cq):∀ m,bdo B C m=cdo B (chl C m)
 | 0=>rfl
 | m+1=>by
  rw[chl_snoc]
  unfold cdo
  rw[List.foldl_append]
  show bdo B C (m+1)=cput (cdo B (chl C m)) (C m).ch
  rw[← bdo_cdo B C m]
  rfl
theorem rbatch_ch (q:Pt8) (l:List Ch) (hl:l.length≤64) (hok:∀ c∈l,c.ok) (hn:q.n≤1048576) (hb:bs q.n q.f=rc l) (w:World) (hq:Pok q∧q.rs w) :
  Calls Tryz.prog 122 #[.slice q.p q.n q.cp] w fun e w'=>∃ (p:Option Addr) (g c:Nat) (C:Nat→Cq),e=.returned (.tuple #[.slice p l.length c,.bool true])∧Below w.heap.size w w'∧Cl p g 0 l.length C w'∧(0<l.length→w.heap.size≤g)∧chl C l.length=l∧∀ i,i<l.length→Pq (C i).q w'∧(∀ x∈gbl (C i).q,w.heap.size≤x)∧(C i).q.n≤8192∧(C i).k.size≤128:=by
 have hk:∀ k,k<l.length→(l.getD k ch0).ok:=fun k hk=>by
  rw[List.getD_eq_getElem?_getD,List.getElem?_eq_getElem hk]
  exact hok _ (List.getElem_mem hk)
 refine(rbatch_q q l.length _ (l.flatMap Ch.fs) rfl (fs_len l) hl hn hb (fun k=>(l.getD k ch0).k) (fun k=>(l.getD k ch0).gn) (fun k=>(l.getD k ch0).v) (fun k h=>⟨(hk k h).1,(hk k h).2.1,(hk k h).2.2.1,(hk k h).2.2.2⟩) (fun k h=>fs_at l k h) w hq).mono ?_
 rintro e w' ⟨p,g,c,P,rfl,h1,h2,h3,h4⟩
 refine⟨p,g,c,_,rfl,h1,h2,h3,?_,fun i hi=>⟨(h4 i hi).1,(h4 i hi).2.1,?_,(hk i hi).2.1⟩⟩
 ·refine List.ext_getElem? fun i => ?_
  by_cases h:i<l.length
  ·unfold chl
   rw[List.getElem?_map,List.getElem?_range h]
   have e1:l[i]?=some (l.getD i ch0):=by rw[List.getD_eq_getElem?_getD,List.getElem?_eq_getElem h];rfl
   rw[e1]
   show some (Cq.ch _)=_
   unfold Cq.ch cqs
   dsimp only
   rw[(h4 i h).2.2]
  ·rw[List.getElem?_eq_none (by rw[chl_len];omega),List.getElem?_eq_none (by omega)]
 ·have e1:(P (3*i+2)).n=(l.getD i ch0).v.length:=by have:=congrArg List.length (h4 i hi).2.2;rwa [bs_len] at this
  show (P (3*i+2)).n≤8192
  rw[e1]
  exact(hk i hi).2.2.1
theorem own_set2 {u:World} {g d n:Nat} {x:Value} {P:Nat→Nat} (h:u.ownsRow 0 5 1 x n (zN .u8 P n)) (c0:u.cell? ⟨g,0,none⟩=some (PT d 0)) (v:Value):(u.setCell ⟨g,2,none⟩ v).ownsRow 0 5 1 x n (zN .u8 P n):=by
 rcases h.2 with ⟨h1,h2⟩ | ⟨b,cap,cur,h1,h2,h3,h4,h5,h6,h7⟩
 ·exact⟨h.1,.inl ⟨h1,h2⟩⟩
 ·by_cases e:b=g
  ·subst e
   by_cases hn:n=0
   ·subst hn
    refine⟨h.1,.inr ⟨b,cap,cur.setIfInBounds 2 v,h1,h2,?_,h4,h5,?_,?_⟩⟩
    ·simp[World.setCell,Array.getElem?_modify,h3]
    ·simp[h6]
    ·simp[zN]
   ·exfalso
    have h':=h
    rw[h1] at h'
    have e1:=h'.cellAt 0 (by omega)
    rw[c0] at e1
    have e2:(zN .u8 P n)[0]?=some (.int .u8 (P 0)):=by
     unfold zN
     rw[List.getElem?_map,List.getElem?_range (by omega)]
     rfl
    rw[e2] at e1
    cases e1
  ·refine own_keep h fun y hy=>Below.heap_setCell _ _ _ _ fun hg=>e ?_
   rw[h1] at hy
   have:y=b:=by simpa [vbl,Value.ownBlock] using hy
   rw[← this,hg]
section
variable {w0 u u':World} {d g mv N:Nat} {A A':Ad} {base:ByteArray} {G:Int} {B:ByteArray→Option (List Nat)} {O L:List Nat}
theorem Sy.put2 (h:Sy w0 d A g mv base G B N O L u) (v:Value):Sy w0 d A g mv base G B N O L (u.setCell ⟨g,2,none⟩ v)∧Kx L u (u.setCell ⟨g,2,none⟩ v):=by
 have hc:Chg [g] u (u.setCell ⟨g,2,none⟩ v):=put_chg g 2 [v]
 have hmg:mv∉[g]:=fun e=>h.gm (List.mem_singleton.1 e).symm
 have hk:∀ k,k≠2→(u.setCell ⟨g,2,none⟩ v).cell? ⟨g,k,none⟩=u.cell? ⟨g,k,none⟩:=fun k hk=>World.cell?_setCell_other _ _ _ _ (by intro e;cases e;omega)
 have hm:(u.setCell ⟨g,2,none⟩ v).heap[mv]?=u.heap[mv]?:=hc.block mv h.vb.lt hmg
 obtain⟨V,M,v1,v2,v3,v4⟩:=h.vb
 refine⟨⟨h.da.chg hc (fun x hx=>by rw[List.mem_singleton.1 hx];exact List.mem_append_left _ h.og) (fun x hx=>by rw[List.mem_singleton.1 hx];exact h.lo _ h.og),(hk 0 (by omega)).trans h.c0,(hk 1 (by omega)).trans h.c1,(hk 3 (by omega)).trans h.c3,(hk 4 (by omega)).trans h.c4,fun k => ?_,?_,h.lo,h.og,h.om,h.gm,h.ap⟩,hc.kx (fun x hx=>h.da.lt (List.mem_append_right _ hx)) (fun x hx hm=>h.ap g h.og (by rw[← List.mem_singleton.1 hm];exact hx))⟩
 ·rw[World.frozen?_setCell]
  exact h.fz k
 ·obtain⟨X,x1,x2⟩:=v1.mp
  exact⟨V,M,⟨⟨X,zQ x1 hm,x2⟩,fun t y hy=>own_set2 (v1.ow t y hy) h.c0 v,v1.nb⟩,v2,v3,v4⟩
end
end Wi
end Rg
end Go.Proofs.YtmcpagjhpfbpgaaGreatDoor
end
section
namespace Go.Proofs.YtmcpagjhpfbpgaaGreatDoor
open Go.RowKit
namespace Rg
namespace Wi
set_option maxRecDepth 100000
def Il (w0:World) (d:Nat) (A:Ad) (g mv:Nat) (base:ByteArray) (G:Int) (B:ByteArray→Option (List Nat)) (N:Nat) (rs:List (List Ch)) (LL:List Nat) (u1:World) (i:Nat) (wr:World):Prop :=
 ∃ O,Sy w0 d A g mv base G ((rs.take i).foldl cdo B) (N+64*i) O LL wr∧Kx LL u1 wr∧wr.cell? ⟨g,2,none⟩=some (.pointer none)
section
variable {w0 u u1 wr:World} {d g mv N:Nat} {A A':Ad} {base:ByteArray} {G:Int} {B:ByteArray→Option (List Nat)} {O L LL:List Nat} {rs:List (List Ch)}
theorem Kx.pt {q:Pt8} (hk:Kx LL u1 wr) (hq:q.rs u1) (hg:0<q.n→q.gb∈LL):q.rs wr :=
 ⟨fun h0=>Nat.lt_of_lt_of_le (hq.lt h0) hk.1,fun i hi=>(World.cell?_of_block (a:=⟨q.gb,q.o+i,none⟩) (hk.2 _ (hg (by omega)))).trans (hq.at_ i hi)⟩
theorem Il.batch {i:Nat} (h:Il w0 d A g mv base G B N rs LL u1 i wr) (hi:i<rs.length) (bx:Nat) (hbx:bx∈LL) (cb:u1.cell? ⟨bx,0,none⟩=some (PT g 0)) (hok:∀ l∈rs,l.length≤64∧∀ c∈l,c.ok) (hN:N+64*rs.length≤4096)
  (q:Pt8) (hq:Pok q∧q.rs u1) (hg:0<q.n→q.gb∈LL) (hn:q.n≤1048576) (hb:bs q.n q.f=rc (rs.getD i [])) :
  Calls Tryz.prog 122 #[.slice q.p q.n q.cp] wr fun e w2=>∃ (p:Option Addr) (m c:Nat),e=.returned (.tuple #[.slice p m c,.bool true]) ∧
   Calls Tryz.prog 58 #[.slice p m c,PT bx 0] w2 fun e w3=>e=.returned (.bool true)∧Il w0 d A g mv base G B N rs LL u1 (i+1) w3:=by
 obtain⟨O,h1,h2,h3⟩:=h
 have hmem:rs.getD i []∈rs:=by
  rw[List.getD_eq_getElem?_getD,List.getElem?_eq_getElem hi]
  exact List.getElem_mem hi
 obtain⟨l1,l2⟩:=hok _ hmem
 refine(rbatch_ch q (rs.getD i []) l1 l2 hn hb wr ⟨hq.1,Kx.pt h2 hq.2 hg⟩).mono ?_
 rintro e w2 ⟨p,g',c,C,rfl,b1,b2,b3,b4,b5⟩
 obtain⟨s1,s2⟩:=h1.below b1
 have hmw:mv<wr.heap.size:=h1.vb.lt
 have hbl:bx<wr.heap.size:=h1.da.lt (List.mem_append_right _ hbx)
 have cb2:w2.cell? ⟨bx,0,none⟩=some (PT g 0):=(b1.cell (p:=⟨bx,0,none⟩) hbl).trans ((World.cell?_of_block (a:=⟨bx,0,none⟩) (h2.2 _ hbx)).trans cb)
 have c22:w2.cell? ⟨g,2,none⟩=some (.pointer none):=(b1.cell (p:=⟨g,2,none⟩) h1.gl).trans h3
 obtain⟨gl,hcl,hgl⟩:∃ gl,Cl p gl 0 (rs.getD i []).length C w2∧gl≠mv:=by
  by_cases h0:(rs.getD i []).length=0
  ·rw[h0]
   exact⟨mv+1,⟨fun h=>absurd h (Nat.lt_irrefl _),fun h=>absurd h (Nat.lt_irrefl _),fun i hi=>absurd hi (Nat.not_lt_zero _),fun i hi=>absurd hi (Nat.not_lt_zero _),fun i hi=>absurd hi (Nat.not_lt_zero _)⟩,by omega⟩
  ·have:=b3 (by omega)
   exact⟨g',b2,by omega⟩
 refine⟨p,_,c,rfl,(clos_any bx (fun b=>b∈O∨w2.heap.size≤b) g mv (N+64*i) _ p _ c gl 0 C l1 (by omega) w2 cb2 ⟨Nat.lt_of_lt_of_le hbl b1.size,fun e=>s1.ap mv s1.om (by rw[← e];exact hbx)⟩ s1.c4 ⟨s1.gl,s1.gm⟩ hcl hgl
  (fun k hk=>⟨(b5 k hk).1,fun hx=>by have:=(b5 k hk).2.1 mv hx;omega,(b5 k hk).2.2.1,(b5 k hk).2.2.2⟩) (s1.vb.wide fun b hb=>.inl hb) s1.vb.lt (fun b hb=>.inr hb)).mono ?_⟩
 rintro e w3 ⟨rfl,e2,e3⟩
 obtain⟨⟨O',f1⟩,f2⟩:=s1.did e2 e3
 refine⟨rfl,O',?_,Kx.trans (Kx.trans h2 s2) f2,(e2.cell (p:=⟨g,2,none⟩) s1.gl (fun e=>s1.gm (List.mem_singleton.1 e))).trans c22⟩
 have e4:(rs.take (i+1)).foldl cdo B=bdo ((rs.take i).foldl cdo B) C (rs.getD i []).length:=by
  rw[bdo_cdo,b4,List.take_add_one,List.getElem?_eq_getElem hi,List.foldl_append,List.getD_eq_getElem?_getD,List.getElem?_eq_getElem hi]
  rfl
 rw[e4]
 exact f1.mono (by omega)
def gbs (P:Nat→Pt8) (n:Nat):List Nat:=(List.range n).flatMap fun i=>gbl (P i)
structure Lo (w0:World) (d:Nat) (A:Ad) (g mv:Nat) (base:ByteArray) (G:Int) (B:ByteArray→Option (List Nat)) (N:Nat) (s:ByteArray) (rs:List (List Ch)) (L LL:List Nat) (j b:Nat) (p:Option Addr) (P:Nat→Pt8) (u1:World):Prop where
 il:Il w0 d A g mv base G B N rs LL u1 0 u1
 hp:0<rs.length→p=some ⟨b,0,none⟩∧b∈LL
 ce:∀ i,i<rs.length→u1.cell? ⟨b,i,none⟩=some (.slice (P i).p (P i).n (P i).cp)
 pt:∀ i,i<rs.length→(Pok (P i)∧(P i).rs u1)∧(0<(P i).n→(P i).gb∈LL)∧(P i).n≤1048576∧bs (P i).n (P i).f=rc (rs.getD i [])
 mj:∃ z,z≤1048576∧Mm u1 [(j,jc d s rs.length z)]
 jl:j∈LL
 sb:∀ x∈L,x∈LL
 lo:w0.heap.size≤j∧j∉L
theorem jopen_lo (h:Sy w0 d A g mv base G B N O L u) (c2:u.cell? ⟨g,2,none⟩=some (.pointer none)) (s:ByteArray) (hs:s.size≤281474976710656) (hn:nmd s=true) (hr:∀ l∈rs,(rc l).length≤65536) (hct:A.ct s=fl (rs.map rc)) (hN:(fl (rs.map rc)).length≤1048576) :
  Calls Tryz.prog 111 #[PT d 0,.string s] u fun e u1=>∃ (j b c:Nat) (p:Option Addr) (P:Nat→Pt8) (LL:List Nat),e=.returned (.tuple #[PT j 0,.slice p rs.length c,.int .i64 0])∧Lo w0 d A g mv base G B N s rs L LL j b p P u1∧Below u.heap.size u u1:=by
 refine(jopen_a h.da s hs hn (rs.map rc) (fun r hr'=>by obtain⟨l,h1,rfl⟩:=List.mem_map.1 hr';exact hr l h1) hct hN).mono ?_
 rintro e u1 ⟨j,v,P,BB,rfl,h1,h2,h3,h4,h5,h6⟩
 rw[List.length_map] at h1 h3 h6
 obtain⟨p,c,rfl,hpc⟩:=own_slice h3.own
 have hvl:∀ x∈vbl (.slice p rs.length c),u.heap.size≤x∧x<u1.heap.size:=fun x hx=>⟨by have:=h3.lo x hx;omega,own_lt h3.own x hx⟩
 have hgl:∀ x∈gbs P rs.length,u.heap.size≤x∧x<u1.heap.size:=fun x hx=>by
  obtain⟨i,h7,h8⟩:=List.mem_flatMap.1 hx
  have hi:=List.mem_range.1 h7
  obtain⟨o1,o2,o3,o4⟩:=h3.ok i hi
  unfold gbl at h8
  by_cases h0:(P i).n=0
  ·rw[if_pos h0] at h8;cases h8
  ·rw[if_neg h0] at h8
   rw[List.mem_singleton.1 h8]
   exact⟨by have:=o4 (by omega);omega,o3.lt (by omega)⟩
 have hj1:j<u1.heap.size:=(h1.blk _ (List.mem_cons_self ..)).1
 have hs1:=h.add h2 (M:=j :: (vbl (.slice p rs.length c)++gbs P rs.length)) (fun x hx=>by
  rcases List.mem_cons.1 hx with e | hx
  ·rw[e];exact⟨h4,hj1⟩
  ·rcases List.mem_append.1 hx with e | e
   ·exact hvl x e
   ·exact hgl x e)
 have hL:∀ x∈L,x<u.heap.size:=fun x hx=>h.da.lt (List.mem_append_right _ hx)
 obtain⟨b,hb1,hb2⟩:∃ b,(0<rs.length→p=some ⟨b,0,none⟩∧b∈vbl (.slice p rs.length c))∧∀ i,i<rs.length→u1.cell? ⟨b,i,none⟩=some (.slice (P i).p (P i).n (P i).cp):=by
  rcases h3.own.2 with ⟨k1,k2⟩ | ⟨b,cap,cur,k1,_⟩
  ·exact⟨0,fun h0=>by omega,fun i hi=>by omega⟩
  ·cases k1
   exact⟨b,fun _=>⟨rfl,by simp[vbl,Value.ownBlock]⟩,fun i hi=>by rw[h3.own.cellAt i (by omega),pcs_get P hi]⟩
 refine⟨j,b,c,p,P,_,rfl,⟨⟨O,by simpa using hs1,Kx.refl _ _,(h2.cell (p:=⟨g,2,none⟩) h.gl).trans c2⟩,fun h0=>⟨(hb1 h0).1,List.mem_append_left _ (List.mem_cons_of_mem _ (List.mem_append_left _ (hb1 h0).2))⟩,hb2,fun i hi => ?_,⟨_,hN,h1⟩,List.mem_append_left _ (List.mem_cons_self ..),fun x hx=>List.mem_append_right _ hx,Nat.le_trans h.da.b.size h4,fun hj=>by have:=hL j hj;omega⟩,h2⟩
 obtain⟨o1,o2,o3,o4⟩:=h3.ok i hi
 have e1:bs (P i).n (P i).f=rc (rs.getD i []):=by
  rw[h6 i hi,List.getD_eq_getElem?_getD,List.getD_eq_getElem?_getD,List.getElem?_map,List.getElem?_eq_getElem hi]
  rfl
 refine⟨⟨o1,o3⟩,fun h0=>List.mem_append_left _ (List.mem_cons_of_mem _ (List.mem_append_right _ (List.mem_flatMap.2 ⟨i,List.mem_range.2 hi,by unfold gbl;rw[if_neg (by omega)];exact List.mem_singleton.2 rfl⟩))),?_,e1⟩
 have e2:(P i).n=(rc (rs.getD i [])).length:=by have:=congrArg List.length e1;rwa [bs_len] at this
 have e3:=hr (rs.getD i []) (by rw[List.getD_eq_getElem?_getD,List.getElem?_eq_getElem hi];exact List.getElem_mem hi)
 omega
theorem rlog_any (h:Sy w0 d A g mv base G B N O L u) (c2:u.cell? ⟨g,2,none⟩=some (.pointer none)) (bx:Nat) (hbx:bx∈L) (cb:u.cell? ⟨bx,0,none⟩=some (PT g 0)) (s:ByteArray) (hs:s.size≤281474976710656) (hn:nmd s=true)
  (hlog:∀ v,v.cell? ⟨g,1,none⟩=some (.string base)→Calls Tryz.prog 53 #[PT g 0,.int .i64 G] v fun e v'=>e=.returned (.string s)∧Below v.heap.size v v')
  (hr:∀ l∈rs,l.length≤64∧(∀ c∈l,c.ok)∧(rc l).length≤65536) (hct:A.ct s=fl (rs.map rc)) (hN:(fl (rs.map rc)).length≤1048576) (hNN:N+64*rs.length≤4096) :
  Calls Tryz.prog 60 #[PT g 0,.func (.func 58) #[] #[.pointer (some ⟨bx,0,none⟩)]] u fun e u'=>e=.returned (.int .i64 0)∧u'.cell? ⟨bx,0,none⟩=some (PT g 0)∧∃ j,So w0 d A g j mv base s G 1048576 (rs.foldl cdo B) (N+64*rs.length) L u':=by
 have HJ:Hid (∀ v,Below u.heap.size u v→Calls Tryz.prog 111 #[PT d 0,.string s] v fun e u1=>∃ (j b c:Nat) (p:Option Addr) (P:Nat→Pt8) (LL:List Nat),e=.returned (.tuple #[PT j 0,.slice p rs.length c,.int .i64 0])∧Lo w0 d A g mv base G B N s rs L LL j b p P u1∧u1.cell? ⟨bx,0,none⟩=some (PT g 0)):=fun v hv=>by
  obtain⟨s1,s2⟩:=h.below hv
  refine(jopen_lo s1 ((hv.cell (p:=⟨g,2,none⟩) h.gl).trans c2) s hs hn (fun l hl=>(hr l hl).2.2) hct hN).mono ?_
  rintro e u1 ⟨j,b,c,p,P,LL,rfl,h1,h2⟩
  have hb:=h.da.lt (List.mem_append_right O hbx)
  exact⟨j,b,c,p,P,LL,rfl,h1,(h2.cell (p:=⟨bx,0,none⟩) (Nat.lt_of_lt_of_le hb hv.size)).trans ((hv.cell (p:=⟨bx,0,none⟩) hb).trans cb)⟩
 have HLG:Hid _:=hlog
 have c0:=h.c0
 have c1:=h.c1
 have c3:=h.c3
 have c0d:u.drew.cell? ⟨g,0,none⟩=some (PT d 0):=c0
 have c1d:u.drew.cell? ⟨g,1,none⟩=some (.string base):=c1
 have HB:Hid (Below u.heap.size u u.drew):=(Below.refl _ u).drew
 have HG:Hid (g<u.heap.size):=h.gl
 have hrl:rs.length≤64:=by omega
 have HR:Hid _:=hr
 have HN:Hid _:=hNN
 have HX:Hid _:=hbx
 clear h hlog hr hct hN hNN hn hs hbx c2 cb
 go_enter Tryz.func60,Tryz.ntmps60
 go_wp2
 go_region_with (first
  | (go_at_call 53;refine Calls.mono (HLG.out u.drew c1d) ?_;rintro e w1 ⟨rfl,hb1⟩;have c01:=(hb1.cell (p:=⟨g,0,none⟩) HG.out).trans c0d;have HB1:Hid (Below u.heap.size u w1):=HB.out.trans hb1)
  | (go_at_call 111;refine Calls.mono (HJ.out w1 HB1.out) ?_;rintro e u1 ⟨j,b,c,p,P,LL,rfl,hl,hcb⟩;have HLo:Hid _:=hl;have HCB:Hid _:=hcb;clear hl hcb)
  | fail)
 all_goals go_wp2
 all_goals (
  go_loopw [32] (fun v wr=>∃ i:Nat,v=.int .i64 (i:Int)∧i≤rs.length∧Hid (Il w0 d A g mv base G B N rs LL u1 i wr))
   (fun v _=>rs.length - (RowKit.intOf v).toNat)
  case atStart=>exact⟨0,rfl,Nat.zero_le _,HLo.out.il⟩
  case round =>
   obtain⟨i,rfl,hi,hI⟩:=hrel
   by_cases hlt:i<rs.length
   ·obtain⟨hp,hbl⟩:=HLo.out.hp (by omega)
    have hci:wr.cell? ⟨b,i,none⟩=some (.slice (P i).p (P i).n (P i).cp):=by
     obtain⟨O2,s1,s2,s3⟩:=hI.out
     exact(World.cell?_of_block (a:=⟨b,i,none⟩) (s2.2 b hbl)).trans (HLo.out.ce i hlt)
    have HB2:Hid _:=Il.batch hI.out hlt bx (HLo.out.sb bx HX.out) HCB.out (fun l hl=>⟨(HR.out l hl).1,(HR.out l hl).2.1⟩) HN.out (P i) (HLo.out.pt i hlt).1 (HLo.out.pt i hlt).2.1 (HLo.out.pt i hlt).2.2.1 (HLo.out.pt i hlt).2.2.2
    clear hbl
    rw[hp]
    clear hp
    go_wp2_with (first
     | (go_at_call 122;refine Calls.mono HB2.out ?_;rintro e w2 ⟨p2,m2,c2,rfl,h58⟩;have H58:Hid _:=h58;clear h58)
     | (go_at_call 58;refine Calls.mono H58.out ?_;rintro e w3 ⟨rfl,hI3⟩;have HI3:Hid _:=hI3;clear hI3)
     | fail)
    go_roundw
    case rel=>exact⟨i+1,by simp,by omega,HI3.out⟩
    case measure=>simp[RowKit.intOf];omega
   ·obtain⟨O2,s1,s2,s3⟩:=hI.out
    have hf:=s1.fz 2
    have hz:¬((i:Int)<(rs.length:Int)):=by omega
    have S1:Hid _:=s1
    have S2:Hid (Kx LL u1 wr):=s2
    have HI:Hid (i=rs.length):=(by omega:i=rs.length)
    clear s1 s2 hI hi hlt
    go_wp2
    go_ret
    have hl:=HLo.out
    have s1':=S1.out
    rw[HI.out,List.take_length] at s1'
    obtain⟨t1,t2⟩:=s1'.put2 (PT j 0)
    have k2:=Kx.trans S2.out t2
    obtain⟨z,z1,z2⟩:=hl.mj
    exact⟨rfl,(World.cell?_of_block (a:=⟨bx,0,none⟩) (k2.2 _ (hl.sb bx HX.out))).trans HCB.out,j,⟨O2,t1.sub fun x hx=>by
     rcases List.mem_cons.1 hx with e | e
     ·rw[e];exact hl.jl
     ·exact hl.sb x e⟩,World.cell?_setCell_same _ _ _ s3,⟨_,z,by have:=HN.out;omega,z1,Mm.keep1 z2 k2.1 (k2.2 j hl.jl)⟩,hl.lo.1,hl.lo.2⟩)
end
end Wi
end Rg
end Go.Proofs.YtmcpagjhpfbpgaaGreatDoor
end
section
namespace Go.Proofs.YtmcpagjhpfbpgaaGreatDoor
open Go.RowKit
namespace Rg
namespace Wi
set_option maxRecDepth 100000
abbrev zP (base:ByteArray) (n:Nat):ByteArray:=base++⟨#[46,108,111,103,46]⟩++⟨(dig n).toArray⟩
section
variable {w0 u u1 wr:World} {d g mv N:Nat} {A A':Ad} {base:ByteArray} {G:Int} {B:ByteArray→Option (List Nat)} {O L LL:List Nat} {rs:List (List Ch)}
theorem sy_opw (h:Da w0 d A L u) (hL:∀ x∈L,x<u.heap.size) (base:ByteArray) :
  Sy w0 d A (u.heap.size+1) u.heap.size base 0 (fun _=>none) 0 [u.heap.size,u.heap.size+1] ((u.heap.size+1+1) :: L) (opw u d base)∧(opw u d base).cell? ⟨u.heap.size+1,2,none⟩=some (.pointer none)∧(opw u d base).cell? ⟨u.heap.size+1+1,0,none⟩=some (PT (u.heap.size+1) 0):=by
 obtain⟨u1,hu1⟩:∃ u1,u.alloc (.map #[] 0)=u1:=⟨_,rfl⟩
 have z1:u1.heap.size=u.heap.size+1:=by rw[← hu1];simp
 have b1:Below u.heap.size u u1:=by rw[← hu1];exact(Below.refl _ u).alloc (Nat.le_refl _) _
 have v1:Vm u1 u.heap.size (fun _=>none) 0:=by rw[← hu1];exact Vm.start u
 obtain⟨u2,hu2⟩:∃ u2,u1.alloc (.cells #[PT d 0,.string base,.pointer none,.int .i64 0,.map (some u.heap.size)] 48)=u2:=⟨_,rfl⟩
 have z2:u2.heap.size=u.heap.size+1+1:=by rw[← hu2];simp[z1]
 have b2:Below u1.heap.size u1 u2:=by rw[← hu2];exact(Below.refl _ u1).alloc (Nat.le_refl _) _
 have c2:∀ i v,(#[PT d 0,.string base,.pointer none,.int .i64 0,.map (some u.heap.size)]:Array Value)[i]?=some v→u2.cell? ⟨u.heap.size+1,i,none⟩=some v:=fun i v hi=>by
  rw[← hu2,← z1]
  exact al_new u1 _ 48 i v hi
 have f2:∀ i,u2.frozen? ⟨u.heap.size+1,i,none⟩=false:=fun i=>by
  rw[← hu2,← z1]
  exact World.frozen?_alloc_new ..
 obtain⟨u3,hu3⟩:∃ u3,u2.alloc (.cells #[PT (u.heap.size+1) 0] 33)=u3:=⟨_,rfl⟩
 have z3:u3.heap.size=u.heap.size+3:=by rw[← hu3];simp[z2]
 have b3:Below u2.heap.size u2 u3:=by rw[← hu3];exact(Below.refl _ u2).alloc (Nat.le_refl _) _
 have c3:u3.cell? ⟨u.heap.size+1+1,0,none⟩=some (PT (u.heap.size+1) 0):=by
  rw[← hu3,← z2]
  exact al_new u2 #[PT (u.heap.size+1) 0] 33 0 _ rfl
 have e3:opw u d base=u3:=by
  unfold opw
  rw[hu1,hu2,hu3]
 rw[e3]
 have b03:Below u.heap.size u u3:=(b1.trans (b2.mono (by omega))).trans (b3.mono (by omega))
 have k3:∀ i v,(#[PT d 0,.string base,.pointer none,.int .i64 0,.map (some u.heap.size)]:Array Value)[i]?=some v→u3.cell? ⟨u.heap.size+1,i,none⟩=some v:=fun i v hi =>
  (b3.cell (p:=⟨u.heap.size+1,i,none⟩) (by show u.heap.size+1<_;omega)).trans (c2 i v hi)
 refine⟨⟨(h.add b03 (M:=[u.heap.size,u.heap.size+1,u.heap.size+1+1]) (fun x hx => ?_)).sub fun x hx => ?_,k3 0 _ rfl,k3 1 _ rfl,k3 3 _ rfl,k3 4 _ rfl,fun i=>(b3.frozen (p:=⟨u.heap.size+1,i,none⟩) (by show u.heap.size+1<_;omega)).trans (f2 i),⟨_,0,(v1.below b2).below b3,Nat.le_refl _,fun _=>rfl,fun s x hx=>by cases hx⟩,fun x hx => ?_,by simp,by simp,by omega,fun x hx hm => ?_⟩,k3 2 _ rfl,c3⟩
 ·simp only[List.mem_cons,List.not_mem_nil,or_false] at hx
  omega
 ·simp only[List.mem_append,List.mem_cons,List.not_mem_nil,or_false] at hx ⊢
  rcases hx with e | e | e
  ·rcases e with e | e
   ·exact .inl (.inl e)
   ·exact .inl (.inr (.inl e))
  ·exact .inl (.inr (.inr e))
  ·exact .inr e
 ·simp only[List.mem_cons,List.not_mem_nil,or_false] at hx
  have:=h.b.size
  omega
 ·simp only[List.mem_cons,List.not_mem_nil,or_false] at hx hm
  rcases hm with e | e
  ·omega
  ·have:=hL x e
   omega
theorem sopen_new (h:Da w0 d A L u) (base:ByteArray) (hs:base.size≤40) (hb:nmd base=true) (hn:nmd (zP base 0)=true) (hsn:A.lk (nsnap base)=none)
  (hr:∀ l∈rs,l.length≤64∧(∀ c∈l,c.ok)∧(rc l).length≤65536) (hct:A.ct (zP base 0)=fl (rs.map rc)) (hN:(fl (rs.map rc)).length≤1048576) (hNN:64*rs.length≤4096) :
  Calls Tryz.prog 19 #[PT d 0,.string base] u fun e u'=>∃ g j mv,e=.returned (.tuple #[PT g 0,.int .i64 0])∧So w0 d A g j mv base (zP base 0) 0 1048576 (rs.foldl cdo fun _=>none) (64*rs.length) L u':=by
 have hnl:(zP base 0).size≤281474976710656:=by
  have e:(zP base 0).size=base.size+5+1:=by
   show (base++_++_).size=_
   rw[ByteArray.size_append,ByteArray.size_append]
   rfl
  omega
 refine(sopen_ok d base hs (fun n u'=>∃ O,Sy w0 d A (n+1) n base 0 (fun _=>none) 0 O ((n+1+1) :: L) u'∧u'.cell? ⟨n+1,2,none⟩=some (.pointer none)∧u'.cell? ⟨n+1+1,0,none⟩=some (PT (n+1) 0))
  (fun n u'=>∃ j,So w0 d A (n+1) j n base (zP base 0) 0 1048576 (rs.foldl cdo fun _=>none) (64*rs.length) L u') u (working_any h) (fun v _=>by have:=snamed_ok base hs v;rwa [hb] at this) (fun v hv => ?_) (fun n v hi => ?_)).mono ?_
 ·have hd:=h.step hv
  obtain⟨s1,s2,s3⟩:=sy_opw hd (fun x hx=>hd.lt hx) base
  refine(rchk_none base hs _ s1.da s1.c0 s1.c1 hsn).mono ?_
  rintro e v' ⟨rfl,hb'⟩
  have hx3:v.heap.size+1+1<(opw v d base).heap.size:=s1.da.lt (List.mem_append_right _ (List.mem_cons_self ..))
  have c3:=(hb'.cell (p:=⟨v.heap.size+1+1,0,none⟩) hx3).trans s3
  exact⟨rfl,c3,_,(s1.below hb').1,(hb'.cell (p:=⟨v.heap.size+1,2,none⟩) s1.gl).trans s2,c3⟩
 ·obtain⟨O,s1,s2,s3⟩:=hi
  refine(rlog_any s1 s2 (n+1+1) (List.mem_cons_self ..) s3 (zP base 0) hnl hn (fun v hv=>log_any (n+1) 0 (by omega) base hs v hv) hr hct hN (by omega)).mono ?_
  rintro e v' ⟨rfl,e2,j,t1,t2,t3,t4,t5⟩
  refine⟨rfl,e2,j,?_,t2,t3,t4,fun hm=>t5 (List.mem_cons_of_mem _ hm)⟩
  obtain⟨O',t1⟩:=t1
  refine⟨O',(t1.sub fun x hx => ?_).mono (by omega)⟩
  rcases List.mem_cons.1 hx with e | e
  ·exact List.mem_cons.2 (.inl e)
  ·exact List.mem_cons_of_mem _ (List.mem_cons_of_mem _ e)
 ·rintro e v' ⟨n,rfl,j,hh⟩
  exact⟨n+1,j,n,rfl,hh⟩
end
end Wi
end Rg
end Go.Proofs.YtmcpagjhpfbpgaaGreatDoor
end
section
namespace Go.Proofs.YtmcpagjhpfbpgaaGreatDoor
open Go.RowKit
namespace Rg
namespace Wi
set_option maxRecDepth 100000
open Go.Shelf Go.Maps Go.Sort
attribute [local go_sem] Oper.semAt_some
theorem maps_Keys_117 (mb:Option Nat) (W:World):CallsIn Fence.wide 5 Tryz.prog 117 #[.map mb] W fun e w'=>e=.returned (.func (.func 152) #[] #[.pointer (some ⟨W.heap.size,0,none⟩)])∧w'=W.alloc (.cells #[.map mb] 46) :=
 AnyZ.keys_in Tryz.keys117 Fence.wide 5 trivial rfl mb W
theorem sorted_keys_117 {H:Type} (b nn:Nat) (D0:DataW H) (R:Value→Option (DataW H×List MemPlace)) (w:World) (hown:w.ownsMap Tryz.prog 9 R b nn D0) (hmax:Maps.size D0≤maxLen) (hbytes:Maps.size D0*16≤140737488355328) :
  CallsIn Fence.wide 5 Tryz.prog 66 #[.func (.func 152) #[] #[.pointer (some ⟨w.heap.size,0,none⟩)]] (w.alloc (.cells #[.map (some b)] 46)) fun e w'=>∃ (v:Value) (ss:List (List UInt8)),e=.returned v∧ss.Perm (strKeys D0) ∧
   w'.ownsRow (w.alloc (.cells #[.map (some b)] 46)).heap.size 9 1 v ss.length ((ss.mergeSort (fun x y=>decide (x≤y))).map encStr)∧(v=.slice none 0 0↔ss=[])∧Below (w.alloc (.cells #[.map (some b)] 46)).heap.size (w.alloc (.cells #[.map (some b)] 46)) w':=by
 have hbl:=hown.lt
 have hseq:SeqGives Fence.wide 2 Tryz.prog 152 #[.pointer (some ⟨w.heap.size,0,none⟩)] encStr (fun ss=>ss.Perm (strKeys D0)) (Maps.size D0) (w.alloc (.cells #[.map (some b)] 46)) :=
  AnyZ.keys_gives (ρ:=Tryz.keys117_ren) { Tryz.keys117 with } Fence.wide _ trivial rfl (by omega) w.heap.size b nn D0 _ (by simp) (by simp) (by
   obtain⟨es,clock,hb,Ft,hs,hD⟩:=hown
   exact⟨es,clock,(Below.heap_alloc _ _ b hbl).trans hb,Ft,hs,hD⟩)
 exact AnyZ.sorted_in Tryz.sorted66 Fence.wide 5 trivial trivial trivial trivial rfl (by omega) (sorts79 _) (enters_of Tryz.func127 (by kernel_rfl) rfl) 152 #[.pointer (some ⟨w.heap.size,0,none⟩)] trivial (enters_of Tryz.func152 (by kernel_rfl) rfl) _ _ hmax hbytes _ hseq
theorem keys_spec {w:World} {b n:Nat} {X:DataW Nat} {V:ByteArray→Option Vq} (h:w.ownsMap Tryz.prog 9 RB b n X) (hh:∀ s,Maps.has X (ky s)=(V s).isSome):(strKeys X).Nodup∧(strKeys X).length=Maps.size X∧∀ l,l∈strKeys X↔∃ s:ByteArray,l=s.data.toList∧(V s).isSome=true:=by
 obtain⟨es,rfl,hap,hks⟩:=h.entries (Maps.string_keyed Tryz.underlying9)
 have hst:∀ p∈es,∃ s,p.1=ky s:=fun p hp=>by
  obtain⟨es0,clock,_,F,_,e⟩:=h
  injection e with e
  rw[e] at hp
  obtain⟨x,hx,rfl⟩:=List.mem_map.1 (mem_sorted.1 hp)
  obtain⟨y,hy⟩:=F.reads x hx
  rw[WideElems.rg_of hy]
  obtain⟨s,_,e2,_⟩:=key_string (WideElems.rd_key hy)
  exact⟨s,e2⟩
 have hE:strKeys (.map es)=es.map fun p=>strOf p.1:=rfl
 rw[hE]
 refine⟨?_,by rw[List.length_map];rfl,fun l=>⟨fun hl => ?_,fun hl => ?_⟩⟩
 ·refine List.pairwise_map.2 (hap.imp_of_mem ?_)
  intro p q hp hq hne e
  apply hne
  obtain⟨s,e1⟩:=hst p hp
  obtain⟨t,e2⟩:=hst q hq
  rw[e1,e2] at e ⊢
  have e3:s.data.toList=t.data.toList:=e
  have e4:s=t:=ByteArray.ext (Array.toList_inj.1 e3)
  rw[e4]
 ·obtain⟨p,hp,rfl⟩:=List.mem_map.1 hl
  obtain⟨s,e⟩:=hst p hp
  refine⟨s,by rw[e];rfl,?_⟩
  rw[← hh s,← e]
  exact List.any_eq_true.2 ⟨p,hp,WideAt.sameKey_self (hks p hp)⟩
 ·obtain⟨s,rfl,hs⟩:=hl
  rw[← hh s] at hs
  obtain⟨p,hp,h2⟩:=List.any_eq_true.1 hs
  exact List.mem_map.2 ⟨p,hp,by rw[WideAt.sameKey_eq h2];rfl⟩
def Kys (B:ByteArray→Option (List Nat)) (ks:List (List UInt8)):Prop:=ks.Nodup∧ks.Pairwise (fun x y=>x≤y)∧∀ l,l∈ks↔∃ s:ByteArray,l=s.data.toList∧(B s).isSome=true
theorem Kys.uniq {B:ByteArray→Option (List Nat)} {k1 k2:List (List UInt8)} (h1:Kys B k1) (h2:Kys B k2):k1=k2:=by
 have hp:k1.Perm k2:=(List.perm_ext_iff_of_nodup h1.1 h2.1).2 fun a=>(h1.2.2 a).trans (h2.2.2 a).symm
 exact hp.eq_of_pairwise (fun a b _ _ x y=>List.le_antisymm x y) h1.2.1 h2.2.1
theorem skeys_any (g mv N:Nat) (Q:Nat→Prop) (B:ByteArray→Option (List Nat)) (w:World) (c4:w.cell? ⟨g,4,none⟩=some (.map (some mv))) (hv:Vb Q w mv B N) (hN:N≤1000000) :
  Calls Tryz.prog 54 #[PT g 0] w fun e w'=>∃ (v:Value) (ks:List (List UInt8)),e=.returned v∧Kys B ks∧ks.length≤N∧w'.ownsRow w.heap.size 9 1 v ks.length (ks.map encStr)∧(v=.slice none 0 0↔ks=[])∧Below w.heap.size w w':=by
 obtain⟨V,M,h1,h2,h3,h4⟩:=hv
 obtain⟨X,x1,x2,x3,x4⟩:=h1.mp
 obtain⟨n1,n0,n2⟩:=keys_spec x1 x3
 have hle:Hid ((strKeys X).length≤N):=(by rw[n0,x4];exact h2:(strKeys X).length≤N)
 have hX:Hid _:=x1
 have hN1:Hid _:=n1
 have hN2:Hid _:=n2
 have hH3:Hid _:=h3
 have hmax:Maps.size X≤maxLen:=by rw[x4];unfold maxLen;omega
 have hby:Maps.size X*16≤140737488355328:=by rw[x4];omega
 clear x1 x2 x3 x4 n1 n2 n0 h1 h3 h4
 refine(callsIn_wide (n:=7)).1 ?_
 have hro:Fence.wide.round=none:=rfl
 refine callsIn_of_wp Tryz.func54 rfl trivial ?_ hro
 simp only[Tryz.ntmps54,List.size_toArray,List.length_cons,List.length_nil,Nat.reduceAdd,Nat.reduceSub,Array.replicate_succ,Array.replicate_zero,List.push_toArray,List.append_toArray,List.nil_append,List.cons_append]
 gi_wp2_with (first
  | (gi_at_call 117;refine(callsIn_wide.2 (callsIn_wide.1 (maps_Keys_117 (some mv) w))).mono ?_;rintro e w2 ⟨rfl,rfl⟩)
  | (refine⟨trivial,?_⟩;gi_at_call 117;refine(callsIn_wide.2 (callsIn_wide.1 (maps_Keys_117 (some mv) w))).mono ?_;rintro e w2 ⟨rfl,rfl⟩)
  | (gi_at_call 66;refine(callsIn_wide.2 (callsIn_wide.1 (sorted_keys_117 mv M X RB w hX.out hmax hby))).mono ?_;rintro e w3 ⟨v,ss,rfl,hS,hrow,hnil,hb3⟩)
  | (refine⟨trivial,?_⟩;gi_at_call 66;refine(callsIn_wide.2 (callsIn_wide.1 (sorted_keys_117 mv M X RB w hX.out hmax hby))).mono ?_;rintro e w3 ⟨v,ss,rfl,hS,hrow,hnil,hb3⟩))
 have hb2:=(Below.refl _ w).alloc (Nat.le_refl _) (.cells #[.map (some mv)] 46)
 go_ret
 have hp:=List.mergeSort_perm ss (fun x y=>decide (x≤y))
 refine⟨v,ss.mergeSort (fun x y=>decide (x≤y)),rfl,⟨(hp.trans hS).nodup_iff.2 hN1.out,?_,fun l => ?_⟩,by rw[(hp.trans hS).length_eq];exact hle.out,?_,?_,hb2.trans (hb3.mono hb2.size)⟩
 ·have:=List.pairwise_mergeSort (le:=fun (x y:List UInt8)=>decide (x≤y)) (fun a b c h1 h2=>decide_eq_true (List.le_trans (of_decide_eq_true h1) (of_decide_eq_true h2))) (fun a b=>by simpa using List.le_total a b) ss
  exact this.imp fun h=>of_decide_eq_true h
 ·rw[(hp.trans hS).mem_iff,hN2.out l]
  constructor
  ·rintro⟨s,e1,e2⟩
   exact⟨s,e1,by rw[← hH3.out s];simpa using e2⟩
  ·rintro⟨s,e1,e2⟩
   rw[← hH3.out s] at e2
   exact⟨s,e1,by simpa using e2⟩
 ·rw[List.length_mergeSort]
  exact own_base hrow hb2.size
 ·rw[hnil]
  constructor
  ·intro h
   subst h
   simp
  ·intro h
   have:=congrArg List.length h
   rw[List.length_mergeSort] at this
   exact List.eq_nil_of_length_eq_zero this
end Wi
end Rg
end Go.Proofs.YtmcpagjhpfbpgaaGreatDoor
end
section
namespace Go.Proofs.YtmcpagjhpfbpgaaGreatDoor
open Go.RowKit
namespace Rg
namespace Wi
set_option maxRecDepth 100000
open Go.Sort
def kat (ks:List (List UInt8)) (i:Nat):ByteArray:=⟨(ks.getD i []).toArray⟩
def prs (K:Nat→ByteArray) (P:Nat→Pt8) (n:Nat):List Value:=(List.range n).flatMap fun i=>[.string (K i),.slice (P i).p (P i).n (P i).cp]
theorem prs_snoc (K:Nat→ByteArray) (P:Nat→Pt8) (n:Nat) (q:Pt8):prs K P n++[.string (K n),.slice q.p q.n q.cp]=prs K (upP P n q) (n+1):=by
 unfold prs
 rw[List.range_succ,List.flatMap_append,List.flatMap_singleton]
 congr 1
 ·rw[List.flatMap_def,List.flatMap_def]
  refine congrArg List.flatten (List.map_congr_left fun i hi => ?_)
  have:=List.mem_range.1 hi
  unfold upP
  rw[if_neg (by omega)]
 ·unfold upP
  rw[if_pos rfl]
theorem info_pr:∃ i,Tryz.prog.info? 69=some i∧i.zero=some (.agg #[.string ByteArray.empty,.slice none 0 0])∧i.size=2∧i.bytes=40:=by
 obtain⟨i,hi⟩:∃ i,Tryz.prog.info? 69=some i:=by
  have h:(Tryz.prog.info? 69).isSome=true:=by kernel_rfl
  rcases e:Tryz.prog.info? 69 with _ | i
  ·rw[e] at h;cases h
  ·exact⟨i,rfl⟩
 have h1:(Tryz.prog.info? 69).map (·.zero)=some (some (.agg #[.string ByteArray.empty,.slice none 0 0])):=by kernel_rfl
 have h2:(Tryz.prog.info? 69).map (·.size)=some 2:=by kernel_rfl
 have h3:(Tryz.prog.info? 69).map (·.bytes)=some 40:=by kernel_rfl
 rw[hi] at h1 h2 h3
 exact⟨i,hi,Option.some.inj h1,Option.some.inj h2,Option.some.inj h3⟩
structure Pr (w:World) (v:Value) (n:Nat) (K:Nat→ByteArray) (P:Nat→Pt8) (u:World):Prop where
 b:Below w.heap.size w u
 own:u.ownsRow w.heap.size 69 2 v n (prs K P n)
 ok:∀ i,i<n→Pok (P i)∧((P i).p=none→(P i).cp=0)∧(P i).rs u∧(0<(P i).n→w.heap.size≤(P i).gb∧(P i).gb∉vbl v)
section
variable {w u u':World} {v:Value} {n:Nat} {K:Nat→ByteArray} {P:Nat→Pt8}
theorem Pr.step (h:Pr w v n K P u) (hb:Below u.heap.size u u'):Pr w v n K P u' :=
 ⟨h.b.trans (hb.mono h.b.size),own_keep h.own (fun x hx=>hb.block x (own_lt h.own x hx)),fun i hi=>⟨(h.ok i hi).1,(h.ok i hi).2.1,(h.ok i hi).2.2.1.below hb,(h.ok i hi).2.2.2⟩⟩
theorem Pr.lo (h:Pr w v n K P u):∀ x∈vbl v,w.heap.size≤x∧x<u.heap.size:=fun x hx=>⟨by
 unfold vbl at hx
 cases hv:v.ownBlock with
 | none=>rw[hv] at hx;simp at hx
 | some k=>rw[hv] at hx;simp at hx;subst hx;exact(World.ownsRow.lt h.own _ hv).1,own_lt h.own x hx⟩
theorem Pr.app (h:Pr w v n K P u) (hn:n≤1000000) {q:Pt8} (hq:Pok q∧(q.p=none→q.cp=0)∧q.rs u∧(0<q.n→w.heap.size≤q.gb∧q.gb∉vbl v)) {gs:Nat} (hs:∀ j x,[Value.string (K n),.slice q.p q.n q.cp][j]?=some x→u.cell? ⟨gs,j,none⟩=some x) (ty:TypeId) :
  ∃ v' u2,(Builtin.append_ #[54,54] ty #[v,.slice (some ⟨gs,0,none⟩) 1 1]).run Tryz.prog u=.ok v' u2∧Pr w v' (n+1) K (upP P n q) u2∧Chg (vbl v) u u2∧∀ x∈vbl v',x∈vbl v∨x=u.heap.size:=by
 obtain⟨i0,hi,hz0,hz1,hz2⟩:=info_pr
 obtain⟨v',w2,r1,r2,r3,_,r5⟩:=run_append_own_at (P:=Tryz.prog) u w.heap.size 54 ty 69 i0 _ 2 40 Tryz.underlying54 hi hz0 hz1 hz2 rfl (by decide) v n _ h.own ⟨gs,0,none⟩ 1 1 [Value.string (K n),.slice q.p q.n q.cp] rfl
  (fun j x hj=>by rw[add_z];exact hs j x hj) (fun x hx=>by
   rcases List.mem_cons.1 hx with e | hx
   ·rw[e];rfl
   ·rw[List.mem_singleton.1 hx];rfl) (by unfold maxLen;omega) (by omega) h.b.size
 rw[prs_snoc] at r2
 have hc:=Chg.grown r3
 have hv':∀ x∈vbl v',x∈vbl v∨x=u.heap.size:=fun x hx=>by
  unfold vbl at hx ⊢
  rcases r5 with e | e
  ·rw[e] at hx;exact .inl hx
  ·rw[e] at hx;exact .inr (by simpa using hx)
 have key:∀ p:Pt8,p.rs u→(0<p.n→w.heap.size≤p.gb∧p.gb∉vbl v)→p.rs w2∧(0<p.n→w.heap.size≤p.gb∧p.gb∉vbl v'):=fun p h1 h2=>⟨h1.keep hc.size (fun h0=>hc.block _ (h1.lt h0) (h2 h0).2),fun h0=>⟨(h2 h0).1,fun hx=>by
  rcases hv' _ hx with e | e
  ·exact(h2 h0).2 e
  ·have:=h1.lt h0
   omega⟩⟩
 refine⟨v',w2,r1,⟨h.b.trans (hc.toBelow (fun x hx=>(h.lo x hx).1) h.b.size),r2,fun i hi => ?_⟩,hc,hv'⟩
 unfold upP
 by_cases e:i=n
 ·rw[if_pos e]
  exact⟨hq.1,hq.2.1,key q hq.2.2.1 hq.2.2.2⟩
 ·rw[if_neg e]
  have o:=h.ok i (by omega)
  exact⟨o.1,o.2.1,key _ o.2.2.1 o.2.2.2⟩
def Kyb (kb m:Nat) (K:Nat→ByteArray) (v:Value) (u:World):Prop:=0<m→kb∉vbl v∧kb<u.heap.size∧∀ i,i<m→u.cell? ⟨kb,i,none⟩=some (.string (K i))
theorem pair_step {m kb:Nat} (h:Pr w v n K P u) (hk:Kyb kb m K v u) (hn:n≤1000000) {x:Value} {N:Nat} {f:Nat→Nat} {u1:World} (hx:Cw u x N f u1) :
  ∃ q:Pt8,x=.slice q.p q.n q.cp∧bs q.n q.f=bs N f∧∃ v' u2,(∀ ty,(Builtin.append_ #[54,54] ty #[v,.slice (some ⟨u1.heap.size,0,none⟩) 1 1]).run Tryz.prog (u1.alloc (.cells #[.string (K n),.slice q.p q.n q.cp] 69))=.ok v' u2)∧Pr w v' (n+1) K (upP P n q) u2∧Kyb kb m K v' u2:=by
 obtain⟨q,rfl,q1,q2,q3,q4,q5,q6⟩:=own_part hx.own
 have b2:Below u1.heap.size u1 (u1.alloc (.cells #[.string (K n),.slice q.p q.n q.cp] 69)):=(Below.refl _ u1).alloc (Nat.le_refl _) _
 have bu:=zR _ _ hx.b b2
 obtain⟨v',u2,a1,a2,a3,a4⟩:=(h.step bu).app hn (q:=q) ⟨q1,q2,q5.below b2,fun h0=>by
  have e:=q6 h0
  have h1:q.gb∈vbl (.slice q.p q.n q.cp):=by unfold vbl;rw[e];simp
  have h2:=hx.lo _ h1
  exact⟨Nat.le_trans h.b.size h2,fun hm=>by have:=(h.lo _ hm).2;omega⟩⟩ (gs:=u1.heap.size) (fun j y hj=>al_new u1 _ 69 j y (by rw[List.getElem?_toArray];exact hj)) 0
 refine⟨q,rfl,by rw[q3,q4],v',u2,fun ty => ?_,a2,fun h0 => ?_⟩
 ·exact a1
 ·obtain⟨k1,k2,k3⟩:=hk h0
  have s1:=bu.size
  refine⟨fun hm => ?_,Nat.lt_of_lt_of_le k2 (Nat.le_trans s1 a3.size),fun i hi => ?_⟩
  ·rcases a4 _ hm with e | e
   ·exact k1 e
   ·omega
  ·exact(a3.cell (p:=⟨kb,i,none⟩) (Nat.lt_of_lt_of_le k2 s1) k1).trans ((bu.cell (p:=⟨kb,i,none⟩) k2).trans (k3 i hi))
theorem kat_cell {ks:List (List UInt8)} {kb cap:Nat} {u:World} {B:Nat} (h:u.ownsRow B 9 1 (.slice (some ⟨kb,0,none⟩) ks.length cap) ks.length (ks.map encStr)):∀ i,i<ks.length→u.cell? ⟨kb,i,none⟩=some (.string (kat ks i)):=fun i hi=>by
 rw[h.cellAt i (by omega),List.getElem?_map,List.getElem?_eq_getElem hi]
 unfold kat
 rw[List.getD_eq_getElem?_getD,List.getElem?_eq_getElem hi]
 rfl
theorem kys_at {B:ByteArray→Option (List Nat)} {ks:List (List UInt8)} (h:Kys B ks) {i:Nat} (hi:i<ks.length):(B (kat ks i)).isSome=true:=by
 have hm:ks.getD i []∈ks:=by
  rw[List.getD_eq_getElem?_getD,List.getElem?_eq_getElem hi]
  exact List.getElem_mem hi
 obtain⟨s,e1,e2⟩:=(h.2.2 _).1 hm
 have:kat ks i=s:=by
  unfold kat
  rw[e1,Array.toArray_toList]
 rw[this]
 exact e2
theorem spairs_any (g j mv N:Nat) (Q:Nat→Prop) (B:ByteArray→Option (List Nat)) (w:World) (c2:w.cell? ⟨g,2,none⟩=some (PT j 0)) (c4:w.cell? ⟨g,4,none⟩=some (.map (some mv))) (hg:g<w.heap.size) (hv:Vb Q w mv B N) (hN:N≤1000000) (hkl:∀ s,(B s).isSome=true→s.size≤maxLen) :
  Calls Tryz.prog 16 #[PT g 0] w fun e w'=>∃ v ks P,e=.returned v∧Kys B ks∧ks.length≤N∧Pr w v ks.length (kat ks) P w'∧∀ i,i<ks.length→B (kat ks i)=some (bs (P i).n (P i).f):=by
 have HV:Hid _:=hv
 obtain⟨V,M,h1,h2,h3,h4⟩:=hv
 have hlen:∀ ty,(Builtin.len_ #[46] ty #[.map (some mv)]).run Tryz.prog w=.ok (.int .i64 ((M:Nat):Int)) w:=h1.len
 obtain⟨i0,hi0,hz0,hz1,hz2⟩:=info_pr
 obtain⟨w2,hmk,m2,m3⟩:=run_make_own (P:=Tryz.prog) w w.heap.size 54 69 i0 _ 2 Tryz.underlying54 hi0 hz0 hz1 .i64 .i64 M (by rw[hz2];omega) (by unfold maxLen;omega) (Nat.le_refl _)
 have b2:Below w.heap.size w w2:=(Chg.grown m3).toBelow (fun x hx=>by simp at hx) (Nat.le_refl _)
 have hP2:Hid (Pr w (.slice (some ⟨w.heap.size,0,none⟩) 0 M) 0 (fun _=>ByteArray.empty) (fun _=>Pt8.no) w2):=⟨b2,m2,fun i hi=>absurd hi (Nat.not_lt_zero _)⟩
 have HK:Hid _:=skeys_any g mv N Q B w2 ((b2.cell (p:=⟨g,4,none⟩) hg).trans c4) (Vb.below HV.out b2) hN
 have HB2:Hid _:=b2
 have HS2:Hid (w.heap.size<w2.heap.size):=own_lt m2 _ (by simp[vbl,Value.ownBlock])
 have HKL:Hid _:=hkl
 have HG:Hid _:=hg
 clear h1 h2 h3 h4 m2 m3 b2 hkl hi0 hz0 hz1 hz2 hg
 go_enter Tryz.func16,Tryz.ntmps16
 go_wp2_with (first
  | (go_at_call 42;refine(smade_j g j _ c2).mono ?_;rintro e w ⟨rfl,rfl⟩)
  | (go_at_call 54;refine Calls.mono HK.out ?_;rintro e w3 ⟨kv,ks,rfl,hks,hle,hrow,hnil,hb3⟩;obtain⟨kp,kc,rfl,hkc⟩:=own_slice hrow;have HKS:Hid _:=hks;have HROW:Hid _:=hrow;have HLE:Hid _:=hle;have HB3:Hid _:=hb3;clear hks hrow hle hb3 hnil)
  | fail)
 obtain⟨kb,hkp,hkb⟩:∃ kb,(0<ks.length→kp=some ⟨kb,0,none⟩)∧Kyb kb ks.length (kat ks) (.slice (some ⟨w.heap.size,0,none⟩) 0 M) w3:=by
  have hr:=HROW.out
  rcases hr.2 with ⟨e1,e2⟩ | ⟨g',cap,cur,e1,e2,e3,_⟩
  ·exact⟨0,fun h0=>by omega,fun h0=>by omega⟩
  ·cases e1
   refine⟨g',fun _=>rfl,fun _=>⟨fun hm => ?_,(Array.getElem?_eq_some_iff.1 e3).1,kat_cell hr⟩⟩
   have:g'=w.heap.size:=by simpa [vbl,Value.ownBlock] using hm
   have:=HS2.out
   omega
 have hPr:Pr w (.slice (some ⟨w.heap.size,0,none⟩) 0 M) 0 (kat ks) (fun _=>Pt8.no) w3:=Pr.step ⟨hP2.out.b,hP2.out.own,fun i hi=>absurd hi (Nat.not_lt_zero _)⟩ HB3.out
 have HP:Hid _:=hPr
 have HKb:Hid _:=hkb
 have HKP:Hid _:=hkp
 have hlN:ks.length≤1000000:=Nat.le_trans HLE.out hN
 clear hPr hkb hkp hkc
 go_loopw [3,18] (fun vv v wr=>∃ (i:Nat) (P:Nat→Pt8),v=.int .i64 (i:Int)∧i≤ks.length∧Hid (Pr w vv i (kat ks) P wr∧Kyb kb ks.length (kat ks) vv wr∧∀ k,k<i→B (kat ks k)=some (bs (P k).n (P k).f)))
  (fun _ v _=>ks.length - (RowKit.intOf v).toNat)
 case atStart=>exact⟨0,_,rfl,Nat.zero_le _,HP.out,HKb.out,fun k hk=>absurd hk (Nat.not_lt_zero _)⟩
 case round =>
  obtain⟨i,P,rfl,hi,hh⟩:=hrel
  by_cases hlt:i<ks.length
  ·have hb:=hh.out.1.b
   have hltI:(i:Int)<ks.length:=by omega
   have c4r:wr.cell? ⟨g,4,none⟩=some (.map (some mv)):=(hb.cell (p:=⟨g,4,none⟩) HG.out).trans c4
   have hci:=(hh.out.2.1 (by omega)).2.2 i hlt
   obtain⟨V',M',v1,v2,v3,v4⟩:=Vb.below HV.out hb
   have hs:=kys_at HKS.out hlt
   have hsz:=HKL.out _ hs
   obtain⟨x,hx⟩:∃ x,V' (kat ks i)=some x:=by
    rw[← v3] at hs
    cases hq:V' (kat ks i) with
    | none=>rw[hq] at hs;simp at hs
    | some x=>exact⟨x,rfl⟩
   have hlk:=v1.look (kat ks i) hsz
   rw[hx] at hlk
   have hxo:=v1.ow _ x hx
   have hxn:=(v4 _ x hx).1
   have hBx:Hid (B (kat ks i)=some (bs x.n x.P)):=(by rw[← v3,hx];rfl:B (kat ks i)=some (bs x.n x.P))
   clear v1 v2 v3 v4 hs hx hb
   obtain⟨q,q0,q1,q2,q3,q4,q5,q6⟩:=own_part hxo
   have hlk':(Instr.lookup 46 (.map (some mv)) (.string (kat ks i)) false).run Tryz.prog wr=.ok (.slice q.p q.n q.cp) wr:=by rw[← q0];exact hlk
   have HC:Hid _:=bclone_any q (by rw[q3];omega) wr q1 q2 q5
   rw[← q3,← q4] at hBx
   clear q1 q2 q3 q4 q5 q6 q0 hlk hxo hxn
   obtain rfl:=HKP.out (by omega)
   go_wp2_with (first
    | (go_at_call 43;refine Calls.mono HC.out ?_;rintro e w4 ⟨y,rfl,hcw⟩;obtain⟨q',rfl,hbs,v',u2,happ,hPr',hK'⟩:=pair_step hh.out.1 hh.out.2.1 (by omega) hcw;have HA:Hid _:=happ;have HBS:Hid _:=hbs;have HP':Hid _:=hPr';have HK':Hid _:=hK';clear happ hbs hPr' hK' hcw)
    | (at_builtin;refine wpl_app rfl _ _ 54 rfl u3 (.slice (some ⟨w4.heap.size,0,none⟩) 1 1) v' rfl rfl (HA.out _) ?_)
    | fail)
   go_roundw
   case rel =>
    refine⟨i+1,_,by simp,by omega,HP'.out,HK'.out,fun k hk => ?_⟩
    unfold upP
    by_cases e:k=i
    ·rw[if_pos e,e,hBx.out,HBS.out]
    ·rw[if_neg e]
     exact hh.out.2.2 k (by omega)
   case measure=>simp[RowKit.intOf];omega
  ·obtain e:i=ks.length:=by omega
   have E:Hid _:=e
   have hz:¬((i:Int)<(ks.length:Int)):=by omega
   clear e hlt hi
   go_wp2
   go_ret
   obtain⟨r1,r2,r3⟩:=hh.out
   rw[E.out] at r1 r3
   exact⟨_,rfl,ks,HKS.out,HLE.out,P,r1,r3⟩
end
end Wi
end Rg
end Go.Proofs.YtmcpagjhpfbpgaaGreatDoor
end
section
namespace Go.Proofs.YtmcpagjhpfbpgaaGreatDoor
open Go.RowKit
namespace Rg
namespace Wi
set_option maxRecDepth 100000
structure Pl (p:Option Addr) (g o n:Nat) (K:Nat→ByteArray) (P:Nat→Pt8) (u:World):Prop where
 hp:0<n→p=some ⟨g,o,none⟩
 lt:0<n→g<u.heap.size
 ck:∀ i,i<n→u.cell? ⟨g,o+i*2,none⟩=some (.string (K i))
 cv:∀ i,i<n→u.cell? ⟨g,o+i*2+1,none⟩=some (.slice (P i).p (P i).n (P i).cp)
 ok:∀ i,i<n→Pok (P i)∧(P i).rs u
theorem Pl.below {p:Option Addr} {g o n:Nat} {K:Nat→ByteArray} {P:Nat→Pt8} {u u':World} (h:Pl p g o n K P u) (hb:Below u.heap.size u u'):Pl p g o n K P u' :=
 ⟨h.hp,fun h0=>Nat.lt_of_lt_of_le (h.lt h0) hb.size,fun i hi=>(hb.cell (p:=⟨g,_,none⟩) (h.lt (by omega))).trans (h.ck i hi),fun i hi=>(hb.cell (p:=⟨g,_,none⟩) (h.lt (by omega))).trans (h.cv i hi),fun i hi=>⟨(h.ok i hi).1,Rs.below (h.ok i hi).2 hb⟩⟩
theorem bdn (u:World) (m:Nat):Below u.heap.size u (u.drewN m):=⟨rfl,rfl,rfl,Nat.le_refl _,fun _ _=>rfl⟩
theorem samep_g (q r:Pt8) (u:World) (hq:Pok q∧q.rs u) (hr:Pok r∧r.rs u) :
  ∃ b,(bs q.n q.f=bs r.n r.f→b=true)∧∀ m,Calls Tryz.prog 20 #[.slice q.p q.n q.cp,.slice r.p r.n r.cp] (u.drewN m) fun e u'=>e=.returned (.bool b)∧u'=u.drewN m:=by
 refine⟨decide (strOfNums (q8 q.f q.n)=strOfNums (q8 r.f r.n)),fun h => ?_,fun m => ?_⟩
 ·refine decide_eq_true ?_
  have hn:q.n=r.n:=by have:=congrArg List.length h;rwa [bs_len,bs_len] at this
  rw[hn]
  congr 1
  refine q8_cg fun i hi => ?_
  have e:=congrArg (fun l=>l[i]?) h
  rw[bs_get _ (show i<q.n by omega),bs_get _ hi] at e
  exact Option.some.inj e
 ·have h1:=(bsl_q hq.1 (hq.2.below (bdn u m))).text
  have h2:=(bsl_q hr.1 (hr.2.below (bdn u m))).text
  by_cases he:strOfNums (q8 q.f q.n)=strOfNums (q8 r.f r.n)
  ·rw[he] at h1 ⊢
   go_enter Tryz.func20,Tryz.ntmps20
   go_wp2
   go_ret
   simp
  ·have he2:=str_ne he
   go_enter Tryz.func20,Tryz.ntmps20
   go_wp2
   go_ret
   simp
   exact he
theorem samep_any {p1 p2:Option Addr} {g1 o1 n1 g2 o2 n2:Nat} {K1 K2:Nat→ByteArray} {P1 P2:Nat→Pt8} (c1 c2:Nat) (u:World) (h1:Pl p1 g1 o1 n1 K1 P1 u) (h2:Pl p2 g2 o2 n2 K2 P2 u) (b1:n1≤1000000) (b2:n2≤1000000) :
  Calls Tryz.prog 21 #[.slice p1 n1 c1,.slice p2 n2 c2] u fun e u'=>∃ b,e=.returned (.bool b)∧((n1=n2∧∀ i,i<n1→K1 i=K2 i∧bs (P1 i).n (P1 i).f=bs (P2 i).n (P2 i).f)→b=true)∧Below u.heap.size u u':=by
 have H1:Hid _:=h1
 have H2:Hid _:=h2
 clear h1 h2
 by_cases hn:n1=n2
 ·subst hn
  go_enter Tryz.func21,Tryz.ntmps21
  go_wp2
  go_loopw [5] (fun v wr=>∃ i:Nat,v=.int .i64 (i:Int)∧i≤n1∧Below u.heap.size u wr)
   (fun v _=>n1 - (RowKit.intOf v).toNat)
  case atStart=>exact⟨0,rfl,Nat.zero_le _,Below.refl _ _⟩
  case round =>
   obtain⟨i,rfl,hi,hb⟩:=hrel
   by_cases hlt:i<n1
   ·have l1:=H1.out.below hb
    have l2:=H2.out.below hb
    obtain⟨b,hbb,hcall⟩:=samep_g (P1 i) (P2 i) wr (l1.ok i hlt) (l2.ok i hlt)
    have HB:Hid _:=hcall
    have HE:Hid _:=hbb
    have hp1:=l1.hp (by omega)
    have hp2:=l2.hp (by omega)
    have k1:=l1.ck i hlt
    have k2:=l2.ck i hlt
    have v1:=l1.cv i hlt
    have v2:=l2.cv i hlt
    have hltI:(i:Int)<(n1:Int):=by omega
    clear l1 l2 hcall hbb
    subst hp1
    subst hp2
    by_cases hk:K1 i=K2 i
    ·rw[← hk] at k2
     have HK:Hid _:=hk
     clear hk
     cases b with
     | true =>
      go_wp2
      go_quiet (first | (go_at_call 20;exact Calls.quiet_of_same (HB.out _)) | fail)
      go_wp2
      go_roundw
      case rel=>exact⟨i+1,by simp,by omega,hb.trans ((bdn wr _).mono hb.size)⟩
      case measure=>simp[RowKit.intOf];omega
     | false =>
      go_wp2
      go_quiet (first | (go_at_call 20;exact Calls.quiet_of_same (HB.out _)) | fail)
      go_wp2
      go_ret
      exact⟨false,rfl,fun h=>absurd (HE.out (h.2 i hlt).2) (by simp),hb.trans ((bdn wr _).mono hb.size)⟩
    ·have he2:=str_ne hk
     have HK:Hid _:=hk
     go_wp2
     go_quiet (first | (go_at_call 20;exact Calls.quiet_of_same (HB.out _)) | fail)
     go_wp2
     go_ret
     exact⟨false,rfl,fun h=>absurd (h.2 i hlt).1 HK.out,hb.trans ((bdn wr _).mono hb.size)⟩
   ·obtain rfl:i=n1:=by omega
    go_wp2
    go_ret
    exact⟨true,rfl,fun _=>rfl,hb⟩
 ·have hnI:¬((n1:Int)=(n2:Int)):=by omega
  go_enter Tryz.func21,Tryz.ntmps21
  go_wp2
  go_ret
  exact⟨false,rfl,fun h=>absurd h.1 hn,Below.refl _ _⟩
end Wi
end Rg
end Go.Proofs.YtmcpagjhpfbpgaaGreatDoor
end
section
namespace Go.Proofs.YtmcpagjhpfbpgaaGreatDoor
open Go.RowKit
namespace Rg
namespace Wi
set_option maxRecDepth 100000
theorem Int_any (n:Nat) (hn:n<4611686018427387904) (w:World) :
  Calls Tryz.prog 107 #[.int .i64 (n:Int)] w fun e w'=>∃ v,e=.returned (.tuple #[v,.int .i64 0])∧∃ N P,Cw w v N P w'∧bs N P=wn 8 n:=by
 have z0:¬((n:Int)<0):=by omega
 have z1:¬((4611686018427387903:Int)<n):=by omega
 have hW:Wt w w.heap.size [] (w.alloc (.cells #[.slice none 0 0] 204)):=Wt.start (P:=fun _=>0) ⟨Below.refl _ _,World.ownsRow_nil _ _ _ _⟩
 have hp:=put_more hW (k:=8) (by decide) (by decide) n (nilp fun _=>0) ⟨(nilp_ok _ w).1,(nilp_ok _ w).2.1,(nilp_ok _ w).2.2⟩ (by show 0+8+0≤_;omega)
 rw[World.size_alloc] at hp
 have HP:Hid (Calls Tryz.prog 142 #[PT w.heap.size 0,.int .i64 8,.slice none 0 0,.slice (some ⟨w.heap.size+1,0,none⟩) 1 1] ((w.alloc (.cells #[.slice none 0 0] 204)).alloc (.cells #[.int .i64 (n:Int)] 3)) fun e w'=>e=.returned (.tuple #[])∧Wt w w.heap.size (wn 8 n) w'):=Calls.mono hp fun e w' hh=>by
  obtain⟨e1,e2⟩:=hh
  rw[List.nil_append,show bs (nilp fun _=>0).n (nilp fun _=>0).f=[] from rfl,List.append_nil] at e2
  exact⟨e1,e2⟩
 clear hp
 clear hW
 go_enter Tryz.func107,Tryz.ntmps107
 go_wp2_with (first
  | (go_at_call 142;refine Calls.mono HP.out ?_;rintro e w1 ⟨rfl,hw1⟩;obtain⟨vv,N,P,e1,e2,e3,e4⟩:=hw1;have c0:w1.cell? ⟨w.heap.size,0,none⟩=some vv:=((e2.blk _ (List.mem_cons_self ..)).2 0 _ rfl).1;have H1:Hid _:=e1;have H3:Hid _:=e3;clear e1 e2 e3 e4)
  | fail)
 go_ret2
 exact⟨vv,rfl,N,P,⟨H1.out.b,H1.out.own⟩,H3.out⟩
theorem Frame_l (q:Pt8) (hn:q.n≤65536) (w:World) (hq:Pq q w):Calls Tryz.prog 108 #[.slice q.p q.n q.cp] w fun e w'=>∃ v,e=.returned (.tuple #[v,.int .i64 0])∧∃ N P,Cw w v N P w'∧bs N P=fr (bs q.n q.f) :=
 (Frame_ok q hn w ⟨hq.1,hq.2.2⟩ hq.2.1).mono fun e w' hh=>by
  obtain⟨v,e1,e2⟩:=hh
  exact⟨v,e1,_,_,e2,fr_bs _ _⟩
theorem Cw.pq {w w':World} {v:Value} {N:Nat} {P:Nat→Nat} (h:Cw w v N P w'):∃ q:Pt8,v=.slice q.p q.n q.cp∧q.n=N∧q.f=P∧Pq q w':=by
 obtain⟨q,q0,q1,q2,q3,q4,q5,_⟩:=own_part h.own
 exact⟨q,q0,q3,q4,q1,q2,q5⟩
def keyq (g cap:Nat) (k:ByteArray):Pt8:=⟨g,0,k.size,cap,some ⟨g,0,none⟩,fun j=>(k.data.toList.getD j 0).toNat⟩
theorem pairFrame_any (k:ByteArray) (q:Pt8) (hk:k.size≤128) (hn:q.n≤8192) (w:World) (hq:Pq q w) :
  Calls Tryz.prog 109 #[.string k,.slice q.p q.n q.cp] w fun e w'=>∃ v,e=.returned (.tuple #[v,.int .i64 0])∧∃ N P,Cw w v N P w'∧bs N P=fr (wf [kb k,bs q.n q.f]):=by
 obtain⟨cap,u,hcv,h2,h3,h4,h5⟩:=s2p k w
 have b1:Below u.heap.size u (u.alloc (.cells #[.slice (some ⟨w.heap.size,0,none⟩) k.size cap,.slice q.p q.n q.cp] 40)):=(Below.refl _ u).alloc (Nat.le_refl _) _
 have b2:=zR _ _ h3 b1
 have hL:Lv (some ⟨u.heap.size,0,none⟩) u.heap.size 0 2 (fun i=>if i=0 then keyq w.heap.size cap k else q) (u.alloc (.cells #[.slice (some ⟨w.heap.size,0,none⟩) k.size cap,.slice q.p q.n q.cp] 40)):=⟨fun _=>rfl,fun _=>by simp,fun i hi=>by
  rw[Nat.zero_add]
  rcases i with _ | _ | i
  ·exact al_new u _ 40 0 _ rfl
  ·exact al_new u _ 40 1 _ rfl
  ·omega,fun i hi=>by
  rcases i with _ | _ | i
  ·exact⟨⟨Bv.start _ _ _ _,h2⟩,(fun e=>by cases e),Rs.below h5 b1⟩
  ·exact⟨hq.1,hq.2.1,(hq.2.2.below b2)⟩
  ·omega⟩
 have HF:Hid _:=Fields_any _ 2 2 _ 0 _ (by decide) (by
  show fsum _ 2≤1048576
  rw[fsum_step,fsum_step]
  show 4+(4+k.size)+(4+q.n)≤_
  omega) _ hL
 have HLE:Hid ((wf (fls (fun i=>if i=0 then keyq w.heap.size cap k else q) 2)).length≤65536):=by
  show (wf (fls (fun i=>if i=0 then keyq w.heap.size cap k else q) 2)).length≤65536
  have e:fls (fun i=>if i=0 then keyq w.heap.size cap k else q) 2=[bs k.size (keyq w.heap.size cap k).f,bs q.n q.f]:=by
   unfold fls
   simp[List.range_succ]
   rfl
  rw[e]
  unfold wf wfs
  simp[wn_len,bs_len]
  omega
 have HB:Hid _:=b2
 clear h2 h3 h4 h5 b1 b2 hL
 go_enter Tryz.func109,Tryz.ntmps109
 go_wp2_with (first
  | (go_at_call 104;refine Calls.mono HF.out ?_;rintro e w2 ⟨v,rfl,N,P,hcw,hbs⟩;obtain⟨q2,rfl,hN,hP,hq2⟩:=hcw.pq;have HB2:Hid _:=hcw.b;have HQ2:Hid _:=hq2;have HS:Hid (bs q2.n q2.f=wf (fls (fun i=>if i=0 then keyq w.heap.size cap k else q) 2)∧q2.n≤65536):=⟨by rw[hN,hP];exact hbs,by rw[hN];have e:=congrArg List.length hbs;rw[bs_len] at e;rw[e];exact HLE.out⟩;clear hcw hbs hN hP hq2)
  | (go_at_call 108;refine Calls.mono (Frame_l q2 HS.out.2 w2 HQ2.out) ?_;rintro e w3 ⟨v3,rfl,N3,P3,hcw3,hbs3⟩)
  | fail)
 go_ret2
 exact⟨v3,rfl,N3,P3,Cw.up (zR _ _ HB.out HB2.out) hcw3,by
  rw[hbs3,HS.out.1]
  unfold fls
  simp[List.range_succ]
  show fr (wf [bs k.size _,bs q.n q.f])=_
  rw[show bs k.size (keyq w.heap.size cap k).f=kb k from kb_bs k]⟩
end Wi
end Rg
end Go.Proofs.YtmcpagjhpfbpgaaGreatDoor
end
section
namespace Go.Proofs.YtmcpagjhpfbpgaaGreatDoor
open Go.RowKit
namespace Rg
namespace Wi
set_option maxRecDepth 100000
def pbd (B:ByteArray→Option (List Nat)) (k:List UInt8):List Nat:=wf [kb ⟨k.toArray⟩,(B ⟨k.toArray⟩).getD []]
def ckl (n:Nat) (B:ByteArray→Option (List Nat)) (ks:List (List UInt8)):List (List Nat):=wn 8 n :: ks.map (pbd B)
section
variable {w u u1:World} {v:Value} {N:Nat} {P:Nat→Nat}
theorem Cw.add (h:Cw w v N P u) (hu:Below u.heap.size u u1) {q:Pt8} (hq:Pq q u1) (hb:N+q.n≤2097152) :
  ∃ v' u2,(∀ ty,(Builtin.append_ #[40,40] ty #[v,.slice q.p q.n q.cp]).run Tryz.prog u1=.ok v' u2)∧Cw w v' (N+q.n) (ct P N q.f) u2∧Chg (vbl v) u1 u2∧∀ x∈vbl v',x∈vbl v∨x=u1.heap.size:=by
 have h1:=h.step hu
 obtain⟨v',u2,a1,a2,a3,a4⟩:=own_appQ h1.own h1.b.size hq.1 hq.2.1 hq.2.2 hb 0
 have hc:=Chg.grown a3
 exact⟨v',u2,fun ty=>a1,⟨h1.b.trans (hc.toBelow h1.lo h1.b.size),a2⟩,hc,fun x hx=>by
  unfold vbl at hx ⊢
  rcases a4 with e | e
  ·rw[e] at hx;exact .inl hx
  ·rw[e] at hx;exact .inr (by simpa using hx)⟩
end
theorem fl_app (a b:List (List Nat)):fl (a++b)=fl a++fl b:=by
 unfold fl
 rw[List.map_append,List.flatten_append]
theorem ckl_step (n:Nat) (B:ByteArray→Option (List Nat)) {ks:List (List UInt8)} {i:Nat} (hi:i<ks.length):fl (ckl n B (ks.take (i+1)))=fl (ckl n B (ks.take i))++fr (pbd B (ks.getD i [])):=by
 have e:ckl n B (ks.take (i+1))=ckl n B (ks.take i)++[pbd B (ks.getD i [])]:=by
  unfold ckl
  rw[List.take_add_one,List.getElem?_eq_getElem hi,List.map_append,List.getD_eq_getElem?_getD,List.getElem?_eq_getElem hi]
  rfl
 rw[e,fl_snoc]
theorem ckl_le (n:Nat) (B:ByteArray→Option (List Nat)) (ks:List (List UInt8)) (i:Nat):(fl (ckl n B (ks.take i))).length≤(fl (ckl n B ks)).length:=by
 have e:ckl n B ks=ckl n B (ks.take i)++(ks.drop i).map (pbd B):=by
  unfold ckl
  rw[List.cons_append,← List.map_append,List.take_append_drop]
 rw[e,fl_app,List.length_append]
 omega
theorem ckb_any (g mv N n:Nat) (hn:n<4611686018427387904) (Q:Nat→Prop) (B:ByteArray→Option (List Nat)) (w:World) (c4:w.cell? ⟨g,4,none⟩=some (.map (some mv))) (hg:g<w.heap.size) (hv:Vb Q w mv B N) (hN:N≤1000000) (hkl:∀ s,(B s).isSome=true→s.size≤128)
  (hsz:∀ ks,Kys B ks→(fl (ckl n B ks)).length≤1048576) :
  Calls Tryz.prog 50 #[PT g 0,.int .i64 (n:Int)] w fun e w'=>∃ v ks,e=.returned (.tuple #[v,.int .i64 0])∧Kys B ks∧∃ M P,Cw w v M P w'∧bs M P=fl (ckl n B ks):=by
 have HV:Hid _:=hv
 have HG:Hid _:=hg
 have HKL:Hid _:=hkl
 have HSZ:Hid _:=hsz
 have HI:Hid _:=Int_any n hn w
 clear hkl hv hg hsz
 go_enter Tryz.func50,Tryz.ntmps50
 go_wp2_with (first
  | (go_at_call 107;refine Calls.mono HI.out ?_;rintro e w1 ⟨v1,rfl,N1,P1,k1,k2⟩;obtain⟨q1,rfl,hN1,hP1,hq1⟩:=k1.pq;have H1:Hid (Below w.heap.size w w1∧Pq q1 w1∧q1.n≤65536∧bs q1.n q1.f=wn 8 n):=⟨k1.b,hq1,by rw[hN1];have e:=congrArg List.length k2;rw[bs_len,wn_len] at e;omega,by rw[hN1,hP1];exact k2⟩;clear k1 k2 hN1 hP1 hq1)
  | (go_at_call 108;refine Calls.mono (Frame_l q1 H1.out.2.2.1 w1 H1.out.2.1) ?_;rintro e w2 ⟨v2,rfl,N2,P2,k3,k4⟩;have H2:Hid (Cw w v2 N2 P2 w2∧bs N2 P2=fl [wn 8 n]):=⟨Cw.up H1.out.1 k3,by rw[k4,H1.out.2.2.2];unfold fl;simp⟩;clear k3 k4;have c42:=(H2.out.1.b.cell (p:=⟨g,4,none⟩) HG.out).trans c4;have HK:Hid _:=skeys_any g mv N Q B w2 c42 (Vb.below HV.out H2.out.1.b) hN)
  | (go_at_call 54;refine Calls.mono HK.out ?_;rintro e w3 ⟨kv,ks,rfl,hks,hle,hrow,hnil,hb3⟩;obtain⟨kp,kc,rfl,hkc⟩:=own_slice hrow;have HKS:Hid _:=hks;have HROW:Hid _:=hrow;have HLE:Hid _:=hle;have HB3:Hid _:=hb3;clear hks hrow hle hb3 hnil)
  | fail)
 obtain⟨kb0,hkp,hkb⟩:∃ kb0,(0<ks.length→kp=some ⟨kb0,0,none⟩)∧Kyb kb0 ks.length (kat ks) v2 w3:=by
  have hr:=HROW.out
  rcases hr.2 with ⟨e1,e2⟩ | ⟨g',cap,cur,e1,e2,e3,_⟩
  ·exact⟨0,fun h0=>by omega,fun h0=>by omega⟩
  ·cases e1
   refine⟨g',fun _=>rfl,fun _=>⟨fun hm => ?_,(Array.getElem?_eq_some_iff.1 e3).1,kat_cell hr⟩⟩
   have:=own_lt H2.out.1.own _ hm
   omega
 have HP:Hid (Cw w v2 N2 P2 w3):=H2.out.1.step HB3.out
 have HKb:Hid _:=hkb
 have HKP:Hid _:=hkp
 have hlN:ks.length≤1000000:=Nat.le_trans HLE.out hN
 have HS:Hid _:=HSZ.out ks HKS.out
 clear hkb hkp hkc
 go_loopw [8,32] (fun vv v wr=>∃ (i M:Nat) (P:Nat→Nat),v=.int .i64 (i:Int)∧i≤ks.length∧Hid (Cw w vv M P wr∧Kyb kb0 ks.length (kat ks) vv wr∧bs M P=fl (ckl n B (ks.take i))))
  (fun _ v _=>ks.length - (RowKit.intOf v).toNat)
 case atStart=>exact⟨0,N2,P2,rfl,Nat.zero_le _,HP.out,HKb.out,H2.out.2⟩
 case round =>
  obtain⟨i,M,P,rfl,hi,hh⟩:=hrel
  by_cases hlt:i<ks.length
  ·have hb:=hh.out.1.b
   have hltI:(i:Int)<ks.length:=by omega
   have c4r:wr.cell? ⟨g,4,none⟩=some (.map (some mv)):=(hb.cell (p:=⟨g,4,none⟩) HG.out).trans c4
   have hci:=(hh.out.2.1 (by omega)).2.2 i hlt
   obtain⟨V',M',t1,t2,t3,t4⟩:=Vb.below HV.out hb
   have hs:=kys_at HKS.out hlt
   have hks:=HKL.out _ hs
   obtain⟨x,hx⟩:∃ x,V' (kat ks i)=some x:=by
    rw[← t3] at hs
    cases hq:V' (kat ks i) with
    | none=>rw[hq] at hs;simp at hs
    | some x=>exact⟨x,rfl⟩
   have hlk:=t1.look (kat ks i) (by unfold maxLen;omega)
   rw[hx] at hlk
   have hxo:=t1.ow _ x hx
   have hxn:=(t4 _ x hx).1
   have hBx:Hid (B (kat ks i)=some (bs x.n x.P)):=(by rw[← t3,hx];rfl:B (kat ks i)=some (bs x.n x.P))
   clear t1 t2 t3 t4 hs hx hb
   obtain⟨q,q0,p1,p2,p3,p4,p5,p6⟩:=own_part hxo
   have hlk':(Instr.lookup 46 (.map (some mv)) (.string (kat ks i)) false).run Tryz.prog wr=.ok (.slice q.p q.n q.cp) wr:=by rw[← q0];exact hlk
   rw[← p3,← p4] at hBx
   rw[← p3] at hxn
   have HF:Hid _:=pairFrame_any (kat ks i) q hks hxn wr ⟨p1,p2,p5⟩
   have HBD:Hid (pbd B (ks.getD i [])=wf [kb (kat ks i),bs q.n q.f]):=by
    show pbd B (ks.getD i [])=_
    unfold pbd
    show wf [kb (kat ks i),(B (kat ks i)).getD []]=_
    rw[hBx.out]
    rfl
   have HL:Hid ((fl (ckl n B (ks.take (i+1)))).length≤1048576):=Nat.le_trans (ckl_le n B ks (i+1)) HS.out
   have HT:Hid (fl (ckl n B (ks.take (i+1)))=bs M P++fr (wf [kb (kat ks i),bs q.n q.f])):=by
    show fl (ckl n B (ks.take (i+1)))=_
    rw[ckl_step n B hlt,HBD.out,hh.out.2.2]
   clear p1 p2 p3 p4 p5 p6 q0 hlk hxo hxn hks
   obtain rfl:=HKP.out (by omega)
   obtain⟨pv,cv,rfl,hcv⟩:=own_slice hh.out.1.own
   clear hcv
   go_wp2_with (first
    | (go_at_call 109;refine Calls.mono HF.out ?_;rintro e w4 ⟨y,rfl,N4,P4,hcw,hbs⟩;obtain⟨q',rfl,e1,e2,hq'⟩:=hcw.pq;have HBS:Hid (bs q'.n q'.f=fr (wf [kb (kat ks i),bs q.n q.f])):=(by rw[e1,e2];exact hbs);have hle:M+q'.n≤1048576:=(by have l1:=HL.out;rw[HT.out,List.length_append,bs_len,← HBS.out,bs_len] at l1;exact l1);have hnb:¬((1048576:Int)<(M:Int)+(q'.n:Int)):=(by omega);obtain⟨v',u2,happ,hC',hch,hvb⟩:=hh.out.1.add hcw.b hq' (by omega);have HA:Hid _:=happ;have HC':Hid _:=hC';have HCH:Hid _:=hch;have HVB:Hid _:=hvb;have HCW:Hid (Below wr.heap.size wr w4):=hcw.b;clear happ hC' hch hvb hcw hbs e1 e2 hq')
    | (at_builtin;refine wpl_app rfl _ _ 40 rfl (.slice pv M cv) (.slice q'.p q'.n q'.cp) v' rfl rfl (HA.out _) ?_)
    | fail)
   go_roundw
   case rel =>
    refine⟨i+1,M+q'.n,_,by simp,by omega,HC'.out,fun h0 => ?_,?_⟩
    ·obtain⟨k1,k2,k3⟩:=hh.out.2.1 h0
     have s1:=HCW.out.size
     refine⟨fun hm => ?_,Nat.lt_of_lt_of_le k2 (Nat.le_trans s1 HCH.out.size),fun z hz => ?_⟩
     ·rcases HVB.out _ hm with e | e
      ·exact k1 e
      ·omega
     ·exact(HCH.out.cell (p:=⟨kb0,z,none⟩) (Nat.lt_of_lt_of_le k2 s1) k1).trans ((HCW.out.cell (p:=⟨kb0,z,none⟩) k2).trans (k3 z hz))
    ·rw[bs_ct (Nat.le_refl _),List.take_of_length_le (by rw[bs_len];exact Nat.le_refl _),HT.out,HBS.out]
   case measure=>simp[RowKit.intOf];omega
  ·obtain e:i=ks.length:=by omega
   have E:Hid _:=e
   have hz:¬((i:Int)<(ks.length:Int)):=by omega
   clear e hlt hi
   go_wp2
   go_ret2
   obtain⟨r1,r2,r3⟩:=hh.out
   rw[E.out,List.take_length] at r3
   exact⟨_,rfl,ks,HKS.out,M,P,r1,r3⟩
end Wi
end Rg
end Go.Proofs.YtmcpagjhpfbpgaaGreatDoor
end
section
namespace Go.Proofs.YtmcpagjhpfbpgaaGreatDoor
open Go.RowKit
namespace Rg
namespace Wi
set_option maxRecDepth 100000
section
variable {w0 u u':World} {d g j mv nb N:Nat} {A A':Ad} {base s:ByteArray} {G:Int} {B:ByteArray→Option (List Nat)} {L0:List Nat}
theorem So.sub (h:So w0 d A g j mv base s G nb B N L0 u) {L:List Nat} (hs:∀ x∈L,x∈L0):So w0 d A g j mv base s G nb B N L u:=by
 obtain⟨⟨O,h1⟩,h2,h3,h4,h5⟩:=h
 refine⟨⟨O,h1.sub fun x hx => ?_⟩,h2,h3,h4,fun hm=>h5 (hs _ hm)⟩
 rcases List.mem_cons.1 hx with e | e
 ·exact List.mem_cons.2 (.inl e)
 ·exact List.mem_cons_of_mem _ (hs _ e)
theorem So.get (h:So w0 d A g j mv base s G nb B N L0 u) (k:ByteArray) (hk:k.size≤maxLen) :
  Calls Tryz.prog 12 #[PT g 0,.string k] u fun e u'=>∃ v M P,e=.returned (.tuple #[v,.bool (B k).isSome])∧Cw u v M P u'∧(∀ b,B k=some b→bs M P=b)∧So w0 d A g j mv base s G nb B N L0 u'∧Kx L0 u u':=by
 obtain⟨O,h1⟩:=h.1
 obtain⟨V,M,v1,v2,v3,v4⟩:=h1.vb
 refine(sget_any g j mv M V k hk u h.2.1 h1.c4 v1 (fun x hx=>by have:=(v4 k x hx).1;omega)).mono ?_
 rintro e u' ⟨v,rfl,hc⟩
 obtain⟨t1,t2⟩:=h.below hc.b
 refine⟨v,_,_,?_,hc,fun b hb => ?_,t1,t2⟩
 ·rw[← v3 k]
  simp
 ·rw[← v3 k] at hb
  cases hx:V k with
  | none=>rw[hx] at hb;cases hb
  | some x=>rw[hx] at hb;exact Option.some.inj hb
theorem So.len (h:So w0 d A g j mv base s G nb B N L0 u):Calls Tryz.prog 17 #[PT g 0] u fun e u'=>(∃ M:Nat,e=.returned (.int .i64 (M:Int))∧M≤N)∧u'=u:=by
 obtain⟨O,h1⟩:=h.1
 obtain⟨V,M,v1,v2,v3,v4⟩:=h1.vb
 refine(slen_any g j mv M V u h.2.1 h1.c4 v1).mono ?_
 rintro e u' ⟨rfl,rfl⟩
 exact⟨⟨M,rfl,v2⟩,rfl⟩
theorem So.pairs (h:So w0 d A g j mv base s G nb B N L0 u) (hN:N≤1000000) (hkl:∀ k,(B k).isSome=true→k.size≤maxLen) :
  Calls Tryz.prog 16 #[PT g 0] u fun e u'=>∃ v ks P,e=.returned v∧Kys B ks∧ks.length≤N∧Pr u v ks.length (kat ks) P u'∧(∀ i,i<ks.length→B (kat ks i)=some (bs (P i).n (P i).f))∧So w0 d A g j mv base s G nb B N L0 u'∧Kx L0 u u':=by
 obtain⟨O,h1⟩:=h.1
 refine(spairs_any g j mv N _ B u h.2.1 h1.c4 h1.gl h1.vb hN hkl).mono ?_
 rintro e u' ⟨v,ks,P,rfl,k1,k2,k3,k4⟩
 obtain⟨t1,t2⟩:=h.below k3.b
 exact⟨v,ks,P,rfl,k1,k2,k3,k4,t1,t2⟩
theorem Pr.pl {w u:World} {v:Value} {n:Nat} {K:Nat→ByteArray} {P:Nat→Pt8} (h:Pr w v n K P u):∃ p g c,v=.slice p n c∧Pl p g 0 n K P u:=by
 have hl:∀ m,(prs K P m).length=2*m:=fun m=>by
  induction m with
  | zero=>rfl
  | succ m ih =>
   unfold prs at ih ⊢
   rw[List.range_succ,List.flatMap_append,List.flatMap_singleton,List.length_append,ih]
   simp
   omega
 have hg:∀ m i,i<m→(prs K P m)[2*i]?=some (.string (K i))∧(prs K P m)[2*i+1]?=some (.slice (P i).p (P i).n (P i).cp):=fun m=>by
  induction m with
  | zero=>intro i hi;omega
  | succ m ih =>
   intro i hi
   have e:prs K P (m+1)=prs K P m++[.string (K m),.slice (P m).p (P m).n (P m).cp]:=by
    unfold prs
    rw[List.range_succ,List.flatMap_append,List.flatMap_singleton]
   rw[e]
   by_cases hlt:i<m
   ·rw[List.getElem?_append_left (by rw[hl];omega),List.getElem?_append_left (by rw[hl];omega)]
    exact ih i hlt
   ·obtain rfl:i=m:=by omega
    rw[List.getElem?_append_right (by rw[hl];omega),List.getElem?_append_right (by rw[hl];omega),hl]
    constructor
    ·rw[show 2*i - 2*i=0 by omega];rfl
    ·rw[show 2*i+1 - 2*i=1 by omega];rfl
 rcases h.own.2 with ⟨h1,h2⟩ | ⟨g,cap,cur,h1,h2,h3,_⟩
 ·exact⟨none,0,0,by rw[h1,h2],fun h0=>by omega,fun h0=>by omega,fun i hi=>by omega,fun i hi=>by omega,fun i hi=>by omega⟩
 ·have ho:=h.own
  rw[h1] at ho
  exact⟨_,g,cap,h1,fun _=>rfl,fun _=>(Array.getElem?_eq_some_iff.1 h3).1,fun i hi=>by
   rw[show 0+i*2=2*i by omega,ho.cellAt (2*i) (by omega)]
   exact(hg n i hi).1,fun i hi=>by
   rw[show 0+i*2+1=2*i+1 by omega,ho.cellAt (2*i+1) (by omega)]
   exact(hg n i hi).2,fun i hi=>⟨(h.ok i hi).1,(h.ok i hi).2.2.1⟩⟩
end
end Wi
end Rg
end Go.Proofs.YtmcpagjhpfbpgaaGreatDoor
end
section
namespace Go.Proofs.YtmcpagjhpfbpgaaGreatDoor
open Go.RowKit
namespace Rg
namespace Wi
set_option maxRecDepth 100000
theorem wp_qmc {P:Program} {c:Code} {Q:Exit→Act→World→Prop} {a:Act} {w:World} (K:Act→World→Prop) (h:c.wp P (Qm K) a w) (hk:∀ a w,K a w→Q .normal a w):c.wp P Q a w :=
 wpIn_wide.1 (wpIn_mono (n:=9) (wpIn_wide.2 h) fun e a w hh=>by cases e <;> first | exact hk _ _ hh | exact hh.elim)
theorem wp_qmA {α β:Type} {P:Program} {c:Code} {Q:Exit→Act→World→Prop} {a:Act} {w:World} (F:α→β→World→Prop) (h:∃ A:α→β→Act,c.wp P (Qm fun a' u'=>∃ x y,a'=A x y∧F x y u') a w∧∀ x y u',F x y u'→Q .normal (A x y) u'):c.wp P Q a w:=by
 obtain⟨A,h1,h2⟩:=h
 exact wp_qmc _ h1 fun a' u' ⟨x,y,e,hf⟩=>by rw[e];exact h2 x y u' hf
theorem wp_qm0 {P:Program} {c:Code} {Q:Exit→Act→World→Prop} {a:Act} {w:World} (F:World→Prop) (h:∃ A:Act,c.wp P (Qm fun a' u'=>a'=A∧F u') a w∧∀ u',F u'→Q .normal A u'):c.wp P Q a w:=by
 obtain⟨A,h1,h2⟩:=h
 exact wp_qmc _ h1 fun a' u' ⟨e,hf⟩=>by rw[e];exact h2 u' hf
structure Ik (g d:Nat) (base:ByteArray) (I:World→Prop):Prop where
 st:∀ u u',I u→Below u.heap.size u u'→I u'
 c0:∀ u,I u→u.cell? ⟨g,0,none⟩=some (PT d 0)
 c1:∀ u,I u→u.cell? ⟨g,1,none⟩=some (.string base)
end Wi
end Rg
end Go.Proofs.YtmcpagjhpfbpgaaGreatDoor
end
section
namespace Go.Proofs.YtmcpagjhpfbpgaaGreatDoor
open Go.RowKit
namespace Rg
namespace Wi
set_option maxRecDepth 100000
theorem check_ok (g j0:Nat) (n:Nat) (hn:n<1000000) (lo:ByteArray) (I0:World→Prop) (I1:Pt8→World→Prop) (I2 I3 I4:Nat→World→Prop)
  (s0:∀ u u',I0 u→Below u.heap.size u u'→I0 u') (s3:∀ j u u',I3 j u→Below u.heap.size u u'→I3 j u')
  (c0:∀ u,I0 u→u.cell? ⟨g,2,none⟩=some (PT j0 0)∧u.cell? ⟨g,3,none⟩=some (.int .i64 (n:Int)))
  (c2:∀ j u,I2 j u→(∃ p,u.cell? ⟨g,2,none⟩=some (PT p 0))∧u.cell? ⟨g,3,none⟩=some (.int .i64 (n:Int))∧u.frozen? ⟨g,2,none⟩=false∧u.frozen? ⟨g,3,none⟩=false)
  (h50:∀ u,I0 u→Calls Tryz.prog 50 #[PT g 0,.int .i64 ((n:Int)+1)] u fun e u'=>∃ q:Pt8,e=.returned (.tuple #[.slice q.p q.n q.cp,.int .i64 0])∧I1 q u')
  (h51:∀ q u,I1 q u→Calls Tryz.prog 51 #[PT g 0,.slice q.p q.n q.cp,.int .i64 ((n:Int)+1)] u fun e u'=>∃ j,e=.returned (.tuple #[PT j 0,.int .i64 0])∧I2 j u')
  (h2:∀ j u,I2 j u→I3 j ((u.setCell ⟨g,3,none⟩ (.int .i64 ((n:Int)+1))).setCell ⟨g,2,none⟩ (PT j 0)))
  (h53:∀ j u,I3 j u→Calls Tryz.prog 53 #[PT g 0,.int .i64 (n:Int)] u fun e u'=>e=.returned (.string lo)∧Below u.heap.size u u')
  (h52:∀ j u,I3 j u→Calls Tryz.prog 52 #[PT g 0,.string lo] u fun e u'=>∃ r,e=.returned (.int .i64 r)∧I4 j u')
  (w:World) (hw:I0 w):Calls Tryz.prog 15 #[PT g 0] w fun e u'=>e=.returned (.int .i64 0)∧∃ j,I4 j u':=by
 obtain⟨k2,k3⟩:=c0 w hw
 have H50:Hid _:=h50
 have H51:Hid _:=h51
 have H53:Hid _:=h53
 have H52:Hid _:=h52
 have H2:Hid _:=h2
 have S0:Hid _:=s0
 have S3:Hid _:=s3
 have C2:Hid _:=c2
 have HW:Hid _:=hw
 clear h50 h51 h53 h52 h2 s0 s3 c0 c2 hw
 go_enter Tryz.func15,Tryz.ntmps15
 go_wp2_with (first
  | (go_at_call 42;refine(smade_j g j0 _ k2).mono ?_;rintro e w ⟨rfl,rfl⟩)
  | fail)
 refine wp_qm0 (fun u'=>Below w.heap.size w u') ?_
 apply Exists.intro
 apply And.intro
 ·go_region
  all_goals (
   simp only[Qm]
   first | exact⟨rfl,(Below.refl _ _).drew⟩ | exact⟨trivial,(Below.refl _ _).drew⟩)
 intro w1 hb1
 have HW1:Hid _:=S0.out _ _ HW.out hb1
 go_wp2_with (first
  | (go_at_call 52;refine Calls.mono (H52.out j w5 HW5.out) ?_;rintro e w6 ⟨r,rfl,hw6⟩;have HW6:Hid _:=hw6;clear hw6)
  | (go_at_call 53;refine Calls.mono (H53.out j _ HW4.out) ?_;rintro e w5 ⟨rfl,hb5⟩;have HW5:Hid _:=S3.out j _ _ HW4.out hb5;clear hb5)
  | (go_at_call 51;refine Calls.mono (H51.out q w2 HW2.out) ?_;rintro e w3 ⟨j,rfl,hw3⟩;have HW3:Hid _:=hw3;have HW4:Hid _:=H2.out j w3 hw3;obtain⟨⟨p2,d2⟩,d3,f2,f3⟩:=C2.out j w3 hw3;clear hw3)
  | (go_at_call 50;refine Calls.mono (H50.out w1 HW1.out) ?_;rintro e w2 ⟨q,rfl,hw2⟩;have HW2:Hid _:=hw2;clear hw2)
  | fail)
 go_ret
 exact⟨rfl,j,HW6.out⟩
end Wi
end Rg
end Go.Proofs.YtmcpagjhpfbpgaaGreatDoor
end
section
namespace Go.Proofs.YtmcpagjhpfbpgaaGreatDoor
open Go.RowKit
namespace Rg
namespace Wi
set_option maxRecDepth 100000
theorem itoa_10 (n:Nat) (h1:10≤n) (h2:n<18) (w:World):Calls Tryz.prog 116 #[.int .i64 (n:Int)] w fun e w'=>e=.returned (.string ⟨(dig n).toArray⟩)∧w'=w:=by
 obtain rfl | rfl | rfl | rfl | rfl | rfl | rfl | rfl:n=10∨n=11∨n=12∨n=13∨n=14∨n=15∨n=16∨n=17:=by omega
 all_goals (
  go_enter Tryz.func116,Tryz.ntmps116
  go_wp2_with go_in
  go_ret
  exact⟨by kernel_rfl,rfl⟩)
theorem itoa_18 (n:Nat) (h1:18≤n) (h2:n<25) (w:World):Calls Tryz.prog 116 #[.int .i64 (n:Int)] w fun e w'=>e=.returned (.string ⟨(dig n).toArray⟩)∧w'=w:=by
 obtain rfl | rfl | rfl | rfl | rfl | rfl | rfl:n=18∨n=19∨n=20∨n=21∨n=22∨n=23∨n=24:=by omega
 all_goals (
  go_enter Tryz.func116,Tryz.ntmps116
  go_wp2_with go_in
  go_ret
  exact⟨by kernel_rfl,rfl⟩)
theorem itoa_25 (n:Nat) (h1:25≤n) (h2:n<32) (w:World):Calls Tryz.prog 116 #[.int .i64 (n:Int)] w fun e w'=>e=.returned (.string ⟨(dig n).toArray⟩)∧w'=w:=by
 obtain rfl | rfl | rfl | rfl | rfl | rfl | rfl:n=25∨n=26∨n=27∨n=28∨n=29∨n=30∨n=31:=by omega
 all_goals (
  go_enter Tryz.func116,Tryz.ntmps116
  go_wp2_with go_in
  go_ret
  exact⟨by kernel_rfl,rfl⟩)
theorem itoa_any (n:Nat) (h:n<32) (w:World):Calls Tryz.prog 116 #[.int .i64 (n:Int)] w fun e w'=>e=.returned (.string ⟨(dig n).toArray⟩)∧w'=w:=by
 by_cases h1:n<10
 ·exact itoa_lo n h1 w
 by_cases h2:n<18
 ·exact itoa_10 n (by omega) h2 w
 by_cases h3:n<25
 ·exact itoa_18 n (by omega) h3 w
 ·exact itoa_25 n (by omega) h w
theorem log_any2 (g n:Nat) (hn:n<32) (base:ByteArray) (hb:base.size≤40) (w:World) (h:w.cell? ⟨g,1,none⟩=some (.string base)):Calls Tryz.prog 53 #[PT g 0,.int .i64 (n:Int)] w (Rt w (.string (zP base n))) :=
 log_gen g n base _ hb (by show (dig n).toArray.size≤2;simpa using dig_len n) w h (itoa_any n hn)
end Wi
end Rg
end Go.Proofs.YtmcpagjhpfbpgaaGreatDoor
end
section
namespace Go.Proofs.YtmcpagjhpfbpgaaGreatDoor
open Go.RowKit
namespace Rg
namespace Wi
set_option maxRecDepth 100000
theorem Rename_no_f (D:Dq) (s t:ByteArray) (w:World) (h:DOk w D) (hk:D.k+1<4611686018427387904) (hno:D.no=true) :
  Calls Tryz.prog 112 #[PT D.d 0,.string s,.string t] w fun e w'=>e=.returned (.int .i64 13)∧Dw w D D.tick w':=by
 have hc0:Calls Tryz.prog 87 #[PT D.d 0] w fun e w'=>e=.returned (.int .i64 13)∧DOk w' D.tick∧Chg D.bl w w':=(count_f D w h hk).mono fun e w' hh=>⟨by rw[hh.1,hno];rfl,hh.2⟩
 clear h
 go_enter Tryz.func112,Tryz.ntmps112
 go_wp2_with (first
  | (go_at_call 87;refine hc0.mono ?_;rintro e w1 ⟨rfl,h1,hc1⟩;have HD:Hid (DOk w1 D.tick):=h1;clear h1)
  | fail)
 go_ret
 exact⟨rfl,HD.out,hc1,fun x hx=>.inl hx⟩
theorem ren_no_a {w0 u:World} {d:Nat} {A:Ad} {L:List Nat} (h:Da w0 d A L u) (hk:A.k<1000000000) (s t:ByteArray) (hno:A.no=true) :
  Calls Tryz.prog 112 #[PT d 0,.string s,.string t] u fun e u'=>e=.returned (.int .i64 13)∧Da w0 d A.tick L u'∧Kx L u u':=by
 obtain⟨D,h1,rfl,rfl,h4⟩:=h
 have hk:D.k<1000000000:=hk
 refine(Rename_no_f D s t u h1.dk (by omega) hno).mono fun e u' hh => ?_
 exact⟨hh.1,Da.dw h1 h4 hh.2 rfl rfl⟩
end Wi
end Rg
end Go.Proofs.YtmcpagjhpfbpgaaGreatDoor
end
section
namespace Go.Proofs.YtmcpagjhpfbpgaaGreatDoor
open Go.RowKit
namespace Rg
namespace Wi
set_option maxRecDepth 100000
abbrev ntmp (base:ByteArray):ByteArray:=base++⟨#[46,116,109,112]⟩
theorem ntmp_sz {base:ByteArray} (h:base.size≤40):(ntmp base).size≤281474976710656:=by
 have e:(ntmp base).size=base.size+4:=by
  show (base++_).size=_
  rw[ByteArray.size_append]
  rfl
 omega
theorem nlog_sz {base:ByteArray} (h:base.size≤40) (n:Nat):(zP base n).size≤281474976710656:=by
 have e:(zP base n).size=base.size+5+(dig n).toArray.size:=by
  show (base++_++_).size=_
  rw[ByteArray.size_append,ByteArray.size_append]
  rfl
 have:=dig_len n
 simp only[List.size_toArray] at e
 omega
def Ad.rnm (A:Ad) (f:Af) (s t:ByteArray):Int×Ad:=if A.no then (13,A.tick) else (0,A.ren f s t)
section
variable {w0 u u':World} {d g j mv nb N:Nat} {A A':Ad} {base s:ByteArray} {G:Int} {B:ByteArray→Option (List Nat)} {L0:List Nat}
theorem So.op (h:So w0 d A g j mv base s G nb B N L0 u):∃ M,Da w0 d A M u∧g∈M∧(∀ x∈L0,x∈M)∧∀ u' A',Da w0 d A' M u'→Kx M u u'→So w0 d A' g j mv base s G nb B N L0 u'∧Kx L0 u u':=by
 obtain⟨⟨O,h1⟩,h2,⟨c,z,h3,h4,h5⟩,h6,h7⟩:=h
 refine⟨O++(j :: L0),h1.da,List.mem_append_left _ h1.og,fun x hx=>List.mem_append_right _ (List.mem_cons_of_mem _ hx),fun u' A' ha hk=>⟨⟨⟨O,h1.kx ha (hk.sub fun x hx=>List.mem_append_left _ hx)⟩,?_,⟨c,z,h3,h4,Mm.keep1 h5 hk.1 (hk.2 j (List.mem_append_right _ (List.mem_cons_self ..)))⟩,h6,h7⟩,hk.sub fun x hx=>List.mem_append_right _ (List.mem_cons_of_mem _ hx)⟩⟩
 exact(World.cell?_of_block (hk.2 g (List.mem_append_left _ h1.og))).trans h2
theorem So.c0 (h:So w0 d A g j mv base s G nb B N L0 u):u.cell? ⟨g,0,none⟩=some (PT d 0):=by
 obtain⟨O,h1⟩:=h.1
 exact h1.c0
theorem So.c1 (h:So w0 d A g j mv base s G nb B N L0 u):u.cell? ⟨g,1,none⟩=some (.string base):=by
 obtain⟨O,h1⟩:=h.1
 exact h1.c1
theorem So.c3 (h:So w0 d A g j mv base s G nb B N L0 u):u.cell? ⟨g,3,none⟩=some (.int .i64 G):=by
 obtain⟨O,h1⟩:=h.1
 exact h1.c3
theorem So.rma (h:So w0 d A g j mv base s G nb B N L0 u) (hk:A.k<1000000000) (t:ByteArray) (ht:t.size≤281474976710656) :
  Calls Tryz.prog 52 #[PT g 0,.string t] u fun e u'=>e=.returned (.int .i64 (A.rma t).1)∧So w0 d (A.rma t).2 g j mv base s G nb B N L0 u'∧Kx L0 u u':=by
 obtain⟨M,m1,m2,m3,m4⟩:=h.op
 exact(rma_a m1 hk m2 h.c0 t ht).mono fun e u' hh=>⟨hh.1,m4 u' _ hh.2.1 hh.2.2⟩
theorem So.dapp (h:So w0 d A g j mv base s G nb B N L0 u) (hk:A.k<1000000000) (ho:∀ f∈A.fs,f.ops.length<1000000) (t:ByteArray) (ht:t.size≤281474976710656) (q:Pt8) (hq:Pq q u) (hL:∀ x∈gbl q,x∈L0) (hn:q.n≤281474976710656) :
  Calls Tryz.prog 35 #[PT d 0,.string t,.slice q.p q.n q.cp] u fun e u'=>e=.returned (.int .i64 (A.app t (bs q.n q.f)).1)∧So w0 d (A.app t (bs q.n q.f)).2 g j mv base s G nb B N L0 u'∧Kx L0 u u':=by
 obtain⟨M,m1,m2,m3,m4⟩:=h.op
 exact(app_a m1 hk ho t ht q hq (fun x hx=>.inl (m3 x (hL x hx))) hn).mono fun e u' hh=>⟨hh.1,m4 u' _ hh.2.1 hh.2.2⟩
theorem So.dsyn (h:So w0 d A g j mv base s G nb B N L0 u) (hk:A.k<1000000000) (t:ByteArray) (ht:t.size≤281474976710656) :
  Calls Tryz.prog 37 #[PT d 0,.string t] u fun e u'=>e=.returned (.int .i64 (A.syn t).1)∧So w0 d (A.syn t).2 g j mv base s G nb B N L0 u'∧Kx L0 u u':=by
 obtain⟨M,m1,m2,m3,m4⟩:=h.op
 exact(syn_a m1 hk t ht).mono fun e u' hh=>⟨hh.1,m4 u' _ hh.2.1 hh.2.2⟩
theorem So.dren (h:So w0 d A g j mv base s G nb B N L0 u) (hk:A.k<1000000000) (a t:ByteArray) (ha:a.size≤281474976710656) (ht:t.size≤281474976710656) (hn:nmd t=true) (f:Af) (hl:A.lk a=some f) (ho:f.ops=[]) :
  Calls Tryz.prog 112 #[PT d 0,.string a,.string t] u fun e u'=>e=.returned (.int .i64 (A.rnm f a t).1)∧So w0 d (A.rnm f a t).2 g j mv base s G nb B N L0 u'∧Kx L0 u u':=by
 obtain⟨M,m1,m2,m3,m4⟩:=h.op
 unfold Ad.rnm
 by_cases hno:A.no=true
 ·rw[if_pos hno]
  exact(ren_no_a m1 hk a t hno).mono fun e u' hh=>⟨hh.1,m4 u' _ hh.2.1 hh.2.2⟩
 ·rw[if_neg hno]
  exact(ren_ok_a m1 hk a t ha ht hn (by simpa using hno) f hl ho).mono fun e u' hh=>⟨hh.1,m4 u' _ hh.2.1 hh.2.2⟩
theorem So.jnew (h:So w0 d A g j mv base s G nb B N L0 u) (t:ByteArray) (ht:t.size≤281474976710656) (hn:nmd t=true) (hc:A.ct t=[]) :
  Calls Tryz.prog 111 #[PT d 0,.string t] u fun e u'=>∃ j' v,e=.returned (.tuple #[PT j' 0,v,.int .i64 0])∧Mm u' [(j',jc d t 0 0)]∧u.heap.size≤j'∧Below u.heap.size u u' :=
 (jopen_a h.da t ht hn [] (fun r hr=>by cases hr) hc (by decide)).mono fun e u' hh=>by
  obtain⟨j',v,P,BB,e1,e2,e3,_,e5,_⟩:=hh
  exact⟨j',v,e1,e2,e5,e3⟩
end
theorem k_rma (A:Ad) (t:ByteArray):(A.rma t).2.k≤A.k+1:=by
 unfold Ad.rma
 cases A.lk t with
 | none=>show A.k≤_;omega
 | some f =>
  show (A.rem t).2.k≤_
  unfold Ad.rem
  split
  ·exact Nat.le_refl _
  ·cases A.lk t <;> exact Nat.le_refl _
theorem fs_rma (A:Ad) (t:ByteArray):∀ f∈(A.rma t).2.fs,f∈A.fs:=by
 unfold Ad.rma
 cases A.lk t with
 | none=>exact fun f hf=>hf
 | some f =>
  show ∀ f∈(A.rem t).2.fs,f∈A.fs
  unfold Ad.rem
  split
  ·exact fun f hf=>hf
  ·cases A.lk t with
   | none=>exact fun f hf=>hf
   | some f=>exact fun f hf=>(List.mem_filter.1 hf).1
theorem lk_delA (A:Ad) (t:ByteArray):(A.del t).lk t=none:=by
 unfold Ad.del Ad.lk
 rw[List.find?_eq_none]
 intro x hx
 have:=(List.mem_filter.1 hx).2
 simpa using this
theorem rma_lk (A:Ad) (t:ByteArray) (h:(A.rma t).1=0):(A.rma t).2.lk t=none:=by
 unfold Ad.rma at h ⊢
 cases hl:A.lk t with
 | none=>exact hl
 | some f =>
  rw[hl] at h
  have h:(A.rem t).1=0:=h
  show (A.rem t).2.lk t=none
  unfold Ad.rem at h ⊢
  split
  ·rename_i c;rw[if_pos c] at h;cases h
  ·rw[hl]
   exact lk_delA _ t
theorem k_app (A:Ad) (t:ByteArray) (b:List Nat):(A.app t b).2.k=A.k+1:=by
 unfold Ad.app
 split
 ·rfl
 ·split
  ·rfl
  ·cases A.lk t with
   | some f=>dsimp only;split <;> rfl
   | none=>dsimp only;split;rfl;split <;> rfl
theorem k_syn (A:Ad) (t:ByteArray):(A.syn t).2.k=A.k+1:=by
 unfold Ad.syn
 split
 ·rfl
 ·cases A.lk t <;> rfl
theorem replace_1 (g d:Nat) (base:ByteArray) (hs:base.size≤40) (q:Pt8) (n r:Int) (hr:¬r=0) (I0 I1:World→Prop) (k0:Ik g d base I0)
  (h1:∀ u,I0 u→Calls Tryz.prog 52 #[PT g 0,.string (ntmp base)] u fun e u'=>e=.returned (.int .i64 r)∧I1 u')
  (w:World) (hw:I0 w):Calls Tryz.prog 51 #[PT g 0,.slice q.p q.n q.cp,.int .i64 n] w fun e u'=>e=.returned (.tuple #[.pointer none,.int .i64 r])∧I1 u':=by
 have H1:Hid _:=h1
 have HW:Hid _:=hw
 have hc1:=k0.c1 w hw
 clear h1 hw
 go_enter Tryz.func51,Tryz.ntmps51
 go_wp2_with (first
  | (go_at_call 110;refine(tmp_any g base hs w hc1).mono ?_;rintro e w1 ⟨rfl,hw1⟩;subst hw1)
  | (go_at_call 52;refine Calls.mono (H1.out _ HW.out) ?_;rintro e w2 ⟨rfl,hw2⟩;have HW2:Hid _:=hw2;clear hw2 HW)
  | fail)
 go_ret2
 exact⟨rfl,HW2.out⟩
theorem replace_2 (g d:Nat) (base lg:ByteArray) (hs:base.size≤40) (q:Pt8) (n r:Int) (hr:¬r=0) (I0 I1 I2:World→Prop) (k0:Ik g d base I0) (k1:Ik g d base I1)
  (hlog:∀ v,v.cell? ⟨g,1,none⟩=some (.string base)→Calls Tryz.prog 53 #[PT g 0,.int .i64 n] v fun e v'=>e=.returned (.string lg)∧Below v.heap.size v v')
  (h1:∀ u,I0 u→Calls Tryz.prog 52 #[PT g 0,.string (ntmp base)] u fun e u'=>e=.returned (.int .i64 0)∧I1 u')
  (h2:∀ u,I1 u→Calls Tryz.prog 52 #[PT g 0,.string lg] u fun e u'=>e=.returned (.int .i64 r)∧I2 u')
  (w:World) (hw:I0 w):Calls Tryz.prog 51 #[PT g 0,.slice q.p q.n q.cp,.int .i64 n] w fun e u'=>e=.returned (.tuple #[.pointer none,.int .i64 r])∧I2 u':=by
 have H1:Hid _:=h1
 have HL:Hid _:=hlog
 have H2:Hid _:=h2
 have HW:Hid _:=hw
 have hc1:=k0.c1 w hw
 clear h1 hlog h2 hw
 go_enter Tryz.func51,Tryz.ntmps51
 go_wp2_with (first
  | (go_at_call 53;refine Calls.mono (HL.out w2 hc2) ?_;rintro e w3 ⟨rfl,hb3⟩;have HW3:Hid _:=k1.st _ _ HW2.out hb3;clear hb3)
  | (go_at_call 52;refine Calls.mono (H2.out w3 HW3.out) ?_;rintro e w4 ⟨rfl,hw4⟩;have HW4:Hid _:=hw4;clear hw4)
  | (go_at_call 110;refine(tmp_any g base hs w hc1).mono ?_;rintro e w1 ⟨rfl,hw1⟩;subst hw1)
  | (go_at_call 52;refine Calls.mono (H1.out _ HW.out) ?_;rintro e w2 ⟨rfl,hw2⟩;have HW2:Hid _:=hw2;have hc2:=k1.c1 w2 hw2;clear hw2 HW)
  | fail)
 go_ret2
 exact⟨rfl,HW4.out⟩
theorem replace_4 (g d:Nat) (base lg:ByteArray) (hs:base.size≤40) (q:Pt8) (n r:Int) (hr:¬r=0) (I0 I1 I2:World→Prop) (I3 I4:Nat→World→Prop) (k0:Ik g d base I0) (k1:Ik g d base I1) (k2:Ik g d base I2) (k3:∀ j,Ik g d base (I3 j))
  (hlog:∀ v,v.cell? ⟨g,1,none⟩=some (.string base)→Calls Tryz.prog 53 #[PT g 0,.int .i64 n] v fun e v'=>e=.returned (.string lg)∧Below v.heap.size v v')
  (h1:∀ u,I0 u→Calls Tryz.prog 52 #[PT g 0,.string (ntmp base)] u fun e u'=>e=.returned (.int .i64 0)∧I1 u')
  (h2:∀ u,I1 u→Calls Tryz.prog 52 #[PT g 0,.string lg] u fun e u'=>e=.returned (.int .i64 0)∧I2 u')
  (h3:∀ u,I2 u→Calls Tryz.prog 111 #[PT d 0,.string lg] u fun e u'=>∃ j v,e=.returned (.tuple #[PT j 0,v,.int .i64 0])∧I3 j u')
  (h4:∀ j u,I3 j u→Calls Tryz.prog 35 #[PT d 0,.string (ntmp base),.slice q.p q.n q.cp] u fun e u'=>e=.returned (.int .i64 r)∧I4 j u')
  (w:World) (hw:I0 w):Calls Tryz.prog 51 #[PT g 0,.slice q.p q.n q.cp,.int .i64 n] w fun e u'=>e=.returned (.tuple #[.pointer none,.int .i64 r])∧∃ j,I4 j u':=by
 have H1:Hid _:=h1
 have HL:Hid _:=hlog
 have H2:Hid _:=h2
 have H3:Hid _:=h3
 have H4:Hid _:=h4
 have HW:Hid _:=hw
 have hc1:=k0.c1 w hw
 clear h1 hlog h2 h3 h4 hw
 go_enter Tryz.func51,Tryz.ntmps51
 go_wp2_with (first
  | (go_at_call 53;refine Calls.mono (HL.out w2 hc2) ?_;rintro e w3 ⟨rfl,hb3⟩;have HW3:Hid _:=k1.st _ _ HW2.out hb3;clear hb3)
  | (go_at_call 52;refine Calls.mono (H2.out w3 HW3.out) ?_;rintro e w4 ⟨rfl,hw4⟩;have HW4:Hid _:=hw4;have hc4:=k2.c1 w4 hw4;have hd4:=k2.c0 w4 hw4;clear hw4)
  | (go_at_call 110;refine(tmp_any g base hs w hc1).mono ?_;rintro e w1 ⟨rfl,hw1⟩;subst hw1)
  | (go_at_call 52;refine Calls.mono (H1.out _ HW.out) ?_;rintro e w2 ⟨rfl,hw2⟩;have HW2:Hid _:=hw2;have hc2:=k1.c1 w2 hw2;clear hw2 HW)
  | fail)
 have hd4d:w4.drew.cell? ⟨g,0,none⟩=some (PT d 0):=hd4
 have hc4d:w4.drew.cell? ⟨g,1,none⟩=some (.string base):=hc4
 have HW4d:Hid (I2 w4.drew):=k2.st _ _ HW4.out (Below.refl _ _).drew
 refine wp_qmA (α:=Nat) (β:=Value) (fun j _ u'=>I3 j u') ?_
 apply Exists.intro
 apply And.intro
 ·go_region_with (first
   | (go_at_call 111;refine Calls.mono (H3.out w5 HW5.out) ?_;rintro e w6 ⟨j,v,rfl,hw6⟩;have HW6:Hid _:=hw6;clear hw6)
   | (go_at_call 53;refine Calls.mono (HL.out w4.drew hc4d) ?_;rintro e w5 ⟨rfl,hb5⟩;have HW5:Hid _:=k2.st _ _ HW4d.out hb5;have hd5:=k2.c0 w5 HW5.out;clear hb5)
   | fail)
  all_goals (
   simp only[Qm]
   exact⟨j,v,rfl,HW6.out⟩)
 ·intro j v w6 hw6
  have HW6:Hid _:=hw6
  clear hw6
  go_wp2
  have HW6d:Hid _:=(k3 j).st _ _ HW6.out (Below.refl _ _).drew
  have hd6d:w6.drew.cell? ⟨g,0,none⟩=some (PT d 0):=(k3 j).c0 _ HW6d.out
  have hc6d:w6.drew.cell? ⟨g,1,none⟩=some (.string base):=(k3 j).c1 _ HW6d.out
  refine wp_qm0 (fun u'=>I4 j u') ?_
  apply Exists.intro
  apply And.intro
  ·go_region_with (first
    | (go_at_call 35;refine Calls.mono (H4.out j w6.drew HW6d.out) ?_;rintro e w7 ⟨rfl,hw7⟩;have HW7:Hid _:=hw7;clear hw7)
    | (go_at_call 110;refine(tmp_any g base hs w6.drew hc6d).mono ?_;rintro e wx ⟨rfl,hwx⟩;subst hwx)
    | fail)
   all_goals (
    simp only[Qm]
    first | exact⟨rfl,HW7.out⟩ | exact⟨trivial,HW7.out⟩)
  intro w7 hw7
  have HW7:Hid _:=hw7
  clear hw7
  go_wp2
  go_ret2
  exact⟨rfl,j,HW7.out⟩
theorem replace_5 (g d:Nat) (base lg:ByteArray) (hs:base.size≤40) (q:Pt8) (n r:Int) (hr:¬r=0) (I0 I1 I2:World→Prop) (I3 I4 I5:Nat→World→Prop) (k0:Ik g d base I0) (k1:Ik g d base I1) (k2:Ik g d base I2) (k3:∀ j,Ik g d base (I3 j)) (k4:∀ j,Ik g d base (I4 j))
  (hlog:∀ v,v.cell? ⟨g,1,none⟩=some (.string base)→Calls Tryz.prog 53 #[PT g 0,.int .i64 n] v fun e v'=>e=.returned (.string lg)∧Below v.heap.size v v')
  (h1:∀ u,I0 u→Calls Tryz.prog 52 #[PT g 0,.string (ntmp base)] u fun e u'=>e=.returned (.int .i64 0)∧I1 u')
  (h2:∀ u,I1 u→Calls Tryz.prog 52 #[PT g 0,.string lg] u fun e u'=>e=.returned (.int .i64 0)∧I2 u')
  (h3:∀ u,I2 u→Calls Tryz.prog 111 #[PT d 0,.string lg] u fun e u'=>∃ j v,e=.returned (.tuple #[PT j 0,v,.int .i64 0])∧I3 j u')
  (h4:∀ j u,I3 j u→Calls Tryz.prog 35 #[PT d 0,.string (ntmp base),.slice q.p q.n q.cp] u fun e u'=>e=.returned (.int .i64 0)∧I4 j u')
  (h5:∀ j u,I4 j u→Calls Tryz.prog 37 #[PT d 0,.string (ntmp base)] u fun e u'=>e=.returned (.int .i64 r)∧I5 j u')
  (w:World) (hw:I0 w):Calls Tryz.prog 51 #[PT g 0,.slice q.p q.n q.cp,.int .i64 n] w fun e u'=>e=.returned (.tuple #[.pointer none,.int .i64 r])∧∃ j,I5 j u':=by
 have H1:Hid _:=h1
 have HL:Hid _:=hlog
 have H2:Hid _:=h2
 have H3:Hid _:=h3
 have H4:Hid _:=h4
 have H5:Hid _:=h5
 have HW:Hid _:=hw
 have hc1:=k0.c1 w hw
 clear h1 hlog h2 h3 h4 h5 hw
 go_enter Tryz.func51,Tryz.ntmps51
 go_wp2_with (first
  | (go_at_call 53;refine Calls.mono (HL.out w2 hc2) ?_;rintro e w3 ⟨rfl,hb3⟩;have HW3:Hid _:=k1.st _ _ HW2.out hb3;clear hb3)
  | (go_at_call 52;refine Calls.mono (H2.out w3 HW3.out) ?_;rintro e w4 ⟨rfl,hw4⟩;have HW4:Hid _:=hw4;have hc4:=k2.c1 w4 hw4;have hd4:=k2.c0 w4 hw4;clear hw4)
  | (go_at_call 110;refine(tmp_any g base hs w hc1).mono ?_;rintro e w1 ⟨rfl,hw1⟩;subst hw1)
  | (go_at_call 52;refine Calls.mono (H1.out _ HW.out) ?_;rintro e w2 ⟨rfl,hw2⟩;have HW2:Hid _:=hw2;have hc2:=k1.c1 w2 hw2;clear hw2 HW)
  | fail)
 have hd4d:w4.drew.cell? ⟨g,0,none⟩=some (PT d 0):=hd4
 have hc4d:w4.drew.cell? ⟨g,1,none⟩=some (.string base):=hc4
 have HW4d:Hid (I2 w4.drew):=k2.st _ _ HW4.out (Below.refl _ _).drew
 refine wp_qmA (α:=Nat) (β:=Value) (fun j _ u'=>I3 j u') ?_
 apply Exists.intro
 apply And.intro
 ·go_region_with (first
   | (go_at_call 111;refine Calls.mono (H3.out w5 HW5.out) ?_;rintro e w6 ⟨j,v,rfl,hw6⟩;have HW6:Hid _:=hw6;clear hw6)
   | (go_at_call 53;refine Calls.mono (HL.out w4.drew hc4d) ?_;rintro e w5 ⟨rfl,hb5⟩;have HW5:Hid _:=k2.st _ _ HW4d.out hb5;have hd5:=k2.c0 w5 HW5.out;clear hb5)
   | fail)
  all_goals (
   simp only[Qm]
   exact⟨j,v,rfl,HW6.out⟩)
 ·intro j v w6 hw6
  have HW6:Hid _:=hw6
  clear hw6
  go_wp2
  have HW6d:Hid _:=(k3 j).st _ _ HW6.out (Below.refl _ _).drew
  have hd6d:w6.drew.cell? ⟨g,0,none⟩=some (PT d 0):=(k3 j).c0 _ HW6d.out
  have hc6d:w6.drew.cell? ⟨g,1,none⟩=some (.string base):=(k3 j).c1 _ HW6d.out
  refine wp_qm0 (fun u'=>I4 j u') ?_
  apply Exists.intro
  apply And.intro
  ·go_region_with (first
    | (go_at_call 35;refine Calls.mono (H4.out j w6.drew HW6d.out) ?_;rintro e w7 ⟨rfl,hw7⟩;have HW7:Hid _:=hw7;clear hw7)
    | (go_at_call 110;refine(tmp_any g base hs w6.drew hc6d).mono ?_;rintro e wx ⟨rfl,hwx⟩;subst hwx)
    | fail)
   all_goals (
    simp only[Qm]
    first | exact⟨rfl,HW7.out⟩ | exact⟨trivial,HW7.out⟩)
  intro w7 hw7
  have HW7:Hid _:=hw7
  clear hw7
  go_wp2
  have HW7d:Hid _:=(k4 j).st _ _ HW7.out (Below.refl _ _).drew
  have hd7d:w7.drew.cell? ⟨g,0,none⟩=some (PT d 0):=(k4 j).c0 _ HW7d.out
  have hc7d:w7.drew.cell? ⟨g,1,none⟩=some (.string base):=(k4 j).c1 _ HW7d.out
  refine wp_qm0 (fun u'=>I5 j u') ?_
  apply Exists.intro
  apply And.intro
  ·go_region_with (first
    | (go_at_call 37;refine Calls.mono (H5.out j w7.drew HW7d.out) ?_;rintro e w8 ⟨rfl,hw8⟩;have HW8:Hid _:=hw8;clear hw8)
    | (go_at_call 110;refine(tmp_any g base hs w7.drew hc7d).mono ?_;rintro e wx ⟨rfl,hwx⟩;subst hwx)
    | fail)
   all_goals (
    simp only[Qm]
    first | exact⟨rfl,HW8.out⟩ | exact⟨trivial,HW8.out⟩)
  intro w8 hw8
  have HW8:Hid _:=hw8
  clear hw8
  go_wp2
  go_ret2
  exact⟨rfl,j,HW8.out⟩
theorem replace_6 (g d:Nat) (base lg:ByteArray) (hs:base.size≤40) (q:Pt8) (n r:Int) (I0 I1 I2:World→Prop) (I3 I4 I5 I6:Nat→World→Prop) (k0:Ik g d base I0) (k1:Ik g d base I1) (k2:Ik g d base I2) (k3:∀ j,Ik g d base (I3 j)) (k4:∀ j,Ik g d base (I4 j)) (k5:∀ j,Ik g d base (I5 j))
  (hlog:∀ v,v.cell? ⟨g,1,none⟩=some (.string base)→Calls Tryz.prog 53 #[PT g 0,.int .i64 n] v fun e v'=>e=.returned (.string lg)∧Below v.heap.size v v')
  (h1:∀ u,I0 u→Calls Tryz.prog 52 #[PT g 0,.string (ntmp base)] u fun e u'=>e=.returned (.int .i64 0)∧I1 u')
  (h2:∀ u,I1 u→Calls Tryz.prog 52 #[PT g 0,.string lg] u fun e u'=>e=.returned (.int .i64 0)∧I2 u')
  (h3:∀ u,I2 u→Calls Tryz.prog 111 #[PT d 0,.string lg] u fun e u'=>∃ j v,e=.returned (.tuple #[PT j 0,v,.int .i64 0])∧I3 j u')
  (h4:∀ j u,I3 j u→Calls Tryz.prog 35 #[PT d 0,.string (ntmp base),.slice q.p q.n q.cp] u fun e u'=>e=.returned (.int .i64 0)∧I4 j u')
  (h5:∀ j u,I4 j u→Calls Tryz.prog 37 #[PT d 0,.string (ntmp base)] u fun e u'=>e=.returned (.int .i64 0)∧I5 j u')
  (h6:∀ j u,I5 j u→Calls Tryz.prog 112 #[PT d 0,.string (ntmp base),.string (nsnap base)] u fun e u'=>e=.returned (.int .i64 r)∧I6 j u')
  (w:World) (hw:I0 w):Calls Tryz.prog 51 #[PT g 0,.slice q.p q.n q.cp,.int .i64 n] w fun e u'=>∃ j,e=.returned (.tuple #[PT j 0,.int .i64 r])∧I6 j u':=by
 have H1:Hid _:=h1
 have HL:Hid _:=hlog
 have H2:Hid _:=h2
 have H3:Hid _:=h3
 have H4:Hid _:=h4
 have H5:Hid _:=h5
 have H6:Hid _:=h6
 have HW:Hid _:=hw
 have hc1:=k0.c1 w hw
 clear h1 hlog h2 h3 h4 h5 h6 hw
 go_enter Tryz.func51,Tryz.ntmps51
 go_wp2_with (first
  | (go_at_call 53;refine Calls.mono (HL.out w2 hc2) ?_;rintro e w3 ⟨rfl,hb3⟩;have HW3:Hid _:=k1.st _ _ HW2.out hb3;clear hb3)
  | (go_at_call 52;refine Calls.mono (H2.out w3 HW3.out) ?_;rintro e w4 ⟨rfl,hw4⟩;have HW4:Hid _:=hw4;have hc4:=k2.c1 w4 hw4;have hd4:=k2.c0 w4 hw4;clear hw4)
  | (go_at_call 110;refine(tmp_any g base hs w hc1).mono ?_;rintro e w1 ⟨rfl,hw1⟩;subst hw1)
  | (go_at_call 52;refine Calls.mono (H1.out _ HW.out) ?_;rintro e w2 ⟨rfl,hw2⟩;have HW2:Hid _:=hw2;have hc2:=k1.c1 w2 hw2;clear hw2 HW)
  | fail)
 have hd4d:w4.drew.cell? ⟨g,0,none⟩=some (PT d 0):=hd4
 have hc4d:w4.drew.cell? ⟨g,1,none⟩=some (.string base):=hc4
 have HW4d:Hid (I2 w4.drew):=k2.st _ _ HW4.out (Below.refl _ _).drew
 refine wp_qmA (α:=Nat) (β:=Value) (fun j _ u'=>I3 j u') ?_
 apply Exists.intro
 apply And.intro
 ·go_region_with (first
   | (go_at_call 111;refine Calls.mono (H3.out w5 HW5.out) ?_;rintro e w6 ⟨j,v,rfl,hw6⟩;have HW6:Hid _:=hw6;clear hw6)
   | (go_at_call 53;refine Calls.mono (HL.out w4.drew hc4d) ?_;rintro e w5 ⟨rfl,hb5⟩;have HW5:Hid _:=k2.st _ _ HW4d.out hb5;have hd5:=k2.c0 w5 HW5.out;clear hb5)
   | fail)
  all_goals (
   simp only[Qm]
   exact⟨j,v,rfl,HW6.out⟩)
 ·intro j v w6 hw6
  have HW6:Hid _:=hw6
  clear hw6
  go_wp2
  have HW6d:Hid _:=(k3 j).st _ _ HW6.out (Below.refl _ _).drew
  have hd6d:w6.drew.cell? ⟨g,0,none⟩=some (PT d 0):=(k3 j).c0 _ HW6d.out
  have hc6d:w6.drew.cell? ⟨g,1,none⟩=some (.string base):=(k3 j).c1 _ HW6d.out
  refine wp_qm0 (fun u'=>I4 j u') ?_
  apply Exists.intro
  apply And.intro
  ·go_region_with (first
    | (go_at_call 35;refine Calls.mono (H4.out j w6.drew HW6d.out) ?_;rintro e w7 ⟨rfl,hw7⟩;have HW7:Hid _:=hw7;clear hw7)
    | (go_at_call 110;refine(tmp_any g base hs w6.drew hc6d).mono ?_;rintro e wx ⟨rfl,hwx⟩;subst hwx)
    | fail)
   all_goals (
    simp only[Qm]
    first | exact⟨rfl,HW7.out⟩ | exact⟨trivial,HW7.out⟩)
  intro w7 hw7
  have HW7:Hid _:=hw7
  clear hw7
  go_wp2
  have HW7d:Hid _:=(k4 j).st _ _ HW7.out (Below.refl _ _).drew
  have hd7d:w7.drew.cell? ⟨g,0,none⟩=some (PT d 0):=(k4 j).c0 _ HW7d.out
  have hc7d:w7.drew.cell? ⟨g,1,none⟩=some (.string base):=(k4 j).c1 _ HW7d.out
  refine wp_qm0 (fun u'=>I5 j u') ?_
  apply Exists.intro
  apply And.intro
  ·go_region_with (first
    | (go_at_call 37;refine Calls.mono (H5.out j w7.drew HW7d.out) ?_;rintro e w8 ⟨rfl,hw8⟩;have HW8:Hid _:=hw8;clear hw8)
    | (go_at_call 110;refine(tmp_any g base hs w7.drew hc7d).mono ?_;rintro e wx ⟨rfl,hwx⟩;subst hwx)
    | fail)
   all_goals (
    simp only[Qm]
    first | exact⟨rfl,HW8.out⟩ | exact⟨trivial,HW8.out⟩)
  intro w8 hw8
  have HW8:Hid _:=hw8
  clear hw8
  go_wp2
  have HW8d:Hid _:=(k5 j).st _ _ HW8.out (Below.refl _ _).drew
  have hd8d:w8.drew.cell? ⟨g,0,none⟩=some (PT d 0):=(k5 j).c0 _ HW8d.out
  have hc8d:w8.drew.cell? ⟨g,1,none⟩=some (.string base):=(k5 j).c1 _ HW8d.out
  refine wp_qm0 (fun u'=>I6 j u') ?_
  apply Exists.intro
  apply And.intro
  ·go_region_with (first
    | (go_at_call 112;refine Calls.mono (H6.out j w8.drew HW8d.out) ?_;rintro e w9 ⟨rfl,hw9⟩;have HW9:Hid _:=hw9;clear hw9)
    | (go_at_call 110;refine(tmp_any g base hs w8.drew hc8d).mono ?_;rintro e wx ⟨rfl,hwx⟩;subst hwx)
    | (go_at_call 113;refine(snap_any g base hs w8.drew hc8d).mono ?_;rintro e wx ⟨rfl,hwx⟩;subst hwx)
    | fail)
   all_goals (
    simp only[Qm]
    first | exact⟨rfl,HW9.out⟩ | exact⟨trivial,HW9.out⟩)
  intro w9 hw9
  have HW9:Hid _:=hw9
  clear hw9
  go_wp2
  go_ret2
  exact⟨j,rfl,HW9.out⟩
end Wi
end Rg
end Go.Proofs.YtmcpagjhpfbpgaaGreatDoor
end
section
namespace Go.Proofs.YtmcpagjhpfbpgaaGreatDoor
open Go.RowKit
namespace Rg
namespace Wi
set_option maxRecDepth 100000
section
variable {A:Ad} {s t:ByteArray}
theorem lk_nm {f:Af} (h:A.lk s=some f):f.nm=s:=by
 unfold Ad.lk at h
 have:=List.find?_some h
 simpa using this
theorem lk_in {f:Af} (h:A.lk s=some f):f∈A.fs:=List.mem_of_find?_eq_some h
theorem lk_swap_ne (f:Af) (hf:f.nm=t) (hne:s≠t):(A.swap t f).lk s=A.lk s:=by
 unfold Ad.swap Ad.lk
 dsimp only
 induction A.fs with
 | nil=>rfl
 | cons x r ih =>
  rw[List.map_cons,List.find?_cons,List.find?_cons,ih]
  by_cases e:x.nm=t
  ·rw[if_pos e,hf,e,decide_eq_false (fun e=>hne e.symm)]
  ·rw[if_neg e]
theorem lk_swap_eq {f0:Af} (f:Af) (hf:f.nm=t) (h:A.lk t=some f0):(A.swap t f).lk t=some f:=by
 unfold Ad.lk at h
 unfold Ad.swap Ad.lk
 dsimp only
 revert h
 induction A.fs with
 | nil=>intro h;cases h
 | cons x r ih =>
  intro h
  rw[List.map_cons,List.find?_cons]
  by_cases e:x.nm=t
  ·rw[if_pos e,decide_eq_true hf]
  ·rw[if_neg e,decide_eq_false e]
   rw[List.find?_cons,decide_eq_false e] at h
   exact ih h
theorem lk_snoc_ne (x:Af) (hne:x.nm≠s) (k:Nat) (rf:Nat→Bool):(⟨k,A.fs++[x],rf⟩:Ad).lk s=A.lk s:=by
 unfold Ad.lk
 rw[List.find?_append]
 cases A.fs.find? _ with
 | some y=>rfl
 | none=>simp[hne]
theorem lk_snoc_eq (x:Af) (hx:x.nm=s) (h:A.lk s=none) (k:Nat) (rf:Nat→Bool):(⟨k,A.fs++[x],rf⟩:Ad).lk s=some x:=by
 unfold Ad.lk at h ⊢
 rw[List.find?_append,h]
 simp[hx]
theorem lk_del_ne (hne:s≠t):(A.del t).lk s=A.lk s:=by
 unfold Ad.del Ad.lk
 dsimp only
 induction A.fs with
 | nil=>rfl
 | cons x r ih =>
  rw[List.filter_cons,List.find?_cons]
  by_cases e:x.nm=t
  ·rw[decide_eq_false (show ¬(x.nm≠t) from fun h=>h e),decide_eq_false (show ¬(x.nm=s) from fun e2=>hne (e2.symm.trans e))]
   exact ih
  ·rw[decide_eq_true (show x.nm≠t from e),if_pos rfl,List.find?_cons,ih]
theorem lk_ren_eq (f:Af):(A.ren f s t).lk t=some ⟨t,f.sf,f.ops,f.fr⟩:=by
 unfold Ad.ren Ad.lk
 rw[List.find?_append,List.find?_eq_none.2 fun x hx=>by
  have:=(List.mem_filter.1 hx).2
  simp at this
  simpa using this.2]
 simp
theorem lk_ren_ne (f:Af) {x:ByteArray} (h1:x≠s) (h2:x≠t):(A.ren f s t).lk x=A.lk x:=by
 unfold Ad.ren Ad.lk
 rw[List.find?_append]
 have e:(A.fs.filter fun g=>decide (g.nm≠s∧g.nm≠t)).find? (fun f=>decide (f.nm=x))=A.fs.find? (fun f=>decide (f.nm=x)):=by
  induction A.fs with
  | nil=>rfl
  | cons y r ih =>
   rw[List.filter_cons,List.find?_cons]
   by_cases e:y.nm=x
   ·rw[decide_eq_true (show y.nm≠s∧y.nm≠t from ⟨fun e2=>h1 (e.symm.trans e2),fun e2=>h2 (e.symm.trans e2)⟩),if_pos rfl,List.find?_cons,decide_eq_true e]
   ·rw[decide_eq_false e]
    dsimp only
    split
    ·rw[List.find?_cons,decide_eq_false e];exact ih
    ·exact ih
 rw[e]
 cases A.fs.find? _ with
 | some y=>rfl
 | none=>simpa using fun e:t=x=>h2 e.symm
theorem rma_ne (hne:s≠t):(A.rma t).2.lk s=A.lk s:=by
 unfold Ad.rma
 cases hl:A.lk t with
 | none=>rfl
 | some f =>
  show (A.rem t).2.lk s=_
  unfold Ad.rem
  split
  ·rfl
  ·rw[hl]
   exact lk_del_ne (A:=A.tick) hne
theorem app_ne (b:List Nat) (hne:s≠t):(A.app t b).2.lk s=A.lk s:=by
 unfold Ad.app
 split
 ·rfl
 ·split
  ·rfl
  ·cases hl:A.lk t with
   | some f =>
    dsimp only
    split
    ·rfl
    ·exact(have e:=lk_nm hl;lk_swap_ne (A:=A.tick) _ e hne)
   | none =>
    dsimp only
    split
    ·rfl
    ·split
     ·rfl
     ·exact lk_snoc_ne _ (fun e=>hne e.symm) _ _
theorem syn_ne (hne:s≠t):(A.syn t).2.lk s=A.lk s:=by
 unfold Ad.syn
 split
 ·rfl
 ·cases hl:A.lk t with
  | none=>rfl
  | some f=>exact(have e:=lk_nm hl;lk_swap_ne (A:=A.tick) _ e hne)
theorem syn_eq (h:(A.syn t).1=0):∃ f,A.lk t=some f∧(A.syn t).2.lk t=some ⟨f.nm,f.cn,[],false⟩:=by
 unfold Ad.syn at h ⊢
 split
 ·rename_i c;rw[if_pos c] at h;cases h
 ·rename_i c
  rw[if_neg c] at h
  cases hl:A.lk t with
  | none=>rw[hl] at h;cases h
  | some f =>
   refine⟨f,rfl,?_⟩
   exact(have e:=lk_nm hl;lk_swap_eq (A:=A.tick) _ e hl)
end
def sq (r:Int×Ad) (f:Ad→Int×Ad):Int×Ad:=if r.1=0 then f r.2 else r
def Ad.rnt (A:Ad) (a t:ByteArray):Int×Ad:=match A.lk a with
 | some f=>A.rnm f a t
 | none=>(6,A.tick)
def Ad.rep (A:Ad) (base:ByteArray) (n:Nat) (b:List Nat):Int×Ad :=
 sq (A.rma (ntmp base)) fun A1=>sq (A1.rma (zP base n)) fun A2=>sq (A2.app (ntmp base) b) fun A4=>sq (A4.syn (ntmp base)) fun A5=>A5.rnt (ntmp base) (nsnap base)
theorem fo_app (A:Ad) (t:ByteArray) (b:List Nat) {m:Nat} (h:∀ f∈A.fs,f.ops.length≤m):∀ f∈(A.app t b).2.fs,f.ops.length≤m+1:=by
 have h':∀ f∈A.fs,f.ops.length≤m+1:=fun f hf=>Nat.le_succ_of_le (h f hf)
 unfold Ad.app
 split
 ·exact h'
 ·split
  ·exact h'
  ·cases hl:A.lk t with
   | some f0 =>
    dsimp only
    split
    ·exact h'
    ·intro f hf
     obtain⟨x,hx,rfl⟩:=List.mem_map.1 hf
     split
     ·have:=h f0 (lk_in hl)
      unfold Af.more
      simp
      omega
     ·exact h' x hx
   | none =>
    dsimp only
    split
    ·exact h'
    ·split
     ·exact h'
     ·intro f hf
      rcases List.mem_append.1 hf with e | e
      ·exact h' f e
      ·rw[List.mem_singleton.1 e]
       simp
section
variable {w0 u u':World} {d g j mv nb N:Nat} {A A':Ad} {base s:ByteArray} {G:Int} {B:ByteArray→Option (List Nat)} {L0:List Nat}
theorem So.more (h:So w0 d A g j mv base s G nb B N L0 u) (hb:Below u.heap.size u u') {M:List Nat} (hn:∀ x∈M,u.heap.size≤x∧x<u'.heap.size):So w0 d A g j mv base s G nb B N (M++L0) u':=by
 obtain⟨⟨O,h1⟩,h2,⟨c,z,h3,h4,h5⟩,h6,h7⟩:=h
 have hj:=h1.da.lt (List.mem_append_right _ (List.mem_cons_self ..))
 refine⟨⟨O,(h1.add hb hn).sub fun x hx => ?_⟩,(hb.cell (p:=⟨g,2,none⟩) h1.gl).trans h2,⟨c,z,h3,h4,h5.below hb⟩,h6,fun hm => ?_⟩
 ·simp only[List.mem_cons,List.mem_append] at hx ⊢
  rcases hx with e | e | e
  ·exact .inr (.inl e)
  ·exact .inl e
  ·exact .inr (.inr e)
 ·rcases List.mem_append.1 hm with e | e
  ·have:=(hn _ e).1
   omega
  ·exact h7 e
def Ri (w0:World) (d g j mv:Nat) (base s:ByteArray) (G:Int) (nb:Nat) (B:ByteArray→Option (List Nat)) (N:Nat) (L0:List Nat) (u:World) (q:Pt8) (A:Ad) (u':World):Prop:=So w0 d A g j mv base s G nb B N L0 u'∧Kx L0 u u'∧Pq q u'
def Rj (w0:World) (d g j mv:Nat) (base s:ByteArray) (G:Int) (nb:Nat) (B:ByteArray→Option (List Nat)) (N:Nat) (L0:List Nat) (u:World) (q:Pt8) (lo:ByteArray) (A:Ad) (j':Nat) (u':World):Prop:=So w0 d A g j mv base s G nb B N (j' :: L0) u'∧Kx L0 u u'∧Pq q u'∧Mm u' [(j',jc d lo 0 0)]∧u.heap.size≤j'
theorem Ri.ik (q:Pt8) (_hL:∀ x∈gbl q,x∈L0):Ik g d base (Ri w0 d g j mv base s G nb B N L0 u q A) :=
 ⟨fun _v _v' h hb=>⟨(h.1.below hb).1,h.2.1.trans (h.1.below hb).2,h.2.2.below hb⟩,fun _v h=>h.1.c0,fun _v h=>h.1.c1⟩
theorem Rj.ik (q:Pt8) (_hL:∀ x∈gbl q,x∈L0) (lo:ByteArray) (j':Nat):Ik g d base (Rj w0 d g j mv base s G nb B N L0 u q lo A j') :=
 ⟨fun _v _v' h hb=>⟨(h.1.below hb).1,h.2.1.trans ((h.1.below hb).2.sub fun _x hx=>List.mem_cons_of_mem _ hx),h.2.2.1.below hb,h.2.2.2.1.below hb,h.2.2.2.2⟩,fun _v h=>h.1.c0,fun _v h=>h.1.c1⟩
theorem Ri.next (q:Pt8) (hL:∀ x∈gbl q,x∈L0) {v v':World} (h:Ri w0 d g j mv base s G nb B N L0 u q A v) (h1:So w0 d A' g j mv base s G nb B N L0 v') (h2:Kx L0 v v'):Ri w0 d g j mv base s G nb B N L0 u q A' v' :=
 ⟨h1,h.2.1.trans h2,h.2.2.kx h2 hL⟩
theorem Rj.next (q:Pt8) (hL:∀ x∈gbl q,x∈L0) (lo:ByteArray) (j':Nat) {v v':World} (h:Rj w0 d g j mv base s G nb B N L0 u q lo A j' v) (h1:So w0 d A' g j mv base s G nb B N (j' :: L0) v') (h2:Kx (j' :: L0) v v'):Rj w0 d g j mv base s G nb B N L0 u q lo A' j' v' :=
 ⟨h1,h.2.1.trans (h2.sub fun _x hx=>List.mem_cons_of_mem _ hx),h.2.2.1.kx h2 (fun x hx=>List.mem_cons_of_mem _ (hL x hx)),Mm.keep1 h.2.2.2.1 h2.1 (h2.2 j' (List.mem_cons_self ..)),h.2.2.2.2⟩
theorem So.rep (h:So w0 d A g j mv base s G nb B N L0 u) (hk:A.k<999999990) (ho:∀ f∈A.fs,f.ops.length<999999) (hs:base.size≤40) (n:Nat) (hn:n<32) (hnl:nmd (zP base n)=true) (hns:nmd (nsnap base)=true) (q:Pt8) (hq:Pq q u) (hL:∀ x∈gbl q,x∈L0) (hqn:q.n≤281474976710656) (r:Int) (A':Ad) (hA':A.rep base n (bs q.n q.f)=(r,A')) :
  Calls Tryz.prog 51 #[PT g 0,.slice q.p q.n q.cp,.int .i64 (n:Int)] u fun e u'=>∃ v,e=.returned (.tuple #[v,.int .i64 r])∧So w0 d A' g j mv base s G nb B N L0 u'∧Kx L0 u u'∧(r=0→∃ j',v=PT j' 0∧Rj w0 d g j mv base s G nb B N L0 u q (zP base n) A' j' u'):=by
 have hl0:∀ v,v.cell? ⟨g,1,none⟩=some (.string base)→Calls Tryz.prog 53 #[PT g 0,.int .i64 (n:Int)] v fun e v'=>e=.returned (.string (zP base n))∧Below v.heap.size v v':=fun v hv=>log_any2 g n hn base hs v hv
 have hI:Ri w0 d g j mv base s G nb B N L0 u q A u:=⟨h,Kx.refl _ _,hq⟩
 have st1:∀ v,Ri w0 d g j mv base s G nb B N L0 u q A v→Calls Tryz.prog 52 #[PT g 0,.string (ntmp base)] v fun e u'=>e=.returned (.int .i64 (A.rma (ntmp base)).1)∧Ri w0 d g j mv base s G nb B N L0 u q (A.rma (ntmp base)).2 u':=fun v hv=>(hv.1.rma (by omega) _ (ntmp_sz hs)).mono fun e u' hh=>⟨hh.1,Ri.next q hL hv hh.2.1 hh.2.2⟩
 have hk1:=k_rma A (ntmp base)
 have hf1:=fs_rma A (ntmp base)
 unfold Ad.rep at hA'
 by_cases c1:(A.rma (ntmp base)).1=0
 rotate_left
 ·rw[sq,if_neg c1] at hA'
  rw[hA'] at st1 c1
  refine(replace_1 g d base hs q n r c1 _ _ (Ri.ik q hL) st1 u hI).mono fun e u' hh => ?_
  exact⟨_,hh.1,hh.2.1,hh.2.2.1,fun e=>absurd e c1⟩
 rw[sq,if_pos c1] at hA'
 rw[c1] at st1
 generalize (A.rma (ntmp base)).2=A1 at hA' st1 hk1 hf1
 have st2:∀ v,Ri w0 d g j mv base s G nb B N L0 u q A1 v→Calls Tryz.prog 52 #[PT g 0,.string (zP base n)] v fun e u'=>e=.returned (.int .i64 (A1.rma (zP base n)).1)∧Ri w0 d g j mv base s G nb B N L0 u q (A1.rma (zP base n)).2 u':=fun v hv=>(hv.1.rma (by omega) _ (nlog_sz hs n)).mono fun e u' hh=>⟨hh.1,Ri.next q hL hv hh.2.1 hh.2.2⟩
 have hk2:=k_rma A1 (zP base n)
 have hf2:=fs_rma A1 (zP base n)
 by_cases c2:(A1.rma (zP base n)).1=0
 rotate_left
 ·rw[sq,if_neg c2] at hA'
  rw[hA'] at st2 c2
  refine(replace_2 g d base (zP base n) hs q n r c2 _ _ _ (Ri.ik q hL) (Ri.ik q hL) hl0 st1 st2 u hI).mono fun e u' hh => ?_
  exact⟨_,hh.1,hh.2.1,hh.2.2.1,fun e=>absurd e c2⟩
 rw[sq,if_pos c2] at hA'
 rw[c2] at st2
 have hlk:=rma_lk A1 (zP base n) c2
 generalize (A1.rma (zP base n)).2=A2 at hA' st2 hk2 hf2 hlk
 have st3:∀ v,Ri w0 d g j mv base s G nb B N L0 u q A2 v→Calls Tryz.prog 111 #[PT d 0,.string (zP base n)] v fun e u'=>∃ j' x,e=.returned (.tuple #[PT j' 0,x,.int .i64 0])∧Rj w0 d g j mv base s G nb B N L0 u q (zP base n) A2 j' u':=fun v hv=>(hv.1.jnew _ (nlog_sz hs n) hnl (by unfold Ad.ct;rw[hlk])).mono fun e u' hh=>by
  obtain⟨j',x,e1,e2,e3,e4⟩:=hh
  have hj':j'<u'.heap.size:=(e2.blk _ (List.mem_cons_self ..)).1
  exact⟨j',x,e1,hv.1.more e4 (M:=[j']) (fun y hy=>by rw[List.mem_singleton.1 hy];exact⟨e3,hj'⟩),hv.2.1.trans (hv.1.below e4).2,hv.2.2.below e4,e2,Nat.le_trans hv.2.1.1 e3⟩
 have ho2:∀ f∈A2.fs,f.ops.length<1000000:=fun f hf=>by have:=ho f (hf1 f (hf2 f hf));omega
 have st4:∀ j' v,Rj w0 d g j mv base s G nb B N L0 u q (zP base n) A2 j' v→Calls Tryz.prog 35 #[PT d 0,.string (ntmp base),.slice q.p q.n q.cp] v fun e u'=>e=.returned (.int .i64 (A2.app (ntmp base) (bs q.n q.f)).1)∧Rj w0 d g j mv base s G nb B N L0 u q (zP base n) (A2.app (ntmp base) (bs q.n q.f)).2 j' u':=fun j' v hv=>(hv.1.dapp (by omega) ho2 _ (ntmp_sz hs) q hv.2.2.1 (fun x hx=>List.mem_cons_of_mem _ (hL x hx)) hqn).mono fun e u' hh=>⟨hh.1,Rj.next q hL _ j' hv hh.2.1 hh.2.2⟩
 have hk4:=k_app A2 (ntmp base) (bs q.n q.f)
 by_cases c4:(A2.app (ntmp base) (bs q.n q.f)).1=0
 rotate_left
 ·rw[sq,if_neg c4] at hA'
  rw[hA'] at st4 c4
  refine(replace_4 g d base (zP base n) hs q n r c4 _ _ _ _ _ (Ri.ik q hL) (Ri.ik q hL) (Ri.ik q hL) (fun j'=>Rj.ik q hL _ j') hl0 st1 st2 st3 st4 u hI).mono fun e u' hh => ?_
  obtain⟨e1,j',e2⟩:=hh
  exact⟨_,e1,e2.1.sub fun x hx=>List.mem_cons_of_mem _ hx,e2.2.1,fun e=>absurd e c4⟩
 rw[sq,if_pos c4] at hA'
 rw[c4] at st4
 generalize (A2.app (ntmp base) (bs q.n q.f)).2=A4 at hA' st4 hk4
 have st5:∀ j' v,Rj w0 d g j mv base s G nb B N L0 u q (zP base n) A4 j' v→Calls Tryz.prog 37 #[PT d 0,.string (ntmp base)] v fun e u'=>e=.returned (.int .i64 (A4.syn (ntmp base)).1)∧Rj w0 d g j mv base s G nb B N L0 u q (zP base n) (A4.syn (ntmp base)).2 j' u':=fun j' v hv=>(hv.1.dsyn (by omega) _ (ntmp_sz hs)).mono fun e u' hh=>⟨hh.1,Rj.next q hL _ j' hv hh.2.1 hh.2.2⟩
 have hk5:=k_syn A4 (ntmp base)
 by_cases c5:(A4.syn (ntmp base)).1=0
 rotate_left
 ·rw[sq,if_neg c5] at hA'
  rw[hA'] at st5 c5
  refine(replace_5 g d base (zP base n) hs q n r c5 _ _ _ _ _ _ (Ri.ik q hL) (Ri.ik q hL) (Ri.ik q hL) (fun j'=>Rj.ik q hL _ j') (fun j'=>Rj.ik q hL _ j') hl0 st1 st2 st3 st4 st5 u hI).mono fun e u' hh => ?_
  obtain⟨e1,j',e2⟩:=hh
  exact⟨_,e1,e2.1.sub fun x hx=>List.mem_cons_of_mem _ hx,e2.2.1,fun e=>absurd e c5⟩
 rw[sq,if_pos c5] at hA'
 rw[c5] at st5
 obtain⟨f0,_,hf0⟩:=syn_eq c5
 generalize (A4.syn (ntmp base)).2=A5 at hA' st5 hk5 hf0
 have hA':A5.rnm ⟨f0.nm,f0.cn,[],false⟩ (ntmp base) (nsnap base)=(r,A'):=by
  rw[← hA']
  unfold Ad.rnt
  rw[hf0]
 have st6:∀ j' v,Rj w0 d g j mv base s G nb B N L0 u q (zP base n) A5 j' v→Calls Tryz.prog 112 #[PT d 0,.string (ntmp base),.string (nsnap base)] v fun e u'=>e=.returned (.int .i64 r)∧Rj w0 d g j mv base s G nb B N L0 u q (zP base n) A' j' u':=fun j' v hv=>(hv.1.dren (by omega) _ _ (ntmp_sz hs) (nsnap_sz hs) hns _ hf0 rfl).mono fun e u' hh=>by
  rw[hA'] at hh
  exact⟨hh.1,Rj.next q hL _ j' hv hh.2.1 hh.2.2⟩
 refine(replace_6 g d base (zP base n) hs q n r _ _ _ _ _ _ _ (Ri.ik q hL) (Ri.ik q hL) (Ri.ik q hL) (fun j'=>Rj.ik q hL _ j') (fun j'=>Rj.ik q hL _ j') (fun j'=>Rj.ik q hL _ j') hl0 st1 st2 st3 st4 st5 st6 u hI).mono fun e u' hh => ?_
 obtain⟨j',e1,e2⟩:=hh
 exact⟨_,e1,e2.1.sub fun x hx=>List.mem_cons_of_mem _ hx,e2.2.1,fun _=>⟨j',rfl,e2⟩⟩
end
end Wi
end Rg
end Go.Proofs.YtmcpagjhpfbpgaaGreatDoor
end
section
namespace Go.Proofs.YtmcpagjhpfbpgaaGreatDoor
open Go.RowKit
namespace Rg
namespace Wi
set_option maxRecDepth 100000
def opl:Nat→List (List Ch)→List (Nat×List Nat)
 | _,[]=>[]
 | n,l :: r=>(n,fr (rc l)) :: opl (n+(fr (rc l)).length) r
theorem opl_snoc:∀ (r:List (List Ch)) (n:Nat) (l:List Ch),opl n (r++[l])=opl n r++[(n+(fl (r.map rc)).length,fr (rc l))]
 | [],n,l=>by simp[opl,fl]
 | x :: r,n,l=>by
  have ih:=opl_snoc r (n+(fr (rc x)).length) l
  show (n,fr (rc x)) :: opl _ (r++[l])=_
  rw[ih]
  have e:(fl ((x :: r).map rc)).length=(fr (rc x)).length+(fl (r.map rc)).length:=by simp[fl]
  rw[e,← Nat.add_assoc]
  rfl
theorem fl_cons (x:List Nat) (r:List (List Nat)):fl (x :: r)=fr x++fl r:=by simp[fl]
theorem ctn_opl:∀ (r:List (List Ch)) (c:List Nat),ctn c (opl c.length r)=c++fl (r.map rc)
 | [],c=>by simp[opl,ctn,fl]
 | x :: r,c=>by
  have ih:=ctn_opl r (c++fr (rc x))
  show ctn (c.take c.length++fr (rc x)) (opl _ r)=_
  rw[List.take_length,List.map_cons,fl_cons,← List.append_assoc,← ih,List.length_append]
theorem opl_len:∀ (r:List (List Ch)) (n:Nat),(opl n r).length=r.length
 | [],_=>rfl
 | _ :: r,n=>by
  show (opl _ r).length+1=r.length+1
  rw[opl_len r]
theorem opl_take:∀ (r:List (List Ch)) (n k:Nat),(opl n r).take k=opl n (r.take k)
 | [],n,k=>by simp[opl]
 | x :: r,n,0=>by simp[opl]
 | x :: r,n,k+1=>by
  show _ :: (opl _ r).take k=_ :: opl _ (r.take k)
  rw[opl_take r]
theorem opl_get:∀ (r:List (List Ch)) (n k:Nat),k<r.length→(opl n r)[k]?=some (n+(fl ((r.take k).map rc)).length,fr (rc (r.getD k [])))
 | [],n,k,h=>absurd h (Nat.not_lt_zero _)
 | x :: r,n,0,_=>by simp[opl,fl]
 | x :: r,n,k+1,h=>by
  show (opl _ r)[k]?=_
  rw[opl_get r _ k (by simpa using h),List.take_succ_cons,List.map_cons,fl_cons,List.length_append,← Nat.add_assoc]
  rfl
structure Lg (A:Ad) (s:ByteArray) (rs:List (List Ch)) (a:Nat):Prop where
 al:a≤rs.length
 no:A.lk s=none→rs=[]
 yes:∀ f,A.lk s=some f→f.sf=fl ((rs.take a).map rc)∧f.ops=opl f.sf.length (rs.drop a)∧(f.fr=true→a=0)
section
variable {A A':Ad} {s t:ByteArray} {rs:List (List Ch)} {a:Nat}
theorem Lg.cn (h:Lg A s rs a) {f:Af} (hf:A.lk s=some f):f.cn=fl (rs.map rc):=by
 obtain⟨h1,h2,_⟩:=h.yes f hf
 unfold Af.cn
 rw[h2,ctn_opl,h1,← fl_app,← List.map_append,List.take_append_drop]
theorem Lg.ct (h:Lg A s rs a):A.ct s=fl (rs.map rc):=by
 unfold Ad.ct
 cases hl:A.lk s with
 | none=>rw[h.no hl];rfl
 | some f=>exact h.cn hl
theorem Lg.to (h:Lg A s rs a) (e:A'.lk s=A.lk s):Lg A' s rs a:=⟨h.al,fun h1=>h.no (e.symm.trans h1),fun f h1=>h.yes f (e.symm.trans h1)⟩
theorem app_err (A:Ad) (s:ByteArray) (b:List Nat) (h:(A.app s b).1≠0):(A.app s b).2=A.tick:=by
 unfold Ad.app at h ⊢
 split
 ·rfl
 ·rename_i c1
  rw[if_neg c1] at h
  split
  ·rfl
  ·rename_i c2
   rw[if_neg c2] at h
   cases hl:A.lk s with
   | some f =>
    rw[hl] at h
    dsimp only at h ⊢
    split
    ·rfl
    ·rename_i c3;rw[if_neg c3] at h;exact absurd rfl h
   | none =>
    rw[hl] at h
    dsimp only at h ⊢
    split
    ·rfl
    ·rename_i c3
     rw[if_neg c3] at h
     split
     ·rfl
     ·rename_i c4;rw[if_neg c4] at h;exact absurd rfl h
theorem Lg.app (h:Lg A s rs a) (l:List Ch) (h0:(A.app s (fr (rc l))).1=0):Lg (A.app s (fr (rc l))).2 s (rs++[l]) a∧(fl ((rs++[l]).map rc)).length≤1048576:=by
 have e:fl ((rs++[l]).map rc)=fl (rs.map rc)++fr (rc l):=by rw[List.map_append];exact fl_snoc _ _
 rw[e,List.length_append]
 unfold Ad.app at h0 ⊢
 by_cases c1:A.no=true
 ·rw[if_pos c1] at h0;cases h0
 rw[if_neg c1] at h0 ⊢
 by_cases c2:nmd s=false
 ·rw[if_pos c2] at h0;cases h0
 rw[if_neg c2] at h0 ⊢
 cases hl:A.lk s with
 | some f =>
  rw[hl] at h0
  dsimp only at h0 ⊢
  have hc:=h.cn hl
  have enm:=lk_nm hl
  by_cases c3:1048576<f.cn.length+(fr (rc l)).length
  ·rw[if_pos c3] at h0;cases h0
  rw[if_neg c3]
  obtain⟨y1,y2,y3⟩:=h.yes f hl
  have hal:=h.al
  refine⟨⟨by rw[List.length_append];omega,fun hn => ?_,fun f' hf' => ?_⟩,by rw[← hc];omega⟩
  ·rw[lk_swap_eq (A:=A.tick) (f.more f.cn.length (fr (rc l))) enm hl] at hn;cases hn
  ·rw[lk_swap_eq (A:=A.tick) (f.more f.cn.length (fr (rc l))) enm hl] at hf'
   obtain rfl:=Option.some.inj hf'
   have e1:f.sf.length+(fl ((rs.drop a).map rc)).length=f.cn.length:=by
    rw[hc,y1,← List.length_append,← fl_app,← List.map_append,List.take_append_drop]
   refine⟨?_,?_,y3⟩
   ·rw[List.take_append_of_le_length h.al];exact y1
   ·show f.ops++[(f.cn.length,fr (rc l))]=opl f.sf.length ((rs++[l]).drop a)
    rw[List.drop_append_of_le_length h.al,opl_snoc,← y2,e1]
 | none =>
  rw[hl] at h0
  dsimp only at h0 ⊢
  have hrs:=h.no hl
  subst hrs
  have ha:a=0:=by have:=h.al;simpa using this
  subst ha
  by_cases c3:64≤A.fs.length
  ·rw[if_pos c3] at h0;cases h0
  rw[if_neg c3] at h0 ⊢
  by_cases c4:1048576<(fr (rc l)).length
  ·rw[if_pos c4] at h0;cases h0
  rw[if_neg c4]
  refine⟨⟨Nat.zero_le _,fun hn => ?_,fun f' hf' => ?_⟩,by show 0+_≤_;omega⟩
  ·rw[lk_snoc_eq _ rfl hl] at hn;cases hn
  ·rw[lk_snoc_eq _ rfl hl] at hf'
   obtain rfl:=Option.some.inj hf'
   exact⟨rfl,rfl,fun _=>rfl⟩
theorem jsy_ne (hne:t≠s):(A.jsy s).2.lk t=A.lk t:=by
 unfold Ad.jsy
 cases hl:A.lk s with
 | none=>rfl
 | some f =>
  dsimp only
  split
  ·rfl
  ·exact syn_ne hne
theorem jsy_k (A:Ad) (s:ByteArray):(A.jsy s).2.k≤A.k+1:=by
 unfold Ad.jsy
 cases A.lk s with
 | none=>exact Nat.le_succ _
 | some f =>
  dsimp only
  split
  ·exact Nat.le_succ _
  ·rw[k_syn];exact Nat.le_refl _
theorem Lg.sync (h:Lg A s rs a) (h0:(A.jsy s).1=0):Lg (A.jsy s).2 s rs rs.length:=by
 unfold Ad.jsy at h0 ⊢
 cases hl:A.lk s with
 | none =>
  have hrs:=h.no hl
  subst hrs
  exact⟨Nat.le_refl _,fun _=>rfl,fun f hf=>by
   have hf:A.lk s=some f:=hf
   rw[hl] at hf
   cases hf⟩
 | some f =>
  rw[hl] at h0
  dsimp only at h0 ⊢
  obtain⟨y1,y2,y3⟩:=h.yes f hl
  by_cases ho:f.ops=[]
  ·rw[if_pos ho]
   have hd:rs.drop a=[]:=by
    have:=congrArg List.length y2
    rw[ho,opl_len] at this
    exact List.eq_nil_of_length_eq_zero this.symm
   have ha:a=rs.length:=by
    have h1:=h.al
    have:=congrArg List.length hd
    simp at this
    omega
   subst ha
   exact h
  ·rw[if_neg ho] at h0 ⊢
   obtain⟨f',e1,e2⟩:=syn_eq h0
   obtain rfl:=Option.some.inj (hl.symm.trans e1)
   refine⟨Nat.le_refl _,fun hn => ?_,fun f' hf' => ?_⟩
   ·rw[e2] at hn;cases hn
   ·rw[e2] at hf'
    obtain rfl:=Option.some.inj hf'
    refine⟨?_,?_,fun e=>by cases e⟩
    ·rw[List.take_length];exact h.cn hl
    ·rw[List.drop_length];rfl
theorem jsy_err (h0:(A.jsy s).1≠0):(A.jsy s).2=A.tick:=by
 unfold Ad.jsy at h0 ⊢
 cases hl:A.lk s with
 | none=>rw[hl] at h0;exact absurd rfl h0
 | some f =>
  rw[hl] at h0
  dsimp only at h0 ⊢
  split
  ·rename_i c;rw[if_pos c] at h0;exact absurd rfl h0
  ·rename_i c
   rw[if_neg c] at h0
   unfold Ad.syn at h0 ⊢
   split
   ·rfl
   ·rename_i c2;rw[if_neg c2,hl] at h0;exact absurd rfl h0
theorem lk_cra (h:(A.fs.map Af.nm).Nodup) (K:ByteArray→Kv) (s:ByteArray):(A.cra K).lk s=(A.lk s).bind fun f=>if f.there (K s).1.2.1 (K s).1.2.2 then some (f.set (K s).1.2.1 (K s).1.2.2) else none:=by
 unfold Ad.cra Ad.lk
 dsimp only
 revert h
 induction A.fs with
 | nil=>intro _;rfl
 | cons x r ih =>
  intro h
  rw[List.map_cons,List.nodup_cons] at h
  rw[List.find?_cons]
  by_cases e:x.nm=s
  ·rw[decide_eq_true e]
   dsimp only [Option.bind]
   rw[List.filter_cons]
   have hr:∀ y∈r,¬y.nm=s:=fun y hy e2=>h.1 (by rw[e,← e2];exact List.mem_map.2 ⟨y,hy,rfl⟩)
   by_cases c:x.there (K s).1.2.1 (K s).1.2.2=true
   ·rw[e,if_pos c,if_pos c,List.map_cons,List.find?_cons,decide_eq_true (show (x.set (K x.nm).1.2.1 (K x.nm).1.2.2).nm=s from e),e]
   ·rw[e,if_neg c,if_neg c,List.find?_eq_none]
    intro z hz
    obtain⟨y,hy,rfl⟩:=List.mem_map.1 hz
    exact fun e3=>hr y (List.mem_filter.1 hy).1 (of_decide_eq_true e3)
  ·rw[decide_eq_false e]
   dsimp only
   rw[← ih h.2,List.filter_cons]
   split
   ·rw[List.map_cons,List.find?_cons,decide_eq_false (show ¬(x.set (K x.nm).1.2.1 (K x.nm).1.2.2).nm=s from e)]
   ·rfl
theorem Lg.crash (h:Lg A s rs a) (hn:(A.fs.map Af.nm).Nodup) (hr:∀ l∈rs,(rc l).length≤65536) (K:ByteArray→Kv):∃ m t,a≤m∧m≤rs.length∧(A.cra K).ct s=fl ((rs.take m).map rc)++t∧Torn t:=by
 unfold Ad.ct
 rw[lk_cra hn]
 cases hl:A.lk s with
 | none =>
  have hrs:=h.no hl
  subst hrs
  exact⟨0,[],by have:=h.al;simpa using this,Nat.le_refl _,rfl,.inl rfl⟩
 | some f =>
  obtain⟨y1,y2,y3⟩:=h.yes f hl
  dsimp only [Option.bind]
  generalize (K s).1.2.1=x
  generalize (K s).1.2.2=y
  have hd:f.dn x≤(rs.drop a).length:=by
   unfold Af.dn
   rw[y2,opl_len]
   exact Nat.min_le_right _ _
  have hal:=h.al
  rw[List.length_drop] at hd
  by_cases c:f.there x y=true
  rotate_left
  ·rw[if_neg c]
   have c:f.there x y=false:=by simpa using c
   unfold Af.there at c
   have hfr:f.fr=true:=by
    cases hq:f.fr with
    | true=>rfl
    | false=>rw[hq] at c;cases c
   rw[y3 hfr]
   exact⟨0,[],Nat.le_refl _,Nat.zero_le _,rfl,.inl rfl⟩
  ·rw[if_pos c]
   have e1:(f.set x y).cn=fl ((rs.take (a+f.dn x)).map rc)++f.tl x y:=by
    show ctn f.sf (f.ops.take (f.dn x))++f.tl x y=_
    rw[y2,opl_take,ctn_opl,y1,← fl_app,← List.map_append]
    congr 3
    rw[List.take_add]
   dsimp only
   rw[e1]
   unfold Af.tl
   by_cases c2:f.dn x<(rs.drop a).length
   ·have hlt:a+f.dn x<rs.length:=by rw[List.length_drop] at c2;omega
    have e2:f.ops[f.dn x]?=some (f.sf.length+(fl (((rs.drop a).take (f.dn x)).map rc)).length,fr (rc ((rs.drop a).getD (f.dn x) []))):=by rw[y2];exact opl_get _ _ _ c2
    rw[e2]
    dsimp only
    have e3:(rs.drop a).getD (f.dn x) []=rs.getD (a+f.dn x) []:=by
     simp[List.getD_eq_getElem?_getD]
    rw[e3]
    by_cases c3:y.toNat<(fr (rc (rs.getD (a+f.dn x) []))).length
    ·refine⟨a+f.dn x,_,Nat.le_add_right _ _,by omega,rfl,.inr ⟨rc (rs.getD (a+f.dn x) []),?_,?_,List.take_prefix _ _⟩⟩
     ·refine hr _ ?_
      rw[List.getD_eq_getElem?_getD,List.getElem?_eq_getElem hlt]
      exact List.getElem_mem hlt
     ·rw[List.length_take]
      omega
    ·refine⟨a+f.dn x+1,[],by omega,by omega,?_,.inl rfl⟩
     rw[List.take_of_length_le (l:=fr (rc (rs.getD (a+f.dn x) []))) (by omega),List.append_nil,take_snoc rs [] hlt,List.map_append]
     exact(fl_snoc _ _).symm
   ·rw[List.length_drop] at c2
    have e2:f.ops[f.dn x]?=none:=by
     rw[List.getElem?_eq_none]
     rw[y2,opl_len,List.length_drop]
     omega
    rw[e2]
    exact⟨a+f.dn x,[],Nat.le_add_right _ _,by omega,rfl,.inl rfl⟩
end
theorem Da.nd {w0 u:World} {d:Nat} {A:Ad} {L:List Nat} (h:Da w0 d A L u):(A.fs.map Af.nm).Nodup:=by
 obtain⟨D,h1,_,rfl,_⟩:=h
 have e:(D.ab.fs.map Af.nm)=D.fs.map Fq.nm:=by
  show (D.fs.map Fq.ab).map Af.nm=_
  rw[List.map_map]
  rfl
 rw[e]
 exact h1.dk.un
end Wi
end Rg
end Go.Proofs.YtmcpagjhpfbpgaaGreatDoor
end
section
namespace Go.Proofs.YtmcpagjhpfbpgaaGreatDoor
open Go.RowKit
namespace Rg
namespace Wi
set_option maxRecDepth 100000
section
variable {A A':Ad} {s t x base:ByteArray} {rs:List (List Ch)} {a n:Nat} {b:List Nat}
theorem rma_none (h:A.lk t=none):A.rma t=(0,A):=by
 unfold Ad.rma
 rw[h]
theorem rnm_err {f:Af} (h:(A.rnm f s t).1≠0):(A.rnm f s t).2=A.tick:=by
 unfold Ad.rnm at h ⊢
 split
 ·rfl
 ·rename_i c;rw[if_neg c] at h;exact absurd rfl h
theorem sq_z {X:Int×Ad} {f:Ad→Int×Ad} (h:X.1=0):sq X f=f X.2:=by rw[sq,if_pos h]
theorem sq_n {X:Int×Ad} {f:Ad→Int×Ad} (h:¬X.1=0):sq X f=X:=by rw[sq,if_neg h]
theorem rnt_err (h:(A.rnt s t).1≠0):(A.rnt s t).2.lk x=A.lk x:=by
 unfold Ad.rnt at h ⊢
 cases hl:A.lk s with
 | none=>rfl
 | some f =>
  rw[hl] at h
  dsimp only at h ⊢
  rw[rnm_err h]
  rfl
theorem rep_err (h:(A.rep base n b).1≠0) (h1:x≠ntmp base) (h2:x≠zP base n):(A.rep base n b).2.lk x=A.lk x:=by
 unfold Ad.rep at h ⊢
 by_cases c1:(A.rma (ntmp base)).1=0
 rotate_left
 ·rw[sq_n c1];exact rma_ne h1
 rw[sq_z c1] at h ⊢
 rw[← rma_ne (A:=A) h1]
 generalize (A.rma (ntmp base)).2=A1 at h ⊢
 by_cases c2:(A1.rma (zP base n)).1=0
 rotate_left
 ·rw[sq_n c2];exact rma_ne h2
 rw[sq_z c2] at h ⊢
 rw[← rma_ne (A:=A1) h2]
 generalize (A1.rma (zP base n)).2=A2 at h ⊢
 by_cases c3:(A2.app (ntmp base) b).1=0
 rotate_left
 ·rw[sq_n c3];exact app_ne b h1
 rw[sq_z c3] at h ⊢
 rw[← app_ne (A:=A2) b h1]
 generalize (A2.app (ntmp base) b).2=A3 at h ⊢
 by_cases c4:(A3.syn (ntmp base)).1=0
 rotate_left
 ·rw[sq_n c4];exact syn_ne h1
 rw[sq_z c4] at h ⊢
 rw[← syn_ne (A:=A3) h1]
 exact rnt_err h
theorem rep_err_no (h:(A.rep base n b).1≠0) (h1:zP base n≠ntmp base) (h2:A.lk (zP base n)=none):(A.rep base n b).2.lk (zP base n)=none:=by
 unfold Ad.rep at h ⊢
 by_cases c1:(A.rma (ntmp base)).1=0
 rotate_left
 ·rw[sq_n c1,rma_ne h1];exact h2
 rw[sq_z c1] at h ⊢
 rw[← rma_ne (A:=A) h1] at h2
 generalize (A.rma (ntmp base)).2=A1 at h h2 ⊢
 rw[rma_none h2,sq_z rfl] at h ⊢
 dsimp only at h ⊢
 by_cases c3:(A1.app (ntmp base) b).1=0
 rotate_left
 ·rw[sq_n c3,app_ne b h1];exact h2
 rw[sq_z c3] at h ⊢
 rw[← app_ne (A:=A1) b h1] at h2
 generalize (A1.app (ntmp base) b).2=A3 at h h2 ⊢
 by_cases c4:(A3.syn (ntmp base)).1=0
 rotate_left
 ·rw[sq_n c4,syn_ne h1];exact h2
 rw[sq_z c4] at h ⊢
 rw[← syn_ne (A:=A3) h1] at h2
 rw[rnt_err h]
 exact h2
theorem app_new (h:A.lk t=none) (h0:(A.app t b).1=0):(A.app t b).2.lk t=some ⟨t,[],[(0,b)],true⟩:=by
 unfold Ad.app at h0 ⊢
 by_cases c1:A.no=true
 ·rw[if_pos c1] at h0;cases h0
 rw[if_neg c1] at h0 ⊢
 by_cases c2:nmd t=false
 ·rw[if_pos c2] at h0;cases h0
 rw[if_neg c2,h] at h0 ⊢
 dsimp only at h0 ⊢
 by_cases c3:64≤A.fs.length
 ·rw[if_pos c3] at h0;cases h0
 rw[if_neg c3] at h0 ⊢
 by_cases c4:1048576<b.length
 ·rw[if_pos c4] at h0;cases h0
 rw[if_neg c4]
 exact lk_snoc_eq _ rfl h _ _
theorem rep_ok (h:(A.rep base n b).1=0) (e1:zP base n≠ntmp base) (e2:zP base n≠nsnap base):(A.rep base n b).2.lk (nsnap base)=some ⟨nsnap base,b,[],false⟩∧(A.rep base n b).2.lk (zP base n)=none∧∀ x,x≠ntmp base→x≠zP base n→x≠nsnap base→(A.rep base n b).2.lk x=A.lk x:=by
 unfold Ad.rep at h ⊢
 by_cases c1:(A.rma (ntmp base)).1=0
 rotate_left
 ·rw[sq_n c1] at h;exact absurd h c1
 rw[sq_z c1] at h ⊢
 have k1:=rma_lk A (ntmp base) c1
 have l1:∀ x,x≠ntmp base→(A.rma (ntmp base)).2.lk x=A.lk x:=fun x hx=>rma_ne hx
 generalize (A.rma (ntmp base)).2=A1 at h k1 l1 ⊢
 by_cases c2:(A1.rma (zP base n)).1=0
 rotate_left
 ·rw[sq_n c2] at h;exact absurd h c2
 rw[sq_z c2] at h ⊢
 have k2:=rma_lk A1 (zP base n) c2
 have k2':(A1.rma (zP base n)).2.lk (ntmp base)=none:=(rma_ne (fun e=>e1 e.symm)).trans k1
 have l2:∀ x,x≠zP base n→(A1.rma (zP base n)).2.lk x=A1.lk x:=fun x hx=>rma_ne hx
 generalize (A1.rma (zP base n)).2=A2 at h k2 k2' l2 ⊢
 by_cases c3:(A2.app (ntmp base) b).1=0
 rotate_left
 ·rw[sq_n c3] at h;exact absurd h c3
 rw[sq_z c3] at h ⊢
 have k3:=app_new k2' c3
 have l3:∀ x,x≠ntmp base→(A2.app (ntmp base) b).2.lk x=A2.lk x:=fun x hx=>app_ne b hx
 generalize (A2.app (ntmp base) b).2=A3 at h k3 l3 ⊢
 by_cases c4:(A3.syn (ntmp base)).1=0
 rotate_left
 ·rw[sq_n c4] at h;exact absurd h c4
 rw[sq_z c4] at h ⊢
 obtain⟨f,f1,f2⟩:=syn_eq c4
 obtain rfl:=Option.some.inj (k3.symm.trans f1)
 have l4:∀ x,x≠ntmp base→(A3.syn (ntmp base)).2.lk x=A3.lk x:=fun x hx=>syn_ne hx
 generalize (A3.syn (ntmp base)).2=A4 at h f2 l4 ⊢
 unfold Ad.rnt at h ⊢
 rw[f2] at h ⊢
 dsimp only at h ⊢
 unfold Ad.rnm at h ⊢
 by_cases c5:A4.no=true
 ·rw[if_pos c5] at h;cases h
 rw[if_neg c5]
 refine⟨?_,?_,fun x x1 x2 x3 => ?_⟩
 ·show (A4.ren _ _ _).lk _=_
  rw[lk_ren_eq]
  rfl
 ·show (A4.ren _ _ _).lk _=_
  rw[lk_ren_ne _ e1 e2,l4 _ e1,l3 _ e1]
  exact k2
 ·show (A4.ren _ _ _).lk _=_
  rw[lk_ren_ne _ x1 x3,l4 _ x1,l3 _ x1,l2 _ x2,l1 _ x1]
end
def Ck (A:Ad) (base:ByteArray) (n:Nat) (B:ByteArray→Option (List Nat)):Prop :=
 if n=0 then A.lk (nsnap base)=none∧B=fun _=>none else ∃ f ks,A.lk (nsnap base)=some f∧f.ops=[]∧f.fr=false∧Kys B ks∧f.sf=fl (ckl n B ks)
structure Stm (A:Ad) (base:ByteArray) (n:Nat) (B:ByteArray→Option (List Nat)) (rs:List (List Ch)) (a:Nat):Prop where
 ck:Ck A base n B
 lg:Lg A (zP base n) rs a
 fu:∀ m,n<m→m<32→A.lk (zP base m)=none
structure Nu (base:ByteArray):Prop where
 ll:∀ m n,m<32→n<32→m≠n→zP base m≠zP base n
 ls:∀ m,m<32→zP base m≠nsnap base
 lt:∀ m,m<32→zP base m≠ntmp base
 st:nsnap base≠ntmp base
section
variable {A A':Ad} {base:ByteArray} {rs:List (List Ch)} {a n:Nat} {B B':ByteArray→Option (List Nat)}
theorem Ck.to (h:Ck A base n B) (e:A'.lk (nsnap base)=A.lk (nsnap base)):Ck A' base n B:=by
 unfold Ck at h ⊢
 rw[e]
 exact h
theorem Stm.to (h:Stm A base n B rs a) (e:∀ x,A'.lk x=A.lk x):Stm A' base n B rs a:=⟨h.ck.to (e _),h.lg.to (e _),fun m h1 h2=>(e _).trans (h.fu m h1 h2)⟩
theorem Stm.start (base:ByteArray) (rf:Nat→Bool):Stm ⟨0,[],rf⟩ base 0 (fun _=>none) [] 0:=by
 refine⟨?_,⟨Nat.le_refl _,fun _=>rfl,fun f hf=>by cases hf⟩,fun _ _ _=>rfl⟩
 unfold Ck
 rw[if_pos rfl]
 exact⟨rfl,rfl⟩
theorem Stm.app (h:Stm A base n B rs a) (hu:Nu base) (hn:n<32) (l:List Ch) (h0:(A.app (zP base n) (fr (rc l))).1=0):Stm (A.app (zP base n) (fr (rc l))).2 base n B (rs++[l]) a∧(fl ((rs++[l]).map rc)).length≤1048576:=by
 obtain⟨h1,h2⟩:=h.lg.app l h0
 exact⟨⟨h.ck.to (app_ne _ (fun e=>hu.ls n hn e.symm)),h1,fun m m1 m2=>(app_ne _ (hu.ll m n m2 hn (by omega))).trans (h.fu m m1 m2)⟩,h2⟩
theorem Stm.sync (h:Stm A base n B rs a) (hu:Nu base) (hn:n<32) (h0:(A.jsy (zP base n)).1=0):Stm (A.jsy (zP base n)).2 base n B rs rs.length :=
 ⟨h.ck.to (jsy_ne (fun e=>hu.ls n hn e.symm)),h.lg.sync h0,fun m m1 m2=>(jsy_ne (hu.ll m n m2 hn (by omega))).trans (h.fu m m1 m2)⟩
theorem Stm.bad (h:Stm A base n B rs a) (hu:Nu base) (hn:n+1<32) (b:List Nat) (h0:(A.rep base (n+1) b).1≠0):Stm (A.rep base (n+1) b).2 base n B rs a:=by
 have key:∀ x,x≠ntmp base→x≠zP base (n+1)→(A.rep base (n+1) b).2.lk x=A.lk x:=fun x h1 h2=>rep_err h0 h1 h2
 refine⟨h.ck.to (key _ hu.st (fun e=>hu.ls (n+1) hn e.symm)),h.lg.to (key _ (hu.lt n (by omega)) (hu.ll n (n+1) (by omega) hn (by omega))),fun m m1 m2 => ?_⟩
 by_cases e:m=n+1
 ·subst e
  exact rep_err_no h0 (hu.lt _ hn) (h.fu _ m1 m2)
 ·exact(key _ (hu.lt m m2) (hu.ll m (n+1) m2 hn e)).trans (h.fu m m1 m2)
theorem Stm.chk (h:Stm A base n B rs a) (hu:Nu base) (hn:n+1<32) (ks:List (List UInt8)) (hks:Kys B' ks) (h0:(A.rep base (n+1) (fl (ckl (n+1) B' ks))).1=0):Stm ((A.rep base (n+1) (fl (ckl (n+1) B' ks))).2.rma (zP base n)).2 base (n+1) B' [] 0:=by
 obtain⟨r1,r2,r3⟩:=rep_ok h0 (hu.lt _ hn) (hu.ls _ hn)
 generalize (A.rep base (n+1) (fl (ckl (n+1) B' ks))).2=A' at r1 r2 r3
 have k1:∀ x,x≠zP base n→(A'.rma (zP base n)).2.lk x=A'.lk x:=fun x hx=>rma_ne hx
 have k2:(A'.rma (zP base n)).2.lk (zP base (n+1))=none:=(k1 _ (hu.ll _ _ hn (by omega) (by omega))).trans r2
 refine⟨?_,⟨Nat.le_refl _,fun _=>rfl,fun f hf=>by rw[k2] at hf;cases hf⟩,fun m m1 m2 => ?_⟩
 ·unfold Ck
  rw[if_neg (by omega),k1 _ (fun e=>hu.ls n (by omega) e.symm),r1]
  exact⟨_,ks,rfl,rfl,rfl,hks,rfl⟩
 ·rw[k1 _ (hu.ll m n m2 (by omega) (by omega)),r3 _ (hu.lt m m2) (hu.ll m (n+1) m2 hn (by omega)) (hu.ls m m2)]
  exact h.fu m (by omega) m2
structure Sc (A:Ad) (base:ByteArray) (n:Nat) (B:ByteArray→Option (List Nat)) (rs:List (List Ch)) (t:List Nat):Prop where
 ck:Ck A base n B
 ct:A.ct (zP base n)=fl (rs.map rc)++t
 tn:Torn t
theorem Stm.crash (h:Stm A base n B rs a) (hn:(A.fs.map Af.nm).Nodup) (hr:∀ l∈rs,(rc l).length≤65536) (K:ByteArray→Kv):∃ m t,a≤m∧m≤rs.length∧Sc (A.cra K) base n B (rs.take m) t:=by
 obtain⟨m,t,m1,m2,m3,m4⟩:=h.lg.crash hn hr K
 refine⟨m,t,m1,m2,?_,m3,m4⟩
 have hc:=h.ck
 unfold Ck at hc ⊢
 rw[lk_cra hn]
 by_cases c:n=0
 ·rw[if_pos c] at hc ⊢
  rw[hc.1]
  exact⟨rfl,hc.2⟩
 ·rw[if_neg c] at hc ⊢
  obtain⟨f,ks,f1,f2,f3,f4,f5⟩:=hc
  rw[f1]
  dsimp only [Option.bind]
  have e0:∀ x,f.dn x=0:=fun x=>by unfold Af.dn;rw[f2];simp
  have e1:∀ x y,f.tl x y=[]:=fun x y=>by unfold Af.tl;rw[f2];simp
  have e2:∀ x y,f.there x y=true:=fun x y=>by unfold Af.there;rw[f3];rfl
  rw[e2,if_pos rfl]
  refine⟨_,ks,rfl,rfl,rfl,f4,?_⟩
  show ctn f.sf (f.ops.take _)++_=_
  rw[e1,f2,List.append_nil,List.take_nil]
  exact f5
end
end Wi
end Rg
end Go.Proofs.YtmcpagjhpfbpgaaGreatDoor
end
