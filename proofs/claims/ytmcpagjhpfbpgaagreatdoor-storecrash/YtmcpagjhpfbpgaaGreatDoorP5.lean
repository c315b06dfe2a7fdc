/- Texts of the proof, joined. -/
import Derived.Test.YtmcpagjhpfbpgaaGreatDoorP4
import Derived.Shelf.LaysM
import Derived.Shelf.Strconv.Clone
import Derived.Ground.NamesProg
import Derived.Test.YtmcpagjhpfbpgaaGreatDoorProg
import Derived.Maps.OwnSet
import Derived.Shelf.SlGeneric
import Derived.Shelf.SlIter.Nil
import Derived.Shelf.SortM.Plain
import Derived.Shelf.SortM.SortNone
import Derived.Ground.GgzProg
import Derived.Ground.SlgmProg
set_option maxRecDepth 100000
set_option maxHeartbeats 8000000
section
namespace Go.Proofs.YtmcpagjhpfbpgaaGreatDoor
open Go.RowKit
namespace Rg
namespace Wi
set_option maxRecDepth 100000
section
variable {w u:World} {D:Dq}
theorem DOk.kr (h:DOk w D) (hu:Kp D.d w u):u.heap[D.rb]?=w.heap[D.rb]?:=by
 obtain⟨n,Y,h1,_⟩:=h.rm
 exact hu.block _ h1.lt h.h3.2.1.symm
theorem DOk.km (h:DOk w D) (hu:Kp D.d w u):u.heap[D.mb]?=w.heap[D.mb]?:=by
 obtain⟨X,h1,_⟩:=h.mp
 exact hu.block _ h1.lt h.h3.1.symm
theorem Dq.kc (hu:Kp D.d w u):Chg D.bl w u:=(Kp.chg hu).mono (fun x hx=>.inl (by rw[List.mem_singleton.1 hx];exact List.mem_cons_self ..))
theorem Dq.fbl {f:Fq} (hf:f∈D.fs):∀ x∈f.bl,x∈D.bl:=fun x hx=>by
 unfold Dq.bl
 simp only[List.mem_cons,List.mem_flatMap]
 exact .inr (.inr (.inr ⟨f,hf,hx⟩))
end
def Dq.no (D:Dq):Bool:=D.rf (D.k+1)
theorem count_f (D:Dq) (w:World) (h:DOk w D) (hk:D.k+1<4611686018427387904):Calls Tryz.prog 87 #[PT D.d 0] w fun e w'=>e=.returned (.int .i64 (if D.no then 13 else 0))∧DOk w' D.tick∧Chg D.bl w w':=by
 cases hr:D.no with
 | true=>exact(count_no D.d D.mb D.rb D.k h.k1 w h.cel (fun u hu=>by rw[h.lookR (h.kr hu),show D.rf (D.k+1)=true from hr])).mono fun e w' hh=>⟨hh.1,h.tick hk hh.2.2 hh.2.1,Dq.kc hh.2.2⟩
 | false=>exact(count_ok D.d D.mb D.rb D.k h.k1 w h.cel (fun u hu=>by rw[h.lookR (h.kr hu),show D.rf (D.k+1)=false from hr])).mono fun e w' hh=>⟨hh.1,h.tick hk hh.2.2 hh.2.1,Dq.kc hh.2.2⟩
def Dq.cnt (D:Dq) (s:ByteArray):Value:=if D.no then .tuple #[.pointer none,.int .i64 13] else match lk D.fs s with
 | some f=>.tuple #[PT f.g 0,.int .i64 0]
 | none=>.tuple #[.pointer none,.int .i64 6]
theorem counted_f (D:Dq) (s:ByteArray) (hs:s.size≤maxLen) (w:World) (h:DOk w D) (hk:D.k+1<4611686018427387904):Calls Tryz.prog 97 #[PT D.d 0,.string s] w fun e w'=>e=.returned (D.cnt s)∧DOk w' D.tick∧Chg D.bl w w':=by
 unfold Dq.cnt
 cases hr:D.no with
 | true=>exact(counted_no D.d D.mb D.rb D.k h.k1 s w h.cel (fun u hu=>by rw[h.lookR (h.kr hu),show D.rf (D.k+1)=true from hr])).mono fun e w' hh=>⟨hh.1,h.tick hk hh.2.2 hh.2.1,Dq.kc hh.2.2⟩
 | false =>
  cases hl:lk D.fs s with
  | none=>exact(counted_miss D.d D.mb D.rb D.k h.k1 s w h.cel (fun u hu=>by rw[h.lookR (h.kr hu),show D.rf (D.k+1)=false from hr]) (fun u hu=>by rw[h.look s hs (h.km hu),hl];rfl)).mono fun e w' hh=>⟨hh.1,h.tick hk hh.2.2 hh.2.1,Dq.kc hh.2.2⟩
  | some f=>exact(counted_hit D.d D.mb D.rb D.k h.k1 f.g s w h.cel (fun u hu=>by rw[h.lookR (h.kr hu),show D.rf (D.k+1)=false from hr]) (fun u hu=>by rw[h.look s hs (h.km hu),hl];rfl)).mono fun e w' hh=>⟨hh.1,h.tick hk hh.2.2 hh.2.1,Dq.kc hh.2.2⟩
def cuto (c:Nat):Uop:=⟨c,⟨0,0,0,0,none,fun _=>0⟩⟩
theorem cuto_ok (c:Nat) (w:World):(cuto c).ok w:=⟨⟨Bv.void _ _ _ _ _,Nat.le_refl _⟩,fun _=>rfl,Rs.void _ _ _ _⟩
theorem cuto_b (c:Nat):∀ x,x∉uob (cuto c):=fun x hx=>by
 unfold uob cuto at hx
 simp at hx
def Dw (w:World) (D0 D:Dq) (u:World):Prop:=DOk u D∧Chg D0.bl w u∧∀ x∈D.bl,x∈D0.bl∨w.heap.size≤x
theorem Dw.step {w:World} {D0 D:Dq}:∀ u u',Dw w D0 D u→Below u.heap.size u u'→Dw w D0 D u':=fun _ _ h hb=>⟨h.1.below hb,h.2.1.below hb,h.2.2⟩
theorem Dw.trans {w u u':World} {D0 D1 D2:Dq} (h:Dw w D0 D1 u) (k:Dw u D1 D2 u'):Dw w D0 D2 u':=⟨k.1,h.2.1.trans k.2.1 h.2.2,fun x hx=>(k.2.2 x hx).elim (h.2.2 x) (fun e=>.inr (Nat.le_trans h.2.1.size e))⟩
theorem Dw.refl {w:World} {D:Dq} (h:DOk w D):Dw w D D w:=⟨h,Chg.refl _ _,fun _ hx=>.inl hx⟩
theorem Dq.swap_bl {D:Dq} {f f':Fq} {x:Nat} (hx:x∈(D.swap f f').bl):x∈D.bl∨x∈f'.bl:=by
 unfold Dq.bl Dq.swap at hx
 simp only[List.mem_cons,List.mem_flatMap,List.mem_map] at hx
 rcases hx with e | e | e | ⟨y,⟨z,hz,rfl⟩,e⟩
 ·exact .inl (by unfold Dq.bl;simp[e])
 ·exact .inl (by unfold Dq.bl;simp[e])
 ·exact .inl (by unfold Dq.bl;simp[e])
 ·unfold swp at e
  split at e
  ·exact .inr e
  ·exact .inl (Dq.fbl hz x e)
theorem Cut_f (D:Dq) (s:ByteArray) (hs:s.size≤maxLen) (c:Int) (w:World) (h:DOk w D) (hk:D.k+1<4611686018427387904) (hops:∀ f∈D.fs,f.ops.length<1000000):Calls Tryz.prog 169 #[PT D.d 0,.string s,.int .i64 c] w fun e w' =>
  if D.no then e=.returned (.int .i64 13)∧Dw w D D.tick w' else match lk D.fs s with
  | none=>e=.returned (.int .i64 6)∧Dw w D D.tick w'
  | some f=>if 0≤c∧c≤f.N then e=.returned (.int .i64 0)∧∃ u,Dw w D (D.tick.swap f (f.more u (cuto c.toNat))) w' else e=.returned (.int .i64 2)∧Dw w D D.tick w':=by
 have hb0:∀ u u',Below w.heap.size w u→Below u.heap.size u u'→Below w.heap.size w u':=fun u u' h1 h2=>h1.trans (h2.mono h1.size)
 have hcd:∀ v,D.cnt s=v→∀ u,Below w.heap.size w u→Calls Tryz.prog 97 #[PT D.d 0,.string s] u fun e u'=>e=.returned v∧Dw w D D.tick u':=fun v hv u hu =>
  (counted_f D s hs u (h.below hu) hk).mono fun e u' hh=>⟨by rw[hh.1,hv],hh.2.1,(Chg.of hu).trans hh.2.2 (fun x hx=>.inl hx),fun x hx=>.inl hx⟩
 cases hr:D.no with
 | true=>exact Cut_no D.d s c _ _ w (Below.refl _ _) hb0 Dw.step (hcd _ (by unfold Dq.cnt;rw[hr,if_pos rfl]))
 | false =>
  simp only[Bool.false_eq_true,if_false]
  cases hl:lk D.fs s with
  | none=>exact Cut_miss D.d s c _ _ w (Below.refl _ _) hb0 Dw.step (hcd _ (by unfold Dq.cnt;rw[hr,if_neg (by decide),hl]))
  | some f =>
   have hm:=(lk_mem hl).1
   have hc1:=hcd (.tuple #[PT f.g 0,.int .i64 0]) (by unfold Dq.cnt;rw[hr,if_neg (by decide),hl])
   have hsz:∀ u,Dw w D D.tick u→Calls Tryz.prog 89 #[PT f.g 0] u fun e u'=>e=.returned (.int .i64 ((f.N:Nat):Int))∧Below u.heap.size u u':=fun u hu=>size_f f u (hu.1.fl f hm)
   by_cases h0:c<0
   ·show Calls _ _ _ _ fun e w'=>if 0≤c∧c≤f.N then _ else _
    simp only[if_neg (show ¬(0≤c∧c≤(f.N:Int)) by omega)]
    exact Cut_low D.d f.g s c h0 _ _ w (Below.refl _ _) hb0 Dw.step hc1
   ·obtain⟨n,rfl⟩:∃ n:Nat,c=n:=⟨c.toNat,by omega⟩
    show Calls _ _ _ _ fun e w'=>if 0≤(n:Int)∧(n:Int)≤f.N then _ else _
    by_cases h2:n≤f.N
    ·simp only[if_pos (show 0≤(n:Int)∧(n:Int)≤(f.N:Int) by omega)]
     refine Cut_ok D.d f.g f.N s n h2 _ _ (fun u=>∃ v,Dw w D (D.tick.swap f (f.more v (cuto n))) u) w (Below.refl _ _) hb0 Dw.step (fun u u' hu hb=>by obtain⟨v,hv⟩:=hu;exact⟨v,Dw.step _ _ hv hb⟩) hc1 hsz (fun u hu => ?_)
     refine(begin_f f (cuto n) u (hu.1.fl f hm) (hops f hm) (cuto_ok n u) (fun x hx=>absurd hx (cuto_b n x)) h2 (by have:=(hu.1.fl f hm).N1;show n+0≤_;omega) (.inr rfl)).mono fun e u' hh => ?_
     obtain⟨e1,v,e2,e3,e4⟩:=hh
     suffices hbx:∀ x∈(f.more v (cuto n)).bl,x∈f.bl∨u.heap.size≤x from ⟨e1,v,hu.1.swap hm rfl rfl e2 e3 hbx,hu.2.1.trans e3 (fun x hx=>.inl (Dq.fbl hm x hx)),fun x hx=>(Dq.swap_bl hx).elim .inl (fun e=>(hbx x e).elim (fun e=>.inl (Dq.fbl hm x e)) (fun e=>.inr (Nat.le_trans hu.2.1.size e)))⟩
     intro x hx
     unfold Fq.bl Fq.more fbl at hx
     simp only[List.mem_cons,List.mem_append,List.mem_flatMap] at hx
     rcases hx with hx | hx | hx | ⟨o,ho,hx⟩
     ·exact .inl (by rw[hx];exact List.mem_cons_self ..)
     ·exact .inl (by unfold Fq.bl fbl;simp[hx])
     ·exact e4 x hx
     ·rcases ho with ho | ho
      ·exact .inl (by unfold Fq.bl fbl;simp only[List.mem_cons,List.mem_append,List.mem_flatMap];exact .inr (.inr (.inr ⟨o,ho,hx⟩)))
      ·rcases ho with ho | ho
       ·subst ho
        exact absurd hx (cuto_b n x)
       ·cases ho
    ·simp only[if_neg (show ¬(0≤(n:Int)∧(n:Int)≤(f.N:Int)) by omega)]
     exact Cut_high D.d f.g f.N s n (by omega) _ _ w (Below.refl _ _) hb0 Dw.step hc1 hsz
end Wi
end Rg
end Go.Proofs.YtmcpagjhpfbpgaaGreatDoor
end
section
/-
 DERIVED: THE SHELF's CONTRACTS AT THIS DUMP,IN PLAIN WORDS (tools/lay-plain.mjs out of 'YtmcpagjhpfbpgaaGreatDoorShelf.lean',which tools/lay-shelf.mjs wrote): THE SAME DECLARATIONS UNDER THE SAME NAMES: 'import','namespace','open','def','theorem' AND NOTHING ELSE: no command of the shelf's: FOR A HAND-IN. Each laying: the table of numbers ('.._ren') and one theorem,a field a fact of the dump's own or the kernel's comparison;each contract: ONE APPLICATION.
-/
namespace Go.Proofs
open Go.Shelf
def Tryz.laysM316_ren:Go.Shelf.Ren:=⟨fun | 316=>118 | n=>n,fun | 9=>9 | 3=>3 | 4=>4 | 37=>40 | 0=>0 | 127=>214 | 5=>5 | n=>n,fun | n=>n⟩
theorem Tryz.laysM316:Go.Proofs.LaysM.n316 Tryz.prog Tryz.laysM316_ren:={
 mixed:=by kernel_rfl
 f316:=Tryz.func118.trans (congrArg some (by kernel_rfl))
 t0:=Tryz.underlying0
 a0:=Tryz.isAgg0
 z0:=Tryz.sizeOf0
 v0:=Tryz.zeroValue0
 t3:=Tryz.underlying3
 a3:=Tryz.isAgg3
 z3:=Tryz.sizeOf3
 v3:=Tryz.zeroValue3
 t4:=Tryz.underlying4
 a4:=Tryz.isAgg4
 z4:=Tryz.sizeOf4
 v4:=Tryz.zeroValue4
 t9:=Tryz.underlying9
 a9:=Tryz.isAgg9
 z9:=Tryz.sizeOf9
 v9:=Tryz.zeroValue9
 t37:=Tryz.underlying40
 a37:=Tryz.isAgg40
 z37:=Tryz.sizeOf40
 v37:=Tryz.zeroValue40
 t127:=Tryz.underlying214
 a127:=Tryz.isAgg214
 z127:=Tryz.sizeOf214
 v127:=Tryz.zeroValue214
 t5:=Tryz.underlying5
 a5:=Tryz.isAgg5
 z5:=Tryz.sizeOf5
 v5:=Tryz.zeroValue5
 i0:=by kernel_rfl
 i3:=by kernel_rfl
 i4:=by kernel_rfl
 i5:=by kernel_rfl
 i9:=by kernel_rfl
 i37:=by kernel_rfl
 i127:=by kernel_rfl }
end Go.Proofs
end
section
namespace Go.Proofs.YtmcpagjhpfbpgaaGreatDoor
open Go.RowKit
namespace Rg
namespace Wi
theorem call57:CO 57:=by intro args w;go_simp
theorem call118:CO 118:=by intro args w;go_simp
set_option maxRecDepth 100000
theorem lite_any (s:ByteArray) (hs:s.size≤281474976710656) (w:World):Calls Tryz.prog 118 #[.string s] w (Rt w (.string s)):=Any.stringslite_Clone Tryz.laysM316 s w hs
theorem sclone_any (s:ByteArray) (hs:s.size≤281474976710656) (w:World) :
  Calls Tryz.prog 57 #[.string s] w (Rt w (.string s)):=by
 have H0:Hid (_∧_):=⟨Mm.nil w,Below.refl w.heap.size w⟩
 go_enter Tryz.func57,Tryz.ntmps57
 refine wp_seq ?_
 refine zG (l:=[0]) rfl (fun u0 hu0 => ?_)
 have H1:Hid (Mm u0 []∧Below w.heap.size w u0):=by rw[hu0];exact H0
 clear hu0 H0
 refine zA (d:=2) (v:=.string ⟨#[]⟩) (w':=u0) rfl rfl rfl rfl ?_
 simp only[Act.put,sa,sz,ss]
 refine zC (zB (wp_seq ?_))
 refine zD (l:=[0,1,2]) rfl ?_
 refine zA (d:=3) (v:=.string s) (w':=u0) rfl rfl rfl rfl ?_
 simp only[Act.put,sa,sz,ss]
 refine zE (d:=4) (R:=fun vv w'=>vv=.string s∧Below u0.heap.size u0 w') rfl rfl rfl (zF (args:=#[.string s]) rfl call118 rfl (mpn rfl)) (Calls.mono (lite_any s hs u0) (fun e w2 hh=>⟨_,hh.1,rfl,hh.2⟩)) ?_
 rintro _ w2 ⟨rfl,hb⟩
 have H2:Hid (Mm w2 []∧Below w.heap.size w w2):=⟨H1.out.1.below hb,H1.out.2.trans (hb.mono H1.out.2.size)⟩
 clear hb
 clear H1
 simp only[Act.put,sa,sz,ss]
 refine zA (d:=2) (v:=.string s) (w':=w2) rfl rfl rfl rfl ?_
 simp only[Act.put,sa,sz,ss]
 refine zC (zB (wp_ret ?_))
 repeat (first | refine zI ?_ | refine zH ?_)
 refine bodyPost_ret (v:=.string s) (by simp[results,Tryz.results57,go_sem, *]) rfl ?_
 exact⟨rfl,H2.out.2⟩
theorem ex_mup {ρ:Operand→Value} {o:Oper} {x y z:Operand} {t:TypeId} {a k v:Value} {w w2:World} (hr:(Instr.mapUpdate t a k v).run Tryz.prog w=.ok () w2) (ho:o.op=.mapUpdate t x y z) (hx:ρ x=a) (hy:ρ y=k) (hz:ρ z=v):(execOp ρ o).run Tryz.prog w=.ok .skip w2:=by
 simp only[execOp,ho,hx,hy,hz,Sem.run_bind,hr,Result.andThen_ok,Sem.run_pure]
theorem put_any (d mb rb g:Nat) (k:Int) (s:ByteArray) (hs:s.size≤281474976710656) (I1:World→Prop) (w:World) (hm:Mm w [(d,[Value.map (some mb),Value.map (some rb),Value.int .i64 k])]) (s1z:∀ u u',I1 u→Below u.heap.size u u'→I1 u') (hupz:∀ u,Below w.heap.size w u→∃ u',(Instr.mapUpdate 59 (.map (some mb)) (.string s) (PT g 0)).run Tryz.prog u=.ok () u'∧I1 u') :
  Calls Tryz.prog 92 #[PT d 0,.string s,PT g 0] w fun e w'=>e=.returned (.tuple #[])∧I1 w':=by
 have H0:Hid (_∧_):=⟨hm,Below.refl w.heap.size w⟩
 clear hm
 have s1:Hid _:=s1z
 have hup:Hid _:=hupz
 clear s1z hupz
 go_enter Tryz.func92,Tryz.ntmps92
 refine walk_anyB 7 [.q (PT d 0),.q (PT d 0),.q (PT d 0),.q (.map (some mb)),.q (.string s),.call (.string s),.q (PT g 0)] H0 ?ho1 ?he1
 case ho1=>exact ar (ag (ag (bC 0 Ai59 (ar (ac (fun w' h=>eC call57 (sclone_any s hs w')) (ar trivial))))))
 intro _ w1 H1
 refine rest_at (l:=[7]) rfl ?_
 obtain⟨w9,hr9,hI9⟩:=hup.out w1 H1.out.2
 refine zM rfl rfl rfl (ex_mup hr9 rfl rfl rfl rfl) ?_
 have H2:Hid (Mm w9 []∧I1 w9):=⟨Mm.nil _,hI9⟩
 clear hr9 hI9 H1
 refine zC ?_
 refine bodyPost_end (v:=.tuple #[]) (by simp[results,Tryz.results92,go_sem]) rfl ?_
 exact⟨rfl,H2.out.2⟩
end Wi
end Rg
end Go.Proofs.YtmcpagjhpfbpgaaGreatDoor
end
section
namespace Go.Proofs.YtmcpagjhpfbpgaaGreatDoor
open Go.RowKit
namespace Rg
namespace Wi
set_option maxRecDepth 100000
theorem ownMap_tight {w:World} {k:TypeId} {R:Value→Option (DataW Nat×List MemPlace)} {b n:Nat} {D:DataW Nat} (h:w.ownsMap Tryz.prog k R b n D):w.ownsMap Tryz.prog k R b (Maps.size D) D:=by
 obtain⟨es,clock,h1,h2,h3,rfl⟩:=h
 exact⟨es,clock,h1,h2,by simp[Maps.size,length_sorted],rfl⟩
theorem ky_inj {s t:ByteArray} (h:ky s=ky t):s=t:=by
 unfold ky at h
 injection h with h
 exact ByteArray.ext (Array.toList_inj.1 h)
theorem ky_lit (s:ByteArray):WideAt.IsKeyLit (ky s):=by
 first | exact trivial | exact rfl | (unfold ky;simp[WideAt.IsKeyLit])
theorem DOk.mupd {w u:World} {D:Dq} (h:DOk w D) (s:ByteArray) (hs:s.size≤maxLen) (g:Nat) (hu:u.heap[D.mb]?=w.heap[D.mb]?):∃ u' X,(Instr.mapUpdate 59 (.map (some D.mb)) (.string s) (PT g 0)).run Tryz.prog u=.ok () u'∧u.grownBy u' (some D.mb)∧u'.ownsMap Tryz.prog 9 RF D.mb (Maps.size X) X∧(∀ t,X.atKey (ky t) .nil=if t=s then .held g else dv (lk D.fs t))∧(∀ t,Maps.has X (ky t)=(decide (t=s) || (lk D.fs t).isSome))∧Maps.size X=(if (lk D.fs s).isSome then D.fs.length else D.fs.length+1):=by
 obtain⟨X,x1,x2,x3,x4⟩:=h.mp
 have hn:=h.n64
 have y1:=zQ x1 hu
 obtain⟨u',hr,hm,hg⟩:=y1.update (Maps.string_keyed Tryz.underlying9) Tryz.underlying59 (by unfold maxLen;omega) (WideMaps.keyOf_string_mk Tryz.underlying9 hs) (show RF (PT g 0)=some (.held g,[]) from rfl)
 refine⟨u',X.put (ky s) (.held g),hr,hg,ownMap_tight hm,fun t => ?_,fun t => ?_,?_⟩
 ·by_cases e:t=s
  ·subst e
   rw[if_pos rfl]
   exact Maps.atKey_put_same y1.isMap (ky_lit t) _ _
  ·rw[if_neg e,Maps.atKey_put_other (fun e2=>e (ky_inj e2)),x2 t]
 ·by_cases e:t=s
  ·subst e
   rw[Maps.has_put_same y1.isMap (ky_lit t)]
   simp
  ·rw[Maps.has_put_other (fun e2=>e (ky_inj e2)),x3 t,decide_eq_false e,Bool.false_or]
 ·rw[Maps.size_put (y1.tidy (Maps.string_keyed Tryz.underlying9)),x3 s,x4]
end Wi
end Rg
end Go.Proofs.YtmcpagjhpfbpgaaGreatDoor
end
section
namespace Go.Proofs.YtmcpagjhpfbpgaaGreatDoor
open Go.RowKit
namespace Rg
namespace Wi
set_option maxRecDepth 100000
theorem DOk.putSame {w:World} {D:Dq} {f:Fq} {s:ByteArray} (h:DOk w D) (hs:s.size≤maxLen) (hl:lk D.fs s=some f):∃ u',(Instr.mapUpdate 59 (.map (some D.mb)) (.string s) (PT f.g 0)).run Tryz.prog w=.ok () u'∧DOk u' D∧Chg [D.mb] w u':=by
 obtain⟨u',X,hr,hg,x1,x2,x3,x4⟩:=h.mupd s hs f.g rfl
 have hc:Chg [D.mb] w u':=Chg.grown hg
 obtain⟨n,Y,y1,y2⟩:=h.rm
 rw[hl] at x4
 have x5:Maps.size X=D.fs.length:=x4
 refine⟨u',hr,⟨hc.mm h.cel (fun p hp hm => ?_),⟨X,x5 ▸ x1,fun t => ?_,fun t => ?_,x5⟩,⟨n,Y,zQ y1 (hc.block _ y1.lt (fun hm=>h.h3.2.2 (List.mem_singleton.1 hm).symm)),y2⟩,fun y hy=>(h.fl y hy).chg hc (fun x hx hm=>((h.hd y hy) x hx).2.1 (List.mem_singleton.1 hm)),h.ap,h.hd,h.h3,h.un,h.k1,h.n64⟩,hc⟩
 ·obtain rfl:=List.mem_singleton.1 hp
  exact h.h3.1 (List.mem_singleton.1 hm)
 ·rw[x2 t]
  by_cases e:t=s
  ·rw[if_pos e,e,hl];rfl
  ·rw[if_neg e]
 ·rw[x3 t]
  by_cases e:t=s
  ·rw[decide_eq_true e,Bool.true_or,e,hl];rfl
  ·rw[decide_eq_false e,Bool.false_or]
def Dq.add (D:Dq) (f:Fq):Dq:=⟨D.d,D.mb,D.rb,D.k,D.fs++[f],D.rf⟩
theorem Dq.add_bl {D:Dq} {f:Fq} {x:Nat} (hx:x∈(D.add f).bl):x∈D.bl∨x∈f.bl:=by
 unfold Dq.bl Dq.add at hx
 simp only[List.mem_cons,List.mem_flatMap,List.mem_append] at hx
 rcases hx with e | e | e | ⟨y,hy | hy,e⟩
 ·exact .inl (by unfold Dq.bl;simp[e])
 ·exact .inl (by unfold Dq.bl;simp[e])
 ·exact .inl (by unfold Dq.bl;simp[e])
 ·exact .inl (Dq.fbl hy x e)
 ·rcases hy with hy | hy
  ·subst hy;exact .inr e
  ·cases hy
theorem lk_add (fs:List Fq) (f:Fq) (t:ByteArray):lk (fs++[f]) t=(lk fs t).or (if f.nm=t then some f else none):=by
 unfold lk
 rw[List.find?_append]
 congr 1
 by_cases e:f.nm=t
 ·rw[if_pos e]
  simp[e]
 ·rw[if_neg e]
  simp[e]
theorem lk_none {fs:List Fq} {s:ByteArray} (h:lk fs s=none):∀ f∈fs,f.nm≠s:=fun f hf e=>by
 unfold lk at h
 have:=List.find?_eq_none.1 h f hf
 exact this (by rw[e];simp)
theorem DOk.putNew {w:World} {D:Dq} {f:Fq} (h:DOk w D) (hs:f.nm.size≤maxLen) (hl:lk D.fs f.nm=none) (hF:FOk w f) (hlt:D.fs.length<64) (ha:∀ x∈f.bl,x∉D.bl):∃ u',(Instr.mapUpdate 59 (.map (some D.mb)) (.string f.nm) (PT f.g 0)).run Tryz.prog w=.ok () u'∧DOk u' (D.add f)∧Chg [D.mb] w u':=by
 obtain⟨u',X,hr,hg,x1,x2,x3,x4⟩:=h.mupd f.nm hs f.g rfl
 have hc:Chg [D.mb] w u':=Chg.grown hg
 obtain⟨n,Y,y1,y2⟩:=h.rm
 rw[hl] at x4
 have x5:Maps.size X=(D.fs++[f]).length:=by rw[List.length_append];exact x4
 have hmb:D.mb∈D.bl:=by unfold Dq.bl;simp
 have hab:∀ y∈D.fs,∀ x∈y.bl,x∉f.bl:=fun y hy x hx hm=>ha x hm (Dq.fbl hy x hx)
 have key:∀ y∈D.fs++[f],y∈D.fs∨y=f:=fun y hy=>(List.mem_append.1 hy).imp_right List.mem_singleton.1
 refine⟨u',hr,⟨hc.mm h.cel (fun p hp hm => ?_),⟨X,x5 ▸ x1,fun t => ?_,fun t => ?_,x5⟩,⟨n,Y,zQ y1 (hc.block _ y1.lt (fun hm=>h.h3.2.2 (List.mem_singleton.1 hm).symm)),y2⟩,fun y hy => ?_,fun y hy z hz hne x hx => ?_,fun y hy x hx => ?_,h.h3,?_,h.k1,?_⟩,hc⟩
 ·obtain rfl:=List.mem_singleton.1 hp
  exact h.h3.1 (List.mem_singleton.1 hm)
 ·show X.atKey (ky t) .nil=dv (lk (D.fs++[f]) t)
  rw[x2 t,lk_add]
  by_cases e:t=f.nm
  ·rw[if_pos e,e,hl,if_pos rfl];rfl
  ·rw[if_neg e,if_neg (fun e2=>e e2.symm),Option.or_none]
 ·show Maps.has X (ky t)=(lk (D.fs++[f]) t).isSome
  rw[x3 t,lk_add]
  by_cases e:t=f.nm
  ·rw[decide_eq_true e,Bool.true_or,e,hl,if_pos rfl];rfl
  ·rw[decide_eq_false e,Bool.false_or,if_neg (fun e2=>e e2.symm),Option.or_none]
 ·rcases key y hy with e | e
  ·exact(h.fl y e).chg hc (fun x hx hm=>((h.hd y e) x hx).2.1 (List.mem_singleton.1 hm))
  ·subst e
   exact hF.chg hc (fun x hx hm=>ha x hx (by rw[List.mem_singleton.1 hm];exact hmb))
 ·rcases key y hy with e | e <;> rcases key z hz with e2 | e2
  ·exact h.ap y e z e2 hne x hx
  ·subst e2;exact hab y e x hx
  ·subst e;exact fun hm=>hab z e2 x hm hx
  ·subst e;subst e2;exact absurd rfl hne
 ·rcases key y hy with e | e
  ·exact(h.hd y e) x hx
  ·subst e
   have:=ha x hx
   unfold Dq.bl at this
   simp only[List.mem_cons,not_or] at this
   exact⟨this.1,this.2.1,this.2.2.1⟩
 ·show ((D.fs++[f]).map Fq.nm).Nodup
  rw[List.map_append,List.nodup_append]
  refine⟨h.un,(by simp),fun a ha2 c hc2 e => ?_⟩
  obtain⟨y,hy,rfl⟩:=List.mem_map.1 ha2
  have:c=f.nm:=by simpa using hc2
  exact lk_none hl y hy (e.trans this)
 ·show (D.fs++[f]).length≤64
  rw[List.length_append]
  exact hlt
end Wi
end Rg
end Go.Proofs.YtmcpagjhpfbpgaaGreatDoor
end
section
namespace Go.Proofs.YtmcpagjhpfbpgaaGreatDoor
open Go.RowKit
namespace Rg
namespace Wi
theorem call88:CO 88:=by intro args w;go_simp
theorem call91:CO 91:=by intro args w;go_simp
theorem call92:CO 92:=by intro args w;go_simp
set_option maxRecDepth 100000
theorem ex_lnm {ρ:Operand→Value} {o:Oper} {x:Operand} {a v:Value} {w:World} (hr:∀ ty,(Builtin.len_ #[59] ty #[a]).run Tryz.prog w=.ok v w) (ho:o.op=.call { callee:=.builtin .len,args:=#[x],argTypes:=#[59] }) (hx:ρ x=a):(execOp ρ o).run Tryz.prog w=.ok (.value v) w:=by
 unfold execOp
 simp only[ho,resolve,invoke,builtin,Sem.run_bind,Sem.run_pure,Result.andThen_ok,List.map_toArray,List.map_cons,List.map_nil,hx,hr]
theorem Append_no (d:Nat) (s:ByteArray) (q:Pt8)  (I0:World→Prop) (I1:World→Prop) (w:World) (h0:I0 w) (s0z:∀ u u',I0 u→Below u.heap.size u u'→I0 u') (s1z:∀ u u',I1 u→Below u.heap.size u u'→I1 u') (hcoz:∀ u,I0 u→Calls Tryz.prog 87 #[PT d 0] u fun e u'=>e=.returned (.int .i64 13)∧I1 u') :
  Calls Tryz.prog 35 #[PT d 0,.string s,.slice q.p q.n q.cp] w fun e w'=>e=.returned (.int .i64 13)∧I1 w':=by
 have H0:Hid (_∧_):=⟨Mm.nil w,h0⟩
 have s0:Hid _:=s0z
 have s1:Hid _:=s1z
 have hco:Hid _:=hcoz
 clear h0 s0z s1z hcoz
 go_enter Tryz.func35,Tryz.ntmps35
 refine wp_seq ?_
 refine zG (l:=[0]) rfl (fun u0 hu0 => ?_)
 have H1:Hid (Mm u0 []∧I0 u0):=by rw[hu0];exact H0
 clear hu0 H0
 refine zA (d:=6) (v:=.int .i64 0) (w':=u0) rfl rfl rfl rfl ?_
 simp only[Act.put,sa,sz,ss]
 refine zC (zB ?_)
 refine wp_seq (wp_seq ?_)
 refine zD (l:=[0,1,2]) rfl ?_
 refine zA (d:=9) (v:=PT d 0) (w':=u0) rfl rfl rfl rfl ?_
 simp only[Act.put,sa,sz,ss]
 refine zE (d:=10) (R:=fun vv w'=>vv=.int .i64 13∧I1 w') rfl rfl rfl (zF (args:=#[PT d 0]) rfl call87 rfl (mpn rfl)) (Calls.mono (hco.out u0 H1.out.2) (fun e w2 hh=>⟨_,hh.1,rfl,hh.2⟩)) ?_
 rintro _ w2 ⟨rfl,hI⟩
 have H2:Hid (Mm w2 []∧I1 w2):=⟨Mm.nil _,hI⟩
 clear hI H1
 simp only[Act.put,sa,sz,ss]
 refine zA (d:=7) (v:=.int .i64 13) (w':=w2) rfl rfl rfl rfl ?_
 simp only[Act.put,sa,sz,ss]
 refine zC (zB (wp_seq ?_))
 refine zD (l:=[0,1]) rfl ?_
 refine zA (d:=11) (v:=.int .i64 13) (w':=w2) rfl rfl rfl rfl ?_
 simp only[Act.put,sa,sz,ss]
 refine zA (d:=12) (v:=.bool true) (w':=w2) rfl rfl rfl (by kernel_rfl) ?_
 simp only[Act.put,sa,sz,ss]
 refine zC (zB ?_)
 refine wp_cond_true rfl (wp_seq ?_)
 refine zD (l:=[0,1]) rfl ?_
 refine zA (d:=13) (v:=.int .i64 13) (w':=w2) rfl rfl rfl rfl ?_
 simp only[Act.put,sa,sz,ss]
 refine zA (d:=6) (v:=.int .i64 13) (w':=w2) rfl rfl rfl rfl ?_
 simp only[Act.put,sa,sz,ss]
 refine zC (zB (wp_ret ?_))
 repeat (first | refine zI ?_ | refine zH ?_)
 refine bodyPost_ret (v:=.int .i64 13) (by simp[results,Tryz.results35,go_sem, *]) rfl ?_
 exact⟨rfl,H2.out.2⟩
theorem Append_bad (d:Nat) (s:ByteArray) (q:Pt8)  (I0:World→Prop) (I1:World→Prop) (w:World) (h0:I0 w) (s0z:∀ u u',I0 u→Below u.heap.size u u'→I0 u') (s1z:∀ u u',I1 u→Below u.heap.size u u'→I1 u') (hcoz:∀ u,I0 u→Calls Tryz.prog 87 #[PT d 0] u fun e u'=>e=.returned (.int .i64 0)∧I1 u') (hnmz:∀ u,I1 u→Calls Tryz.prog 88 #[.string s] u fun e u'=>e=.returned (.bool false)∧Below u.heap.size u u') :
  Calls Tryz.prog 35 #[PT d 0,.string s,.slice q.p q.n q.cp] w fun e w'=>e=.returned (.int .i64 2)∧I1 w':=by
 have H0:Hid (_∧_):=⟨Mm.nil w,h0⟩
 have s0:Hid _:=s0z
 have s1:Hid _:=s1z
 have hco:Hid _:=hcoz
 have hnm:Hid _:=hnmz
 clear h0 s0z s1z hcoz hnmz
 go_enter Tryz.func35,Tryz.ntmps35
 refine wp_seq ?_
 refine zG (l:=[0]) rfl (fun u0 hu0 => ?_)
 have H1:Hid (Mm u0 []∧I0 u0):=by rw[hu0];exact H0
 clear hu0 H0
 refine zA (d:=6) (v:=.int .i64 0) (w':=u0) rfl rfl rfl rfl ?_
 simp only[Act.put,sa,sz,ss]
 refine zC (zB ?_)
 refine wp_seq (wp_seq ?_)
 refine zD (l:=[0,1,2]) rfl ?_
 refine zA (d:=9) (v:=PT d 0) (w':=u0) rfl rfl rfl rfl ?_
 simp only[Act.put,sa,sz,ss]
 refine zE (d:=10) (R:=fun vv w'=>vv=.int .i64 0∧I1 w') rfl rfl rfl (zF (args:=#[PT d 0]) rfl call87 rfl (mpn rfl)) (Calls.mono (hco.out u0 H1.out.2) (fun e w2 hh=>⟨_,hh.1,rfl,hh.2⟩)) ?_
 rintro _ w2 ⟨rfl,hI⟩
 have H2:Hid (Mm w2 []∧I1 w2):=⟨Mm.nil _,hI⟩
 clear hI H1
 simp only[Act.put,sa,sz,ss]
 refine zA (d:=7) (v:=.int .i64 0) (w':=w2) rfl rfl rfl rfl ?_
 simp only[Act.put,sa,sz,ss]
 refine zC (zB (wp_seq ?_))
 refine zD (l:=[0,1]) rfl ?_
 refine zA (d:=11) (v:=.int .i64 0) (w':=w2) rfl rfl rfl rfl ?_
 simp only[Act.put,sa,sz,ss]
 refine zA (d:=12) (v:=.bool false) (w':=w2) rfl rfl rfl (by kernel_rfl) ?_
 simp only[Act.put,sa,sz,ss]
 refine zC (zB ?_)
 refine wp_cond_false rfl (wp_skip ?_)
 refine zB (wp_seq (wp_seq ?_))
 refine zD (l:=[0,1,2]) rfl ?_
 refine zA (d:=14) (v:=.string s) (w':=w2) rfl rfl rfl rfl ?_
 simp only[Act.put,sa,sz,ss]
 refine zE (d:=15) (R:=fun vv w'=>vv=.bool false∧Below w2.heap.size w2 w') rfl rfl rfl (zF (args:=#[.string s]) rfl call88 rfl (mpn rfl)) (Calls.mono (hnm.out w2 H2.out.2) (fun e w2 hh=>⟨_,hh.1,rfl,hh.2⟩)) ?_
 rintro _ w3 ⟨rfl,hb⟩
 have H3:Hid (Mm w3 []∧I1 w3):=⟨H2.out.1.below hb,s1.out _ _ H2.out.2 (hb)⟩
 clear hb
 clear H2
 simp only[Act.put,sa,sz,ss]
 refine zA (d:=16) (v:=.bool true) (w':=w3) rfl rfl rfl (by go_simp) ?_
 simp only[Act.put,sa,sz,ss]
 refine zC (zB ?_)
 refine wp_cond_true rfl (wp_seq ?_)
 refine zD (l:=[0]) rfl ?_
 refine zA (d:=6) (v:=.int .i64 2) (w':=w3) rfl rfl rfl rfl ?_
 simp only[Act.put,sa,sz,ss]
 refine zC (zB (wp_ret ?_))
 repeat (first | refine zI ?_ | refine zH ?_)
 refine bodyPost_ret (v:=.int .i64 2) (by simp[results,Tryz.results35,go_sem, *]) rfl ?_
 exact⟨rfl,H3.out.2⟩
theorem Append_long (d:Nat) (s:ByteArray) (q:Pt8) (mb rb g N:Nat) (kk:Int) (hN:N≤1048576) (hq:q.n≤281474976710656) (hL:1048576<N+q.n) (I0:World→Prop) (I1:World→Prop) (w:World) (h0:I0 w) (s0z:∀ u u',I0 u→Below u.heap.size u u'→I0 u') (s1z:∀ u u',I1 u→Below u.heap.size u u'→I1 u') (hcoz:∀ u,I0 u→Calls Tryz.prog 87 #[PT d 0] u fun e u'=>e=.returned (.int .i64 0)∧I1 u') (hnmz:∀ u,I1 u→Calls Tryz.prog 88 #[.string s] u fun e u'=>e=.returned (.bool true)∧Below u.heap.size u u') (hmdz:∀ u,I1 u→Mm u [(d,[Value.map (some mb),Value.map (some rb),Value.int .i64 kk])]) (hlkz:∀ u,I1 u→(Instr.lookup 59 (.map (some mb)) (.string s) false).run Tryz.prog u=.ok (PT g 0) u) (hszz:∀ u,I1 u→Calls Tryz.prog 89 #[PT g 0] u fun e u'=>e=.returned (.int .i64 ((N:Nat):Int))∧Below u.heap.size u u') :
  Calls Tryz.prog 35 #[PT d 0,.string s,.slice q.p q.n q.cp] w fun e w'=>e=.returned (.int .i64 3)∧I1 w':=by
 have H0:Hid (_∧_):=⟨Mm.nil w,h0⟩
 have s0:Hid _:=s0z
 have s1:Hid _:=s1z
 have hco:Hid _:=hcoz
 have hnm:Hid _:=hnmz
 have hmd:Hid _:=hmdz
 have hlk:Hid _:=hlkz
 have hsz:Hid _:=hszz
 clear h0 s0z s1z hcoz hnmz hmdz hlkz hszz
 go_enter Tryz.func35,Tryz.ntmps35
 refine wp_seq ?_
 refine zG (l:=[0]) rfl (fun u0 hu0 => ?_)
 have H1:Hid (Mm u0 []∧I0 u0):=by rw[hu0];exact H0
 clear hu0 H0
 refine zA (d:=6) (v:=.int .i64 0) (w':=u0) rfl rfl rfl rfl ?_
 simp only[Act.put,sa,sz,ss]
 refine zC (zB ?_)
 refine wp_seq (wp_seq ?_)
 refine zD (l:=[0,1,2]) rfl ?_
 refine zA (d:=9) (v:=PT d 0) (w':=u0) rfl rfl rfl rfl ?_
 simp only[Act.put,sa,sz,ss]
 refine zE (d:=10) (R:=fun vv w'=>vv=.int .i64 0∧I1 w') rfl rfl rfl (zF (args:=#[PT d 0]) rfl call87 rfl (mpn rfl)) (Calls.mono (hco.out u0 H1.out.2) (fun e w2 hh=>⟨_,hh.1,rfl,hh.2⟩)) ?_
 rintro _ w2 ⟨rfl,hI⟩
 have H2:Hid (Mm w2 []∧I1 w2):=⟨Mm.nil _,hI⟩
 clear hI H1
 simp only[Act.put,sa,sz,ss]
 refine zA (d:=7) (v:=.int .i64 0) (w':=w2) rfl rfl rfl rfl ?_
 simp only[Act.put,sa,sz,ss]
 refine zC (zB (wp_seq ?_))
 refine zD (l:=[0,1]) rfl ?_
 refine zA (d:=11) (v:=.int .i64 0) (w':=w2) rfl rfl rfl rfl ?_
 simp only[Act.put,sa,sz,ss]
 refine zA (d:=12) (v:=.bool false) (w':=w2) rfl rfl rfl (by kernel_rfl) ?_
 simp only[Act.put,sa,sz,ss]
 refine zC (zB ?_)
 refine wp_cond_false rfl (wp_skip ?_)
 refine zB (wp_seq (wp_seq ?_))
 refine zD (l:=[0,1,2]) rfl ?_
 refine zA (d:=14) (v:=.string s) (w':=w2) rfl rfl rfl rfl ?_
 simp only[Act.put,sa,sz,ss]
 refine zE (d:=15) (R:=fun vv w'=>vv=.bool true∧Below w2.heap.size w2 w') rfl rfl rfl (zF (args:=#[.string s]) rfl call88 rfl (mpn rfl)) (Calls.mono (hnm.out w2 H2.out.2) (fun e w2 hh=>⟨_,hh.1,rfl,hh.2⟩)) ?_
 rintro _ w3 ⟨rfl,hb⟩
 have H3:Hid (Mm w3 []∧I1 w3):=⟨H2.out.1.below hb,s1.out _ _ H2.out.2 (hb)⟩
 clear hb
 clear H2
 simp only[Act.put,sa,sz,ss]
 refine zA (d:=16) (v:=.bool false) (w':=w3) rfl rfl rfl (by go_simp) ?_
 simp only[Act.put,sa,sz,ss]
 refine zC (zB ?_)
 refine wp_cond_false rfl (wp_skip ?_)
 refine zB (wp_seq ?_)
 refine zD (l:=[0,1,2,3,4,5,6]) rfl ?_
 refine zA (d:=17) (v:=PT d 0) (w':=w3) rfl rfl rfl rfl ?_
 simp only[Act.put,sa,sz,ss]
 refine zA (d:=18) (v:=PT d 0) (w':=w3) rfl rfl rfl (by go_simp) ?_
 simp only[Act.put,sa,sz,ss]
 refine zA (d:=19) (v:=PT d 0) (w':=w3) rfl rfl rfl (by go_simp) ?_
 simp only[Act.put,sa,sz,ss]
 refine zA (d:=20) (v:=.map (some mb)) (w':=w3) rfl rfl rfl (zJ (hmd.out w3 H3.out.2) 0 rfl rfl rfl Ai59 rfl) ?_
 simp only[Act.put,sa,sz,ss]
 refine zA (d:=21) (v:=.string s) (w':=w3) rfl rfl rfl rfl ?_
 simp only[Act.put,sa,sz,ss]
 refine zA (d:=22) (v:=PT g 0) (w':=w3) rfl rfl rfl (ex_lkp (hlk.out w3 H3.out.2) rfl rfl rfl) ?_
 simp only[Act.put,sa,sz,ss]
 refine zA (d:=8) (v:=PT g 0) (w':=w3) rfl rfl rfl rfl ?_
 simp only[Act.put,sa,sz,ss]
 refine zC (zB ?_)
 refine wp_seq (wp_seq ?_)
 refine zD (l:=[0,1]) rfl ?_
 refine zA (d:=23) (v:=PT g 0) (w':=w3) rfl rfl rfl rfl ?_
 simp only[Act.put,sa,sz,ss]
 refine zA (d:=24) (v:=.bool false) (w':=w3) rfl rfl rfl (by go_simp) ?_
 simp only[Act.put,sa,sz,ss]
 refine zC (zB ?_)
 refine wp_cond_false rfl (wp_skip ?_)
 refine zB (wp_seq (wp_seq ?_))
 refine zD (l:=[0,1,2,3,4,5]) rfl ?_
 refine zA (d:=33) (v:=PT g 0) (w':=w3) rfl rfl rfl rfl ?_
 simp only[Act.put,sa,sz,ss]
 refine zE (d:=34) (R:=fun vv w'=>vv=.int .i64 ((N:Nat):Int)∧Below w3.heap.size w3 w') rfl rfl rfl (zF (args:=#[PT g 0]) rfl call89 rfl (mpn rfl)) (Calls.mono (hsz.out w3 H3.out.2) (fun e w2 hh=>⟨_,hh.1,rfl,hh.2⟩)) ?_
 rintro _ w4 ⟨rfl,hb⟩
 have H4:Hid (Mm w4 []∧I1 w4):=⟨H3.out.1.below hb,s1.out _ _ H3.out.2 (hb)⟩
 clear hb
 clear H3
 simp only[Act.put,sa,sz,ss]
 refine zA (d:=35) (v:=.slice q.p q.n q.cp) (w':=w4) rfl rfl rfl rfl ?_
 simp only[Act.put,sa,sz,ss]
 refine zA (d:=36) (v:=.int .i64 ((q.n:Nat):Int)) (w':=w4) rfl rfl rfl (by go_simp) ?_
 simp only[Act.put,sa,sz,ss]
 refine zA (d:=37) (v:=.int .i64 ((N+q.n:Nat):Int)) (w':=w4) rfl rfl rfl (by go_simp;rw[IntKind.wrap_i64];omega) ?_
 simp only[Act.put,sa,sz,ss]
 refine zA (d:=38) (v:=.bool true) (w':=w4) rfl rfl rfl (by go_simp <;> omega) ?_
 simp only[Act.put,sa,sz,ss]
 refine zC (zB ?_)
 refine wp_cond_true rfl (wp_seq ?_)
 refine zD (l:=[0]) rfl ?_
 refine zA (d:=6) (v:=.int .i64 3) (w':=w4) rfl rfl rfl rfl ?_
 simp only[Act.put,sa,sz,ss]
 refine zC (zB (wp_ret ?_))
 repeat (first | refine zI ?_ | refine zH ?_)
 refine bodyPost_ret (v:=.int .i64 3) (by simp[results,Tryz.results35,go_sem, *]) rfl ?_
 exact⟨rfl,H4.out.2⟩
theorem Append_hit (d:Nat) (s:ByteArray) (q:Pt8) (mb rb g N:Nat) (kk:Int) (hN:N≤1048576) (hq:q.n≤281474976710656) (hL:N+q.n≤1048576) (I0:World→Prop) (I1:World→Prop) (I2:Pt8→World→Prop) (I3:World→Prop) (I4:World→Prop) (w:World) (h0:I0 w) (s0z:∀ u u',I0 u→Below u.heap.size u u'→I0 u') (s1z:∀ u u',I1 u→Below u.heap.size u u'→I1 u') (s2z:∀ q2 u u',I2 q2 u→Below u.heap.size u u'→I2 q2 u') (s3z:∀ u u',I3 u→Below u.heap.size u u'→I3 u') (s4z:∀ u u',I4 u→Below u.heap.size u u'→I4 u') (hcoz:∀ u,I0 u→Calls Tryz.prog 87 #[PT d 0] u fun e u'=>e=.returned (.int .i64 0)∧I1 u') (hnmz:∀ u,I1 u→Calls Tryz.prog 88 #[.string s] u fun e u'=>e=.returned (.bool true)∧Below u.heap.size u u') (hmdz:∀ u,I1 u→Mm u [(d,[Value.map (some mb),Value.map (some rb),Value.int .i64 kk])]) (hlkz:∀ u,I1 u→(Instr.lookup 59 (.map (some mb)) (.string s) false).run Tryz.prog u=.ok (PT g 0) u) (hszz:∀ u,I1 u→Calls Tryz.prog 89 #[PT g 0] u fun e u'=>e=.returned (.int .i64 ((N:Nat):Int))∧Below u.heap.size u u') (hclz:∀ u,I1 u→Calls Tryz.prog 91 #[.slice q.p q.n q.cp] u fun e u'=>∃ q2:Pt8,e=.returned (.slice q2.p q2.n q2.cp)∧I2 q2 u') (hbgz:∀ q2 u,I2 q2 u→Calls Tryz.prog 90 #[PT g 0,.agg ([.int .i64 ((N:Nat):Int),.slice q2.p q2.n q2.cp]:List Value).toArray] u fun e u'=>e=.returned (.tuple #[])∧I3 u') (hptz:∀ u,I3 u→Calls Tryz.prog 92 #[PT d 0,.string s,PT g 0] u fun e u'=>e=.returned (.tuple #[])∧I4 u') :
  Calls Tryz.prog 35 #[PT d 0,.string s,.slice q.p q.n q.cp] w fun e w'=>e=.returned (.int .i64 0)∧I4 w':=by
 have H0:Hid (_∧_):=⟨Mm.nil w,h0⟩
 have s0:Hid _:=s0z
 have s1:Hid _:=s1z
 have s2:Hid _:=s2z
 have s3:Hid _:=s3z
 have s4:Hid _:=s4z
 have hco:Hid _:=hcoz
 have hnm:Hid _:=hnmz
 have hmd:Hid _:=hmdz
 have hlk:Hid _:=hlkz
 have hsz:Hid _:=hszz
 have hcl:Hid _:=hclz
 have hbg:Hid _:=hbgz
 have hpt:Hid _:=hptz
 clear h0 s0z s1z s2z s3z s4z hcoz hnmz hmdz hlkz hszz hclz hbgz hptz
 go_enter Tryz.func35,Tryz.ntmps35
 refine wp_seq ?_
 refine zG (l:=[0]) rfl (fun u0 hu0 => ?_)
 have H1:Hid (Mm u0 []∧I0 u0):=by rw[hu0];exact H0
 clear hu0 H0
 refine zA (d:=6) (v:=.int .i64 0) (w':=u0) rfl rfl rfl rfl ?_
 simp only[Act.put,sa,sz,ss]
 refine zC (zB ?_)
 refine wp_seq (wp_seq ?_)
 refine zD (l:=[0,1,2]) rfl ?_
 refine zA (d:=9) (v:=PT d 0) (w':=u0) rfl rfl rfl rfl ?_
 simp only[Act.put,sa,sz,ss]
 refine zE (d:=10) (R:=fun vv w'=>vv=.int .i64 0∧I1 w') rfl rfl rfl (zF (args:=#[PT d 0]) rfl call87 rfl (mpn rfl)) (Calls.mono (hco.out u0 H1.out.2) (fun e w2 hh=>⟨_,hh.1,rfl,hh.2⟩)) ?_
 rintro _ w2 ⟨rfl,hI⟩
 have H2:Hid (Mm w2 []∧I1 w2):=⟨Mm.nil _,hI⟩
 clear hI H1
 simp only[Act.put,sa,sz,ss]
 refine zA (d:=7) (v:=.int .i64 0) (w':=w2) rfl rfl rfl rfl ?_
 simp only[Act.put,sa,sz,ss]
 refine zC (zB (wp_seq ?_))
 refine zD (l:=[0,1]) rfl ?_
 refine zA (d:=11) (v:=.int .i64 0) (w':=w2) rfl rfl rfl rfl ?_
 simp only[Act.put,sa,sz,ss]
 refine zA (d:=12) (v:=.bool false) (w':=w2) rfl rfl rfl (by kernel_rfl) ?_
 simp only[Act.put,sa,sz,ss]
 refine zC (zB ?_)
 refine wp_cond_false rfl (wp_skip ?_)
 refine zB (wp_seq (wp_seq ?_))
 refine zD (l:=[0,1,2]) rfl ?_
 refine zA (d:=14) (v:=.string s) (w':=w2) rfl rfl rfl rfl ?_
 simp only[Act.put,sa,sz,ss]
 refine zE (d:=15) (R:=fun vv w'=>vv=.bool true∧Below w2.heap.size w2 w') rfl rfl rfl (zF (args:=#[.string s]) rfl call88 rfl (mpn rfl)) (Calls.mono (hnm.out w2 H2.out.2) (fun e w2 hh=>⟨_,hh.1,rfl,hh.2⟩)) ?_
 rintro _ w3 ⟨rfl,hb⟩
 have H3:Hid (Mm w3 []∧I1 w3):=⟨H2.out.1.below hb,s1.out _ _ H2.out.2 (hb)⟩
 clear hb
 clear H2
 simp only[Act.put,sa,sz,ss]
 refine zA (d:=16) (v:=.bool false) (w':=w3) rfl rfl rfl (by go_simp) ?_
 simp only[Act.put,sa,sz,ss]
 refine zC (zB ?_)
 refine wp_cond_false rfl (wp_skip ?_)
 refine zB (wp_seq ?_)
 refine zD (l:=[0,1,2,3,4,5,6]) rfl ?_
 refine zA (d:=17) (v:=PT d 0) (w':=w3) rfl rfl rfl rfl ?_
 simp only[Act.put,sa,sz,ss]
 refine zA (d:=18) (v:=PT d 0) (w':=w3) rfl rfl rfl (by go_simp) ?_
 simp only[Act.put,sa,sz,ss]
 refine zA (d:=19) (v:=PT d 0) (w':=w3) rfl rfl rfl (by go_simp) ?_
 simp only[Act.put,sa,sz,ss]
 refine zA (d:=20) (v:=.map (some mb)) (w':=w3) rfl rfl rfl (zJ (hmd.out w3 H3.out.2) 0 rfl rfl rfl Ai59 rfl) ?_
 simp only[Act.put,sa,sz,ss]
 refine zA (d:=21) (v:=.string s) (w':=w3) rfl rfl rfl rfl ?_
 simp only[Act.put,sa,sz,ss]
 refine zA (d:=22) (v:=PT g 0) (w':=w3) rfl rfl rfl (ex_lkp (hlk.out w3 H3.out.2) rfl rfl rfl) ?_
 simp only[Act.put,sa,sz,ss]
 refine zA (d:=8) (v:=PT g 0) (w':=w3) rfl rfl rfl rfl ?_
 simp only[Act.put,sa,sz,ss]
 refine zC (zB ?_)
 refine wp_seq (wp_seq ?_)
 refine zD (l:=[0,1]) rfl ?_
 refine zA (d:=23) (v:=PT g 0) (w':=w3) rfl rfl rfl rfl ?_
 simp only[Act.put,sa,sz,ss]
 refine zA (d:=24) (v:=.bool false) (w':=w3) rfl rfl rfl (by go_simp) ?_
 simp only[Act.put,sa,sz,ss]
 refine zC (zB ?_)
 refine wp_cond_false rfl (wp_skip ?_)
 refine zB (wp_seq (wp_seq ?_))
 refine zD (l:=[0,1,2,3,4,5]) rfl ?_
 refine zA (d:=33) (v:=PT g 0) (w':=w3) rfl rfl rfl rfl ?_
 simp only[Act.put,sa,sz,ss]
 refine zE (d:=34) (R:=fun vv w'=>vv=.int .i64 ((N:Nat):Int)∧Below w3.heap.size w3 w') rfl rfl rfl (zF (args:=#[PT g 0]) rfl call89 rfl (mpn rfl)) (Calls.mono (hsz.out w3 H3.out.2) (fun e w2 hh=>⟨_,hh.1,rfl,hh.2⟩)) ?_
 rintro _ w4 ⟨rfl,hb⟩
 have H4:Hid (Mm w4 []∧I1 w4):=⟨H3.out.1.below hb,s1.out _ _ H3.out.2 (hb)⟩
 clear hb
 clear H3
 simp only[Act.put,sa,sz,ss]
 refine zA (d:=35) (v:=.slice q.p q.n q.cp) (w':=w4) rfl rfl rfl rfl ?_
 simp only[Act.put,sa,sz,ss]
 refine zA (d:=36) (v:=.int .i64 ((q.n:Nat):Int)) (w':=w4) rfl rfl rfl (by go_simp) ?_
 simp only[Act.put,sa,sz,ss]
 refine zA (d:=37) (v:=.int .i64 ((N+q.n:Nat):Int)) (w':=w4) rfl rfl rfl (by go_simp;rw[IntKind.wrap_i64];omega) ?_
 simp only[Act.put,sa,sz,ss]
 refine zA (d:=38) (v:=.bool false) (w':=w4) rfl rfl rfl (by go_simp <;> omega) ?_
 simp only[Act.put,sa,sz,ss]
 refine zC (zB ?_)
 refine wp_cond_false rfl (wp_skip ?_)
 refine zB (wp_seq ?_)
 refine zD (l:=[0,1,2,3,4,5,6]) rfl ?_
 refine zA (d:=39) (v:=PT g 0) (w':=w4) rfl rfl rfl rfl ?_
 simp only[Act.put,sa,sz,ss]
 refine zA (d:=40) (v:=PT g 0) (w':=w4) rfl rfl rfl rfl ?_
 simp only[Act.put,sa,sz,ss]
 refine zE (d:=41) (R:=fun vv w'=>vv=.int .i64 ((N:Nat):Int)∧Below w4.heap.size w4 w') rfl rfl rfl (zF (args:=#[PT g 0]) rfl call89 rfl (mpn rfl)) (Calls.mono (hsz.out w4 H4.out.2) (fun e w2 hh=>⟨_,hh.1,rfl,hh.2⟩)) ?_
 rintro _ w5 ⟨rfl,hb⟩
 have H5:Hid (Mm w5 []∧I1 w5):=⟨H4.out.1.below hb,s1.out _ _ H4.out.2 (hb)⟩
 clear hb
 clear H4
 simp only[Act.put,sa,sz,ss]
 refine zA (d:=42) (v:=.slice q.p q.n q.cp) (w':=w5) rfl rfl rfl rfl ?_
 simp only[Act.put,sa,sz,ss]
 refine zE (d:=43) (R:=fun vv w'=>∃ q2:Pt8,vv=.slice q2.p q2.n q2.cp∧I2 q2 w') rfl rfl rfl (zF (args:=#[.slice q.p q.n q.cp]) rfl call91 rfl (mpn rfl)) (Calls.mono (hcl.out w5 H5.out.2) (fun e w2 hh=>by obtain⟨q2,he,hI⟩:=hh;exact⟨_,he,q2,rfl,hI⟩)) ?_
 rintro _ w6 ⟨q2,rfl,hI⟩
 have H6:Hid (Mm w6 []∧I2 q2 w6):=⟨Mm.nil _,hI⟩
 clear hI H5
 simp only[Act.put,sa,sz,ss]
 refine zA (d:=44) (v:=.agg ([Value.int .i64 ((N:Nat):Int),Value.slice q2.p q2.n q2.cp]).toArray) (w':=w6) rfl rfl rfl (by kernel_rfl) ?_
 simp only[Act.put,sa,sz,ss]
 refine zE (d:=45) (R:=fun vv w'=>vv=.tuple #[]∧I3 w') rfl rfl rfl (zF (args:=#[PT g 0,.agg ([Value.int .i64 ((N:Nat):Int),Value.slice q2.p q2.n q2.cp]).toArray]) rfl call90 rfl (mpn rfl)) (Calls.mono (hbg.out q2 w6 H6.out.2) (fun e w2 hh=>⟨_,hh.1,rfl,hh.2⟩)) ?_
 rintro _ w7 ⟨rfl,hI⟩
 have H7:Hid (Mm w7 []∧I3 w7):=⟨Mm.nil _,hI⟩
 clear hI H6
 simp only[Act.put,sa,sz,ss]
 refine zC (zB (wp_seq ?_))
 refine zD (l:=[0,1,2,3]) rfl ?_
 refine zA (d:=46) (v:=PT d 0) (w':=w7) rfl rfl rfl rfl ?_
 simp only[Act.put,sa,sz,ss]
 refine zA (d:=47) (v:=.string s) (w':=w7) rfl rfl rfl rfl ?_
 simp only[Act.put,sa,sz,ss]
 refine zA (d:=48) (v:=PT g 0) (w':=w7) rfl rfl rfl rfl ?_
 simp only[Act.put,sa,sz,ss]
 refine zE (d:=49) (R:=fun vv w'=>vv=.tuple #[]∧I4 w') rfl rfl rfl (zF (args:=#[PT d 0,.string s,PT g 0]) rfl call92 rfl (mpn rfl)) (Calls.mono (hpt.out w7 H7.out.2) (fun e w2 hh=>⟨_,hh.1,rfl,hh.2⟩)) ?_
 rintro _ w8 ⟨rfl,hI⟩
 have H8:Hid (Mm w8 []∧I4 w8):=⟨Mm.nil _,hI⟩
 clear hI H7
 simp only[Act.put,sa,sz,ss]
 refine zC (zB (wp_seq ?_))
 refine zD (l:=[0]) rfl ?_
 refine zA (d:=6) (v:=.int .i64 0) (w':=w8) rfl rfl rfl rfl ?_
 simp only[Act.put,sa,sz,ss]
 refine zC (zB (wp_ret ?_))
 repeat (first | refine zI ?_ | refine zH ?_)
 refine bodyPost_ret (v:=.int .i64 0) (by simp[results,Tryz.results35,go_sem, *]) rfl ?_
 exact⟨rfl,H8.out.2⟩
theorem Append_full (d:Nat) (s:ByteArray) (q:Pt8) (mb rb L:Nat) (kk:Int) (hL:64≤L) (I0:World→Prop) (I1:World→Prop) (w:World) (h0:I0 w) (s0z:∀ u u',I0 u→Below u.heap.size u u'→I0 u') (s1z:∀ u u',I1 u→Below u.heap.size u u'→I1 u') (hcoz:∀ u,I0 u→Calls Tryz.prog 87 #[PT d 0] u fun e u'=>e=.returned (.int .i64 0)∧I1 u') (hnmz:∀ u,I1 u→Calls Tryz.prog 88 #[.string s] u fun e u'=>e=.returned (.bool true)∧Below u.heap.size u u') (hmdz:∀ u,I1 u→Mm u [(d,[Value.map (some mb),Value.map (some rb),Value.int .i64 kk])]) (hlkz:∀ u,I1 u→(Instr.lookup 59 (.map (some mb)) (.string s) false).run Tryz.prog u=.ok (.pointer none) u) (hlnz:∀ u,I1 u→∀ ty,(Builtin.len_ #[59] ty #[.map (some mb)]).run Tryz.prog u=.ok (.int .i64 ((L:Nat):Int)) u) :
  Calls Tryz.prog 35 #[PT d 0,.string s,.slice q.p q.n q.cp] w fun e w'=>e=.returned (.int .i64 8)∧I1 w':=by
 have H0:Hid (_∧_):=⟨Mm.nil w,h0⟩
 have s0:Hid _:=s0z
 have s1:Hid _:=s1z
 have hco:Hid _:=hcoz
 have hnm:Hid _:=hnmz
 have hmd:Hid _:=hmdz
 have hlk:Hid _:=hlkz
 have hln:Hid _:=hlnz
 clear h0 s0z s1z hcoz hnmz hmdz hlkz hlnz
 go_enter Tryz.func35,Tryz.ntmps35
 refine wp_seq ?_
 refine zG (l:=[0]) rfl (fun u0 hu0 => ?_)
 have H1:Hid (Mm u0 []∧I0 u0):=by rw[hu0];exact H0
 clear hu0 H0
 refine zA (d:=6) (v:=.int .i64 0) (w':=u0) rfl rfl rfl rfl ?_
 simp only[Act.put,sa,sz,ss]
 refine zC (zB ?_)
 refine wp_seq (wp_seq ?_)
 refine zD (l:=[0,1,2]) rfl ?_
 refine zA (d:=9) (v:=PT d 0) (w':=u0) rfl rfl rfl rfl ?_
 simp only[Act.put,sa,sz,ss]
 refine zE (d:=10) (R:=fun vv w'=>vv=.int .i64 0∧I1 w') rfl rfl rfl (zF (args:=#[PT d 0]) rfl call87 rfl (mpn rfl)) (Calls.mono (hco.out u0 H1.out.2) (fun e w2 hh=>⟨_,hh.1,rfl,hh.2⟩)) ?_
 rintro _ w2 ⟨rfl,hI⟩
 have H2:Hid (Mm w2 []∧I1 w2):=⟨Mm.nil _,hI⟩
 clear hI H1
 simp only[Act.put,sa,sz,ss]
 refine zA (d:=7) (v:=.int .i64 0) (w':=w2) rfl rfl rfl rfl ?_
 simp only[Act.put,sa,sz,ss]
 refine zC (zB (wp_seq ?_))
 refine zD (l:=[0,1]) rfl ?_
 refine zA (d:=11) (v:=.int .i64 0) (w':=w2) rfl rfl rfl rfl ?_
 simp only[Act.put,sa,sz,ss]
 refine zA (d:=12) (v:=.bool false) (w':=w2) rfl rfl rfl (by kernel_rfl) ?_
 simp only[Act.put,sa,sz,ss]
 refine zC (zB ?_)
 refine wp_cond_false rfl (wp_skip ?_)
 refine zB (wp_seq (wp_seq ?_))
 refine zD (l:=[0,1,2]) rfl ?_
 refine zA (d:=14) (v:=.string s) (w':=w2) rfl rfl rfl rfl ?_
 simp only[Act.put,sa,sz,ss]
 refine zE (d:=15) (R:=fun vv w'=>vv=.bool true∧Below w2.heap.size w2 w') rfl rfl rfl (zF (args:=#[.string s]) rfl call88 rfl (mpn rfl)) (Calls.mono (hnm.out w2 H2.out.2) (fun e w2 hh=>⟨_,hh.1,rfl,hh.2⟩)) ?_
 rintro _ w3 ⟨rfl,hb⟩
 have H3:Hid (Mm w3 []∧I1 w3):=⟨H2.out.1.below hb,s1.out _ _ H2.out.2 (hb)⟩
 clear hb
 clear H2
 simp only[Act.put,sa,sz,ss]
 refine zA (d:=16) (v:=.bool false) (w':=w3) rfl rfl rfl (by go_simp) ?_
 simp only[Act.put,sa,sz,ss]
 refine zC (zB ?_)
 refine wp_cond_false rfl (wp_skip ?_)
 refine zB (wp_seq ?_)
 refine zD (l:=[0,1,2,3,4,5,6]) rfl ?_
 refine zA (d:=17) (v:=PT d 0) (w':=w3) rfl rfl rfl rfl ?_
 simp only[Act.put,sa,sz,ss]
 refine zA (d:=18) (v:=PT d 0) (w':=w3) rfl rfl rfl (by go_simp) ?_
 simp only[Act.put,sa,sz,ss]
 refine zA (d:=19) (v:=PT d 0) (w':=w3) rfl rfl rfl (by go_simp) ?_
 simp only[Act.put,sa,sz,ss]
 refine zA (d:=20) (v:=.map (some mb)) (w':=w3) rfl rfl rfl (zJ (hmd.out w3 H3.out.2) 0 rfl rfl rfl Ai59 rfl) ?_
 simp only[Act.put,sa,sz,ss]
 refine zA (d:=21) (v:=.string s) (w':=w3) rfl rfl rfl rfl ?_
 simp only[Act.put,sa,sz,ss]
 refine zA (d:=22) (v:=.pointer none) (w':=w3) rfl rfl rfl (ex_lkp (hlk.out w3 H3.out.2) rfl rfl rfl) ?_
 simp only[Act.put,sa,sz,ss]
 refine zA (d:=8) (v:=.pointer none) (w':=w3) rfl rfl rfl rfl ?_
 simp only[Act.put,sa,sz,ss]
 refine zC (zB ?_)
 refine wp_seq (wp_seq ?_)
 refine zD (l:=[0,1]) rfl ?_
 refine zA (d:=23) (v:=.pointer none) (w':=w3) rfl rfl rfl rfl ?_
 simp only[Act.put,sa,sz,ss]
 refine zA (d:=24) (v:=.bool true) (w':=w3) rfl rfl rfl (by kernel_rfl) ?_
 simp only[Act.put,sa,sz,ss]
 refine zC (zB ?_)
 refine wp_cond_true rfl (wp_seq (wp_seq ?_))
 refine zD (l:=[0,1,2,3,4,5]) rfl ?_
 refine zA (d:=25) (v:=PT d 0) (w':=w3) rfl rfl rfl rfl ?_
 simp only[Act.put,sa,sz,ss]
 refine zA (d:=26) (v:=PT d 0) (w':=w3) rfl rfl rfl (by go_simp) ?_
 simp only[Act.put,sa,sz,ss]
 refine zA (d:=27) (v:=PT d 0) (w':=w3) rfl rfl rfl (by go_simp) ?_
 simp only[Act.put,sa,sz,ss]
 refine zA (d:=28) (v:=.map (some mb)) (w':=w3) rfl rfl rfl (zJ (hmd.out w3 H3.out.2) 0 rfl rfl rfl Ai59 rfl) ?_
 simp only[Act.put,sa,sz,ss]
 refine zA (d:=29) (v:=.int .i64 ((L:Nat):Int)) (w':=w3) rfl rfl rfl (ex_lnm (hln.out w3 H3.out.2) rfl rfl) ?_
 simp only[Act.put,sa,sz,ss]
 refine zA (d:=30) (v:=.bool true) (w':=w3) rfl rfl rfl (by go_simp <;> omega) ?_
 simp only[Act.put,sa,sz,ss]
 refine zC (zB ?_)
 refine wp_cond_true rfl (wp_seq ?_)
 refine zD (l:=[0]) rfl ?_
 refine zA (d:=6) (v:=.int .i64 8) (w':=w3) rfl rfl rfl rfl ?_
 simp only[Act.put,sa,sz,ss]
 refine zC (zB (wp_ret ?_))
 repeat (first | refine zI ?_ | refine zH ?_)
 refine bodyPost_ret (v:=.int .i64 8) (by simp[results,Tryz.results35,go_sem, *]) rfl ?_
 exact⟨rfl,H3.out.2⟩
end Wi
end Rg
end Go.Proofs.YtmcpagjhpfbpgaaGreatDoor
end
section
namespace Go.Proofs.YtmcpagjhpfbpgaaGreatDoor
open Go.RowKit
namespace Rg
namespace Wi
set_option maxRecDepth 100000
theorem Append_newlong (d mb rb L N:Nat) (s:ByteArray) (q:Pt8) (kk:Int) (hL64:L<64) (hN:N≤1048576) (hq:q.n≤281474976710656) (hL:1048576<N+q.n) (I0 I1:World→Prop) (I5:Nat→World→Prop) (w:World) (h0:I0 w) (s0z:∀ u u',I0 u→Below u.heap.size u u'→I0 u') (s1z:∀ u u',I1 u→Below u.heap.size u u'→I1 u') (s5z:∀ g u u',I5 g u→Below u.heap.size u u'→I5 g u') (hcoz:∀ u,I0 u→Calls Tryz.prog 87 #[PT d 0] u fun e u'=>e=.returned (.int .i64 0)∧I1 u') (hnmz:∀ u,I1 u→Calls Tryz.prog 88 #[.string s] u fun e u'=>e=.returned (.bool true)∧Below u.heap.size u u') (hmdz:∀ u,I1 u→Mm u [(d,[Value.map (some mb),Value.map (some rb),Value.int .i64 kk])]) (hlkz:∀ u,I1 u→(Instr.lookup 59 (.map (some mb)) (.string s) false).run Tryz.prog u=.ok (.pointer none) u) (hlnz:∀ u,I1 u→∀ ty,(Builtin.len_ #[59] ty #[.map (some mb)]).run Tryz.prog u=.ok (.int .i64 ((L:Nat):Int)) u) (hbxz:∀ u,I1 u→I5 u.heap.size (u.alloc (.cells ([Value.slice none 0 0,Value.slice none 0 0,Value.bool true]:List Value).toArray 154))) (hszz:∀ g u,I5 g u→Calls Tryz.prog 89 #[PT g 0] u fun e u'=>e=.returned (.int .i64 ((N:Nat):Int))∧Below u.heap.size u u') :
  Calls Tryz.prog 35 #[PT d 0,.string s,.slice q.p q.n q.cp] w fun e w'=>e=.returned (.int .i64 3)∧∃ g,I5 g w':=by
 have H0:Hid (_∧_):=⟨Mm.nil w,h0⟩
 have s0:Hid _:=s0z
 have s1:Hid _:=s1z
 have s5:Hid _:=s5z
 have hco:Hid _:=hcoz
 have hnm:Hid _:=hnmz
 have hmd:Hid _:=hmdz
 have hlk:Hid _:=hlkz
 have hln:Hid _:=hlnz
 have hbx:Hid _:=hbxz
 have hsz:Hid _:=hszz
 clear h0 s0z s1z s5z hcoz hnmz hmdz hlkz hlnz hbxz hszz
 go_enter Tryz.func35,Tryz.ntmps35
 refine wp_seq ?_
 refine zG (l:=[0]) rfl (fun u0 hu0 => ?_)
 have H1:Hid (Mm u0 []∧I0 u0):=by rw[hu0];exact H0
 clear hu0 H0
 refine zA (d:=6) (v:=.int .i64 0) (w':=u0) rfl rfl rfl rfl ?_
 simp only[Act.put,sa,sz,ss]
 refine zC (zB ?_)
 refine wp_seq (wp_seq ?_)
 refine zD (l:=[0,1,2]) rfl ?_
 refine zA (d:=9) (v:=PT d 0) (w':=u0) rfl rfl rfl rfl ?_
 simp only[Act.put,sa,sz,ss]
 refine zE (d:=10) (R:=fun vv w'=>vv=.int .i64 0∧I1 w') rfl rfl rfl (zF (args:=#[PT d 0]) rfl call87 rfl (mpn rfl)) (Calls.mono (hco.out u0 H1.out.2) (fun e w2 hh=>⟨_,hh.1,rfl,hh.2⟩)) ?_
 rintro _ w2 ⟨rfl,hI⟩
 have H2:Hid (Mm w2 []∧I1 w2):=⟨Mm.nil _,hI⟩
 clear hI H1
 simp only[Act.put,sa,sz,ss]
 refine zA (d:=7) (v:=.int .i64 0) (w':=w2) rfl rfl rfl rfl ?_
 simp only[Act.put,sa,sz,ss]
 refine zC (zB (wp_seq ?_))
 refine zD (l:=[0,1]) rfl ?_
 refine zA (d:=11) (v:=.int .i64 0) (w':=w2) rfl rfl rfl rfl ?_
 simp only[Act.put,sa,sz,ss]
 refine zA (d:=12) (v:=.bool false) (w':=w2) rfl rfl rfl (by kernel_rfl) ?_
 simp only[Act.put,sa,sz,ss]
 refine zC (zB ?_)
 refine wp_cond_false rfl (wp_skip ?_)
 refine zB (wp_seq (wp_seq ?_))
 refine zD (l:=[0,1,2]) rfl ?_
 refine zA (d:=14) (v:=.string s) (w':=w2) rfl rfl rfl rfl ?_
 simp only[Act.put,sa,sz,ss]
 refine zE (d:=15) (R:=fun vv w'=>vv=.bool true∧Below w2.heap.size w2 w') rfl rfl rfl (zF (args:=#[.string s]) rfl call88 rfl (mpn rfl)) (Calls.mono (hnm.out w2 H2.out.2) (fun e w2 hh=>⟨_,hh.1,rfl,hh.2⟩)) ?_
 rintro _ w3 ⟨rfl,hb⟩
 have H3:Hid (Mm w3 []∧I1 w3):=⟨H2.out.1.below hb,s1.out _ _ H2.out.2 (hb)⟩
 clear hb
 clear H2
 simp only[Act.put,sa,sz,ss]
 refine zA (d:=16) (v:=.bool false) (w':=w3) rfl rfl rfl (by go_simp) ?_
 simp only[Act.put,sa,sz,ss]
 refine zC (zB ?_)
 refine wp_cond_false rfl (wp_skip ?_)
 refine zB (wp_seq ?_)
 refine zD (l:=[0,1,2,3,4,5,6]) rfl ?_
 refine zA (d:=17) (v:=PT d 0) (w':=w3) rfl rfl rfl rfl ?_
 simp only[Act.put,sa,sz,ss]
 refine zA (d:=18) (v:=PT d 0) (w':=w3) rfl rfl rfl (by go_simp) ?_
 simp only[Act.put,sa,sz,ss]
 refine zA (d:=19) (v:=PT d 0) (w':=w3) rfl rfl rfl (by go_simp) ?_
 simp only[Act.put,sa,sz,ss]
 refine zA (d:=20) (v:=.map (some mb)) (w':=w3) rfl rfl rfl (zJ (hmd.out w3 H3.out.2) 0 rfl rfl rfl Ai59 rfl) ?_
 simp only[Act.put,sa,sz,ss]
 refine zA (d:=21) (v:=.string s) (w':=w3) rfl rfl rfl rfl ?_
 simp only[Act.put,sa,sz,ss]
 refine zA (d:=22) (v:=.pointer none) (w':=w3) rfl rfl rfl (ex_lkp (hlk.out w3 H3.out.2) rfl rfl rfl) ?_
 simp only[Act.put,sa,sz,ss]
 refine zA (d:=8) (v:=.pointer none) (w':=w3) rfl rfl rfl rfl ?_
 simp only[Act.put,sa,sz,ss]
 refine zC (zB ?_)
 refine wp_seq (wp_seq ?_)
 refine zD (l:=[0,1]) rfl ?_
 refine zA (d:=23) (v:=.pointer none) (w':=w3) rfl rfl rfl rfl ?_
 simp only[Act.put,sa,sz,ss]
 refine zA (d:=24) (v:=.bool true) (w':=w3) rfl rfl rfl (by kernel_rfl) ?_
 simp only[Act.put,sa,sz,ss]
 refine zC (zB ?_)
 refine wp_cond_true rfl (wp_seq (wp_seq ?_))
 refine zD (l:=[0,1,2,3,4,5]) rfl ?_
 refine zA (d:=25) (v:=PT d 0) (w':=w3) rfl rfl rfl rfl ?_
 simp only[Act.put,sa,sz,ss]
 refine zA (d:=26) (v:=PT d 0) (w':=w3) rfl rfl rfl (by go_simp) ?_
 simp only[Act.put,sa,sz,ss]
 refine zA (d:=27) (v:=PT d 0) (w':=w3) rfl rfl rfl (by go_simp) ?_
 simp only[Act.put,sa,sz,ss]
 refine zA (d:=28) (v:=.map (some mb)) (w':=w3) rfl rfl rfl (zJ (hmd.out w3 H3.out.2) 0 rfl rfl rfl Ai59 rfl) ?_
 simp only[Act.put,sa,sz,ss]
 refine zA (d:=29) (v:=.int .i64 ((L:Nat):Int)) (w':=w3) rfl rfl rfl (ex_lnm (hln.out w3 H3.out.2) rfl rfl) ?_
 simp only[Act.put,sa,sz,ss]
 refine zA (d:=30) (v:=.bool false) (w':=w3) rfl rfl rfl (by go_simp <;> omega) ?_
 simp only[Act.put,sa,sz,ss]
 refine zC (zB ?_)
 refine wp_cond_false rfl (wp_skip (zB ?_))
 refine zD (l:=[0,1,2]) rfl ?_
 refine zA (d:=31) (v:=.agg ([Value.slice none 0 0,Value.slice none 0 0,Value.bool true]).toArray) (w':=w3) rfl rfl rfl (by kernel_rfl) ?_
 simp only[Act.put,sa,sz,ss]
 refine zA (d:=32) (v:=PT w3.heap.size 0) (w':=(w3.alloc (.cells ([Value.slice none 0 0,Value.slice none 0 0,Value.bool true]:List Value).toArray 154))) rfl rfl rfl (ex_boxT rfl rfl) ?_
 simp only[Act.put,sa,sz,ss]
 have H4:Hid (Mm (w3.alloc (.cells ([Value.slice none 0 0,Value.slice none 0 0,Value.bool true]:List Value).toArray 154)) []∧I5 w3.heap.size (w3.alloc (.cells ([Value.slice none 0 0,Value.slice none 0 0,Value.bool true]:List Value).toArray 154))):=⟨Mm.nil _,hbx.out w3 H3.out.2⟩
 clear H3
 generalize hgw:w3.alloc (.cells ([Value.slice none 0 0,Value.slice none 0 0,Value.bool true]:List Value).toArray 154)=w4 at H4 ⊢
 clear hgw
 generalize w3.heap.size=g at H4 ⊢
 refine zA (d:=8) (v:=PT g 0) (w':=w4) rfl rfl rfl rfl ?_
 simp only[Act.put,sa,sz,ss]
 refine zC (zB ?_)
 refine wp_seq (wp_seq ?_)
 refine zD (l:=[0,1,2,3,4,5]) rfl ?_
 refine zA (d:=33) (v:=PT g 0) (w':=w4) rfl rfl rfl rfl ?_
 simp only[Act.put,sa,sz,ss]
 refine zE (d:=34) (R:=fun vv w'=>vv=.int .i64 ((N:Nat):Int)∧Below w4.heap.size w4 w') rfl rfl rfl (zF (args:=#[PT g 0]) rfl call89 rfl (mpn rfl)) (Calls.mono (hsz.out g w4 H4.out.2) (fun e w2 hh=>⟨_,hh.1,rfl,hh.2⟩)) ?_
 rintro _ w5 ⟨rfl,hb⟩
 have H5:Hid (Mm w5 []∧I5 g w5):=⟨H4.out.1.below hb,s5.out g _ _ H4.out.2 (hb)⟩
 clear hb
 clear H4
 simp only[Act.put,sa,sz,ss]
 refine zA (d:=35) (v:=.slice q.p q.n q.cp) (w':=w5) rfl rfl rfl rfl ?_
 simp only[Act.put,sa,sz,ss]
 refine zA (d:=36) (v:=.int .i64 ((q.n:Nat):Int)) (w':=w5) rfl rfl rfl (by go_simp) ?_
 simp only[Act.put,sa,sz,ss]
 refine zA (d:=37) (v:=.int .i64 ((N+q.n:Nat):Int)) (w':=w5) rfl rfl rfl (by go_simp;rw[IntKind.wrap_i64];omega) ?_
 simp only[Act.put,sa,sz,ss]
 refine zA (d:=38) (v:=.bool true) (w':=w5) rfl rfl rfl (by go_simp <;> omega) ?_
 simp only[Act.put,sa,sz,ss]
 refine zC (zB ?_)
 refine wp_cond_true rfl (wp_seq ?_)
 refine zD (l:=[0]) rfl ?_
 refine zA (d:=6) (v:=.int .i64 3) (w':=w5) rfl rfl rfl rfl ?_
 simp only[Act.put,sa,sz,ss]
 refine zC (zB (wp_ret ?_))
 repeat (first | refine zI ?_ | refine zH ?_)
 refine bodyPost_ret (v:=.int .i64 3) (by simp[results,Tryz.results35,go_sem, *]) rfl ?_
 exact⟨rfl,g,H5.out.2⟩
theorem Append_new (d mb rb L N:Nat) (s:ByteArray) (q:Pt8) (kk:Int) (hL64:L<64) (hN:N≤1048576) (hq:q.n≤281474976710656) (hL:N+q.n≤1048576) (I0 I1:World→Prop) (I5:Nat→World→Prop) (I2:Nat→Pt8→World→Prop) (I3:Nat→World→Prop) (I4:World→Prop) (w:World) (h0:I0 w) (s0z:∀ u u',I0 u→Below u.heap.size u u'→I0 u') (s1z:∀ u u',I1 u→Below u.heap.size u u'→I1 u') (s5z:∀ g u u',I5 g u→Below u.heap.size u u'→I5 g u') (hcoz:∀ u,I0 u→Calls Tryz.prog 87 #[PT d 0] u fun e u'=>e=.returned (.int .i64 0)∧I1 u') (hnmz:∀ u,I1 u→Calls Tryz.prog 88 #[.string s] u fun e u'=>e=.returned (.bool true)∧Below u.heap.size u u') (hmdz:∀ u,I1 u→Mm u [(d,[Value.map (some mb),Value.map (some rb),Value.int .i64 kk])]) (hlkz:∀ u,I1 u→(Instr.lookup 59 (.map (some mb)) (.string s) false).run Tryz.prog u=.ok (.pointer none) u) (hlnz:∀ u,I1 u→∀ ty,(Builtin.len_ #[59] ty #[.map (some mb)]).run Tryz.prog u=.ok (.int .i64 ((L:Nat):Int)) u) (hbxz:∀ u,I1 u→I5 u.heap.size (u.alloc (.cells ([Value.slice none 0 0,Value.slice none 0 0,Value.bool true]:List Value).toArray 154))) (hszz:∀ g u,I5 g u→Calls Tryz.prog 89 #[PT g 0] u fun e u'=>e=.returned (.int .i64 ((N:Nat):Int))∧Below u.heap.size u u') (s2z:∀ g q2 u u',I2 g q2 u→Below u.heap.size u u'→I2 g q2 u') (s3z:∀ g u u',I3 g u→Below u.heap.size u u'→I3 g u') (s4z:∀ u u',I4 u→Below u.heap.size u u'→I4 u') (hclz:∀ g u,I5 g u→Calls Tryz.prog 91 #[.slice q.p q.n q.cp] u fun e u'=>∃ q2:Pt8,e=.returned (.slice q2.p q2.n q2.cp)∧I2 g q2 u') (hbgz:∀ g q2 u,I2 g q2 u→Calls Tryz.prog 90 #[PT g 0,.agg ([.int .i64 ((N:Nat):Int),.slice q2.p q2.n q2.cp]:List Value).toArray] u fun e u'=>e=.returned (.tuple #[])∧I3 g u') (hptz:∀ g u,I3 g u→Calls Tryz.prog 92 #[PT d 0,.string s,PT g 0] u fun e u'=>e=.returned (.tuple #[])∧I4 u') :
  Calls Tryz.prog 35 #[PT d 0,.string s,.slice q.p q.n q.cp] w fun e w'=>e=.returned (.int .i64 0)∧I4 w':=by
 have H0:Hid (_∧_):=⟨Mm.nil w,h0⟩
 have s0:Hid _:=s0z
 have s1:Hid _:=s1z
 have s5:Hid _:=s5z
 have hco:Hid _:=hcoz
 have hnm:Hid _:=hnmz
 have hmd:Hid _:=hmdz
 have hlk:Hid _:=hlkz
 have hln:Hid _:=hlnz
 have hbx:Hid _:=hbxz
 have hsz:Hid _:=hszz
 have s2:Hid _:=s2z
 have s3:Hid _:=s3z
 have s4:Hid _:=s4z
 have hcl:Hid _:=hclz
 have hbg:Hid _:=hbgz
 have hpt:Hid _:=hptz
 clear h0 s0z s1z s5z hcoz hnmz hmdz hlkz hlnz hbxz hszz s2z s3z s4z hclz hbgz hptz
 go_enter Tryz.func35,Tryz.ntmps35
 refine wp_seq ?_
 refine zG (l:=[0]) rfl (fun u0 hu0 => ?_)
 have H1:Hid (Mm u0 []∧I0 u0):=by rw[hu0];exact H0
 clear hu0 H0
 refine zA (d:=6) (v:=.int .i64 0) (w':=u0) rfl rfl rfl rfl ?_
 simp only[Act.put,sa,sz,ss]
 refine zC (zB ?_)
 refine wp_seq (wp_seq ?_)
 refine zD (l:=[0,1,2]) rfl ?_
 refine zA (d:=9) (v:=PT d 0) (w':=u0) rfl rfl rfl rfl ?_
 simp only[Act.put,sa,sz,ss]
 refine zE (d:=10) (R:=fun vv w'=>vv=.int .i64 0∧I1 w') rfl rfl rfl (zF (args:=#[PT d 0]) rfl call87 rfl (mpn rfl)) (Calls.mono (hco.out u0 H1.out.2) (fun e w2 hh=>⟨_,hh.1,rfl,hh.2⟩)) ?_
 rintro _ w2 ⟨rfl,hI⟩
 have H2:Hid (Mm w2 []∧I1 w2):=⟨Mm.nil _,hI⟩
 clear hI H1
 simp only[Act.put,sa,sz,ss]
 refine zA (d:=7) (v:=.int .i64 0) (w':=w2) rfl rfl rfl rfl ?_
 simp only[Act.put,sa,sz,ss]
 refine zC (zB (wp_seq ?_))
 refine zD (l:=[0,1]) rfl ?_
 refine zA (d:=11) (v:=.int .i64 0) (w':=w2) rfl rfl rfl rfl ?_
 simp only[Act.put,sa,sz,ss]
 refine zA (d:=12) (v:=.bool false) (w':=w2) rfl rfl rfl (by kernel_rfl) ?_
 simp only[Act.put,sa,sz,ss]
 refine zC (zB ?_)
 refine wp_cond_false rfl (wp_skip ?_)
 refine zB (wp_seq (wp_seq ?_))
 refine zD (l:=[0,1,2]) rfl ?_
 refine zA (d:=14) (v:=.string s) (w':=w2) rfl rfl rfl rfl ?_
 simp only[Act.put,sa,sz,ss]
 refine zE (d:=15) (R:=fun vv w'=>vv=.bool true∧Below w2.heap.size w2 w') rfl rfl rfl (zF (args:=#[.string s]) rfl call88 rfl (mpn rfl)) (Calls.mono (hnm.out w2 H2.out.2) (fun e w2 hh=>⟨_,hh.1,rfl,hh.2⟩)) ?_
 rintro _ w3 ⟨rfl,hb⟩
 have H3:Hid (Mm w3 []∧I1 w3):=⟨H2.out.1.below hb,s1.out _ _ H2.out.2 (hb)⟩
 clear hb
 clear H2
 simp only[Act.put,sa,sz,ss]
 refine zA (d:=16) (v:=.bool false) (w':=w3) rfl rfl rfl (by go_simp) ?_
 simp only[Act.put,sa,sz,ss]
 refine zC (zB ?_)
 refine wp_cond_false rfl (wp_skip ?_)
 refine zB (wp_seq ?_)
 refine zD (l:=[0,1,2,3,4,5,6]) rfl ?_
 refine zA (d:=17) (v:=PT d 0) (w':=w3) rfl rfl rfl rfl ?_
 simp only[Act.put,sa,sz,ss]
 refine zA (d:=18) (v:=PT d 0) (w':=w3) rfl rfl rfl (by go_simp) ?_
 simp only[Act.put,sa,sz,ss]
 refine zA (d:=19) (v:=PT d 0) (w':=w3) rfl rfl rfl (by go_simp) ?_
 simp only[Act.put,sa,sz,ss]
 refine zA (d:=20) (v:=.map (some mb)) (w':=w3) rfl rfl rfl (zJ (hmd.out w3 H3.out.2) 0 rfl rfl rfl Ai59 rfl) ?_
 simp only[Act.put,sa,sz,ss]
 refine zA (d:=21) (v:=.string s) (w':=w3) rfl rfl rfl rfl ?_
 simp only[Act.put,sa,sz,ss]
 refine zA (d:=22) (v:=.pointer none) (w':=w3) rfl rfl rfl (ex_lkp (hlk.out w3 H3.out.2) rfl rfl rfl) ?_
 simp only[Act.put,sa,sz,ss]
 refine zA (d:=8) (v:=.pointer none) (w':=w3) rfl rfl rfl rfl ?_
 simp only[Act.put,sa,sz,ss]
 refine zC (zB ?_)
 refine wp_seq (wp_seq ?_)
 refine zD (l:=[0,1]) rfl ?_
 refine zA (d:=23) (v:=.pointer none) (w':=w3) rfl rfl rfl rfl ?_
 simp only[Act.put,sa,sz,ss]
 refine zA (d:=24) (v:=.bool true) (w':=w3) rfl rfl rfl (by kernel_rfl) ?_
 simp only[Act.put,sa,sz,ss]
 refine zC (zB ?_)
 refine wp_cond_true rfl (wp_seq (wp_seq ?_))
 refine zD (l:=[0,1,2,3,4,5]) rfl ?_
 refine zA (d:=25) (v:=PT d 0) (w':=w3) rfl rfl rfl rfl ?_
 simp only[Act.put,sa,sz,ss]
 refine zA (d:=26) (v:=PT d 0) (w':=w3) rfl rfl rfl (by go_simp) ?_
 simp only[Act.put,sa,sz,ss]
 refine zA (d:=27) (v:=PT d 0) (w':=w3) rfl rfl rfl (by go_simp) ?_
 simp only[Act.put,sa,sz,ss]
 refine zA (d:=28) (v:=.map (some mb)) (w':=w3) rfl rfl rfl (zJ (hmd.out w3 H3.out.2) 0 rfl rfl rfl Ai59 rfl) ?_
 simp only[Act.put,sa,sz,ss]
 refine zA (d:=29) (v:=.int .i64 ((L:Nat):Int)) (w':=w3) rfl rfl rfl (ex_lnm (hln.out w3 H3.out.2) rfl rfl) ?_
 simp only[Act.put,sa,sz,ss]
 refine zA (d:=30) (v:=.bool false) (w':=w3) rfl rfl rfl (by go_simp <;> omega) ?_
 simp only[Act.put,sa,sz,ss]
 refine zC (zB ?_)
 refine wp_cond_false rfl (wp_skip (zB ?_))
 refine zD (l:=[0,1,2]) rfl ?_
 refine zA (d:=31) (v:=.agg ([Value.slice none 0 0,Value.slice none 0 0,Value.bool true]).toArray) (w':=w3) rfl rfl rfl (by kernel_rfl) ?_
 simp only[Act.put,sa,sz,ss]
 refine zA (d:=32) (v:=PT w3.heap.size 0) (w':=(w3.alloc (.cells ([Value.slice none 0 0,Value.slice none 0 0,Value.bool true]:List Value).toArray 154))) rfl rfl rfl (ex_boxT rfl rfl) ?_
 simp only[Act.put,sa,sz,ss]
 have H4:Hid (Mm (w3.alloc (.cells ([Value.slice none 0 0,Value.slice none 0 0,Value.bool true]:List Value).toArray 154)) []∧I5 w3.heap.size (w3.alloc (.cells ([Value.slice none 0 0,Value.slice none 0 0,Value.bool true]:List Value).toArray 154))):=⟨Mm.nil _,hbx.out w3 H3.out.2⟩
 clear H3
 generalize hgw:w3.alloc (.cells ([Value.slice none 0 0,Value.slice none 0 0,Value.bool true]:List Value).toArray 154)=w4 at H4 ⊢
 clear hgw
 generalize w3.heap.size=g at H4 ⊢
 refine zA (d:=8) (v:=PT g 0) (w':=w4) rfl rfl rfl rfl ?_
 simp only[Act.put,sa,sz,ss]
 refine zC (zB ?_)
 refine wp_seq (wp_seq ?_)
 refine zD (l:=[0,1,2,3,4,5]) rfl ?_
 refine zA (d:=33) (v:=PT g 0) (w':=w4) rfl rfl rfl rfl ?_
 simp only[Act.put,sa,sz,ss]
 refine zE (d:=34) (R:=fun vv w'=>vv=.int .i64 ((N:Nat):Int)∧Below w4.heap.size w4 w') rfl rfl rfl (zF (args:=#[PT g 0]) rfl call89 rfl (mpn rfl)) (Calls.mono (hsz.out g w4 H4.out.2) (fun e w2 hh=>⟨_,hh.1,rfl,hh.2⟩)) ?_
 rintro _ w5 ⟨rfl,hb⟩
 have H5:Hid (Mm w5 []∧I5 g w5):=⟨H4.out.1.below hb,s5.out g _ _ H4.out.2 (hb)⟩
 clear hb
 clear H4
 simp only[Act.put,sa,sz,ss]
 refine zA (d:=35) (v:=.slice q.p q.n q.cp) (w':=w5) rfl rfl rfl rfl ?_
 simp only[Act.put,sa,sz,ss]
 refine zA (d:=36) (v:=.int .i64 ((q.n:Nat):Int)) (w':=w5) rfl rfl rfl (by go_simp) ?_
 simp only[Act.put,sa,sz,ss]
 refine zA (d:=37) (v:=.int .i64 ((N+q.n:Nat):Int)) (w':=w5) rfl rfl rfl (by go_simp;rw[IntKind.wrap_i64];omega) ?_
 simp only[Act.put,sa,sz,ss]
 refine zA (d:=38) (v:=.bool false) (w':=w5) rfl rfl rfl (by go_simp <;> omega) ?_
 simp only[Act.put,sa,sz,ss]
 refine zC (zB ?_)
 refine wp_cond_false rfl (wp_skip ?_)
 refine zB (wp_seq ?_)
 refine zD (l:=[0,1,2,3,4,5,6]) rfl ?_
 refine zA (d:=39) (v:=PT g 0) (w':=w5) rfl rfl rfl rfl ?_
 simp only[Act.put,sa,sz,ss]
 refine zA (d:=40) (v:=PT g 0) (w':=w5) rfl rfl rfl rfl ?_
 simp only[Act.put,sa,sz,ss]
 refine zE (d:=41) (R:=fun vv w'=>vv=.int .i64 ((N:Nat):Int)∧Below w5.heap.size w5 w') rfl rfl rfl (zF (args:=#[PT g 0]) rfl call89 rfl (mpn rfl)) (Calls.mono (hsz.out g w5 H5.out.2) (fun e w2 hh=>⟨_,hh.1,rfl,hh.2⟩)) ?_
 rintro _ w6 ⟨rfl,hb⟩
 have H6:Hid (Mm w6 []∧I5 g w6):=⟨H5.out.1.below hb,s5.out g _ _ H5.out.2 (hb)⟩
 clear hb
 clear H5
 simp only[Act.put,sa,sz,ss]
 refine zA (d:=42) (v:=.slice q.p q.n q.cp) (w':=w6) rfl rfl rfl rfl ?_
 simp only[Act.put,sa,sz,ss]
 refine zE (d:=43) (R:=fun vv w'=>∃ q2:Pt8,vv=.slice q2.p q2.n q2.cp∧I2 g q2 w') rfl rfl rfl (zF (args:=#[.slice q.p q.n q.cp]) rfl call91 rfl (mpn rfl)) (Calls.mono (hcl.out g w6 H6.out.2) (fun e w2 hh=>by obtain⟨q2,he,hI⟩:=hh;exact⟨_,he,q2,rfl,hI⟩)) ?_
 rintro _ w7 ⟨q2,rfl,hI⟩
 have H7:Hid (Mm w7 []∧I2 g q2 w7):=⟨Mm.nil _,hI⟩
 clear hI H6
 simp only[Act.put,sa,sz,ss]
 refine zA (d:=44) (v:=.agg ([Value.int .i64 ((N:Nat):Int),Value.slice q2.p q2.n q2.cp]).toArray) (w':=w7) rfl rfl rfl (by kernel_rfl) ?_
 simp only[Act.put,sa,sz,ss]
 refine zE (d:=45) (R:=fun vv w'=>vv=.tuple #[]∧I3 g w') rfl rfl rfl (zF (args:=#[PT g 0,.agg ([Value.int .i64 ((N:Nat):Int),Value.slice q2.p q2.n q2.cp]).toArray]) rfl call90 rfl (mpn rfl)) (Calls.mono (hbg.out g q2 w7 H7.out.2) (fun e w2 hh=>⟨_,hh.1,rfl,hh.2⟩)) ?_
 rintro _ w8 ⟨rfl,hI⟩
 have H8:Hid (Mm w8 []∧I3 g w8):=⟨Mm.nil _,hI⟩
 clear hI H7
 simp only[Act.put,sa,sz,ss]
 refine zC (zB (wp_seq ?_))
 refine zD (l:=[0,1,2,3]) rfl ?_
 refine zA (d:=46) (v:=PT d 0) (w':=w8) rfl rfl rfl rfl ?_
 simp only[Act.put,sa,sz,ss]
 refine zA (d:=47) (v:=.string s) (w':=w8) rfl rfl rfl rfl ?_
 simp only[Act.put,sa,sz,ss]
 refine zA (d:=48) (v:=PT g 0) (w':=w8) rfl rfl rfl rfl ?_
 simp only[Act.put,sa,sz,ss]
 refine zE (d:=49) (R:=fun vv w'=>vv=.tuple #[]∧I4 w') rfl rfl rfl (zF (args:=#[PT d 0,.string s,PT g 0]) rfl call92 rfl (mpn rfl)) (Calls.mono (hpt.out g w8 H8.out.2) (fun e w2 hh=>⟨_,hh.1,rfl,hh.2⟩)) ?_
 rintro _ w9 ⟨rfl,hI⟩
 have H9:Hid (Mm w9 []∧I4 w9):=⟨Mm.nil _,hI⟩
 clear hI H8
 simp only[Act.put,sa,sz,ss]
 refine zC (zB (wp_seq ?_))
 refine zD (l:=[0]) rfl ?_
 refine zA (d:=6) (v:=.int .i64 0) (w':=w9) rfl rfl rfl rfl ?_
 simp only[Act.put,sa,sz,ss]
 refine zC (zB (wp_ret ?_))
 repeat (first | refine zI ?_ | refine zH ?_)
 refine bodyPost_ret (v:=.int .i64 0) (by simp[results,Tryz.results35,go_sem, *]) rfl ?_
 exact⟨rfl,H9.out.2⟩
end Wi
end Rg
end Go.Proofs.YtmcpagjhpfbpgaaGreatDoor
end
section
namespace Go.Proofs.YtmcpagjhpfbpgaaGreatDoor
open Go.RowKit
namespace Rg
namespace Wi
set_option maxRecDepth 100000
def Rq (q:Pt8) (D:Dq) (w:World):Prop:=Pok q∧(q.p=none→q.cp=0)∧q.rs w∧(0<q.n→q.gb∉D.bl)
theorem Rq.chg {q:Pt8} {D:Dq} {w u:World} (h:Rq q D w) (hc:Chg D.bl w u):Pok q∧(q.p=none→q.cp=0)∧q.rs u:=by
 obtain⟨h1,h2,h3,h4⟩:=h
 refine⟨h1,h2,fun hn=>Nat.lt_of_lt_of_le (h3.lt hn) hc.size,fun i hi => ?_⟩
 rw[hc.cell (p:=⟨q.gb,q.o+i,none⟩) (h3.lt (by omega)) (h4 (by omega))]
 exact h3.at_ i hi
theorem Cw.part {w u:World} {v:Value} {n:Nat} {P:Nat→Nat} (h:Cw w v n P u):∃ q:Pt8,v=.slice q.p q.n q.cp∧Pok q∧(q.p=none→q.cp=0)∧q.n=n∧q.f=P∧q.rs u∧(0<q.n→w.heap.size≤q.gb):=by
 obtain⟨q,e1,e2,e3,e4,e5,e6,e7⟩:=own_part h.own
 exact⟨q,e1,e2,e3,e4,e5,e6,fun hn=>(World.ownsRow.lt h.own _ (e7 hn)).1⟩
theorem uob_at {o:Uop} {x:Nat} (h:x∈uob o):0<o.q.n∧x=o.q.gb:=by
 unfold uob at h
 split at h
 ·simp at h
 ·simp at h
  exact⟨by omega,h⟩
theorem more_bl {f:Fq} {v:Value} {o:Uop} {B:Nat→Prop} (h1:∀ x∈vbl v,x∈f.bl∨B x) (h2:∀ x∈uob o,x∈f.bl∨B x):∀ x∈(f.more v o).bl,x∈f.bl∨B x:=fun x hx=>by
 unfold Fq.bl Fq.more fbl at hx
 simp only[List.mem_cons,List.mem_append,List.mem_flatMap] at hx
 rcases hx with hx | hx | hx | ⟨p,hp,hx⟩
 ·exact .inl (by rw[hx];exact List.mem_cons_self ..)
 ·exact .inl (by unfold Fq.bl fbl;simp[hx])
 ·exact h1 x hx
 ·rcases hp with hp | hp | hp
  ·exact .inl (by unfold Fq.bl fbl;simp only[List.mem_cons,List.mem_append,List.mem_flatMap];exact .inr (.inr (.inr ⟨p,hp,hx⟩)))
  ·subst hp
   exact h2 x hx
  ·cases hp
theorem DOk.swapB {w w':World} {D:Dq} {f f':Fq} (h:DOk w D) (hf:f∈D.fs) (hn:f'.nm=f.nm) (hg:f'.g=f.g) (hF:FOk w' f') (hc:Chg f.bl w w') (hb:∀ x∈f'.bl,x∈f.bl∨x∉D.bl):DOk w' (D.swap f f'):=by
 obtain⟨X,x1,x2,x3,x4⟩:=h.mp
 obtain⟨n,Y,y1,y2⟩:=h.rm
 have hsg:∀ x∈D.fs,(swp f f' x).g=x.g:=fun x hx=>by
  unfold swp
  split
  ·rename_i e;rw[hg,nm_inj h.un hx hf e]
  ·rfl
 have key:∀ x∈D.fs,(x=f∧swp f f' x=f')∨(x.nm≠f.nm∧swp f f' x=x):=fun x hx=>by
  by_cases e:x.nm=f.nm
  ·exact .inl ⟨nm_inj h.un hx hf e,by unfold swp;rw[if_pos e]⟩
  ·exact .inr ⟨e,by unfold swp;rw[if_neg e]⟩
 refine⟨hc.mm h.cel (fun p hp hm => ?_),⟨X,(show (D.swap f f').fs.length=D.fs.length from List.length_map ..) ▸ zQ x1 (hc.block _ x1.lt (fun hm=>((h.hd f hf) _ hm).2.1 rfl)),fun s => ?_,fun s => ?_,?_⟩,⟨n,Y,zQ y1 (hc.block _ y1.lt (fun hm=>((h.hd f hf) _ hm).2.2 rfl)),y2⟩,fun y hy => ?_,fun y hy z hz hne x hx => ?_,fun y hy x hx => ?_,h.h3,?_,h.k1,by show (D.fs.map (swp f f')).length≤64;rw[List.length_map];exact h.n64⟩
 ·obtain rfl:=List.mem_singleton.1 hp
  exact((h.hd f hf) _ hm).1 rfl
 ·rw[x2 s]
  show dv (lk D.fs s)=dv (lk (D.fs.map (swp f f')) s)
  rw[lk_swap hn]
  cases hl:lk D.fs s with
  | none=>rfl
  | some x=>exact congrArg DataW.held (hsg x (lk_mem hl).1).symm
 ·rw[x3 s]
  show (lk D.fs s).isSome=(lk (D.fs.map (swp f f')) s).isSome
  rw[lk_swap hn,Option.isSome_map]
 ·rw[x4]
  exact(List.length_map ..).symm
 ·obtain⟨x,hx,rfl⟩:=List.mem_map.1 hy
  rcases key x hx with ⟨_,e⟩ | ⟨e1,e⟩
  ·rw[e];exact hF
  ·rw[e];exact(h.fl x hx).chg hc (h.ap x hx f hf e1)
 ·obtain⟨y0,hy0,rfl⟩:=List.mem_map.1 hy
  obtain⟨z0,hz0,rfl⟩:=List.mem_map.1 hz
  rw[swp_nm hn,swp_nm hn] at hne
  rcases key y0 hy0 with ⟨a1,a2⟩ | ⟨a1,a2⟩ <;> rcases key z0 hz0 with ⟨b1,b2⟩ | ⟨b1,b2⟩
  ·exact absurd (by rw[a1,b1]) hne
  ·rw[a2] at hx
   rw[b2]
   rcases hb x hx with e | e
   ·exact h.ap f hf z0 hz0 (fun e=>b1 e.symm) x e
   ·exact fun hm=>e (Dq.fbl hz0 x hm)
  ·rw[a2] at hx
   rw[b2]
   intro hm
   rcases hb x hm with e | e
   ·exact h.ap y0 hy0 f hf a1 x hx e
   ·exact e (Dq.fbl hy0 x hx)
  ·rw[a2] at hx
   rw[b2]
   exact h.ap y0 hy0 z0 hz0 hne x hx
 ·obtain⟨y0,hy0,rfl⟩:=List.mem_map.1 hy
  rcases key y0 hy0 with ⟨_,a2⟩ | ⟨_,a2⟩
  ·rw[a2] at hx
   rcases hb x hx with e | e
   ·exact(h.hd f hf) x e
   ·unfold Dq.bl at e
    simp only[List.mem_cons,not_or] at e
    exact⟨e.1,e.2.1,e.2.2.1⟩
  ·rw[a2] at hx
   exact(h.hd y0 hy0) x hx
 ·show ((D.fs.map (swp f f')).map Fq.nm).Nodup
  rw[List.map_map,show Fq.nm ∘ swp f f'=Fq.nm from funext (swp_nm hn)]
  exact h.un
theorem DOk.blt {w:World} {D:Dq} (h:DOk w D):∀ x∈D.bl,x<w.heap.size:=fun x hx=>by
 unfold Dq.bl at hx
 simp only[List.mem_cons,List.mem_flatMap] at hx
 obtain⟨X,x1,_⟩:=h.mp
 obtain⟨n,Y,y1,_⟩:=h.rm
 rcases hx with e | e | e | ⟨f,hf,e⟩
 ·rw[e];exact(h.cel.blk _ (List.mem_cons_self ..)).1
 ·rw[e];exact x1.lt
 ·rw[e];exact y1.lt
 ·exact(h.fl f hf).lt x e
def appo (N:Nat) (q:Pt8):Uop:=⟨N,q⟩
theorem Append_hit_f (D:Dq) (s:ByteArray) (hs:s.size≤281474976710656) (q:Pt8) (f:Fq) (w:World) (h:DOk w D) (hk:D.k+1<4611686018427387904) (hq:Rq q D w) (hno:D.no=false) (hnm:nmd s=true) (hl:lk D.fs s=some f) (hops:f.ops.length<1000000) (hL:f.N+q.n≤1048576) :
  Calls Tryz.prog 35 #[PT D.d 0,.string s,.slice q.p q.n q.cp] w fun e w'=>e=.returned (.int .i64 0)∧∃ (q2:Pt8) (v:Value),q2.n=q.n∧q2.f=q.f∧Dw w D (D.tick.swap f (f.more v (appo f.N q2))) w':=by
 have hm:=(lk_mem hl).1
 have hsz:s.size≤maxLen:=by unfold maxLen;omega
 have hN:f.N≤1048576:=(h.fl f hm).N1
 have hb0:∀ u u',Below w.heap.size w u→Below u.heap.size u u'→Below w.heap.size w u':=fun u u' h1 h2=>h1.trans (h2.mono h1.size)
 let I2:Pt8→World→Prop:=fun q2 u=>Dw w D D.tick u∧(appo f.N q2).ok u∧q2.n=q.n∧q2.f=q.f∧∃ u0,DOk u0 D.tick∧(0<q2.n→u0.heap.size≤q2.gb)∧w.heap.size≤u0.heap.size
 let I4:World→Prop:=fun u=>∃ (q2:Pt8) (v:Value),q2.n=q.n∧q2.f=q.f∧Dw w D (D.tick.swap f (f.more v (appo f.N q2))) u
 have s4:∀ u u',I4 u→Below u.heap.size u u'→I4 u':=fun u u' ⟨q2,v,e1,e2,e3⟩ hb=>⟨q2,v,e1,e2,Dw.step _ _ e3 hb⟩
 refine Append_hit D.d s q D.mb D.rb f.g f.N ((D.k+1:Nat):Int) hN (by omega) hL (fun u=>Below w.heap.size w u) (Dw w D D.tick) I2 I4 I4 w (Below.refl _ _) hb0 Dw.step
  (fun q2 u u' ⟨e1,e2,e3,e4,u0,e5,e6⟩ hb=>⟨Dw.step _ _ e1 hb,e2.below hb,e3,e4,u0,e5,e6⟩) s4 s4 ?_ ?_ (fun u hu=>hu.1.cel) ?_ (fun u hu=>size_f f u (hu.1.fl f hm)) ?_ ?_ ?_
 ·intro u hu
  refine(count_f D u (h.below hu) hk).mono fun e u' hh=>⟨by rw[hh.1,hno];rfl,hh.2.1,(Chg.of hu).trans hh.2.2 (fun x hx=>.inl hx),fun x hx=>.inl hx⟩
 ·intro u _
  exact(named_any s u).mono fun e u' hh=>⟨by rw[hh.1,hnm],hh.2⟩
 ·intro u hu
  have e:=hu.1.look (u:=u) s hsz rfl
  rw[show lk D.tick.fs s=some f from hl] at e
  exact e
 ·intro u hu
  obtain⟨r1,r2,r3⟩:=hq.chg hu.2.1
  refine(clone_any q (by omega) u r1 r2 r3).mono fun e u' hh => ?_
  obtain⟨v,e1,e2⟩:=hh
  obtain⟨q2,t1,t2,t3,t4,t5,t6,t7⟩:=e2.part
  exact⟨q2,by rw[e1,t1],⟨Dw.step _ _ hu e2.b,⟨t2,t3,t6⟩,t4,t5,u,hu.1,t7,hu.2.1.size⟩⟩
 ·intro q2 u hu
  obtain⟨e1,e2,e3,e4,u0,e5,e6,e7⟩:=hu
  have hap:∀ x∈uob (appo f.N q2),x∉f.bl:=fun x hx hx2=>by
   obtain⟨k1,k2⟩:=uob_at hx
   have k3:=e6 k1
   have k4:=(e5.fl f hm).lt x hx2
   rw[k2] at k4
   exact absurd k4 (Nat.not_lt.2 k3)
  refine(begin_f f (appo f.N q2) u (e1.1.fl f hm) hops e2 hap (Nat.le_refl _) (by show f.N+q2.n≤_;rw[e3];exact hL) (.inl rfl)).mono fun e u' hh => ?_
  obtain⟨k1,v,k2,k3,k4⟩:=hh
  have hB:∀ x,u.heap.size≤x→x∉D.tick.bl:=fun x hx hm2=>absurd (e1.1.blt x hm2) (Nat.not_lt.2 hx)
  have hbl:=more_bl (f:=f) (v:=v) (o:=appo f.N q2) (B:=fun x=>x∉D.tick.bl) (fun x hx=>(k4 x hx).imp_right (hB x)) (fun x hx=>.inr (fun hm2=>by
   obtain⟨t1,t2⟩:=uob_at hx
   have t3:=e5.blt x hm2
   rw[t2] at t3
   exact absurd t3 (Nat.not_lt.2 (e6 t1))))
  exact⟨k1,q2,v,e3,e4,e1.1.swapB (f':=f.more v (appo f.N q2)) hm rfl rfl k2 k3 hbl,e1.2.1.trans k3 (fun x hx=>.inl (Dq.fbl hm x hx)),fun x hx=>(Dq.swap_bl hx).elim .inl (fun e=>(more_bl (f:=f) (v:=v) (o:=appo f.N q2) (B:=fun x=>w.heap.size≤x) (fun x hx=>(k4 x hx).imp_right (Nat.le_trans e1.2.1.size)) (fun x hx=>.inr (by obtain⟨t1,t2⟩:=uob_at hx;rw[t2];exact Nat.le_trans e7 (e6 t1))) x e).elim (fun e=>.inl (Dq.fbl hm x e)) .inr)⟩
 ·intro u hu
  obtain⟨q2,v,e1,e2,e3⟩:=hu
  have hl2:lk (D.tick.swap f (f.more v (appo f.N q2))).fs s=some (f.more v (appo f.N q2)):=by
   show lk (D.fs.map (swp f (f.more v (appo f.N q2)))) s=_
   rw[lk_swap (f:=f) (f':=f.more v (appo f.N q2)) rfl,hl]
   show some (swp f _ f)=_
   unfold swp
   rw[if_pos rfl]
  refine put_any D.d D.mb D.rb f.g ((D.k+1:Nat):Int) s hs I4 u e3.1.cel s4 (fun u1 hu1 => ?_)
  obtain⟨u',r1,r2,r3⟩:=(e3.1.below hu1).putSame hsz hl2
  exact⟨u',r1,q2,v,e1,e2,r2,(e3.2.1.below hu1).trans r3 (fun x hx=>.inl (by rw[List.mem_singleton.1 hx];show D.mb∈D.bl;unfold Dq.bl;simp)),e3.2.2⟩
end Wi
end Rg
end Go.Proofs.YtmcpagjhpfbpgaaGreatDoor
end
section
namespace Go.Proofs.YtmcpagjhpfbpgaaGreatDoor
open Go.RowKit
namespace Rg
namespace Wi
set_option maxRecDepth 100000
theorem DOk.chg {w u:World} {D:Dq} {L:List Nat} (h:DOk w D) (hc:Chg L w u) (hn:∀ x∈L,x∉D.bl):DOk u D:=by
 obtain⟨X,x1,x2,x3,x4⟩:=h.mp
 obtain⟨n,Y,y1,y2⟩:=h.rm
 have hd:D.d∈D.bl:=by unfold Dq.bl;simp
 have hm:D.mb∈D.bl:=by unfold Dq.bl;simp
 have hr:D.rb∈D.bl:=by unfold Dq.bl;simp
 exact⟨hc.mm h.cel (fun p hp hx=>by obtain rfl:=List.mem_singleton.1 hp;exact hn _ hx hd),⟨X,zQ x1 (hc.block _ x1.lt (fun hx=>hn _ hx hm)),x2,x3,x4⟩,⟨n,Y,zQ y1 (hc.block _ y1.lt (fun hx=>hn _ hx hr)),y2⟩,fun f hf=>(h.fl f hf).chg hc (fun x hx hx2=>hn x hx2 (Dq.fbl hf x hx)),h.ap,h.hd,h.h3,h.un,h.k1,h.n64⟩
def newF (s:ByteArray) (g:Nat):Fq:=⟨s,g,.slice none 0 0,.slice none 0 0,0,fun _=>0,[],true⟩
theorem newF_bl (s:ByteArray) (g:Nat):∀ x∈(newF s g).bl,x=g:=fun x hx=>by
 unfold Fq.bl newF fbl at hx
 simpa [Value.ownBlock] using hx
theorem newF_ok {u:World} (s:ByteArray) {g:Nat} (hm:Mm u [(g,[Value.slice none 0 0,Value.slice none 0 0,Value.bool true])]):FOk u (newF s g) :=
 ⟨hm,⟨World.ownsRow_nil _ _ _ _,World.ownsRow_nil _ _ _ _,fun o ho=>(by cases ho)⟩,⟨fun hx=>(by cases hx),fun hx=>(by cases hx),fun o ho=>(by cases ho),fun x hx=>(by cases hx),fun x hx=>(by cases hx),fun x hx=>(by cases hx)⟩,fun i hi=>absurd hi (Nat.not_lt_zero _),Nat.zero_le _,Nat.zero_le _⟩
theorem Append_new_f (D:Dq) (s:ByteArray) (hs:s.size≤281474976710656) (q:Pt8) (w:World) (h:DOk w D) (hk:D.k+1<4611686018427387904) (hq:Rq q D w) (hno:D.no=false) (hnm:nmd s=true) (hl:lk D.fs s=none) (hL64:D.fs.length<64) (hL:q.n≤1048576) :
  Calls Tryz.prog 35 #[PT D.d 0,.string s,.slice q.p q.n q.cp] w fun e w'=>e=.returned (.int .i64 0)∧∃ (g:Nat) (q2:Pt8) (v:Value),q2.n=q.n∧q2.f=q.f∧Dw w D (D.tick.add ((newF s g).more v (appo 0 q2))) w':=by
 have hsz:s.size≤maxLen:=by unfold maxLen;omega
 have hb0:∀ u u',Below w.heap.size w u→Below u.heap.size u u'→Below w.heap.size w u':=fun u u' h1 h2=>h1.trans (h2.mono h1.size)
 let I5:Nat→World→Prop:=fun g u=>Dw w D D.tick u∧FOk u (newF s g)∧g∉D.bl∧w.heap.size≤g
 let I2:Nat→Pt8→World→Prop:=fun g q2 u=>I5 g u∧(appo 0 q2).ok u∧q2.n=q.n∧q2.f=q.f∧(0<q2.n→q2.gb∉D.bl∧q2.gb≠g∧w.heap.size≤q2.gb)
 let I3:Nat→World→Prop:=fun g u=>∃ (q2:Pt8) (v:Value),q2.n=q.n∧q2.f=q.f∧Dw w D D.tick u∧FOk u ((newF s g).more v (appo 0 q2))∧∀ x∈((newF s g).more v (appo 0 q2)).bl,x∉D.bl∧w.heap.size≤x
 let I4:World→Prop:=fun u=>∃ (g:Nat) (q2:Pt8) (v:Value),q2.n=q.n∧q2.f=q.f∧Dw w D (D.tick.add ((newF s g).more v (appo 0 q2))) u
 have s5:∀ g u u',I5 g u→Below u.heap.size u u'→I5 g u':=fun g u u' ⟨e1,e2,e3,e4⟩ hb=>⟨Dw.step _ _ e1 hb,e2.below hb,e3,e4⟩
 have s4:∀ u u',I4 u→Below u.heap.size u u'→I4 u':=fun u u' ⟨g,q2,v,e1,e2,e3⟩ hb=>⟨g,q2,v,e1,e2,Dw.step _ _ e3 hb⟩
 refine Append_new D.d D.mb D.rb D.fs.length 0 s q ((D.k+1:Nat):Int) hL64 (Nat.zero_le _) (by omega) (by omega) (fun u=>Below w.heap.size w u) (Dw w D D.tick) I5 I2 I3 I4 w (Below.refl _ _) hb0 Dw.step s5 ?_ ?_ (fun u hu=>hu.1.cel) ?_ ?_ ?_ ?_
  (fun g q2 u u' ⟨e1,e2,e3,e4,e5⟩ hb=>⟨s5 _ _ _ e1 hb,e2.below hb,e3,e4,e5⟩) (fun g u u' ⟨q2,v,e1,e2,e3,e4,e5⟩ hb=>⟨q2,v,e1,e2,Dw.step _ _ e3 hb,e4.below hb,e5⟩) s4 ?_ ?_ ?_
 ·intro u hu
  exact(count_f D u (h.below hu) hk).mono fun e u' hh=>⟨by rw[hh.1,hno];rfl,hh.2.1,(Chg.of hu).trans hh.2.2 (fun x hx=>.inl hx),fun x hx=>.inl hx⟩
 ·intro u _
  exact(named_any s u).mono fun e u' hh=>⟨by rw[hh.1,hnm],hh.2⟩
 ·intro u hu
  have e:=hu.1.look (u:=u) s hsz rfl
  rw[show lk D.tick.fs s=none from hl] at e
  exact e
 ·intro u hu ty
  obtain⟨X,x1,_,_,x4⟩:=hu.1.mp
  have e:=x1.len Tryz.underlying59 ty
  rw[x4] at e
  exact e
 ·intro u hu
  have hb:Below u.heap.size u (u.alloc (.cells ([Value.slice none 0 0,Value.slice none 0 0,Value.bool true]:List Value).toArray 154)):=(Below.refl _ _).alloc (Nat.le_refl _) _
  exact⟨Dw.step _ _ hu hb,newF_ok s ((Mm.nil u).alloc _ _ rfl),fun hx=>absurd (hu.1.blt _ hx) (Nat.lt_irrefl _),hu.2.1.size⟩
 ·intro g u hu
  exact size_f (newF s g) u hu.2.1
 ·intro g u hu
  obtain⟨r1,r2,r3⟩:=hq.chg hu.1.2.1
  refine(clone_any q (by omega) u r1 r2 r3).mono fun e u' hh => ?_
  obtain⟨v,e1,e2⟩:=hh
  obtain⟨q2,t1,t2,t3,t4,t5,t6,t7⟩:=e2.part
  exact⟨q2,by rw[e1,t1],s5 _ _ _ hu e2.b,⟨t2,t3,t6⟩,t4,t5,fun hn=>⟨fun hx=>absurd (hu.1.1.blt _ hx) (Nat.not_lt.2 (t7 hn)),fun hx=>absurd hu.2.1.glt (Nat.not_lt.2 (by rw[← hx];exact t7 hn)),Nat.le_trans hu.1.2.1.size (t7 hn)⟩⟩
 ·intro g q2 u hu
  obtain⟨e1,e2,e3,e4,e5⟩:=hu
  have hap:∀ x∈uob (appo 0 q2),x∉(newF s g).bl:=fun x hx hx2=>by
   obtain⟨k1,k2⟩:=uob_at hx
   exact(e5 k1).2.1 (by rw[← newF_bl s g x hx2];exact k2.symm)
  refine(begin_f (newF s g) (appo 0 q2) u e1.2.1 (show 0<1000000 by omega) e2 hap (Nat.le_refl _) (by show 0+q2.n≤_;rw[e3];omega) (.inl rfl)).mono fun e u' hh => ?_
  obtain⟨k1,v,k2,k3,k4⟩:=hh
  have hg:∀ x∈(newF s g).bl,x∉D.tick.bl:=fun x hx=>by rw[newF_bl s g x hx];exact e1.2.2.1
  have hg2:∀ x∈(newF s g).bl,w.heap.size≤x:=fun x hx=>by rw[newF_bl s g x hx];exact e1.2.2.2
  refine⟨k1,q2,v,e3,e4,⟨e1.1.1.chg k3 hg,e1.1.2.1.trans k3 (fun x hx=>.inr (hg2 x hx)),e1.1.2.2⟩,k2,fun x hx => ?_⟩
  rcases more_bl (f:=newF s g) (v:=v) (o:=appo 0 q2) (B:=fun x=>x∉D.bl∧w.heap.size≤x) (fun x hx=>(k4 x hx).imp_right (fun hx2=>⟨fun hm=>absurd (e1.1.1.blt x hm) (Nat.not_lt.2 hx2),Nat.le_trans e1.1.2.1.size hx2⟩)) (fun x hx=>.inr (by obtain⟨t1,t2⟩:=uob_at hx;rw[t2];exact⟨(e5 t1).1,(e5 t1).2.2⟩)) x hx with e | e
  ·exact⟨hg x e,hg2 x e⟩
  ·exact e
 ·intro g u hu
  obtain⟨q2,v,e1,e2,e3,e4,e5⟩:=hu
  refine put_any D.d D.mb D.rb g ((D.k+1:Nat):Int) s hs I4 u e3.1.cel s4 (fun u1 hu1 => ?_)
  obtain⟨u',r1,r2,r3⟩:=(e3.1.below hu1).putNew (f:=(newF s g).more v (appo 0 q2)) hsz hl (e4.below hu1) hL64 (fun x hx=>(e5 x hx).1)
  exact⟨u',r1,g,q2,v,e1,e2,r2,(e3.2.1.below hu1).trans r3 (fun x hx=>.inl (by rw[List.mem_singleton.1 hx];show D.mb∈D.bl;unfold Dq.bl;simp)),fun x hx=>(Dq.add_bl hx).elim (e3.2.2 x) (fun e=>.inr (e5 x e).2)⟩
end Wi
end Rg
end Go.Proofs.YtmcpagjhpfbpgaaGreatDoor
end
section
namespace Go.Proofs.YtmcpagjhpfbpgaaGreatDoor
open Go.RowKit
namespace Rg
namespace Wi
set_option maxRecDepth 100000
open Go.Shelf Go.Maps
theorem key_string {v:Value} {kl:Lit} (h:keyOf Tryz.prog 9 v=some kl):∃ s:ByteArray,v=.string s∧kl=ky s∧s.size≤maxLen:=by
 rw[keyOf_string Tryz.underlying9] at h
 unfold mapKey at h
 rw[Tryz.underlying9] at h
 split at h
 ·exact absurd (by assumption:some TypeDesc.string=some TypeDesc.bool) (by simp)
 ·have := ‹some TypeDesc.string=some (TypeDesc.int _)›
  cases this
 ·rename_i s _
  split at h
  ·rename_i hs
   exact⟨s,rfl,(Option.some.inj h).symm,hs⟩
  ·cases h
 ·cases h
theorem RK_inv {v:Value} {x:Kv} {ps:List MemPlace} (h:RK v=some (kdt x,ps)):v=kvv x:=by
 unfold RK at h
 split at h
 ·rename_i s a c
  simp only[Option.some.injEq,Prod.mk.injEq,kdt,DataW.agg.injEq,List.cons.injEq,DataW.lit.injEq,Lit.int.injEq,true_and,and_true] at h
  obtain⟨⟨h1,h2,h3⟩,h4⟩:=h
  have:=ky_inj (s:=s) (t:=x.1.1) h1
  subst this
  subst h2
  subst h3
  rfl
 ·cases h
theorem crash1_f (f:Fq) (x:Kv) (bx m:Nat) (w:World) (h:FOk w f) (hb:Boxed w bx 113 (.map (some m))) (hlk:(Instr.lookup 113 (.map (some m)) (.string f.nm) false).run Tryz.prog w=.ok (kvv x) w) :
  Calls Tryz.prog 64 #[.string f.nm,PT f.g 0,.pointer (some ⟨bx,0,none⟩)] w fun e w'=>e=.returned (.bool (!f.there x.1.2.1 x.1.2.2))∧∃ s',FOk w' (f.set s' x.1.2.1 x.1.2.2)∧Chg f.bl w w'∧∀ y∈(f.set s' x.1.2.1 x.1.2.2).bl,y∈f.bl∨w.heap.size≤y:=by
 have cB:=hb.cell
 have HF:Hid _:=h
 clear h hb
 unfold kvv at hlk
 go_enter Tryz.func64,Tryz.ntmps64
 go_wp2_with (first
  | (go_at_call 65;refine(settle_f f _ _ _ (HF.out.below ((Below.refl _ w).alloc (Nat.le_refl _) _))).mono ?_;rintro e w2 ⟨rfl,s',h1,h2⟩)
  | go_in)
 go_ret
 obtain⟨h3,h4,h5⟩:=(HF.out.below ((Below.refl _ w).alloc (Nat.le_refl _) _)).settled h1 h2
 exact⟨rfl,s',h3,(Chg.of ((Below.refl _ w).alloc (Nat.le_refl _) _)).trans h4 (fun _ hx=>.inl hx),fun y hy=>(h5 y hy).imp_right (fun e=>by simp at e;omega)⟩
def kof (pre:List (Nat×Kv)) (s:ByteArray):Kv:=match pre.reverse.find? (fun x=>decide (x.2.1.1=s)) with | some x=>x.2 | none=>kv0
theorem ky_key {s:ByteArray} (hs:s.size≤maxLen):WideAt.IsKeyLit (ky s):=(Maps.string_keyed Tryz.underlying9).key (WideMaps.keyOf_string_mk Tryz.underlying9 hs)
theorem fD_rev (s:ByteArray):∀ l:List (Nat×Kv),IsMap (fD l.reverse)∧(fD l.reverse).atKey (ky s) (kdt kv0)=kdt (kof l.reverse s)
 | []=>⟨⟨_,rfl⟩,rfl⟩
 | x :: l=>by
  obtain⟨⟨es,h0⟩,h1⟩:=fD_rev s l
  rw[List.reverse_cons,fD_snoc]
  refine⟨by rw[h0];exact⟨_,rfl⟩,?_⟩
  unfold kof at h1 ⊢
  rw[List.reverse_reverse] at h1
  rw[List.reverse_append,List.reverse_reverse,List.reverse_cons,List.reverse_nil,List.nil_append,List.cons_append,List.nil_append,List.find?_cons]
  by_cases e:x.2.1.1=s
  ·rw[decide_eq_true e,← e]
   exact atKey_put_same ⟨es,h0⟩ (ky_key x.2.2.1) _ _
  ·rw[decide_eq_false e,atKey_put_other (fun hk=>e (ky_inj hk).symm)]
   exact h1
theorem fD_at (pre:List (Nat×Kv)) (s:ByteArray):(fD pre).atKey (ky s) (kdt kv0)=kdt (kof pre s):=by
 have:=(fD_rev s pre.reverse).2
 rwa [List.reverse_reverse] at this
def Fq.aft (K:ByteArray→Kv) (σ:ByteArray→Value) (f:Fq):Fq:=f.set (σ f.nm) (K f.nm).1.2.1 (K f.nm).1.2.2
def Fq.stay (K:ByteArray→Kv) (f:Fq):Bool:=f.there (K f.nm).1.2.1 (K f.nm).1.2.2
def cur (K:ByteArray→Kv) (σ:ByteArray→Value) (left:Lit→Bool) (f:Fq):Fq:=match left (ky f.nm) with | true=>f | false=>f.aft K σ
theorem cur_t {K:ByteArray→Kv} {σ:ByteArray→Value} {left:Lit→Bool} {f:Fq} (h:left (ky f.nm)=true):cur K σ left f=f:=by unfold cur;rw[h]
theorem cur_f {K:ByteArray→Kv} {σ:ByteArray→Value} {left:Lit→Bool} {f:Fq} (h:left (ky f.nm)=false):cur K σ left f=f.aft K σ:=by unfold cur;rw[h]
structure CI (W:World) (D:Dq) (K:ByteArray→Kv) (r:Nat) (left:Lit→Bool) (u:World):Prop where
 rr:r=W.heap.size
 sz:W.heap.size<u.heap.size
 ch:Chg (r :: D.mb :: D.fs.flatMap Fq.bl) W u
 ex:∃ σ,(∀ f∈D.fs,FOk u (cur K σ left f))∧(∀ f∈D.fs,∀ x∈(cur K σ left f).bl,x∈f.bl∨W.heap.size<x)∧∀ f∈D.fs,∀ g∈D.fs,f.nm≠g.nm→∀ x∈(cur K σ left f).bl,x∉(cur K σ left g).bl
theorem CI.step {W u u':World} {D:Dq} {K:ByteArray→Kv} {r x:Nat} {left:Lit→Bool} (h:DOk W D) (c:CI W D K r left u) (hx:x=r∨x=D.mb) (hg:u.grownBy u' (some x)):CI W D K r left u':=by
 have hc:Chg [x] u u':=Chg.grown hg
 obtain⟨σ,h1,h2,h3⟩:=c.ex
 have hmb:D.mb<W.heap.size:=h.blt D.mb (by unfold Dq.bl;simp)
 refine⟨c.rr,Nat.lt_of_lt_of_le c.sz hc.size,c.ch.trans hc (fun y hy=>.inl ?_),σ,fun f hf=>(h1 f hf).chg hc (fun y hy hm => ?_),h2,h3⟩
 ·rw[List.mem_singleton.1 hy]
  rcases hx with e | e <;> rw[e] <;> simp
 ·rw[List.mem_singleton.1 hm] at hy
  have hr:=c.rr
  rcases h2 f hf x hy with e | e
  ·have hlt:=(h.fl f hf).lt x e
   rcases hx with hx | hx
   ·omega
   ·exact(h.hd f hf x e).2.1 hx
  ·rcases hx with hx | hx <;> omega
theorem CI.start {W u:World} {D:Dq} {K:ByteArray→Kv} {X:DataW Nat} (h:DOk W D) (hs:u.heap.size=W.heap.size+1) (hg:W.grownBy u none) (hX:∀ s,Maps.has X (ky s)=(lk D.fs s).isSome):CI W D K W.heap.size (Maps.has X) u:=by
 have hc:Chg [] W u:=Chg.grown hg
 have hl:∀ f∈D.fs,cur K (fun _=>undef) (Maps.has X) f=f:=fun f hf=>cur_t (by
  rw[hX]
  unfold lk
  rw[List.find?_isSome]
  exact⟨f,hf,decide_eq_true rfl⟩)
 refine⟨rfl,by omega,hc.mono (fun x hx=>by cases hx),fun _=>undef,fun f hf => ?_,fun f hf x hx => ?_,fun f hf g hg' hne x hx => ?_⟩
 ·rw[hl f hf];exact(h.fl f hf).chg hc (fun _ _ hx=>by cases hx)
 ·rw[hl f hf] at hx;exact .inl hx
 ·rw[hl f hf] at hx;rw[hl g hg'];exact h.ap f hf g hg' hne x hx
theorem CI.del {W u u':World} {D:Dq} {K:ByteArray→Kv} {r:Nat} {left:Lit→Bool} {f:Fq} {s':Value} (h:DOk W D) (c:CI W D K r left u) (hf:f∈D.fs) (hs:f.nm.size≤maxLen) (hl:left (ky f.nm)=true)
  (hF:FOk u' (f.set s' (K f.nm).1.2.1 (K f.nm).1.2.2)) (hc:Chg f.bl u u') (hb:∀ y∈(f.set s' (K f.nm).1.2.1 (K f.nm).1.2.2).bl,y∈f.bl∨u.heap.size≤y):CI W D K r (fun z=>left z && !z.sameKey (ky f.nm)) u':=by
 obtain⟨σ,h1,h2,h3⟩:=c.ex
 have hsz:=c.sz
 have cf:cur K σ left f=f:=cur_t hl
 have hA:cur K (fun t=>if t=f.nm then s' else σ t) (fun z=>left z && !z.sameKey (ky f.nm)) f=f.set s' (K f.nm).1.2.1 (K f.nm).1.2.2:=by
  rw[cur_f (by show (left (ky f.nm) && !(ky f.nm).sameKey (ky f.nm))=false;rw[WideAt.sameKey_self (ky_key hs),Bool.not_true,Bool.and_false])]
  unfold Fq.aft
  show f.set (if f.nm=f.nm then s' else σ f.nm) _ _=_
  rw[if_pos rfl]
 have hB:∀ g:Fq,g.nm≠f.nm→cur K (fun t=>if t=f.nm then s' else σ t) (fun z=>left z && !z.sameKey (ky f.nm)) g=cur K σ left g:=fun g hne=>by
  have e:(ky g.nm).sameKey (ky f.nm)=false:=by
   cases e:(ky g.nm).sameKey (ky f.nm) with
   | false=>rfl
   | true=>exact absurd (ky_inj (WideAt.sameKey_eq e)) hne
  have ea:Fq.aft K (fun t=>if t=f.nm then s' else σ t) g=Fq.aft K σ g:=by
   unfold Fq.aft
   show g.set (if g.nm=f.nm then s' else σ g.nm) _ _=_
   rw[if_neg hne]
  cases hlg:left (ky g.nm) with
  | true=>rw[cur_t hlg,cur_t (by show (left (ky g.nm) && !(ky g.nm).sameKey (ky f.nm))=true;rw[e,hlg];rfl)]
  | false=>rw[cur_f hlg,cur_f (by show (left (ky g.nm) && !(ky g.nm).sameKey (ky f.nm))=false;rw[hlg,Bool.false_and]),ea]
 have key:∀ g∈D.fs,g=f∨g.nm≠f.nm:=fun g hg=>by
  by_cases e:g.nm=f.nm
  ·exact .inl (nm_inj h.un hg hf e)
  ·exact .inr e
 have hfb:∀ y∈f.bl,y∈r :: D.mb :: D.fs.flatMap Fq.bl:=fun y hy=>List.mem_cons_of_mem _ (List.mem_cons_of_mem _ (List.mem_flatMap.2 ⟨f,hf,hy⟩))
 refine⟨c.rr,Nat.lt_of_lt_of_le hsz hc.size,c.ch.trans hc (fun y hy=>.inl (hfb y hy)),fun t=>if t=f.nm then s' else σ t,fun g hg => ?_,fun g hg x hx => ?_,fun g hg g' hg' hne x hx hx' => ?_⟩
 ·rcases key g hg with e | e
  ·rw[e,hA];exact hF
  ·rw[hB g e]
   exact(h1 g hg).chg hc (fun x hx=>by have:=h3 g hg f hf e x hx;rwa [cf] at this)
 ·rcases key g hg with e | e
  ·rw[e,hA] at hx
   rw[e]
   exact(hb x hx).imp_right (fun e=>by omega)
  ·rw[hB g e] at hx;exact h2 g hg x hx
 ·have lo:∀ y:Fq,y∈D.fs→y.nm≠f.nm→∀ z∈(cur K σ left y).bl,z∉(f.set s' (K f.nm).1.2.1 (K f.nm).1.2.2).bl:=fun y hy e z hz hz'=>by
   rcases hb z hz' with q | q
   ·have:=h3 y hy f hf e z hz
    rw[cf] at this
    exact this q
   ·have:=(h1 y hy).lt z hz
    omega
  rcases key g hg with e | e
  ·rw[e,hA] at hx
   rw[e] at hne
   rw[hB g' (Ne.symm hne)] at hx'
   exact lo g' hg' (Ne.symm hne) x hx' hx
  ·rw[hB g e] at hx
   rcases key g' hg' with e' | e'
   ·rw[e',hA] at hx'
    exact lo g hg e x hx hx'
   ·rw[hB g' e'] at hx'
    exact h3 g hg g' hg' hne x hx hx'
end Wi
end Rg
end Go.Proofs.YtmcpagjhpfbpgaaGreatDoor
end
section
namespace Go.Proofs.YtmcpagjhpfbpgaaGreatDoor
open Go.RowKit
namespace Rg
namespace Wi
set_option maxRecDepth 100000
open Go.Shelf Go.Maps
theorem call64:CO 64:=by intro args w;go_simp
def pdk (D:Dq) (K:ByteArray→Kv):Lit→Bool
 | .string l=>match lk D.fs ⟨l.toArray⟩ with | some f => !f.stay K | none=>false
 | _=>false
theorem pdk_ky (D:Dq) (K:ByteArray→Kv) (s:ByteArray):pdk D K (ky s)=match lk D.fs s with | some f => !f.stay K | none=>false:=by
 unfold pdk ky
 simp only[Array.toArray_toList]
theorem del_at (q:Lit→Bool) (es:List (Lit×DataW Nat)) (k:Lit) (z:DataW Nat):(Lib.deleteFuncD (fun a _=>q a) (.map es)).atKey k z=if q k=true then z else (DataW.map es).atKey k z:=by
 unfold Lib.deleteFuncD DataW.atKey
 simp only
 cases hq:q k with
 | true =>
  rw[if_pos rfl,List.find?_eq_none.2 (fun x hx hs=>by
   have h1:=(List.mem_filter.1 hx).2
   rw[WideAt.sameKey_eq hs,hq] at h1
   cases h1)]
 | false =>
  rw[if_neg (by decide),find_keep es (fun x hs=>by rw[WideAt.sameKey_eq hs,hq];rfl)]
theorem del_has (q:Lit→Bool) (es:List (Lit×DataW Nat)) (k:Lit):Maps.has (Lib.deleteFuncD (fun a _=>q a) (.map es)) k=(!q k && Maps.has (.map es) k):=by
 show (es.filter fun p => !q p.1).any (fun p=>p.1.sameKey k)=(!q k && es.any (fun p=>p.1.sameKey k))
 rw[Bool.eq_iff_iff]
 simp only[List.any_eq_true,List.mem_filter,Bool.and_eq_true]
 constructor
 ·rintro⟨x,⟨h1,h2⟩,h3⟩
  rw[WideAt.sameKey_eq h3] at h2
  exact⟨h2,x,h1,h3⟩
 ·rintro⟨h2,x,h1,h3⟩
  exact⟨x,⟨h1,by rw[WideAt.sameKey_eq h3];exact h2⟩,h3⟩
theorem del_size {w:World} {b n:Nat} {es:List (Lit×DataW Nat)} {fs:List Fq} (h:w.ownsMap Tryz.prog 9 RF b n (.map es)) (hh:∀ s,Maps.has (.map es) (ky s)=(lk fs s).isSome) (un:(fs.map Fq.nm).Nodup) (q:Lit→Bool):(es.filter fun p => !q p.1).length=(fs.filter fun f => !q (ky f.nm)).length:=by
 have hst:∀ p∈es,∃ s,p.1=ky s:=fun p hp=>by
  obtain⟨es0,clock,_,F,_,e⟩:=h
  injection e with e
  rw[e] at hp
  obtain⟨x,hx,rfl⟩:=List.mem_map.1 (mem_sorted.1 hp)
  obtain⟨y,hy⟩:=F.reads x hx
  rw[WideElems.rg_of hy]
  obtain⟨s,_,e2,_⟩:=key_string (WideElems.rd_key hy)
  exact⟨s,e2⟩
 have hks:∀ p∈es,WideAt.IsKeyLit p.1:=fun p hp=>by
  obtain⟨es1,e,_,h2⟩:=h.entries (Maps.string_keyed Tryz.underlying9)
  injection e with e
  exact h2 p (e ▸ hp)
 have hnd:(es.map Prod.fst).Nodup:=by
  obtain⟨es1,e,h1,_⟩:=h.entries (Maps.string_keyed Tryz.underlying9)
  injection e with e
  rw[e]
  exact List.pairwise_map.2 h1
 have hnf:(fs.map fun f=>ky f.nm).Nodup:=by
  have:(fs.map fun f=>ky f.nm)=(fs.map Fq.nm).map ky:=by rw[List.map_map];rfl
  rw[this]
  exact List.pairwise_map.2 (un.imp (fun hne e=>hne (ky_inj e)))
 have hp:(es.map Prod.fst).Perm (fs.map fun f=>ky f.nm):=(List.perm_ext_iff_of_nodup hnd hnf).2 (fun a=>by
  constructor
  ·intro ha
   obtain⟨p,hp,rfl⟩:=List.mem_map.1 ha
   obtain⟨s,e⟩:=hst p hp
   have h1:Maps.has (.map es) (ky s)=true:=by
    rw[← e]
    exact List.any_eq_true.2 ⟨p,hp,WideAt.sameKey_self (hks p hp)⟩
   rw[hh] at h1
   obtain⟨f,hf⟩:=Option.isSome_iff_exists.1 h1
   obtain⟨h2,h3⟩:=lk_mem hf
   exact List.mem_map.2 ⟨f,h2,by rw[h3,e]⟩
  ·intro ha
   obtain⟨f,hf,rfl⟩:=List.mem_map.1 ha
   have h1:(lk fs f.nm).isSome=true:=by
    unfold lk
    rw[List.find?_isSome]
    exact⟨f,hf,decide_eq_true rfl⟩
   rw[← hh] at h1
   obtain⟨p,hp,h2⟩:=List.any_eq_true.1 h1
   exact List.mem_map.2 ⟨p,hp,WideAt.sameKey_eq h2⟩)
 have h1:=(hp.filter (fun a => !q a)).length_eq
 rw[List.filter_map,List.filter_map,List.length_map,List.length_map] at h1
 exact h1
theorem find_keepM {α:Type} {p q:α→Bool}:∀ (l:List α),(∀ x∈l,p x=true→q x=true)→(l.filter q).find? p=l.find? p
 | [],_=>rfl
 | x :: r,h=>by
  have ih:=find_keepM r (fun y hy=>h y (List.mem_cons_of_mem _ hy))
  cases hq:q x with
  | true =>
   rw[List.filter_cons_of_pos hq,List.find?_cons,List.find?_cons,ih]
  | false =>
   have hp:p x=false:=by
    cases hp:p x with
    | false=>rfl
    | true=>rw[h x (List.mem_cons_self ..) hp] at hq;cases hq
   rw[List.filter_cons_of_neg (by rw[hq];decide),List.find?_cons,hp,ih]
def Dq.aft (K:ByteArray→Kv) (σ:ByteArray→Value) (D:Dq):Dq:=⟨D.d,D.mb,D.rb,D.k,(D.fs.filter (Fq.stay K)).map (Fq.aft K σ),D.rf⟩
theorem lk_aft (K:ByteArray→Kv) (σ:ByteArray→Value) {fs:List Fq} (un:(fs.map Fq.nm).Nodup) (s:ByteArray):lk ((fs.filter (Fq.stay K)).map (Fq.aft K σ)) s=match lk fs s with | some f=>if f.stay K=true then some (f.aft K σ) else none | none=>none:=by
 have e0:lk ((fs.filter (Fq.stay K)).map (Fq.aft K σ)) s=((fs.filter (Fq.stay K)).find? (fun f=>decide (f.nm=s))).map (Fq.aft K σ):=by
  unfold lk
  rw[List.find?_map]
  rfl
 rw[e0]
 cases hl:lk fs s with
 | none =>
  rw[List.find?_eq_none.2 (fun x hx hs=>lk_none hl x (List.mem_filter.1 hx).1 (of_decide_eq_true hs))]
  rfl
 | some f =>
  obtain⟨h1,h2⟩:=lk_mem hl
  show _=if f.stay K=true then some (f.aft K σ) else none
  cases hs:f.stay K with
  | true =>
   rw[if_pos rfl,find_keepM fs (fun x hx hd=>by rw[nm_inj un hx h1 ((of_decide_eq_true hd).trans h2.symm)];exact hs)]
   show (lk fs s).map _=_
   rw[hl]
   rfl
  | false =>
   rw[if_neg (by decide),List.find?_eq_none.2 (fun x hx hd=>by
    obtain⟨g1,g2⟩:=List.mem_filter.1 hx
    have e:=nm_inj un g1 h1 ((of_decide_eq_true hd).trans h2.symm)
    rw[e,hs] at g2
    cases g2)]
   rfl
theorem CI.disk {W u:World} {D:Dq} {K:ByteArray→Kv} {r n:Nat} {left:Lit→Bool} {es:List (Lit×DataW Nat)} (h:DOk W D) (h0:W.ownsMap Tryz.prog 9 RF D.mb D.fs.length (.map es)) (ha:∀ s,(DataW.map es).atKey (ky s) .nil=dv (lk D.fs s)) (hh:∀ s,Maps.has (.map es) (ky s)=(lk D.fs s).isSome)
  (c:CI W D K r left u) (hl:∀ kl,left kl=false) (hm:u.ownsMap Tryz.prog 9 RF D.mb n (Lib.deleteFuncD (fun a _=>pdk D K a) (.map es))):∃ σ,DOk u (D.aft K σ)∧Chg D.bl W u∧∀ x∈(D.aft K σ).bl,x∈D.bl∨W.heap.size≤x:=by
 obtain⟨σ,h1,h2,h3⟩:=c.ex
 have hcu:∀ f,cur K σ left f=f.aft K σ:=fun f=>cur_f (hl _)
 have hrr:=c.rr
 have hlt:∀ x∈D.bl,x<W.heap.size:=h.blt
 have hch:Chg D.bl W u:=c.ch.mono (fun x hx=>by
  rcases List.mem_cons.1 hx with e | e
  ·exact .inr (by omega)
  ·refine .inl ?_
   unfold Dq.bl
   rcases List.mem_cons.1 e with e | e
   ·rw[e];simp
   ·exact List.mem_cons_of_mem _ (List.mem_cons_of_mem _ (List.mem_cons_of_mem _ e)))
 have hmem:∀ y∈(D.aft K σ).fs,∃ f∈D.fs,y=f.aft K σ:=fun y hy=>by
  obtain⟨f,hf,e⟩:=List.mem_map.1 hy
  exact⟨f,(List.mem_filter.1 hf).1,e.symm⟩
 have hnm:∀ f:Fq,(f.aft K σ).nm=f.nm:=fun _=>rfl
 have hbl:∀ f∈D.fs,∀ x∈(f.aft K σ).bl,x∈f.bl∨W.heap.size<x:=fun f hf x hx=>h2 f hf x (by rw[hcu];exact hx)
 have hdn:D.d∉r :: D.mb :: D.fs.flatMap Fq.bl:=fun hx=>by
  have:=hlt D.d (by unfold Dq.bl;simp)
  rcases List.mem_cons.1 hx with e | e
  ·omega
  ·rcases List.mem_cons.1 e with e | e
   ·exact h.h3.1 e
   ·obtain⟨f,hf,e⟩:=List.mem_flatMap.1 e
    exact(h.hd f hf _ e).1 rfl
 have hrn:D.rb∉r :: D.mb :: D.fs.flatMap Fq.bl:=fun hx=>by
  have:=hlt D.rb (by unfold Dq.bl;simp)
  rcases List.mem_cons.1 hx with e | e
  ·omega
  ·rcases List.mem_cons.1 e with e | e
   ·exact h.h3.2.2 e.symm
   ·obtain⟨f,hf,e⟩:=List.mem_flatMap.1 e
    exact(h.hd f hf _ e).2.2 rfl
 obtain⟨n',Y,y1,y2⟩:=h.rm
 have hsz:Maps.size (Lib.deleteFuncD (fun a _=>pdk D K a) (.map es))=(D.aft K σ).fs.length:=by
  show (es.filter fun p => !pdk D K p.1).length=((D.fs.filter (Fq.stay K)).map (Fq.aft K σ)).length
  rw[del_size h0 hh h.un,List.length_map]
  congr 1
  apply List.filter_congr
  intro f hf
  rw[pdk_ky]
  cases hl':lk D.fs f.nm with
  | none=>exact absurd rfl (lk_none hl' f hf)
  | some g =>
   obtain⟨g1,g2⟩:=lk_mem hl'
   rw[nm_inj h.un g1 hf g2]
   exact Bool.not_not _
 refine⟨σ,⟨c.ch.mm h.cel (fun p hp=>by obtain rfl:=List.mem_singleton.1 hp;exact hdn),⟨_,hsz ▸ ownMap_tight hm,fun s => ?_,fun s => ?_,hsz⟩,⟨n',Y,zQ y1 (c.ch.block _ y1.lt hrn),y2⟩,fun y hy => ?_,fun y hy z hz hne x hx => ?_,fun y hy x hx => ?_,h.h3,?_,h.k1,?_⟩,hch,fun x hx => ?_⟩
 ·rw[del_at,pdk_ky,ha]
  show _=dv (lk ((D.fs.filter (Fq.stay K)).map (Fq.aft K σ)) s)
  rw[lk_aft K σ h.un]
  cases lk D.fs s with
  | none=>rfl
  | some f=>cases hs:f.stay K <;> simp[hs,dv] <;> rfl
 ·rw[del_has,pdk_ky,hh]
  show _=(lk ((D.fs.filter (Fq.stay K)).map (Fq.aft K σ)) s).isSome
  rw[lk_aft K σ h.un]
  cases lk D.fs s with
  | none=>rfl
  | some f=>cases hs:f.stay K <;> simp[hs]
 ·obtain⟨f,hf,rfl⟩:=hmem y hy
  have:=h1 f hf
  rwa [hcu] at this
 ·obtain⟨f,hf,rfl⟩:=hmem y hy
  obtain⟨g,hg,rfl⟩:=hmem z hz
  have:=h3 f hf g hg hne x (by rw[hcu];exact hx)
  rwa [hcu] at this
 ·obtain⟨f,hf,rfl⟩:=hmem y hy
  rcases hbl f hf x hx with e | e
  ·exact h.hd f hf x e
  ·have e1:=hlt D.d (by unfold Dq.bl;simp)
   have e2:=hlt D.mb (by unfold Dq.bl;simp)
   have e3:=hlt D.rb (by unfold Dq.bl;simp)
   show x≠D.d∧x≠D.mb∧x≠D.rb
   omega
 ·show (((D.fs.filter (Fq.stay K)).map (Fq.aft K σ)).map Fq.nm).Nodup
  rw[List.map_map]
  exact(List.filter_sublist.map Fq.nm).nodup h.un
 ·show ((D.fs.filter (Fq.stay K)).map (Fq.aft K σ)).length≤64
  rw[List.length_map]
  exact Nat.le_trans (List.length_filter_le _ _) h.n64
 ·unfold Dq.bl at hx
  simp only[List.mem_cons,List.mem_flatMap] at hx
  rcases hx with e | e | e | ⟨y,hy,e⟩
  ·exact .inl (by unfold Dq.bl;rw[e];exact List.mem_cons_self ..)
  ·exact .inl (by unfold Dq.bl;rw[e];exact List.mem_cons_of_mem _ (List.mem_cons_self ..))
  ·exact .inl (by unfold Dq.bl;rw[e];exact List.mem_cons_of_mem _ (List.mem_cons_of_mem _ (List.mem_cons_self ..)))
  ·obtain⟨f,hf,rfl⟩:=hmem y hy
   exact(hbl f hf x e).elim (fun q=>.inl (Dq.fbl hf x q)) (fun q=>.inr (Nat.le_of_lt q))
theorem at_none {X:DataW Nat} {k:Lit} (h:Maps.has X k=false) (z:DataW Nat):X.atKey k z=z:=by
 unfold DataW.atKey
 split
 ·rename_i es
  have:es.find? (fun p=>p.1.sameKey k)=none:=List.find?_eq_none.2 (fun x hx hs=>by
   rw[show Maps.has (.map es) k=true from List.any_eq_true.2 ⟨x,hx,hs⟩] at h
   cases h)
  rw[this]
 ·rfl
theorem crash_del (D:Dq) (K:ByteArray→Kv) (bx m n:Nat) (X':DataW Nat) (W:World) (h:DOk W D) (hbx:Boxed W bx 113 (.map (some m))) (hm:W.ownsMap Tryz.prog 9 RK m n X') (hX':∀ s,X'.atKey (ky s) (kdt kv0)=kdt (K s)) (hb1:bx∉D.bl) (hb2:m∉D.bl) :
  Calls Tryz.prog 63 #[.map (some D.mb),.func (.func 64) #[] #[.pointer (some ⟨bx,0,none⟩)]] W fun e u=>e=.returned (.tuple #[])∧∃ σ,DOk u (D.aft K σ)∧Chg D.bl W u∧∀ x∈(D.aft K σ).bl,x∈D.bl∨W.heap.size≤x:=by
 obtain⟨X,x1,x2,x3,x4⟩:=h.mp
 obtain⟨es,rfl,_,_⟩:=x1.entries (Maps.string_keyed Tryz.underlying9)
 have hlt:=h.blt
 refine(delfunc_I (fun r left u=>CI W D K r left u) (fun a _=>pdk D K a) 64 #[.pointer (some ⟨bx,0,none⟩)] D.mb D.fs.length _ W call64 x1 ?_ ?_ ?_).mono ?_
 ·intro w' hs hg
  exact CI.start h hs hg x3
 ·intro r left u u' x c hx hg
  exact c.step h hx hg
 ·intro r left u key val kl yd yp c hkey hv hl hat
  obtain⟨s,rfl,rfl,hs⟩:=key_string hkey
  cases hf:lk D.fs s with
  | none =>
   have hn:Maps.has (.map es) (ky s)=false:=by rw[x3,hf];rfl
   have e1:=(at_none hn (.held 0)).symm.trans ((hat (.held 0)).trans ((hat (.held 1)).symm.trans (at_none hn (.held 1))))
   cases e1
  | some f =>
   obtain⟨g1,g2⟩:=lk_mem hf
   subst g2
   have e:yd=.held f.g:=(hat .nil).symm.trans ((x2 f.nm).trans (by rw[hf];rfl))
   subst e
   have hvv:=RF_held hv
   subst hvv
   obtain⟨σ,q1,_,_⟩:=c.ex
   have hFu:FOk u f:=by
    have:=q1 f g1
    rwa [cur_t hl] at this
   have hrr:=c.rr
   have hin:∀ x,x<W.heap.size→x∉D.bl→u.heap[x]?=W.heap[x]?:=fun x hx hn=>c.ch.block x hx (fun hm=>by
    rcases List.mem_cons.1 hm with e | e
    ·omega
    ·rcases List.mem_cons.1 e with e | e
     ·exact hn (by rw[e];unfold Dq.bl;simp)
     ·obtain⟨g,hg,e⟩:=List.mem_flatMap.1 e
      exact hn (Dq.fbl hg x e))
   have hbu:Boxed u bx 113 (.map (some m)):=(hin bx hbx.lt hb1).trans hbx
   obtain⟨v,ps,hr,hv⟩:=(zQ hm (hin m hm.lt hb2)).lookup (Maps.string_keyed Tryz.underlying9) Tryz.underlying113 (z:=kvv kv0) (by kernel_rfl) (zd:=kdt kv0) (zp:=[]) rfl (WideMaps.keyOf_string_mk Tryz.underlying9 hs)
   have e2:=hX' f.nm
   unfold ky at e2
   rw[e2] at hv
   rw[RK_inv hv] at hr
   refine(crash1_f f (K f.nm) bx m u hFu hbu hr).mono ?_
   rintro e u' ⟨rfl,s',q1,q2,q3⟩
   have hfl:=(h.fl f g1).lt
   refine⟨?_,c.del h g1 hs hl q1 q2 q3,q2.size,q2.block D.mb ?_ (fun hx=>(h.hd f g1 _ hx).2.1 rfl),q2.block r ?_ (fun hx=>by have:=hfl r hx;omega)⟩
   ·show _=Ending.returned (.bool (pdk D K (ky f.nm)))
    rw[pdk_ky,hf]
    rfl
   ·have:=hlt D.mb (by unfold Dq.bl;simp)
    have:=c.sz
    omega
   ·have:=c.sz
    omega
 ·rintro e w' ⟨rfl,hm',r,left,hl,c⟩
  exact⟨rfl,c.disk h x1 x2 x3 hl hm'⟩
theorem Crash_f (D:Dq) (a:Option Addr) (len cap:Nat) (zs:Nat→Kv) (hlen:len≤1152921504606846976) (w:World) (h:DOk w D) (hK:Kps w.heap.size w (.slice a len cap) len zs) :
  Calls Tryz.prog 22 #[PT D.d 0,.slice a len cap] w fun e w'=>e=.returned (.int .i64 0)∧∃ σ,Dw w D (D.aft (kof (kup (kbk len zs) len)) σ) w':=by
 have hlt:=h.blt
 refine(crash_in (fun N W2=>∃ σ,Dw w D (D.aft (kof (kup (kbk len zs) len)) σ) W2∧∀ x∈(D.aft (kof (kup (kbk len zs) len)) σ).bl,x∈D.bl∨N≤x) D.d D.mb D.rb _ a len cap zs hlen w h.cel hK ?_).mono ?_
 ·intro W bx m hB hbx hm hbox hown
  refine(crash_del D _ bx m len _ W (h.below hB) hbox hown (fun s=>fD_at _ s) (fun hx=>by have:=hlt _ hx;omega) (fun hx=>by have:=hlt _ hx;omega)).mono ?_
  rintro e u ⟨rfl,σ,q1,q2,q3⟩
  exact⟨rfl,fun D' h1 h2=>q2.block D' h2 (fun hx=>by have:=hlt _ hx;omega),σ,⟨q1,(Chg.of hB).trans q2 (fun x hx=>.inl hx),fun x hx=>(q3 x hx).imp_right (fun e=>Nat.le_trans hB.size e)⟩,q3⟩
 ·rintro e w' ⟨rfl,N,W2,D',⟨σ,⟨q1,q2,q3⟩,q4⟩,hD,hN,hd,rfl⟩
  have hc:Chg [D'] W2 (W2.putObj D' (.deferred none)):=Chg.grown (grownBy_putObj' _ _ _)
  refine⟨rfl,σ,q1.chg hc (fun x hx hm => ?_),q2.trans hc (fun x hx=>.inr (by rw[List.mem_singleton.1 hx];exact hD)),q3⟩
  rw[List.mem_singleton.1 hx] at hm
  rcases q4 D' hm with e | e
  ·have:=hlt _ e
   omega
  ·omega
end Wi
end Rg
end Go.Proofs.YtmcpagjhpfbpgaaGreatDoor
end
section
namespace Go.Proofs.YtmcpagjhpfbpgaaGreatDoor
open Go.RowKit
namespace Rg
namespace Wi
set_option maxRecDepth 100000
open Go.Shelf Go.Maps
theorem map_size {w:World} {b n:Nat} {X:DataW Nat} {fs:List Fq} (h:w.ownsMap Tryz.prog 9 RF b n X) (hh:∀ s,Maps.has X (ky s)=(lk fs s).isSome) (un:(fs.map Fq.nm).Nodup):Maps.size X=fs.length:=by
 obtain⟨es,rfl,_,_⟩:=h.entries (Maps.string_keyed Tryz.underlying9)
 have:=del_size h hh un (fun _=>false)
 have e1:(es.filter fun _ => !false)=es:=List.filter_eq_self.2 (fun _ _=>rfl)
 have e2:(fs.filter fun _ => !false)=fs:=List.filter_eq_self.2 (fun _ _=>rfl)
 rw[e1,e2] at this
 exact this
def Fq.ren (f:Fq) (t:ByteArray):Fq:=⟨t,f.g,f.s,f.u,f.n,f.P,f.ops,f.fr⟩
theorem FOk.ren {w:World} {f:Fq} (h:FOk w f) (t:ByteArray):FOk w (f.ren t):=⟨h.cel,h.fi,h.ap,h.vl,h.n1,h.m1⟩
def Dq.ren (D:Dq) (f:Fq) (s t:ByteArray):Dq:=⟨D.d,D.mb,D.rb,D.k,D.fs.filter (fun g=>decide (g.nm≠s∧g.nm≠t))++[f.ren t],D.rf⟩
theorem lk_fil {fs:List Fq} {s t x:ByteArray}:lk (fs.filter (fun g=>decide (g.nm≠s∧g.nm≠t))) x=if x=s∨x=t then none else lk fs x:=by
 unfold lk
 by_cases e:x=s∨x=t
 ·rw[if_pos e]
  refine List.find?_eq_none.2 (fun g hg hd => ?_)
  have h1:=of_decide_eq_true (List.mem_filter.1 hg).2
  have h2:=of_decide_eq_true hd
  rw[h2] at h1
  exact e.elim h1.1 h1.2
 ·rw[if_neg e]
  refine find_keepM fs (fun g _ hd=>decide_eq_true ?_)
  have h2:=of_decide_eq_true hd
  rw[h2]
  exact⟨fun q=>e (.inl q),fun q=>e (.inr q)⟩
theorem DOk.ren {w u:World} {D:Dq} {f:Fq} {s t:ByteArray} (h:DOk w D) (hl:lk D.fs s=some f) (hc:Chg [D.mb] w u) {X:DataW Nat} {n:Nat} (hm:u.ownsMap Tryz.prog 9 RF D.mb n X) (ha:∀ x,X.atKey (ky x) .nil=if x=t then .held f.g else if x=s then .nil else dv (lk D.fs x)) (hh:∀ x,Maps.has X (ky x)=(decide (x=t) || (!decide (x=s) && (lk D.fs x).isSome))):DOk u (D.ren f s t):=by
 obtain⟨hf,hfn⟩:=lk_mem hl
 have key:∀ y∈(D.ren f s t).fs,(y∈D.fs∧y.nm≠s∧y.nm≠t)∨y=f.ren t:=fun y hy=>(List.mem_append.1 hy).imp (fun q=>⟨(List.mem_filter.1 q).1,of_decide_eq_true (List.mem_filter.1 q).2⟩) List.mem_singleton.1
 have hlk:∀ x,lk (D.ren f s t).fs x=if x=t then some (f.ren t) else if x=s then none else lk D.fs x:=fun x=>by
  show lk (D.fs.filter (fun g=>decide (g.nm≠s∧g.nm≠t))++[f.ren t]) x=_
  rw[lk_add,lk_fil]
  by_cases e1:x=t
  ·rw[if_pos (.inr e1),if_pos e1,if_pos (show (f.ren t).nm=x from e1.symm)]
   rfl
  ·rw[if_neg e1,if_neg (show ¬(f.ren t).nm=x from fun q=>e1 q.symm),Option.or_none]
   by_cases e2:x=s
   ·rw[if_pos (.inl e2),if_pos e2]
   ·rw[if_neg (fun q=>q.elim e2 e1),if_neg e2]
 have hun:((D.ren f s t).fs.map Fq.nm).Nodup:=by
  show ((D.fs.filter (fun g=>decide (g.nm≠s∧g.nm≠t))++[f.ren t]).map Fq.nm).Nodup
  rw[List.map_append]
  refine List.nodup_append.2 ⟨(List.filter_sublist.map Fq.nm).nodup h.un,by simp,fun a ha b hb e => ?_⟩
  obtain⟨g,hg,rfl⟩:=List.mem_map.1 ha
  have:=List.mem_singleton.1 hb
  exact(of_decide_eq_true (List.mem_filter.1 hg).2).2 (e.trans this)
 have hh2:∀ x,Maps.has X (ky x)=(lk (D.ren f s t).fs x).isSome:=fun x=>by
  rw[hh,hlk]
  by_cases e1:x=t
  ·rw[if_pos e1,decide_eq_true e1];rfl
  ·rw[if_neg e1,decide_eq_false e1]
   by_cases e2:x=s
   ·rw[if_pos e2,decide_eq_true e2];rfl
   ·rw[if_neg e2,decide_eq_false e2];rfl
 have hsz:=map_size hm hh2 hun
 obtain⟨n',Y,y1,y2⟩:=h.rm
 have nin:∀ y∈D.fs,∀ x∈y.bl,x∉[D.mb]:=fun y hy x hx hq=>(h.hd y hy x hx).2.1 (List.mem_singleton.1 hq)
 refine⟨hc.mm h.cel (fun p hp hq => ?_),⟨X,hsz ▸ ownMap_tight hm,fun x => ?_,hh2,hsz⟩,⟨n',Y,zQ y1 (hc.block _ y1.lt (fun hq=>h.h3.2.2 (List.mem_singleton.1 hq).symm)),y2⟩,fun y hy => ?_,fun y hy z hz hne x hx => ?_,fun y hy x hx => ?_,h.h3,hun,h.k1,?_⟩
 ·obtain rfl:=List.mem_singleton.1 hp
  exact h.h3.1 (List.mem_singleton.1 hq)
 ·rw[ha,hlk]
  by_cases e1:x=t
  ·rw[if_pos e1,if_pos e1];rfl
  ·rw[if_neg e1,if_neg e1]
   by_cases e2:x=s
   ·rw[if_pos e2,if_pos e2];rfl
   ·rw[if_neg e2,if_neg e2]
 ·rcases key y hy with ⟨q1,_,_⟩ | rfl
  ·exact(h.fl y q1).chg hc (nin y q1)
  ·exact((h.fl f hf).chg hc (nin f hf)).ren t
 ·rcases key y hy with ⟨q1,q2,q3⟩ | rfl
  ·rcases key z hz with ⟨r1,_,_⟩ | rfl
   ·exact h.ap y q1 z r1 hne x hx
   ·exact h.ap y q1 f hf (fun e=>q2 (e.trans hfn)) x hx
  ·rcases key z hz with ⟨r1,r2,_⟩ | rfl
   ·exact h.ap f hf z r1 (fun e=>r2 (e.symm.trans hfn)) x hx
   ·exact absurd rfl hne
 ·rcases key y hy with ⟨q1,_,_⟩ | rfl
  ·exact h.hd y q1 x hx
  ·exact h.hd f hf x hx
 ·rw[← hsz]
  have e1:(D.ren f s t).fs.length≤D.fs.length:=by
   show (D.fs.filter (fun g=>decide (g.nm≠s∧g.nm≠t))++[f.ren t]).length≤_
   rw[List.length_append]
   have hlt:(D.fs.filter (fun g=>decide (g.nm≠s∧g.nm≠t))).length<D.fs.length:=by
    refine List.length_filter_lt_length_iff_exists.2 ⟨f,hf,?_⟩
    simp[hfn]
   exact hlt
  rw[hsz]
  exact Nat.le_trans e1 h.n64
theorem DOk.two {w:World} {D:Dq} {f:Fq} (h:DOk w D) (hf:f∈D.fs):Mm w [(D.d,[Value.map (some D.mb),Value.map (some D.rb),Value.int .i64 ((D.k:Nat):Int)]),(f.g,[f.s,f.u,Value.bool f.fr])]:=by
 have h1:=(h.fl f hf).cel
 have h2:=h.cel
 exact⟨fun p hp=>by
  rcases List.mem_cons.1 hp with e | e
  ·rw[e];exact h2.blk _ (List.mem_cons_self ..)
  ·exact h1.blk p e,List.Pairwise.cons (fun p hp e=>by
  rw[List.mem_singleton.1 hp] at e
  exact(h.hd f hf f.g (by unfold Fq.bl;exact List.mem_cons_self ..)).1 e.symm) h1.nd⟩
end Wi
end Rg
end Go.Proofs.YtmcpagjhpfbpgaaGreatDoor
end
section
namespace Go.Proofs.YtmcpagjhpfbpgaaGreatDoor
open Go.RowKit
namespace Rg
namespace Wi
set_option maxRecDepth 100000
theorem quiet_hit (d mb rb g m cu:Nat) (pu:Option Addr) (S:Value) (fr:Bool) (k:Int) (s:ByteArray) (hm0:m=0) (w:World) (hm:Mm w [(d,[Value.map (some mb),Value.map (some rb),Value.int .i64 k]),(g,[S,Value.slice pu m cu,Value.bool fr])]) (hlk0:∀ u,Below w.heap.size w u→(Instr.lookup 59 (.map (some mb)) (.string s) false).run Tryz.prog u=.ok (PT g 0) u) :
  Calls Tryz.prog 85 #[PT d 0,.string s] w (Rt w (.tuple #[PT g 0,.int .i64 0])):=by
 have H0:Hid (_∧_):=⟨hm,Below.refl w.heap.size w⟩
 clear hm
 have hlk:Hid _:=hlk0
 clear hlk0
 go_enter Tryz.func85,Tryz.ntmps85
 refine wp_seq ?_
 refine zG (l:=[0,1]) rfl (fun u0 hu0 => ?_)
 have H1:Hid (Mm u0 [(d,[Value.map (some mb),Value.map (some rb),Value.int .i64 k]),(g,[S,Value.slice pu m cu,Value.bool fr])]∧Below w.heap.size w u0):=by rw[hu0];exact H0
 clear hu0 H0
 refine zA (d:=4) (v:=.pointer none) (w':=u0) rfl rfl rfl rfl ?_
 simp only[Act.put,sa,sz,ss]
 refine zA (d:=5) (v:=.int .i64 0) (w':=u0) rfl rfl rfl rfl ?_
 simp only[Act.put,sa,sz,ss]
 refine zC (zB (wp_seq ?_))
 refine zD (l:=[0,1,2,3,4,5,6,7]) rfl ?_
 refine zA (d:=9) (v:=PT d 0) (w':=u0) rfl rfl rfl rfl ?_
 simp only[Act.put,sa,sz,ss]
 refine zA (d:=10) (v:=.string s) (w':=u0) rfl rfl rfl rfl ?_
 simp only[Act.put,sa,sz,ss]
 refine zE (d:=11) (R:=fun vv w'=>vv=.tuple #[PT g 0,.int .i64 0]∧Below u0.heap.size u0 w') rfl rfl rfl (zF (args:=#[PT d 0,.string s]) rfl call139 rfl (mpn rfl)) (Calls.mono (find_hit d mb rb g k s u0 (H1.out.1.one 0 rfl) (fun u hu=>hlk.out u (H1.out.2.trans (hu.mono H1.out.2.size)))) (fun e w2 hh=>⟨_,hh.1,rfl,hh.2⟩)) ?_
 rintro _ w2 ⟨rfl,hb⟩
 have H2:Hid (Mm w2 [(d,[Value.map (some mb),Value.map (some rb),Value.int .i64 k]),(g,[S,Value.slice pu m cu,Value.bool fr])]∧Below w.heap.size w w2):=⟨H1.out.1.below hb,H1.out.2.trans (hb.mono H1.out.2.size)⟩
 clear hb
 clear H1
 simp only[Act.put,sa,sz,ss]
 refine zA (d:=8) (v:=.tuple #[PT g 0,.int .i64 0]) (w':=w2) rfl rfl rfl rfl ?_
 simp only[Act.put,sa,sz,ss]
 refine zA (d:=12) (v:=PT g 0) (w':=w2) rfl rfl rfl (by go_simp) ?_
 simp only[Act.put,sa,sz,ss]
 refine zA (d:=13) (v:=.int .i64 0) (w':=w2) rfl rfl rfl (by go_simp) ?_
 simp only[Act.put,sa,sz,ss]
 refine zA (d:=6) (v:=PT g 0) (w':=w2) rfl rfl rfl rfl ?_
 simp only[Act.put,sa,sz,ss]
 refine zA (d:=7) (v:=.int .i64 0) (w':=w2) rfl rfl rfl rfl ?_
 simp only[Act.put,sa,sz,ss]
 refine zC (zB ?_)
 refine wp_seq (wp_seq ?_)
 refine zD (l:=[0,1,2,3,4,5,6,7,8,9]) rfl ?_
 refine zA (d:=14) (v:=.int .i64 0) (w':=w2) rfl rfl rfl rfl ?_
 simp only[Act.put,sa,sz,ss]
 refine zA (d:=15) (v:=.bool true) (w':=w2) rfl rfl rfl (by kernel_rfl) ?_
 simp only[Act.put,sa,sz,ss]
 refine zA (d:=16) (v:=.bool true) (w':=w2) rfl rfl rfl rfl ?_
 simp only[Act.put,sa,sz,ss]
 refine zA (d:=17) (v:=PT g 0) (w':=w2) rfl rfl rfl rfl ?_
 simp only[Act.put,sa,sz,ss]
 refine zA (d:=18) (v:=PT g 0) (w':=w2) rfl rfl rfl (by go_simp) ?_
 simp only[Act.put,sa,sz,ss]
 refine zA (d:=19) (v:=PT g 1) (w':=w2) rfl rfl rfl (by go_simp) ?_
 simp only[Act.put,sa,sz,ss]
 refine zA (d:=20) (v:=.slice pu m cu) (w':=w2) rfl rfl rfl (zJ H2.out.1 1 rfl rfl rfl Ai152 rfl) ?_
 simp only[Act.put,sa,sz,ss]
 refine zA (d:=21) (v:=.int .i64 ((m:Nat):Int)) (w':=w2) rfl rfl rfl (by go_simp) ?_
 simp only[Act.put,sa,sz,ss]
 refine zA (d:=22) (v:=.bool false) (w':=w2) rfl rfl rfl (by go_simp <;> omega) ?_
 simp only[Act.put,sa,sz,ss]
 refine zA (d:=23) (v:=.bool false) (w':=w2) rfl rfl rfl (by go_simp) ?_
 simp only[Act.put,sa,sz,ss]
 refine zC (zB ?_)
 refine wp_cond_false rfl (wp_skip ?_)
 refine zB (wp_seq ?_)
 refine zD (l:=[0,1,2,3]) rfl ?_
 refine zA (d:=24) (v:=PT g 0) (w':=w2) rfl rfl rfl rfl ?_
 simp only[Act.put,sa,sz,ss]
 refine zA (d:=25) (v:=.int .i64 0) (w':=w2) rfl rfl rfl rfl ?_
 simp only[Act.put,sa,sz,ss]
 refine zA (d:=4) (v:=PT g 0) (w':=w2) rfl rfl rfl rfl ?_
 simp only[Act.put,sa,sz,ss]
 refine zA (d:=5) (v:=.int .i64 0) (w':=w2) rfl rfl rfl rfl ?_
 simp only[Act.put,sa,sz,ss]
 refine zC (zB (wp_ret ?_))
 repeat (first | refine zI ?_ | refine zH ?_)
 refine bodyPost_ret (v:=.tuple #[PT g 0,.int .i64 0]) (by simp[results,Tryz.results85,go_sem, *]) rfl ?_
 exact⟨rfl,H2.out.2⟩
end Wi
end Rg
end Go.Proofs.YtmcpagjhpfbpgaaGreatDoor
end
section
namespace Go.Proofs.YtmcpagjhpfbpgaaGreatDoor
open Go.RowKit
namespace Rg
namespace Wi
set_option maxRecDepth 100000
open Go.Shelf Go.Maps
theorem quiet_f_hit (D:Dq) (s:ByteArray) (hs:s.size≤maxLen) (f:Fq) (w:World) (h:DOk w D) (hl:lk D.fs s=some f) (ho:f.ops.length=0):Calls Tryz.prog 85 #[PT D.d 0,.string s] w (Rt w (.tuple #[PT f.g 0,.int .i64 0])):=by
 obtain⟨hf,_⟩:=lk_mem hl
 obtain⟨pu,cu,eu⟩:=(h.fl f hf).bare ho
 have h2:=h.two hf
 rw[eu] at h2
 exact quiet_hit D.d D.mb D.rb f.g 0 cu pu f.s f.fr _ s rfl w h2 (fun u hu=>by rw[h.look s hs (hu.block _ (h.blt _ (by unfold Dq.bl;simp))),hl];rfl)
theorem bel_on {w u v:World} (h1:Below w.heap.size w u) (h2:Below u.heap.size u v):Below w.heap.size w v:=h1.trans (h2.mono h1.size)
theorem named_is {t:ByteArray} (hn:nmd t=true) (w:World):Calls Tryz.prog 88 #[.string t] w (Rt w (.bool true)):=by
 have:=named_any t w
 rwa [hn] at this
theorem ren_put {w w3 w4 u:World} {D0:Dq} {D:Dq} {f:Fq} {s t:ByteArray} {X:DataW Nat} {n:Nat} (h:DOk w3 D) (hc:Chg D0.bl w w3) (hl:lk D.fs s=some f) (ht:t.size≤maxLen) (x2:∀ x,X.atKey (ky x) .nil=dv (lk D.fs x)) (x3:∀ x,Maps.has X (ky x)=(lk D.fs x).isSome) (hown:w4.ownsMap Tryz.prog 9 RF D.mb n (X.del (ky s))) (hg:w3.grownBy w4 (some D.mb)) (hb:Below w4.heap.size w4 u) (hn:n<maxLen) (hmb:D.mb∈D0.bl) :
  ∃ u',(Instr.mapUpdate 59 (.map (some D.mb)) (.string t) (PT f.g 0)).run Tryz.prog u=.ok () u'∧DOk u' (D.ren f s t)∧Chg D0.bl w u':=by
 have hlt:=hown.lt
 have y1:=zQ hown (hb.block _ hlt)
 obtain⟨u',hr,hm,hg2⟩:=y1.update (Maps.string_keyed Tryz.underlying9) Tryz.underlying59 hn (WideMaps.keyOf_string_mk Tryz.underlying9 ht) (show RF (PT f.g 0)=some (.held f.g,[]) from rfl)
 have c1:Chg [D.mb] w3 u':=((Chg.grown hg).below hb).trans (Chg.grown hg2) (fun x hx=>.inl hx)
 refine⟨u',hr,h.ren hl c1 hm (fun x => ?_) (fun x => ?_),hc.trans c1 (fun x hx=>.inl (by rw[List.mem_singleton.1 hx];exact hmb))⟩
 ·by_cases e:x=t
  ·subst e
   rw[if_pos rfl]
   exact Maps.atKey_put_same y1.isMap (ky_lit x) _ _
  ·rw[if_neg e,show (DataW.put (X.del (ky s)) (Lit.string t.data.toList) (.held f.g)).atKey (ky x) .nil=(X.del (ky s)).atKey (ky x) .nil from Maps.atKey_put_other (fun e2=>e (ky_inj e2)) _ _]
   by_cases e2:x=s
   ·rw[if_pos e2,e2,Maps.atKey_del_same]
   ·rw[if_neg e2,Maps.atKey_del_other (fun e3=>e2 (ky_inj e3)),x2]
 ·by_cases e:x=t
  ·subst e
   rw[decide_eq_true rfl,Bool.true_or]
   exact Maps.has_put_same y1.isMap (ky_lit x) _
  ·rw[decide_eq_false e,Bool.false_or,show Maps.has (DataW.put (X.del (ky s)) (Lit.string t.data.toList) (.held f.g)) (ky x)=Maps.has (X.del (ky s)) (ky x) from Maps.has_put_other (fun e2=>e (ky_inj e2)) _]
   by_cases e2:x=s
   ·rw[decide_eq_true e2,e2,Maps.has_del_same]
    rfl
   ·rw[decide_eq_false e2,Maps.has_del_other (fun e3=>e2 (ky_inj e3)),x3]
    rfl
theorem ren_pre {w:World} {D:Dq} (h:DOk w D):∃ X,w.ownsMap Tryz.prog 9 RF D.mb D.fs.length X∧(∀ x,X.atKey (ky x) .nil=dv (lk D.fs x))∧(∀ x,Maps.has X (ky x)=(lk D.fs x).isSome)∧w.cell? ⟨D.d,0,none⟩=some (.map (some D.mb))∧∀ u,w.mapTurned u D.mb→Mm u [(D.d,[Value.map (some D.mb),Value.map (some D.rb),Value.int .i64 ((D.k:Nat):Int)])]:=by
 obtain⟨X,x1,x2,x3,x4⟩:=h.mp
 refine⟨X,x1,x2,x3,((h.cel.blk _ (List.mem_cons_self ..)).2 0 _ rfl).1,fun u hq=>(Chg.grown hq.grown).mm h.cel (fun p hp hm=>h.h3.1 ?_)⟩
 obtain rfl:=List.mem_singleton.1 hp
 simpa using hm
end Wi
end Rg
end Go.Proofs.YtmcpagjhpfbpgaaGreatDoor
end
section
namespace Go.Proofs.YtmcpagjhpfbpgaaGreatDoor
open Go.RowKit
namespace Rg
namespace Wi
set_option maxRecDepth 100000
open Go.Shelf Go.Maps
theorem Rename_ok_f (D:Dq) (s t:ByteArray) (hs:s.size≤maxLen) (ht:t.size≤281474976710656) (hn:nmd t=true) (f:Fq) (w:World) (h:DOk w D) (hk:D.k+1<4611686018427387904) (hno:D.no=false) (hl:lk D.fs s=some f) (ho:f.ops.length=0) :
  Calls Tryz.prog 112 #[PT D.d 0,.string s,.string t] w fun e w'=>e=.returned (.int .i64 0)∧Dw w D (D.tick.ren f s t) w':=by
 have hc0:Calls Tryz.prog 87 #[PT D.d 0] w fun e w'=>e=.returned (.int .i64 0)∧DOk w' D.tick∧Chg D.bl w w':=(count_f D w h hk).mono fun e w' hh=>⟨by rw[hh.1,hno];rfl,hh.2⟩
 have htm:t.size≤maxLen:=by unfold maxLen;omega
 clear h
 go_enter Tryz.func112,Tryz.ntmps112
 go_wp2_with (first
  | (go_at_call 87;refine hc0.mono ?_;rintro e w1 ⟨rfl,h1,hc1⟩;have HD:Hid (DOk w1 D.tick):=h1;clear h1)
  | (go_at_call 88;refine(named_is hn w1).mono ?_;rintro e w2 ⟨rfl,hb2⟩)
  | (go_at_call 85;refine(quiet_f_hit D.tick s hs f w2 (HD.out.below hb2) hl ho).mono ?_;rintro e w3 ⟨rfl,hb3⟩;have H3:Hid (DOk w3 D.tick):=HD.out.below (bel_on hb2 hb3);have hc3:Chg D.bl w w3:=hc1.below (bel_on hb2 hb3);obtain⟨X,x1,x2,x3,cD0,hmd⟩:=ren_pre H3.out;have cD:w3.cell? ⟨D.d,0,none⟩=some (.map (some D.mb)):=cD0;clear cD0)
  | (at_delete;refine wpList_delete_own _ rfl _ _ 59 9 rfl 120 (Maps.string_keyed Tryz.underlying9) Tryz.underlying59 RF D.mb _ X rfl x1 _ (ky s) rfl (WideMaps.keyOf_string_mk Tryz.underlying9 hs) ?_;intro w4 hown4 hturn4)
  | (go_at_call 92;refine(put_any D.d D.mb D.rb f.g _ t ht (fun u=>DOk u (D.tick.ren f s t)∧Chg D.bl w u) w4 (hmd w4 hturn4) (fun u u' q hb=>⟨q.1.below hb,q.2.below hb⟩) (fun u hb=>ren_put H3.out hc3 hl htm x2 x3 hown4 hturn4.grown hb (by have:=H3.out.n64;have:D.fs.length≤64:=this;unfold maxLen;exact Nat.lt_of_le_of_lt this (by decide)) (show D.mb∈D.bl by unfold Dq.bl;simp))).mono ?_;rintro e w5 ⟨rfl,hD5,hc5⟩)
  | go_in)
 go_ret
 refine⟨rfl,hD5,hc5,fun x hx=>.inl ?_⟩
 unfold Dq.bl at hx
 simp only[List.mem_cons,List.mem_flatMap] at hx
 rcases hx with e | e | e | ⟨y,hy,e⟩
 ·unfold Dq.bl;rw[e];exact List.mem_cons_self ..
 ·unfold Dq.bl;rw[e];exact List.mem_cons_of_mem _ (List.mem_cons_self ..)
 ·unfold Dq.bl;rw[e];exact List.mem_cons_of_mem _ (List.mem_cons_of_mem _ (List.mem_cons_self ..))
 ·rcases List.mem_append.1 hy with q | q
  ·exact Dq.fbl (List.mem_filter.1 q).1 x e
  ·rw[List.mem_singleton.1 q] at e
   exact Dq.fbl (lk_mem hl).1 x e
end Wi
end Rg
end Go.Proofs.YtmcpagjhpfbpgaaGreatDoor
end
section
/-
 DERIVED: THE SHELF's CONTRACTS AT THIS DUMP,IN PLAIN WORDS (tools/lay-plain.mjs out of 'YtmcpagjhpfbpgaaGreatDoorSq.lean',which tools/lay-shelf.mjs wrote): THE SAME DECLARATIONS UNDER THE SAME NAMES: 'import','namespace','open','def','theorem' AND NOTHING ELSE: no command of the shelf's: FOR A HAND-IN. Each laying: the table of numbers ('.._ren') and one theorem,a field a fact of the dump's own or the kernel's comparison;each contract: ONE APPLICATION.
-/
namespace Go.Proofs
open Go.Shelf
def Tryz.keys67_ren:Go.Shelf.Ren:=⟨fun | 7=>67 | 10=>128 | n=>n,fun | 23=>59 | 26=>9 | 3=>120 | 28=>125 | 0=>0 | 27=>124 | 33=>37 | 4=>4 | n=>n,fun | n=>n⟩
theorem Tryz.keys67:Go.Proofs.SlLaysZ.n7 Tryz.prog Tryz.keys67_ren:={
 mixed:=by kernel_rfl
 f7:=⟨Tryz.f67.name,by decide,Tryz.func67.trans (congrArg some (by kernel_rfl))⟩
 f10:=⟨Tryz.f128.name,by decide,Tryz.func128.trans (congrArg some (by kernel_rfl))⟩
 t0:=Tryz.underlying0
 a0:=Tryz.isAgg0
 z0:=Tryz.sizeOf0
 v0:=Tryz.zeroValue0
 t4:=Tryz.underlying4
 a4:=Tryz.isAgg4
 z4:=Tryz.sizeOf4
 v4:=Tryz.zeroValue4
 t23:=Tryz.underlying59
 a23:=Tryz.isAgg59
 z23:=Tryz.sizeOf59
 v23:=Tryz.zeroValue59
 t26:=Tryz.underlying9
 a26:=Tryz.isAgg9
 z26:=Tryz.sizeOf9
 v26:=Tryz.zeroValue9
 t27:=Tryz.underlying124
 a27:=Tryz.isAgg124
 z27:=Tryz.sizeOf124
 v27:=Tryz.zeroValue124
 t28:=Tryz.underlying125
 a28:=Tryz.isAgg125
 z28:=Tryz.sizeOf125
 v28:=Tryz.zeroValue125
 t33:=Tryz.underlying37
 a33:=Tryz.isAgg37
 z33:=Tryz.sizeOf37
 v33:=Tryz.zeroValue37 }
def Tryz.keys117_ren:Go.Shelf.Ren:=⟨fun | 7=>117 | 10=>152 | n=>n,fun | 23=>46 | 26=>9 | 3=>40 | 28=>125 | 0=>0 | 27=>124 | 33=>37 | 4=>4 | n=>n,fun | n=>n⟩
theorem Tryz.keys117:Go.Proofs.SlLaysZ.n7 Tryz.prog Tryz.keys117_ren:={
 mixed:=by kernel_rfl
 f7:=⟨Tryz.f117.name,by decide,Tryz.func117.trans (congrArg some (by kernel_rfl))⟩
 f10:=⟨Tryz.f152.name,by decide,Tryz.func152.trans (congrArg some (by kernel_rfl))⟩
 t0:=Tryz.underlying0
 a0:=Tryz.isAgg0
 z0:=Tryz.sizeOf0
 v0:=Tryz.zeroValue0
 t4:=Tryz.underlying4
 a4:=Tryz.isAgg4
 z4:=Tryz.sizeOf4
 v4:=Tryz.zeroValue4
 t23:=Tryz.underlying46
 a23:=Tryz.isAgg46
 z23:=Tryz.sizeOf46
 v23:=Tryz.zeroValue46
 t26:=Tryz.underlying9
 a26:=Tryz.isAgg9
 z26:=Tryz.sizeOf9
 v26:=Tryz.zeroValue9
 t27:=Tryz.underlying124
 a27:=Tryz.isAgg124
 z27:=Tryz.sizeOf124
 v27:=Tryz.zeroValue124
 t28:=Tryz.underlying125
 a28:=Tryz.isAgg125
 z28:=Tryz.sizeOf125
 v28:=Tryz.zeroValue125
 t33:=Tryz.underlying37
 a33:=Tryz.isAgg37
 z33:=Tryz.sizeOf37
 v33:=Tryz.zeroValue37 }
def Tryz.sorted66_ren:Go.Shelf.Ren:=⟨fun | 6=>66 | 8=>126 | 9=>127 | 11=>157 | 13=>159 | 12=>158 | 23=>186 | 24=>187 | 14=>177 | 15=>178 | 16=>179 | 17=>180 | 18=>181 | 19=>182 | 20=>183 | 21=>184 | 22=>185 | 25=>193 | 26=>194 | 27=>195 | 28=>196 | 29=>197 | 30=>198 | 31=>203 | n=>n,fun | 26=>9 | 28=>125 | 24=>73 | 0=>0 | 3=>3 | 37=>225 | 48=>167 | 50=>227 | 4=>4 | 40=>241 | 39=>240 | 45=>246 | 5=>5 | 9=>9 | 51=>254 | 55=>258 | 57=>264 | 58=>191 | 33=>37 | n=>n,fun | n=>n⟩
theorem Tryz.sorted66:Go.Proofs.SlLaysZ.n6 Tryz.prog Tryz.sorted66_ren:={
 mixed:=by kernel_rfl
 f6:=⟨Tryz.f66.name,by decide,Tryz.func66.trans (congrArg some (by kernel_rfl))⟩
 f8:=⟨Tryz.f126.name,by decide,Tryz.func126.trans (congrArg some (by kernel_rfl))⟩
 f11:=⟨Tryz.f157.name,by decide,Tryz.func157.trans (congrArg some (by kernel_rfl))⟩
 t0:=Tryz.underlying0
 a0:=Tryz.isAgg0
 z0:=Tryz.sizeOf0
 v0:=Tryz.zeroValue0
 t24:=Tryz.underlying73
 a24:=Tryz.isAgg73
 z24:=Tryz.sizeOf73
 v24:=Tryz.zeroValue73
 t26:=Tryz.underlying9
 a26:=Tryz.isAgg9
 z26:=Tryz.sizeOf9
 v26:=Tryz.zeroValue9
 t28:=Tryz.underlying125
 a28:=Tryz.isAgg125
 z28:=Tryz.sizeOf125
 v28:=Tryz.zeroValue125
 i26:=by kernel_rfl }
def Tryz.sort127_ren:Go.Shelf.Ren:=⟨fun | 6=>127 | 8=>159 | 9=>158 | 19=>186 | 20=>187 | 21=>177 | 22=>178 | 23=>179 | 24=>180 | 25=>181 | 26=>182 | 27=>183 | 28=>184 | 29=>185 | 36=>193 | 31=>194 | 32=>195 | 37=>196 | 38=>197 | 39=>198 | 41=>203 | n=>n,fun | 27=>73 | 29=>9 | 3=>3 | 32=>225 | 26=>73 | 0=>0 | 44=>167 | 46=>227 | 4=>4 | 36=>241 | 35=>240 | 41=>246 | 5=>5 | 9=>9 | 53=>254 | 57=>258 | 63=>264 | 64=>191 | n=>n,fun | n=>n⟩
theorem Tryz.sort127:Go.Proofs.SlLaysM.n6 Tryz.prog Tryz.sort127_ren:={
 mixed:=by kernel_rfl
 f6:=⟨Tryz.f127.name,by decide,Tryz.func127.trans (congrArg some (by kernel_rfl))⟩
 f8:=Tryz.func159.trans (congrArg some (by kernel_rfl))
 f9:=⟨Tryz.f158.name,by decide,Tryz.func158.trans (congrArg some (by kernel_rfl))⟩
 f19:=Tryz.func186.trans (congrArg some (by kernel_rfl))
 f20:=Tryz.func187.trans (congrArg some (by kernel_rfl))
 f21:=⟨Tryz.f177.name,by decide,Tryz.func177.trans (congrArg some (by kernel_rfl))⟩
 f22:=⟨Tryz.f178.name,by decide,Tryz.func178.trans (congrArg some (by kernel_rfl))⟩
 f23:=⟨Tryz.f179.name,by decide,Tryz.func179.trans (congrArg some (by kernel_rfl))⟩
 f24:=⟨Tryz.f180.name,by decide,Tryz.func180.trans (congrArg some (by kernel_rfl))⟩
 f25:=⟨Tryz.f181.name,by decide,Tryz.func181.trans (congrArg some (by kernel_rfl))⟩
 f26:=⟨Tryz.f182.name,by decide,Tryz.func182.trans (congrArg some (by kernel_rfl))⟩
 f27:=⟨Tryz.f183.name,by decide,Tryz.func183.trans (congrArg some (by kernel_rfl))⟩
 f28:=⟨Tryz.f184.name,by decide,Tryz.func184.trans (congrArg some (by kernel_rfl))⟩
 f29:=⟨Tryz.f185.name,by decide,Tryz.func185.trans (congrArg some (by kernel_rfl))⟩
 f31:=Tryz.func194.trans (congrArg some (by kernel_rfl))
 f32:=Tryz.func195.trans (congrArg some (by kernel_rfl))
 f36:=⟨Tryz.f193.name,by decide,Tryz.func193.trans (congrArg some (by kernel_rfl))⟩
 f37:=⟨Tryz.f196.name,by decide,Tryz.func196.trans (congrArg some (by kernel_rfl))⟩
 f38:=⟨Tryz.f197.name,by decide,Tryz.func197.trans (congrArg some (by kernel_rfl))⟩
 f39:=⟨Tryz.f198.name,by decide,Tryz.func198.trans (congrArg some (by kernel_rfl))⟩
 f41:=⟨Tryz.f203.name,by decide,Tryz.func203.trans (congrArg some (by kernel_rfl))⟩
 t0:=Tryz.underlying0
 a0:=Tryz.isAgg0
 z0:=Tryz.sizeOf0
 v0:=Tryz.zeroValue0
 t3:=Tryz.underlying3
 a3:=Tryz.isAgg3
 z3:=Tryz.sizeOf3
 v3:=Tryz.zeroValue3
 t4:=Tryz.underlying4
 a4:=Tryz.isAgg4
 z4:=Tryz.sizeOf4
 v4:=Tryz.zeroValue4
 t5:=Tryz.underlying5
 a5:=Tryz.isAgg5
 z5:=Tryz.sizeOf5
 v5:=Tryz.zeroValue5
 t9:=Tryz.underlying9
 a9:=Tryz.isAgg9
 z9:=Tryz.sizeOf9
 v9:=Tryz.zeroValue9
 t26:=Tryz.underlying73
 a26:=Tryz.isAgg73
 z26:=Tryz.sizeOf73
 v26:=Tryz.zeroValue73
 t27:=Tryz.underlying73
 a27:=Tryz.isAgg73
 z27:=Tryz.sizeOf73
 v27:=Tryz.zeroValue73
 t29:=Tryz.underlying9
 a29:=Tryz.isAgg9
 z29:=Tryz.sizeOf9
 v29:=Tryz.zeroValue9
 t32:=Tryz.underlying225
 a32:=Tryz.isAgg225
 z32:=Tryz.sizeOf225
 v32:=Tryz.zeroValue225
 t35:=Tryz.underlying240
 a35:=Tryz.isAgg240
 z35:=Tryz.sizeOf240
 v35:=Tryz.zeroValue240
 t36:=Tryz.underlying241
 a36:=Tryz.isAgg241
 z36:=Tryz.sizeOf241
 v36:=Tryz.zeroValue241
 t41:=Tryz.underlying246
 a41:=Tryz.isAgg246
 z41:=Tryz.sizeOf246
 v41:=Tryz.zeroValue246
 t44:=Tryz.underlying167
 a44:=Tryz.isAgg167
 z44:=Tryz.sizeOf167
 v44:=Tryz.zeroValue167
 t46:=Tryz.underlying227
 a46:=Tryz.isAgg227
 z46:=Tryz.sizeOf227
 v46:=Tryz.zeroValue227
 t53:=Tryz.underlying254
 a53:=Tryz.isAgg254
 z53:=Tryz.sizeOf254
 v53:=Tryz.zeroValue254
 t57:=Tryz.underlying258
 a57:=Tryz.isAgg258
 z57:=Tryz.sizeOf258
 v57:=Tryz.zeroValue258
 t63:=Tryz.underlying264
 a63:=Tryz.isAgg264
 z63:=Tryz.sizeOf264
 v63:=Tryz.zeroValue264
 t64:=Tryz.underlying191
 a64:=Tryz.isAgg191
 z64:=Tryz.sizeOf191
 v64:=Tryz.zeroValue191 }
end Go.Proofs
end
section
namespace Go.Proofs.YtmcpagjhpfbpgaaGreatDoor
open Go.RowKit
namespace Rg
namespace Wi
set_option maxRecDepth 100000
open Go.Shelf Go.Maps Go.Sort
attribute [local go_sem] Oper.semAt_some
theorem sorts79 (m:Nat):AnyZ.SortsIn Tryz.prog Tryz.sorted66_ren Fence.wide m :=
  ⟨fun blk off cap ss W hH hblk hsz=>callsIn_wide.2 (AnyM.slices_Sort_string Tryz.sort127 blk off cap ss W hH hblk hsz),
   fun p cap W=>callsIn_wide.2 (AnyM.slices_Sort_string_none Tryz.sort127 p cap W)⟩
theorem maps_Keys_80 (mb:Option Nat) (W:World):CallsIn Fence.wide 5 Tryz.prog 67 #[.map mb] W fun e w'=>e=.returned (.func (.func 128) #[] #[.pointer (some ⟨W.heap.size,0,none⟩)])∧w'=W.alloc (.cells #[.map mb] 59) :=
  AnyZ.keys_in Tryz.keys67 Fence.wide 5 trivial rfl mb W
theorem slices_Sorted_keys_79_80 {H : Type} (b nn : Nat) (D0 : DataW H) (R : Value → Option (DataW H × List MemPlace)) (w : World) (hown : w.ownsMap Tryz.prog 9 R b nn D0) (hmax : Maps.size D0 ≤ maxLen) (hbytes : Maps.size D0 * 16 ≤ 140737488355328) :
    CallsIn Fence.wide 5 Tryz.prog 66 #[.func (.func 128) #[] #[.pointer (some ⟨w.heap.size,0,none⟩)]] (w.alloc (.cells #[.map (some b)] 59)) fun e w'=>∃ (v:Value) (ss:List (List UInt8)),e=.returned v∧ss.Perm (strKeys D0) ∧
      w'.ownsRow (w.alloc (.cells #[.map (some b)] 59)).heap.size 9 1 v ss.length ((ss.mergeSort (fun x y=>decide (x≤y))).map encStr)∧(v=.slice none 0 0↔ss=[])∧Below (w.alloc (.cells #[.map (some b)] 59)).heap.size (w.alloc (.cells #[.map (some b)] 59)) w':=by
  have hbl:=hown.lt
  have hseq:SeqGives Fence.wide 2 Tryz.prog 128 #[.pointer (some ⟨w.heap.size,0,none⟩)] encStr (fun ss=>ss.Perm (strKeys D0)) (Maps.size D0) (w.alloc (.cells #[.map (some b)] 59)) :=
    AnyZ.keys_gives (ρ:=Tryz.keys67_ren) { Tryz.keys67 with } Fence.wide _ trivial rfl (by omega) w.heap.size b nn D0 _ (by simp) (by simp) (by
      obtain⟨es,clock,hb,Ft,hs,hD⟩:=hown
      exact⟨es,clock,(Below.heap_alloc _ _ b hbl).trans hb,Ft,hs,hD⟩)
  exact AnyZ.sorted_in Tryz.sorted66 Fence.wide 5 trivial trivial trivial trivial rfl (by omega) (sorts79 _) (enters_of Tryz.func127 (by kernel_rfl) rfl) 128 #[.pointer (some ⟨w.heap.size,0,none⟩)] trivial (enters_of Tryz.func128 (by kernel_rfl) rfl) _ _ hmax hbytes _ hseq
theorem names_perm {w:World} {b n:Nat} {X:DataW Nat} {fs:List Fq} (h:w.ownsMap Tryz.prog 9 RF b n X) (hh:∀ s,Maps.has X (ky s)=(lk fs s).isSome) (un:(fs.map Fq.nm).Nodup):(strKeys X).Perm (fs.map fun f=>f.nm.data.toList):=by
  obtain⟨es,rfl,hap,hks⟩:=h.entries (Maps.string_keyed Tryz.underlying9)
  have hst:∀ p∈es,∃ s,p.1=ky s:=fun p hp=>by
    obtain⟨es0,clock,_,F,_,e⟩:=h
    injection e with e
    rw[e] at hp
    obtain⟨x,hx,rfl⟩:=List.mem_map.1 (mem_sorted.1 hp)
    obtain⟨y,hy⟩:=F.reads x hx
    rw[WideElems.rg_of hy]
    obtain⟨s,_,e2,_⟩:=key_string (WideElems.rd_key hy)
    exact⟨s,e2⟩
  have hnd:(es.map Prod.fst).Nodup:=List.pairwise_map.2 hap
  have hnf:(fs.map fun f=>ky f.nm).Nodup:=by
    have:(fs.map fun f=>ky f.nm)=(fs.map Fq.nm).map ky:=by rw[List.map_map];rfl
    rw[this]
    exact List.pairwise_map.2 (un.imp (fun hne e=>hne (ky_inj e)))
  have hp:(es.map Prod.fst).Perm (fs.map fun f=>ky f.nm):=(List.perm_ext_iff_of_nodup hnd hnf).2 (fun a=>by
    constructor
    · intro ha
      obtain⟨p,hp,rfl⟩:=List.mem_map.1 ha
      obtain⟨s,e⟩:=hst p hp
      have h1:Maps.has (.map es) (ky s)=true:=by
        rw[← e]
        exact List.any_eq_true.2 ⟨p,hp,WideAt.sameKey_self (hks p hp)⟩
      rw[hh] at h1
      obtain⟨f,hf⟩:=Option.isSome_iff_exists.1 h1
      obtain⟨h2,h3⟩:=lk_mem hf
      exact List.mem_map.2 ⟨f,h2,by rw[h3,e]⟩
    · intro ha
      obtain⟨f,hf,rfl⟩:=List.mem_map.1 ha
      have h1:(lk fs f.nm).isSome=true:=by
        unfold lk
        rw[List.find?_isSome]
        exact⟨f,hf,decide_eq_true rfl⟩
      rw[← hh] at h1
      obtain⟨p,hp,h2⟩:=List.any_eq_true.1 h1
      exact List.mem_map.2 ⟨p,hp,WideAt.sameKey_eq h2⟩)
  have h2:=hp.map strOf
  rw[List.map_map,List.map_map] at h2
  exact h2
theorem nam_pre {w:World} {D:Dq} (h:DOk w D):∃ X,(strKeys X).Perm (D.fs.map fun f=>f.nm.data.toList)∧Maps.size X≤maxLen∧Maps.size X*16≤140737488355328∧∀ u,Below w.heap.size w u→u.ownsMap Tryz.prog 9 RF D.mb D.fs.length X∧u.cell? ⟨D.d,0,none⟩=some (.map (some D.mb)):=by
  obtain⟨X,x1,x2,x3,x4⟩:=h.mp
  have hn:=h.n64
  refine⟨X,names_perm x1 x3 h.un,by rw[x4];unfold maxLen;omega,by rw[x4];omega,fun u hb=>⟨zQ x1 (hb.block _ x1.lt),(((h.below hb).cel.blk _ (List.mem_cons_self ..)).2 0 _ rfl).1⟩⟩
theorem Names_f (D:Dq) (w:World) (h:DOk w D):Calls Tryz.prog 25 #[PT D.d 0] w fun e w'=>∃ (v:Value) (ss:List (List UInt8)),e=.returned v∧ss.Perm (D.fs.map fun f=>f.nm.data.toList)∧w'.ownsRow w.heap.size 9 1 v ss.length ((ss.mergeSort (fun x y=>decide (x≤y))).map encStr)∧(v=.slice none 0 0↔ss=[])∧Below w.heap.size w w':=by
  obtain⟨X,hpp,hmax,hby,hpre⟩:=nam_pre h
  have hp:Hid _:=hpp
  have HP:Hid _:=hpre
  have hcel:=h.cel
  clear h hpp hpre
  refine(callsIn_wide (n:=7)).1 ?_
  have hro:Fence.wide.round=none:=rfl
  refine callsIn_of_wp Tryz.func25 rfl trivial ?_ hro
  simp only[Tryz.ntmps25,List.size_toArray,List.length_cons,List.length_nil,Nat.reduceAdd,Nat.reduceSub,Array.replicate_succ,Array.replicate_zero,List.push_toArray,List.append_toArray,List.nil_append,List.cons_append]
  gi_wp2_with (first
    | (gi_at_call 61;refine(callsIn_wide.2 (made_ok D.d D.mb D.rb _ w hcel)).mono ?_;rintro e w1 ⟨rfl,hb1⟩;have HX1:Hid (w1.ownsMap Tryz.prog 9 RF D.mb D.fs.length X):=(HP.out w1 hb1).1;have cD:w1.cell? ⟨D.d,0,none⟩=some (.map (some D.mb)):=(HP.out w1 hb1).2)
    | (refine⟨trivial,?_⟩;gi_at_call 61;refine(callsIn_wide.2 (made_ok D.d D.mb D.rb _ w hcel)).mono ?_;rintro e w1 ⟨rfl,hb1⟩;have HX1:Hid (w1.ownsMap Tryz.prog 9 RF D.mb D.fs.length X):=(HP.out w1 hb1).1;have cD:w1.cell? ⟨D.d,0,none⟩=some (.map (some D.mb)):=(HP.out w1 hb1).2)
    | (gi_at_call 67;refine(callsIn_wide.2 (callsIn_wide.1 (maps_Keys_80 (some D.mb) w1))).mono ?_;rintro e w2 ⟨rfl,rfl⟩)
    | (refine⟨trivial,?_⟩;gi_at_call 67;refine(callsIn_wide.2 (callsIn_wide.1 (maps_Keys_80 (some D.mb) w1))).mono ?_;rintro e w2 ⟨rfl,rfl⟩)
    | (gi_at_call 66;refine(callsIn_wide.2 (callsIn_wide.1 (slices_Sorted_keys_79_80 D.mb D.fs.length X RF w1 HX1.out hmax hby))).mono ?_;rintro e w3 ⟨v,ss,rfl,hS,hrow,hnil,hb3⟩)
    | (refine⟨trivial,?_⟩;gi_at_call 66;refine(callsIn_wide.2 (callsIn_wide.1 (slices_Sorted_keys_79_80 D.mb D.fs.length X RF w1 HX1.out hmax hby))).mono ?_;rintro e w3 ⟨v,ss,rfl,hS,hrow,hnil,hb3⟩))
  have hb2:=(Below.refl _ w1).alloc (Nat.le_refl _) (.cells #[.map (some D.mb)] 59)
  go_ret
  exact⟨v,ss,rfl,hS.trans hp.out,own_base hrow (Nat.le_trans hb1.size hb2.size),hnil,hb1.trans ((hb2.trans (hb3.mono hb2.size)).mono hb1.size)⟩
end Wi
end Rg
end Go.Proofs.YtmcpagjhpfbpgaaGreatDoor
end
section
namespace Go.Proofs.YtmcpagjhpfbpgaaGreatDoor
open Go.RowKit
namespace Rg
namespace Wi
set_option maxRecDepth 100000
structure Dn (w0:World) (D:Dq) (u:World):Prop where
 b:Below w0.heap.size w0 u
 dk:DOk u D
 lo:∀ x∈D.bl,w0.heap.size≤x
theorem Dn.step {w0 u u':World} {D:Dq} (h:Dn w0 D u) (hb:Below u.heap.size u u'):Dn w0 D u':=⟨h.b.trans (hb.mono h.b.size),h.dk.below hb,h.lo⟩
theorem Dn.dw {w0 u u':World} {D D':Dq} (h:Dn w0 D u) (hw:Dw u D D' u'):Dn w0 D' u':=⟨h.b.trans (hw.2.1.toBelow h.lo h.b.size),hw.1,fun x hx=>(hw.2.2 x hx).elim (h.lo x) (Nat.le_trans h.b.size)⟩
theorem same_texts1 (g1 o1 c1 g2 o2 c2:Nat) (s:ByteArray) (w:World) (h1:w.cell? ⟨g1,o1,none⟩=some (.string s)) (hg1:g1<w.heap.size) (hg2:g2<w.heap.size) (h2:w.cell? ⟨g2,o2,none⟩=some (.string s)) :
  Calls Tryz.prog 24 #[.slice (some ⟨g1,o1,none⟩) 1 c1,.slice (some ⟨g2,o2,none⟩) 1 c2] w (Rt w (.bool true)):=by
 go_enter Tryz.func24,Tryz.ntmps24
 go_wp2
 go_loopw [5] (fun v wr=>∃ i:Nat,v=.int .i64 (i:Int)∧i≤1∧Below w.heap.size w wr)
  (fun v _=>1 - (RowKit.intOf v).toNat)
 case atStart=>exact⟨0,rfl,by omega,Below.refl _ _⟩
 case round =>
  obtain⟨i,rfl,hi,hb⟩:=hrel
  have k1:=(hb.cell (p:=⟨g1,o1,none⟩) hg1).trans h1
  have k2:=(hb.cell (p:=⟨g2,o2,none⟩) hg2).trans h2
  clear h1 h2
  obtain rfl | rfl:i=0∨i=1:=by omega
  ·go_wp2
   go_region
   all_goals go_wp2
   exact⟨⟨1,rfl,by omega,hb.drew⟩,by simp[RowKit.intOf]⟩
  ·go_wp2
   go_ret
   exact⟨rfl,hb⟩
end Wi
end Rg
end Go.Proofs.YtmcpagjhpfbpgaaGreatDoor
end
section
namespace Go.Proofs.YtmcpagjhpfbpgaaGreatDoor
open Go.RowKit
namespace Rg
namespace Wi
set_option maxRecDepth 100000
section
variable {ρ:Operand→Value} {o:Oper} {x y:Operand} {g off j m c:Nat} {w:World}
theorem ex_mkM59 (ho:o.op=.makeMap 59 none):(execOp ρ o).run Tryz.prog w=.ok (.value (.map (some w.heap.size))) (w.alloc (.map #[] 0)):=by
 simp only[execOp,ho]
 simp[run_makeMap]
theorem ex_mkM60 (ho:o.op=.makeMap 60 none):(execOp ρ o).run Tryz.prog w=.ok (.value (.map (some w.heap.size))) (w.alloc (.map #[] 0)):=by
 simp only[execOp,ho]
 simp[run_makeMap]
theorem ex_ixN {p:Option Addr} (he:p=some ⟨g,off,none⟩) (ho:o.op=.indexAddr 22 x y) (hx:ρ x=.slice p m c) (hy:ρ y=.int .i64 ((j:Nat):Int)) (h:j<m):(execOp ρ o).run Tryz.prog w=.ok (.value (PT g (off+j))) w:=by
 subst he
 simp only[execOp,ho,hx,hy]
 clear ho hx hy
 go_simp
theorem ex_ldN {a:Int} (c0:w.cell? ⟨g,off,none⟩=some (.int .i64 a)) (ho:o.op=.load 3 x) (hx:ρ x=PT g off):(execOp ρ o).run Tryz.prog w=.ok (.value (.int .i64 a)) w:=by
 simp only[execOp,ho,hx]
 clear ho hx
 go_simp
end
structure Nm1 (w:World) (mb:Nat) (u:World):Prop where
 b:Below w.heap.size w u
 nm:w.heap.size≤mb
 mp:u.ownsMap Tryz.prog 9 RF mb 0 (.map [])
structure Nm2 (w:World) (mb rb:Nat) (u:World):Prop where
 one:Nm1 w mb u
 nr:mb<rb
 rm:u.ownsMap Tryz.prog 3 RU rb 0 (.map [])
structure Nw (w:World) (d mb rb:Nat) (rf:Nat→Bool) (m:Nat) (u:World):Prop where
 two:Nm1 w mb u
 nr:mb<rb
 nd:rb<d
 cel:Mm u [(d,[Value.map (some mb),Value.map (some rb),Value.int .i64 0])]
 rm:∃ Y,u.ownsMap Tryz.prog 3 RU rb m Y∧∀ i:Nat,i<4611686018427387905→Maps.has Y (.int .i64 (i:Int))=rf i
section
variable {w u u':World} {d mb rb m:Nat} {rf:Nat→Bool}
theorem Nm1.step (h:Nm1 w mb u) (hb:Below u.heap.size u u'):Nm1 w mb u':=⟨h.b.trans (hb.mono h.b.size),h.nm,zQ h.mp (hb.block _ h.mp.lt)⟩
theorem Nm1.start (h:Below w.heap.size w u):Nm1 w u.heap.size (u.alloc (.map #[] 0)):=⟨h.alloc h.size _,h.size,World.ownsMap_made _ _ _ _⟩
theorem Nm2.step (h:Nm2 w mb rb u) (hb:Below u.heap.size u u'):Nm2 w mb rb u':=⟨h.one.step hb,h.nr,zQ h.rm (hb.block _ h.rm.lt)⟩
theorem Nm2.start (h:Nm1 w mb u):Nm2 w mb u.heap.size (u.alloc (.map #[] 0)):=⟨h.step ((Below.refl _ _).alloc (Nat.le_refl _) _),h.mp.lt,World.ownsMap_made _ _ _ _⟩
theorem Nw.step (h:Nw w d mb rb rf m u) (hb:Below u.heap.size u u'):Nw w d mb rb rf m u':=by
 obtain⟨Y,y1,y2⟩:=h.rm
 exact⟨h.two.step hb,h.nr,h.nd,h.cel.below hb,Y,zQ y1 (hb.block _ y1.lt),y2⟩
theorem Nw.start (h:Nm2 w mb rb u) (t:TypeId):Nw w u.heap.size mb rb (fun _=>false) 0 (u.alloc (.cells ([Value.map (some mb),Value.map (some rb),Value.int .i64 0]:List Value).toArray t)):=by
 have hb:Below u.heap.size u (u.alloc (.cells ([Value.map (some mb),Value.map (some rb),Value.int .i64 0]:List Value).toArray t)):=(Below.refl _ _).alloc (Nat.le_refl _) _
 have h2:=h.step hb
 exact⟨h2.one,h2.nr,h.rm.lt,(Mm.nil u).alloc _ _ rfl,_,h2.rm,fun _ _=>rfl⟩
theorem Nw.ref (h:Nw w d mb rb rf m u) (i:Int) (hw:(Lit.int .i64 i).wf=true) (hm:m<1000000):∃ u',(Instr.mapUpdate 60 (.map (some rb)) (.int .i64 i) (.agg ([]:List Value).toArray)).run Tryz.prog u=.ok () u'∧Nw w d mb rb (fun j=>decide ((j:Int)=i) || rf j) (m+1) u':=by
 obtain⟨Y,y1,y2⟩:=h.rm
 obtain⟨u',hr,hm2,hg⟩:=y1.update (Maps.int_keyed Tryz.underlying3) Tryz.underlying60 (by unfold maxLen;omega) (Maps.keyOf_int_mk Tryz.underlying3 hw) (show RU (.agg ([]:List Value).toArray)=some (.nil,[]) from rfl)
 have hc:Chg [rb] u u':=Chg.grown hg
 have h1:=h.nr
 have h2:=h.nd
 refine⟨u',hr,⟨h.two.b.trans (hc.toBelow (fun x hx=>by have:=h.two.nm;rw[List.mem_singleton.1 hx];omega) h.two.b.size),h.two.nm,zQ h.two.mp (hc.block _ h.two.mp.lt (fun hx=>by have:=List.mem_singleton.1 hx;omega))⟩,h1,h2,hc.mm h.cel (fun p hp hx=>by obtain rfl:=List.mem_singleton.1 hp;have:=List.mem_singleton.1 hx;omega),_,hm2,fun j hj => ?_⟩
 by_cases e:(j:Int)=i
 ·subst e
  rw[Maps.has_put_same y1.isMap (Maps.int_keyed Tryz.underlying3 |>.key (Maps.keyOf_int_mk Tryz.underlying3 hw))]
  simp
 ·rw[Maps.has_put_other (fun e2=>e (by injection e2)),y2 j hj,decide_eq_false e,Bool.false_or]
theorem Nw.disk (h:Nw w d mb rb rf m u):DOk u ⟨d,mb,rb,0,[],rf⟩:=by
 have h1:=h.nr
 have h2:=h.nd
 obtain⟨Y,y1,y2⟩:=h.rm
 exact⟨h.cel,⟨_,h.two.mp,fun _=>rfl,fun _=>rfl,rfl⟩,⟨m,Y,y1,y2⟩,fun f hf=>(by cases hf),fun f hf=>(by cases hf),fun f hf=>(by cases hf),⟨(show d≠mb by omega),(show d≠rb by omega),(show mb≠rb by omega)⟩,List.nodup_nil,(show 0<4611686018427387904 by decide),(show 0≤64 by decide)⟩
end
def rff (F:Nat→Int):Nat→Nat→Bool
 | 0=>fun _=>false
 | k+1=>fun j=>decide ((j:Int)=F k) || rff F k j
theorem New_any (p:Option Addr) (n cp g of:Nat) (F:Nat→Int) (hn:n≤4096) (w:World) (hp0:0<n→p=some ⟨g,of,none⟩) (hcl0:∀ i,i<n→g<w.heap.size∧w.cell? ⟨g,of+i,none⟩=some (.int .i64 (F i))∧(Lit.int .i64 (F i)).wf=true) :
  Calls Tryz.prog 8 #[.slice p n cp] w fun e w'=>∃ d mb rb,e=.returned (.tuple #[PT d 0,.int .i64 0])∧Nw w d mb rb (rff F n) n w':=by
 have H0:Hid (_∧_):=⟨Mm.nil w,Below.refl w.heap.size w⟩
 have hp:Hid _:=hp0
 have hcl:Hid _:=hcl0
 clear hp0 hcl0
 go_enter Tryz.func8,Tryz.ntmps8
 refine wp_seq ?_
 refine zG (l:=[0,1]) rfl (fun u0 hu0 => ?_)
 have H1:Hid (Mm u0 []∧Below w.heap.size w u0):=by rw[hu0];exact H0
 clear hu0 H0
 refine zA (d:=2) (v:=.pointer none) (w':=u0) rfl rfl rfl rfl ?_
 simp only[Act.put,sa,sz,ss]
 refine zA (d:=3) (v:=.int .i64 0) (w':=u0) rfl rfl rfl rfl ?_
 simp only[Act.put,sa,sz,ss]
 refine zC (zB ?_)
 refine wp_seq (wp_seq ?_)
 refine zD (l:=[0,1,2]) rfl ?_
 refine zA (d:=7) (v:=.slice p n cp) (w':=u0) rfl rfl rfl rfl ?_
 simp only[Act.put,sa,sz,ss]
 refine zA (d:=8) (v:=.int .i64 ((n:Nat):Int)) (w':=u0) rfl rfl rfl (by go_simp) ?_
 simp only[Act.put,sa,sz,ss]
 refine zA (d:=9) (v:=.bool false) (w':=u0) rfl rfl rfl (by go_simp <;> omega) ?_
 simp only[Act.put,sa,sz,ss]
 refine zC (zB ?_)
 refine wp_cond_false rfl (wp_skip ?_)
 refine zB (wp_seq ?_)
 refine zD (l:=[0,1,2,3,4]) rfl ?_
 refine zA (d:=10) (v:=.map (some u0.heap.size)) (w':=(u0.alloc (.map #[] 0))) rfl rfl rfl (ex_mkM59 rfl) ?_
 simp only[Act.put,sa,sz,ss]
 have H2:Hid (Mm (u0.alloc (.map #[] 0)) []∧Nm1 w u0.heap.size (u0.alloc (.map #[] 0))):=⟨Mm.nil _,Nm1.start H1.out.2⟩
 clear H1
 generalize hgw:u0.alloc (.map #[] 0)=w2 at H2 ⊢
 clear hgw
 generalize u0.heap.size=mb at H2 ⊢
 refine zA (d:=11) (v:=.map (some w2.heap.size)) (w':=(w2.alloc (.map #[] 0))) rfl rfl rfl (ex_mkM60 rfl) ?_
 simp only[Act.put,sa,sz,ss]
 have H3:Hid (Mm (w2.alloc (.map #[] 0)) []∧Nm2 w mb w2.heap.size (w2.alloc (.map #[] 0))):=⟨Mm.nil _,Nm2.start H2.out.2⟩
 clear H2
 generalize hgw:w2.alloc (.map #[] 0)=w3 at H3 ⊢
 clear hgw
 generalize w2.heap.size=rb at H3 ⊢
 refine zA (d:=12) (v:=.agg ([Value.map (some mb),Value.map (some rb),Value.int .i64 0]).toArray) (w':=w3) rfl rfl rfl (by kernel_rfl) ?_
 simp only[Act.put,sa,sz,ss]
 refine zA (d:=13) (v:=PT w3.heap.size 0) (w':=(w3.alloc (.cells ([Value.map (some mb),Value.map (some rb),Value.int .i64 0]:List Value).toArray 62))) rfl rfl rfl (ex_boxT rfl rfl) ?_
 simp only[Act.put,sa,sz,ss]
 have H4:Hid (Mm (w3.alloc (.cells ([Value.map (some mb),Value.map (some rb),Value.int .i64 0]:List Value).toArray 62)) []∧Nw w w3.heap.size mb rb (fun _=>false) 0 (w3.alloc (.cells ([Value.map (some mb),Value.map (some rb),Value.int .i64 0]:List Value).toArray 62))):=⟨Mm.nil _,Nw.start H3.out.2 _⟩
 clear H3
 generalize hgw:w3.alloc (.cells ([Value.map (some mb),Value.map (some rb),Value.int .i64 0]:List Value).toArray 62)=w4 at H4 ⊢
 clear hgw
 generalize w3.heap.size=d at H4 ⊢
 refine zA (d:=4) (v:=PT d 0) (w':=w4) rfl rfl rfl rfl ?_
 simp only[Act.put,sa,sz,ss]
 refine zC (zB ?_)
 refine wp_seq (wp_seq ?_)
 refine zD (l:=[0,1,2]) rfl ?_
 refine zA (d:=14) (v:=.slice p n cp) (w':=w4) rfl rfl rfl rfl ?_
 simp only[Act.put,sa,sz,ss]
 refine zA (d:=15) (v:=.int .i64 ((n:Nat):Int)) (w':=w4) rfl rfl rfl (by go_simp) ?_
 simp only[Act.put,sa,sz,ss]
 refine zA (d:=16) (v:=.int .i64 0) (w':=w4) rfl rfl rfl rfl ?_
 simp only[Act.put,sa,sz,ss]
 refine zC (zB (wp_block ?_))
 refine loop_ghost (α:=Nat) (fun x a' w'=>∃ s0:Nat→Value,a'=⟨#[.slice p n cp,ud,.pointer none,.int .i64 0,PT d 0,ud,s0 6,.slice p n cp,.int .i64 ((n:Nat):Int),.bool false,.map (some mb),.map (some rb),.agg ([Value.map (some mb),Value.map (some rb),Value.int .i64 0]).toArray,PT d 0,.slice p n cp,.int .i64 ((n:Nat):Int),.int .i64 ((x:Nat):Int),s0 17,s0 18,s0 19,s0 20,s0 21,s0 22,s0 23,s0 24,s0 25,s0 26,ud],[]⟩∧(Mm w' []∧Nw w d mb rb (rff F x) x w')∧x≤n) (fun x=>n - x) 0 ?st0 ?rd0
 case st0=>exact⟨(slotfn [ud,ud,ud,ud,ud,ud,ud,ud,ud,ud,ud,ud,ud,ud,ud,ud,ud,ud,ud,ud,ud,ud,ud,ud,ud,ud,ud]),rfl,⟨H4.out.1,H4.out.2⟩,Nat.zero_le _⟩
 intro x a' w5 hI
 obtain⟨s0,rfl,hMB,hk0⟩:=hI
 have H5:Hid (_∧_):=hMB
 clear hMB H4
 by_cases hltx:x<n
 ·have hrd:True:=trivial
  clear hrd
  refine wp_seq ?_
  refine zD (l:=[0]) rfl ?_
  refine zA (d:=17) (v:=.bool true) (w':=w5) rfl rfl rfl (by go_simp <;> omega) ?_
  simp only[Act.put,sa,sz,ss]
  refine zC (zB ?_)
  refine wp_seq (wp_cond_true rfl ?_)
  refine wp_skip (zB ?_)
  refine wp_seq (wp_block (wp_seq ?_))
  refine zD (l:=[0,1,2]) rfl ?_
  refine zA (d:=18) (v:=PT g (of+x)) (w':=w5) rfl rfl rfl (ex_ixN (hp.out (by omega)) rfl rfl rfl (by omega)) ?_
  simp only[Act.put,sa,sz,ss]
  refine zA (d:=19) (v:=.int .i64 (F x)) (w':=w5) rfl rfl rfl (ex_ldN ((H5.out.2.two.b.cell (p:=⟨g,_,none⟩) (hcl.out x (by omega)).1).trans (hcl.out x (by omega)).2.1) rfl rfl) ?_
  simp only[Act.put,sa,sz,ss]
  refine zA (d:=6) (v:=.int .i64 (F x)) (w':=w5) rfl rfl rfl rfl ?_
  simp only[Act.put,sa,sz,ss]
  refine zC (zB ?_)
  refine zD (l:=[0,1,2,3,4,5,6]) rfl ?_
  refine zA (d:=20) (v:=PT d 0) (w':=w5) rfl rfl rfl rfl ?_
  simp only[Act.put,sa,sz,ss]
  refine zA (d:=21) (v:=PT d 0) (w':=w5) rfl rfl rfl (by go_simp) ?_
  simp only[Act.put,sa,sz,ss]
  refine zA (d:=22) (v:=PT d 1) (w':=w5) rfl rfl rfl (by go_simp) ?_
  simp only[Act.put,sa,sz,ss]
  refine zA (d:=23) (v:=.map (some rb)) (w':=w5) rfl rfl rfl (zJ H5.out.2.cel 0 rfl rfl rfl Tryz.isAgg60 rfl) ?_
  simp only[Act.put,sa,sz,ss]
  refine zA (d:=24) (v:=.int .i64 (F x)) (w':=w5) rfl rfl rfl rfl ?_
  simp only[Act.put,sa,sz,ss]
  refine zA (d:=25) (v:=.agg (([]:List Value)).toArray) (w':=w5) rfl rfl rfl (by kernel_rfl) ?_
  simp only[Act.put,sa,sz,ss]
  obtain⟨w6,hr9,hI9⟩:=H5.out.2.ref (F x) (hcl.out x (by omega)).2.2 (by omega)
  refine zM rfl rfl rfl (ex_mup hr9 rfl rfl rfl rfl) ?_
  have H6:Hid (Mm w6 []∧Nw w d mb rb (rff F (x+1)) (x+1) w6):=⟨Mm.nil _,hI9⟩
  clear hr9 hI9 H5
  refine zC (block_normal (zB ?_))
  refine zD (l:=[0,1]) rfl ?_
  refine zA (d:=26) (v:=.int .i64 ((x+1:Nat):Int)) (w':=w6) rfl rfl rfl (by go_simp;rw[IntKind.wrap_i64];omega) ?_
  simp only[Act.put,sa,sz,ss]
  refine zA (d:=16) (v:=.int .i64 ((x+1:Nat):Int)) (w':=w6) rfl rfl rfl rfl ?_
  simp only[Act.put,sa,sz,ss]
  refine zC (zB ?_)
  exact⟨x+1,⟨(slotfn [ud,ud,ud,ud,ud,ud,.int .i64 (F x),ud,ud,ud,ud,ud,ud,ud,ud,ud,ud,.bool true,PT g (of+x),.int .i64 (F x),PT d 0,PT d 0,PT d 1,.map (some rb),.int .i64 (F x),.agg (([]:List Value)).toArray,.int .i64 ((x+1:Nat):Int)]),rfl,⟨H6.out.1,H6.out.2⟩,(show x+1≤n by omega)⟩,(show n - (x+1)<n - x by omega)⟩
 refine wp_seq ?_
 refine zD (l:=[0]) rfl ?_
 refine zA (d:=17) (v:=.bool false) (w':=w5) rfl rfl rfl (by go_simp <;> omega) ?_
 simp only[Act.put,sa,sz,ss]
 refine zC (zB ?_)
 refine wp_seq (wp_cond_false rfl ?_)
 refine wp_exit ?_
 repeat refine then_exit ?_
 refine block_exit ?_
 have hxn:x=n:=by omega
 refine zB (wp_seq ?_)
 refine zD (l:=[0,1,2]) rfl ?_
 refine zA (d:=27) (v:=PT d 0) (w':=w5) rfl rfl rfl rfl ?_
 simp only[Act.put,sa,sz,ss]
 refine zA (d:=2) (v:=PT d 0) (w':=w5) rfl rfl rfl rfl ?_
 simp only[Act.put,sa,sz,ss]
 refine zA (d:=3) (v:=.int .i64 0) (w':=w5) rfl rfl rfl rfl ?_
 simp only[Act.put,sa,sz,ss]
 refine zC (zB (wp_ret ?_))
 repeat (first | refine zI ?_ | refine zH ?_)
 refine bodyPost_ret (v:=.tuple #[PT d 0,.int .i64 0]) (by simp[results,Tryz.results8,go_sem, *]) rfl ?_
 exact⟨_,_,_,rfl,by rw[← hxn];exact H5.out.2⟩
theorem New_nil (w:World):Calls Tryz.prog 8 #[.slice none 0 0] w fun e w'=>∃ d mb rb,e=.returned (.tuple #[PT d 0,.int .i64 0])∧Nw w d mb rb (fun _=>false) 0 w':=New_any none 0 0 0 0 (fun _=>0) (by decide) w (fun h=>absurd h (by decide)) (fun i hi=>absurd hi (Nat.not_lt_zero _))
end Wi
end Rg
end Go.Proofs.YtmcpagjhpfbpgaaGreatDoor
end
section
namespace Go.Proofs.YtmcpagjhpfbpgaaGreatDoor
open Go.RowKit
namespace Rg
namespace Wi
set_option maxRecDepth 100000
section
variable (D:Dq) (s:ByteArray) (q:Pt8) (w:World)
theorem Dw.co {D:Dq} {w:World} {r:Int} (h:DOk w D) (hk:D.k+1<4611686018427387904) (hr:(if D.no then (13:Int) else 0)=r):∀ u,Below w.heap.size w u→Calls Tryz.prog 87 #[PT D.d 0] u fun e u'=>e=.returned (.int .i64 r)∧Dw w D D.tick u':=fun u hu =>
 (count_f D u (h.below hu) hk).mono fun e u' hh=>⟨by rw[hh.1,← hr],hh.2.1,(Chg.of hu).trans hh.2.2 (fun x hx=>.inl hx),fun x hx=>.inl hx⟩
theorem zR {w:World}:∀ u u',Below w.heap.size w u→Below u.heap.size u u'→Below w.heap.size w u':=fun _ _ h1 h2=>h1.trans (h2.mono h1.size)
theorem Append_no_f (h:DOk w D) (hk:D.k+1<4611686018427387904) (hno:D.no=true):Calls Tryz.prog 35 #[PT D.d 0,.string s,.slice q.p q.n q.cp] w fun e w'=>e=.returned (.int .i64 13)∧Dw w D D.tick w' :=
 Append_no D.d s q (fun u=>Below w.heap.size w u) (Dw w D D.tick) w (Below.refl _ _) zR Dw.step (Dw.co h hk (by rw[hno];rfl))
theorem nm_is (c:Bool) (h:nmd s=c) {I:World→Prop}:∀ u,I u→Calls Tryz.prog 88 #[.string s] u fun e u'=>e=.returned (.bool c)∧Below u.heap.size u u':=fun u _=>(named_any s u).mono fun e u' hh=>⟨by rw[hh.1,h],hh.2⟩
theorem Append_bad_f (h:DOk w D) (hk:D.k+1<4611686018427387904) (hno:D.no=false) (hnm:nmd s=false):Calls Tryz.prog 35 #[PT D.d 0,.string s,.slice q.p q.n q.cp] w fun e w'=>e=.returned (.int .i64 2)∧Dw w D D.tick w' :=
 Append_bad D.d s q (fun u=>Below w.heap.size w u) (Dw w D D.tick) w (Below.refl _ _) zR Dw.step (Dw.co h hk (by rw[hno];rfl)) (nm_is s false hnm)
theorem Dw.lk {D:Dq} {w:World} {s:ByteArray} (hsz:s.size≤maxLen) {x:Option Fq} (hl:lk D.fs s=x):∀ u,Dw w D D.tick u→(Instr.lookup 59 (.map (some D.mb)) (.string s) false).run Tryz.prog u=.ok (pv x) u:=fun u hu=>by
 have e:=hu.1.look (u:=u) s hsz rfl
 rw[show Wi.lk D.tick.fs s=x from hl] at e
 exact e
theorem Append_long_f (h:DOk w D) (hk:D.k+1<4611686018427387904) (hno:D.no=false) (hnm:nmd s=true) (hsz:s.size≤maxLen) (f:Fq) (hl:lk D.fs s=some f) (hq:q.n≤281474976710656) (hL:1048576<f.N+q.n):Calls Tryz.prog 35 #[PT D.d 0,.string s,.slice q.p q.n q.cp] w fun e w'=>e=.returned (.int .i64 3)∧Dw w D D.tick w' :=
 have hm:=(lk_mem hl).1
 Append_long D.d s q D.mb D.rb f.g f.N ((D.k+1:Nat):Int) (h.fl f hm).N1 hq hL (fun u=>Below w.heap.size w u) (Dw w D D.tick) w (Below.refl _ _) zR Dw.step (Dw.co h hk (by rw[hno];rfl)) (nm_is s true hnm) (fun u hu=>hu.1.cel) (Dw.lk hsz hl) (fun u hu=>size_f f u (hu.1.fl f hm))
theorem Dw.len {D:Dq} {w:World}:∀ u,Dw w D D.tick u→∀ ty,(Builtin.len_ #[59] ty #[.map (some D.mb)]).run Tryz.prog u=.ok (.int .i64 ((D.fs.length:Nat):Int)) u:=fun u hu ty=>by
 obtain⟨X,x1,_,_,x4⟩:=hu.1.mp
 have e:=x1.len Tryz.underlying59 ty
 rw[x4] at e
 exact e
theorem Append_full_f (h:DOk w D) (hk:D.k+1<4611686018427387904) (hno:D.no=false) (hnm:nmd s=true) (hsz:s.size≤maxLen) (hl:lk D.fs s=none) (hL:64≤D.fs.length):Calls Tryz.prog 35 #[PT D.d 0,.string s,.slice q.p q.n q.cp] w fun e w'=>e=.returned (.int .i64 8)∧Dw w D D.tick w' :=
 Append_full D.d s q D.mb D.rb D.fs.length ((D.k+1:Nat):Int) hL (fun u=>Below w.heap.size w u) (Dw w D D.tick) w (Below.refl _ _) zR Dw.step (Dw.co h hk (by rw[hno];rfl)) (nm_is s true hnm) (fun u hu=>hu.1.cel) (Dw.lk hsz hl) Dw.len
theorem Append_newlong_f (h:DOk w D) (hk:D.k+1<4611686018427387904) (hno:D.no=false) (hnm:nmd s=true) (hsz:s.size≤maxLen) (hl:lk D.fs s=none) (h64:D.fs.length<64) (hq:q.n≤281474976710656) (hL:1048576<q.n):Calls Tryz.prog 35 #[PT D.d 0,.string s,.slice q.p q.n q.cp] w fun e w'=>e=.returned (.int .i64 3)∧Dw w D D.tick w':=by
 refine(Append_newlong D.d D.mb D.rb D.fs.length 0 s q ((D.k+1:Nat):Int) h64 (Nat.zero_le _) hq (by omega) (fun u=>Below w.heap.size w u) (Dw w D D.tick) (fun g u=>Dw w D D.tick u∧FOk u (newF s g)) w (Below.refl _ _) zR Dw.step (fun g u u' hu hb=>⟨Dw.step _ _ hu.1 hb,hu.2.below hb⟩) (Dw.co h hk (by rw[hno];rfl)) (nm_is s true hnm) (fun u hu=>hu.1.cel) (Dw.lk hsz hl) Dw.len (fun u hu => ?_) (fun g u hu=>size_f (newF s g) u hu.2)).mono fun e w' hh => ?_
 ·exact⟨Dw.step _ _ hu ((Below.refl _ _).alloc (Nat.le_refl _) _),newF_ok s ((Mm.nil u).alloc _ _ rfl)⟩
 ·obtain⟨e1,g,e2,_⟩:=hh
  exact⟨e1,e2⟩
end
end Wi
end Rg
end Go.Proofs.YtmcpagjhpfbpgaaGreatDoor
end
