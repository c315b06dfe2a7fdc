/- Texts of the proof, joined. -/
import Derived.Test.YtmcpagjhpfbpgaaGreatDoorP6
import Derived.Deep.RegionWith
import Derived.Deep.QuietTactic
set_option maxRecDepth 100000
set_option maxHeartbeats 8000000
section
namespace Go.Proofs.YtmcpagjhpfbpgaaGreatDoor
open Go.RowKit
namespace Rg
namespace Wi
theorem call8:CO 8:=by intro args w;go_simp
theorem call35:CO 35:=by intro args w;go_simp
theorem call100:CO 100:=by intro args w;go_simp
theorem call166:CO 166:=by intro args w;go_simp
set_option maxRecDepth 100000
def jc (d:Nat) (s:ByteArray) (c z:Nat):List Value:=PT d 0 :: .string s :: (zN .u32 crt 256++[.int .i64 ((c:Nat):Int),.int .i64 ((z:Nat):Int)])
theorem jc_len (d:Nat) (s:ByteArray) (c z:Nat):(jc d s c z).length=260:=by simp[jc,zO]
theorem jc_tab (d:Nat) (s:ByteArray) (c z:Nat) {i:Nat} (h:i<256):(jc d s c z)[2+i]?=some (W32 (crt i)):=by
 unfold jc
 rw[Nat.add_comm 2 i]
 show (zN .u32 crt 256++_)[i]?=_
 rw[List.getElem?_append_left (by rw[zO];exact h),ints_get _ _ h]
theorem jc_c (d:Nat) (s:ByteArray) (c z:Nat):(jc d s c z)[258]?=some (.int .i64 ((c:Nat):Int)):=by
 unfold jc
 show (zN .u32 crt 256++_)[256]?=_
 rw[List.getElem?_append_right (by rw[zO];decide),zO]
 rfl
theorem jc_z (d:Nat) (s:ByteArray) (c z:Nat):(jc d s c z)[259]?=some (.int .i64 ((z:Nat):Int)):=by
 unfold jc
 show (zN .u32 crt 256++_)[257]?=_
 rw[List.getElem?_append_right (by rw[zO];decide),zO]
 rfl
theorem jc_get (d:Nat) (s:ByteArray) (c z k:Nat) (h:k<258) (c' z':Nat):(jc d s c z)[k]?=(jc d s c' z')[k]?:=by
 unfold jc
 match k,h with
 | 0,_=>rfl
 | 1,_=>rfl
 | k+2,h =>
  show (zN .u32 crt 256++_)[k]?=(zN .u32 crt 256++_)[k]?
  rw[List.getElem?_append_left (by rw[zO];omega),List.getElem?_append_left (by rw[zO];omega)]
theorem jc_putc (d:Nat) (s:ByteArray) (c z c':Nat):patch (jc d s c z) 258 [.int .i64 ((c':Nat):Int)]=jc d s c' z:=by
 apply List.ext_getElem?
 intro k
 rw[patch_get _ _ _ (by rw[jc_len];show 258+1≤260;decide)]
 by_cases h:k<258
 ·rw[if_neg (by simp;omega)]
  exact jc_get _ _ _ _ _ h _ _
 ·by_cases h2:k=258
  ·subst h2
   rw[if_pos (by simp),jc_c]
   rfl
  ·rw[if_neg (by simp;omega)]
   by_cases h3:k=259
   ·subst h3
    rw[jc_z,jc_z]
   ·rw[List.getElem?_eq_none (by rw[jc_len];omega),List.getElem?_eq_none (by rw[jc_len];omega)]
theorem jc_putz (d:Nat) (s:ByteArray) (c z z':Nat):patch (jc d s c z) 259 [.int .i64 ((z':Nat):Int)]=jc d s c z':=by
 apply List.ext_getElem?
 intro k
 rw[patch_get _ _ _ (by rw[jc_len];show 259+1≤260;decide)]
 by_cases h:k<258
 ·rw[if_neg (by simp;omega)]
  exact jc_get _ _ _ _ _ h _ _
 ·by_cases h2:k=259
  ·subst h2
   rw[if_pos (by simp),jc_z]
   rfl
  ·rw[if_neg (by simp;omega)]
   by_cases h3:k=258
   ·subst h3
    rw[jc_c,jc_c]
   ·rw[List.getElem?_eq_none (by rw[jc_len];omega),List.getElem?_eq_none (by rw[jc_len];omega)]
theorem Tb.jc {w:World} {j d c z:Nat} {s:ByteArray} (h:Mm w [(j,jc d s c z)]):Tb j 2 w:=⟨(h.blk _ (List.mem_cons_self ..)).1,fun _ hi=>h.get 0 rfl _ (jc_tab _ _ _ _ hi)⟩
theorem Mm.keep1 {w u:World} {g:Nat} {cs:List Value} (h:Mm w [(g,cs)]) (hs:w.heap.size≤u.heap.size) (hb:u.heap[g]?=w.heap[g]?):Mm u [(g,cs)] :=
 ⟨fun p hp=>by
  obtain rfl:=List.mem_singleton.1 hp
  have hk:=h.blk _ (List.mem_cons_self ..)
  refine⟨Nat.lt_of_lt_of_le hk.1 hs,fun j v hv => ?_⟩
  have:=hk.2 j v hv
  rw[World.cell?_of_block (a:=⟨g,j,none⟩) hb,World.frozen?_of_block (a:=⟨g,j,none⟩) hb]
  exact this,h.nd⟩
def nilp (f:Nat→Nat):Pt8:=⟨0,0,0,0,none,f⟩
theorem nilp_ok (f:Nat→Nat) (w:World):Pok (nilp f)∧((nilp f).p=none→(nilp f).cp=0)∧(nilp f).rs w:=⟨⟨Bv.void _ _ _ _ _,Nat.le_refl _⟩,fun _=>rfl,Rs.void _ _ _ _⟩
theorem nilp_rq (f:Nat→Nat) (D:Dq) (w:World):Rq (nilp f) D w:=⟨(nilp_ok f w).1,(nilp_ok f w).2.1,(nilp_ok f w).2.2,fun h=>absurd h (by show ¬0<0;decide)⟩
theorem Nw.down {w u u':World} {d mb rb m:Nat} {rf:Nat→Bool} (h:Nw w d mb rb rf m u) (hc:Chg (Dq.bl ⟨d,mb,rb,0,[],rf⟩) u u'):Below w.heap.size w u':=by
 have h1:=h.two.nm
 have h2:=h.nr
 have h3:=h.nd
 refine h.two.b.trans (hc.toBelow (fun x hx => ?_) h.two.b.size)
 have:x=d∨x=mb∨x=rb:=by simpa [Dq.bl] using hx
 omega
theorem fresh_append {w u:World} {d mb rb m:Nat} {rf:Nat→Bool} (h:Nw w d mb rb rf m u) (hr:rf 1=false) (s:ByteArray) (hs:s.size≤281474976710656):Calls Tryz.prog 35 #[PT d 0,.string s,.slice none 0 0] u fun e u'=>e=.returned (.int .i64 (if nmd s then 0 else 2))∧Below w.heap.size w u':=by
 cases hn:nmd s with
 | true =>
  refine(Append_new_f ⟨d,mb,rb,0,[],rf⟩ s hs (nilp (fun _=>0)) u h.disk (show 0+1<4611686018427387904 by decide) (nilp_rq _ _ _) hr hn rfl (show 0<64 by decide) (show 0≤1048576 by decide)).mono fun e u' hh => ?_
  obtain⟨e1,g,q2,v,_,_,e2⟩:=hh
  exact⟨e1,h.down e2.2.1⟩
 | false=>exact(Append_bad_f ⟨d,mb,rb,0,[],rf⟩ s (nilp (fun _=>0)) u h.disk (show 0+1<4611686018427387904 by decide) hr hn).mono fun e u' hh=>⟨hh.1,h.down hh.2.2.1⟩
theorem fresh_is {w u:World} {d mb rb m:Nat} {rf:Nat→Bool} (h:Nw w d mb rb rf m u) (hr:rf 1=false) (s:ByteArray) (hs:s.size≤281474976710656) {c:Bool} (hc:nmd s=c) {r:Int} (hx:(if c then (0:Int) else 2)=r):Calls Tryz.prog 35 #[PT d 0,.string s,.slice none 0 0] u fun e u'=>e=.returned (.int .i64 r)∧Below w.heap.size w u':=by
 subst hc
 subst hx
 exact fresh_append h hr s hs
theorem Nw.up {w u u':World} {d mb rb m:Nat} {rf:Nat→Bool} (h:Nw u d mb rb rf m u') (hb:Below w.heap.size w u):Nw w d mb rb rf m u':=⟨⟨hb.trans (h.two.b.mono hb.size),Nat.le_trans hb.size h.two.nm,h.two.mp⟩,h.nr,h.nd,h.cel,h.rm⟩
theorem jnamed_1 (s:ByteArray) (hs:s.size≤281474976710656) (hn:nmd s=true) (w:World) :
  Calls Tryz.prog 166 #[.string s] w (Rt w (.bool true)):=by
 have H0:Hid (_∧_):=⟨Mm.nil w,Below.refl w.heap.size w⟩
 go_enter Tryz.func166,Tryz.ntmps166
 refine wp_seq ?_
 refine zG (l:=[0]) rfl (fun u0 hu0 => ?_)
 have H1:Hid (Mm u0 []∧Below w.heap.size w u0):=by rw[hu0];exact H0
 clear hu0 H0
 refine zA (d:=2) (v:=.bool false) (w':=u0) rfl rfl rfl rfl ?_
 simp only[Act.put,sa,sz,ss]
 refine zC (zB (wp_seq ?_))
 refine zD (l:=[0,1,2,3,4,5]) rfl ?_
 refine zE (d:=6) (R:=fun vv w'=>∃ d mb rb,vv=.tuple #[PT d 0,.int .i64 0]∧Nw w d mb rb (fun _=>false) 0 w') rfl rfl rfl (zF (args:=#[.slice none 0 0]) rfl call8 rfl (mpn rfl)) (Calls.mono (New_nil u0) (fun e w2 hh=>by obtain⟨d,mb,rb,he,hI⟩:=hh;exact⟨_,he,d,mb,rb,rfl,hI.up H1.out.2⟩)) ?_
 rintro _ w2 ⟨d,mb,rb,rfl,hI⟩
 have H2:Hid (Mm w2 []∧Nw w d mb rb (fun _=>false) 0 w2):=⟨Mm.nil _,hI⟩
 clear hI H1
 simp only[Act.put,sa,sz,ss]
 refine zA (d:=5) (v:=.tuple #[PT d 0,.int .i64 0]) (w':=w2) rfl rfl rfl rfl ?_
 simp only[Act.put,sa,sz,ss]
 refine zA (d:=7) (v:=PT d 0) (w':=w2) rfl rfl rfl (by go_simp) ?_
 simp only[Act.put,sa,sz,ss]
 refine zA (d:=8) (v:=.int .i64 0) (w':=w2) rfl rfl rfl (by go_simp) ?_
 simp only[Act.put,sa,sz,ss]
 refine zA (d:=3) (v:=PT d 0) (w':=w2) rfl rfl rfl rfl ?_
 simp only[Act.put,sa,sz,ss]
 refine zA (d:=4) (v:=.int .i64 0) (w':=w2) rfl rfl rfl rfl ?_
 simp only[Act.put,sa,sz,ss]
 refine zC (zB (wp_seq ?_))
 refine zD (l:=[0,1,2,3,4]) rfl ?_
 refine zA (d:=9) (v:=PT d 0) (w':=w2) rfl rfl rfl rfl ?_
 simp only[Act.put,sa,sz,ss]
 refine zA (d:=10) (v:=.string s) (w':=w2) rfl rfl rfl rfl ?_
 simp only[Act.put,sa,sz,ss]
 refine zE (d:=11) (R:=fun vv w'=>vv=.int .i64 0∧Below w.heap.size w w') rfl rfl rfl (zF (args:=#[PT d 0,.string s,.slice none 0 0]) rfl call35 rfl (mpn rfl)) (Calls.mono (fresh_is H2.out.2 rfl s hs hn rfl) (fun e w2 hh=>⟨_,hh.1,rfl,hh.2⟩)) ?_
 rintro _ w3 ⟨rfl,hI⟩
 have H3:Hid (Mm w3 []∧Below w.heap.size w w3):=⟨Mm.nil _,hI⟩
 clear hI H2
 simp only[Act.put,sa,sz,ss]
 refine zA (d:=12) (v:=.bool true) (w':=w3) rfl rfl rfl (by kernel_rfl) ?_
 simp only[Act.put,sa,sz,ss]
 refine zA (d:=2) (v:=.bool true) (w':=w3) rfl rfl rfl rfl ?_
 simp only[Act.put,sa,sz,ss]
 refine zC (zB (wp_ret ?_))
 repeat (first | refine zI ?_ | refine zH ?_)
 refine bodyPost_ret (v:=.bool true) (by simp[results,Tryz.results166,go_sem, *]) rfl ?_
 exact⟨rfl,H3.out.2⟩
theorem jnamed_0 (s:ByteArray) (hs:s.size≤281474976710656) (hn:nmd s=false) (w:World) :
  Calls Tryz.prog 166 #[.string s] w (Rt w (.bool false)):=by
 have H0:Hid (_∧_):=⟨Mm.nil w,Below.refl w.heap.size w⟩
 go_enter Tryz.func166,Tryz.ntmps166
 refine wp_seq ?_
 refine zG (l:=[0]) rfl (fun u0 hu0 => ?_)
 have H1:Hid (Mm u0 []∧Below w.heap.size w u0):=by rw[hu0];exact H0
 clear hu0 H0
 refine zA (d:=2) (v:=.bool false) (w':=u0) rfl rfl rfl rfl ?_
 simp only[Act.put,sa,sz,ss]
 refine zC (zB (wp_seq ?_))
 refine zD (l:=[0,1,2,3,4,5]) rfl ?_
 refine zE (d:=6) (R:=fun vv w'=>∃ d mb rb,vv=.tuple #[PT d 0,.int .i64 0]∧Nw w d mb rb (fun _=>false) 0 w') rfl rfl rfl (zF (args:=#[.slice none 0 0]) rfl call8 rfl (mpn rfl)) (Calls.mono (New_nil u0) (fun e w2 hh=>by obtain⟨d,mb,rb,he,hI⟩:=hh;exact⟨_,he,d,mb,rb,rfl,hI.up H1.out.2⟩)) ?_
 rintro _ w2 ⟨d,mb,rb,rfl,hI⟩
 have H2:Hid (Mm w2 []∧Nw w d mb rb (fun _=>false) 0 w2):=⟨Mm.nil _,hI⟩
 clear hI H1
 simp only[Act.put,sa,sz,ss]
 refine zA (d:=5) (v:=.tuple #[PT d 0,.int .i64 0]) (w':=w2) rfl rfl rfl rfl ?_
 simp only[Act.put,sa,sz,ss]
 refine zA (d:=7) (v:=PT d 0) (w':=w2) rfl rfl rfl (by go_simp) ?_
 simp only[Act.put,sa,sz,ss]
 refine zA (d:=8) (v:=.int .i64 0) (w':=w2) rfl rfl rfl (by go_simp) ?_
 simp only[Act.put,sa,sz,ss]
 refine zA (d:=3) (v:=PT d 0) (w':=w2) rfl rfl rfl rfl ?_
 simp only[Act.put,sa,sz,ss]
 refine zA (d:=4) (v:=.int .i64 0) (w':=w2) rfl rfl rfl rfl ?_
 simp only[Act.put,sa,sz,ss]
 refine zC (zB (wp_seq ?_))
 refine zD (l:=[0,1,2,3,4]) rfl ?_
 refine zA (d:=9) (v:=PT d 0) (w':=w2) rfl rfl rfl rfl ?_
 simp only[Act.put,sa,sz,ss]
 refine zA (d:=10) (v:=.string s) (w':=w2) rfl rfl rfl rfl ?_
 simp only[Act.put,sa,sz,ss]
 refine zE (d:=11) (R:=fun vv w'=>vv=.int .i64 2∧Below w.heap.size w w') rfl rfl rfl (zF (args:=#[PT d 0,.string s,.slice none 0 0]) rfl call35 rfl (mpn rfl)) (Calls.mono (fresh_is H2.out.2 rfl s hs hn rfl) (fun e w2 hh=>⟨_,hh.1,rfl,hh.2⟩)) ?_
 rintro _ w3 ⟨rfl,hI⟩
 have H3:Hid (Mm w3 []∧Below w.heap.size w w3):=⟨Mm.nil _,hI⟩
 clear hI H2
 simp only[Act.put,sa,sz,ss]
 refine zA (d:=12) (v:=.bool false) (w':=w3) rfl rfl rfl (by kernel_rfl) ?_
 simp only[Act.put,sa,sz,ss]
 refine zA (d:=2) (v:=.bool false) (w':=w3) rfl rfl rfl rfl ?_
 simp only[Act.put,sa,sz,ss]
 refine zC (zB (wp_ret ?_))
 repeat (first | refine zI ?_ | refine zH ?_)
 refine bodyPost_ret (v:=.bool false) (by simp[results,Tryz.results166,go_sem, *]) rfl ?_
 exact⟨rfl,H3.out.2⟩
theorem jnamed_any (s:ByteArray) (hs:s.size≤281474976710656) (w:World):Calls Tryz.prog 166 #[.string s] w (Rt w (.bool (nmd s))):=by
 cases hn:nmd s with
 | true=>exact jnamed_1 s hs hn w
 | false=>exact jnamed_0 s hs hn w
theorem jnm_is (s:ByteArray) (hs:s.size≤281474976710656) (c:Bool) (hn:nmd s=c) (w:World):Calls Tryz.prog 166 #[.string s] w (Rt w (.bool c)):=by
 rw[← hn]
 exact jnamed_any s hs w
theorem jcontent_hit (d:Nat) (s:ByteArray) (hs:s.size≤281474976710656) (hn:nmd s=true) (I1:Pt8→World→Prop) (w:World) (s1z:∀ q u u',I1 q u→Below u.heap.size u u'→I1 q u') (hrdz:∀ u,Below w.heap.size w u→Calls Tryz.prog 100 #[PT d 0,.string s] u fun e u'=>∃ q:Pt8,e=.returned (.tuple #[.slice q.p q.n q.cp,.int .i64 0])∧I1 q u') :
  Calls Tryz.prog 147 #[PT d 0,.string s] w fun e w'=>∃ q:Pt8,e=.returned (.tuple #[.slice q.p q.n q.cp,.int .i64 0])∧I1 q w':=by
 have H0:Hid (_∧_):=⟨Mm.nil w,Below.refl w.heap.size w⟩
 have s1:Hid _:=s1z
 have hrd:Hid _:=hrdz
 clear s1z hrdz
 go_enter Tryz.func147,Tryz.ntmps147
 refine wp_seq ?_
 refine zG (l:=[0,1]) rfl (fun u0 hu0 => ?_)
 have H1:Hid (Mm u0 []∧Below w.heap.size w u0):=by rw[hu0];exact H0
 clear hu0 H0
 refine zA (d:=4) (v:=.slice none 0 0) (w':=u0) rfl rfl rfl rfl ?_
 simp only[Act.put,sa,sz,ss]
 refine zA (d:=5) (v:=.int .i64 0) (w':=u0) rfl rfl rfl rfl ?_
 simp only[Act.put,sa,sz,ss]
 refine zC (zB (wp_seq ?_))
 refine zD (l:=[0,1,2,3,4,5,6,7]) rfl ?_
 refine zA (d:=9) (v:=PT d 0) (w':=u0) rfl rfl rfl rfl ?_
 simp only[Act.put,sa,sz,ss]
 refine zA (d:=10) (v:=.string s) (w':=u0) rfl rfl rfl rfl ?_
 simp only[Act.put,sa,sz,ss]
 refine zE (d:=11) (R:=fun vv w'=>∃ q:Pt8,vv=.tuple #[.slice q.p q.n q.cp,.int .i64 0]∧I1 q w') rfl rfl rfl (zF (args:=#[PT d 0,.string s]) rfl call100 rfl (mpn rfl)) (Calls.mono (hrd.out u0 H1.out.2) (fun e w2 hh=>by obtain⟨q,he,hI⟩:=hh;exact⟨_,he,q,rfl,hI⟩)) ?_
 rintro _ w2 ⟨q,rfl,hI⟩
 have H2:Hid (Mm w2 []∧I1 q w2):=⟨Mm.nil _,hI⟩
 clear hI H1
 simp only[Act.put,sa,sz,ss]
 refine zA (d:=8) (v:=.tuple #[.slice q.p q.n q.cp,.int .i64 0]) (w':=w2) rfl rfl rfl rfl ?_
 simp only[Act.put,sa,sz,ss]
 refine zA (d:=12) (v:=.slice q.p q.n q.cp) (w':=w2) rfl rfl rfl (by go_simp) ?_
 simp only[Act.put,sa,sz,ss]
 refine zA (d:=13) (v:=.int .i64 0) (w':=w2) rfl rfl rfl (by go_simp) ?_
 simp only[Act.put,sa,sz,ss]
 refine zA (d:=6) (v:=.slice q.p q.n q.cp) (w':=w2) rfl rfl rfl rfl ?_
 simp only[Act.put,sa,sz,ss]
 refine zA (d:=7) (v:=.int .i64 0) (w':=w2) rfl rfl rfl rfl ?_
 simp only[Act.put,sa,sz,ss]
 refine zC (zB ?_)
 refine wp_seq (wp_seq ?_)
 refine zD (l:=[0,1]) rfl ?_
 refine zA (d:=14) (v:=.int .i64 0) (w':=w2) rfl rfl rfl rfl ?_
 simp only[Act.put,sa,sz,ss]
 refine zA (d:=15) (v:=.bool false) (w':=w2) rfl rfl rfl (by kernel_rfl) ?_
 simp only[Act.put,sa,sz,ss]
 refine zC (zB ?_)
 refine wp_cond_false rfl (wp_skip ?_)
 refine zB (wp_seq (wp_seq ?_))
 refine zD (l:=[0,1,2]) rfl ?_
 refine zA (d:=17) (v:=.string s) (w':=w2) rfl rfl rfl rfl ?_
 simp only[Act.put,sa,sz,ss]
 refine zE (d:=18) (R:=fun vv w'=>vv=.bool true∧Below w2.heap.size w2 w') rfl rfl rfl (zF (args:=#[.string s]) rfl call166 rfl (mpn rfl)) (Calls.mono (jnm_is s hs true hn w2) (fun e w2 hh=>⟨_,hh.1,rfl,hh.2⟩)) ?_
 rintro _ w3 ⟨rfl,hb⟩
 have H3:Hid (Mm w3 []∧I1 q w3):=⟨H2.out.1.below hb,s1.out q _ _ H2.out.2 (hb)⟩
 clear hb
 clear H2
 simp only[Act.put,sa,sz,ss]
 refine zA (d:=19) (v:=.bool false) (w':=w3) rfl rfl rfl (by go_simp) ?_
 simp only[Act.put,sa,sz,ss]
 refine zC (zB ?_)
 refine wp_cond_false rfl (wp_skip ?_)
 refine zB (wp_seq (wp_seq ?_))
 refine zD (l:=[0,1]) rfl ?_
 refine zA (d:=20) (v:=.int .i64 0) (w':=w3) rfl rfl rfl rfl ?_
 simp only[Act.put,sa,sz,ss]
 refine zA (d:=21) (v:=.bool false) (w':=w3) rfl rfl rfl (by kernel_rfl) ?_
 simp only[Act.put,sa,sz,ss]
 refine zC (zB ?_)
 refine wp_cond_false rfl (wp_skip ?_)
 refine zB (wp_seq ?_)
 refine zD (l:=[0,1,2,3]) rfl ?_
 refine zA (d:=22) (v:=.slice q.p q.n q.cp) (w':=w3) rfl rfl rfl rfl ?_
 simp only[Act.put,sa,sz,ss]
 refine zA (d:=23) (v:=.int .i64 0) (w':=w3) rfl rfl rfl rfl ?_
 simp only[Act.put,sa,sz,ss]
 refine zA (d:=4) (v:=.slice q.p q.n q.cp) (w':=w3) rfl rfl rfl rfl ?_
 simp only[Act.put,sa,sz,ss]
 refine zA (d:=5) (v:=.int .i64 0) (w':=w3) rfl rfl rfl rfl ?_
 simp only[Act.put,sa,sz,ss]
 refine zC (zB (wp_ret ?_))
 repeat (first | refine zI ?_ | refine zH ?_)
 refine bodyPost_ret (v:=.tuple #[.slice q.p q.n q.cp,.int .i64 0]) (by simp[results,Tryz.results147,go_sem, *]) rfl ?_
 exact⟨_,rfl,H3.out.2⟩
theorem jcontent_miss (d:Nat) (s:ByteArray) (hs:s.size≤281474976710656) (hn:nmd s=true) (w:World) (hrdz:∀ u,Below w.heap.size w u→Calls Tryz.prog 100 #[PT d 0,.string s] u fun e u'=>e=.returned (.tuple #[.slice none 0 0,.int .i64 6])∧Below u.heap.size u u') :
  Calls Tryz.prog 147 #[PT d 0,.string s] w (Rt w (.tuple #[.slice none 0 0,.int .i64 0])):=by
 have H0:Hid (_∧_):=⟨Mm.nil w,Below.refl w.heap.size w⟩
 have hrd:Hid _:=hrdz
 clear hrdz
 go_enter Tryz.func147,Tryz.ntmps147
 refine wp_seq ?_
 refine zG (l:=[0,1]) rfl (fun u0 hu0 => ?_)
 have H1:Hid (Mm u0 []∧Below w.heap.size w u0):=by rw[hu0];exact H0
 clear hu0 H0
 refine zA (d:=4) (v:=.slice none 0 0) (w':=u0) rfl rfl rfl rfl ?_
 simp only[Act.put,sa,sz,ss]
 refine zA (d:=5) (v:=.int .i64 0) (w':=u0) rfl rfl rfl rfl ?_
 simp only[Act.put,sa,sz,ss]
 refine zC (zB (wp_seq ?_))
 refine zD (l:=[0,1,2,3,4,5,6,7]) rfl ?_
 refine zA (d:=9) (v:=PT d 0) (w':=u0) rfl rfl rfl rfl ?_
 simp only[Act.put,sa,sz,ss]
 refine zA (d:=10) (v:=.string s) (w':=u0) rfl rfl rfl rfl ?_
 simp only[Act.put,sa,sz,ss]
 refine zE (d:=11) (R:=fun vv w'=>vv=.tuple #[.slice none 0 0,.int .i64 6]∧Below u0.heap.size u0 w') rfl rfl rfl (zF (args:=#[PT d 0,.string s]) rfl call100 rfl (mpn rfl)) (Calls.mono (hrd.out u0 H1.out.2) (fun e w2 hh=>⟨_,hh.1,rfl,hh.2⟩)) ?_
 rintro _ w2 ⟨rfl,hb⟩
 have H2:Hid (Mm w2 []∧Below w.heap.size w w2):=⟨H1.out.1.below hb,H1.out.2.trans (hb.mono H1.out.2.size)⟩
 clear hb
 clear H1
 simp only[Act.put,sa,sz,ss]
 refine zA (d:=8) (v:=.tuple #[.slice none 0 0,.int .i64 6]) (w':=w2) rfl rfl rfl rfl ?_
 simp only[Act.put,sa,sz,ss]
 refine zA (d:=12) (v:=.slice none 0 0) (w':=w2) rfl rfl rfl (by go_simp) ?_
 simp only[Act.put,sa,sz,ss]
 refine zA (d:=13) (v:=.int .i64 6) (w':=w2) rfl rfl rfl (by go_simp) ?_
 simp only[Act.put,sa,sz,ss]
 refine zA (d:=6) (v:=.slice none 0 0) (w':=w2) rfl rfl rfl rfl ?_
 simp only[Act.put,sa,sz,ss]
 refine zA (d:=7) (v:=.int .i64 6) (w':=w2) rfl rfl rfl rfl ?_
 simp only[Act.put,sa,sz,ss]
 refine zC (zB ?_)
 refine wp_seq (wp_seq ?_)
 refine zD (l:=[0,1]) rfl ?_
 refine zA (d:=14) (v:=.int .i64 6) (w':=w2) rfl rfl rfl rfl ?_
 simp only[Act.put,sa,sz,ss]
 refine zA (d:=15) (v:=.bool false) (w':=w2) rfl rfl rfl (by kernel_rfl) ?_
 simp only[Act.put,sa,sz,ss]
 refine zC (zB ?_)
 refine wp_cond_false rfl (wp_skip ?_)
 refine zB (wp_seq (wp_seq ?_))
 refine zD (l:=[0,1,2]) rfl ?_
 refine zA (d:=17) (v:=.string s) (w':=w2) rfl rfl rfl rfl ?_
 simp only[Act.put,sa,sz,ss]
 refine zE (d:=18) (R:=fun vv w'=>vv=.bool true∧Below w2.heap.size w2 w') rfl rfl rfl (zF (args:=#[.string s]) rfl call166 rfl (mpn rfl)) (Calls.mono (jnm_is s hs true hn w2) (fun e w2 hh=>⟨_,hh.1,rfl,hh.2⟩)) ?_
 rintro _ w3 ⟨rfl,hb⟩
 have H3:Hid (Mm w3 []∧Below w.heap.size w w3):=⟨H2.out.1.below hb,H2.out.2.trans (hb.mono H2.out.2.size)⟩
 clear hb
 clear H2
 simp only[Act.put,sa,sz,ss]
 refine zA (d:=19) (v:=.bool false) (w':=w3) rfl rfl rfl (by go_simp) ?_
 simp only[Act.put,sa,sz,ss]
 refine zC (zB ?_)
 refine wp_cond_false rfl (wp_skip ?_)
 refine zB (wp_seq (wp_seq ?_))
 refine zD (l:=[0,1]) rfl ?_
 refine zA (d:=20) (v:=.int .i64 6) (w':=w3) rfl rfl rfl rfl ?_
 simp only[Act.put,sa,sz,ss]
 refine zA (d:=21) (v:=.bool true) (w':=w3) rfl rfl rfl (by kernel_rfl) ?_
 simp only[Act.put,sa,sz,ss]
 refine zC (zB ?_)
 refine wp_cond_true rfl (wp_seq ?_)
 refine zD (l:=[0,1]) rfl ?_
 refine zA (d:=4) (v:=.slice none 0 0) (w':=w3) rfl rfl rfl rfl ?_
 simp only[Act.put,sa,sz,ss]
 refine zA (d:=5) (v:=.int .i64 0) (w':=w3) rfl rfl rfl rfl ?_
 simp only[Act.put,sa,sz,ss]
 refine zC (zB (wp_ret ?_))
 repeat (first | refine zI ?_ | refine zH ?_)
 refine bodyPost_ret (v:=.tuple #[.slice none 0 0,.int .i64 0]) (by simp[results,Tryz.results147,go_sem, *]) rfl ?_
 exact⟨rfl,H3.out.2⟩
def cnN:Option Fq→Nat
 | some f=>f.N
 | none=>0
def cnC:Option Fq→Nat→Nat
 | some f=>f.C
 | none=>fun _=>0
structure Pw (w:World) (n:Nat) (f:Nat→Nat) (q:Pt8) (u:World):Prop where
 b:Below w.heap.size w u
 ok:Pok q
 no:q.p=none→q.cp=0
 rs:q.rs u
 n:q.n=n
 f:q.f=f
 gb:0<q.n→w.heap.size≤q.gb
theorem Pw.step {w u u':World} {n:Nat} {f:Nat→Nat} {q:Pt8} (h:Pw w n f q u) (hb:Below u.heap.size u u'):Pw w n f q u':=⟨h.b.trans (hb.mono h.b.size),h.ok,h.no,h.rs.below hb,h.n,h.f,h.gb⟩
theorem jcontent_f (D:Dq) (s:ByteArray) (hs:s.size≤281474976710656) (hn:nmd s=true) (w:World) (h:DOk w D):Calls Tryz.prog 147 #[PT D.d 0,.string s] w fun e w'=>∃ q:Pt8,e=.returned (.tuple #[.slice q.p q.n q.cp,.int .i64 0])∧Pw w (cnN (lk D.fs s)) (cnC (lk D.fs s)) q w':=by
 have hsz:s.size≤maxLen:=by unfold maxLen;omega
 cases hl:lk D.fs s with
 | none =>
  refine(jcontent_miss D.d s hs hn w (fun u hu => ?_)).mono fun e w' hh=>⟨nilp (fun _=>0),hh.1,⟨hh.2,(nilp_ok _ w').1,(nilp_ok _ w').2.1,(nilp_ok _ w').2.2,rfl,rfl,fun h0=>absurd h0 (by show ¬0<0;decide)⟩⟩
  have e:=Read_f D s hsz u (h.below hu)
  rw[hl] at e
  exact e
 | some f =>
  refine jcontent_hit D.d s hs hn (fun q u=>Pw w f.N f.C q u) w (fun q u u' hu hb=>hu.step hb) (fun u hu => ?_)
  have e:=Read_f D s hsz u (h.below hu)
  rw[hl] at e
  refine e.mono fun e u' hh => ?_
  obtain⟨v,e1,e2⟩:=hh
  obtain⟨q,t1,t2,t3,t4,t5,t6,t7⟩:=(Cw.up hu e2).part
  exact⟨q,by rw[e1,t1],hu.trans (e2.b.mono hu.size),t2,t3,t6,t4,t5,t7⟩
end Wi
end Rg
end Go.Proofs.YtmcpagjhpfbpgaaGreatDoor
end
section
namespace Go.Proofs.YtmcpagjhpfbpgaaGreatDoor
open Go.RowKit
namespace Rg
namespace Wi
theorem call37:CO 37:=by intro args w;go_simp
theorem call101:CO 101:=by intro args w;go_simp
theorem call105:CO 105:=by intro args w;go_simp
set_option maxRecDepth 100000
theorem jmade (j d c z:Nat) (s:ByteArray) (w:World) (hm:Mm w [(j,jc d s c z)]) :
  Calls Tryz.prog 105 #[PT j 0] w (Rt w (.bool true)):=by
 have H0:Hid (_∧_):=⟨hm,Below.refl w.heap.size w⟩
 clear hm
 go_enter Tryz.func105,Tryz.ntmps105
 refine wp_seq ?_
 refine zG (l:=[0]) rfl (fun u0 hu0 => ?_)
 have H1:Hid (Mm u0 [(j,jc d s c z)]∧Below w.heap.size w u0):=by rw[hu0];exact H0
 clear hu0 H0
 refine zA (d:=2) (v:=.bool false) (w':=u0) rfl rfl rfl rfl ?_
 simp only[Act.put,sa,sz,ss]
 refine zC (zB (wp_seq ?_))
 refine zD (l:=[0,1,2,3,4,5,6,7,8,9]) rfl ?_
 refine zA (d:=3) (v:=PT j 0) (w':=u0) rfl rfl rfl rfl ?_
 simp only[Act.put,sa,sz,ss]
 refine zA (d:=4) (v:=.bool true) (w':=u0) rfl rfl rfl (by go_simp) ?_
 simp only[Act.put,sa,sz,ss]
 refine zA (d:=5) (v:=.bool true) (w':=u0) rfl rfl rfl rfl ?_
 simp only[Act.put,sa,sz,ss]
 refine zA (d:=6) (v:=PT j 0) (w':=u0) rfl rfl rfl rfl ?_
 simp only[Act.put,sa,sz,ss]
 refine zA (d:=7) (v:=PT j 0) (w':=u0) rfl rfl rfl (by go_simp) ?_
 simp only[Act.put,sa,sz,ss]
 refine zA (d:=8) (v:=PT j 0) (w':=u0) rfl rfl rfl (by go_simp) ?_
 simp only[Act.put,sa,sz,ss]
 refine zA (d:=9) (v:=PT d 0) (w':=u0) rfl rfl rfl (zJ H1.out.1 0 rfl rfl rfl Ai25 rfl) ?_
 simp only[Act.put,sa,sz,ss]
 refine zA (d:=10) (v:=.bool true) (w':=u0) rfl rfl rfl (by go_simp) ?_
 simp only[Act.put,sa,sz,ss]
 refine zA (d:=11) (v:=.bool true) (w':=u0) rfl rfl rfl (by go_simp) ?_
 simp only[Act.put,sa,sz,ss]
 refine zA (d:=2) (v:=.bool true) (w':=u0) rfl rfl rfl rfl ?_
 simp only[Act.put,sa,sz,ss]
 refine zC (zB (wp_ret ?_))
 repeat (first | refine zI ?_ | refine zH ?_)
 refine bodyPost_ret (v:=.bool true) (by simp[results,Tryz.results105,go_sem, *]) rfl ?_
 exact⟨rfl,H1.out.2⟩
theorem jsync_none (j d c z:Nat) (s:ByteArray) (m:Nat) (hm0:m=0) (w:World) (hm:Mm w [(j,jc d s c z)]) (hpez:∀ u,Below w.heap.size w u→Calls Tryz.prog 101 #[PT d 0,.string s] u fun e u'=>e=.returned (.int .i64 ((m:Nat):Int))∧Below u.heap.size u u') :
  Calls Tryz.prog 49 #[PT j 0] w (Rt w (.int .i64 0)):=by
 have H0:Hid (_∧_):=⟨hm,Below.refl w.heap.size w⟩
 clear hm
 have hpe:Hid _:=hpez
 clear hpez
 go_enter Tryz.func49,Tryz.ntmps49
 refine wp_seq ?_
 refine zG (l:=[0]) rfl (fun u0 hu0 => ?_)
 have H1:Hid (Mm u0 [(j,jc d s c z)]∧Below w.heap.size w u0):=by rw[hu0];exact H0
 clear hu0 H0
 refine zA (d:=2) (v:=.int .i64 0) (w':=u0) rfl rfl rfl rfl ?_
 simp only[Act.put,sa,sz,ss]
 refine zC (zB ?_)
 refine wp_seq (wp_seq ?_)
 refine zD (l:=[0,1,2]) rfl ?_
 refine zA (d:=3) (v:=PT j 0) (w':=u0) rfl rfl rfl rfl ?_
 simp only[Act.put,sa,sz,ss]
 refine zE (d:=4) (R:=fun vv w'=>vv=.bool true∧Below u0.heap.size u0 w') rfl rfl rfl (zF (args:=#[PT j 0]) rfl call105 rfl (mpn rfl)) (Calls.mono (jmade j d c z s u0 (H1.out.1.one 0 rfl)) (fun e w2 hh=>⟨_,hh.1,rfl,hh.2⟩)) ?_
 rintro _ w2 ⟨rfl,hb⟩
 have H2:Hid (Mm w2 [(j,jc d s c z)]∧Below w.heap.size w w2):=⟨H1.out.1.below hb,H1.out.2.trans (hb.mono H1.out.2.size)⟩
 clear hb
 clear H1
 simp only[Act.put,sa,sz,ss]
 refine zA (d:=5) (v:=.bool false) (w':=w2) rfl rfl rfl (by go_simp) ?_
 simp only[Act.put,sa,sz,ss]
 refine zC (zB ?_)
 refine wp_cond_false rfl (wp_skip ?_)
 refine zB (wp_seq (wp_seq ?_))
 refine walk_anyB 8 [.q (PT j 0),.q (PT j 0),.q (PT j 0),.q (PT d 0),.q (PT j 0),.q (PT j 0),.q (PT j 1),.q (.string s)] H2 ?ho3 ?he3
 case ho3=>exact ar (ag (ag (aq (fun w' h=>zJ h 0 rfl rfl rfl Ai25 rfl) (ar (ag (ag (aq (fun w' h=>zJ h 0 rfl rfl rfl Ai9 rfl) trivial)))))))
 intro _ w3 H3
 clear H2
 refine rest_at (l:=[8,9]) rfl ?_
 refine zE (d:=14) (R:=fun vv w'=>vv=.int .i64 ((m:Nat):Int)∧Below w3.heap.size w3 w') rfl rfl rfl (zF (args:=#[PT d 0,.string s]) rfl call101 rfl (mpn rfl)) (Calls.mono (hpe.out w3 H3.out.2) (fun e w2 hh=>⟨_,hh.1,rfl,hh.2⟩)) ?_
 rintro _ w4 ⟨rfl,hb⟩
 have H4:Hid (Mm w4 [(j,jc d s c z)]∧Below w.heap.size w w4):=⟨H3.out.1.below hb,H3.out.2.trans (hb.mono H3.out.2.size)⟩
 clear hb
 clear H3
 simp only[Act.put,sa,sz,ss]
 refine zA (d:=15) (v:=.bool true) (w':=w4) rfl rfl rfl (by go_simp <;> omega) ?_
 simp only[Act.put,sa,sz,ss]
 refine zC (zB ?_)
 refine wp_cond_true rfl (wp_seq ?_)
 refine zD (l:=[0]) rfl ?_
 refine zA (d:=2) (v:=.int .i64 0) (w':=w4) rfl rfl rfl rfl ?_
 simp only[Act.put,sa,sz,ss]
 refine zC (zB (wp_ret ?_))
 repeat (first | refine zI ?_ | refine zH ?_)
 refine bodyPost_ret (v:=.int .i64 0) (by simp[results,Tryz.results49,go_sem, *]) rfl ?_
 exact⟨rfl,H4.out.2⟩
theorem jsync_some (j d c z:Nat) (s:ByteArray) (m:Nat) (hm0:0<m) (r:Int) (I1:World→Prop) (w:World) (hm:Mm w [(j,jc d s c z)]) (hpez:∀ u,Below w.heap.size w u→Calls Tryz.prog 101 #[PT d 0,.string s] u fun e u'=>e=.returned (.int .i64 ((m:Nat):Int))∧Below u.heap.size u u') (s1z:∀ u u',I1 u→Below u.heap.size u u'→I1 u') (hsyz:∀ u,Below w.heap.size w u→Calls Tryz.prog 37 #[PT d 0,.string s] u fun e u'=>e=.returned (.int .i64 r)∧I1 u') :
  Calls Tryz.prog 49 #[PT j 0] w fun e w'=>e=.returned (.int .i64 r)∧I1 w':=by
 have H0:Hid (_∧_):=⟨hm,Below.refl w.heap.size w⟩
 clear hm
 have hpe:Hid _:=hpez
 clear hpez
 have s1:Hid _:=s1z
 have hsy:Hid _:=hsyz
 clear s1z hsyz
 go_enter Tryz.func49,Tryz.ntmps49
 refine wp_seq ?_
 refine zG (l:=[0]) rfl (fun u0 hu0 => ?_)
 have H1:Hid (Mm u0 [(j,jc d s c z)]∧Below w.heap.size w u0):=by rw[hu0];exact H0
 clear hu0 H0
 refine zA (d:=2) (v:=.int .i64 0) (w':=u0) rfl rfl rfl rfl ?_
 simp only[Act.put,sa,sz,ss]
 refine zC (zB ?_)
 refine wp_seq (wp_seq ?_)
 refine zD (l:=[0,1,2]) rfl ?_
 refine zA (d:=3) (v:=PT j 0) (w':=u0) rfl rfl rfl rfl ?_
 simp only[Act.put,sa,sz,ss]
 refine zE (d:=4) (R:=fun vv w'=>vv=.bool true∧Below u0.heap.size u0 w') rfl rfl rfl (zF (args:=#[PT j 0]) rfl call105 rfl (mpn rfl)) (Calls.mono (jmade j d c z s u0 (H1.out.1.one 0 rfl)) (fun e w2 hh=>⟨_,hh.1,rfl,hh.2⟩)) ?_
 rintro _ w2 ⟨rfl,hb⟩
 have H2:Hid (Mm w2 [(j,jc d s c z)]∧Below w.heap.size w w2):=⟨H1.out.1.below hb,H1.out.2.trans (hb.mono H1.out.2.size)⟩
 clear hb
 clear H1
 simp only[Act.put,sa,sz,ss]
 refine zA (d:=5) (v:=.bool false) (w':=w2) rfl rfl rfl (by go_simp) ?_
 simp only[Act.put,sa,sz,ss]
 refine zC (zB ?_)
 refine wp_cond_false rfl (wp_skip ?_)
 refine zB (wp_seq (wp_seq ?_))
 refine walk_anyB 8 [.q (PT j 0),.q (PT j 0),.q (PT j 0),.q (PT d 0),.q (PT j 0),.q (PT j 0),.q (PT j 1),.q (.string s)] H2 ?ho3 ?he3
 case ho3=>exact ar (ag (ag (aq (fun w' h=>zJ h 0 rfl rfl rfl Ai25 rfl) (ar (ag (ag (aq (fun w' h=>zJ h 0 rfl rfl rfl Ai9 rfl) trivial)))))))
 intro _ w3 H3
 clear H2
 refine rest_at (l:=[8,9]) rfl ?_
 refine zE (d:=14) (R:=fun vv w'=>vv=.int .i64 ((m:Nat):Int)∧Below w3.heap.size w3 w') rfl rfl rfl (zF (args:=#[PT d 0,.string s]) rfl call101 rfl (mpn rfl)) (Calls.mono (hpe.out w3 H3.out.2) (fun e w2 hh=>⟨_,hh.1,rfl,hh.2⟩)) ?_
 rintro _ w4 ⟨rfl,hb⟩
 have H4:Hid (Mm w4 [(j,jc d s c z)]∧Below w.heap.size w w4):=⟨H3.out.1.below hb,H3.out.2.trans (hb.mono H3.out.2.size)⟩
 clear hb
 clear H3
 simp only[Act.put,sa,sz,ss]
 refine zA (d:=15) (v:=.bool false) (w':=w4) rfl rfl rfl (by go_simp <;> omega) ?_
 simp only[Act.put,sa,sz,ss]
 refine zC (zB ?_)
 refine wp_cond_false rfl (wp_skip ?_)
 refine zB (wp_seq ?_)
 refine walk_anyB 8 [.q (PT j 0),.q (PT j 0),.q (PT j 0),.q (PT d 0),.q (PT j 0),.q (PT j 0),.q (PT j 1),.q (.string s)] H4 ?ho4 ?he4
 case ho4=>exact ar (ag (ag (aq (fun w' h=>zJ h 0 rfl rfl rfl Ai25 rfl) (ar (ag (ag (aq (fun w' h=>zJ h 0 rfl rfl rfl Ai9 rfl) trivial)))))))
 intro _ w5 H5
 clear H4
 refine rest_at (l:=[8,9]) rfl ?_
 refine zE (d:=24) (R:=fun vv w'=>vv=.int .i64 r∧I1 w') rfl rfl rfl (zF (args:=#[PT d 0,.string s]) rfl call37 rfl (mpn rfl)) (Calls.mono (hsy.out w5 H5.out.2) (fun e w2 hh=>⟨_,hh.1,rfl,hh.2⟩)) ?_
 rintro _ w6 ⟨rfl,hI⟩
 have H6:Hid (Mm w6 []∧I1 w6):=⟨Mm.nil _,hI⟩
 clear hI H5
 simp only[Act.put,sa,sz,ss]
 refine zA (d:=2) (v:=.int .i64 r) (w':=w6) rfl rfl rfl rfl ?_
 simp only[Act.put,sa,sz,ss]
 refine zC (zB (wp_ret ?_))
 repeat (first | refine zI ?_ | refine zH ?_)
 refine bodyPost_ret (v:=.int .i64 r) (by simp[results,Tryz.results49,go_sem, *]) rfl ?_
 exact⟨rfl,H6.out.2⟩
theorem jappend_ok (j d c z:Nat) (s:ByteArray) (q:Pt8) (hL:q.n≤65536) (hc:c<4611686018427387904) (hz:z<4611686018427387904) (I2:World→Prop) (w:World) (hm:Mm w [(j,jc d s c z)]) (hq0:Pok q∧q.rs w) (hqn0:q.p=none→q.cp=0) (s2z:∀ u u',I2 u→Below u.heap.size u u'→I2 u') (s2pz:∀ u off vs,I2 u→I2 (u.setCells j off vs)) (hapz:∀ q2 u,Pw w (8+q.n+4) (frm q.f q.n) q2 u→Calls Tryz.prog 35 #[PT d 0,.string s,.slice q2.p q2.n q2.cp] u fun e u'=>e=.returned (.int .i64 0)∧I2 u'∧u.heap.size≤u'.heap.size∧u'.heap[j]?=u.heap[j]?) :
  Calls Tryz.prog 47 #[PT j 0,.slice q.p q.n q.cp] w fun e w'=>e=.returned (.int .i64 0)∧Mm w' [(j,jc d s (c+1) (z+(8+q.n+4)))]∧I2 w':=by
 have H0:Hid (_∧_):=⟨hm,Below.refl w.heap.size w⟩
 clear hm
 have hq:Hid _:=hq0
 clear hq0
 have hqn:Hid _:=hqn0
 clear hqn0
 have s2:Hid _:=s2z
 have s2p:Hid _:=s2pz
 have hap:Hid _:=hapz
 clear s2z s2pz hapz
 go_enter Tryz.func47,Tryz.ntmps47
 refine wp_seq ?_
 refine zG (l:=[0]) rfl (fun u0 hu0 => ?_)
 have H1:Hid (Mm u0 [(j,jc d s c z)]∧Below w.heap.size w u0):=by rw[hu0];exact H0
 clear hu0 H0
 refine zA (d:=4) (v:=.int .i64 0) (w':=u0) rfl rfl rfl rfl ?_
 simp only[Act.put,sa,sz,ss]
 refine zC (zB ?_)
 refine wp_seq (wp_seq ?_)
 refine zD (l:=[0,1,2]) rfl ?_
 refine zA (d:=8) (v:=PT j 0) (w':=u0) rfl rfl rfl rfl ?_
 simp only[Act.put,sa,sz,ss]
 refine zE (d:=9) (R:=fun vv w'=>vv=.bool true∧Below u0.heap.size u0 w') rfl rfl rfl (zF (args:=#[PT j 0]) rfl call105 rfl (mpn rfl)) (Calls.mono (jmade j d c z s u0 (H1.out.1.one 0 rfl)) (fun e w2 hh=>⟨_,hh.1,rfl,hh.2⟩)) ?_
 rintro _ w2 ⟨rfl,hb⟩
 have H2:Hid (Mm w2 [(j,jc d s c z)]∧Below w.heap.size w w2):=⟨H1.out.1.below hb,H1.out.2.trans (hb.mono H1.out.2.size)⟩
 clear hb
 clear H1
 simp only[Act.put,sa,sz,ss]
 refine zA (d:=10) (v:=.bool false) (w':=w2) rfl rfl rfl (by go_simp) ?_
 simp only[Act.put,sa,sz,ss]
 refine zC (zB ?_)
 refine wp_cond_false rfl (wp_skip ?_)
 refine zB (wp_seq ?_)
 refine zD (l:=[0,1,2,3,4,5,6,7,8,9]) rfl ?_
 refine zA (d:=12) (v:=PT j 0) (w':=w2) rfl rfl rfl rfl ?_
 simp only[Act.put,sa,sz,ss]
 refine zA (d:=13) (v:=PT j 0) (w':=w2) rfl rfl rfl (by go_simp) ?_
 simp only[Act.put,sa,sz,ss]
 refine zA (d:=14) (v:=PT j 2) (w':=w2) rfl rfl rfl (by go_simp) ?_
 simp only[Act.put,sa,sz,ss]
 refine zA (d:=15) (v:=.slice q.p q.n q.cp) (w':=w2) rfl rfl rfl rfl ?_
 simp only[Act.put,sa,sz,ss]
 refine zE (d:=16) (R:=fun vv w'=>∃ v,vv=.tuple #[v,.int .i64 0]∧Cw w2 v (8+q.n+4) (frm q.f q.n) w') rfl rfl rfl (zF (args:=#[PT j 2,.slice q.p q.n q.cp]) rfl call106 rfl (mpn rfl)) (Calls.mono (frame_ok j 2 q hL w2 (Tb.jc (H2.out.1.one 0 rfl)) ⟨hq.out.1,hq.out.2.below H2.out.2⟩ hqn.out) (fun e w2 hh=>by obtain⟨v',he,hO⟩:=hh;exact⟨_,he,_,rfl,hO⟩)) ?_
 rintro _ w3 ⟨vr,rfl,hO⟩
 have hM:=H2.out.1.below hO.b
 have hcw:=Cw.up H2.out.2 hO
 obtain⟨q2,rfl,e2,e3,e4,e5,e6,e7⟩:=hcw.part
 have hq2n:Hid _:=e4
 have H3:Hid (Mm w3 [(j,jc d s c z)]∧Pw w (8+q.n+4) (frm q.f q.n) q2 w3):=⟨hM,hcw.b,e2,e3,e6,e4,e5,e7⟩
 clear hO hM hcw e2 e3 e4 e5 e6 e7 H2
 simp only[Act.put,sa,sz,ss]
 refine zA (d:=11) (v:=.tuple #[.slice q2.p q2.n q2.cp,.int .i64 0]) (w':=w3) rfl rfl rfl rfl ?_
 simp only[Act.put,sa,sz,ss]
 refine zA (d:=17) (v:=.slice q2.p q2.n q2.cp) (w':=w3) rfl rfl rfl (by go_simp) ?_
 simp only[Act.put,sa,sz,ss]
 refine zA (d:=18) (v:=.int .i64 0) (w':=w3) rfl rfl rfl (by go_simp) ?_
 simp only[Act.put,sa,sz,ss]
 refine zA (d:=5) (v:=.slice q2.p q2.n q2.cp) (w':=w3) rfl rfl rfl rfl ?_
 simp only[Act.put,sa,sz,ss]
 refine zA (d:=6) (v:=.int .i64 0) (w':=w3) rfl rfl rfl rfl ?_
 simp only[Act.put,sa,sz,ss]
 refine zC (zB ?_)
 refine wp_seq (wp_seq ?_)
 refine zD (l:=[0,1]) rfl ?_
 refine zA (d:=19) (v:=.int .i64 0) (w':=w3) rfl rfl rfl rfl ?_
 simp only[Act.put,sa,sz,ss]
 refine zA (d:=20) (v:=.bool false) (w':=w3) rfl rfl rfl (by kernel_rfl) ?_
 simp only[Act.put,sa,sz,ss]
 refine zC (zB ?_)
 refine wp_cond_false rfl (wp_skip ?_)
 refine zB (wp_seq (wp_seq ?_))
 refine walk_anyA 9 [.q (PT j 0),.q (PT j 0),.q (PT j 0),.q (PT d 0),.q (PT j 0),.q (PT j 0),.q (PT j 1),.q (.string s),.q (.slice q2.p q2.n q2.cp)] (sB H3) ?ho5 ?he5
 case ho5=>exact ar (ag (ag (aq (fun w' h=>zJ h 0 rfl rfl rfl Ai25 rfl) (ar (ag (ag (aq (fun w' h=>zJ h 0 rfl rfl rfl Ai9 rfl) (ar trivial))))))))
 intro γ w4 l hM hl
 have M4:Mm w4 [(j,jc d s c z)]:=H3.out.1.grow hM (Nat.le_refl _) hl [] rfl (by decide)
 have B4:Pw w (8+q.n+4) (frm q.f q.n) q2 w4:=Pw.step H3.out.2 (hM.below)
 clear hM hl l H3
 clear γ
 have H4:Hid (_∧_):=⟨M4,B4⟩
 clear M4 B4
 refine rest_at (l:=[9,10]) rfl ?_
 refine zE (d:=31) (R:=fun vv w'=>vv=.int .i64 0∧I2 w'∧w4.heap.size≤w'.heap.size∧w'.heap[j]?=w4.heap[j]?) rfl rfl rfl (zF (args:=#[PT d 0,.string s,.slice q2.p q2.n q2.cp]) rfl call35 rfl (mpn rfl)) (Calls.mono (hap.out q2 w4 H4.out.2) (fun e w2 hh=>⟨_,hh.1,rfl,hh.2⟩)) ?_
 rintro _ w5 ⟨rfl,hI,hz1,hz2⟩
 have H5:Hid (Mm w5 [(j,jc d s c z)]∧I2 w5):=⟨Mm.keep1 H4.out.1 hz1 hz2,hI⟩
 clear hI hz1 hz2 H4
 simp only[Act.put,sa,sz,ss]
 refine zA (d:=7) (v:=.int .i64 0) (w':=w5) rfl rfl rfl rfl ?_
 simp only[Act.put,sa,sz,ss]
 refine zC (zB (wp_seq ?_))
 refine zD (l:=[0,1]) rfl ?_
 refine zA (d:=32) (v:=.int .i64 0) (w':=w5) rfl rfl rfl rfl ?_
 simp only[Act.put,sa,sz,ss]
 refine zA (d:=33) (v:=.bool false) (w':=w5) rfl rfl rfl (by kernel_rfl) ?_
 simp only[Act.put,sa,sz,ss]
 refine zC (zB ?_)
 refine wp_cond_false rfl (wp_skip ?_)
 refine zB (wp_seq ?_)
 refine zD (l:=[0,1,2,3,4,5,6,7]) rfl ?_
 refine zA (d:=35) (v:=PT j 0) (w':=w5) rfl rfl rfl rfl ?_
 simp only[Act.put,sa,sz,ss]
 refine zA (d:=36) (v:=PT j 0) (w':=w5) rfl rfl rfl (by go_simp) ?_
 simp only[Act.put,sa,sz,ss]
 refine zA (d:=37) (v:=PT j 258) (w':=w5) rfl rfl rfl (by go_simp) ?_
 simp only[Act.put,sa,sz,ss]
 refine zA (d:=38) (v:=.int .i64 ((c:Nat):Int)) (w':=w5) rfl rfl rfl (zJ H5.out.1 0 rfl rfl rfl Ai3 (jc_c _ _ _ _)) ?_
 simp only[Act.put,sa,sz,ss]
 refine zA (d:=39) (v:=.int .i64 ((c+1:Nat):Int)) (w':=w5) rfl rfl rfl (by go_simp;rw[IntKind.wrap_i64];have:=hq2n.out;omega) ?_
 simp only[Act.put,sa,sz,ss]
 refine zA (d:=40) (v:=PT j 0) (w':=w5) rfl rfl rfl (by go_simp) ?_
 simp only[Act.put,sa,sz,ss]
 refine zA (d:=41) (v:=PT j 258) (w':=w5) rfl rfl rfl (by go_simp) ?_
 simp only[Act.put,sa,sz,ss]
 refine zM rfl rfl rfl (ex_st1 (v:=.int .i64 ((c+1:Nat):Int)) H5.out.1 0 rfl rfl As3 rfl rfl rfl (by rw[jc_len];decide)) ?_
 have H6:Hid (Mm (w5.setCells j 258 [Value.int .i64 ((c+1:Nat):Int)]) [(j,jc d s (c+1) z)]∧I2 (w5.setCells j 258 [Value.int .i64 ((c+1:Nat):Int)])):=⟨by
  have h:=H5.out.1.put 0 (off:=258) (vs:=[Value.int .i64 ((c+1:Nat):Int)]) rfl (by rw[jc_len];show 258+1≤260;decide)
  rw[jc_putc] at h
  exact h,s2p.out _ _ _ H5.out.2⟩
 clear H5
 generalize hgw:World.setCells _ _ _ _=w6 at H6 ⊢
 clear hgw
 refine zC (zB (wp_seq ?_))
 refine zD (l:=[0,1,2,3,4,5,6,7,8,9]) rfl ?_
 refine zA (d:=42) (v:=PT j 0) (w':=w6) rfl rfl rfl rfl ?_
 simp only[Act.put,sa,sz,ss]
 refine zA (d:=43) (v:=PT j 0) (w':=w6) rfl rfl rfl (by go_simp) ?_
 simp only[Act.put,sa,sz,ss]
 refine zA (d:=44) (v:=PT j 259) (w':=w6) rfl rfl rfl (by go_simp) ?_
 simp only[Act.put,sa,sz,ss]
 refine zA (d:=45) (v:=.int .i64 ((z:Nat):Int)) (w':=w6) rfl rfl rfl (zJ H6.out.1 0 rfl rfl rfl Ai3 (jc_z _ _ _ _)) ?_
 simp only[Act.put,sa,sz,ss]
 refine zA (d:=46) (v:=.slice q2.p q2.n q2.cp) (w':=w6) rfl rfl rfl rfl ?_
 simp only[Act.put,sa,sz,ss]
 refine zA (d:=47) (v:=.int .i64 ((q2.n:Nat):Int)) (w':=w6) rfl rfl rfl (by go_simp) ?_
 simp only[Act.put,sa,sz,ss]
 refine zA (d:=48) (v:=.int .i64 ((z+q2.n:Nat):Int)) (w':=w6) rfl rfl rfl (by go_simp;rw[IntKind.wrap_i64];have:=hq2n.out;omega) ?_
 simp only[Act.put,sa,sz,ss]
 refine zA (d:=49) (v:=PT j 0) (w':=w6) rfl rfl rfl (by go_simp) ?_
 simp only[Act.put,sa,sz,ss]
 refine zA (d:=50) (v:=PT j 259) (w':=w6) rfl rfl rfl (by go_simp) ?_
 simp only[Act.put,sa,sz,ss]
 refine zM rfl rfl rfl (ex_st1 (v:=.int .i64 ((z+q2.n:Nat):Int)) H6.out.1 0 rfl rfl As3 rfl rfl rfl (by rw[jc_len];decide)) ?_
 have H7:Hid (Mm (w6.setCells j 259 [Value.int .i64 ((z+q2.n:Nat):Int)]) [(j,jc d s (c+1) (z+q2.n))]∧I2 (w6.setCells j 259 [Value.int .i64 ((z+q2.n:Nat):Int)])):=⟨by
  have h:=H6.out.1.put 0 (off:=259) (vs:=[Value.int .i64 ((z+q2.n:Nat):Int)]) rfl (by rw[jc_len];show 259+1≤260;decide)
  rw[jc_putz] at h
  exact h,s2p.out _ _ _ H6.out.2⟩
 clear H6
 generalize hgw:World.setCells _ _ _ _=w7 at H7 ⊢
 clear hgw
 refine zC (zB (wp_seq ?_))
 refine zD (l:=[0]) rfl ?_
 refine zA (d:=4) (v:=.int .i64 0) (w':=w7) rfl rfl rfl rfl ?_
 simp only[Act.put,sa,sz,ss]
 refine zC (zB (wp_ret ?_))
 repeat (first | refine zI ?_ | refine zH ?_)
 refine bodyPost_ret (v:=.int .i64 0) (by simp[results,Tryz.results47,go_sem, *]) rfl ?_
 exact⟨rfl,by have h:=H7.out.1;rw[hq2n.out] at h;exact h,H7.out.2⟩
theorem jappend_err (j d c z:Nat) (s:ByteArray) (q:Pt8) (hL:q.n≤65536) (r:Int) (hr:r≠0) (I2:World→Prop) (w:World) (hm:Mm w [(j,jc d s c z)]) (hq0:Pok q∧q.rs w) (hqn0:q.p=none→q.cp=0) (s2z:∀ u u',I2 u→Below u.heap.size u u'→I2 u') (s2pz:∀ u off vs,I2 u→I2 (u.setCells j off vs)) (hapz:∀ q2 u,Pw w (8+q.n+4) (frm q.f q.n) q2 u→Calls Tryz.prog 35 #[PT d 0,.string s,.slice q2.p q2.n q2.cp] u fun e u'=>e=.returned (.int .i64 r)∧I2 u'∧u.heap.size≤u'.heap.size∧u'.heap[j]?=u.heap[j]?) :
  Calls Tryz.prog 47 #[PT j 0,.slice q.p q.n q.cp] w fun e w'=>e=.returned (.int .i64 r)∧Mm w' [(j,jc d s c z)]∧I2 w':=by
 have H0:Hid (_∧_):=⟨hm,Below.refl w.heap.size w⟩
 clear hm
 have hq:Hid _:=hq0
 clear hq0
 have hqn:Hid _:=hqn0
 clear hqn0
 have s2:Hid _:=s2z
 have s2p:Hid _:=s2pz
 have hap:Hid _:=hapz
 clear s2z s2pz hapz
 go_enter Tryz.func47,Tryz.ntmps47
 refine wp_seq ?_
 refine zG (l:=[0]) rfl (fun u0 hu0 => ?_)
 have H1:Hid (Mm u0 [(j,jc d s c z)]∧Below w.heap.size w u0):=by rw[hu0];exact H0
 clear hu0 H0
 refine zA (d:=4) (v:=.int .i64 0) (w':=u0) rfl rfl rfl rfl ?_
 simp only[Act.put,sa,sz,ss]
 refine zC (zB ?_)
 refine wp_seq (wp_seq ?_)
 refine zD (l:=[0,1,2]) rfl ?_
 refine zA (d:=8) (v:=PT j 0) (w':=u0) rfl rfl rfl rfl ?_
 simp only[Act.put,sa,sz,ss]
 refine zE (d:=9) (R:=fun vv w'=>vv=.bool true∧Below u0.heap.size u0 w') rfl rfl rfl (zF (args:=#[PT j 0]) rfl call105 rfl (mpn rfl)) (Calls.mono (jmade j d c z s u0 (H1.out.1.one 0 rfl)) (fun e w2 hh=>⟨_,hh.1,rfl,hh.2⟩)) ?_
 rintro _ w2 ⟨rfl,hb⟩
 have H2:Hid (Mm w2 [(j,jc d s c z)]∧Below w.heap.size w w2):=⟨H1.out.1.below hb,H1.out.2.trans (hb.mono H1.out.2.size)⟩
 clear hb
 clear H1
 simp only[Act.put,sa,sz,ss]
 refine zA (d:=10) (v:=.bool false) (w':=w2) rfl rfl rfl (by go_simp) ?_
 simp only[Act.put,sa,sz,ss]
 refine zC (zB ?_)
 refine wp_cond_false rfl (wp_skip ?_)
 refine zB (wp_seq ?_)
 refine zD (l:=[0,1,2,3,4,5,6,7,8,9]) rfl ?_
 refine zA (d:=12) (v:=PT j 0) (w':=w2) rfl rfl rfl rfl ?_
 simp only[Act.put,sa,sz,ss]
 refine zA (d:=13) (v:=PT j 0) (w':=w2) rfl rfl rfl (by go_simp) ?_
 simp only[Act.put,sa,sz,ss]
 refine zA (d:=14) (v:=PT j 2) (w':=w2) rfl rfl rfl (by go_simp) ?_
 simp only[Act.put,sa,sz,ss]
 refine zA (d:=15) (v:=.slice q.p q.n q.cp) (w':=w2) rfl rfl rfl rfl ?_
 simp only[Act.put,sa,sz,ss]
 refine zE (d:=16) (R:=fun vv w'=>∃ v,vv=.tuple #[v,.int .i64 0]∧Cw w2 v (8+q.n+4) (frm q.f q.n) w') rfl rfl rfl (zF (args:=#[PT j 2,.slice q.p q.n q.cp]) rfl call106 rfl (mpn rfl)) (Calls.mono (frame_ok j 2 q hL w2 (Tb.jc (H2.out.1.one 0 rfl)) ⟨hq.out.1,hq.out.2.below H2.out.2⟩ hqn.out) (fun e w2 hh=>by obtain⟨v',he,hO⟩:=hh;exact⟨_,he,_,rfl,hO⟩)) ?_
 rintro _ w3 ⟨vr,rfl,hO⟩
 have hM:=H2.out.1.below hO.b
 have hcw:=Cw.up H2.out.2 hO
 obtain⟨q2,rfl,e2,e3,e4,e5,e6,e7⟩:=hcw.part
 have hq2n:Hid _:=e4
 have H3:Hid (Mm w3 [(j,jc d s c z)]∧Pw w (8+q.n+4) (frm q.f q.n) q2 w3):=⟨hM,hcw.b,e2,e3,e6,e4,e5,e7⟩
 clear hO hM hcw e2 e3 e4 e5 e6 e7 H2
 simp only[Act.put,sa,sz,ss]
 refine zA (d:=11) (v:=.tuple #[.slice q2.p q2.n q2.cp,.int .i64 0]) (w':=w3) rfl rfl rfl rfl ?_
 simp only[Act.put,sa,sz,ss]
 refine zA (d:=17) (v:=.slice q2.p q2.n q2.cp) (w':=w3) rfl rfl rfl (by go_simp) ?_
 simp only[Act.put,sa,sz,ss]
 refine zA (d:=18) (v:=.int .i64 0) (w':=w3) rfl rfl rfl (by go_simp) ?_
 simp only[Act.put,sa,sz,ss]
 refine zA (d:=5) (v:=.slice q2.p q2.n q2.cp) (w':=w3) rfl rfl rfl rfl ?_
 simp only[Act.put,sa,sz,ss]
 refine zA (d:=6) (v:=.int .i64 0) (w':=w3) rfl rfl rfl rfl ?_
 simp only[Act.put,sa,sz,ss]
 refine zC (zB ?_)
 refine wp_seq (wp_seq ?_)
 refine zD (l:=[0,1]) rfl ?_
 refine zA (d:=19) (v:=.int .i64 0) (w':=w3) rfl rfl rfl rfl ?_
 simp only[Act.put,sa,sz,ss]
 refine zA (d:=20) (v:=.bool false) (w':=w3) rfl rfl rfl (by kernel_rfl) ?_
 simp only[Act.put,sa,sz,ss]
 refine zC (zB ?_)
 refine wp_cond_false rfl (wp_skip ?_)
 refine zB (wp_seq (wp_seq ?_))
 refine walk_anyA 9 [.q (PT j 0),.q (PT j 0),.q (PT j 0),.q (PT d 0),.q (PT j 0),.q (PT j 0),.q (PT j 1),.q (.string s),.q (.slice q2.p q2.n q2.cp)] (sB H3) ?ho5 ?he5
 case ho5=>exact ar (ag (ag (aq (fun w' h=>zJ h 0 rfl rfl rfl Ai25 rfl) (ar (ag (ag (aq (fun w' h=>zJ h 0 rfl rfl rfl Ai9 rfl) (ar trivial))))))))
 intro γ w4 l hM hl
 have M4:Mm w4 [(j,jc d s c z)]:=H3.out.1.grow hM (Nat.le_refl _) hl [] rfl (by decide)
 have B4:Pw w (8+q.n+4) (frm q.f q.n) q2 w4:=Pw.step H3.out.2 (hM.below)
 clear hM hl l H3
 clear γ
 have H4:Hid (_∧_):=⟨M4,B4⟩
 clear M4 B4
 refine rest_at (l:=[9,10]) rfl ?_
 refine zE (d:=31) (R:=fun vv w'=>vv=.int .i64 r∧I2 w'∧w4.heap.size≤w'.heap.size∧w'.heap[j]?=w4.heap[j]?) rfl rfl rfl (zF (args:=#[PT d 0,.string s,.slice q2.p q2.n q2.cp]) rfl call35 rfl (mpn rfl)) (Calls.mono (hap.out q2 w4 H4.out.2) (fun e w2 hh=>⟨_,hh.1,rfl,hh.2⟩)) ?_
 rintro _ w5 ⟨rfl,hI,hz1,hz2⟩
 have H5:Hid (Mm w5 [(j,jc d s c z)]∧I2 w5):=⟨Mm.keep1 H4.out.1 hz1 hz2,hI⟩
 clear hI hz1 hz2 H4
 simp only[Act.put,sa,sz,ss]
 refine zA (d:=7) (v:=.int .i64 r) (w':=w5) rfl rfl rfl rfl ?_
 simp only[Act.put,sa,sz,ss]
 refine zC (zB (wp_seq ?_))
 refine zD (l:=[0,1]) rfl ?_
 refine zA (d:=32) (v:=.int .i64 r) (w':=w5) rfl rfl rfl rfl ?_
 simp only[Act.put,sa,sz,ss]
 refine zA (d:=33) (v:=.bool true) (w':=w5) rfl rfl rfl (by go_simp) ?_
 simp only[Act.put,sa,sz,ss]
 refine zC (zB ?_)
 refine wp_cond_true rfl (wp_seq ?_)
 refine zD (l:=[0,1]) rfl ?_
 refine zA (d:=34) (v:=.int .i64 r) (w':=w5) rfl rfl rfl rfl ?_
 simp only[Act.put,sa,sz,ss]
 refine zA (d:=4) (v:=.int .i64 r) (w':=w5) rfl rfl rfl rfl ?_
 simp only[Act.put,sa,sz,ss]
 refine zC (zB (wp_ret ?_))
 repeat (first | refine zI ?_ | refine zH ?_)
 refine bodyPost_ret (v:=.int .i64 r) (by simp[results,Tryz.results47,go_sem, *]) rfl ?_
 exact⟨rfl,H5.out.1,H5.out.2⟩
end Wi
end Rg
end Go.Proofs.YtmcpagjhpfbpgaaGreatDoor
end
section
namespace Go.Proofs.YtmcpagjhpfbpgaaGreatDoor
open Go.RowKit
namespace Rg
namespace Wi
theorem call147:CO 147:=by intro args w;go_simp
theorem call148:CO 148:=by intro args w;go_simp
theorem call149:CO 149:=by intro args w;go_simp
theorem call169:CO 169:=by intro args w;go_simp
set_option maxRecDepth 100000
theorem jcut_ok (d:Nat) (s:ByteArray) (k:Nat) (r:Int) (I0 I1 I2:World→Prop) (w:World) (h0:I0 w) (s0z:∀ u u',I0 u→Below u.heap.size u u'→I0 u') (s1z:∀ u u',I1 u→Below u.heap.size u u'→I1 u') (s2z:∀ u u',I2 u→Below u.heap.size u u'→I2 u') (hcuz:∀ u,I0 u→Calls Tryz.prog 169 #[PT d 0,.string s,.int .i64 ((k:Nat):Int)] u fun e u'=>e=.returned (.int .i64 0)∧I1 u') (hsyz:∀ u,I1 u→Calls Tryz.prog 37 #[PT d 0,.string s] u fun e u'=>e=.returned (.int .i64 r)∧I2 u') :
  Calls Tryz.prog 149 #[PT d 0,.string s,.int .i64 ((k:Nat):Int)] w fun e w'=>e=.returned (.int .i64 r)∧I2 w':=by
 have H0:Hid (_∧_):=⟨Mm.nil w,h0⟩
 have s0:Hid _:=s0z
 have s1:Hid _:=s1z
 have s2:Hid _:=s2z
 have hcu:Hid _:=hcuz
 have hsy:Hid _:=hsyz
 clear h0 s0z s1z s2z hcuz hsyz
 go_enter Tryz.func149,Tryz.ntmps149
 refine wp_seq ?_
 refine zG (l:=[0]) rfl (fun u0 hu0 => ?_)
 have H1:Hid (Mm u0 []∧I0 u0):=by rw[hu0];exact H0
 clear hu0 H0
 refine zA (d:=6) (v:=.int .i64 0) (w':=u0) rfl rfl rfl rfl ?_
 simp only[Act.put,sa,sz,ss]
 refine zC (zB ?_)
 refine wp_seq (wp_seq ?_)
 refine zD (l:=[0,1,2,3,4]) rfl ?_
 refine zA (d:=8) (v:=PT d 0) (w':=u0) rfl rfl rfl rfl ?_
 simp only[Act.put,sa,sz,ss]
 refine zA (d:=9) (v:=.string s) (w':=u0) rfl rfl rfl rfl ?_
 simp only[Act.put,sa,sz,ss]
 refine zA (d:=10) (v:=.int .i64 ((k:Nat):Int)) (w':=u0) rfl rfl rfl rfl ?_
 simp only[Act.put,sa,sz,ss]
 refine zE (d:=11) (R:=fun vv w'=>vv=.int .i64 0∧I1 w') rfl rfl rfl (zF (args:=#[PT d 0,.string s,.int .i64 ((k:Nat):Int)]) rfl call169 rfl (mpn rfl)) (Calls.mono (hcu.out u0 H1.out.2) (fun e w2 hh=>⟨_,hh.1,rfl,hh.2⟩)) ?_
 rintro _ w2 ⟨rfl,hI⟩
 have H2:Hid (Mm w2 []∧I1 w2):=⟨Mm.nil _,hI⟩
 clear hI H1
 simp only[Act.put,sa,sz,ss]
 refine zA (d:=7) (v:=.int .i64 0) (w':=w2) rfl rfl rfl rfl ?_
 simp only[Act.put,sa,sz,ss]
 refine zC (zB (wp_seq ?_))
 refine zD (l:=[0,1]) rfl ?_
 refine zA (d:=12) (v:=.int .i64 0) (w':=w2) rfl rfl rfl rfl ?_
 simp only[Act.put,sa,sz,ss]
 refine zA (d:=13) (v:=.bool false) (w':=w2) rfl rfl rfl (by kernel_rfl) ?_
 simp only[Act.put,sa,sz,ss]
 refine zC (zB ?_)
 refine wp_cond_false rfl (wp_skip ?_)
 refine zB (wp_seq ?_)
 refine zD (l:=[0,1,2,3]) rfl ?_
 refine zA (d:=15) (v:=PT d 0) (w':=w2) rfl rfl rfl rfl ?_
 simp only[Act.put,sa,sz,ss]
 refine zA (d:=16) (v:=.string s) (w':=w2) rfl rfl rfl rfl ?_
 simp only[Act.put,sa,sz,ss]
 refine zE (d:=17) (R:=fun vv w'=>vv=.int .i64 r∧I2 w') rfl rfl rfl (zF (args:=#[PT d 0,.string s]) rfl call37 rfl (mpn rfl)) (Calls.mono (hsy.out w2 H2.out.2) (fun e w2 hh=>⟨_,hh.1,rfl,hh.2⟩)) ?_
 rintro _ w3 ⟨rfl,hI⟩
 have H3:Hid (Mm w3 []∧I2 w3):=⟨Mm.nil _,hI⟩
 clear hI H2
 simp only[Act.put,sa,sz,ss]
 refine zA (d:=6) (v:=.int .i64 r) (w':=w3) rfl rfl rfl rfl ?_
 simp only[Act.put,sa,sz,ss]
 refine zC (zB (wp_ret ?_))
 repeat (first | refine zI ?_ | refine zH ?_)
 refine bodyPost_ret (v:=.int .i64 r) (by simp[results,Tryz.results149,go_sem, *]) rfl ?_
 exact⟨rfl,H3.out.2⟩
structure Lq (B:Nat) (vv:Value) (m:Nat) (P:Nat→Pt8) (u:World):Prop where
 own:u.ownsRow B 40 1 vv m (pcs P m)
 ok:∀ i,i<m→Pok (P i)∧((P i).p=none→(P i).cp=0)∧(P i).rs u∧(0<(P i).n→B≤(P i).gb)
section
variable {B m:Nat} {vv:Value} {P:Nat→Pt8} {w u u':World}
theorem Lr.lq (h:Lr w vv m P u):Lq w.heap.size vv m P u:=⟨h.own,fun i hi=>⟨(h.ok i hi).1,(h.ok i hi).2.1,(h.ok i hi).2.2.1,fun h0=>((h.ok i hi).2.2.2 h0).1⟩⟩
theorem Lq.lo (h:Lq B vv m P u):∀ x∈vbl vv,B≤x:=fun x hx=>by
 unfold vbl at hx
 cases hv:vv.ownBlock with
 | none=>rw[hv] at hx;simp at hx
 | some k=>rw[hv] at hx;simp at hx;subst hx;exact(World.ownsRow.lt h.own _ hv).1
theorem Lq.chg (h:Lq B vv m P u) {L:List Nat} (hc:Chg L u u') (hL:∀ x∈L,x<B):Lq B vv m P u' :=
 ⟨own_keep h.own (fun x hx=>hc.block x (own_lt h.own x hx) (fun hm=>absurd (hL x hm) (Nat.not_lt.2 (h.lo x hx)))),fun i hi=>⟨(h.ok i hi).1,(h.ok i hi).2.1,(h.ok i hi).2.2.1.keep hc.size (fun h0=>hc.block _ ((h.ok i hi).2.2.1.lt h0) (fun hm=>absurd (hL _ hm) (Nat.not_lt.2 ((h.ok i hi).2.2.2 h0)))),(h.ok i hi).2.2.2⟩⟩
theorem Lq.step (h:Lq B vv m P u) (hb:Below u.heap.size u u'):Lq B vv m P u':=h.chg (L:=[]) (Chg.of hb) (fun _ hx=>by cases hx)
theorem Lq.put (h:Lq B vv m P u) {j:Nat} (hj:j<B) (off:Nat) (vs:List Value):Lq B vv m P (u.setCells j off vs):=h.chg (L:=[j]) ((Chg.refl _ _).put (.inl (List.mem_cons_self ..))) (fun x hx=>by rw[List.mem_singleton.1 hx];exact hj)
end
theorem ex_bj {ρ:Operand→Value} {o:Oper} {x0 x1 x2:Operand} {d:Nat} {s:ByteArray} {w:World} (ho:o.op=.build 171 #[(0,x0),(1,x1),(2,x2)]) (h0:ρ x0=PT d 0) (h1:ρ x1=.string s) (h2:ρ x2=.agg (zN .u32 crt 256).toArray):(execOp ρ o).run Tryz.prog w=.ok (.value (.agg (jc d s 0 0).toArray)) w:=by
 simp only[execOp,ho,List.map_toArray,List.map_cons,List.map_nil,h0,h1,h2]
 kernel_rfl
def End (f:Nat→Nat) (n:Nat) (A:Nat→Nat) (M:Nat):Prop:=n<A M+8∨∃ L,A M+8≤n∧n<A M+8+L+4∧Hdk (sh f (A M)) L
theorem read_fine (g t:Nat) (q:Pt8) (A Ln:Nat→Nat) (M:Nat) (hbq:q.n≤1048576) (w:World) (hT:Tb g t w) (hq:Pok q∧q.rs w) (hqn:q.p=none→q.cp=0) (hlg:Lgk q.f q.n A Ln M) (he:End q.f q.n A M):Calls Tryz.prog 148 #[PT g t,.slice q.p q.n q.cp] w fun e w'=>∃ v P,e=.returned (.tuple #[v,.int .i64 ((A M:Nat):Int),.int .i64 0])∧Lr w v M P w'∧∀ i,i<M→(P i).n=Ln i∧∀ j,j<Ln i→(P i).f j=q.f (A i+8+j):=by
 rcases he with h | ⟨L,h1,h2,h3⟩
 ·exact read_short g t q A Ln M hbq h w hT hq hqn hlg
 ·exact read_torn g t q A Ln M hbq L h1 h2 w hT hq hqn hlg h3
theorem ex_lnL {ρ:Operand→Value} {o:Oper} {x:Operand} {v:Value} {B n:Nat} {xs:List Value} {w:World} (h:w.ownsRow B 40 1 v n xs) (ho:o.op=.call { callee:=.builtin .len,args:=#[x],argTypes:=#[131] }) (hx:ρ x=v):(execOp ρ o).run Tryz.prog w=.ok (.value (.int .i64 ((n:Nat):Int))) w:=by
 obtain⟨p,c,rfl,_⟩:=own_slice h
 simp only[execOp,ho]
 clear h ho
 go_simp
theorem jopen_whole (d:Nat) (s:ByteArray) (hs:s.size≤281474976710656) (N:Nat) (C:Nat→Nat) (A Ln:Nat→Nat) (M:Nat) (hN:N≤1048576) (hw0:A M=N) (w:World) (hcnz:∀ u,Below w.heap.size w u→Calls Tryz.prog 147 #[PT d 0,.string s] u fun e u'=>∃ q:Pt8,e=.returned (.tuple #[.slice q.p q.n q.cp,.int .i64 0])∧Pw w N C q u') (hlgz:Lgk C N A Ln M) (henz:End C N A M) :
  Calls Tryz.prog 111 #[PT d 0,.string s] w fun e w'=>∃ j v P B,e=.returned (.tuple #[PT j 0,v,.int .i64 0])∧Mm w' [(j,jc d s M (A M))]∧Below w.heap.size w w'∧Lq B v M P w'∧w.heap.size≤j∧j<B∧∀ i,i<M→(P i).n=Ln i∧∀ k,k<Ln i→(P i).f k=C (A i+8+k):=by
 have H0:Hid (_∧_):=⟨Mm.nil w,Below.refl w.heap.size w⟩
 have hcn:Hid _:=hcnz
 have hlg:Hid _:=hlgz
 have hen:Hid _:=henz
 clear hcnz hlgz henz
 go_enter Tryz.func111,Tryz.ntmps111
 refine wp_seq ?_
 refine zG (l:=[0,1,2]) rfl (fun u0 hu0 => ?_)
 have H1:Hid (Mm u0 []∧Below w.heap.size w u0):=by rw[hu0];exact H0
 clear hu0 H0
 refine zA (d:=4) (v:=.pointer none) (w':=u0) rfl rfl rfl rfl ?_
 simp only[Act.put,sa,sz,ss]
 refine zA (d:=5) (v:=.slice none 0 0) (w':=u0) rfl rfl rfl rfl ?_
 simp only[Act.put,sa,sz,ss]
 refine zA (d:=6) (v:=.int .i64 0) (w':=u0) rfl rfl rfl rfl ?_
 simp only[Act.put,sa,sz,ss]
 refine zC (zB (wp_seq ?_))
 refine zD (l:=[0,1,2,3,4,5,6,7]) rfl ?_
 refine zA (d:=14) (v:=PT d 0) (w':=u0) rfl rfl rfl rfl ?_
 simp only[Act.put,sa,sz,ss]
 refine zA (d:=15) (v:=.string s) (w':=u0) rfl rfl rfl rfl ?_
 simp only[Act.put,sa,sz,ss]
 refine zE (d:=16) (R:=fun vv w'=>∃ q:Pt8,vv=.tuple #[.slice q.p q.n q.cp,.int .i64 0]∧Pw w N C q w') rfl rfl rfl (zF (args:=#[PT d 0,.string s]) rfl call147 rfl (mpn rfl)) (Calls.mono (hcn.out u0 H1.out.2) (fun e w2 hh=>by obtain⟨q,he,hI⟩:=hh;exact⟨_,he,q,rfl,hI⟩)) ?_
 rintro _ w2 ⟨q,rfl,hI⟩
 have hqN:Hid _:=hI.n
 have hqC:Hid _:=hI.f
 have H2:Hid (Mm w2 []∧Pw w N C q w2):=⟨Mm.nil _,hI⟩
 clear hI H1
 simp only[Act.put,sa,sz,ss]
 refine zA (d:=13) (v:=.tuple #[.slice q.p q.n q.cp,.int .i64 0]) (w':=w2) rfl rfl rfl rfl ?_
 simp only[Act.put,sa,sz,ss]
 refine zA (d:=17) (v:=.slice q.p q.n q.cp) (w':=w2) rfl rfl rfl (by go_simp) ?_
 simp only[Act.put,sa,sz,ss]
 refine zA (d:=18) (v:=.int .i64 0) (w':=w2) rfl rfl rfl (by go_simp) ?_
 simp only[Act.put,sa,sz,ss]
 refine zA (d:=7) (v:=.slice q.p q.n q.cp) (w':=w2) rfl rfl rfl rfl ?_
 simp only[Act.put,sa,sz,ss]
 refine zA (d:=8) (v:=.int .i64 0) (w':=w2) rfl rfl rfl rfl ?_
 simp only[Act.put,sa,sz,ss]
 refine zC (zB ?_)
 refine wp_seq (wp_seq ?_)
 refine zD (l:=[0,1]) rfl ?_
 refine zA (d:=19) (v:=.int .i64 0) (w':=w2) rfl rfl rfl rfl ?_
 simp only[Act.put,sa,sz,ss]
 refine zA (d:=20) (v:=.bool false) (w':=w2) rfl rfl rfl (by kernel_rfl) ?_
 simp only[Act.put,sa,sz,ss]
 refine zC (zB ?_)
 refine wp_cond_false rfl (wp_skip ?_)
 refine zB (wp_seq ?_)
 refine zD (l:=[0,1,2,3,4,5,6]) rfl ?_
 refine zA (d:=22) (v:=PT d 0) (w':=w2) rfl rfl rfl rfl ?_
 simp only[Act.put,sa,sz,ss]
 refine zA (d:=23) (v:=.string s) (w':=w2) rfl rfl rfl rfl ?_
 simp only[Act.put,sa,sz,ss]
 refine zE (d:=24) (R:=fun vv w'=>vv=.string s∧Below w2.heap.size w2 w') rfl rfl rfl (zF (args:=#[.string s]) rfl call57 rfl (mpn rfl)) (Calls.mono (sclone_any s hs w2) (fun e w2 hh=>⟨_,hh.1,rfl,hh.2⟩)) ?_
 rintro _ w3 ⟨rfl,hb⟩
 have H3:Hid (Mm w3 []∧Pw w N C q w3):=⟨H2.out.1.below hb,Pw.step H2.out.2 (hb)⟩
 clear hb
 clear H2
 simp only[Act.put,sa,sz,ss]
 refine zE (d:=25) (R:=fun vv w'=>vv=.agg (zN .u32 crt 256).toArray∧Below w3.heap.size w3 w') rfl rfl rfl (zF (args:=#[]) rfl call146 rfl (mpn rfl)) (Calls.mono (newTable_any w3) (fun e w2 hh=>⟨_,hh.1,rfl,hh.2⟩)) ?_
 rintro _ w4 ⟨rfl,hb⟩
 have H4:Hid (Mm w4 []∧Pw w N C q w4):=⟨H3.out.1.below hb,Pw.step H3.out.2 (hb)⟩
 clear hb
 clear H3
 simp only[Act.put,sa,sz,ss]
 refine zA (d:=26) (v:=.agg (jc d s 0 0).toArray) (w':=w4) rfl rfl rfl (ex_bj rfl rfl rfl rfl) ?_
 simp only[Act.put,sa,sz,ss]
 refine zA (d:=27) (v:=PT w4.heap.size 0) (w':=(w4.alloc (.cells (jc d s 0 0).toArray 171))) rfl rfl rfl (ex_boxT rfl rfl) ?_
 simp only[Act.put,sa,sz,ss]
 have hwj:Hid (w.heap.size≤w4.heap.size):=H4.out.2.b.size
 have H5:Hid (Mm (w4.alloc (.cells (jc d s 0 0).toArray 171)) [(w4.heap.size,jc d s 0 0)]∧Pw w N C q (w4.alloc (.cells (jc d s 0 0).toArray 171))):=⟨(Mm.nil _).alloc _ _ rfl,H4.out.2.step ((Below.refl _ _).alloc (Nat.le_refl _) _)⟩
 clear H4
 generalize hgw:w4.alloc (.cells (jc d s 0 0).toArray 171)=w5 at H5 ⊢
 clear hgw
 generalize w4.heap.size=j at H5 hwj ⊢
 refine zA (d:=9) (v:=PT j 0) (w':=w5) rfl rfl rfl rfl ?_
 simp only[Act.put,sa,sz,ss]
 refine zC (zB (wp_seq ?_))
 refine zD (l:=[0,1,2,3,4,5,6,7,8,9,10,11]) rfl ?_
 refine zA (d:=29) (v:=PT j 0) (w':=w5) rfl rfl rfl rfl ?_
 simp only[Act.put,sa,sz,ss]
 refine zA (d:=30) (v:=PT j 0) (w':=w5) rfl rfl rfl (by go_simp) ?_
 simp only[Act.put,sa,sz,ss]
 refine zA (d:=31) (v:=PT j 2) (w':=w5) rfl rfl rfl (by go_simp) ?_
 simp only[Act.put,sa,sz,ss]
 refine zA (d:=32) (v:=.slice q.p q.n q.cp) (w':=w5) rfl rfl rfl rfl ?_
 simp only[Act.put,sa,sz,ss]
 have hlq:Lgk q.f q.n A Ln M:=by rw[hqN.out,hqC.out];exact hlg.out
 have heq:End q.f q.n A M:=by rw[hqN.out,hqC.out];exact hen.out
 refine zE (d:=33) (R:=fun vv w'=>∃ v P,vv=.tuple #[v,.int .i64 ((A M:Nat):Int),.int .i64 0]∧Lr w5 v M P w'∧∀ i,i<M→(P i).n=Ln i∧∀ j,j<Ln i→(P i).f j=C (A i+8+j)) rfl rfl rfl (zF (args:=#[PT j 2,.slice q.p q.n q.cp]) rfl call148 rfl (mpn rfl)) (Calls.mono (read_fine j 2 q A Ln M (by rw[hqN.out];exact hN) w5 (Tb.jc (H5.out.1.one 0 rfl)) ⟨H5.out.2.ok,H5.out.2.rs⟩ H5.out.2.no hlq heq) (fun e w2 hh=>by obtain⟨v,P,he,hI,hP⟩:=hh;exact⟨_,he,v,P,rfl,hI,by rw[← hqC.out];exact hP⟩)) ?_
 rintro _ w6 ⟨v,P,rfl,hI,hP⟩
 have hPs:Hid _:=hP
 have hjB:Hid (j<w5.heap.size):=(H5.out.1.blk _ (List.mem_cons_self ..)).1
 have hBw:Hid (w.heap.size≤w5.heap.size):=H5.out.2.b.size
 have H6:Hid (Mm w6 [(j,jc d s 0 0)]∧Below w.heap.size w w6∧Lq w5.heap.size v M P w6):=⟨H5.out.1.below hI.b,zR _ _ H5.out.2.b hI.b,hI.lq⟩
 clear hI hP hlq heq H5
 generalize w5.heap.size=B at H6 hjB hBw
 simp only[Act.put,sa,sz,ss]
 refine zA (d:=28) (v:=.tuple #[v,.int .i64 ((A M:Nat):Int),.int .i64 0]) (w':=w6) rfl rfl rfl rfl ?_
 simp only[Act.put,sa,sz,ss]
 refine zA (d:=34) (v:=v) (w':=w6) rfl rfl rfl (by go_simp) ?_
 simp only[Act.put,sa,sz,ss]
 refine zA (d:=35) (v:=.int .i64 ((A M:Nat):Int)) (w':=w6) rfl rfl rfl (by go_simp) ?_
 simp only[Act.put,sa,sz,ss]
 refine zA (d:=36) (v:=.int .i64 0) (w':=w6) rfl rfl rfl (by go_simp) ?_
 simp only[Act.put,sa,sz,ss]
 refine zA (d:=10) (v:=v) (w':=w6) rfl rfl rfl rfl ?_
 simp only[Act.put,sa,sz,ss]
 refine zA (d:=11) (v:=.int .i64 ((A M:Nat):Int)) (w':=w6) rfl rfl rfl rfl ?_
 simp only[Act.put,sa,sz,ss]
 refine zA (d:=8) (v:=.int .i64 0) (w':=w6) rfl rfl rfl rfl ?_
 simp only[Act.put,sa,sz,ss]
 refine zC (zB ?_)
 refine wp_seq (wp_seq ?_)
 refine zD (l:=[0,1]) rfl ?_
 refine zA (d:=37) (v:=.int .i64 0) (w':=w6) rfl rfl rfl rfl ?_
 simp only[Act.put,sa,sz,ss]
 refine zA (d:=38) (v:=.bool false) (w':=w6) rfl rfl rfl (by kernel_rfl) ?_
 simp only[Act.put,sa,sz,ss]
 refine zC (zB ?_)
 refine wp_cond_false rfl (wp_skip ?_)
 refine zB (wp_seq (wp_seq ?_))
 refine zD (l:=[0,1,2,3]) rfl ?_
 refine zA (d:=40) (v:=.int .i64 ((A M:Nat):Int)) (w':=w6) rfl rfl rfl rfl ?_
 simp only[Act.put,sa,sz,ss]
 refine zA (d:=41) (v:=.slice q.p q.n q.cp) (w':=w6) rfl rfl rfl rfl ?_
 simp only[Act.put,sa,sz,ss]
 refine zA (d:=42) (v:=.int .i64 ((q.n:Nat):Int)) (w':=w6) rfl rfl rfl (by go_simp) ?_
 simp only[Act.put,sa,sz,ss]
 refine zA (d:=43) (v:=.bool false) (w':=w6) rfl rfl rfl (by have:=hqN.out;go_simp <;> omega) ?_
 simp only[Act.put,sa,sz,ss]
 refine zC (zB ?_)
 refine wp_cond_false rfl (wp_skip ?_)
 refine zB (wp_seq ?_)
 refine zD (l:=[0,1,2,3,4,5,6,7,8,9,10]) rfl ?_
 refine zA (d:=51) (v:=PT j 0) (w':=w6) rfl rfl rfl rfl ?_
 simp only[Act.put,sa,sz,ss]
 refine zA (d:=52) (v:=PT j 0) (w':=w6) rfl rfl rfl rfl ?_
 simp only[Act.put,sa,sz,ss]
 refine zA (d:=53) (v:=v) (w':=w6) rfl rfl rfl rfl ?_
 simp only[Act.put,sa,sz,ss]
 refine zA (d:=54) (v:=.int .i64 ((M:Nat):Int)) (w':=w6) rfl rfl rfl (ex_lnL H6.out.2.2.own rfl rfl) ?_
 simp only[Act.put,sa,sz,ss]
 refine zA (d:=55) (v:=.int .i64 ((A M:Nat):Int)) (w':=w6) rfl rfl rfl rfl ?_
 simp only[Act.put,sa,sz,ss]
 refine zA (d:=56) (v:=PT j 0) (w':=w6) rfl rfl rfl (by go_simp) ?_
 simp only[Act.put,sa,sz,ss]
 refine zA (d:=57) (v:=PT j 258) (w':=w6) rfl rfl rfl (by go_simp) ?_
 simp only[Act.put,sa,sz,ss]
 refine zM rfl rfl rfl (ex_st1 (v:=.int .i64 ((M:Nat):Int)) H6.out.1 0 rfl rfl As3 rfl rfl rfl (by rw[jc_len];decide)) ?_
 have H7:Hid (Mm (w6.setCells j 258 [Value.int .i64 ((M:Nat):Int)]) [(j,jc d s M 0)]∧Below w.heap.size w (w6.setCells j 258 [Value.int .i64 ((M:Nat):Int)])∧Lq B v M P (w6.setCells j 258 [Value.int .i64 ((M:Nat):Int)])):=⟨by
  have h:=H6.out.1.put 0 (off:=258) (vs:=[Value.int .i64 ((M:Nat):Int)]) rfl (by rw[jc_len];show 258+1≤260;decide)
  rw[jc_putc] at h
  exact h,⟨below_setCells _ hwj.out _ _ _ H6.out.2.1,H6.out.2.2.put hjB.out _ _⟩⟩
 clear H6
 generalize hgw:World.setCells _ _ _ _=w7 at H7 ⊢
 clear hgw
 refine zA (d:=58) (v:=PT j 0) (w':=w7) rfl rfl rfl (by go_simp) ?_
 simp only[Act.put,sa,sz,ss]
 refine zA (d:=59) (v:=PT j 259) (w':=w7) rfl rfl rfl (by go_simp) ?_
 simp only[Act.put,sa,sz,ss]
 refine zM rfl rfl rfl (ex_st1 (v:=.int .i64 ((A M:Nat):Int)) H7.out.1 0 rfl rfl As3 rfl rfl rfl (by rw[jc_len];decide)) ?_
 have H8:Hid (Mm (w7.setCells j 259 [Value.int .i64 ((A M:Nat):Int)]) [(j,jc d s M (A M))]∧Below w.heap.size w (w7.setCells j 259 [Value.int .i64 ((A M:Nat):Int)])∧Lq B v M P (w7.setCells j 259 [Value.int .i64 ((A M:Nat):Int)])):=⟨by
  have h:=H7.out.1.put 0 (off:=259) (vs:=[Value.int .i64 ((A M:Nat):Int)]) rfl (by rw[jc_len];show 259+1≤260;decide)
  rw[jc_putz] at h
  exact h,⟨below_setCells _ hwj.out _ _ _ H7.out.2.1,H7.out.2.2.put hjB.out _ _⟩⟩
 clear H7
 generalize hgw:World.setCells _ _ _ _=w8 at H8 ⊢
 clear hgw
 refine zC (zB (wp_seq ?_))
 refine zD (l:=[0,1,2,3,4]) rfl ?_
 refine zA (d:=60) (v:=PT j 0) (w':=w8) rfl rfl rfl rfl ?_
 simp only[Act.put,sa,sz,ss]
 refine zA (d:=61) (v:=v) (w':=w8) rfl rfl rfl rfl ?_
 simp only[Act.put,sa,sz,ss]
 refine zA (d:=4) (v:=PT j 0) (w':=w8) rfl rfl rfl rfl ?_
 simp only[Act.put,sa,sz,ss]
 refine zA (d:=5) (v:=v) (w':=w8) rfl rfl rfl rfl ?_
 simp only[Act.put,sa,sz,ss]
 refine zA (d:=6) (v:=.int .i64 0) (w':=w8) rfl rfl rfl rfl ?_
 simp only[Act.put,sa,sz,ss]
 refine zC (zB (wp_ret ?_))
 repeat (first | refine zI ?_ | refine zH ?_)
 refine bodyPost_ret (v:=.tuple #[PT j 0,v,.int .i64 0]) (by simp[results,Tryz.results111,go_sem, *]) rfl ?_
 exact⟨_,_,_,_,rfl,H8.out.1,H8.out.2.1,H8.out.2.2,hwj.out,hjB.out,hPs.out⟩
end Wi
end Rg
end Go.Proofs.YtmcpagjhpfbpgaaGreatDoor
end
section
namespace Go.Proofs.YtmcpagjhpfbpgaaGreatDoor
open Go.RowKit
namespace Rg
namespace Wi
set_option maxRecDepth 100000
def q8 (f:Nat→Nat) (n:Nat):List Int:=(List.range n).map fun i=>((f i:Nat):Int)
theorem q8_cg {f g:Nat→Nat} {n:Nat} (h:∀ i,i<n→f i=g i):q8 f n=q8 g n:=by
 unfold q8
 exact List.map_congr_left fun i hi=>by rw[h i (by simpa using hi)]
theorem bsl_q {q:Pt8} {u:World} (h:Pok q) (hr:q.rs u):BSl u (q8 q.f q.n) q.cp (.slice q.p q.n q.cp):=by
 rcases Nat.eq_zero_or_pos q.n with e | e
 ·rw[e]
  exact BSl.void q.p rfl
 ·rw[h.at e]
  exact Rd.bsl ⟨hr.lt e,fun i hi=>hr.at_ i hi⟩ h.le
theorem same_q {q r:Pt8} {u:World} (hq:Pok q∧q.rs u) (hr:Pok r∧r.rs u) (hn:q.n=r.n) (hf:∀ i,i<r.n→q.f i=r.f i):Calls Tryz.prog 20 #[.slice q.p q.n q.cp,.slice r.p r.n r.cp] u fun e u'=>e=.returned (.bool true)∧Below u.heap.size u u':=by
 have h1:=bsl_q hq.1 hq.2
 rw[show q8 q.f q.n=q8 r.f r.n by rw[hn];exact q8_cg hf] at h1
 exact same_bb h1 (bsl_q hr.1 hr.2)
structure Lv (pl:Option Addr) (g o m:Nat) (P:Nat→Pt8) (u:World):Prop where
 p:0<m→pl=some ⟨g,o,none⟩
 lt:0<m→g<u.heap.size
 at_:∀ i,i<m→u.cell? ⟨g,o+i,none⟩=some (.slice (P i).p (P i).n (P i).cp)
 ok:∀ i,i<m→Pok (P i)∧((P i).p=none→(P i).cp=0)∧(P i).rs u
theorem Lv.below {pl:Option Addr} {g o m:Nat} {P:Nat→Pt8} {u u':World} (h:Lv pl g o m P u) (hb:Below u.heap.size u u'):Lv pl g o m P u' :=
 ⟨h.p,fun h0=>Nat.lt_of_lt_of_le (h.lt h0) hb.size,fun i hi=>by rw[hb.cell (p:=⟨g,o+i,none⟩) (h.lt (by omega))];exact h.at_ i hi,fun i hi=>⟨(h.ok i hi).1,(h.ok i hi).2.1,(h.ok i hi).2.2.below hb⟩⟩
theorem Lq.lv {B m:Nat} {v:Value} {P:Nat→Pt8} {u:World} (h:Lq B v m P u):∃ pl c g,v=.slice pl m c∧Lv pl g 0 m P u:=by
 have hk:∀ i,i<m→Pok (P i)∧((P i).p=none→(P i).cp=0)∧(P i).rs u:=fun i hi=>⟨(h.ok i hi).1,(h.ok i hi).2.1,(h.ok i hi).2.2.1⟩
 rcases h.own.2 with ⟨h1,h2⟩ | ⟨g,cap,cur,h1,h2,h3,h4,_⟩
 ·subst h2
  exact⟨_,_,0,h1,fun h0=>absurd h0 (Nat.lt_irrefl _),fun h0=>absurd h0 (Nat.lt_irrefl _),fun i hi=>absurd hi (Nat.not_lt_zero _),hk⟩
 ·refine⟨_,_,g,h1,fun _=>rfl,fun _=>(Array.getElem?_eq_some_iff.1 h3).1,fun i hi => ?_,hk⟩
  have e:=World.ownsRow.cells h.own (g:=g) (by rw[h1];rfl) i _ (pcs_get P hi)
  rwa [show (⟨g,0,none⟩:Addr).add i=⟨g,0+i,none⟩ by unfold Addr.add;split <;> simp_all] at e
section
variable {ρ:Operand→Value} {o:Oper} {x y:Operand} {g off j m c:Nat} {v:Value} {w:World}
end
theorem Lq.base {B B' m:Nat} {v:Value} {P:Nat→Pt8} {u:World} (h:Lq B v m P u) (hb:B'≤B):Lq B' v m P u:=⟨own_base h.own hb,fun i hi=>⟨(h.ok i hi).1,(h.ok i hi).2.1,(h.ok i hi).2.2.1,fun h0=>Nat.le_trans hb ((h.ok i hi).2.2.2 h0)⟩⟩
theorem Read_fine (q:Pt8) (A Ln:Nat→Nat) (M:Nat) (hbq:q.n≤1048576) (w:World) (hq0:Pok q∧q.rs w) (hqn0:q.p=none→q.cp=0) (hlg0:Lgk q.f q.n A Ln M) (hen0:End q.f q.n A M) :
  Calls Tryz.prog 119 #[.slice q.p q.n q.cp] w fun e w'=>∃ v P,e=.returned (.tuple #[v,.int .i64 ((A M:Nat):Int),.int .i64 0])∧(Below w.heap.size w w'∧Lq w.heap.size v M P w')∧∀ i,i<M→(P i).n=Ln i∧∀ j,j<Ln i→(P i).f j=q.f (A i+8+j):=by
 have H0:Hid (_∧_):=⟨Mm.nil w,Below.refl w.heap.size w⟩
 have hq:Hid _:=hq0
 clear hq0
 have hqn:Hid _:=hqn0
 clear hqn0
 have hlg:Hid _:=hlg0
 clear hlg0
 have hen:Hid _:=hen0
 clear hen0
 go_enter Tryz.func119,Tryz.ntmps119
 refine wp_seq ?_
 refine zG (l:=[0,1,2]) rfl (fun u0 hu0 => ?_)
 have H1:Hid (Mm u0 []∧Below w.heap.size w u0):=by rw[hu0];exact H0
 clear hu0 H0
 refine zA (d:=2) (v:=.slice none 0 0) (w':=u0) rfl rfl rfl rfl ?_
 simp only[Act.put,sa,sz,ss]
 refine zA (d:=3) (v:=.int .i64 0) (w':=u0) rfl rfl rfl rfl ?_
 simp only[Act.put,sa,sz,ss]
 refine zA (d:=4) (v:=.int .i64 0) (w':=u0) rfl rfl rfl rfl ?_
 simp only[Act.put,sa,sz,ss]
 refine zC (zB (wp_seq ?_))
 refine zD (l:=[0,1,2]) rfl ?_
 refine zE (d:=6) (R:=fun vv w'=>vv=.agg (zN .u32 crt 256).toArray∧Below u0.heap.size u0 w') rfl rfl rfl (zF (args:=#[]) rfl call146 rfl (mpn rfl)) (Calls.mono (newTable_any u0) (fun e w2 hh=>⟨_,hh.1,rfl,hh.2⟩)) ?_
 rintro _ w2 ⟨rfl,hb⟩
 have H2:Hid (Mm w2 []∧Below w.heap.size w w2):=⟨H1.out.1.below hb,H1.out.2.trans (hb.mono H1.out.2.size)⟩
 clear hb
 clear H1
 simp only[Act.put,sa,sz,ss]
 refine zA (d:=5) (v:=PT w2.heap.size 0) (w':=(w2.alloc (.cells (zN .u32 (fun _=>0) 256:List Value).toArray 169))) rfl rfl rfl (ex_mkT rfl) ?_
 simp only[Act.put,sa,sz,ss]
 have o_γs3:Hid (w.heap.size≤w2.heap.size):=H2.out.2.size
 have H3:Hid (Mm (w2.alloc (.cells (zN .u32 (fun _=>0) 256:List Value).toArray 169)) ((w2.heap.size,zN .u32 (fun _=>0) 256) :: [])∧Below w.heap.size w (w2.alloc (.cells (zN .u32 (fun _=>0) 256:List Value).toArray 169))):=⟨H2.out.1.alloc _ 169 rfl,H2.out.2.trans (((Below.refl _ _).alloc (Nat.le_refl _) _).mono H2.out.2.size)⟩
 clear H2
 generalize hgw:w2.alloc (.cells (zN .u32 (fun _=>0) 256:List Value).toArray 169)=w3 at H3 ⊢
 clear hgw
 generalize w2.heap.size=γs3 at o_γs3 H3 ⊢
 refine zM rfl rfl rfl (ex_storeT (vs:=zN .u32 crt 256) H3.out.1 0 rfl rfl rfl rfl (by rw[zO];exact As169) (ints_all _ _ _) (by rw[zO,zO];omega)) ?_
 have H4:Hid (Mm (w3.setCells γs3 0 (zN .u32 crt 256)) [(γs3,zN .u32 crt 256)]∧Below w.heap.size w (w3.setCells γs3 0 (zN .u32 crt 256))):=⟨by
  have h:=H3.out.1.put 0 (off:=0) (vs:=zN .u32 crt 256) rfl (by rw[zO,zO];omega)
  rw[ints_patch0] at h
  exact h,below_setCells _ o_γs3.out _ _ _ H3.out.2⟩
 clear H3
 generalize hgw:World.setCells _ _ _ _=w4 at H4 ⊢
 clear hgw
 refine zC (zB (wp_seq ?_))
 refine zD (l:=[0,1,2,3,4,5,6,7]) rfl ?_
 refine zA (d:=7) (v:=.slice q.p q.n q.cp) (w':=w4) rfl rfl rfl rfl ?_
 simp only[Act.put,sa,sz,ss]
 refine zE (d:=8) (R:=fun vv w'=>∃ v P,vv=.tuple #[v,.int .i64 ((A M:Nat):Int),.int .i64 0]∧(Below w.heap.size w w'∧Lq w.heap.size v M P w')∧∀ i,i<M→(P i).n=Ln i∧∀ j,j<Ln i→(P i).f j=q.f (A i+8+j)) rfl rfl rfl (zF (args:=#[PT γs3 0,.slice q.p q.n q.cp]) rfl call148 rfl (mpn rfl)) (Calls.mono (read_fine γs3 0 q A Ln M hbq w4 (Tb.mm (H4.out.1.one 0 rfl)) ⟨hq.out.1,hq.out.2.below H4.out.2⟩ hqn.out hlg.out hen.out) (fun e w2 hh=>by obtain⟨v,P,he,hI,hP⟩:=hh;exact⟨_,he,v,P,rfl,⟨zR _ _ H4.out.2 hI.b,hI.lq.base H4.out.2.size⟩,hP⟩)) ?_
 rintro _ w5 ⟨v,P,rfl,hI,hP⟩
 have hPs:Hid _:=hP
 have H5:Hid (Mm w5 []∧Below w.heap.size w w5∧Lq w.heap.size v M P w5):=⟨Mm.nil _,hI⟩
 clear hI hP H4
 simp only[Act.put,sa,sz,ss]
 refine zA (d:=9) (v:=v) (w':=w5) rfl rfl rfl (by go_simp) ?_
 simp only[Act.put,sa,sz,ss]
 refine zA (d:=10) (v:=.int .i64 ((A M:Nat):Int)) (w':=w5) rfl rfl rfl (by go_simp) ?_
 simp only[Act.put,sa,sz,ss]
 refine zA (d:=11) (v:=.int .i64 0) (w':=w5) rfl rfl rfl (by go_simp) ?_
 simp only[Act.put,sa,sz,ss]
 refine zA (d:=2) (v:=v) (w':=w5) rfl rfl rfl rfl ?_
 simp only[Act.put,sa,sz,ss]
 refine zA (d:=3) (v:=.int .i64 ((A M:Nat):Int)) (w':=w5) rfl rfl rfl rfl ?_
 simp only[Act.put,sa,sz,ss]
 refine zA (d:=4) (v:=.int .i64 0) (w':=w5) rfl rfl rfl rfl ?_
 simp only[Act.put,sa,sz,ss]
 refine zC (zB (wp_ret ?_))
 repeat (first | refine zI ?_ | refine zH ?_)
 refine bodyPost_ret (v:=.tuple #[v,.int .i64 ((A M:Nat):Int),.int .i64 0]) (by simp[results,Tryz.results119,go_sem, *]) rfl ?_
 exact⟨_,_,rfl,H5.out.2,hPs.out⟩
end Wi
end Rg
end Go.Proofs.YtmcpagjhpfbpgaaGreatDoor
end
section
namespace Go.Proofs.YtmcpagjhpfbpgaaGreatDoor
open Go.RowKit
namespace Rg
namespace Wi
set_option maxRecDepth 100000
structure De (w0:World) (d:Nat) (A:Ad) (ps:List Pt8) (cs:List (Nat×Nat×Value)) (u:World):Prop where
 da:Da w0 d A (ps.flatMap gbl++cs.map Prod.fst) u
 pq:∀ q∈ps,Pq q u
 cl:∀ c∈cs,u.cell? ⟨c.1,c.2.1,none⟩=some c.2.2
section
variable {w0 u u':World} {d:Nat} {A A':Ad} {ps:List Pt8} {cs:List (Nat×Nat×Value)}
theorem De.kx (h:De w0 d A ps cs u) (ha:Da w0 d A' (ps.flatMap gbl++cs.map Prod.fst) u') (hk:Kx (ps.flatMap gbl++cs.map Prod.fst) u u'):De w0 d A' ps cs u' :=
 ⟨ha,fun q hq=>(h.pq q hq).kx hk fun x hx=>List.mem_append_left _ (List.mem_flatMap.2 ⟨q,hq,hx⟩),fun c hc=>by
  rw[World.cell?_of_block (a:=⟨c.1,c.2.1,none⟩) (hk.2 _ (List.mem_append_right _ (List.mem_map.2 ⟨c,hc,rfl⟩)))]
  exact h.cl c hc⟩
theorem De.step (h:De w0 d A ps cs u) (hb:Below u.heap.size u u'):De w0 d A ps cs u':=h.kx (h.da.step hb) (h.da.kx hb)
theorem De.b (h:De w0 d A ps cs u):Below w0.heap.size w0 u:=h.da.b
theorem De.part {q:Pt8} (h:De w0 d A ps cs u) (hq:Pq q u') (hb:Below u.heap.size u u') (hd:Da w0 d A (gbl q++(ps.flatMap gbl++cs.map Prod.fst)) u'):De w0 d A (q :: ps) cs u' :=
 ⟨by rw[List.flatMap_cons,List.append_assoc];exact hd,fun x hx=>by
  rcases List.mem_cons.1 hx with e | e
  ·subst e;exact hq
  ·exact((h.step hb).pq x e),(h.step hb).cl⟩
theorem De.cell {g o:Nat} {v:Value} (h:De w0 d A ps cs u) (hb:Below u.heap.size u u') (h1:u.heap.size≤g) (h2:g<u'.heap.size) (h3:u'.cell? ⟨g,o,none⟩=some v):De w0 d A ps ((g,o,v) :: cs) u':=by
 have e:=h.da.add (M:=[g]) hb fun x hx=>by obtain rfl:=List.mem_singleton.1 hx;exact⟨h1,h2⟩
 refine⟨e.sub fun x hx => ?_,(h.step hb).pq,fun c hc => ?_⟩
 ·simp only[List.map_cons,List.mem_append,List.mem_cons] at hx ⊢
  rcases hx with e | e | e
  ·exact .inr (.inl e)
  ·exact .inl (.inl e)
  ·exact .inr (.inr e)
 ·rcases List.mem_cons.1 hc with e | e
  ·subst e;exact h3
  ·exact(h.step hb).cl c e
def lit (l:List Nat):Obj:=.cells (l.map fun x=>Value.int .u8 ((x:Nat):Int)).toArray 5
def ltp (g:Nat) (l:List Nat):Pt8:=⟨g,0,l.length,l.length,some ⟨g,0,none⟩,fun i=>l.getD i 0⟩
theorem ltp_bs (g:Nat) (l:List Nat):bs (ltp g l).n (ltp g l).f=l:=by
 apply List.ext_getElem?
 intro i
 by_cases h:i<l.length
 ·rw[bs_get _ (show i<(ltp g l).n from h)]
  show some (l.getD i 0)=_
  rw[List.getD_eq_getElem?_getD,List.getElem?_eq_getElem h]
  rfl
 ·rw[List.getElem?_eq_none (by rw[bs_len];show l.length≤i;omega),List.getElem?_eq_none (by omega)]
theorem ltp_pq (u:World) (l:List Nat):Pq (ltp u.heap.size l) (u.alloc (lit l)):=by
 refine⟨⟨Bv.start _ _ _ _,Nat.le_refl _⟩,(fun e=>by cases e),fun _ => ?_,fun i hi => ?_⟩
 ·show u.heap.size<(u.alloc _).heap.size
  simp
 ·have hi:i<l.length:=hi
  have h:=World.alloc_heap_new u (lit l)
  show (u.alloc (lit l)).cell? ⟨u.heap.size,0+i,none⟩=some (.int .u8 ((l.getD i 0:Nat):Int))
  unfold World.cell?
  dsimp only
  rw[h,Nat.zero_add]
  unfold lit
  simp[List.getD_eq_getElem?_getD,hi]
theorem De.lit (h:De w0 d A ps cs u) (l:List Nat):De w0 d A (ltp u.heap.size l :: ps) cs (u.alloc (lit l)):=by
 have hb:Below u.heap.size u (u.alloc (Wi.lit l)):=(Below.refl _ u).alloc (Nat.le_refl _) _
 refine h.part (ltp_pq u l) hb (h.da.add hb fun x hx => ?_)
 unfold gbl at hx
 split at hx
 ·cases hx
 ·obtain rfl:=List.mem_singleton.1 hx
  exact⟨Nat.le_refl _,by show u.heap.size<(u.alloc _).heap.size;simp⟩
theorem De.drop {q:Pt8} (h:De w0 d A (q :: ps) cs u):De w0 d A ps cs u :=
 ⟨h.da.sub fun x hx=>by
  rw[List.flatMap_cons]
  simp only[List.mem_append] at hx ⊢
  exact hx.elim (fun e=>.inl (.inr e)) .inr,fun x hx=>h.pq x (List.mem_cons_of_mem _ hx),h.cl⟩
theorem same_lit {q:Pt8} (hq:Pq q u) (l:List Nat) (hl:bs q.n q.f=l) :
  Calls Tryz.prog 20 #[.slice q.p q.n q.cp,.slice (some ⟨u.heap.size,0,none⟩) l.length l.length] (u.alloc (Wi.lit l)) fun e u'=>e=.returned (.bool true)∧Below u.heap.size u u':=by
 have hb:Below u.heap.size u (u.alloc (Wi.lit l)):=(Below.refl _ u).alloc (Nat.le_refl _) _
 have hp:=ltp_pq u l
 obtain⟨e1,e2⟩:=bs_eq (hl.trans (ltp_bs u.heap.size l).symm)
 exact(same_q (q:=q) (r:=ltp u.heap.size l) ⟨hq.1,(hq.below hb).2.2⟩ ⟨hp.1,hp.2.2⟩ e1 (fun i hi=>e2 i (by rw[e1];exact hi))).mono fun _ _ hh=>⟨hh.1,hb.trans (hh.2.mono hb.size)⟩
end
end Wi
end Rg
end Go.Proofs.YtmcpagjhpfbpgaaGreatDoor
end
section
namespace Go.Proofs.YtmcpagjhpfbpgaaGreatDoor
open Go.RowKit
namespace Rg
namespace Wi
set_option maxRecDepth 100000
open Go.Shelf Go.Maps
def Dq.del (D:Dq) (s:ByteArray):Dq:=⟨D.d,D.mb,D.rb,D.k,D.fs.filter (fun g=>decide (g.nm≠s)),D.rf⟩
theorem lk_del {fs:List Fq} {s x:ByteArray}:lk (fs.filter (fun g=>decide (g.nm≠s))) x=if x=s then none else lk fs x:=by
 unfold lk
 by_cases e:x=s
 ·rw[if_pos e]
  refine List.find?_eq_none.2 (fun g hg hd => ?_)
  have h1:=of_decide_eq_true (List.mem_filter.1 hg).2
  have h2:=of_decide_eq_true hd
  rw[h2] at h1
  exact h1 e
 ·rw[if_neg e]
  refine find_keepM fs (fun g _ hd=>decide_eq_true ?_)
  have h2:=of_decide_eq_true hd
  rw[h2]
  exact e
theorem DOk.del {w u:World} {D:Dq} {s:ByteArray} (h:DOk w D) (hc:Chg [D.mb] w u) {X:DataW Nat} {n:Nat} (hm:u.ownsMap Tryz.prog 9 RF D.mb n X) (ha:∀ x,X.atKey (ky x) .nil=if x=s then .nil else dv (lk D.fs x)) (hh:∀ x,Maps.has X (ky x)=(!decide (x=s) && (lk D.fs x).isSome)):DOk u (D.del s):=by
 have key:∀ y∈(D.del s).fs,y∈D.fs:=fun y hy=>(List.mem_filter.1 hy).1
 have hlk:∀ x,lk (D.del s).fs x=if x=s then none else lk D.fs x:=fun x=>lk_del
 have hun:((D.del s).fs.map Fq.nm).Nodup:=(List.filter_sublist.map Fq.nm).nodup h.un
 have hh2:∀ x,Maps.has X (ky x)=(lk (D.del s).fs x).isSome:=fun x=>by
  rw[hh,hlk]
  by_cases e2:x=s
  ·rw[if_pos e2,decide_eq_true e2];rfl
  ·rw[if_neg e2,decide_eq_false e2];rfl
 have hsz:=map_size hm hh2 hun
 obtain⟨n',Y,y1,y2⟩:=h.rm
 have nin:∀ y∈D.fs,∀ x∈y.bl,x∉[D.mb]:=fun y hy x hx hq=>(h.hd y hy x hx).2.1 (List.mem_singleton.1 hq)
 refine⟨hc.mm h.cel (fun p hp hq => ?_),⟨X,hsz ▸ ownMap_tight hm,fun x => ?_,hh2,hsz⟩,⟨n',Y,zQ y1 (hc.block _ y1.lt (fun hq=>h.h3.2.2 (List.mem_singleton.1 hq).symm)),y2⟩,fun y hy=>(h.fl y (key y hy)).chg hc (nin y (key y hy)),fun y hy z hz hne x hx=>h.ap y (key y hy) z (key z hz) hne x hx,fun y hy x hx=>h.hd y (key y hy) x hx,h.h3,hun,h.k1,Nat.le_trans (List.length_filter_le _ _) h.n64⟩
 ·obtain rfl:=List.mem_singleton.1 hp
  exact h.h3.1 (List.mem_singleton.1 hq)
 ·rw[ha,hlk]
  by_cases e2:x=s
  ·rw[if_pos e2,if_pos e2];rfl
  ·rw[if_neg e2,if_neg e2]
theorem Dw.del {w u:World} {D D1:Dq} {s:ByteArray} (hd:DOk u (D1.del s)) (hc:Chg D.bl w u) (hb:∀ x∈D1.bl,x∈D.bl):Dw w D (D1.del s) u :=
 ⟨hd,hc,fun x hx=>.inl (hb x (by
  unfold Dq.bl at hx ⊢
  simp only[List.mem_cons,List.mem_flatMap] at hx ⊢
  rcases hx with e | e | e | ⟨y,hy,e⟩
  ·exact .inl e
  ·exact .inr (.inl e)
  ·exact .inr (.inr (.inl e))
  ·exact .inr (.inr (.inr ⟨y,(List.mem_filter.1 hy).1,e⟩))))⟩
theorem Remove_ok_f (D:Dq) (s:ByteArray) (hs:s.size≤maxLen) (f:Fq) (w:World) (h:DOk w D) (hk:D.k+1<4611686018427387904) (hno:D.no=false) (hl:lk D.fs s=some f) :
  Calls Tryz.prog 115 #[PT D.d 0,.string s] w fun e w'=>e=.returned (.int .i64 0)∧Dw w D (D.tick.del s) w':=by
 have hc0:Calls Tryz.prog 97 #[PT D.d 0,.string s] w fun e w'=>e=.returned (.tuple #[PT f.g 0,.int .i64 0])∧DOk w' D.tick∧Chg D.bl w w':=(counted_f D s hs w h hk).mono fun e w' hh=>⟨by rw[hh.1];unfold Dq.cnt;rw[hno,hl];rfl,hh.2⟩
 clear h
 go_enter Tryz.func115,Tryz.ntmps115
 go_wp2_with (first
  | (go_at_call 97;refine hc0.mono ?_;rintro e w1 ⟨rfl,h1,hc1⟩;have HD:Hid (DOk w1 D.tick):=h1;obtain⟨X,x1,x2,x3,cD0,hmd⟩:=ren_pre h1;have cD:w1.cell? ⟨D.d,0,none⟩=some (.map (some D.mb)):=cD0;clear cD0 h1)
  | (at_delete;refine wpList_delete_own _ rfl _ _ 59 9 rfl 120 (Maps.string_keyed Tryz.underlying9) Tryz.underlying59 RF D.mb _ X rfl x1 _ (ky s) rfl (WideMaps.keyOf_string_mk Tryz.underlying9 hs) ?_;intro w4 hown4 hturn4)
  | fail)
 go_ret
 refine⟨rfl,Dw.del (HD.out.del (Chg.grown hturn4.grown) hown4 (fun x => ?_) (fun x => ?_)) (hc1.trans (Chg.grown hturn4.grown) (fun x hx=>.inl (by rw[List.mem_singleton.1 hx];show D.mb∈D.bl;unfold Dq.bl;simp))) (fun x hx=>hx)⟩
 ·by_cases e2:x=s
  ·rw[if_pos e2,e2,Maps.atKey_del_same]
  ·rw[if_neg e2,Maps.atKey_del_other (fun e3=>e2 (ky_inj e3)),x2]
 ·by_cases e2:x=s
  ·rw[decide_eq_true e2,e2,Maps.has_del_same]
   rfl
  ·rw[decide_eq_false e2,Maps.has_del_other (fun e3=>e2 (ky_inj e3)),x3]
   rfl
theorem Remove_no_f (D:Dq) (s:ByteArray) (hs:s.size≤maxLen) (w:World) (h:DOk w D) (hk:D.k+1<4611686018427387904) (r:Int) (hr:D.cnt s=.tuple #[.pointer none,.int .i64 r]) (hr0:r≠0) :
  Calls Tryz.prog 115 #[PT D.d 0,.string s] w fun e w'=>e=.returned (.int .i64 r)∧Dw w D D.tick w':=by
 have hc0:Calls Tryz.prog 97 #[PT D.d 0,.string s] w fun e w'=>e=.returned (.tuple #[.pointer none,.int .i64 r])∧DOk w' D.tick∧Chg D.bl w w':=(counted_f D s hs w h hk).mono fun e w' hh=>⟨by rw[hh.1,hr],hh.2⟩
 clear h hr
 go_enter Tryz.func115,Tryz.ntmps115
 go_wp2_with (first
  | (go_at_call 97;refine hc0.mono ?_;rintro e w1 ⟨rfl,h1,hc1⟩;have HD:Hid (DOk w1 D.tick):=h1;clear h1)
  | fail)
 go_ret
 exact⟨rfl,HD.out,hc1,fun x hx=>.inl hx⟩
theorem Remove_f (D:Dq) (s:ByteArray) (hs:s.size≤maxLen) (w:World) (h:DOk w D) (hk:D.k+1<4611686018427387904) :
  Calls Tryz.prog 115 #[PT D.d 0,.string s] w fun e w'=>if D.no then e=.returned (.int .i64 13)∧Dw w D D.tick w' else match lk D.fs s with
   | none=>e=.returned (.int .i64 6)∧Dw w D D.tick w'
   | some _=>e=.returned (.int .i64 0)∧Dw w D (D.tick.del s) w':=by
 cases hno:D.no with
 | true=>exact(Remove_no_f D s hs w h hk 13 (by unfold Dq.cnt;rw[hno];rfl) (by decide)).mono fun _ _ hh=>by simpa using hh
 | false =>
  cases hl:lk D.fs s with
  | none=>exact(Remove_no_f D s hs w h hk 6 (by unfold Dq.cnt;rw[hno,hl];rfl) (by decide)).mono fun _ _ hh=>by simpa using hh
  | some f=>exact(Remove_ok_f D s hs f w h hk hno hl).mono fun _ _ hh=>by simpa using hh
end Wi
end Rg
end Go.Proofs.YtmcpagjhpfbpgaaGreatDoor
end
section
namespace Go.Proofs.YtmcpagjhpfbpgaaGreatDoor
open Go.RowKit
namespace Rg
namespace Wi
set_option maxRecDepth 100000
def dig (n:Nat):List UInt8:=if n<10 then [UInt8.ofNat (48+n)] else [UInt8.ofNat (48+n / 10),UInt8.ofNat (48+n % 10)]
theorem itoa_lo (n:Nat) (hn:n<10) (w:World):Calls Tryz.prog 116 #[.int .i64 (n:Int)] w fun e w'=>e=.returned (.string ⟨(dig n).toArray⟩)∧w'=w:=by
 obtain rfl | rfl | rfl | rfl | rfl | rfl | rfl | rfl | rfl | rfl:n=0∨n=1∨n=2∨n=3∨n=4∨n=5∨n=6∨n=7∨n=8∨n=9:=by omega
 all_goals (
  go_enter Tryz.func116,Tryz.ntmps116
  go_wp2_with go_in
  go_ret
  exact⟨by kernel_rfl,rfl⟩)
theorem snap_any (g:Nat) (base:ByteArray) (hb:base.size≤40) (w:World) (h:w.cell? ⟨g,1,none⟩=some (.string base)):Calls Tryz.prog 113 #[PT g 0] w fun e w'=>e=.returned (.string (base++⟨#[46,115,110,97,112]⟩))∧w'=w:=by
 go_enter Tryz.func113,Tryz.ntmps113
 go_wp2
 go_ret
 exact⟨rfl,rfl⟩
theorem dig_len (n:Nat):(dig n).length≤2:=by unfold dig;split <;> simp
theorem log_gen (g:Nat) (n:Int) (base t:ByteArray) (hb:base.size≤40) (ht:t.size≤2) (w:World) (h:w.cell? ⟨g,1,none⟩=some (.string base)) (hc:∀ u,Calls Tryz.prog 116 #[.int .i64 n] u fun e w'=>e=.returned (.string t)∧w'=u):Calls Tryz.prog 53 #[PT g 0,.int .i64 n] w (Rt w (.string (base++⟨#[46,108,111,103,46]⟩++t))):=by
 have hs:base.size+5+t.size≤9223372036854775807:=by omega
 have HC:Hid _:=hc
 clear hc
 go_enter Tryz.func53,Tryz.ntmps53
 go_wp2
 go_region_with (go_at_call 116;refine(HC.out _).mono ?_;rintro e w' ⟨rfl,hw⟩;subst hw)
 all_goals go_wp2
 all_goals (
  go_ret
  exact⟨rfl,(Below.refl _ _).drew⟩)
theorem log_any (g n:Nat) (hn:n<10) (base:ByteArray) (hb:base.size≤40) (w:World) (h:w.cell? ⟨g,1,none⟩=some (.string base)):Calls Tryz.prog 53 #[PT g 0,.int .i64 (n:Int)] w (Rt w (.string (base++⟨#[46,108,111,103,46]⟩++⟨(dig n).toArray⟩))) :=
 log_gen g n base _ hb (by show (dig n).toArray.size≤2;simpa using dig_len n) w h (itoa_lo n hn)
theorem tmp_any (g:Nat) (base:ByteArray) (hb:base.size≤40) (w:World) (h:w.cell? ⟨g,1,none⟩=some (.string base)):Calls Tryz.prog 110 #[PT g 0] w fun e w'=>e=.returned (.string (base++⟨#[46,116,109,112]⟩))∧w'=w:=by
 go_enter Tryz.func110,Tryz.ntmps110
 go_wp2
 go_ret
 exact⟨rfl,rfl⟩
theorem working_any {w0 u:World} {d:Nat} {A:Ad} {L:List Nat} (h:Da w0 d A L u):Calls Tryz.prog 55 #[PT d 0] u fun e u'=>e=.returned (.bool true)∧Below u.heap.size u u':=by
 have H:Hid (Calls Tryz.prog 100 #[PT d 0,.string ⟨#[]⟩] u fun e u'=>(∃ (v:Value) (r:Int),e=.returned (.tuple #[v,.int .i64 r])∧¬r=1)∧Below u.heap.size u u'):=(read_a h ⟨#[]⟩ (by decide)).mono fun e u' hh=>by
  obtain⟨hb,hm⟩:=hh
  refine⟨?_,hb⟩
  split at hm
  ·obtain⟨q,rfl,_⟩:=hm
   exact⟨_,_,rfl,by decide⟩
  ·obtain⟨rfl,_⟩:=hm
   exact⟨_,_,rfl,by decide⟩
 clear h
 go_enter Tryz.func55,Tryz.ntmps55
 go_wp2_with (first
  | (go_at_call 100;refine Calls.mono H.out ?_;rintro e w1 ⟨⟨v,r,rfl,hr⟩,hb⟩)
  | fail)
 go_ret
 exact⟨by show Ending.returned (.bool (r != 1))=_;simp[hr],hb⟩
theorem app_nil_new (s:ByteArray) (rf:Nat→Bool) (hr:rf 1=false):(Ad.app ⟨0,[],rf⟩ s []).1=if nmd s then 0 else 2:=by
 cases h:nmd s <;> simp[Ad.app,Ad.no,hr,h,Ad.lk]
theorem snamed_ok (s:ByteArray) (hs:s.size≤40) (w:World):Calls Tryz.prog 56 #[.string s] w (Rt w (.bool (nmd s))):=by
 have hsI:¬(40:Int)<s.size:=by omega
 have HA:Hid (∀ d u,Da w d ⟨0,[],fun _=>false⟩ [] u→Calls Tryz.prog 35 #[PT d 0,.string s,.slice none 0 0] u fun e u'=>e=.returned (.int .i64 (if nmd s then 0 else 2))∧Below w.heap.size w u'):=fun d u h =>
  (app_a h (by decide) (fun _ hf=>by cases hf) s (by omega) (nilp fun _=>0) (nilp_ok _ _) (fun x hx=>by cases hx) (by decide)).mono fun e u' hh=>⟨by rw[hh.1];congr 2;exact app_nil_new s _ rfl,hh.2.1.b⟩
 cases hn:nmd s with
 | true =>
  rw[hn] at HA
  go_enter Tryz.func56,Tryz.ntmps56
  go_wp2_with (first
   | (go_at_call 8;refine(New_nil w).mono ?_;rintro e w1 ⟨d,mb,rb,rfl,hN⟩;have H1:Hid _:=HA.out d w1 (new_a hN);clear hN)
   | (go_at_call 35;refine Calls.mono H1.out ?_;rintro e w2 ⟨rfl,hb⟩)
   | fail)
  go_ret
  exact⟨rfl,hb⟩
 | false =>
  rw[hn] at HA
  go_enter Tryz.func56,Tryz.ntmps56
  go_wp2_with (first
   | (go_at_call 8;refine(New_nil w).mono ?_;rintro e w1 ⟨d,mb,rb,rfl,hN⟩;have H1:Hid _:=HA.out d w1 (new_a hN);clear hN)
   | (go_at_call 35;refine Calls.mono H1.out ?_;rintro e w2 ⟨rfl,hb⟩)
   | fail)
  go_ret
  exact⟨rfl,hb⟩
end Wi
end Rg
end Go.Proofs.YtmcpagjhpfbpgaaGreatDoor
end
section
namespace Go.Proofs.YtmcpagjhpfbpgaaGreatDoor
open Go.RowKit
namespace Rg
namespace Wi
set_option maxRecDepth 100000
def Ad.del (A:Ad) (s:ByteArray):Ad:=⟨A.k,A.fs.filter (fun g=>decide (g.nm≠s)),A.rf⟩
def Ad.rem (A:Ad) (s:ByteArray):Int×Ad:=if A.no then (13,A.tick) else match A.lk s with
 | none=>(6,A.tick)
 | some _=>(0,A.tick.del s)
theorem rem_a {w0 u:World} {d:Nat} {A:Ad} {L:List Nat} (h:Da w0 d A L u) (hk:A.k<1000000000) (s:ByteArray) (hs:s.size≤281474976710656) :
  Calls Tryz.prog 115 #[PT d 0,.string s] u fun e u'=>e=.returned (.int .i64 (A.rem s).1)∧Da w0 d (A.rem s).2 L u'∧Kx L u u':=by
 obtain⟨D,h1,rfl,rfl,h4⟩:=h
 have hk:D.k<1000000000:=hk
 refine(Remove_f D s (Nat.le_trans hs (by decide)) u h1.dk (by omega)).mono fun e u' hh => ?_
 have hno:D.ab.no=D.no:=rfl
 unfold Ad.rem
 by_cases c1:D.no=true
 ·rw[if_pos c1] at hh
  rw[if_pos (hno.trans c1)]
  exact⟨hh.1,Da.dw h1 h4 hh.2 rfl rfl⟩
 ·rw[if_neg c1] at hh
  rw[if_neg (by rw[hno];exact c1),Dq.lk_ab]
  cases hl:lk D.fs s with
  | none =>
   rw[hl] at hh
   exact⟨hh.1,Da.dw h1 h4 hh.2 rfl rfl⟩
  | some f =>
   rw[hl] at hh
   refine⟨hh.1,Da.dw h1 h4 hh.2 rfl ?_⟩
   unfold Dq.ab Dq.del Ad.tick Ad.del Dq.tick
   simp only
   congr 1
   induction D.fs with
   | nil=>rfl
   | cons x r ih =>
    simp only[List.filter_cons,List.map_cons]
    show _=if decide (x.nm≠s)=true then _ else _
    split
    ·rw[List.map_cons,ih]
    ·exact ih
theorem str_ne {s t:ByteArray} (h:¬s=t):(s.toList == t.toList)=false:=by
 rw[ByteArray.toList_eq,ByteArray.toList_eq]
 refine Bool.eq_false_iff.2 fun e=>h (ky_inj ?_)
 show Lit.string s.data.toList=Lit.string t.data.toList
 rw[eq_of_beq e]
theorem index_any (p:Option Addr) (n c g o:Nat) (S:Nat→ByteArray) (s:ByteArray) (hn:n≤4611686018427387904) (w:World) (hp0:0<n→p=some ⟨g,o,none⟩∧g<w.heap.size) (hc0:∀ i,i<n→w.cell? ⟨g,o+i,none⟩=some (.string (S i))) :
  Calls Tryz.prog 150 #[.slice p n c,.string s] w fun e w'=>(∃ r:Int,e=.returned (.int .i64 r)∧(0≤r↔∃ i,i<n∧S i=s))∧Below w.heap.size w w':=by
 have HP:Hid _:=hp0
 have HC:Hid _:=hc0
 clear hp0 hc0
 go_enter Tryz.func150,Tryz.ntmps150
 go_wp2
 go_loopw [8] (fun v wr=>∃ i:Nat,v=.int .i64 (i:Int)∧i≤n∧(∀ j,j<i→S j≠s)∧Below w.heap.size w wr)
  (fun v _=>n - (RowKit.intOf v).toNat)
 case atStart=>exact⟨0,rfl,Nat.zero_le _,fun j hj=>absurd hj (Nat.not_lt_zero _),Below.refl _ _⟩
 case round =>
  obtain⟨i,rfl,hi,hne,hb⟩:=hrel
  by_cases hlt:i<n
  ·obtain⟨rfl,hg⟩:=HP.out (by omega)
   have hat:wr.cell? ⟨g,o+i,none⟩=some (.string (S i)):=(hb.cell (p:=⟨g,o+i,none⟩) hg).trans (HC.out i hlt)
   have hltI:(i:Int)<n:=by omega
   by_cases he:s=S i
   ·subst he
    go_wp2
    go_ret
    exact⟨⟨i,rfl,⟨fun _=>⟨i,hlt,rfl⟩,fun _=>by omega⟩⟩,hb⟩
   ·have he2:=str_ne he
    go_wp2
    all_goals first
     | (exact⟨⟨i+1,by simp,by omega,fun j hj=>by (by_cases hji:j=i);(subst hji;exact fun e=>he e.symm);(exact hne j (by omega)),hb⟩,by simp[RowKit.intOf];omega⟩)
     | (exfalso;exact he (by assumption))
  ·obtain rfl:i=n:=by omega
   go_wp2
   go_ret
   exact⟨⟨-1,rfl,by constructor;(intro h;omega);(rintro⟨j,hj,e⟩;exact absurd e (hne j hj))⟩,hb⟩
theorem contains_any (p:Option Addr) (n c g o:Nat) (S:Nat→ByteArray) (s:ByteArray) (hn:n≤4611686018427387904) (w:World) (hp0:0<n→p=some ⟨g,o,none⟩∧g<w.heap.size) (hc0:∀ i,i<n→w.cell? ⟨g,o+i,none⟩=some (.string (S i))) (b:Bool) (hb0:b=true↔∃ i,i<n∧S i=s) :
  Calls Tryz.prog 114 #[.slice p n c,.string s] w (Rt w (.bool b)):=by
 have HI:Hid (Calls Tryz.prog 150 #[.slice p n c,.string s] w fun e w'=>(∃ r:Int,e=.returned (.int .i64 r)∧decide (0≤r)=b)∧Below w.heap.size w w'):=(index_any p n c g o S s hn w hp0 hc0).mono fun e w' hh=>by
  obtain⟨⟨r,rfl,hr⟩,hb⟩:=hh
  refine⟨⟨r,rfl,?_⟩,hb⟩
  cases b with
  | true=>exact decide_eq_true (hr.2 (hb0.1 rfl))
  | false=>exact decide_eq_false fun e=>by have:=hb0.2 (hr.1 e);cases this
 clear hp0 hc0 hb0
 go_enter Tryz.func114,Tryz.ntmps114
 go_wp2_with (first
  | (go_at_call 150;refine Calls.mono HI.out ?_;rintro e w1 ⟨⟨r,rfl,hr⟩,hb⟩;have HR:Hid _:=hr;clear hr)
  | fail)
 go_ret
 exact⟨by show Ending.returned (.bool (decide (0≤r)))=_;rw[HR.out],hb⟩
theorem names_a {w0 u:World} {d:Nat} {A:Ad} {L:List Nat} (h:Da w0 d A L u) :
  Calls Tryz.prog 25 #[PT d 0] u fun e u'=>∃ (p:Option Addr) (n c g:Nat) (S:Nat→ByteArray),e=.returned (.slice p n c)∧(0<n→p=some ⟨g,0,none⟩∧g<u'.heap.size)∧(∀ i,i<n→u'.cell? ⟨g,0+i,none⟩=some (.string (S i)))∧n≤64∧Below u.heap.size u u'∧∀ s,(A.lk s).isSome=true↔∃ i,i<n∧S i=s:=by
 obtain⟨D,h1,rfl,rfl,h4⟩:=h
 refine(Names_f D u h1.dk).mono fun e u' hh => ?_
 obtain⟨v,ss,rfl,hp,hr,hv,hb⟩:=hh
 generalize hL:ss.mergeSort (fun x y=>decide (x≤y))=l at hr
 have hpl:l.Perm (D.fs.map fun f=>f.nm.data.toList):=by rw[← hL];exact(List.mergeSort_perm _ _).trans hp
 have hlen:ss.length=l.length:=by rw[← hL,List.length_mergeSort]
 rw[hlen] at hr
 have h64:l.length≤64:=by rw[hpl.length_eq,List.length_map];exact h1.dk.n64
 have hmem:∀ s:ByteArray,(D.ab.lk s).isSome=true↔∃ i,i<l.length∧(⟨(l.getD i []).toArray⟩:ByteArray)=s:=fun s=>by
  rw[Dq.lk_ab,Option.isSome_map]
  have e1:(lk D.fs s).isSome=true↔s.data.toList∈l:=by
   rw[hpl.mem_iff]
   unfold lk
   rw[List.find?_isSome]
   constructor
   ·rintro⟨f,hf,e⟩
    exact List.mem_map.2 ⟨f,hf,by rw[of_decide_eq_true e]⟩
   ·intro hm
    obtain⟨f,hf,e⟩:=List.mem_map.1 hm
    exact⟨f,hf,decide_eq_true (ky_inj (show Lit.string f.nm.data.toList=Lit.string s.data.toList by rw[e]))⟩
  rw[e1,List.mem_iff_getElem]
  constructor
  ·rintro⟨i,hi,e⟩
   refine⟨i,hi,?_⟩
   rw[List.getD_eq_getElem?_getD,List.getElem?_eq_getElem hi,Option.getD_some,e]
  ·rintro⟨i,hi,e⟩
   refine⟨i,hi,?_⟩
   rw[List.getD_eq_getElem?_getD,List.getElem?_eq_getElem hi,Option.getD_some] at e
   rw[← e]
 rcases hr.2 with ⟨e0,h0⟩ | ⟨g,cap,cur,e0,hg,_⟩
 ·subst e0
  exact⟨none,0,0,0,fun i=>⟨(l.getD i []).toArray⟩,rfl,fun h=>absurd h (by decide),fun i hi=>absurd hi (Nat.not_lt_zero _),by decide,hb,fun s=>by rw[hmem s,h0]⟩
 ·subst e0
  refine⟨_,l.length,cap,g,fun i=>⟨(l.getD i []).toArray⟩,rfl,fun _=>⟨rfl,(World.ownsRow.lt hr g rfl).2⟩,fun i hi => ?_,h64,hb,hmem⟩
  have:=World.ownsRow.cells hr (g:=g) rfl i (.string ⟨(l.getD i []).toArray⟩) (by
   rw[List.getElem?_map,List.getElem?_eq_getElem hi,List.getD_eq_getElem?_getD,List.getElem?_eq_getElem hi]
   rfl)
  rw[show (⟨g,0,none⟩:Addr).add i=⟨g,0+i,none⟩ by unfold Addr.add;split <;> simp_all] at this
  exact this
def Ad.rma (A:Ad) (s:ByteArray):Int×Ad:=match A.lk s with
 | none=>(0,A)
 | some _=>A.rem s
theorem rma_a {w0 u:World} {d g:Nat} {A:Ad} {L:List Nat} (h:Da w0 d A L u) (hk:A.k<1000000000) (hg:g∈L) (hcd:u.cell? ⟨g,0,none⟩=some (PT d 0)) (s:ByteArray) (hs:s.size≤281474976710656) :
  Calls Tryz.prog 52 #[PT g 0,.string s] u fun e u'=>e=.returned (.int .i64 (A.rma s).1)∧Da w0 d (A.rma s).2 L u'∧Kx L u u':=by
 have H:Hid _:=h
 have hgl:g<u.heap.size:=by obtain⟨D,_,_,_,h4⟩:=h;exact(h4 g hg).1
 clear h
 unfold Ad.rma
 cases hl:A.lk s with
 | none =>
  go_enter Tryz.func52,Tryz.ntmps52
  go_wp2_with (first
   | (go_at_call 25;refine(names_a H.out).mono ?_;rintro e w1 ⟨p,n,c,gn,S,rfl,hp,hc,hn,hb,hS⟩;have HS:Hid _:=hS;have HC:Hid _:=hc;have HPp:Hid _:=hp;clear hS hc hp)
   | (go_at_call 114;refine(contains_any p n c gn 0 S s (by omega) w1 HPp.out HC.out false (by rw[← HS.out s,hl];rfl)).mono ?_;rintro e w2 ⟨rfl,hb2⟩)
   | fail)
  go_ret
  exact⟨rfl,Da.step H.out (zR _ _ hb hb2),Da.kx H.out (zR _ _ hb hb2)⟩
 | some f =>
  go_enter Tryz.func52,Tryz.ntmps52
  go_wp2_with (first
   | (go_at_call 25;refine(names_a H.out).mono ?_;rintro e w1 ⟨p,n,c,gn,S,rfl,hp,hc,hn,hb,hS⟩;have HS:Hid _:=hS;have HC:Hid _:=hc;have HPp:Hid _:=hp;clear hS hc hp)
   | (go_at_call 114;refine(contains_any p n c gn 0 S s (by omega) w1 HPp.out HC.out true (by rw[← HS.out s,hl];rfl)).mono ?_;rintro e w2 ⟨rfl,hb2⟩;have hcd2:=((zR _ _ hb hb2).cell (p:=⟨g,0,none⟩) hgl).trans hcd)
   | (go_at_call 115;refine(rem_a (Da.step H.out (zR _ _ hb hb2)) hk s hs).mono ?_;rintro e w3 ⟨rfl,h3,k3⟩)
   | fail)
  go_ret
  exact⟨rfl,h3,(Da.kx H.out (zR _ _ hb hb2)).trans k3⟩
end Wi
end Rg
end Go.Proofs.YtmcpagjhpfbpgaaGreatDoor
end
section
namespace Go.Proofs.YtmcpagjhpfbpgaaGreatDoor
open Go.RowKit
namespace Rg
namespace Wi
set_option maxRecDepth 100000
open Go.Shelf Go.Maps
def RB:Value→Option (DataW Nat×List MemPlace)
 | .slice (some ⟨g,0,none⟩) n c=>some (.agg [.held g,.lit (.int .i64 ((n:Nat):Int)),.lit (.int .i64 ((c:Nat):Int))],[])
 | .slice none 0 0=>some (.agg [],[])
 | _=>none
def rbv (v:Value):DataW Nat:=match RB v with
 | some z=>z.1
 | none=>.nil
theorem RB_own {w:World} {B n:Nat} {v:Value} {xs:List Value} (h:w.ownsRow B 5 1 v n xs):RB v=some (rbv v,[]):=by
 rcases h.2 with ⟨rfl,_⟩ | ⟨g,cap,cur,rfl,_⟩
 ·rfl
 ·rfl
theorem RB_inj {v v':Value} {z:DataW Nat} {ps ps':List MemPlace} (h:RB v=some (z,ps)) (h':RB v'=some (z,ps')):v=v':=by
 unfold RB at h h'
 split at h <;> split at h' <;> simp at h h' <;> (try (obtain⟨h1,_⟩:=h;obtain⟨h2,_⟩:=h';rw[← h1] at h2;simp at h2;try (obtain⟨rfl,h3,h4⟩:=h2;have:_:=Int.ofNat.inj h3;simp_all)))
 all_goals (first | rfl | omega | (simp_all;done))
structure Vq where
 v:Value
 n:Nat
 P:Nat→Nat
def vdt:Option Vq→DataW Nat
 | some x=>rbv x.v
 | none=>.agg []
def vvl:Option Vq→Value
 | some x=>x.v
 | none=>.slice none 0 0
def vn:Option Vq→Nat
 | some x=>x.n
 | none=>0
def vp:Option Vq→Nat→Nat
 | some x=>x.P
 | none=>fun _=>0
structure Vm (w:World) (mv:Nat) (V:ByteArray→Option Vq) (N:Nat):Prop where
 mp:∃ X,w.ownsMap Tryz.prog 9 RB mv N X∧(∀ s,X.atKey (ky s) (.agg [])=vdt (V s))∧(∀ s,Maps.has X (ky s)=(V s).isSome)∧Maps.size X=N
 ow:∀ s x,V s=some x→w.ownsRow 0 5 1 x.v x.n (zN .u8 x.P x.n)
 nb:∀ s x,V s=some x→mv∉vbl x.v
section
variable {w u:World} {mv N:Nat} {V:ByteArray→Option Vq}
theorem Vm.lt (h:Vm w mv V N):mv<w.heap.size:=by obtain⟨X,h1,_⟩:=h.mp;exact h1.lt
theorem Vm.keep (h:Vm w mv V N) (hm:u.heap[mv]?=w.heap[mv]?) (hv:∀ s x,V s=some x→∀ b∈vbl x.v,u.heap[b]?=w.heap[b]?):Vm u mv V N:=by
 obtain⟨X,h1,h2⟩:=h.mp
 exact⟨⟨X,zQ h1 hm,h2⟩,fun s x hx=>own_keep (h.ow s x hx) (hv s x hx),h.nb⟩
theorem Vm.below (h:Vm w mv V N) (hb:Below w.heap.size w u):Vm u mv V N:=h.keep (hb.block _ h.lt) fun s x hx b hm=>hb.block b (own_lt (h.ow s x hx) b hm)
theorem rb_vvl (h:Vm w mv V N) (s:ByteArray):RB (vvl (V s))=some (vdt (V s),[]):=by
 cases hv:V s with
 | none=>rfl
 | some x=>exact RB_own (h.ow s x hv)
theorem Vm.look (h:Vm w mv V N) (s:ByteArray) (hs:s.size≤maxLen):(Instr.lookup 46 (.map (some mv)) (.string s) false).run Tryz.prog w=.ok (vvl (V s)) w:=by
 obtain⟨X,h1,h2,_⟩:=h.mp
 obtain⟨v,ps,hr,hv⟩:=h1.lookup (Maps.string_keyed Tryz.underlying9) Tryz.underlying46 (z:=.slice none 0 0) (by kernel_rfl) (zd:=.agg []) (zp:=[]) rfl (WideMaps.keyOf_string_mk Tryz.underlying9 hs)
 rw[hr,RB_inj (hv.trans (by rw[show X.atKey (Lit.string s.data.toList) (.agg [])=vdt (V s) from h2 s])) (rb_vvl h s)]
theorem Vm.lookok (h:Vm w mv V N) (s:ByteArray) (hs:s.size≤maxLen):(Instr.lookup 46 (.map (some mv)) (.string s) true).run Tryz.prog w=.ok (.tuple #[vvl (V s),.bool (V s).isSome]) w:=by
 obtain⟨X,h1,h2,h3,_⟩:=h.mp
 obtain⟨v,ps,hr,hv⟩:=h1.look_ok (Maps.string_keyed Tryz.underlying9) Tryz.underlying46 (z:=.slice none 0 0) (by kernel_rfl) (zd:=.agg []) (zp:=[]) rfl (WideMaps.keyOf_string_mk Tryz.underlying9 hs)
 rw[hr,RB_inj (hv.trans (by rw[show X.atKey (Lit.string s.data.toList) (.agg [])=vdt (V s) from h2 s])) (rb_vvl h s),show Maps.has X (Lit.string s.data.toList)=(V s).isSome from h3 s]
def vput (V:ByteArray→Option Vq) (s:ByteArray) (x:Vq):ByteArray→Option Vq:=fun t=>if t=s then some x else V t
def vdel (V:ByteArray→Option Vq) (s:ByteArray):ByteArray→Option Vq:=fun t=>if t=s then none else V t
theorem Vm.put (h:Vm w mv V N) (s:ByteArray) (hs:s.size≤maxLen) (hN:N<maxLen) (x:Vq) (hx:w.ownsRow 0 5 1 x.v x.n (zN .u8 x.P x.n)) (hb:mv∉vbl x.v):∃ u,(Instr.mapUpdate 46 (.map (some mv)) (.string s) x.v).run Tryz.prog w=.ok () u∧Vm u mv (vput V s x) (if (V s).isSome then N else N+1)∧w.grownBy u (some mv):=by
 obtain⟨X,h1,h2,h3,h4⟩:=h.mp
 obtain⟨u,hr,hm,hg⟩:=h1.update (Maps.string_keyed Tryz.underlying9) Tryz.underlying46 hN (WideMaps.keyOf_string_mk Tryz.underlying9 hs) (RB_own hx)
 have hc:Chg [mv] w u:=Chg.grown hg
 have hsz:Maps.size (X.put (Lit.string s.data.toList) (rbv x.v))=if (V s).isSome then N else N+1:=by
  rw[Maps.size_put (h1.tidy (Maps.string_keyed Tryz.underlying9)),show Maps.has X (Lit.string s.data.toList)=(V s).isSome from h3 s,h4]
 refine⟨u,hr,⟨⟨_,hsz ▸ ownMap_tight hm,fun t => ?_,fun t => ?_,hsz⟩,fun t y hy => ?_,fun t y hy => ?_⟩,hg⟩
 ·unfold vput
  by_cases e:t=s
  ·subst e
   rw[if_pos rfl]
   exact Maps.atKey_put_same h1.isMap (ky_lit t) _ _
  ·rw[if_neg e,← h2 t]
   exact Maps.atKey_put_other (fun e2=>e (ky_inj e2)) _ _
 ·unfold vput
  by_cases e:t=s
  ·subst e
   rw[if_pos rfl]
   exact Maps.has_put_same h1.isMap (ky_lit t) _
  ·rw[if_neg e,← h3 t]
   exact Maps.has_put_other (fun e2=>e (ky_inj e2)) _
 ·unfold vput at hy
  split at hy
  ·obtain rfl:=Option.some.inj hy
   exact own_keep hx fun b hm=>hc.block b (own_lt hx b hm) fun hq=>hb (by rw[List.mem_singleton.1 hq] at hm;exact hm)
  ·have:=h.ow t y hy
   exact own_keep this fun b hm=>hc.block b (own_lt this b hm) fun hq=>h.nb t y hy (by rw[List.mem_singleton.1 hq] at hm;exact hm)
 ·unfold vput at hy
  split at hy
  ·obtain rfl:=Option.some.inj hy
   exact hb
  ·exact h.nb t y hy
theorem Vm.del (h:Vm w mv V N) (s:ByteArray) {n:Nat} {X:DataW Nat} (h1:w.ownsMap Tryz.prog 9 RB mv n X) (h2:∀ s,X.atKey (ky s) (.agg [])=vdt (V s)) (h3:∀ s,Maps.has X (ky s)=(V s).isSome) (h4:Maps.size X=N) (hm:u.ownsMap Tryz.prog 9 RB mv n (X.del (ky s))) (hg:w.grownBy u (some mv)):Vm u mv (vdel V s) (if (V s).isSome then N - 1 else N):=by
 have hc:Chg [mv] w u:=Chg.grown hg
 have hsz:Maps.size (X.del (ky s))=if (V s).isSome then N - 1 else N:=by
  have e:=Maps.size_del (h1.tidy (Maps.string_keyed Tryz.underlying9)) (k:=ky s)
  rw[h3 s,h4] at e
  split
  ·rename_i hh
   rw[if_pos hh] at e
   omega
  ·rename_i hh
   rw[if_neg hh] at e
   omega
 refine⟨⟨_,hsz ▸ ownMap_tight hm,fun t => ?_,fun t => ?_,hsz⟩,fun t y hy => ?_,fun t y hy => ?_⟩
 ·unfold vdel
  by_cases e:t=s
  ·rw[if_pos e,e,Maps.atKey_del_same]
   rfl
  ·rw[if_neg e,Maps.atKey_del_other (fun e3=>e (ky_inj e3)),h2]
 ·unfold vdel
  by_cases e:t=s
  ·rw[if_pos e,e,Maps.has_del_same]
   rfl
  ·rw[if_neg e,Maps.has_del_other (fun e3=>e (ky_inj e3)),h3]
 ·unfold vdel at hy
  split at hy
  ·cases hy
  ·have:=h.ow t y hy
   exact own_keep this fun b hm=>hc.block b (own_lt this b hm) fun hq=>h.nb t y hy (by rw[List.mem_singleton.1 hq] at hm;exact hm)
 ·unfold vdel at hy
  split at hy
  ·cases hy
  ·exact h.nb t y hy
theorem Vm.len (h:Vm w mv V N) (ty:TypeId):(Builtin.len_ #[46] ty #[.map (some mv)]).run Tryz.prog w=.ok (.int .i64 ((N:Nat):Int)) w:=by
 obtain⟨X,x1,_,_,x4⟩:=h.mp
 have e:=x1.len Tryz.underlying46 ty
 rw[x4] at e
 exact e
theorem Vm.start (w:World):Vm (w.alloc (.map #[] 0)) w.heap.size (fun _=>none) 0 :=
 ⟨⟨_,World.ownsMap_made _ _ _ _,fun _=>rfl,fun _=>rfl,rfl⟩,(fun _ _ h=>by cases h),(fun _ _ h=>by cases h)⟩
end
theorem smade_j (g j:Nat) (w:World) (h:w.cell? ⟨g,2,none⟩=some (PT j 0)):Calls Tryz.prog 42 #[PT g 0] w fun e w'=>e=.returned (.bool true)∧w'=w:=by
 go_enter Tryz.func42,Tryz.ntmps42
 go_wp2
 go_ret
 exact⟨rfl,rfl⟩
theorem sgen_any (g j:Nat) (n:Int) (w:World) (h:w.cell? ⟨g,2,none⟩=some (PT j 0)) (h3:w.cell? ⟨g,3,none⟩=some (.int .i64 n)):Calls Tryz.prog 18 #[PT g 0] w fun e w'=>e=.returned (.int .i64 n)∧w'=w:=by
 go_enter Tryz.func18,Tryz.ntmps18
 go_wp2_with (first
  | (go_at_call 42;refine(smade_j g j _ h).mono ?_;rintro e w1 ⟨rfl,rfl⟩)
  | fail)
 go_ret
 exact⟨rfl,rfl⟩
theorem sget_any (g j mv N:Nat) (V:ByteArray→Option Vq) (s:ByteArray) (hs:s.size≤maxLen) (w:World) (h:w.cell? ⟨g,2,none⟩=some (PT j 0)) (h4:w.cell? ⟨g,4,none⟩=some (.map (some mv))) (hv:Vm w mv V N) (hn:∀ x,V s=some x→x.n≤2097152) :
  Calls Tryz.prog 12 #[PT g 0,.string s] w fun e w'=>∃ v,e=.returned (.tuple #[v,.bool (V s).isSome])∧Cw w v (vn (V s)) (vp (V s)) w':=by
 have hl:=hv.lookok s hs
 have HV:Hid _:=hv
 have HC:Hid (Calls Tryz.prog 43 #[vvl (V s)] w fun e w'=>∃ v,e=.returned v∧Cw w v (vn (V s)) (vp (V s)) w'):=by
  cases hx:V s with
  | none =>
   refine(bclone_any (nilp fun _=>0) (by decide) w (nilp_ok _ w).1 (nilp_ok _ w).2.1 (nilp_ok _ w).2.2).mono fun e w' hh => ?_
   obtain⟨v,e1,e2⟩:=hh
   exact⟨v,e1,e2⟩
  | some x =>
   obtain⟨q,q0,q1,q2,q3,q4,q5,_⟩:=own_part (hv.ow s x hx)
   show Calls Tryz.prog 43 #[x.v] w _
   rw[q0]
   refine(bclone_any q (by rw[q3];exact hn x hx) w q1 q2 q5).mono fun e w' hh => ?_
   obtain⟨v,e1,e2⟩:=hh
   exact⟨v,e1,by rw[q3,q4] at e2;exact e2⟩
 clear hv hn
 go_enter Tryz.func12,Tryz.ntmps12
 go_wp2_with (first
  | (go_at_call 42;refine(smade_j g j _ h).mono ?_;rintro e w1 ⟨rfl,rfl⟩)
  | (go_at_call 43;refine Calls.mono HC.out ?_;rintro e w2 ⟨v,rfl,hcw⟩)
  | fail)
 go_ret2
 exact⟨v,rfl,hcw⟩
theorem slen_any (g j mv N:Nat) (V:ByteArray→Option Vq) (w:World) (h:w.cell? ⟨g,2,none⟩=some (PT j 0)) (h4:w.cell? ⟨g,4,none⟩=some (.map (some mv))) (hv:Vm w mv V N) :
  Calls Tryz.prog 17 #[PT g 0] w fun e w'=>e=.returned (.int .i64 ((N:Nat):Int))∧w'=w:=by
 have HV:Hid _:=hv
 clear hv
 go_enter Tryz.func17,Tryz.ntmps17
 go_wp2_with (first
  | (go_at_call 42;refine(smade_j g j _ h).mono ?_;rintro e w1 ⟨rfl,rfl⟩)
  | fail)
 rw[Vm.len HV.out,Result.andThen_ok]
 go_wp2
 go_ret
 exact⟨rfl,rfl⟩
end Wi
end Rg
end Go.Proofs.YtmcpagjhpfbpgaaGreatDoor
end
section
namespace Go.Proofs.YtmcpagjhpfbpgaaGreatDoor
open Go.RowKit
namespace Rg
namespace Wi
set_option maxRecDepth 100000
structure Cq where
 k:ByteArray
 q:Pt8
 gn:Bool
def Cq.cells (c:Cq):List Value:=[.string c.k,.slice c.q.p c.q.n c.q.cp,.bool c.gn]
def Cq.fit (c:Cq):Int:=if c.k.size=0∨(c.gn=true∧0<c.q.n) then 2 else if 128<c.k.size∨8192<c.q.n then 3 else 0
theorem str_nil {s:ByteArray} (h:s.size=0):s=⟨#[]⟩:=by
 apply ByteArray.ext
 exact Array.eq_empty_of_size_eq_zero h
theorem fits_any (c:Cq) (w:World):Calls Tryz.prog 103 #[.agg c.cells.toArray] w (Rt w (.int .i64 c.fit)):=by
 obtain⟨k,q,gn⟩:=c
 have hB:=(Below.refl w.heap.size w).alloc (Nat.le_refl _) (.cells #[.string k,.slice q.p q.n q.cp,.bool gn] 65)
 unfold Cq.fit Cq.cells
 dsimp only
 go_enter Tryz.func103,Tryz.ntmps103
 by_cases h0:k.size=0
 ·obtain rfl:=str_nil h0
  rw[if_pos (.inl rfl)]
  go_wp2
  go_ret
  exact⟨rfl,hB⟩
 ·have hk:k.toList.isEmpty=false:=by
   rw[ByteArray.toList_eq]
   refine Bool.eq_false_iff.2 fun e=>h0 ?_
   have e2:=List.isEmpty_iff.1 e
   show k.data.size=0
   rw[← Array.length_toList,e2]
   rfl
  have hkI:¬(k.size:Int)=0:=by omega
  by_cases h1:gn=true∧0<q.n
  ·rw[if_pos (.inr h1)]
   obtain⟨rfl,h2⟩:=h1
   have h2I:(0:Int)<q.n:=by omega
   go_wp2
   go_ret
   exact⟨rfl,hB⟩
  ·rw[if_neg (fun e=>e.elim h0 h1)]
   by_cases h3:128<k.size
   ·rw[if_pos (.inl h3)]
    have h3I:(128:Int)<k.size:=by omega
    cases gn with
    | true =>
     have h4:¬(0:Int)<q.n:=fun e=>h1 ⟨rfl,by omega⟩
     go_wp2
     go_ret
     exact⟨rfl,hB⟩
    | false =>
     go_wp2
     go_ret
     exact⟨rfl,hB⟩
   ·have h3I:¬(128:Int)<k.size:=by omega
    by_cases h5:8192<q.n
    ·rw[if_pos (.inr h5)]
     have h5I:(8192:Int)<q.n:=by omega
     cases gn with
     | true=>exact absurd ⟨rfl,by omega⟩ h1
     | false =>
      go_wp2
      go_ret
      exact⟨rfl,hB⟩
    ·rw[if_neg (fun e=>e.elim h3 h5)]
     have h5I:¬(8192:Int)<q.n:=by omega
     cases gn with
     | true =>
      have h4:¬(0:Int)<q.n:=fun e=>h1 ⟨rfl,by omega⟩
      go_wp2
      go_ret
      exact⟨rfl,hB⟩
     | false =>
      go_wp2
      go_ret
      exact⟨rfl,hB⟩
structure Cl (p:Option Addr) (g o m:Nat) (C:Nat→Cq) (u:World):Prop where
 p:0<m→p=some ⟨g,o,none⟩
 lt:0<m→g<u.heap.size
 a0:∀ i,i<m→u.cell? ⟨g,o+i*3,none⟩=some (.string (C i).k)
 a1:∀ i,i<m→u.cell? ⟨g,o+i*3+1,none⟩=some (.slice (C i).q.p (C i).q.n (C i).q.cp)
 a2:∀ i,i<m→u.cell? ⟨g,o+i*3+2,none⟩=some (.bool (C i).gn)
theorem Cl.below {p:Option Addr} {g o m:Nat} {C:Nat→Cq} {u u':World} (h:Cl p g o m C u) (hb:Below u.heap.size u u'):Cl p g o m C u' :=
 ⟨h.p,fun h0=>Nat.lt_of_lt_of_le (h.lt h0) hb.size,fun i hi=>(hb.cell (p:=⟨g,_,none⟩) (h.lt (by omega))).trans (h.a0 i hi),fun i hi=>(hb.cell (p:=⟨g,_,none⟩) (h.lt (by omega))).trans (h.a1 i hi),fun i hi=>(hb.cell (p:=⟨g,_,none⟩) (h.lt (by omega))).trans (h.a2 i hi)⟩
theorem bounded_long (p:Option Addr) (m c:Nat) (hm:64<m) (w:World):Calls Tryz.prog 44 #[.slice p m c] w (Rt w (.int .i64 3)):=by
 have hmI:(64:Int)<m:=by omega
 go_enter Tryz.func44,Tryz.ntmps44
 go_wp2
 go_ret
 exact⟨rfl,Below.refl _ _⟩
def ferr (C:Nat→Cq):Nat→Int
 | 0=>0
 | i+1=>if ferr C i=0 then (C i).fit else ferr C i
theorem ferr_mono (C:Nat→Cq) {i m:Nat} {r:Int} (hi:i≤m) (h:ferr C i=r) (hr:¬r=0):ferr C m=r:=by
 induction m with
 | zero =>
  obtain rfl:i=0:=by omega
  exact h
 | succ m ih =>
  by_cases e:i=m+1
  ·subst e;exact h
  ·have:=ih (by omega)
   show (if ferr C m=0 then _ else ferr C m)=r
   rw[if_neg (by rw[this];exact hr),this]
theorem bounded_any (p:Option Addr) (m c g o:Nat) (C:Nat→Cq) (hm:m≤64) (w:World) (hl:Cl p g o m C w):Calls Tryz.prog 44 #[.slice p m c] w (Rt w (.int .i64 (ferr C m))):=by
 have hmI:¬(64:Int)<m:=by omega
 have HL:Hid _:=hl
 clear hl
 go_enter Tryz.func44,Tryz.ntmps44
 go_wp2
 go_loopw [11] (fun v wr=>∃ i:Nat,v=.int .i64 (i:Int)∧i≤m∧Hid (ferr C i=0)∧Below w.heap.size w wr)
  (fun v _=>m - (RowKit.intOf v).toNat)
 case atStart=>exact⟨0,rfl,Nat.zero_le _,rfl,Below.refl _ _⟩
 case round =>
  obtain⟨i,rfl,hi,h0,hb⟩:=hrel
  by_cases hlt:i<m
  ·have hL:=HL.out.below hb
   have hp:=hL.p (by omega)
   have c0:=hL.a0 i hlt
   have c1:=hL.a1 i hlt
   have c2:=hL.a2 i hlt
   have hltI:(i:Int)<m:=by omega
   subst hp
   clear hL
   have hba:Hid (Below w.heap.size w (wr.alloc (.cells #[.string (C i).k,.slice (C i).q.p (C i).q.n (C i).q.cp,.bool (C i).gn] 65))):=zR _ _ hb ((Below.refl _ wr).alloc (Nat.le_refl _) _)
   have hstep:Hid (ferr C (i+1)=(C i).fit):=show (if ferr C i=0 then (C i).fit else ferr C i)=_ by rw[if_pos h0.out]
   by_cases hf:(C i).fit=0
   ·have HF:Hid (Calls Tryz.prog 103 #[.agg (C i).cells.toArray] (wr.alloc (.cells #[.string (C i).k,.slice (C i).q.p (C i).q.n (C i).q.cp,.bool (C i).gn] 65)) (Rt w (.int .i64 0))):=(fits_any (C i) _).mono fun _ _ hh=>⟨by rw[hh.1,hf],zR _ _ hba.out hh.2⟩
    have h0n:Hid (ferr C (i+1)=0):=hstep.out.trans hf
    clear hf
    go_wp2_with (first
     | (go_at_call 103;refine Calls.mono HF.out ?_;rintro e w1 ⟨rfl,hb1⟩)
     | fail)
    go_roundw
    case rel=>exact⟨i+1,by simp,by omega,h0n,hb1⟩
    case measure=>simp[RowKit.intOf];omega
   ·obtain⟨r,hr⟩:∃ r,r=(C i).fit:=⟨_,rfl⟩
    have hr0:¬r=0:=by rw[hr];exact hf
    have HF:Hid (Calls Tryz.prog 103 #[.agg (C i).cells.toArray] (wr.alloc (.cells #[.string (C i).k,.slice (C i).q.p (C i).q.n (C i).q.cp,.bool (C i).gn] 65)) (Rt w (.int .i64 r))):=(fits_any (C i) _).mono fun _ _ hh=>⟨by rw[hh.1,hr],zR _ _ hba.out hh.2⟩
    have hmm:Hid (ferr C m=r):=ferr_mono C (by omega) (hstep.out.trans hr.symm) hr0
    clear hf hr
    go_wp2_with (first
     | (go_at_call 103;refine Calls.mono HF.out ?_;rintro e w1 ⟨rfl,hb1⟩)
     | fail)
    go_ret
    exact⟨by rw[hmm.out];rfl,hb1⟩
  ·obtain rfl:i=m:=by omega
   go_wp2
   go_ret
   exact⟨by rw[h0.out];rfl,hb⟩
end Wi
end Rg
end Go.Proofs.YtmcpagjhpfbpgaaGreatDoor
end
section
namespace Go.Proofs.YtmcpagjhpfbpgaaGreatDoor
open Go.RowKit
namespace Rg
namespace Wi
set_option maxRecDepth 100000
theorem ssync_any (g j:Nat) (r:Int) (I:World→Prop) (w:World) (h:w.cell? ⟨g,2,none⟩=some (PT j 0)) (hs:Calls Tryz.prog 49 #[PT j 0] w fun e w'=>e=.returned (.int .i64 r)∧I w'):Calls Tryz.prog 14 #[PT g 0] w fun e w'=>e=.returned (.int .i64 r)∧I w':=by
 have HS:Hid _:=hs
 clear hs
 go_enter Tryz.func14,Tryz.ntmps14
 go_wp2_with (first
  | (go_at_call 42;refine(smade_j g j _ h).mono ?_;rintro e w1 ⟨rfl,rfl⟩)
  | (go_at_call 49;refine Calls.mono HS.out ?_;rintro e w2 ⟨rfl,hI⟩)
  | fail)
 go_ret
 exact⟨rfl,hI⟩
theorem scommit_bad (g j:Nat) (lv:Value) (r:Int) (hr:¬r=0) (I:World→Prop) (w:World) (h:w.cell? ⟨g,2,none⟩=some (PT j 0)) (hb:Calls Tryz.prog 44 #[lv] w fun e w'=>e=.returned (.int .i64 r)∧I w'):Calls Tryz.prog 13 #[PT g 0,lv] w fun e w'=>e=.returned (.int .i64 r)∧I w':=by
 have HB:Hid _:=hb
 clear hb
 go_enter Tryz.func13,Tryz.ntmps13
 go_wp2_with (first
  | (go_at_call 42;refine(smade_j g j _ h).mono ?_;rintro e w1 ⟨rfl,rfl⟩)
  | (go_at_call 44;refine Calls.mono HB.out ?_;rintro e w2 ⟨rfl,hI⟩)
  | fail)
 go_ret
 exact⟨rfl,hI⟩
theorem scommit_ok (g j:Nat) (lv:Value) (I1 I2 I4 I5:World→Prop) (I3:Value→World→Prop) (w:World) (h:w.cell? ⟨g,2,none⟩=some (PT j 0))
  (hb:Calls Tryz.prog 44 #[lv] w fun e w'=>e=.returned (.int .i64 0)∧I1 w')
  (hc:∀ u,I1 u→Calls Tryz.prog 45 #[PT g 0,lv] u fun e w'=>(∃ n:Int,e=.returned (.int .i64 n)∧¬4096<n)∧I2 w')
  (hr:∀ u,I2 u→Calls Tryz.prog 46 #[lv] u fun e w'=>∃ v,e=.returned (.tuple #[v,.int .i64 0])∧I3 v w')
  (hl:∀ v u,I3 v u→u.cell? ⟨g,2,none⟩=some (PT j 0))
  (ha:∀ v u,I3 v u→Calls Tryz.prog 47 #[PT j 0,v] u fun e w'=>e=.returned (.int .i64 0)∧I4 w')
  (hd:∀ u,I4 u→Calls Tryz.prog 48 #[PT g 0,lv] u fun e w'=>e=.returned (.tuple #[])∧I5 w') :
  Calls Tryz.prog 13 #[PT g 0,lv] w fun e w'=>e=.returned (.int .i64 0)∧I5 w':=by
 have HB:Hid _:=hb
 have HC:Hid _:=hc
 have HR:Hid _:=hr
 have HL:Hid _:=hl
 have HA:Hid _:=ha
 have HD:Hid _:=hd
 clear hb hc hr hl ha hd
 go_enter Tryz.func13,Tryz.ntmps13
 go_wp2_with (first
  | (go_at_call 42;refine(smade_j g j _ h).mono ?_;rintro e w1 ⟨rfl,rfl⟩)
  | (go_at_call 44;refine Calls.mono HB.out ?_;rintro e w2 ⟨rfl,h2⟩)
  | (go_at_call 45;refine Calls.mono (HC.out w2 h2) ?_;rintro e w3 ⟨⟨n,rfl,hn⟩,h3⟩)
  | (go_at_call 46;refine Calls.mono (HR.out w3 h3) ?_;rintro e w4 ⟨v,rfl,h4⟩;have c4:=HL.out v w4 h4)
  | (go_at_call 47;refine Calls.mono (HA.out v w4 h4) ?_;rintro e w5 ⟨rfl,h5⟩)
  | (go_at_call 48;refine Calls.mono (HD.out w5 h5) ?_;rintro e w6 ⟨rfl,h6⟩)
  | fail)
 go_ret
 exact⟨rfl,h6⟩
theorem scommit_app (g j:Nat) (lv:Value) (r:Int) (hr0:¬r=0) (I1 I2 I4:World→Prop) (I3:Value→World→Prop) (w:World) (h:w.cell? ⟨g,2,none⟩=some (PT j 0))
  (hb:Calls Tryz.prog 44 #[lv] w fun e w'=>e=.returned (.int .i64 0)∧I1 w')
  (hc:∀ u,I1 u→Calls Tryz.prog 45 #[PT g 0,lv] u fun e w'=>(∃ n:Int,e=.returned (.int .i64 n)∧¬4096<n)∧I2 w')
  (hr:∀ u,I2 u→Calls Tryz.prog 46 #[lv] u fun e w'=>∃ v,e=.returned (.tuple #[v,.int .i64 0])∧I3 v w')
  (hl:∀ v u,I3 v u→u.cell? ⟨g,2,none⟩=some (PT j 0))
  (ha:∀ v u,I3 v u→Calls Tryz.prog 47 #[PT j 0,v] u fun e w'=>e=.returned (.int .i64 r)∧I4 w') :
  Calls Tryz.prog 13 #[PT g 0,lv] w fun e w'=>e=.returned (.int .i64 r)∧I4 w':=by
 have HB:Hid _:=hb
 have HC:Hid _:=hc
 have HR:Hid _:=hr
 have HL:Hid _:=hl
 have HA:Hid _:=ha
 clear hb hc hr hl ha
 go_enter Tryz.func13,Tryz.ntmps13
 go_wp2_with (first
  | (go_at_call 42;refine(smade_j g j _ h).mono ?_;rintro e w1 ⟨rfl,rfl⟩)
  | (go_at_call 44;refine Calls.mono HB.out ?_;rintro e w2 ⟨rfl,h2⟩)
  | (go_at_call 45;refine Calls.mono (HC.out w2 h2) ?_;rintro e w3 ⟨⟨n,rfl,hn⟩,h3⟩)
  | (go_at_call 46;refine Calls.mono (HR.out w3 h3) ?_;rintro e w4 ⟨v,rfl,h4⟩;have c4:=HL.out v w4 h4)
  | (go_at_call 47;refine Calls.mono (HA.out v w4 h4) ?_;rintro e w5 ⟨rfl,h5⟩)
  | fail)
 go_ret
 exact⟨rfl,h5⟩
end Wi
end Rg
end Go.Proofs.YtmcpagjhpfbpgaaGreatDoor
end
section
namespace Go.Proofs.YtmcpagjhpfbpgaaGreatDoor
open Go.RowKit
namespace Rg
namespace Wi
set_option maxRecDepth 100000
theorem sopen_arg (d:Nat) (s:ByteArray) (w:World) (hw:Calls Tryz.prog 55 #[PT d 0] w (Rt w (.bool true))) (hn:∀ u,Below w.heap.size w u→Calls Tryz.prog 56 #[.string s] u fun e w'=>e=.returned (.bool false)∧Below u.heap.size u w') :
  Calls Tryz.prog 19 #[PT d 0,.string s] w (Rt w (.tuple #[.pointer none,.int .i64 2])):=by
 have HW:Hid _:=hw
 have HN:Hid _:=hn
 clear hw hn
 go_enter Tryz.func19,Tryz.ntmps19
 go_wp2_with (first
  | (go_at_call 55;refine Calls.mono HW.out ?_;rintro e w1 ⟨rfl,hb1⟩)
  | (go_at_call 56;refine Calls.mono (HN.out w1 hb1) ?_;rintro e w2 ⟨rfl,hb2⟩)
  | fail)
 go_ret2
 exact⟨rfl,zR _ _ hb1 hb2⟩
theorem mk46 (u:World):(Instr.makeMap 46 none).run Tryz.prog u=.ok (.map (some u.heap.size)) (u.alloc (.map #[] 0)):=by
 simp[run_makeMap]
abbrev opw (u:World) (d:Nat) (s:ByteArray):World:=((u.alloc (.map #[] 0)).alloc (.cells #[PT d 0,.string s,.pointer none,.int .i64 0,.map (some u.heap.size)] 48)).alloc (.cells #[PT (u.heap.size+1) 0] 33)
abbrev sdo (n:Nat):Value:=.func (.func 58) #[] #[.pointer (some ⟨n+1+1,0,none⟩)]
theorem sopen_ok (d:Nat) (s:ByteArray) (hs:s.size≤40) (I1 I2:Nat→World→Prop) (w:World) (hw:Calls Tryz.prog 55 #[PT d 0] w (Rt w (.bool true))) (hn:∀ u,Below w.heap.size w u→Calls Tryz.prog 56 #[.string s] u fun e w'=>e=.returned (.bool true)∧Below u.heap.size u w')
  (hck:∀ u,Below w.heap.size w u→Calls Tryz.prog 59 #[PT (u.heap.size+1) 0,sdo u.heap.size] (opw u d s) fun e u'=>e=.returned (.int .i64 0)∧u'.cell? ⟨u.heap.size+1+1,0,none⟩=some (PT (u.heap.size+1) 0)∧I1 u.heap.size u')
  (hlg:∀ n u,I1 n u→Calls Tryz.prog 60 #[PT (n+1) 0,sdo n] u fun e u'=>e=.returned (.int .i64 0)∧u'.cell? ⟨n+1+1,0,none⟩=some (PT (n+1) 0)∧I2 n u') :
  Calls Tryz.prog 19 #[PT d 0,.string s] w fun e w'=>∃ n,e=.returned (.tuple #[PT (n+1) 0,.int .i64 0])∧I2 n w':=by
 have HW:Hid _:=hw
 have HN:Hid _:=hn
 have HC:Hid _:=hck
 have HG:Hid _:=hlg
 clear hw hn hck hlg
 go_enter Tryz.func19,Tryz.ntmps19
 go_wp2_with (first
  | (go_at_call 55;refine Calls.mono HW.out ?_;rintro e w1 ⟨rfl,hb1⟩)
  | (go_at_call 56;refine Calls.mono (HN.out w1 hb1) ?_;rintro e w2 ⟨rfl,hb2⟩)
  | (go_at_call 57;refine(sclone_any s (by omega) w2).mono ?_;rintro e w3 ⟨rfl,hb3⟩;have hb:Hid (Below w.heap.size w w3):=zR _ _ (zR _ _ hb1 hb2) hb3)
  | fail)
 rw[mk46,Result.andThen_ok]
 go_wp2_with (first
  | (go_at_call 59;refine Calls.mono (HC.out w3 hb.out) ?_;rintro e w4 ⟨rfl,c4,h4⟩)
  | (go_at_call 60;refine Calls.mono (HG.out w3.heap.size w4 h4) ?_;rintro e w5 ⟨rfl,c5,h5⟩)
  | fail)
 go_ret2
 exact⟨w3.heap.size,rfl,h5⟩
theorem sopen_log (r:Int) (hr:¬r=0) (d:Nat) (s:ByteArray) (hs:s.size≤40) (I1 I2:Nat→World→Prop) (w:World) (hw:Calls Tryz.prog 55 #[PT d 0] w (Rt w (.bool true))) (hn:∀ u,Below w.heap.size w u→Calls Tryz.prog 56 #[.string s] u fun e w'=>e=.returned (.bool true)∧Below u.heap.size u w')
  (hck:∀ u,Below w.heap.size w u→Calls Tryz.prog 59 #[PT (u.heap.size+1) 0,sdo u.heap.size] (opw u d s) fun e u'=>e=.returned (.int .i64 0)∧u'.cell? ⟨u.heap.size+1+1,0,none⟩=some (PT (u.heap.size+1) 0)∧I1 u.heap.size u')
  (hlg:∀ n u,I1 n u→Calls Tryz.prog 60 #[PT (n+1) 0,sdo n] u fun e u'=>e=.returned (.int .i64 r)∧u'.cell? ⟨n+1+1,0,none⟩=some (PT (n+1) 0)∧I2 n u') :
  Calls Tryz.prog 19 #[PT d 0,.string s] w fun e w'=>∃ n,e=.returned (.tuple #[.pointer none,.int .i64 r])∧I2 n w':=by
 have HW:Hid _:=hw
 have HN:Hid _:=hn
 have HC:Hid _:=hck
 have HG:Hid _:=hlg
 clear hw hn hck hlg
 go_enter Tryz.func19,Tryz.ntmps19
 go_wp2_with (first
  | (go_at_call 55;refine Calls.mono HW.out ?_;rintro e w1 ⟨rfl,hb1⟩)
  | (go_at_call 56;refine Calls.mono (HN.out w1 hb1) ?_;rintro e w2 ⟨rfl,hb2⟩)
  | (go_at_call 57;refine(sclone_any s (by omega) w2).mono ?_;rintro e w3 ⟨rfl,hb3⟩;have hb:Hid (Below w.heap.size w w3):=zR _ _ (zR _ _ hb1 hb2) hb3)
  | fail)
 rw[mk46,Result.andThen_ok]
 go_wp2_with (first
  | (go_at_call 59;refine Calls.mono (HC.out w3 hb.out) ?_;rintro e w4 ⟨rfl,c4,h4⟩)
  | (go_at_call 60;refine Calls.mono (HG.out w3.heap.size w4 h4) ?_;rintro e w5 ⟨rfl,c5,h5⟩)
  | fail)
 go_ret2
 exact⟨w3.heap.size,rfl,h5⟩
end Wi
end Rg
end Go.Proofs.YtmcpagjhpfbpgaaGreatDoor
end
section
namespace Go.Proofs.YtmcpagjhpfbpgaaGreatDoor
open Go.RowKit
namespace Rg
namespace Wi
set_option maxRecDepth 100000
abbrev nsnap (base:ByteArray):ByteArray:=base++⟨#[46,115,110,97,112]⟩
theorem nsnap_sz {base:ByteArray} (h:base.size≤40):(nsnap base).size≤281474976710656:=by
 have e:(nsnap base).size=base.size+5:=by
  show (base++_).size=_
  rw[ByteArray.size_append]
  rfl
 omega
theorem rchk_gen (g d:Nat) (base:ByteArray) (hs:base.size≤40) (fv:Value) (w:World) (c0:w.cell? ⟨g,0,none⟩=some (PT d 0)) (c1:w.cell? ⟨g,1,none⟩=some (.string base))
  (hr:∀ u,Below w.heap.size w u→Calls Tryz.prog 100 #[PT d 0,.string (nsnap base)] u fun e u'=>e=.returned (.tuple #[.slice none 0 0,.int .i64 6])∧Below u.heap.size u u') :
  Calls Tryz.prog 59 #[PT g 0,fv] w (Rt w (.int .i64 0)):=by
 have HR:Hid _:=hr
 clear hr
 have c1d:w.drew.cell? ⟨g,1,none⟩=some (.string base):=c1
 have HB:Hid (Below w.heap.size w w.drew):=(Below.refl _ w).drew
 go_enter Tryz.func59,Tryz.ntmps59
 go_wp2
 go_region_with (first
  | (go_at_call 113;refine(snap_any g base hs w.drew c1d).mono ?_;rintro e w1 ⟨rfl,hw⟩;subst hw)
  | (go_at_call 100;refine Calls.mono (HR.out w.drew HB.out) ?_;rintro e w2 ⟨rfl,hb2⟩))
 all_goals go_wp2
 all_goals (
  go_ret
  exact⟨rfl,zR _ _ HB.out hb2⟩)
theorem rchk_none {w0 u:World} {g d:Nat} {A:Ad} {L:List Nat} (base:ByteArray) (hs:base.size≤40) (fv:Value) (h:Da w0 d A L u) (c0:u.cell? ⟨g,0,none⟩=some (PT d 0)) (c1:u.cell? ⟨g,1,none⟩=some (.string base)) (hl:A.lk (nsnap base)=none) :
  Calls Tryz.prog 59 #[PT g 0,fv] u fun e u'=>e=.returned (.int .i64 0)∧Below u.heap.size u u' :=
 rchk_gen g d base hs fv u c0 c1 fun u1 hb=>(read_a (h.step hb) (nsnap base) (nsnap_sz hs)).mono fun e u' hh=>by
  rw[hl] at hh
  exact⟨hh.2.1,hh.1⟩
end Wi
end Rg
end Go.Proofs.YtmcpagjhpfbpgaaGreatDoor
end
section
namespace Go.Proofs.YtmcpagjhpfbpgaaGreatDoor
open Go.RowKit
namespace Rg
namespace Wi
set_option maxRecDepth 100000
def lA (P:Nat→Pt8):Nat→Nat
 | 0=>0
 | k+1=>lA P k+(8+(P k).n+4)
def lF (P:Nat→Pt8):Nat→Nat→Nat
 | 0=>fun _=>0
 | k+1=>ct (lF P k) (lA P k) (frm (P k).f (P k).n)
theorem ct_lo {P Q:Nat→Nat} {n j:Nat} (h:j<n):ct P n Q j=P j:=if_pos h
theorem ct_hi (P Q:Nat→Nat) (n j:Nat):ct P n Q (n+j)=Q j:=by
 unfold ct
 rw[if_neg (by omega),Nat.add_sub_cancel_left]
section
variable {f:Nat→Nat} {n:Nat}
theorem frm_len {j:Nat} (h:j<4):frm f n j=by4 n j:=by
 unfold frm
 rw[ct_lo (by omega),ct_lo (by omega)]
 exact ct_lo h
theorem frm_chk {j:Nat} (h:j<4):frm f n (4+j)=by4 (crc (by4 n) 4) j:=by
 unfold frm
 rw[ct_lo (by omega),ct_lo (by omega)]
 exact ct_hi _ _ _ _
theorem frm_rec {j:Nat} (h:j<n):frm f n (8+j)=f j:=by
 unfold frm
 rw[ct_lo (by omega),ct_hi]
theorem frm_end (j:Nat):frm f n (8+n+j)=by4 (crc f n) j:=by
 unfold frm
 exact ct_hi _ _ _ _
theorem crc4 (n:Nat):crc (by4 n) 4<4294967296:=crc_lt _ _
theorem frm_hd {g:Nat→Nat} (hn:n≤65536) (h:∀ j,j<8→g j=frm f n j):Hdk g n:=by
 have e:∀ j,j<4→g j=by4 n j:=fun j hj=>(h j (by omega)).trans (frm_len hj)
 have e2:∀ j,j<4→g (4+j)=by4 (crc (by4 n) 4) j:=fun j hj=>(h (4+j) (by omega)).trans (frm_chk hj)
 refine⟨?_,hn,?_⟩
 ·rw[e 0 (by decide),e 1 (by decide),e 2 (by decide),e 3 (by decide)]
  exact nb4_by4 (by omega)
 ·rw[show g 4=_ from e2 0 (by decide),show g 5=_ from e2 1 (by decide),show g 6=_ from e2 2 (by decide),show g 7=_ from e2 3 (by decide),nb4_by4 (crc4 n)]
  exact crc_cg e
theorem frm_bd {g:Nat→Nat} (h:∀ j,j<8+n+4→g j=frm f n j):Bdk g n:=by
 have e:∀ j,j<4→g (8+n+j)=by4 (crc f n) j:=fun j hj=>(h _ (by omega)).trans (frm_end j)
 unfold Bdk
 rw[show g (8+n)=_ from e 0 (by decide),show g (8+n+1)=_ from e 1 (by decide),show g (8+n+2)=_ from e 2 (by decide),show g (8+n+3)=_ from e 3 (by decide),nb4_by4 (crc_lt _ _)]
 exact crc_cg (fun j hj=>(h (8+j) (by omega)).trans (frm_rec hj))
end
theorem lA_mono (P:Nat→Pt8):∀ {i m:Nat},i≤m→lA P i≤lA P m
 | i,0,h=>by rw[show i=0 by omega];exact Nat.le_refl _
 | i,m+1,h=>by
  by_cases e:i=m+1
  ·rw[e];exact Nat.le_refl _
  ·have:=lA_mono P (i:=i) (m:=m) (by omega)
   show _≤lA P m+(8+(P m).n+4)
   omega
theorem lF_at (P:Nat→Pt8):∀ {m i j:Nat},i<m→j<8+(P i).n+4→lF P m (lA P i+j)=frm (P i).f (P i).n j
 | 0,_,_,h,_=>absurd h (Nat.not_lt_zero _)
 | m+1,i,j,h,hj=>by
  show ct (lF P m) (lA P m) (frm (P m).f (P m).n) (lA P i+j)=_
  by_cases e:i=m
  ·subst e
   exact ct_hi _ _ _ _
  ·have h1:lA P (i+1)≤lA P m:=lA_mono P (by omega)
   have h2:lA P (i+1)=lA P i+(8+(P i).n+4):=rfl
   rw[ct_lo (by omega)]
   exact lF_at P (by omega) hj
theorem log_good {P:Nat→Pt8} {F:Nat→Nat} {n m:Nat} (hF:∀ j,j<lA P m→F j=lF P m j) (hn:lA P m≤n) (hP:∀ i,i<m→(P i).n≤65536):Lgk F n (lA P) (fun i=>(P i).n) m:=by
 have key:∀ i,i<m→∀ j,j<8+(P i).n+4→sh F (lA P i) j=frm (P i).f (P i).n j:=fun i hi j hj=>by
  have h1:lA P (i+1)≤lA P m:=lA_mono P (by omega)
  have h2:lA P (i+1)=lA P i+(8+(P i).n+4):=rfl
  show F (lA P i+j)=_
  rw[hF _ (by omega)]
  exact lF_at P hi hj
 exact⟨rfl,fun i _=>by show lA P i+(8+(P i).n+4)=lA P i+(12+(P i).n);omega,hn,fun i hi=>frm_hd (hP i hi) (fun j hj=>key i hi j (by omega)),fun i hi=>frm_bd (key i hi)⟩
theorem log_torn {P:Nat→Pt8} {m t:Nat} (q:Pt8) (hq:q.n≤65536) (ht:t<8+q.n+4):∀ F,(∀ j,j<lA P m+t→F j=ct (lF P m) (lA P m) (frm q.f q.n) j)→lA P m+t<lA P m+8∨∃ L,lA P m+8≤lA P m+t∧lA P m+t<lA P m+8+L+4∧Hdk (sh F (lA P m)) L:=fun F hF=>by
 by_cases h:t<8
 ·exact .inl (by omega)
 ·refine .inr ⟨q.n,by omega,by omega,frm_hd (f:=q.f) hq (fun j hj => ?_)⟩
  show F (lA P m+j)=_
  rw[hF _ (by omega)]
  exact ct_hi _ _ _ _
end Wi
end Rg
end Go.Proofs.YtmcpagjhpfbpgaaGreatDoor
end
section
namespace Go.Proofs.YtmcpagjhpfbpgaaGreatDoor
open Go.RowKit
namespace Rg
namespace Wi
set_option maxRecDepth 100000
structure JOk (w0:World) (j:Nat) (D:Dq) (s:ByteArray) (c z:Nat) (u:World):Prop where
 b:Below w0.heap.size w0 u
 cel:Mm u [(j,jc D.d s c z)]
 dk:DOk u D
 lo:w0.heap.size≤j∧∀ x∈D.bl,w0.heap.size≤x
 ap:j∉D.bl
section
variable {w0 u u':World} {j c z:Nat} {D:Dq} {s:ByteArray}
theorem JOk.step (h:JOk w0 j D s c z u) (hb:Below u.heap.size u u'):JOk w0 j D s c z u':=⟨zR _ _ h.b hb,h.cel.below hb,h.dk.below hb,h.lo,h.ap⟩
theorem JOk.lt (h:JOk w0 j D s c z u):j<u.heap.size:=(h.cel.blk _ (List.mem_cons_self ..)).1
end
theorem Pw.up {w u u':World} {n:Nat} {f:Nat→Nat} {q:Pt8} (hb:Below w.heap.size w u) (h:Pw u n f q u'):Pw w n f q u':=⟨zR _ _ hb h.b,h.ok,h.no,h.rs,h.n,h.f,fun h0=>Nat.le_trans hb.size (h.gb h0)⟩
theorem jcontent_u (D:Dq) (s:ByteArray) (hs:s.size≤281474976710656) (hn:nmd s=true) {u:World} (h:DOk u D):∀ u1,Below u.heap.size u u1→Calls Tryz.prog 147 #[PT D.d 0,.string s] u1 fun e u'=>∃ q:Pt8,e=.returned (.tuple #[.slice q.p q.n q.cp,.int .i64 0])∧Pw u (cnN (lk D.fs s)) (cnC (lk D.fs s)) q u':=fun u1 hb =>
 (jcontent_f D s hs hn u1 (h.below hb)).mono fun e u' hh=>by
  obtain⟨q,e1,e2⟩:=hh
  exact⟨q,e1,e2.up hb⟩
theorem Nw.lo {w u:World} {d mb rb m:Nat} {rf:Nat→Bool} (h:Nw w d mb rb rf m u):∀ x∈Dq.bl ⟨d,mb,rb,0,[],rf⟩,w.heap.size≤x:=fun x hx=>by
 have h1:=h.two.nm
 have h2:=h.nr
 have h3:=h.nd
 have:x=d∨x=mb∨x=rb:=by simpa [Dq.bl] using hx
 omega
section
variable {w0 u:World} {j c z:Nat} {D:Dq} {s:ByteArray}
theorem JOk.dw {u1 u2:World} {D':Dq} (h:JOk w0 j D s c z u) (hb:Below u.heap.size u u1) (hw:Dw u1 D D' u2) (hd:D'.d=D.d):JOk w0 j D' s c z u2∧u1.heap.size≤u2.heap.size∧u2.heap[j]?=u1.heap[j]?:=by
 have h1:=h.step hb
 have hbk:=hw.2.1.block j h1.lt h1.ap
 refine⟨⟨h1.b.trans (hw.2.1.toBelow h1.lo.2 h1.b.size),by rw[hd];exact Mm.keep1 h1.cel hw.2.1.size hbk,hw.1,⟨h1.lo.1,fun x hx=>(hw.2.2 x hx).elim (h1.lo.2 x) (Nat.le_trans h1.b.size)⟩,fun hx=>(hw.2.2 j hx).elim h1.ap (fun e=>absurd h1.lt (Nat.not_lt.2 e))⟩,hw.2.1.size,hbk⟩
theorem JOk.put {c' z':Nat} (h:JOk w0 j D s c z u) (off:Nat) (vs:List Value) (hm:Mm (u.setCells j off vs) [(j,jc D.d s c' z')]):JOk w0 j D s c' z' (u.setCells j off vs) :=
 ⟨below_setCells j h.lo.1 vs off u h.b,hm,h.dk.chg (L:=[j]) ((Chg.refl _ _).put (.inl (List.mem_cons_self ..))) (fun x hx=>by rw[List.mem_singleton.1 hx];exact h.ap),h.lo,h.ap⟩
structure JDk (w0:World) (j:Nat) (D:Dq) (u:World):Prop where
 b:Below w0.heap.size w0 u
 dk:DOk u D
 lo:w0.heap.size≤j∧∀ x∈D.bl,w0.heap.size≤x
 ap:j∉D.bl
theorem JDk.step {u':World} (h:JDk w0 j D u) (hb:Below u.heap.size u u'):JDk w0 j D u':=⟨zR _ _ h.b hb,h.dk.below hb,h.lo,h.ap⟩
theorem JDk.put (h:JDk w0 j D u) (off:Nat) (vs:List Value):JDk w0 j D (u.setCells j off vs) :=
 ⟨below_setCells j h.lo.1 vs off u h.b,h.dk.chg (L:=[j]) ((Chg.refl _ _).put (.inl (List.mem_cons_self ..))) (fun x hx=>by rw[List.mem_singleton.1 hx];exact h.ap),h.lo,h.ap⟩
end
end Wi
end Rg
end Go.Proofs.YtmcpagjhpfbpgaaGreatDoor
end
section
namespace Go.Proofs.YtmcpagjhpfbpgaaGreatDoor
open Go.RowKit
namespace Rg
namespace Wi
set_option maxRecDepth 100000
def fr (b:List Nat):List Nat:=bs (8+b.length+4) (frm (fun i=>b.getD i 0) b.length)
def fl (rs:List (List Nat)):List Nat:=(rs.map fr).flatten
theorem bs_getD (b:List Nat):bs b.length (fun i=>b.getD i 0)=b:=by
 refine List.ext_getElem? fun i => ?_
 by_cases h:i<b.length
 ·rw[bs_get _ h,List.getD_eq_getElem?_getD,List.getElem?_eq_getElem h,Option.getD_some]
 ·rw[List.getElem?_eq_none (by rw[bs_len];omega),List.getElem?_eq_none (by omega)]
theorem bs_D {n i:Nat} (f:Nat→Nat) (h:i<n):(bs n f).getD i 0=f i:=by
 rw[List.getD_eq_getElem?_getD,bs_get f h,Option.getD_some]
theorem frm_cg {f g:Nat→Nat} {n:Nat} (h:∀ j,j<n→f j=g j):∀ j,j<8+n+4→frm f n j=frm g n j:=fun j hj=>by
 unfold frm
 rw[crc_cg h]
 by_cases h1:j<8+n
 ·rw[ct_lo h1,ct_lo h1]
  by_cases h2:j<8
  ·rw[ct_lo h2,ct_lo h2]
  ·rw[show j=8+(j - 8) by omega,ct_hi,ct_hi]
   exact h _ (by omega)
 ·rw[show j=(8+n)+(j - (8+n)) by omega,ct_hi,ct_hi]
theorem fr_bs (n:Nat) (f:Nat→Nat):bs (8+n+4) (frm f n)=fr (bs n f):=by
 unfold fr
 rw[bs_len]
 exact bs_cg (frm_cg fun j hj=>(bs_D f hj).symm)
theorem fr_len (b:List Nat):(fr b).length=8+b.length+4:=bs_len _ _
theorem fl_snoc (rs:List (List Nat)) (b:List Nat):fl (rs++[b])=fl rs++fr b:=by
 unfold fl
 simp
def rp (rs:List (List Nat)) (i:Nat):Pt8:=⟨0,0,(rs.getD i []).length,0,none,fun j=>(rs.getD i []).getD j 0⟩
theorem take_snoc {α:Type} (rs:List α) (d:α) {k:Nat} (h:k<rs.length):rs.take (k+1)=rs.take k++[rs.getD k d]:=by
 rw[List.take_add_one,List.getElem?_eq_getElem h,List.getD_eq_getElem?_getD,List.getElem?_eq_getElem h]
 rfl
theorem rp_A (rs:List (List Nat)):∀ k,k≤rs.length→lA (rp rs) k=(fl (rs.take k)).length
 | 0,_=>rfl
 | k+1,h=>by
  rw[take_snoc rs [] (by omega),fl_snoc,List.length_append,fr_len,← rp_A rs k (by omega)]
  rfl
theorem rp_F (rs:List (List Nat)):∀ k,k≤rs.length→bs (lA (rp rs) k) (lF (rp rs) k)=fl (rs.take k)
 | 0,_=>rfl
 | k+1,h=>by
  rw[take_snoc rs [] (by omega),fl_snoc,← rp_F rs k (by omega)]
  show bs (lA (rp rs) k+(8+(rs.getD k []).length+4)) (ct (lF (rp rs) k) (lA (rp rs) k) (frm (rp rs k).f (rp rs k).n))=_
  rw[bs_ct (Nat.le_refl _),List.take_of_length_le (by rw[bs_len];exact Nat.le_refl _)]
  rfl
theorem rp_all (rs:List (List Nat)):lA (rp rs) rs.length=(fl rs).length:=by
 have:=rp_A rs rs.length (Nat.le_refl _)
 rwa [List.take_length] at this
theorem rp_allF (rs:List (List Nat)):bs (lA (rp rs) rs.length) (lF (rp rs) rs.length)=fl rs:=by
 have:=rp_F rs rs.length (Nat.le_refl _)
 rwa [List.take_length] at this
def Torn (t:List Nat):Prop:=t=[]∨∃ b:List Nat,b.length≤65536∧t.length<(fr b).length∧t <+: fr b
theorem bs_pre {n m:Nat} {f g:Nat→Nat} (h:bs n f <+: bs m g):∀ i,i<n→f i=g i:=fun i hi=>by
 have h1:=h.length_le
 rw[bs_len,bs_len] at h1
 obtain⟨t,ht⟩:=h
 have:=congrArg (fun l=>l[i]?) ht
 simp only[List.getElem?_append_left (show i<(bs n f).length by rw[bs_len];exact hi),bs_get f hi,bs_get g (show i<m by omega)] at this
 exact Option.some.inj this
theorem log_of {rs:List (List Nat)} {t:List Nat} {n:Nat} {F:Nat→Nat} (h:bs n F=fl rs++t) (hr:∀ r∈rs,r.length≤65536) (ht:Torn t):Lgk F n (lA (rp rs)) (fun i=>(rp rs i).n) rs.length∧End F n (lA (rp rs)) rs.length∧n=(fl rs).length+t.length:=by
 have hn:n=(fl rs).length+t.length:=by have:=congrArg List.length h;rwa [bs_len,List.length_append] at this
 have hA:=rp_all rs
 have e1:bs (lA (rp rs) rs.length) (lF (rp rs) rs.length) <+: bs n F:=by rw[rp_allF,h];exact List.prefix_append _ _
 refine⟨log_good (fun j hj=>(bs_pre e1 j hj).symm) (by omega) (fun i hi => ?_),?_,hn⟩
 ·show (rs.getD i []).length≤_
  rw[List.getD_eq_getElem?_getD,List.getElem?_eq_getElem hi,Option.getD_some]
  exact hr _ (List.getElem_mem hi)
 ·rcases ht with e | ⟨b,b1,b2,b3⟩
  ·subst e
   exact .inl (by rw[List.length_nil] at hn;omega)
  ·rw[fr_len] at b2
   have e2:bs n F <+: bs (lA (rp rs) rs.length+(8+b.length+4)) (ct (lF (rp rs) rs.length) (lA (rp rs) rs.length) (frm (fun i=>b.getD i 0) b.length)):=by
    rw[bs_ct (Nat.le_refl _),List.take_of_length_le (by rw[bs_len];exact Nat.le_refl _),rp_allF,h]
    exact(List.prefix_append_right_inj _).2 b3
   have e3:=log_torn (P:=rp rs) (m:=rs.length) (t:=t.length) ⟨0,0,b.length,0,none,fun i=>b.getD i 0⟩ b1 b2 F fun j hj=>bs_pre e2 j (by omega)
   rw[hn,← hA]
   exact e3
theorem log_rec {rs:List (List Nat)} {t:List Nat} {n:Nat} {F:Nat→Nat} (h:bs n F=fl rs++t) {i:Nat} (hi:i<rs.length):∀ k,k<(rp rs i).n→F (lA (rp rs) i+8+k)=(rp rs i).f k:=fun k hk=>by
 have hn:n=(fl rs).length+t.length:=by have:=congrArg List.length h;rwa [bs_len,List.length_append] at this
 have hA:=rp_all rs
 have e1:bs (lA (rp rs) rs.length) (lF (rp rs) rs.length) <+: bs n F:=by rw[rp_allF,h];exact List.prefix_append _ _
 have h1:lA (rp rs) (i+1)≤lA (rp rs) rs.length:=lA_mono _ (by omega)
 have h2:lA (rp rs) (i+1)=lA (rp rs) i+(8+(rp rs i).n+4):=rfl
 rw[← bs_pre e1 _ (by omega),Nat.add_assoc,lF_at _ hi (by omega),frm_rec hk]
theorem rp_bs (rs:List (List Nat)) (i:Nat):bs (rp rs i).n (rp rs i).f=rs.getD i []:=bs_getD _
def Ad.ct (A:Ad) (s:ByteArray):List Nat:=match A.lk s with
 | some f=>f.cn
 | none=>[]
theorem Dq.ct_ab {w:World} {D:Dq} (h:DOk w D) (s:ByteArray):bs (cnN (Wi.lk D.fs s)) (cnC (Wi.lk D.fs s))=D.ab.ct s:=by
 unfold Ad.ct
 rw[Dq.lk_ab]
 cases hl:Wi.lk D.fs s with
 | none=>rfl
 | some f=>exact Fq.cn_ab (h.fl f (lk_mem hl).1)
section
variable {w0 u:World} {d:Nat} {A:Ad} {L:List Nat}
theorem jopen_a (h:Da w0 d A L u) (s:ByteArray) (hs:s.size≤281474976710656) (hn:nmd s=true) (rs:List (List Nat)) (hr:∀ r∈rs,r.length≤65536) (hc:A.ct s=fl rs) (hN:(fl rs).length≤1048576) :
  Calls Tryz.prog 111 #[PT d 0,.string s] u fun e u'=>∃ j v P B,e=.returned (.tuple #[PT j 0,v,.int .i64 0])∧Mm u' [(j,jc d s rs.length (fl rs).length)]∧Below u.heap.size u u'∧Lq B v rs.length P u'∧u.heap.size≤j∧j<B∧∀ i,i<rs.length→bs (P i).n (P i).f=rs.getD i []:=by
 obtain⟨D,h1,rfl,rfl,h4⟩:=h
 have hb:=Dq.ct_ab h1.dk s
 rw[hc] at hb
 have hb':bs (cnN (lk D.fs s)) (cnC (lk D.fs s))=fl rs++[]:=by rw[hb,List.append_nil]
 obtain⟨l1,l2,l3⟩:=log_of hb' hr (.inl rfl)
 rw[List.length_nil,Nat.add_zero] at l3
 refine(jopen_whole D.d s hs (cnN (lk D.fs s)) (cnC (lk D.fs s)) (lA (rp rs)) (fun i=>(rp rs i).n) rs.length (by omega) (by rw[rp_all];exact l3.symm) u (jcontent_u D s hs hn h1.dk) l1 l2).mono fun e u' hh => ?_
 obtain⟨j,v,P,B,e1,e2,e3,e4,e5,e6,e7⟩:=hh
 refine⟨j,v,P,B,e1,by rw[rp_all] at e2;exact e2,e3,e4,e5,e6,fun i hi => ?_⟩
 obtain⟨f1,f2⟩:=e7 i hi
 rw[← rp_bs rs i,f1]
 exact bs_cg fun k hk=>(f2 k hk).trans (log_rec hb' hi k hk)
end
end Wi
end Rg
end Go.Proofs.YtmcpagjhpfbpgaaGreatDoor
end
section
namespace Go.Proofs.YtmcpagjhpfbpgaaGreatDoor
open Go.RowKit
namespace Rg
namespace Wi
set_option maxRecDepth 100000
section
variable {w0 u u':World} {d j c z:Nat} {A:Ad} {L:List Nat} {s:ByteArray}
theorem Da.chg {M:List Nat} (h:Da w0 d A L u) (hc:Chg M u u') (hM:∀ x∈M,x∈L) (hlo:∀ x∈M,w0.heap.size≤x):Da w0 d A L u':=by
 obtain⟨D,h1,h2,h3,h4⟩:=h
 exact⟨D,⟨h1.b.trans (hc.toBelow hlo h1.b.size),h1.dk.chg hc fun x hx=>(h4 x (hM x hx)).2,h1.lo⟩,h2,h3,fun x hx=>⟨Nat.lt_of_lt_of_le (h4 x hx).1 hc.size,(h4 x hx).2⟩⟩
theorem Da.fresh (h:Da w0 d A L u) (hc:Chg L u u') (hlo:∀ x∈L,w0.heap.size≤x) (M:List Nat) (hM:∀ x∈M,x∈L∨(u.heap.size≤x∧x<u'.heap.size)):Da w0 d A M u':=by
 have h':=h.chg hc (fun _ hx=>hx) hlo
 obtain⟨D,h1,h2,h3,h4⟩:=h
 refine⟨D,⟨h1.b.trans (hc.toBelow hlo h1.b.size),h1.dk.chg hc fun x hx=>(h4 x hx).2,h1.lo⟩,h2,h3,fun x hx => ?_⟩
 rcases hM x hx with e | ⟨e1,e2⟩
 ·exact⟨Nat.lt_of_lt_of_le (h4 x e).1 hc.size,(h4 x e).2⟩
 ·exact⟨e2,fun hm=>absurd (h1.dk.blt x hm) (Nat.not_lt.2 e1)⟩
theorem Da.lt (h:Da w0 d A L u) {x:Nat} (hx:x∈L):x<u.heap.size:=by
 obtain⟨D,_,_,_,h4⟩:=h
 exact(h4 x hx).1
theorem put_chg (j:Nat) (off:Nat) (vs:List Value):Chg [j] u (u.setCells j off vs):=(Chg.refl _ _).put (.inl (List.mem_cons_self ..))
theorem Da.jput (h:Da w0 d A (j :: L) u) (hj0:w0.heap.size≤j) (off:Nat) (vs:List Value):Da w0 d A (j :: L) (u.setCells j off vs) :=
 h.chg (put_chg j off vs) (fun x hx=>by rw[List.mem_singleton.1 hx];exact List.mem_cons_self ..) (fun x hx=>by rw[List.mem_singleton.1 hx];exact hj0)
theorem Chg.kx {M:List Nat} (hc:Chg M u u') (hlt:∀ x∈L,x<u.heap.size) (hn:∀ x∈L,x∉M):Kx L u u':=⟨hc.size,fun x hx=>hc.block x (hlt x hx) (hn x hx)⟩
def Jst (w0:World) (d j:Nat) (A:Ad) (L:List Nat) (u u':World):Prop:=Da w0 d A (j :: L) u'∧Kx L u u'
theorem Jst.step {u2:World} (h:Jst w0 d j A L u u') (hb:Below u'.heap.size u' u2):Jst w0 d j A L u u2 :=
 ⟨h.1.step hb,h.2.trans ((h.1.kx hb).sub fun _ hx=>List.mem_cons_of_mem _ hx)⟩
theorem Jst.put (h:Jst w0 d j A L u u') (hj:j∉L) (hj0:w0.heap.size≤j) (off:Nat) (vs:List Value):Jst w0 d j A L u (u'.setCells j off vs) :=
 ⟨h.1.jput hj0 off vs,h.2.trans ((put_chg j off vs).kx (fun x hx=>h.1.lt (List.mem_cons_of_mem _ hx)) (fun x hx hm=>hj (by rw[← List.mem_singleton.1 hm];exact hx)))⟩
theorem japp_a (h:Da w0 d A (j :: L) u) (hj:j∉L) (hj0:w0.heap.size≤j) (hk:A.k<1000000000) (ho:∀ f∈A.fs,f.ops.length<1000000) (hs:s.size≤281474976710656) (hm:Mm u [(j,jc d s c z)]) (hc:c<4611686018427387904) (hz:z<4611686018427387904) (q:Pt8) (hq:Pq q u) (hL:q.n≤65536) (r:Int) (A':Ad) (ha:A.app s (fr (bs q.n q.f))=(r,A')) :
  Calls Tryz.prog 47 #[PT j 0,.slice q.p q.n q.cp] u fun e u'=>e=.returned (.int .i64 r)∧(∃ c' z',c'≤c+1∧z'≤z+(8+q.n+4)∧Mm u' [(j,jc d s c' z')])∧Jst w0 d j A' L u u':=by
 have key:∀ (q2:Pt8) (u1:World),Pw u (8+q.n+4) (frm q.f q.n) q2 u1→Calls Tryz.prog 35 #[PT d 0,.string s,.slice q2.p q2.n q2.cp] u1 fun e u'=>e=.returned (.int .i64 r)∧Jst w0 d j A' L u u'∧u1.heap.size≤u'.heap.size∧u'.heap[j]?=u1.heap[j]?:=fun q2 u1 hu=>by
  have hq2:∀ x∈gbl q2,u.heap.size≤x∧x<u1.heap.size:=fun x hx=>by
   unfold gbl at hx
   split at hx
   ·cases hx
   ·obtain rfl:=List.mem_singleton.1 hx
    exact⟨hu.gb (by omega),hu.rs.lt (by omega)⟩
  have h1:=h.add hu.b hq2
  have e:bs q2.n q2.f=fr (bs q.n q.f):=by rw[hu.n,hu.f,fr_bs]
  refine(app_a h1 hk ho s hs q2 ⟨hu.ok,hu.no,hu.rs⟩ (fun x hx=>.inl (List.mem_append_left _ hx)) (by rw[hu.n];omega)).mono fun e u2 hh => ?_
  rw[‹bs q2.n q2.f=_›,ha] at hh
  obtain⟨e1,e2,e3⟩:=hh
  refine⟨e1,⟨e2.sub fun x hx=>List.mem_append_right _ hx,?_⟩,e3.1,e3.2 j (List.mem_append_right _ (List.mem_cons_self ..))⟩
  exact((h.kx hu.b).sub fun x hx=>List.mem_cons_of_mem _ hx).trans (e3.sub fun x hx=>List.mem_append_right _ (List.mem_cons_of_mem _ hx))
 by_cases hr:r=0
 ·subst hr
  refine(jappend_ok j d c z s q hL hc hz (Jst w0 d j A' L u) u hm ⟨hq.1,hq.2.2⟩ hq.2.1 (fun u1 u2 h1 hb=>h1.step hb) (fun u1 off vs h1=>h1.put hj hj0 off vs) key).mono fun e u' hh => ?_
  exact⟨hh.1,⟨_,_,Nat.le_refl _,Nat.le_refl _,hh.2.1⟩,hh.2.2⟩
 ·refine(jappend_err j d c z s q hL r hr (Jst w0 d j A' L u) u hm ⟨hq.1,hq.2.2⟩ hq.2.1 (fun u1 u2 h1 hb=>h1.step hb) (fun u1 off vs h1=>h1.put hj hj0 off vs) key).mono fun e u' hh => ?_
  exact⟨hh.1,⟨c,z,by omega,by omega,hh.2.1⟩,hh.2.2⟩
def Ad.jsy (A:Ad) (s:ByteArray):Int×Ad:=match A.lk s with
 | some f=>if f.ops=[] then (0,A) else A.syn s
 | none=>(0,A)
theorem jsync_a (h:Da w0 d A (j :: L) u) (_hj:j∉L) (hk:A.k<1000000000) (hs:s.size≤281474976710656) (hm:Mm u [(j,jc d s c z)]) (r:Int) (A':Ad) (ha:A.jsy s=(r,A')) :
  Calls Tryz.prog 49 #[PT j 0] u fun e u'=>e=.returned (.int .i64 r)∧Mm u' [(j,jc d s c z)]∧Jst w0 d j A' L u u':=by
 have hid:∀ u',Below u.heap.size u u'→Jst w0 d j A L u u':=fun u' hb=>⟨h.step hb,(h.kx hb).sub fun _ hx=>List.mem_cons_of_mem _ hx⟩
 have hmm:∀ u',Jst w0 d j A' L u u'∧u'.heap[j]?=u.heap[j]?→Mm u' [(j,jc d s c z)]:=fun u' hh=>Mm.keep1 hm hh.1.2.1 hh.2
 have p0:∀ u1,Below u.heap.size u u1→Calls Tryz.prog 101 #[PT d 0,.string s] u1 fun e u'=>e=.returned (.int .i64 ((match A.lk s with | some f=>f.ops.length | none=>0:Nat):Int))∧Below u1.heap.size u1 u':=fun u1 hb=>pend_a (h.step hb) s hs
 unfold Ad.jsy at ha
 cases hl:A.lk s with
 | none =>
  rw[hl] at ha p0
  obtain⟨rfl,rfl⟩:=Prod.mk.inj ha
  refine(jsync_none j d c z s 0 rfl u hm p0).mono fun e u' hh=>⟨hh.1,hm.below hh.2,hid u' hh.2⟩
 | some f =>
  rw[hl] at ha p0
  dsimp only at ha p0
  by_cases ho:f.ops=[]
  ·rw[if_pos ho] at ha
   obtain⟨rfl,rfl⟩:=Prod.mk.inj ha
   refine(jsync_none j d c z s f.ops.length (by rw[ho];rfl) u hm p0).mono fun e u' hh=>⟨hh.1,hm.below hh.2,hid u' hh.2⟩
  ·rw[if_neg ho] at ha
   refine(jsync_some j d c z s f.ops.length (List.length_pos_iff.2 ho) r (fun u'=>Jst w0 d j A' L u u'∧Mm u' [(j,jc d s c z)]) u hm p0 (fun u1 u2 h1 hb=>⟨h1.1.step hb,h1.2.below hb⟩) (fun u1 hb => ?_)).mono fun e u' hh=>⟨hh.1,hh.2.2,hh.2.1⟩
   refine(syn_a (h.step hb) hk s hs).mono fun e u' hh => ?_
   rw[ha] at hh
   refine⟨hh.1,⟨hh.2.1,((h.kx hb).sub fun _ hx=>List.mem_cons_of_mem _ hx).trans (hh.2.2.sub fun _ hx=>List.mem_cons_of_mem _ hx)⟩,Mm.keep1 (hm.below hb) hh.2.2.1 (hh.2.2.2 j (List.mem_cons_self ..))⟩
end
end Wi
end Rg
end Go.Proofs.YtmcpagjhpfbpgaaGreatDoor
end
section
namespace Go.Proofs.YtmcpagjhpfbpgaaGreatDoor
open Go.RowKit
namespace Rg
namespace Wi
set_option maxRecDepth 100000
section
variable {ρ:Operand→Value} {o:Oper} {x y:Operand} {a b:Nat} {w:World}
theorem ex_cv64 (h:a<256) (ho:o.op=.convert 5 227 x) (hx:ρ x=Z8 a):(execOp ρ o).run Tryz.prog w=.ok (.value (U a)) w:=by
 simp only[execOp,ho,hx]
 clear ho hx
 go_simp
 first | (rw[IntKind.wrap_u64];omega) | omega
theorem ex_shl8 (h:a*256<18446744073709551616) (ho:o.op=.binOp .shl 227 x y 225) (hx:ρ x=U a) (hy:ρ y=U 8):(execOp ρ o).run Tryz.prog w=.ok (.value (U (a*256))) w:=by
 simp only[execOp,ho,hx,hy]
 clear ho hx hy
 go_simp
 rw[IntKind.wrap_u64]
 omega
theorem ex_or8 (h:a*256<18446744073709551616) (hb:b<256) (ho:o.op=.binOp .or 227 x y 227) (hx:ρ x=U (a*256)) (hy:ρ y=U b):(execOp ρ o).run Tryz.prog w=.ok (.value (U (a*256+b))) w:=by
 simp only[execOp,ho,hx,hy]
 clear ho hx hy
 have e:=bits_or_u64_nat (a*256) b h (by omega)
 have e2:a*256 ||| b=a*256+b:=by
  have:=Nat.two_pow_add_eq_or_of_lt (i:=8) (b:=b) (by omega) a
  rw[Nat.mul_comm a 256]
  exact this.symm
 rw[e2] at e
 go_simp
 exact e
end
theorem take_ok (gr:Nat) (p:Option Addr) (m c k:Nat) (hk:k≤m) (hc:m≤c) (w:World) (hm:Mm w [(gr,[Value.slice p m c,Value.bool false])]) :
  Calls Tryz.prog 171 #[PT gr 0,.int .i64 ((k:Nat):Int)] w fun e w'=>e=.returned (stake (.slice p m c) k)∧Mm w' [(gr,[sdrop (.slice p m c) k,Value.bool false])]∧Kp gr w w':=by
 have H0:Hid (_∧_):=⟨hm,Kp.refl gr w⟩
 clear hm
 go_enter Tryz.func171,Tryz.ntmps171
 refine wp_seq ?_
 refine zG (l:=[0]) rfl (fun u0 hu0 => ?_)
 have H1:Hid (Mm u0 [(gr,[Value.slice p m c,Value.bool false])]∧Kp gr w u0):=by rw[hu0];exact H0
 clear hu0 H0
 refine zA (d:=4) (v:=.slice none 0 0) (w':=u0) rfl rfl rfl rfl ?_
 simp only[Act.put,sa,sz,ss]
 refine zC (zB ?_)
 refine wp_seq (wp_seq ?_)
 refine zD (l:=[0,1,2,3,4,5,6,7,8,9,10,11,12]) rfl ?_
 refine zA (d:=6) (v:=PT gr 0) (w':=u0) rfl rfl rfl rfl ?_
 simp only[Act.put,sa,sz,ss]
 refine zA (d:=7) (v:=PT gr 0) (w':=u0) rfl rfl rfl (by go_simp) ?_
 simp only[Act.put,sa,sz,ss]
 refine zA (d:=8) (v:=PT gr 1) (w':=u0) rfl rfl rfl (by go_simp) ?_
 simp only[Act.put,sa,sz,ss]
 refine zA (d:=9) (v:=.bool false) (w':=u0) rfl rfl rfl (zJ H1.out.1 0 rfl rfl rfl Ai4 rfl) ?_
 simp only[Act.put,sa,sz,ss]
 refine zA (d:=10) (v:=.bool false) (w':=u0) rfl rfl rfl rfl ?_
 simp only[Act.put,sa,sz,ss]
 refine zA (d:=11) (v:=.int .i64 ((k:Nat):Int)) (w':=u0) rfl rfl rfl rfl ?_
 simp only[Act.put,sa,sz,ss]
 refine zA (d:=12) (v:=PT gr 0) (w':=u0) rfl rfl rfl rfl ?_
 simp only[Act.put,sa,sz,ss]
 refine zA (d:=13) (v:=PT gr 0) (w':=u0) rfl rfl rfl (by go_simp) ?_
 simp only[Act.put,sa,sz,ss]
 refine zA (d:=14) (v:=PT gr 0) (w':=u0) rfl rfl rfl (by go_simp) ?_
 simp only[Act.put,sa,sz,ss]
 refine zA (d:=15) (v:=.slice p m c) (w':=u0) rfl rfl rfl (zJ H1.out.1 0 rfl rfl rfl Ai40 rfl) ?_
 simp only[Act.put,sa,sz,ss]
 refine zA (d:=16) (v:=.int .i64 ((m:Nat):Int)) (w':=u0) rfl rfl rfl (by go_simp) ?_
 simp only[Act.put,sa,sz,ss]
 refine zA (d:=17) (v:=.bool false) (w':=u0) rfl rfl rfl (by go_simp <;> omega) ?_
 simp only[Act.put,sa,sz,ss]
 refine zA (d:=18) (v:=.bool false) (w':=u0) rfl rfl rfl (by go_simp) ?_
 simp only[Act.put,sa,sz,ss]
 refine zC (zB ?_)
 refine wp_cond_false rfl (wp_skip ?_)
 refine zB (wp_seq ?_)
 refine zD (l:=[0,1,2,3,4,5,6]) rfl ?_
 refine zA (d:=22) (v:=PT gr 0) (w':=u0) rfl rfl rfl rfl ?_
 simp only[Act.put,sa,sz,ss]
 refine zA (d:=23) (v:=PT gr 0) (w':=u0) rfl rfl rfl (by go_simp) ?_
 simp only[Act.put,sa,sz,ss]
 refine zA (d:=24) (v:=PT gr 0) (w':=u0) rfl rfl rfl (by go_simp) ?_
 simp only[Act.put,sa,sz,ss]
 refine zA (d:=25) (v:=.slice p m c) (w':=u0) rfl rfl rfl (zJ H1.out.1 0 rfl rfl rfl Ai40 rfl) ?_
 simp only[Act.put,sa,sz,ss]
 refine zA (d:=26) (v:=.int .i64 ((k:Nat):Int)) (w':=u0) rfl rfl rfl rfl ?_
 simp only[Act.put,sa,sz,ss]
 refine zA (d:=27) (v:=stake (.slice p m c) k) (w':=u0) rfl rfl rfl (ex_take (by omega) rfl rfl rfl) ?_
 simp only[Act.put,sa,sz,ss]
 refine zA (d:=5) (v:=stake (.slice p m c) k) (w':=u0) rfl rfl rfl rfl ?_
 simp only[Act.put,sa,sz,ss]
 refine zC (zB (wp_seq ?_))
 refine zD (l:=[0,1,2,3,4,5,6,7,8,9]) rfl ?_
 refine zA (d:=28) (v:=PT gr 0) (w':=u0) rfl rfl rfl rfl ?_
 simp only[Act.put,sa,sz,ss]
 refine zA (d:=29) (v:=PT gr 0) (w':=u0) rfl rfl rfl rfl ?_
 simp only[Act.put,sa,sz,ss]
 refine zA (d:=30) (v:=PT gr 0) (w':=u0) rfl rfl rfl (by go_simp) ?_
 simp only[Act.put,sa,sz,ss]
 refine zA (d:=31) (v:=PT gr 0) (w':=u0) rfl rfl rfl (by go_simp) ?_
 simp only[Act.put,sa,sz,ss]
 refine zA (d:=32) (v:=.slice p m c) (w':=u0) rfl rfl rfl (zJ H1.out.1 0 rfl rfl rfl Ai40 rfl) ?_
 simp only[Act.put,sa,sz,ss]
 refine zA (d:=33) (v:=.int .i64 ((k:Nat):Int)) (w':=u0) rfl rfl rfl rfl ?_
 simp only[Act.put,sa,sz,ss]
 refine zA (d:=34) (v:=sdrop (.slice p m c) k) (w':=u0) rfl rfl rfl (ex_drop (by omega) rfl rfl rfl) ?_
 simp only[Act.put,sa,sz,ss]
 refine zA (d:=35) (v:=PT gr 0) (w':=u0) rfl rfl rfl (by go_simp) ?_
 simp only[Act.put,sa,sz,ss]
 refine zA (d:=36) (v:=PT gr 0) (w':=u0) rfl rfl rfl (by go_simp) ?_
 simp only[Act.put,sa,sz,ss]
 refine zM rfl rfl rfl (ex_st1 (v:=sdrop (.slice p m c) k) H1.out.1 0 rfl rfl As40 rfl rfl rfl (Nat.le_of_ble_eq_true rfl)) ?_
 have H2:Hid (Mm (u0.setCells gr 0 [sdrop (.slice p m c) k]) [(gr,[sdrop (.slice p m c) k,Value.bool false])]∧Kp gr w (u0.setCells gr 0 [sdrop (.slice p m c) k])):=⟨H1.out.1.put 0 (off:=0) (vs:=[sdrop (.slice p m c) k]) rfl (Nat.le_of_ble_eq_true rfl),H1.out.2.put (Or.inl rfl)⟩
 clear H1
 generalize hgw:World.setCells _ _ _ _=w2 at H2 ⊢
 clear hgw
 refine zC (zB (wp_seq ?_))
 refine zD (l:=[0,1]) rfl ?_
 refine zA (d:=37) (v:=stake (.slice p m c) k) (w':=w2) rfl rfl rfl rfl ?_
 simp only[Act.put,sa,sz,ss]
 refine zA (d:=4) (v:=stake (.slice p m c) k) (w':=w2) rfl rfl rfl rfl ?_
 simp only[Act.put,sa,sz,ss]
 refine zC (zB (wp_ret ?_))
 repeat (first | refine zI ?_ | refine zH ?_)
 refine bodyPost_ret (v:=stake (.slice p m c) k) (by simp[results,Tryz.results171,go_sem, *]) rfl ?_
 exact⟨rfl,H2.out.1,H2.out.2⟩
end Wi
end Rg
end Go.Proofs.YtmcpagjhpfbpgaaGreatDoor
end
section
namespace Go.Proofs.YtmcpagjhpfbpgaaGreatDoor
open Go.RowKit
namespace Rg
namespace Wi
theorem call171:CO 171:=by intro args w;go_simp
set_option maxRecDepth 100000
section
variable {ρ:Operand→Value} {o:Oper} {x y:Operand} {a b:Nat} {w:World}
theorem ex_cvI (h:a<9223372036854775808) (ho:o.op=.convert 3 227 x) (hx:ρ x=.int .i64 ((a:Nat):Int)):(execOp ρ o).run Tryz.prog w=.ok (.value (U a)) w:=by
 simp only[execOp,ho,hx]
 clear ho hx
 go_simp
 first | (rw[IntKind.wrap_u64];omega) | omega
theorem ex_cvU (h:a<9223372036854775808) (ho:o.op=.convert 227 3 x) (hx:ρ x=U a):(execOp ρ o).run Tryz.prog w=.ok (.value (.int .i64 ((a:Nat):Int))) w:=by
 simp only[execOp,ho,hx]
 clear ho hx
 go_simp
 first | (rw[IntKind.wrap_i64];omega) | omega
theorem ex_gtN (h:a≤b) (ho:o.op=.binOp .gtr 227 x y 227) (hx:ρ x=U a) (hy:ρ y=U b):(execOp ρ o).run Tryz.prog w=.ok (.value (.bool false)) w:=by
 have h1:¬ (b:Int)<a:=by omega
 simp only[execOp,ho,hx,hy]
 clear ho hx hy
 go_simp
end
theorem whole_yes (gr:Nat) (p:Option Addr) (c:Nat)  (w:World) (hm:Mm w [(gr,[Value.slice p 0 c,Value.bool false])]) :
  Calls Tryz.prog 154 #[PT gr 0] w (Rt w (.bool true)):=by
 have H0:Hid (_∧_):=⟨hm,Below.refl w.heap.size w⟩
 clear hm
 go_enter Tryz.func154,Tryz.ntmps154
 refine wp_seq ?_
 refine zG (l:=[0]) rfl (fun u0 hu0 => ?_)
 have H1:Hid (Mm u0 [(gr,[Value.slice p 0 c,Value.bool false])]∧Below w.heap.size w u0):=by rw[hu0];exact H0
 clear hu0 H0
 refine zA (d:=2) (v:=.bool false) (w':=u0) rfl rfl rfl rfl ?_
 simp only[Act.put,sa,sz,ss]
 refine zC (zB (wp_seq ?_))
 refine zD (l:=[0,1,2,3,4,5,6,7,8,9,10,11,12,13]) rfl ?_
 refine zA (d:=3) (v:=PT gr 0) (w':=u0) rfl rfl rfl rfl ?_
 simp only[Act.put,sa,sz,ss]
 refine zA (d:=4) (v:=PT gr 0) (w':=u0) rfl rfl rfl (by go_simp) ?_
 simp only[Act.put,sa,sz,ss]
 refine zA (d:=5) (v:=PT gr 1) (w':=u0) rfl rfl rfl (by go_simp) ?_
 simp only[Act.put,sa,sz,ss]
 refine zA (d:=6) (v:=.bool false) (w':=u0) rfl rfl rfl (zJ H1.out.1 0 rfl rfl rfl Ai4 rfl) ?_
 simp only[Act.put,sa,sz,ss]
 refine zA (d:=7) (v:=.bool true) (w':=u0) rfl rfl rfl (by go_simp) ?_
 simp only[Act.put,sa,sz,ss]
 refine zA (d:=8) (v:=.bool true) (w':=u0) rfl rfl rfl rfl ?_
 simp only[Act.put,sa,sz,ss]
 refine zA (d:=9) (v:=PT gr 0) (w':=u0) rfl rfl rfl rfl ?_
 simp only[Act.put,sa,sz,ss]
 refine zA (d:=10) (v:=PT gr 0) (w':=u0) rfl rfl rfl (by go_simp) ?_
 simp only[Act.put,sa,sz,ss]
 refine zA (d:=11) (v:=PT gr 0) (w':=u0) rfl rfl rfl (by go_simp) ?_
 simp only[Act.put,sa,sz,ss]
 refine zA (d:=12) (v:=.slice p 0 c) (w':=u0) rfl rfl rfl (zJ H1.out.1 0 rfl rfl rfl Ai40 rfl) ?_
 simp only[Act.put,sa,sz,ss]
 refine zA (d:=13) (v:=.int .i64 0) (w':=u0) rfl rfl rfl (by go_simp) ?_
 simp only[Act.put,sa,sz,ss]
 refine zA (d:=14) (v:=.bool true) (w':=u0) rfl rfl rfl (by kernel_rfl) ?_
 simp only[Act.put,sa,sz,ss]
 refine zA (d:=15) (v:=.bool true) (w':=u0) rfl rfl rfl (by go_simp) ?_
 simp only[Act.put,sa,sz,ss]
 refine zA (d:=2) (v:=.bool true) (w':=u0) rfl rfl rfl rfl ?_
 simp only[Act.put,sa,sz,ss]
 refine zC (zB (wp_ret ?_))
 repeat (first | refine zI ?_ | refine zH ?_)
 refine bodyPost_ret (v:=.bool true) (by simp[results,Tryz.results154,go_sem, *]) rfl ?_
 exact⟨rfl,H1.out.2⟩
end Wi
end Rg
end Go.Proofs.YtmcpagjhpfbpgaaGreatDoor
end
