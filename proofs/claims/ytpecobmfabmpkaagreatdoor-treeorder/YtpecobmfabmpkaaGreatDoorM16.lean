/- Tp4 PuE TakeN PvK PvL OpenB RowC OwnC -/
import Derived.Test.YtpecobmfabmpkaaGreatDoorM15
import Derived.Deep.SlicePairs
import Derived.OpenShut
set_option maxRecDepth 20000
set_option maxHeartbeats 4000000
namespace Go.Proofs.YtpecobmfabmpkaaGreatDoor
section
open Go.RowKit
def SameX (t t':Tl)(j:Jl)(X:List Int):Prop:=∀k:Nat,(k:Int)∈X→spRdB t' j (k:Int)=spRdB t j (k:Int)
theorem FR.set_same {t:Tl}{j:Jl}{m:Nat}{A B:Ps}{p:Nat × List Et}{X:List Int}(h:FR t j m (A++p::B) X)(hr:t.l.length<48)(l':List Et):SameX t (spWr t j (p.1:Int) (leafB l')) j X:=by
 have hm:(p.1:Int)∈secsP (A++p::B):=List.mem_map.2 ⟨p,List.mem_append_right _ List.mem_cons_self,rfl⟩
 obtain⟨_,_,_,_,h5⟩:=h.tk.wr hr (k:=p.1) (List.mem_append_right _ hm) (leafB_len l')
 intro k hk
 have hz:=h.tk.rng _ (List.mem_append_left _ hk)
 refine h5 k (by omega) (by omega) (fun e=>?_)
 have hn:=(List.nodup_append.1 h.tk.nodup).2.2
 exact hn _ hk _ hm (by rw[e])
theorem put_items {l:List Et}(h:∀e∈l,itemOk e.k e.v=true){k v:List UInt8}(hk:itemOk k v=true):∀e∈putE13 l k v,itemOk e.k e.v=true:=fun e he=>by
 rcases mem_put he with rfl|h1
 ·exact hk
 ·exact h e h1
theorem put_leaf {l:List Et}(h:LfOk l){k v:List UInt8}(hk:itemOk k v=true):SrtE (putE13 l k v)∧(∀e∈putE13 l k v,itemOk e.k e.v=true)∧putE13 l k v≠[]∧szL (putE13 l k v)≤751 :=
 ⟨h.srt.put k v,put_items h.ok hk,put_ne l k v,by have:=szL_put l k v;have h2:=h.sz;have h3:=szE_le (e:=⟨k,v⟩) hk;omega⟩
theorem one_leaf {k v:List UInt8}(hk:itemOk k v=true):LfOk [⟨k,v⟩] :=
 ⟨by simp,fun e he=>by rw[List.mem_singleton.1 he];exact hk,List.pairwise_singleton _ _,by have h3:=szE_le (e:=⟨k,v⟩) hk;unfold szL szL;omega⟩
theorem node_put {A B:Ps}{p:Nat × List Et}{k v:List UInt8}(hA:AllLt (entsP A) k)(hB:AllGt (entsP B) k):putE13 (entsP (A++p::B)) k v=entsP A++(putE13 p.2 k v++entsP B):=by
 rw[entsP_append,entsP]
 exact mid_put hA hB v
theorem ents_mid (A B:Ps)(s:Nat)(l:List Et):entsP (A++(s,l):: B)=entsP A++(l++entsP B):=by rw[entsP_append,entsP]
theorem ents_two (A B:Ps)(s k:Nat)(l:List Et)(c:Nat):entsP (A++(s,l.take c):: (k,l.drop c):: B)=entsP A++(l++entsP B):=by
 rw[entsP_append,entsP,entsP,←List.append_assoc (l.take c),List.take_append_drop]
variable {fl:Nat}
theorem pgF_leaf13 {l:List Et}(h:∀e∈l,itemOk e.k e.v=true)(hn:l.length≤1000):PgF ⟨0,l,[]⟩ :=
 ⟨fun h0=>absurd h0 (by simp),fun _=>rfl,by simpa using hn,Nat.zero_le _,fun e he=>by have:=szE_le (h e he);omega⟩
theorem pgS_leaf13 {l:List Et}(h:LfOk l):PgS ⟨0,l,[]⟩ :=
 ⟨pgF_leaf13 h.ok (by have:=h.len;omega),by have:=h.len;simpa using (by omega:l.length≤254),by simpa using h.sz,fun i hi=>(by cases hi),fun e he=>by have h9:=item_facts (h.ok e he);exact⟨by omega,by omega⟩⟩
theorem lf_cut13 {l:List Et}(hs:SrtE l)(hi:∀e∈l,itemOk e.k e.v=true){c:Nat}(h:CutOk l c):LfOk (l.take c)∧LfOk (l.drop c):=
 ⟨⟨fun e=>by have:=congrArg List.length e;rw[List.length_take,List.length_nil] at this;have h0:=h.c0;have h1:=h.c1;omega,fun e he=>hi e (List.mem_of_mem_take he),hs.sublist (List.take_sublist _ _),h.lo⟩,
  ⟨fun e=>by have:=congrArg List.length e;rw[List.length_drop,List.length_nil] at this;have h1:=h.c1;omega,fun e he=>hi e (List.mem_of_mem_drop he),hs.sublist (List.drop_sublist _ _),h.hi⟩⟩
def KeepPost (t:Tl)(j:Jl)(m:Nat)(A B:Ps)(X:List Int)(s:Nat)(l:List Et)(b:Int)(t':Tl):Prop :=
 t'.l.length≤t.l.length+4∧((b=0∧LfOk l∧FR t' j m (A++(s,l):: B) X∧SameX t t' j X)∨∃k c:Nat,b=(k:Int)∧51≤k∧k<j.p.n∧LfOk (l.take c)∧LfOk (l.drop c)∧FR t' j m (A++(s,l.take c):: (k,l.drop c):: B) X)
theorem codKeepLeaf (w:World)(S J P base m:Nat)(t:Tl)(j:Jl)(A B:Ps)(X:List Int)(s:Nat)(l0 l:List Et)(ve:Value)(ka:Option Addr)(kc:Nat)(L:List Eq3)(h:SpAx w S J P base t j)(hF:FR t j m (A++(s,l0):: B) X)(hp:PgR fl w ⟨0,l,[]⟩ ve (.slice ka 0 kc) L)
  (hs:SrtE l) (hi:∀e∈l,itemOk e.k e.v=true) (hne:l≠[]) (hsz:szL l≤751) (hroom:t.l.length+5≤48) (hdisk:X.length+(A++(s,l0):: B).length<j.p.n-51) (hfl:fl≤base:=by omega):
  Calls Tryz.prog 104 #[gT S,.agg (pgc (s:Int) 0 ve (.slice ka 0 kc)).toArray] w fun e w'=>(∃b t',e=.returned (.int .i64 b)∧SpAx w' S J P base t' j∧KeepPost t j m A B X s l b t')∧KS base w w':=by
 have hlo:=spcOK.lo h
 have hf:=hF.tk.fit
 have hn2:=hf.few.n
 have hsr:=hF.rng (List.mem_append_right A List.mem_cons_self)
 obtain⟨ea,ec,_,_,rfl,_⟩:=hp.forms
 have hln:l.length≤1000:=by
  have:=szL_len (fun e he=>(item_facts (hi e he)).1)
  omega
 have hFf:=pgF_leaf13 hi hln
 by_cases hfit:szL l≤509
 ·have HL:LfOk l:=⟨hne,hi,hs,hfit⟩
  obtain⟨z1,z2,z3⟩:=hF.set (l':=l) (by omega) HL
  have z4:=hF.set_same (by omega) l
  have:=codKeepFits w S J P base m t j s ⟨0,l,[]⟩ (.slice ea l.length ec) (.slice ka 0 kc) L h hf hp (pgS_leaf13 HL) (by omega) (by rw[pgB_leaf];exact z1)
  rw[pgB_leaf] at this
  refine this.mono ?_
  rintro e w' ⟨rfl,h1,h2⟩
  exact⟨⟨0,_,rfl,h1,by show (spWr t j (s:Int) (leafB l)).l.length≤_;have z3':(spWr t j (s:Int) (leafB l)).l.length≤t.l.length+1:=z3;omega,.inl ⟨rfl,HL,z2,z4⟩⟩,h2⟩
 unfold gT
 have W1:Below w.heap.size w ((w.alloc (.cells #[.pointer (some ⟨S,0,none⟩)] 87)).alloc (.cells #[.int .i64 (s:Int),.int .i64 0,.slice ea l.length ec,.slice ka 0 kc] 133)):=((Below.refl _ w).alloc (Nat.le_refl _) _).alloc (by simp) _
 have k0:Blk ((w.alloc (.cells #[.pointer (some ⟨S,0,none⟩)] 87)).alloc (.cells #[.int .i64 (s:Int),.int .i64 0,.slice ea l.length ec,.slice ka 0 kc] 133)) w.heap.size 87 [.pointer (some ⟨S,0,none⟩)]:=(Blk.newAt w w.heap.size 87 #[.pointer (some ⟨S,0,none⟩)] [.pointer (some ⟨S,0,none⟩)] rfl rfl).alloc _
 have k1:Blk ((w.alloc (.cells #[.pointer (some ⟨S,0,none⟩)] 87)).alloc (.cells #[.int .i64 (s:Int),.int .i64 0,.slice ea l.length ec,.slice ka 0 kc] 133)) (w.heap.size+1) 133 [.int .i64 (s:Int),.int .i64 0,.slice ea l.length ec,.slice ka 0 kc]:=Blk.newAt _ (w.heap.size+1) 133 _ _ (by simp) rfl
 have hp0:=hp.below W1
 have hA0:=SpAx.keep h (KeepT.of_below W1)
 have hK0:KS base w ((w.alloc (.cells #[.pointer (some ⟨S,0,none⟩)] 87)).alloc (.cells #[.int .i64 (s:Int),.int .i64 0,.slice ea l.length ec,.slice ka 0 kc] 133)):=KS.of_below W1 hlo
 generalize hW:(w.alloc (.cells #[.pointer (some ⟨S,0,none⟩)] 87)).alloc (.cells #[.int .i64 (s:Int),.int .i64 0,.slice ea l.length ec,.slice ka 0 kc] 133)=Y0 at *
 have hszP:szP ⟨0,l,[]⟩=szL l:=by unfold szP;simp
 obtain⟨cc,cc0,cc1,_⟩:=cut_some (fun e he=>szE_le (hi e he)) (by omega:509<szL l)
 have HFi:Calls Tryz.prog 145 #[.agg #[.int .i64 (s:Int),.int .i64 0,.slice ea l.length ec,.slice ka 0 kc]] Y0 fun e w'=>e=.returned (.bool false)∧Below Y0.heap.size Y0 w':=by
  have:=codFits (s:Int) ⟨0,l,[]⟩ (.slice ea l.length ec) (.slice ka 0 kc) L Y0 hp0 hFf
  rw[hszP,decide_eq_false hfit] at this
  exact this
 have HHv:Hid (∀W,Below Y0.heap.size Y0 W→Calls Tryz.prog 146 #[.agg #[.int .i64 (s:Int),.int .i64 0,.slice ea l.length ec,.slice ka 0 kc]] W (HvPost fl l L W)):=fun W hW=>codHalves (s:Int) l l.length rfl ea ka ec kc L W (hp0.below hW) hFf (by omega) hln (Nat.le_trans hfl (Nat.le_trans (spcOK.lo hA0) hW.size))
 have HA0:=mkHid hA0
 have HK0:=mkHid hK0
 have HF:=mkHid hF
 have HB0:=mkHid k0
 have HB1:=mkHid k1
 have HSi:=mkHid (And.intro hs hi)
 have HSz:=mkHid (And.intro hsz hfit)
 have HLo:Hid (base≤Y0.heap.size):=spcOK.lo hA0
 obtain⟨n,hn⟩:∃n,n=l.length:=⟨_,rfl⟩
 unfold pgc
 rw[←hn] at HFi HHv HB1 k1 ⊢
 have c0:=k0.cell 0
 have d0:=k1.cell 0
 have d1:=k1.cell 1
 have d2:=k1.cell 2
 have d3:=k1.cell 3
 simp only[gZ0,gZ1] at c0 d0 d1 d2 d3
 rw[←hn] at hW
 clear h hF hp hs hi hne hp0 hA0 hK0 k0 k1 W1 hn hszP hsz hfit hFf
 go_enter Tryz.func104,Tryz.ntmps104
 go_upto_region 1 with fail
 (try rw[hW])
 clear hW
 go_upto_region 4 with(go_at_call 145;refine HFi.mono ?_;rintro e y1 ⟨rfl,hb1⟩)
 have HHv1:=HHv.out y1 hb1
 have KB0:=HB0.out.on hb1
 have KB1:=HB1.out.on hb1
 have c0:=KB0.cell 0
 have d0:=KB1.cell 0
 have d1:=KB1.cell 1
 have d2:=KB1.cell 2
 have d3:=KB1.cell 3
 simp only[gZ0,gZ1] at c0 d0 d1 d2 d3
 have Hb1:=mkHid hb1
 clear HFi HHv hb1 KB0 KB1
 go_upto_region 5 with(go_at_call 146;refine HHv1.mono ?_;rintro e y2 ⟨⟨c,v1,v2,rfl,hc0,hc1,hbest,hp1,hp2⟩,hb2⟩;obtain⟨a1,p1,_,_,hv1,_⟩:=hp1.forms;obtain⟨a2,p2,_,_,hv2,_⟩:=hp2.forms;subst hv1 hv2;generalize (List.take c l).length=n1 at hp1 ⊢;generalize (List.drop c l).length=n2 at hp2 ⊢)
 have hcut:=cut_ok (fun e he=>szE_le (HSi.out.2 e he)) (by have:=HSz.out.2;omega) (by have:=HSz.out.1;omega) hc0 hc1 hbest
 obtain⟨hLt,hLd⟩:=lf_cut13 HSi.out.1 HSi.out.2 hcut
 have W3:Below y2.heap.size y2 ((y2.alloc (.cells #[.int .i64 0,.int .i64 0,.slice a1 n1 p1,.slice none 0 0] 133)).alloc (.cells #[.int .i64 0,.int .i64 0,.slice a2 n2 p2,.slice none 0 0] 133)):=((Below.refl _ y2).alloc (Nat.le_refl _) _).alloc (by simp) _
 have kL:Blk ((y2.alloc (.cells #[.int .i64 0,.int .i64 0,.slice a1 n1 p1,.slice none 0 0] 133)).alloc (.cells #[.int .i64 0,.int .i64 0,.slice a2 n2 p2,.slice none 0 0] 133)) y2.heap.size 133 [.int .i64 0,.int .i64 0,.slice a1 n1 p1,.slice none 0 0]:=(Blk.newAt y2 y2.heap.size 133 _ _ rfl rfl).alloc _
 have kR:Blk ((y2.alloc (.cells #[.int .i64 0,.int .i64 0,.slice a1 n1 p1,.slice none 0 0] 133)).alloc (.cells #[.int .i64 0,.int .i64 0,.slice a2 n2 p2,.slice none 0 0] 133)) (y2.heap.size+1) 133 [.int .i64 0,.int .i64 0,.slice a2 n2 p2,.slice none 0 0]:=Blk.newAt _ (y2.heap.size+1) 133 _ _ (by simp) rfl
 generalize hY3:(y2.alloc (.cells #[.int .i64 0,.int .i64 0,.slice a1 n1 p1,.slice none 0 0] 133)).alloc (.cells #[.int .i64 0,.int .i64 0,.slice a2 n2 p2,.slice none 0 0] 133)=Y3 at *
 clear hY3
 have W4:Below y2.heap.size y2 (Y3.setCell ⟨y2.heap.size,0,none⟩ (.int .i64 (s:Int))):=W3.setCell (p:=⟨y2.heap.size,0,none⟩) (Nat.le_refl _) _
 have kL4:=kL.set 0 (.int .i64 (s:Int))
 have kR4:=kR.other ⟨y2.heap.size,0,none⟩ (.int .i64 (s:Int)) (by show y2.heap.size+1≠y2.heap.size;omega)
 have B02:=Hb1.out.trans (hb2.mono Hb1.out.size)
 have B03:=B02.trans (W3.mono B02.size)
 have B04:=B02.trans (W4.mono B02.size)
 have KB0:=HB0.out.on B03
 have KB1:=HB1.out.on B03
 have c0:=KB0.cell 0
 have d0:=KB1.cell 0
 have l0':=kL.cell 0
 have lf0:=kL.frozen 0
 simp only[List.getElem?_cons_zero] at c0 d0 l0'
 obtain⟨z1,z2,z3⟩:=HF.out.set (by omega) hLt
 have z1:spWrE t j (s:Int) (leafB (l.take c))=0:=z1
 have z2:FR (spWr t j (s:Int) (leafB (l.take c))) j m (A++(s,l.take c):: B) X:=z2
 have z3:(spWr t j (s:Int) (leafB (l.take c))).l.length≤t.l.length+1:=z3
 have hWr:=pgWrite _ S J P base m t j s ⟨0,l.take c,[]⟩ (.slice a1 n1 p1) (.slice none 0 0) (L.take c) (SpAx.keep HA0.out (KeepT.of_below B04)) hf (hp1.below W4) (pgS_leaf13 hLt) (by omega) (by rw[pgB_leaf];exact z1)
 rw[pgB_leaf] at hWr
 have HWr:=mkHid hWr
 have K04:KS base w (Y3.setCell ⟨y2.heap.size,0,none⟩ (.int .i64 (s:Int))):=HK0.out.trans (KS.of_below B04 HLo.out)
 have HK4:=mkHid K04
 have HP2:=mkHid (hp2.below W4)
 have KB4:=mkHid (HB0.out.on B04)
 have HL4:=mkHid kL4
 have HR4:=mkHid kR4
 have HLd:=mkHid hLd
 have HLt:=mkHid hLt
 have HZ2:=mkHid (And.intro z2 z3)
 clear hp1 hp2 hb2 hbest hcut hLt hLd W3 W4 kL4 kR4 kL kR B02 B03 B04 KB0 KB1 z1 z2 z3 hWr K04 HHv1 Hb1
 go_upto_region 6 with fail
 have c0:=KB4.out.cell 0
 have d0:=HL4.out.cell 0
 have d1:=HL4.out.cell 1
 have d2:=HL4.out.cell 2
 have d3:=HL4.out.cell 3
 simp only[List.set_cons_zero,gZ0,gZ1] at c0 d0 d1 d2 d3
 generalize Y3.setCell ⟨y2.heap.size,0,none⟩ (.int .i64 (s:Int))=Y4 at *
 have hWr:=HWr.out
 unfold gT pgc at hWr
 go_upto_region 7 with(go_at_call 100;refine hWr.mono ?_;rintro e y5 ⟨rfl,hA5,hk5⟩)
 have hp5:=HP2.out.keep (hk5.ue hfl)
 have KB5:=hk5.o.blk KB4.out (by decide)
 have KR5:=hk5.o.blk HR4.out (by decide)
 have c0:=KB5.cell 0
 have d0:=KR5.cell 0
 have d1:=KR5.cell 1
 have d2:=KR5.cell 2
 have d3:=KR5.cell 3
 simp only[gZ0,gZ1] at c0 d0 d1 d2 d3
 have HK5:=mkHid (HK4.out.trans hk5)
 obtain⟨z2,z3⟩:=HZ2.out
 have z2':FR (spWr t j (s:Int) (leafB (l.take c))) j m ((A++[(s,l.take c)])++B) X:=by rw[List.append_assoc];exact z2
 obtain⟨a1',a2',a3',a4',a5',a6',a7'⟩:=z2'.add (l':=l.drop c) (by omega) (by rw[List.append_assoc];simp only[List.length_append,List.length_cons,List.singleton_append] at hdisk ⊢;omega) HLd.out
 rw[List.append_assoc] at a6'
 have hAd:=pgAdd y5 S J P base m (spWr t j (s:Int) (leafB (l.take c))) j 0 ⟨0,l.drop c,[]⟩ (.slice a2 n2 p2) (.slice none 0 0) (L.drop c) hA5 z2.tk.fit hp5 (pgS_leaf13 HLd.out) a1' a2' a4' (by rw[pgB_leaf];exact a5')
 rw[pgB_leaf] at hAd
 unfold gT pgc at hAd
 have HR:Hid (KeepPost t j m A B X s l (tkV (spWr t j (s:Int) (leafB (l.take c))) j:Int) (addT (spWr t j (s:Int) (leafB (l.take c))) j (leafB (l.drop c)))):=⟨by omega,.inr ⟨_,c,rfl,a3',a4',HLt.out,HLd.out,a6'⟩⟩
 generalize tkV (spWr t j (s:Int) (leafB (l.take c))) j=kk at *
 generalize addT (spWr t j (s:Int) (leafB (l.take c))) j (leafB (l.drop c))=tt at *
 clear hWr HWr hp5 KB5 KR5 a1' a2' a5' a6' a7' z2 z2' z3 hA5 hk5 HZ2
 go_wp2_with (go_at_call 66;refine hAd.mono ?_;rintro e y6 ⟨rfl,hA6,hk6⟩;have HA6:=mkHid hA6;have HK6:=mkHid hk6;clear hA6 hk6)
 go_ret
 exact⟨⟨(kk:Int),tt,rfl,HA6.out,HR.out⟩,HK5.out.trans HK6.out⟩
end
section
open Go Go.RowKit
variable {P:Program} {ops:Array Oper} {Q:Exit→Act→World→Prop} {S:World→Prop} {z:Nat}
def chainB (ops:Array Oper):Nat→List Nat→Bool
 | _,[]=>true
 | i,m::c=>waitsB ops m i&&chainB ops m c
def lastC:Nat→List Nat→Nat
 | i,[]=>i
 | _,m::c=>lastC m c
def undone (l:Array Bool)(c:List Nat):Bool:=c.all fun m => !(l.getD m false)
theorem chain_not:∀(c:List Nat) (i:Nat) (l:Array Bool),chainB ops i c=true→l.getD i false=false→undone l c=true→∀m∈c,m∉Region.ready .any ops l
 | [],_,_,_,_,_,m,hm=>by cases hm
 | x::c,i,l,h,hi,hu,m,hm=>by
  rw[chainB,Bool.and_eq_true] at h
  unfold undone at hu
  rw[List.all_cons,Bool.and_eq_true] at hu
  rcases List.mem_cons.1 hm with rfl|h2
  ·exact waits_not h.1 hi
  ·exact chain_not c x l h.2 (by simpa using hu.1) hu.2 m h2
theorem last_undone:∀(c:List Nat) (i:Nat) (l:Array Bool),l.getD i false=false→undone l c=true→l.getD (lastC i c) false=false
 | [],_,_,hi,_=>hi
 | x::c,i,l,_,hu=>by
  unfold undone at hu
  rw[List.all_cons,Bool.and_eq_true] at hu
  exact last_undone c x l (by simpa using hu.1) hu.2
theorem undone_set (c:List Nat)(l:Array Bool)(j:Nat)(hj:j∉c)(hu:undone l c=true):undone (l.setIfInBounds j true) c=true:=by
 unfold undone at hu ⊢
 rw[List.all_eq_true] at hu ⊢
 intro m hm
 have hne:j≠m:=fun e=>hj (by rw[e];exact hm)
 rw[getD_set_ne false hne]
 exact hu m hm
theorem LastOk.firstC {i:Nat}{o:Oper}{v:Value}(c:List Nat)(hi:ops[i]?=some o)(hs:Region.noSelect ops=true)(hc:chainB ops i c=true)(hw:waitsB ops z (lastC i c)=true)
  (hQ:∀c a w,Q (.panic c) (a.put o.dst v) w→Q (.panic c) a w):∀(f:Nat) (l:Array Bool) (a:Act) (w:World),undone l c=true →
   (∀j oj,ops[j]?=some oj→j≠i→l.getD j true=false→(∀e∈oj.after,Region.binds .any e=true→e.on≠i)→o.apart ops oj=true) →
   i∈Region.ready .any ops l→YieldsIf P ops S o v a→S w→LastOk P ops Q S z f (l.setIfInBounds i true) (a.put o.dst v) w→LastOk P ops Q S z (f+1) l a w:=by
 have hsel:=Region.noSelect_spec hs
 intro f
 induction f with
 | zero =>
  intro l a w _ _ hr hy hS H
  refine⟨fun h=>(by rw[h] at hr;cases hr),fun j hj=>?_⟩
  by_cases e:j=i
  ·subst e;exact hy.wpOp hi hS ⟨fun _=>hS,H⟩
  ·have:=ready_mono hj e
   rw[H.1] at this
   cases this
 | succ f ih =>
  intro l a w hun hf hr hy hS H
  refine⟨fun h=>(by rw[h] at hr;cases hr),fun j hj=>?_⟩
  by_cases e:j=i
  ·subst e;exact hy.wpOp hi hS ⟨fun _=>hS,H⟩
  ·obtain⟨hju,oj,hoj,hall⟩:=mem_ready.1 hj
   have hi0:=(mem_ready.1 hr).1
   have hjz:j≠z:=fun h=>waits_not hw (last_undone c i l (unlisted hi0) hun) (h▸hj)
   have hjc:j∉c:=fun h=>chain_not c i l hc (unlisted hi0) hun j h hj
   have hnot:∀x∈oj.after,Region.binds .any x=true→x.on≠i:=fun x hx hb h=>by
    have:=hall x hx hb
    rw[h,unlisted hi0] at this
    cases this
   have h2:=wpOp_putIf hoj (hf j oj hoj e hju hnot) (fun cs b=>hsel i o cs b hi) (fun cs b=>hsel j oj cs b hoj) hQ hy (H.2 j (ready_mono hj e))
   refine wpOp_mono (fun a' w' k=>⟨k.2.1,ih _ a' w' (undone_set c l j hjc hun) (fun x ox hx hxi hu hno=>hf x ox hx hxi ?_ hno) (ready_mono hr (Ne.symm e)) k.1 (k.2.1 hjz) ?_⟩) h2
   ·by_cases hjx:j=x
    ·subst hjx;exact hju
    ·rw[getD_set_ne true hjx] at hu;exact hu
   ·rw[Array.setIfInBounds_comm _ _ e]
    exact k.2.2
theorem lkC {o:Oper}{f:Nat}{l:Array Bool}{a:Act}{w:World}(c:List Nat)(d:Tmp)(i:Nat)(v:Value)(hi:ops[i]?=some o)(hy:YieldsIf P ops S o v a)(hS:S w)
  (h:LastOk P ops Q S z f (l.setIfInBounds i true) (a.put (some d) v) w) (hs:Region.noSelect ops=true:=by kernel_rfl) (hw:(chainB ops i c&&waitsB ops z (lastC i c)&&undone l c)=true:=by kernel_rfl) (hf:Region.free .any ops l i=true:=by kernel_rfl) (hr:(Region.ready .any ops l).contains i=true:=by kernel_rfl)
  (hQ:∀c a w,Q (.panic c) (a.put o.dst v) w→Q (.panic c) a w:=by exact fun _ _ _ h=>h) (hd:o.dst=some d:=by rfl):LastOk P ops Q S z (f+1) l a w:=by
 rw[Bool.and_eq_true,Bool.and_eq_true] at hw
 exact LastOk.firstC c hi hs hw.1.1 hw.1.2 hQ f l a w hw.2 (Region.free_spec hi hf) (by simpa using hr) hy hS (by rw[hd];exact h)
end
section
open Go.RowKit
theorem codSearchNone (w:World)(f:Nat)(cap:Array Value):
  Calls Tryz.prog 109 #[.int .i64 (-1),.func (.func f) #[] cap] w fun e w'=>e=.returned (.int .i64 0)∧Below w.heap.size w w':=by
 go_enter Tryz.func109,Tryz.ntmps109
 go_wp2
 go_loopg [5,6] 0 (fun kx s5 s6 wr=>s5=.int .i64 0∧s6=.int .i64 (-1)∧0≤kx∧Hid (Below w.heap.size w wr))
 case atStart=>exact⟨rfl,rfl,Nat.zero_le _,Below.refl _ _⟩
 case round =>
  obtain⟨rfl,rfl,_,HB⟩:=hrel
  go_wp2_with fail
  go_ret
  exact⟨rfl,HB.out⟩
theorem pgFind0 (w:World)(G:Value)(at_ lv:Int)(ve:Value)(xa ka:Option Addr)(xc kn kc:Nat)(hve:∃a n c,ve=.slice a n c)(hG:∃p,G=.agg #[.pointer p]):
  Calls Tryz.prog 73 #[G,.agg #[.int .i64 at_,.int .i64 lv,ve,.slice xa 0 xc],.slice ka kn kc] w fun e w'=>e=.returned (.int .i64 0)∧Below w.heap.size w w':=by
 obtain⟨ea,en,ec,rfl⟩:=hve
 obtain⟨pp,rfl⟩:=hG
 have hmf:=mkF0
 have W1:Below w.heap.size w (((w.alloc (.cells #[.pointer pp] 87)).alloc (.cells #[.int .i64 at_,.int .i64 lv,.slice ea en ec,.slice xa 0 xc] 133)).alloc (.cells #[.slice ka kn kc] 33)):=(((Below.refl _ w).alloc (Nat.le_refl _) _).alloc (by simp) _).alloc (by simp;omega) _
 have k1:Blk (((w.alloc (.cells #[.pointer pp] 87)).alloc (.cells #[.int .i64 at_,.int .i64 lv,.slice ea en ec,.slice xa 0 xc] 133)).alloc (.cells #[.slice ka kn kc] 33)) (w.heap.size+1) 133 [.int .i64 at_,.int .i64 lv,.slice ea en ec,.slice xa 0 xc]:=(Blk.newAt _ (w.heap.size+1) 133 _ _ (by simp) rfl).alloc _
 have d3:=k1.cell 3
 simp only[gZ0,gZ1] at d3
 have HSe:=fun W cap=>codSearchNone W 110 cap
 have HW1:=mkHid W1
 clear W1 k1
 generalize hW:((w.alloc (.cells #[.pointer pp] 87)).alloc (.cells #[.int .i64 at_,.int .i64 lv,.slice ea en ec,.slice xa 0 xc] 133)).alloc (.cells #[.slice ka kn kc] 33)=Y0 at *
 go_enter Tryz.func73,Tryz.ntmps73
 go_upto_region 1 with fail
 (try rw[hW])
 clear hW
 go_wp2_with (go_at_call 109;refine(HSe _ _).mono ?_;rintro r y1 ⟨rfl,hb1⟩;have HB1:=mkHid hb1;clear hb1)
 go_ret
 exact⟨rfl,HW1.out.trans (HB1.out.mono HW1.out.size)⟩
def lstK (l:List Et):List UInt8:=(l.getD (l.length-1) et0).k
def BsP (fl:Nat)(w:World)(a:Option Addr)(n c:Nat)(l:List UInt8):Prop:=∀W,KeepU fl UB w W→IsB W a n c l
theorem BsP.keep {fl:Nat}{w w':World}{a:Option Addr}{n c:Nat}{l:List UInt8}(h:BsP fl w a n c l)(hk:KeepU fl UB w w'):BsP fl w' a n c l:=fun W hW=>h W (hk.trans hW)
theorem BsP.is {fl:Nat}{w:World}{a:Option Addr}{n c:Nat}{l:List UInt8}(h:BsP fl w a n c l):IsB w a n c l:=h w (KeepU.refl _ _ _)
theorem BsP.below {fl:Nat}{w w':World}{a:Option Addr}{n c:Nat}{l:List UInt8}(h:BsP fl w a n c l)(hb:Below w.heap.size w w'):BsP fl w' a n c l:=h.keep (KeepU.of_below hb)
theorem lw_below {N:Nat}{w w':World}(hb:Below w.heap.size w w'):∀k,k<N→k<w.heap.size→w'.heap[k]?=w.heap[k]?:=fun k _ hk=>hb.5 k hk
theorem codCheckN (w:World)(Wb:Nat)(at_:Int)(ve vk:Value)(hve:∃a n c,ve=.slice a n c)(hvk:∃a n c,vk=.slice a n c):
  Calls Tryz.prog 115 #[.pointer (some ⟨Wb,0,none⟩),.agg #[.int .i64 at_,.int .i64 1,ve,vk]] w fun e w'=>e=.returned (.tuple #[])∧Below w.heap.size w w':=by
 obtain⟨ea,en,ec,rfl⟩:=hve
 obtain⟨xa,xn,xc,rfl⟩:=hvk
 have k1:=Blk.new w 133 [.int .i64 at_,.int .i64 1,.slice ea en ec,.slice xa xn xc]
 have W1:Below w.heap.size w (w.alloc (.cells #[.int .i64 at_,.int .i64 1,.slice ea en ec,.slice xa xn xc] 133)):=(Below.refl _ w).alloc (Nat.le_refl _) _
 have d1:=k1.cell 1
 simp only[gZ0,gZ1] at d1
 have HW1:=mkHid W1
 clear W1 k1
 go_enter Tryz.func115,Tryz.ntmps115
 go_wp2_with fail
 refine bodyPost_ret (results_none rfl _ _ _) rfl ?_
 exact⟨rfl,HW1.out⟩
theorem codCheckL (w:World)(Wb:Nat)(at_:Int)(gv ve vk:Value)(l:List Et)(L:List Eq3)(la:Option Addr)(ln lc:Nat)(lb:List UInt8)(hB:Blk w Wb 144 [gv,.slice la ln lc])(hp:PgR 0 w ⟨0,l,[]⟩ ve vk L)(hne:l≠[])(hlast:BsP 0 w la ln lc lb)(hlt:Op.bytesLess lb (fstK l)=true)(hn:l.length≤1000):
  Calls Tryz.prog 115 #[.pointer (some ⟨Wb,0,none⟩),.agg #[.int .i64 at_,.int .i64 0,ve,vk]] w fun e w'=>e=.returned (.tuple #[])∧(∃a n c,Blk w' Wb 144 [gv,.slice a n c]∧BsP 0 w' a n c (lstK l))∧KeepT [144] w w'∧(∀b,b≤Wb→b≤w.heap.size→Below b w w'):=by
 obtain⟨ea,ec,xa,xc,rfl,rfl⟩:=hp.forms
 have hLn:=hp.len
 have hl0:0<l.length:=List.length_pos_iff.2 hne
 have hLl:L.length=l.length:=hLn
 obtain⟨x0,hx0⟩:∃x,L[0]?=some x:=⟨_,List.getElem?_eq_getElem (by omega)⟩
 obtain⟨x1,hx1⟩:∃x,L[l.length-1]?=some x:=⟨_,List.getElem?_eq_getElem (by omega)⟩
 obtain⟨_,_,g,off,hg,e0,_,i0⟩:=hp.e.at_ 0 x0 hx0
 obtain⟨_,_,g',off',hg',e1,_,i1⟩:=hp.e.at_ (l.length-1) x1 hx1
 have hgg:g'=g∧off'=off:=by rw[hg] at hg';have:=Option.some.inj hg';injection this with h1 h2 _;exact⟨h1.symm,h2.symm⟩
 obtain⟨rfl,rfl⟩:=hgg
 subst hg
 have hk0:x0.1.k=fstK l:=by
  unfold fstK
  rw[show l=L.map Prod.fst from hp.es.symm,List.getD_eq_getElem?_getD,List.getElem?_map,hx0];rfl
 have hk1:x1.1.k=lstK l:=by
  unfold lstK
  rw[List.getD_eq_getElem?_getD,show l[l.length-1]?=some x1.1 by rw[show l=L.map Prod.fst from hp.es.symm,List.getElem?_map,List.length_map,hLl,hx1];rfl]
  rfl
 have hP1:BsP 0 w x1.2.a x1.1.k.length x1.2.c (lstK l):=fun W hW=>by rw[←hk1];exact(((hp.e.is x1 (List.mem_of_getElem? hx1)).keep hW).is).k
 have e0:w.cell? ⟨g',off',none⟩=some (.slice x0.2.a x0.1.k.length x0.2.c):=by have:=e0;rw[Nat.zero_mul,Nat.add_zero] at this;exact this
 obtain⟨q,hq⟩:∃q,q+1=l.length:=⟨l.length-1,by omega⟩
 rw[show l.length-1=q by omega] at e1
 have hgl:∃c fz,w.heap[g']?=some (.cells c 64 fz):=by
  obtain⟨_,_,e3,_,h3⟩:=hp.e.form
  injection e3 with e4 _ _
  obtain⟨g2,off2,c,fz,e5,h5,_⟩:=h3 (by omega)
  rw[e5] at e4
  have:=Option.some.inj e4
  injection this with h6 _ _
  exact⟨c,fz,by rw[h6];exact h5⟩
 have hI0:IsB w x0.2.a x0.1.k.length x0.2.c (fstK l):=by rw[←hk0];exact i0.k
 have hcmp:Lib.compareBytes lb (fstK l)<0:=(cb_lt _ _).2 hlt
 have hBl:=hB.lt
 have W1:Below w.heap.size w (w.alloc (.cells #[.int .i64 at_,.int .i64 0,.slice (some ⟨g',off',none⟩) l.length ec,.slice xa 0 xc] 133)):=(Below.refl _ w).alloc (Nat.le_refl _) _
 have kp:=Blk.new w 133 [.int .i64 at_,.int .i64 0,.slice (some ⟨g',off',none⟩) l.length ec,.slice xa 0 xc]
 have hcell:∀W,Below w.heap.size w W→W.cell? ⟨g',off',none⟩=some (.slice x0.2.a x0.1.k.length x0.2.c)∧W.cell? ⟨g',off'+q * 2,none⟩=some (.slice x1.2.a x1.1.k.length x1.2.c):=fun W hW=>by
  obtain⟨c,fz,hgl⟩:=hgl
  have hlt:=(Array.getElem?_eq_some_iff.1 hgl).1
  exact⟨(cell_same (hW.5 g' hlt) _).trans e0,(cell_same (hW.5 g' hlt) _).trans e1⟩
 have HCe:=mkHid hcell
 have HB:=mkHid hB
 have HP1:=mkHid hP1
 have HI0:=mkHid hI0
 have HLa:=mkHid hlast
 clear hP1 i0 i1 hI0 e0 e1 hp hx0 hx1 hk0 hk1 hgl hlast hlt hLn hLl hcell
 show Calls Tryz.prog _ #[_,.agg #[.int .i64 at_,.int .i64 0,.slice (some ⟨g',off',none⟩) l.length ec,.slice xa 0 xc]] w _
 obtain⟨n,hnl⟩:∃n,n=l.length:=⟨_,rfl⟩
 rw[←hnl] at W1 kp hq hn hl0 ⊢
 generalize x0.2.a=qa at *
 generalize x0.1.k.length=qn at *
 generalize x0.2.c=qc at *
 generalize x1.2.a=ra at *
 generalize x1.1.k.length=rn at *
 generalize x1.2.c=rc at *
 generalize lstK l=lk at *
 generalize fstK l=fk at *
 clear hnl
 generalize hW:w.alloc (.cells #[.int .i64 at_,.int .i64 0,.slice (some ⟨g',off',none⟩) n ec,.slice xa 0 xc] 133)=Y0 at *
 have hD:Below Y0.heap.size Y0 Y0.drew:=(Below.refl _ Y0).drew
 have HCt:Hid (∀W,Below Y0.heap.size Y0 W→W.cell? ⟨w.heap.size,0,none⟩=some (.int .i64 at_)∧W.cell? ⟨w.heap.size,2,none⟩=some (.slice (some ⟨g',off',none⟩) n ec)∧W.cell? ⟨Wb,1,none⟩=some (.slice la ln lc)∧W.cell? ⟨g',off',none⟩=some (.slice qa qn qc)):=fun W hW=>⟨(kp.on hW).cell 0,(kp.on hW).cell 2,((HB.out.on W1).on hW).cell 1,(HCe.out W (W1.trans (hW.mono W1.size))).1⟩
 have HKp:=mkHid kp
 have HW1:=mkHid W1
 have d1:=kp.cell 1
 simp only[gZ0,gZ1] at d1
 have HNy:=needYes13 4
 have HCm:Calls Tryz.prog 111 #[.slice la ln lc,.slice qa qn qc] Y0.drew fun e w'=>e=.returned (.int .i64 (Lib.compareBytes lb fk))∧w'=Y0.drew:=codCompare la qa ln qn lc qc lb fk Y0.drew (HLa.out _ (KeepU.of_below (W1.trans (hD.mono W1.size)))) ((HI0.out.below W1 rfl).below hD rfl)
 generalize Lib.compareBytes lb fk=z at *
 have hz:decide (z<0)=true:=decide_eq_true hcmp
 clear kp W1
 go_enter Tryz.func115,Tryz.ntmps115
 go_upto_region 1 with fail
 (try rw[hW])
 clear hW
 go_upto_region 2 with fail
 refine lk0 (fun W=>W.cell? ⟨w.heap.size,0,none⟩=some (.int .i64 at_)∧W.cell? ⟨w.heap.size,2,none⟩=some (.slice (some ⟨g',off',none⟩) n ec)∧W.cell? ⟨Wb,1,none⟩=some (.slice la ln lc)∧W.cell? ⟨g',off',none⟩=some (.slice qa qn qc)) 11 (HCt.out _ hD) (fun hHeld=>?_)
 refine lkC [1,2,3,9,10] 7 0 (.pointer (some ⟨Wb,0,none⟩)) rfl (Or.inl ⟨by rfl,?_⟩) hHeld ?_
 ·intro w hSw;go_simp
 (try simp only[Act.put,sIx,sZ0,sZ1])
 refine lkC [2,3,9,10] 8 1 (.pointer (some ⟨Wb,0,none⟩)) rfl (Or.inl ⟨by rfl,?_⟩) hHeld ?_
 ·intro w hSw;go_simp
 (try simp only[Act.put,sIx,sZ0,sZ1])
 refine lkC [3,9,10] 9 2 (.pointer (some ⟨Wb,1,none⟩)) rfl (Or.inl ⟨by rfl,?_⟩) hHeld ?_
 ·intro w hSw;go_simp
 (try simp only[Act.put,sIx,sZ0,sZ1])
 refine lkC [9,10] 10 3 (.slice la ln lc) rfl (Or.inl ⟨by rfl,?_⟩) hHeld ?_
 ·intro w hSw;obtain⟨s0,s1,s2,s3⟩:=hSw;go_simp
 (try simp only[Act.put,sIx,sZ0,sZ1])
 refine lkC [5,6,7,8,9,10] 11 4 (.pointer (some ⟨w.heap.size,2,none⟩)) rfl (Or.inl ⟨by rfl,?_⟩) hHeld ?_
 ·intro w hSw;go_simp
 (try simp only[Act.put,sIx,sZ0,sZ1])
 refine lkC [6,7,8,9,10] 12 5 (.slice (some ⟨g',off',none⟩) n ec) rfl (Or.inl ⟨by rfl,?_⟩) hHeld ?_
 ·intro w hSw;obtain⟨s0,s1,s2,s3⟩:=hSw;go_simp
 (try simp only[Act.put,sIx,sZ0,sZ1])
 refine lkC [7,8,9,10] 13 6 (.pointer (some ⟨g',off',none⟩)) rfl (Or.inl ⟨by rfl,?_⟩) hHeld ?_
 ·intro w hSw;go_simp
 (try simp only[Act.put,sIx,sZ0,sZ1])
 refine lkC [8,9,10] 14 7 (.pointer (some ⟨g',off',none⟩)) rfl (Or.inl ⟨by rfl,?_⟩) hHeld ?_
 ·intro w hSw;go_simp
 (try simp only[Act.put,sIx,sZ0,sZ1])
 refine lkC [9,10] 15 8 (.slice qa qn qc) rfl (Or.inl ⟨by rfl,?_⟩) hHeld ?_
 ·intro w hSw;obtain⟨s0,s1,s2,s3⟩:=hSw;go_simp
 (try simp only[Act.put,sIx,sZ0,sZ1])
 refine lk1 9 rfl (fun K hK=>?_)
 go_simp
 refine HCm.mono ?_
 rintro r1 y1 ⟨rfl,rfl⟩
 go_simp
 refine hK.out _ _ (HCt.out _ hD) (fun hHeld=>?_)
 (try simp only[Act.put,sIx,sZ0,sZ1])
 clear hK K HCm
 refine lkC [] 17 10 (.bool true) rfl (Or.inl ⟨by rfl,?_⟩) hHeld ?_
 ·intro w hSw;go_simp
 (try simp only[Act.put,sIx,sZ0,sZ1])
 refine lkZ rfl (fun K hK=>?_)
 go_simp
 refine(HNy _).mono ?_
 rintro r2 y2 ⟨rfl,rfl⟩
 go_simp
 refine hK.out _ _ ?_
 (try simp only[Exit.then])
 (try simp only[Act.put,sIx,sZ0,sZ1])
 clear hK K hHeld HNy
 obtain⟨_,s1,_,_⟩:=HCt.out _ hD
 have hB3:=(HB.out.on HW1.out).on hD
 have kd:=(HCe.out _ (HW1.out.trans (hD.mono HW1.out.size))).2
 have kc:=hB3.cell 1
 have kf:=hB3.frozen 1
 simp only[gZ0,gZ1] at kc
 have hwq:IntKind.i64.wrap ((n:Int)-1)=(q:Int):=by rw[wrapi64_in _ (by omega) (by omega)];omega
 have hq0:(0:Int)≤(q:Int):=by omega
 have hqn:(q:Int)<(n:Int):=by omega
 have hqn2:q<n:=by omega
 have hb01:=HW1.out.trans (hD.mono HW1.out.size)
 have HF:=mkHid (And.intro hB3 hb01)
 clear HCt HCe hD hB3 hb01
 generalize Y0.drew=Y1 at *
 go_wp2_with fail
 go_end0
 have hT:KeepT [144] w (Y1.setCell ⟨Wb,1,none⟩ (.slice ra rn rc)):=(KeepT.of_below HF.out.2).set HF.out.1 (by decide) 1 _
 exact⟨rfl,⟨ra,rn,rc,HF.out.1.set 1 _,HP1.out.keep (KeepU.zero (KeepO.ofT hT (by decide)))⟩,hT,fun b hb1 hb2=>(HF.out.2.mono hb2).setCell (p:=⟨Wb,1,none⟩) hb1 _⟩
end
section
open Go.ChangeShapes Go.WideShapes
theorem weights_all_mem {H:Type}{P:Program}{e:TypeId}{d:DataW H}{n:Nat}(hn:n∈d.weights P e):∀ {l:List (DataW H)},d∈l→n∈DataW.weightsAll P e l
 | [],h=>by cases h
 | x::l,h=>by
  simp only[DataW.weightsAll]
  rcases List.mem_cons.1 h with rfl|h
  ·exact List.mem_append_left _ hn
  ·exact List.mem_append_right _ (weights_all_mem hn h)
theorem slice_of14 {H:Type}{enc:TypeId × Value→H}{W:World}{fuel:Nat}{t e:TypeId}{v:Value}{x:DataW H × List MemPlace}(hu:Tryz.prog.underlying t=some (.slice e))(h:DataW.trod enc Tryz.prog W 0 (fun _=>true) true fuel t [v]=some x):∃a len cap,v=.slice a len cap:=by
 rcases Deep.open_slice hu h with⟨hcs,_⟩|⟨ad,l,c,m,n,D,Pl,hcs,_⟩
 ·simp only[List.cons.injEq,and_true] at hcs;exact⟨_,_,_,hcs⟩
 ·simp only[List.cons.injEq,and_true] at hcs;exact⟨_,_,_,hcs⟩
theorem open_bytes {H:Type}{enc:TypeId × Value→H}{W:World}{fuel:Nat}{a:Option Addr}{len cap:Nat}{x:DataW H × List MemPlace}(h:DataW.trod enc Tryz.prog W 0 (fun _=>true) true fuel 33 [.slice a len cap]=some x):
  ∃b,IsB W a len cap b∧∀N,(∀n∈x.1.weights Tryz.prog 33,n≤N)→len≤N:=by
 rcases open_ints Tryz.underlying33 Tryz.underlying5 (by kernel_rfl) h with⟨hcs,_⟩|⟨y,l,c,zs,hcs,_,hl,hm,hz,hx,hcell,hwz⟩
 ·simp only[List.cons.injEq,and_true,Value.slice.injEq] at hcs
  obtain⟨rfl,rfl,rfl⟩:=hcs
  exact⟨[],isB_none W,fun _ _=>Nat.zero_le _⟩
 ·simp only[List.cons.injEq,and_true,Value.slice.injEq] at hcs
  obtain⟨rfl,rfl,rfl⟩:=hcs
  have hz0:zs.length=cap:=by simpa using hz
  have hrow:IsRow .u8 W (some y) len cap zs:=.inr ⟨_,rfl,hl,hm,hz0,hcell,hwz⟩
  obtain⟨b,hb⟩:=hrow.bytes
  refine⟨b,hb,fun N hN=>?_⟩
  have hb1:Tryz.prog.bytesOf 5=1:=by kernel_rfl
  rw[hx] at hN
  simp only[DataW.weights,Tryz.underlying33,hb1] at hN
  have:=hN _ (List.mem_cons_self ..)
  simp only[lits,List.length_map,List.length_take] at this
  omega
end
section
open Go.ChangeShapes Go.WideShapes
open Go.RowKit (Below)
structure RowC {α:Type}(k:Nat)(c:α→List Value)(w:World)(a:Option Addr)(n:Nat)(l:List α):Prop where
 len:l.length=n
 cells:0<n→∃b off,a=some ⟨b,off,none⟩∧b<w.heap.size∧∀(i:Nat) (x:α),l[i]?=some x→∀(j:Nat) (v:Value),(c x)[j]?=some v→w.cell? ⟨b,off+i * k+j,none⟩=some v
theorem RowC.nil {α:Type}(k:Nat)(c:α→List Value)(w:World):RowC k c w none 0 ([]:List α):=⟨rfl,fun h=>absurd h (Nat.lt_irrefl 0)⟩
theorem RowC.at {α:Type}{k:Nat}{c:α→List Value}{w:World}{a:Option Addr}{n:Nat}{l:List α}(h:RowC k c w a n l)(i:Nat)(hi:i<n):
  ∃b off x,a=some ⟨b,off,none⟩∧b<w.heap.size∧l[i]?=some x∧∀(j:Nat) (v:Value),(c x)[j]?=some v→w.cell? ⟨b,off+i * k+j,none⟩=some v:=by
 obtain⟨b,off,e,hb,hc⟩:=h.cells (by omega)
 have hi':i<l.length:=by rw[h.len];exact hi
 exact⟨b,off,l[i],e,hb,List.getElem?_eq_getElem hi',hc i _ (List.getElem?_eq_getElem hi')⟩
theorem open_row {α:Type}(x0:α)(k:Nat)(c:α→List Value)(P:α→Prop)(T E:TypeId)(hu:Tryz.prog.underlying T=some (.slice E))(hk:Tryz.prog.cellsOf E=k)(hk1:0<k)(hcl:∀x,(c x).length=k)
  {H:Type} {enc:TypeId × Value→H} {W:World}
  (hop:∀(n:Nat) (cs:List Value) (x:DataW H × List MemPlace),DataW.trod enc Tryz.prog W 0 (fun _=>true) true n E cs=some x→(∀m∈x.1.weights Tryz.prog E,m≤140737488351232)→∃q:α,cs=c q∧P q)
  {fuel:Nat} {a:Option Addr} {len cap:Nat} {x:DataW H × List MemPlace} (h:DataW.trod enc Tryz.prog W 0 (fun _=>true) true fuel T [.slice a len cap]=some x) (hN:∀n∈x.1.weights Tryz.prog T,n≤140737488351232):
  ∃l,RowC k c W a len l∧(∀y∈l,P y)∧len * Tryz.prog.bytesOf E≤140737488351232∧len≤cap∧(a=none→len=0∧cap=0):=by
 rcases Deep.open_slice hu h with⟨hcs,_⟩|⟨ad,l,c',m,n,D,Pl,hcs,_,hl,hm,hmm,hx,hel⟩
 ·simp only[List.cons.injEq,and_true,Value.slice.injEq] at hcs
  obtain⟨rfl,rfl,rfl⟩:=hcs
  exact⟨[],RowC.nil k c W,fun x hx=>(by cases hx),by omega,Nat.zero_le _,fun _=>⟨rfl,rfl⟩⟩
 ·simp only[List.cons.injEq,and_true,Value.slice.injEq] at hcs
  obtain⟨rfl,rfl,rfl⟩:=hcs
  have hmc:m=cap:=by simpa using hmm
  subst hmc
  rw[hk] at hel
  have each:∀i,i<len→∃q:α,(∀j,j<k→W.cell? (ad.add (i * k+j))=(c q)[j]?)∧P q:=by
   intro i hi
   obtain⟨cs',h1,h2⟩:=hel i (by omega)
   obtain⟨_,_,hcell⟩:=World.cells?_some h1
   have hbi:∀n∈(D i).weights Tryz.prog E,n≤140737488351232:=fun n hn=>hN n (by
    rw[hx]
    simp only[DataW.weights,hu]
    exact List.mem_cons_of_mem _ (List.mem_append_left _ (weights_all_mem hn (List.mem_map.2 ⟨i,List.mem_range.2 hi,rfl⟩))))
   obtain⟨o,rfl,hok⟩:=hop _ _ _ h2 hbi
   refine⟨o,fun j hj=>?_,hok⟩
   have e:=hcell j (by omega)
   rw[Deep.add_add] at e
   exact e
  haveI:Inhabited α:=⟨x0⟩
  obtain⟨q,hq⟩:=Deep.choose_lt each
  refine⟨(List.range len).map q,⟨by simp,fun hp=>?_⟩,fun y hy=>?_,?_,hl,fun e=>by cases e⟩
  ·obtain⟨b,off,spot⟩:=ad
   have hv0:∃v,(c (q 0))[0]?=some v:=⟨_,List.getElem?_eq_getElem (by rw[hcl];exact hk1)⟩
   obtain⟨v0,hv0⟩:=hv0
   have h00:=(hq 0 hp).1 0 hk1
   rw[hv0] at h00
   have hspot:spot=none:=by simpa [Addr.add] using World.cell?_spot h00
   subst hspot
   refine⟨b,off,rfl,(by have:=cell_lt h00;simpa [Addr.add] using this),fun i x hx j v hv=>?_⟩
   obtain⟨hi,rfl⟩:i<len∧q i=x:=by
    rw[List.getElem?_map] at hx
    rcases Nat.lt_or_ge i len with hi|hi
    ·rw[List.getElem?_range hi] at hx;exact⟨hi,Option.some.inj hx⟩
    ·rw[List.getElem?_eq_none (by rw[List.length_range];exact hi)] at hx;cases hx
   have hj:j<k:=by have:=(List.getElem?_eq_some_iff.1 hv).1;rw[hcl] at this;exact this
   have e:=(hq i hi).1 j hj
   rw[Addr.add_lit] at e
   rw[Nat.add_assoc,e];exact hv
  ·obtain⟨i,hi,rfl⟩:=List.mem_map.1 hy
   exact(hq i (List.mem_range.1 hi)).2
  ·rw[hx] at hN
   simp only[DataW.weights,hu] at hN
   have:=hN _ (List.mem_cons_self ..)
   simp only[List.length_map,List.length_range] at this
   have h5:len * Tryz.prog.bytesOf E≤(len+(m-len)) * Tryz.prog.bytesOf E:=Nat.mul_le_mul (by omega) (Nat.le_refl _)
   omega
end
section
open Go.RowKit
structure RT (α:Type) where
 S:TypeId
 E:TypeId
 k:Nat
 by_:Nat
 z:Value
 c:α→List Value
structure RtOK {α:Type}(R:RT α):Prop where
 hu:Tryz.prog.underlying R.S=some (.slice R.E)
 hi:(Tryz.prog.info? R.E).map (fun i=>(i.zero,i.size,i.bytes))=some (some R.z,R.k,R.by_)
 hz:R.z.cells.toList.length=R.k
 ho:∀u∈R.z.cells.toList,u.oneCell'=true
 k1:0<R.k
 b1:0<R.by_
 len:∀x,(R.c x).length=R.k
 one:∀x,∀u∈R.c x,u.oneCell'=true
variable {α:Type} {R:RT α}
def cellsC (R:RT α):List α→List Value
 | []=>[]
 | x::l=>R.c x++cellsC R l
theorem cellsC_length (ok:RtOK R)(l:List α):(cellsC R l).length=l.length * R.k:=by
 induction l with
 | nil=>simp[cellsC]
 | cons x l ih=>rw[cellsC,List.length_append,ih,ok.len,List.length_cons,Nat.succ_mul];omega
theorem cellsC_append (l m:List α):cellsC R (l++m)=cellsC R l++cellsC R m:=by
 induction l with
 | nil=>rfl
 | cons x l ih=>rw[List.cons_append,cellsC,cellsC,ih,List.append_assoc]
theorem cellsC_take (ok:RtOK R)(l:List α)(k:Nat):cellsC R (l.take k)=(cellsC R l).take (k * R.k):=by
 induction k generalizing l with
 | zero=>simp[cellsC]
 | succ k ih =>
  cases l with
  | nil=>simp[cellsC]
  | cons x l =>
   have h1:(k+1) * R.k=k * R.k+R.k:=Nat.succ_mul k R.k
   rw[List.take_succ_cons,cellsC,cellsC,ih,List.take_append,ok.len,List.take_of_length_le (l:=R.c x) (by rw[ok.len];omega),show (k+1) * R.k-R.k=k * R.k by omega]
theorem cellsC_drop (ok:RtOK R)(l:List α)(k:Nat):cellsC R (l.drop k)=(cellsC R l).drop (k * R.k):=by
 induction k generalizing l with
 | zero=>simp
 | succ k ih =>
  cases l with
  | nil=>simp[cellsC]
  | cons x l =>
   have h1:(k+1) * R.k=k * R.k+R.k:=Nat.succ_mul k R.k
   rw[List.drop_succ_cons,cellsC,ih,List.drop_append,ok.len,List.drop_of_length_le (l:=R.c x) (by rw[ok.len];omega),List.nil_append,show (k+1) * R.k-R.k=k * R.k by omega]
theorem cellsC_at (ok:RtOK R)(l:List α)(k j:Nat)(hk:k<l.length)(hj:j<R.k):(cellsC R l)[k * R.k+j]?=(R.c (l[k]))[j]?:=by
 have e:(cellsC R l)[k * R.k+j]?=((cellsC R l).drop (k * R.k))[j]?:=by rw[List.getElem?_drop]
 rw[e,←cellsC_drop ok,List.drop_eq_getElem_cons hk,cellsC,List.getElem?_append_left (by rw[ok.len];exact hj)]
theorem cellsC_one (ok:RtOK R)(l:List α):∀u∈cellsC R l,u.oneCell'=true:=by
 induction l with
 | nil=>intro u hu;cases hu
 | cons x l ih =>
  intro u hu
  rw[cellsC] at hu
  rcases List.mem_append.1 hu with hu|hu
  ·exact ok.one x u hu
  ·exact ih u hu
def OwnRw (R:RT α)(w:World)(base:Nat)(v:Value)(l:List α):Prop:=w.ownsRow base R.E R.k v l.length (cellsC R l)
theorem OwnRw.nil (R:RT α)(w:World)(base:Nat):OwnRw R w base (.slice none 0 0) []:=World.ownsRow_nil _ _ _ _
theorem OwnRw.keep {w w':World}{us:List TypeId}{base:Nat}{v:Value}{l:List α}(h:OwnRw R w base v l)(hk:KeepO us w w')(he:R.E∈us):OwnRw R w' base v l:=own_keepO hk h he
theorem OwnRw.on {w w':World}{base:Nat}{v:Value}{l:List α}(h:OwnRw R w base v l)(hb:Below w.heap.size w w'):OwnRw R w' base v l:=h.keep (us:=[R.E]) (KeepO.of_below hb) (List.mem_singleton.2 rfl)
theorem OwnRw.form (ok:RtOK R){w:World}{base:Nat}{v:Value}{l:List α}(h:OwnRw R w base v l):∃a cap,v=.slice a l.length cap∧l.length≤cap∧(a=none∨∃g,a=some ⟨g,0,none⟩) ∧
  (0<l.length→∃g,a=some ⟨g,0,none⟩∧base≤g∧g<w.heap.size∧∀k (hk:k<l.length),∀j,j<R.k→w.cell? ⟨g,k * R.k+j,none⟩=(R.c (l[k]))[j]?):=by
 obtain⟨h1,h2⟩:=h
 rcases h2 with⟨rfl,h0⟩|⟨g,cap,cur,rfl,hb,hg,hle,hmax,hsz,htk⟩
 ·have:l=[]:=List.eq_nil_of_length_eq_zero h0
  subst this
  exact⟨none,0,rfl,Nat.le_refl _,.inl rfl,fun h=>absurd h (Nat.lt_irrefl 0)⟩
 ·refine⟨_,cap,rfl,hle,.inr ⟨g,rfl⟩,fun hp=>⟨g,rfl,hb,(Array.getElem?_eq_some_iff.1 hg).1,fun k hk j hj=>?_⟩⟩
  have hown:w.ownsRow base R.E R.k (.slice (some ⟨g,0,none⟩) l.length cap) l.length (cellsC R l):=⟨h1,.inr ⟨g,cap,cur,rfl,hb,hg,hle,hmax,hsz,htk⟩⟩
  have hlt:k * R.k+j<l.length * R.k:=by
   have:(k+1) * R.k≤l.length * R.k:=Nat.mul_le_mul_right _ hk
   rw[Nat.succ_mul] at this;omega
  rw[World.ownsRow.cellAt hown (k * R.k+j) hlt,cellsC_at ok l k j hk hj]
theorem OwnRw.row (ok:RtOK R){w:World}{base:Nat}{a:Option Addr}{n cap:Nat}{l:List α}(h:OwnRw R w base (.slice a n cap) l):RowC R.k R.c w a n l:=by
 obtain⟨a',c',e,_,_,hc⟩:=h.form ok
 injection e with e1 e2 e3
 subst e1 e2 e3
 refine⟨rfl,fun hp=>?_⟩
 obtain⟨g,e4,_,hl,h3⟩:=hc hp
 refine⟨g,0,e4,hl,fun k x hx j v hv=>?_⟩
 have hj:j<R.k:=by have:=(List.getElem?_eq_some_iff.1 hv).1;rw[ok.len] at this;exact this
 obtain⟨hk,rfl⟩:=List.getElem?_eq_some_iff.1 hx
 rw[Nat.zero_add,h3 k hk j hj]
 exact hv
theorem OwnRw.lt {w:World}{base:Nat}{v:Value}{l:List α}(h:OwnRw R w base v l){g:Nat}(hg:v.ownBlock=some g):base≤g∧g<w.heap.size:=World.ownsRow.lt h g hg
theorem KeepT.grownC {w w':World}{base:Nat}{v:Value}{l:List α}(ho:OwnRw R w base v l)(hg:w.grownBy w' v.ownBlock):KeepT [R.E] w w' :=
 ⟨hg.size,fun k o hk hno=>by
  refine(hg.block k (Array.getElem?_eq_some_iff.1 hk).1 (fun eb=>?_)).trans hk
  rcases ho.2 with⟨rfl,_⟩|⟨g,cap,cur,rfl,_,hgb,_⟩
  ·simp[Value.ownBlock] at eb
  ·have hkg:k=g:=by simpa [Value.ownBlock] using eb
   subst hkg
   have:o=.cells cur R.E (0,0):=Option.some.inj (hk.symm.trans hgb)
   exact hno _ _ _ this (List.mem_singleton.2 rfl)⟩
structure SrcC (R:RT α)(w:World)(sa:Option Addr)(m c:Nat)(l:List α):Prop where
 len:l.length=m
 nil:sa=none→m=0∧c=0
 cells:∀ad,sa=some ad→∀j u,(cellsC R l)[j]?=some u→w.cell? (ad.add j)=some u
def cutC (R:RT α)(a:Option Addr)(cap k:Nat):Option Addr:=if cap=k then a else a.map (·.add (k * R.k))
theorem Blk.srcC {w:World}{B:Nat}{x:α}(h:Blk w B R.E (R.c x)):SrcC R w (some ⟨B,0,none⟩) 1 1 [x] :=
 ⟨rfl,(fun e=>by cases e),fun ad e j u hu=>by
  obtain rfl:=Option.some.inj e
  rw[cellsC,cellsC,List.append_nil] at hu
  rw[Addr.add_lit,h.cell,Nat.zero_add]
  exact hu⟩
theorem bytes_max {n b:Nat}(hb:0<b)(h:n * b≤140737488355328):n≤maxLen:=by
 have:n * 1≤n * b:=Nat.mul_le_mul_left _ hb
 unfold maxLen;omega
theorem list_appC (ok:RtOK R){ops:Array Oper}{rest:List Oper}{o:Oper}{a:Act}{Q:Exit→Act→World→Prop}(w:World)(hgd:o.guard=none)(s x:Operand)
  (ho:o.op=.call { callee:=.builtin .append,args:=#[s,x],argTypes:=#[R.S,R.S] }) (base:Nat)
  (v:Value) (l:List α) (hs:a.eval s=v) (hown:OwnRw R w base v l) (sa:Option Addr) (m c:Nat) (news:List α) (hx:a.eval x=.slice sa m c) (hsrc:SrcC R w sa m c news)
  (hbytes:(l.length+m) * R.by_≤140737488355328) (hbase:base≤w.heap.size)
  (h:∀v' w',OwnRw R w' base v' (l++news)→w.grownBy w' v.ownBlock→wpList Tryz.prog ops Q rest (a.put o.dst v') w'):
  wpList Tryz.prog ops Q (o::rest) a w:=by
 obtain⟨i0,hi,hz0,hz1,hz2⟩:=info_parts ok.hi
 cases sa with
 | none =>
  obtain⟨hm,hc⟩:=hsrc.nil rfl
  have hn:news=[]:=List.eq_nil_of_length_eq_zero (by rw[hsrc.len,hm])
  subst hn hm hc
  refine wpList_append_own_none hgd s x R.S ho base R.E i0 R.k ok.hu hi v l.length (cellsC R l) hs hown hx ?_
  exact h v w (by rw[List.append_nil];exact hown) (World.grownBy.refl _ _)
 | some ad =>
  refine wpList_append_own w hgd s x R.S ho base R.E i0 R.z R.k R.by_ ok.hu hi hz0 hz1 hz2 (by have:=ok.hz;simpa using this) ok.k1 v l.length (cellsC R l) hs hown ad m c (cellsC R news) hx (by rw[cellsC_length ok,hsrc.len]) (hsrc.cells ad rfl) (cellsC_one ok news) (bytes_max ok.b1 hbytes) hbytes hbase ?_
  intro v' w' h1 h2 _
  exact h v' w' (by unfold OwnRw;rw[cellsC_append,List.length_append,hsrc.len];exact h1) h2
theorem slHC (ok:RtOK R)(a:Option Addr)(n cap k:Nat)(hk:k≤cap)(w:World):(Instr.slice R.S (.slice a n cap) none (some (.int .i64 (k:Int))) none).run Tryz.prog w=.ok (.slice a k cap) w:=by
 have he:Tryz.prog.elem R.S=R.E:=by simp[Program.elem,ok.hu]
 have hz:(sizeOf R.E).run Tryz.prog w=.ok R.k w:=by
  obtain⟨i0,hi,hz0,hz1,hz2⟩:=info_parts ok.hi
  simp[sizeOf,typeInfo,hi,hz1]
 rw[run_slice_h w R.S _ n cap (by rw[he];exact ok.hu) .i64 (k:Int) (by omega) (by omega),he,hz]
 simp only[Result.andThen,sliced,Int.toNat_natCast,Nat.zero_mul,Nat.sub_zero]
 cases a with
 | none=>split<;>rfl
 | some ad =>
  have h0:ad.add 0=ad:=by obtain⟨b,o,sp⟩:=ad;cases sp<;>simp[Addr.add]
  split<;>simp[h0]
theorem slLC (ok:RtOK R)(a:Option Addr)(n cap k:Nat)(hk:k≤n)(w:World):(Instr.slice R.S (.slice a n cap) (some (.int .i64 (k:Int))) none none).run Tryz.prog w=.ok (.slice (cutC R a cap k) (n-k) (cap-k)) w:=by
 have he:Tryz.prog.elem R.S=R.E:=by simp[Program.elem,ok.hu]
 have hz:(sizeOf R.E).run Tryz.prog w=.ok R.k w:=by
  obtain⟨i0,hi,hz0,hz1,hz2⟩:=info_parts ok.hi
  simp[sizeOf,typeInfo,hi,hz1]
 rw[run_slice_l w R.S _ n cap (by rw[he];exact ok.hu) .i64 (k:Int) (by omega) (by omega),he,hz]
 simp only[Result.andThen,sliced,Int.toNat_natCast,cutC]
end
end Go.Proofs.YtpecobmfabmpkaaGreatDoor
